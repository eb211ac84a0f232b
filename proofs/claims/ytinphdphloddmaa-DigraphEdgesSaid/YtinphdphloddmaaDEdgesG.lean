/-
  THE EDGE MORE of the statement DigraphEdges: what holds in the region that makes it, after whatever of its operations: the steps that touch the world.
-/
import Derived.Test.YtinphdphloddmaaDEdgesE
import Derived.Test.YtinphdphloddmaaDPath
namespace Go.Proofs.Ytinphdphloddmaa
open Go.RowKit
open DiP
set_option linter.unusedVariables false

def Xat (w : World) (B x I J : Nat) : Prop := B ≤ x ∧ x < w.heap.size ∧ w.cell? ⟨x, 0, none⟩ = some (.int .i64 (I : Int)) ∧ w.cell? ⟨x, 1, none⟩ = some (.int .i64 (J : Int))
def Yat (w : World) (B y : Nat) : Prop := B ≤ y ∧ y < w.heap.size ∧ w.there y 0 2
section
variable {w w' : World} {B x I J : Nat} {row : Option Nat}
theorem Xat.grown (h : Xat w B x I J) (hg : w.grownBy w' row) (hne : some x ≠ row) : Xat w' B x I J := by
  obtain ⟨h1, h2, h3, h4⟩ := h
  have hb := hg.block x h2 hne
  exact ⟨h1, Nat.lt_of_lt_of_le h2 hg.size, (World.cell?_of_block (a := ⟨x, 0, none⟩) hb).trans h3, (World.cell?_of_block (a := ⟨x, 1, none⟩) hb).trans h4⟩
theorem Yat.grown (h : Yat w B x) (hg : w.grownBy w' row) (hne : some x ≠ row) : Yat w' B x := by
  obtain ⟨h1, h2, h3⟩ := h
  have hb := hg.block x h2 hne
  refine ⟨h1, Nat.lt_of_lt_of_le h2 hg.size, fun j hj => ?_⟩
  rw [World.cell?_of_block (a := ⟨x, 0 + j, none⟩) hb, World.frozen?_of_block (a := ⟨x, 0 + j, none⟩) hb]
  exact h3 j hj
theorem grown_alloc (w : World) (o : Obj) (row : Option Nat) : w.grownBy (w.alloc o) row := ⟨rfl, rfl, rfl, by simp, fun k hk _ => by first | exact heap_alloc_old w o hk | exact Go.heap_alloc_old w o k hk⟩
theorem OwnP.home {base : Nat} {v : Value} {l : List (Nat × Nat)} (h : OwnP w base v l) : ∀ z, v.ownBlock = some z → z < w.heap.size := by
  intro z hz
  rcases h.2 with ⟨rfl, _⟩ | ⟨g, cap, cur, rfl, _, hg, _⟩
  · cases hz
  · simp [Value.ownBlock] at hz
    subst hz
    rcases Nat.lt_or_ge g w.heap.size with h | h
    · exact h
    · rw [Array.getElem?_eq_none h] at hg; cases hg
theorem ownP_empty (w : World) {B : Nat} (hB : B ≤ w.heap.size) : OwnP (w.alloc (.cells #[] 52)) B (.slice (some ⟨w.heap.size, 0, none⟩) 0 0) [] :=
  ⟨rfl, .inr ⟨w.heap.size, 0, #[], rfl, hB, heap_alloc_new w _, Nat.le_refl _, Nat.zero_le _, rfl, rfl⟩⟩
end
/-- What holds after whatever of the operations. -/
structure EdI (w0 : World) (bx B n I J m c : Nat) (A : Option Addr) (g : List (Nat × Nat)) (b0 b1 b2 b3 b4 b5 b6 b7 b8 b9 b10 b11 b12 b13 : Bool) (v85 v86 v87 v88 v89 v90 v91 v92 v93 v94 v95 v96 v13 vl : Value) (w' : World) : Prop where
  bel : Below B w0 w'
  le : B ≤ w'.heap.size
  h0 : b0 = true → v85 = .pointer (some ⟨bx, 0, none⟩)
  h1 : b1 = true → v86 = .int .i64 (n : Int)
  h3 : b3 = true → v88 = .pointer (some ⟨bx, 1, none⟩)
  h4 : b4 = true → v89 = .slice A m c
  h6 : b6 = true → v91 = .int .i64 (I : Int)
  h7 : b7 = true → v92 = .int .i64 (J : Int)
  h8 : b8 = true → v93 = .agg #[.int .i64 (I : Int), .int .i64 (J : Int)]
  h11 : b11 = true → v96 = .agg #[.int .i64 (n : Int), vl]
  e2 : b2 = true → b5 = false → v87 = vl
  e5 : b5 = true → b10 = false → v90 = vl
  e10 : b10 = true → v95 = vl
  d5 : b5 = true → b2 = true
  d10 : b10 = true → b5 = true
  d11 : b11 = true → b10 = true
  d13 : b13 = true → b2 = true ∧ b5 = true ∧ b9 = true ∧ b10 = true ∧ b12 = true
  own : b2 = true → OwnP w' B vl (if b10 then edgeG g I J else if b5 then g else [])
  hx : b9 = true → b10 = false → ∃ x, v94 = .slice (some ⟨x, 0, none⟩) 1 1 ∧ Xat w' B x I J ∧ (b2 = true → some x ≠ vl.ownBlock)
  hy : b12 = true → ∃ y, v13 = .pointer (some ⟨y, 0, none⟩) ∧ Yat w' B y ∧ (b2 = true → some y ≠ vl.ownBlock)
  hz : b13 = true → ∃ y, v13 = .pointer (some ⟨y, 0, none⟩) ∧ B ≤ y ∧ y < w'.heap.size ∧ w'.cell? ⟨y, 0, none⟩ = some (.int .i64 (n : Int)) ∧ w'.cell? ⟨y, 1, none⟩ = some vl
section
variable {w0 w' w2 : World} {bx B n I J m c : Nat} {A : Option Addr} {g : List (Nat × Nat)} {b0 b1 b2 b3 b4 b5 b6 b7 b8 b9 b10 b11 b12 b13 : Bool} {v85 v86 v87 v88 v89 v90 v91 v92 v93 v94 v95 v96 v13 vl : Value}
theorem bel_grown {row : Option Nat} (h : Below B w0 w') (hle : B ≤ w'.heap.size) (hg : w'.grownBy w2 row) (hr : ∀ z, row = some z → B ≤ z) : Below B w0 w2 := h.grown hg hle hr
theorem EdI.alloc2 (h : EdI w0 bx B n I J m c A g b0 b1 false b3 b4 b5 b6 b7 b8 b9 b10 b11 b12 b13 v85 v86 v87 v88 v89 v90 v91 v92 v93 v94 v95 v96 v13 vl w') :
    EdI w0 bx B n I J m c A g b0 b1 true b3 b4 b5 b6 b7 b8 b9 b10 b11 b12 b13 v85 v86 (.slice (some ⟨w'.heap.size, 0, none⟩) 0 0) v88 v89 v90 v91 v92 v93 v94 v95 v96 v13 (.slice (some ⟨w'.heap.size, 0, none⟩) 0 0) (w'.alloc (.cells #[] 52)) := by
  have h5 : b5 = false := by cases hb : b5 with | false => rfl | true => cases h.d5 hb
  have h10 : b10 = false := by cases hb : b10 with | false => rfl | true => have := h.d10 hb; rw [h5] at this; cases this
  have h13 : b13 = false := by cases hb : b13 with | false => rfl | true => cases (h.d13 hb).1
  have h11 : b11 = false := by cases hb : b11 with | false => rfl | true => have := h.d11 hb; rw [h10] at this; cases this
  subst h5 h10 h13 h11
  have hg := grown_alloc w' (.cells #[] 52) none
  exact ⟨h.bel.alloc h.le _, by have := h.le; simp; omega, h.h0, h.h1, h.h3, h.h4, h.h6, h.h7, h.h8, nofun, fun _ _ => rfl, nofun, nofun, nofun, nofun, nofun, nofun, fun _ => ownP_empty w' h.le,
    fun hb hb' => by
      obtain ⟨x, e, hx, _⟩ := h.hx hb hb'
      exact ⟨x, e, hx.grown hg nofun, fun _ e => by simp [Value.ownBlock] at e; have := hx.2.1; omega⟩,
    fun hb => by
      obtain ⟨y, e, hy, _⟩ := h.hy hb
      exact ⟨y, e, hy.grown hg nofun, fun _ e => by simp [Value.ownBlock] at e; have := hy.2.1; omega⟩, nofun⟩
theorem EdI.alloc9 (h : EdI w0 bx B n I J m c A g b0 b1 b2 b3 b4 b5 b6 b7 b8 false b10 b11 b12 b13 v85 v86 v87 v88 v89 v90 v91 v92 v93 v94 v95 v96 v13 vl w') :
    EdI w0 bx B n I J m c A g b0 b1 b2 b3 b4 b5 b6 b7 b8 true b10 b11 b12 b13 v85 v86 v87 v88 v89 v90 v91 v92 v93 (.slice (some ⟨w'.heap.size, 0, none⟩) 1 1) v95 v96 v13 vl (w'.alloc (.cells #[.int .i64 (I : Int), .int .i64 (J : Int)] 52)) := by
  have h13 : b13 = false := by cases hb : b13 with | false => rfl | true => cases (h.d13 hb).2.2.1
  subst h13
  have hg := grown_alloc w' (.cells #[.int .i64 (I : Int), .int .i64 (J : Int)] 52) none
  exact ⟨h.bel.alloc h.le _, by have := h.le; simp; omega, h.h0, h.h1, h.h3, h.h4, h.h6, h.h7, h.h8, h.h11, h.e2, h.e5, h.e10, h.d5, h.d10, h.d11, nofun, fun hb => (h.own hb).alloc _,
    fun _ _ => ⟨w'.heap.size, rfl, ⟨h.le, by simp, by simp, by simp⟩, fun hb e => by have := (h.own hb).home _ e.symm; omega⟩,
    fun hb => by
      obtain ⟨y, e, hy, hne⟩ := h.hy hb
      exact ⟨y, e, hy.grown hg nofun, hne⟩, nofun⟩
theorem EdI.alloc12 (h : EdI w0 bx B n I J m c A g b0 b1 b2 b3 b4 b5 b6 b7 b8 b9 b10 b11 false b13 v85 v86 v87 v88 v89 v90 v91 v92 v93 v94 v95 v96 v13 vl w') :
    EdI w0 bx B n I J m c A g b0 b1 b2 b3 b4 b5 b6 b7 b8 b9 b10 b11 true b13 v85 v86 v87 v88 v89 v90 v91 v92 v93 v94 v95 v96 (.pointer (some ⟨w'.heap.size, 0, none⟩)) vl (w'.alloc (.cells #[.int .i64 0, .slice none 0 0] 24)) := by
  have h13 : b13 = false := by cases hb : b13 with | false => rfl | true => cases (h.d13 hb).2.2.2.2
  subst h13
  have hg := grown_alloc w' (.cells #[.int .i64 0, .slice none 0 0] 24) none
  exact ⟨h.bel.alloc h.le _, by have := h.le; simp; omega, h.h0, h.h1, h.h3, h.h4, h.h6, h.h7, h.h8, h.h11, h.e2, h.e5, h.e10, h.d5, h.d10, h.d11, nofun, fun hb => (h.own hb).alloc _,
    fun hb hb' => by
      obtain ⟨x, e, hx, hne⟩ := h.hx hb hb'
      exact ⟨x, e, hx.grown hg nofun, hne⟩,
    fun _ => ⟨w'.heap.size, rfl, ⟨h.le, by simp, fun j hj => by
      match j, hj with
      | 0, _ => simp
      | 1, _ => simp⟩, fun hb e => by have := (h.own hb).home _ e.symm; omega⟩, nofun⟩
theorem ne_grown {v v' : Value} {x : Nat} {w' : World} (hlt : x < w'.heap.size) (hne : some x ≠ v.ownBlock) (ho : v'.ownBlock = v.ownBlock ∨ v'.ownBlock = some w'.heap.size) : some x ≠ v'.ownBlock := by
  rcases ho with ho | ho
  · rw [ho]; exact hne
  · rw [ho]; intro e; injection e; omega
theorem EdI.app5 {v' : Value} (h : EdI w0 bx B n I J m c A g b0 b1 true b3 b4 false b6 b7 b8 b9 b10 b11 b12 b13 v85 v86 v87 v88 v89 v90 v91 v92 v93 v94 v95 v96 v13 vl w')
    (hown : OwnP w2 B v' ([] ++ g)) (hg : w'.grownBy w2 vl.ownBlock) (ho : v'.ownBlock = vl.ownBlock ∨ v'.ownBlock = some w'.heap.size) :
    EdI w0 bx B n I J m c A g b0 b1 true b3 b4 true b6 b7 b8 b9 b10 b11 b12 b13 v85 v86 v87 v88 v89 v' v91 v92 v93 v94 v95 v96 v13 v' w2 := by
  have h10 : b10 = false := by cases hb : b10 with | false => rfl | true => cases h.d10 hb
  have h13 : b13 = false := by cases hb : b13 with | false => rfl | true => cases (h.d13 hb).2.1
  have h11 : b11 = false := by cases hb : b11 with | false => rfl | true => have := h.d11 hb; rw [h10] at this; cases this
  subst h10 h13 h11
  exact ⟨bel_grown h.bel h.le hg (fun z hz => (h.own rfl).ge z hz), Nat.le_trans h.le hg.size, h.h0, h.h1, h.h3, h.h4, h.h6, h.h7, h.h8, nofun, nofun, fun _ _ => rfl, nofun, fun _ => rfl, nofun, nofun, nofun, fun _ => hown,
    fun hb hb' => by
      obtain ⟨x, e, hx, hne⟩ := h.hx hb hb'
      exact ⟨x, e, hx.grown hg (hne rfl), fun _ => ne_grown hx.2.1 (hne rfl) ho⟩,
    fun hb => by
      obtain ⟨y, e, hy, hne⟩ := h.hy hb
      exact ⟨y, e, hy.grown hg (hne rfl), fun _ => ne_grown hy.2.1 (hne rfl) ho⟩, nofun⟩
theorem EdI.app10 {v' : Value} (h : EdI w0 bx B n I J m c A g b0 b1 b2 b3 b4 true b6 b7 b8 b9 false b11 b12 b13 v85 v86 v87 v88 v89 v90 v91 v92 v93 v94 v95 v96 v13 vl w')
    (hown : OwnP w2 B v' (edgeG g I J)) (hg : w'.grownBy w2 vl.ownBlock) (ho : v'.ownBlock = vl.ownBlock ∨ v'.ownBlock = some w'.heap.size) :
    EdI w0 bx B n I J m c A g b0 b1 b2 b3 b4 true b6 b7 b8 b9 true b11 b12 b13 v85 v86 v87 v88 v89 v90 v91 v92 v93 v94 v' v96 v13 v' w2 := by
  have h13 : b13 = false := by cases hb : b13 with | false => rfl | true => cases (h.d13 hb).2.2.2.1
  have h11 : b11 = false := by cases hb : b11 with | false => rfl | true => cases h.d11 hb
  have h2 : b2 = true := h.d5 rfl
  subst h2 h13 h11
  exact ⟨bel_grown h.bel h.le hg (fun z hz => (h.own rfl).ge z hz), Nat.le_trans h.le hg.size, h.h0, h.h1, h.h3, h.h4, h.h6, h.h7, h.h8, nofun, nofun, nofun, fun _ => rfl, fun _ => rfl, fun _ => rfl, nofun, nofun, fun _ => hown, nofun,
    fun hb => by
      obtain ⟨y, e, hy, hne⟩ := h.hy hb
      exact ⟨y, e, hy.grown hg (hne rfl), fun _ => ne_grown hy.2.1 (hne rfl) ho⟩, nofun⟩
theorem EdI.store13 {y : Nat} (h : EdI w0 bx B n I J m c A g true true true true true true true true true true true true true false v85 v86 v87 v88 v89 v90 v91 v92 v93 v94 v95 v96 (.pointer (some ⟨y, 0, none⟩)) vl w') :
    EdI w0 bx B n I J m c A g true true true true true true true true true true true true true true v85 v86 v87 v88 v89 v90 v91 v92 v93 v94 v95 v96 (.pointer (some ⟨y, 0, none⟩)) vl (w'.setCells y 0 [.int .i64 (n : Int), vl]) := by
  obtain ⟨y', e, ⟨hB, hlt, ht⟩, hne⟩ := h.hy rfl
  obtain rfl : y = y' := by injection e with e; injection e with e; injection e
  obtain ⟨u0, hu0⟩ := Option.isSome_iff_exists.1 (ht 0 (by omega)).1
  obtain ⟨u1, hu1⟩ := Option.isSome_iff_exists.1 (ht 1 (by omega)).1
  have hg : w'.grownBy (w'.setCells y 0 [.int .i64 (n : Int), vl]) (some y) := by
    show w'.grownBy ((w'.setCell ⟨y, 0, none⟩ (.int .i64 (n : Int))).setCell ⟨y, 1, none⟩ vl) (some y)
    exact (grown_setCell w' y 0 _).trans (grown_setCell _ y 1 _)
  have c0 : (w'.setCells y 0 [.int .i64 (n : Int), vl]).cell? ⟨y, 0, none⟩ = some (.int .i64 (n : Int)) := by
    show ((w'.setCell ⟨y, 0, none⟩ (.int .i64 (n : Int))).setCell ⟨y, 1, none⟩ vl).cell? ⟨y, 0, none⟩ = _
    rw [World.cell?_setCell_other _ _ _ _ (fun e => by injection e; omega)]
    exact World.cell?_setCell_same _ _ _ hu0
  have c1 : (w'.setCells y 0 [.int .i64 (n : Int), vl]).cell? ⟨y, 1, none⟩ = some vl := by
    show ((w'.setCell ⟨y, 0, none⟩ (.int .i64 (n : Int))).setCell ⟨y, 1, none⟩ vl).cell? ⟨y, 1, none⟩ = _
    refine World.cell?_setCell_same _ _ _ (u := u1) ?_
    rw [World.cell?_setCell_other _ _ _ _ (fun e => by injection e; omega)]
    exact hu1
  have hle := hg.size
  exact ⟨bel_grown h.bel h.le hg (fun z hz => by injection hz with hz; omega), Nat.le_trans h.le hle, h.h0, h.h1, h.h3, h.h4, h.h6, h.h7, h.h8, h.h11, nofun, nofun, h.e10, h.d5, h.d10, h.d11, fun _ => ⟨rfl, rfl, rfl, rfl, rfl⟩,
    fun _ => World.ownsRow.kept (h.own rfl) hg (by
      cases hb : vl.ownBlock with
      | none => exact .inl rfl
      | some z => right; intro e; injection e with e; subst e; exact hne rfl hb.symm),
    nofun,
    fun _ => ⟨y, rfl, ⟨hB, Nat.lt_of_lt_of_le hlt hle, fun j hj => by
      match j, hj with
      | 0, _ => exact ⟨by rw [show (0 + 0 : Nat) = 0 from rfl, c0]; rfl, by
          show (((w'.setCell ⟨y, 0, none⟩ (.int .i64 (n : Int))).setCell ⟨y, 1, none⟩ vl)).frozen? ⟨y, 0, none⟩ = false
          rw [World.frozen?_setCell, World.frozen?_setCell]; exact (ht 0 (by omega)).2⟩
      | 1, _ => exact ⟨by rw [show (0 + 1 : Nat) = 1 from rfl, c1]; rfl, by
          show (((w'.setCell ⟨y, 0, none⟩ (.int .i64 (n : Int))).setCell ⟨y, 1, none⟩ vl)).frozen? ⟨y, 1, none⟩ = false
          rw [World.frozen?_setCell, World.frozen?_setCell]; exact (ht 1 (by omega)).2⟩⟩, hne⟩,
    fun _ => ⟨y, rfl, hB, Nat.lt_of_lt_of_le hlt hle, c0, c1⟩⟩
end
end Go.Proofs.Ytinphdphloddmaa
