/-
  WHAT THE STATEMENT LatticeUp WANTS BESIDE DOWN's: the graph turned round, and what is behind a set.
-/
import Derived.Test.YtfcabdgidlnljaaDoorLUp
namespace Go.Proofs.YtfcabdgidlnljaaDoor
open Go.RowKit
open DiP
set_option linter.unusedVariables false
set_option linter.unusedSimpArgs false
set_option maxRecDepth 100000
/-- The first k edges, turned round. -/
def tkG (g : List (Nat × Nat)) (k : Nat) : List (Nat × Nat) := (turnG g).take k
theorem turn_take (g : List (Nat × Nat)) {k : Nat} (h : k < g.length) : tkG g (k + 1) = tkG g k ++ [(fb g k, fa g k)] := by
  unfold tkG
  have hk : k < (turnG g).length := by rw [turn_len]; exact h
  rw [List.take_succ_eq_append_getElem hk]
  congr 2
  simp [turnG, fa, fb, List.getD, h]

/-- Where the loop that turns the edges stands. -/
structure TnAt (wr w : World) (B tb n m c : Nat) (A : Option Addr) (g : List (Nat × Nat)) (k : Nat) (v : Value) : Prop where
  own : OwnP wr (tb + 1) v (tkG g k)
  b0 : wr.cell? ⟨tb, 0, none⟩ = some (.int .i64 (n : Int))
  b1 : wr.cell? ⟨tb, 1, none⟩ = some v
  fz : wr.frozen? ⟨tb, 1, none⟩ = false
  o0 : wr.cell? ⟨w.heap.size, 0, none⟩ = some (.int .i64 (n : Int))
  o1 : wr.cell? ⟨w.heap.size, 1, none⟩ = some (.slice A m c)
  rd : RdG wr B A m g
  bel : Below w.heap.size w wr
  lw : w.heap.size < tb
  lB : B ≤ w.heap.size
  lt : tb < wr.heap.size
theorem grown_setCell (w : World) (b i : Nat) (v : Value) : w.grownBy (w.setCell ⟨b, i, none⟩ v) (some b) :=
  ⟨rfl, rfl, rfl, by simp, fun k hk hne => Below.heap_setCell w _ _ k (fun e => hne (by rw [e]))⟩
theorem TnAt.step {wr w w1 : World} {B tb n m c k : Nat} {A : Option Addr} {g : List (Nat × Nat)} {v v' : Value} {o1 o2 : Obj} (h : TnAt wr w B tb n m c A g k v) (hk : k < g.length)
    (ho : OwnP w1 (tb + 1) v' (tkG g k ++ [(fb g k, fa g k)])) (hg : ((wr.alloc o1).alloc o2).grownBy w1 v.ownBlock) :
    (w1.cell? ⟨tb, 1, none⟩ = some v ∧ w1.frozen? ⟨tb, 1, none⟩ = false) ∧ TnAt (w1.setCell ⟨tb, 1, none⟩ v') w B tb n m c A g (k + 1) v' := by
  have hge := h.own.ge
  have hge' := ho.ge
  have hne : ∀ z, z ≤ tb → some z ≠ v.ownBlock := fun z hz e => by have := hge z e.symm; omega
  have hsz : ((wr.alloc o1).alloc o2).heap.size = wr.heap.size + 2 := by simp
  have hlt : ∀ z, z ≤ tb → z < ((wr.alloc o1).alloc o2).heap.size := fun z hz => by have := h.lt; omega
  have hcell : ∀ z i, z ≤ tb → w1.cell? ⟨z, i, none⟩ = wr.cell? ⟨z, i, none⟩ := fun z i hz => by
    have h1 := World.cell?_of_block (a := ⟨z, i, none⟩) (hg.block z (hlt z hz) (hne z hz))
    rw [h1, World.cell?_alloc_lt _ _ _ (by have := h.lt; simp; omega), World.cell?_alloc_lt _ _ _ (by have := h.lt; show z < _; omega)]
  have hfz : w1.frozen? ⟨tb, 1, none⟩ = false := by
    have h1 := World.frozen?_of_block (a := ⟨tb, 1, none⟩) (hg.block tb (hlt tb (Nat.le_refl _)) (hne tb (Nat.le_refl _)))
    rw [h1, World.frozen?_alloc_past _ _ _ (by have := h.lt; simp; omega), World.frozen?_alloc_past _ _ _ h.lt]; exact h.fz
  have hc1 : w1.cell? ⟨tb, 1, none⟩ = some v := (hcell tb 1 (Nat.le_refl _)).trans h.b1
  have hlw := h.lw
  refine ⟨⟨hc1, hfz⟩, ⟨?_, ?_, ?_, ?_, ?_, ?_, ?_, ?_, h.lw, h.lB, ?_⟩⟩
  · rw [turn_take g hk]
    exact World.ownsRow.kept ho (grown_setCell w1 tb 1 v') (by
      cases hb : v'.ownBlock with
      | none => exact .inl rfl
      | some z => right; intro e; injection e with e; have := hge' z hb; omega)
  · rw [World.cell?_setCell_other _ _ _ _ (fun e => by injection e; omega), hcell tb 0 (Nat.le_refl _)]; exact h.b0
  · exact World.cell?_setCell_same _ _ _ hc1
  · rw [World.frozen?_setCell]; exact hfz
  · rw [World.cell?_setCell_other _ _ _ _ (fun e => by injection e; omega), hcell _ 0 (by omega)]; exact h.o0
  · rw [World.cell?_setCell_other _ _ _ _ (fun e => by injection e; omega), hcell _ 1 (by omega)]; exact h.o1
  · refine RdE.keep h.rd (fun p hp => ?_)
    have hB := h.lB
    rw [World.cell?_setCell_other _ _ _ _ (fun e => by subst e; simp at hp; omega)]
    have h1 := World.cell?_of_block (a := p) (hg.block p.block (hlt _ (by omega)) (hne _ (by omega)))
    rw [h1, World.cell?_alloc_lt _ _ _ (by have := h.lt; simp; omega), World.cell?_alloc_lt _ _ _ (by have := h.lt; omega)]
  · refine Below.setCell ?_ (by simp; omega) _
    exact (((h.bel.alloc h.bel.size _).alloc (by have := h.bel.size; simp; omega) _).grown hg (by have := h.bel.size; omega) (fun x hx => by have := hge x hx; omega))
  · have := hg.size; have := h.lt; simp at *; omega


theorem way_turn {g : List (Nat × Nat)} {u v : Nat} (h : DiP.Way g u v) : DiP.Way (turnG g) v u := by
  induction h with
  | one e => exact .one ((E_turn _ _ _).2 e)
  | more _ e ih => exact (DiP.Way.one ((E_turn _ _ _).2 e)).trans ih
theorem turn_turn (g : List (Nat × Nat)) : turnG (turnG g) = g := by
  unfold turnG
  rw [List.map_map]
  exact List.map_id'' (fun _ => rfl) g
theorem way_turn_iff {g : List (Nat × Nat)} {u v : Nat} : DiP.Way (turnG g) u v ↔ DiP.Way g v u :=
  ⟨fun h => by have h2 := way_turn h; rw [turn_turn] at h2; exact h2, way_turn⟩
theorem upG_lt {n s : Nat} {g : List (Nat × Nat)} (hi : InN n g) (hn : n ≤ 64) (hs : s < lim) : upG n g s < lim :=
  upL_lt (fun v => rchK_small hi hn n v) _ hs
theorem bt_upG {n s u : Nat} {g : List (Nat × Nat)} (hi : InN n g) (hn : n ≤ 64) (hs : inS n s) : bt (upG n g s) u = true ↔ bt s u = true ∨ ∃ v, DiP.Way g v u ∧ bt s v = true := by
  unfold upG
  rw [bt_upL]
  refine or_congr_right ?_
  constructor
  · rintro ⟨v, h1, h2⟩
    obtain ⟨h3, h4⟩ := memL_mem.1 h1
    have hv : v < n := Nat.lt_of_not_le fun h => by have := hs.2 v h; rw [h4] at this; cases this
    exact ⟨v, (rch_way hi hv).1 h2, h4⟩
  · rintro ⟨v, h1, h2⟩
    have hv : v < n := (h1.lt hi).1
    exact ⟨v, memL_mem.2 ⟨by omega, h2⟩, (rch_way hi hv).2 h1⟩
theorem up_down {n s : Nat} {g : List (Nat × Nat)} (hi : InN n g) (hn : n ≤ 64) (hs : inS n s) : dwnG n (turnG g) s = upG n g s := by
  have hd := down_is (inN_turn hi) hn hs.1
  refine ext64 hd.1 (upG_lt hi hn hs.1) fun u _ => ?_
  rw [Bool.eq_iff_iff, hd.2 u, bt_upG hi hn hs]
  refine or_congr_right ?_
  constructor
  · rintro ⟨_, v, h1, h2⟩; exact ⟨v, way_turn_iff.1 h1, h2⟩
  · rintro ⟨v, h1, h2⟩; exact ⟨(h1.lt hi).2, v, way_turn_iff.2 h1, h2⟩
theorem one_inS {n v : Nat} (hn : n ≤ 64) (hv : v < n) : inS n (one v) := ⟨one_lt v (by omega), fun u hu => by rw [bt_one]; exact decide_eq_false (by omega)⟩
theorem one_fits {n v : Nat} (hv : v < n) : fitsB (one v) n = true := fits_of fun u hu => by rw [bt_one]; exact decide_eq_false (by omega)
theorem down_up_one {n i j : Nat} {g : List (Nat × Nat)} (hi : InN n g) (hn : n ≤ 64) (h1 : i < n) (h2 : j < n) : bt (dwnG n g (one i)) j = bt (upG n g (one j)) i := by
  rw [Bool.eq_iff_iff, (down_is hi hn (one_lt i (by omega))).2 j, bt_upG hi hn (one_inS hn h2), bt_one, bt_one]
  simp only [bt_one, decide_eq_true_eq]
  constructor
  · rintro (h | ⟨_, v, h3, rfl⟩)
    · exact .inl h.symm
    · exact .inr ⟨j, h3, rfl⟩
  · rintro (h | ⟨v, h3, rfl⟩)
    · exact .inl h.symm
    · exact .inr ⟨h2, i, h3, rfl⟩
end Go.Proofs.YtfcabdgidlnljaaDoor
