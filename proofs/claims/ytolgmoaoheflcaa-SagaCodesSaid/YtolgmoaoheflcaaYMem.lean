/-
  WORDS FOR MEMORY: a slice of bytes that is only read, and one that the call itself made.
-/
import Derived.Test.YtolgmoaoheflcaaChecked
import Derived.Test.YtolgmoaoheflcaaEPure
import Derived.WalkKit
import Derived.WalkSpells
import Derived.WalkSmall
import Derived.Below
import Derived.Laws.OwnMore
import Derived.Deep.AppendLies
import Derived.Deep.Draws
import Derived.Lib.Hide
import Derived.Maps.AppendAt
namespace Go.Proofs.Ytolgmoaoheflcaa
open Go.RowKit
open ByteP

/-- A slice value with n elements reads, in w, as the numbers xs; it lies below block B. -/
def RdY (w : World) (B : Nat) (A : Option Addr) (n : Nat) (xs : List Int) : Prop :=
  xs.length = n ∧ (0 < n → ∃ b off, A = some ⟨b, off, none⟩ ∧ b < B ∧ ∀ j, j < n → w.cell? ⟨b, off + j, none⟩ = some (.int .u8 (ix xs j)))

section
variable {w w' : World} {B B' n : Nat} {A : Option Addr} {xs : List Int}
theorem RdY.len (h : RdY w B A n xs) : xs.length = n := h.1
theorem RdY.at_ {k : Nat} (h : RdY w B A n xs) (hk : k < n) : ∃ b off, A = some ⟨b, off, none⟩ ∧ b < B ∧ w.cell? ⟨b, off + k, none⟩ = some (.int .u8 (ix xs k)) := by
  obtain ⟨b, off, e, hb, hc⟩ := h.2 (by omega)
  exact ⟨b, off, e, hb, hc k hk⟩
theorem RdY.keep (h : RdY w B A n xs) (hk : ∀ p : Addr, p.block < B → w'.cell? p = w.cell? p) : RdY w' B A n xs :=
  ⟨h.1, fun hn => by
    obtain ⟨b, off, e, hb, hc⟩ := h.2 hn
    exact ⟨b, off, e, hb, fun j hj => (hk _ hb).trans (hc j hj)⟩⟩
theorem RdY.more (h : RdY w B A n xs) (hB : B ≤ B') : RdY w B' A n xs :=
  ⟨h.1, fun hn => by
    obtain ⟨b, off, e, hb, hc⟩ := h.2 hn
    exact ⟨b, off, e, by omega, hc⟩⟩
theorem RdY.below (h : RdY w B A n xs) (hb : Below B w w') : RdY w' B A n xs := h.keep fun _ hp => hb.cell hp
theorem RdY.drew (h : RdY w B A n xs) : RdY w.drew B A n xs := h
theorem RdY.drewN (h : RdY w B A n xs) (k : Nat) : RdY (w.drewN k) B A n xs := h
theorem RdY.alloc (h : RdY w B A n xs) (hB : B ≤ w.heap.size) (o : Obj) : RdY (w.alloc o) B A n xs := h.keep fun p hp => World.cell?_alloc_lt w o p (by omega)
theorem RdY.setCell (h : RdY w B A n xs) {p : Addr} (hB : B ≤ p.block) (u : Value) : RdY (w.setCell p u) B A n xs :=
  h.keep fun q hq => World.cell?_setCell_other w p q u (fun e => by subst e; omega)
theorem RdY.grown (h : RdY w B A n xs) {row : Option Nat} (hg : w.grownBy w' row) (hB : B ≤ w.heap.size) (hr : ∀ g, row = some g → B ≤ g) : RdY w' B A n xs :=
  h.keep fun p hp => World.cell?_of_block (hg.block p.block (by omega) (fun e => by have := hr _ e.symm; omega))
theorem RdY.nil_ : RdY w B A 0 [] := ⟨rfl, fun h => absurd h (by omega)⟩
theorem ixY_map (xs : List Int) (j : Nat) (h : j < xs.length) : (xs.map (Value.int .u8))[j]? = some (.int .u8 (ix xs j)) := by
  simp [ix, List.getD, h]
theorem RdY.of_own {base e c : Nat} (h : w.ownsRow base e 1 (.slice A n c) n (xs.map (Value.int .u8))) : RdY w w.heap.size A n xs := by
  have hl : xs.length = n := by simpa using h.1
  refine ⟨hl, fun hn => ?_⟩
  obtain ⟨g, cap, hv, _, hlt⟩ := h.form hn
  have hA : A = some ⟨g, 0, none⟩ := by injection hv
  subst hA
  refine ⟨g, 0, rfl, hlt, fun j hj => ?_⟩
  have h1 := h.cells (g := g) rfl j _ (ixY_map xs j (by omega))
  have h2 : (Addr.add ⟨g, 0, none⟩ j) = ⟨g, 0 + j, none⟩ := by
    unfold Addr.add
    by_cases h0 : j = 0 <;> simp [h0]
  rw [← h2]; exact h1
end

/-! ### A slice that the call itself made -/
theorem infoByte : (Try.prog.info? 5).map (fun i => (i.zero, i.size, i.bytes)) = some (some (.int .u8 0), 1, 1) := by kernel_rfl

/-- The slice value v, of n elements, made by the call itself (its block is numbered from base on), reads as xs. -/
def OwnY (w : World) (base : Nat) (v : Value) (n : Nat) (xs : List Int) : Prop := w.ownsRow base 5 1 v n (xs.map (Value.int .u8))

section
variable {w w' : World} {base n c g : Nat} {v : Value} {xs : List Int}
theorem OwnY.len (h : OwnY w base v n xs) : xs.length = n := by simpa using h.1
theorem OwnY.nil_ (w : World) (base : Nat) : OwnY w base (.slice none 0 0) 0 [] := World.ownsRow_nil _ _ _ _
theorem OwnY.shape (h : OwnY w base v n xs) : ∃ A c, v = .slice A n c ∧ RdY w w.heap.size A n xs := by
  have h0 := h
  rcases h.2 with ⟨rfl, rfl⟩ | ⟨g, cap, cur, rfl, _⟩
  · have hl := h0.len
    obtain rfl : xs = [] := List.eq_nil_of_length_eq_zero hl
    exact ⟨none, 0, rfl, RdY.nil_⟩
  · exact ⟨some ⟨g, 0, none⟩, cap, rfl, RdY.of_own h0⟩
theorem OwnY.form (h : OwnY w base v n xs) (hn : 0 < n) : ∃ g c, v = .slice (some ⟨g, 0, none⟩) n c ∧ base ≤ g ∧ g < w.heap.size := by
  obtain ⟨g, cap, hv, hb, hlt⟩ := World.ownsRow.form h hn
  exact ⟨g, cap, hv, hb, hlt⟩
theorem OwnY.cell (h : OwnY w base (.slice (some ⟨g, 0, none⟩) n c) n xs) {j : Nat} (hj : j < n) : w.cell? ⟨g, j, none⟩ = some (.int .u8 (ix xs j)) := by
  rw [h.cellAt j (by omega), ixY_map xs j (by rw [h.len]; exact hj)]
theorem OwnY.free (h : OwnY w base (.slice (some ⟨g, 0, none⟩) n c) n xs) (j : Nat) : w.frozen? ⟨g, j, none⟩ = false := h.frozenAt j
theorem OwnY.alloc (h : OwnY w base v n xs) (o : Obj) : OwnY (w.alloc o) base v n xs := World.ownsRow.alloc h o
theorem OwnY.drew (h : OwnY w base v n xs) : OwnY w.drew base v n xs := h
theorem OwnY.drewN (h : OwnY w base v n xs) (k : Nat) : OwnY (w.drewN k) base v n xs := h
theorem OwnY.less {base' : Nat} (h : OwnY w base v n xs) (hb : base' ≤ base) : OwnY w base' v n xs := by
  refine ⟨h.1, ?_⟩
  rcases h.2 with h | ⟨g, cap, cur, hv, hg, r⟩
  · exact .inl h
  · exact .inr ⟨g, cap, cur, hv, by omega, r⟩
theorem OwnY.store (h : OwnY w base (.slice (some ⟨g, 0, none⟩) n c) n xs) (j : Nat) (u : Int) : OwnY (w.setCell ⟨g, j, none⟩ (.int .u8 u)) base (.slice (some ⟨g, 0, none⟩) n c) n (xs.set j u) := by
  have := (h.stored j (.int .u8 u)).1
  unfold OwnY; rw [List.map_set]; exact this
theorem OwnY.below {B : Nat} (h : OwnY w base v n xs) (hb : Below B w w') (hg : ∀ g, v.ownBlock = some g → g < B) : OwnY w' base v n xs := by
  refine ⟨h.1, ?_⟩
  rcases h.2 with h | ⟨g, cap, cur, hv, hbg, hh, r⟩
  · exact .inl h
  · refine .inr ⟨g, cap, cur, hv, hbg, ?_, r⟩
    rw [hb.block g (hg g (by rw [hv]; rfl))]
    exact hh
theorem OwnY.kept (h : OwnY w base v n xs) (hb : Below w.heap.size w w') : OwnY w' base v n xs := by
  refine h.below hb fun g hg => ?_
  rcases h.2 with ⟨rfl, _⟩ | ⟨g', cap, cur, rfl, _, hh, _⟩
  · cases hg
  · have : g' = g := by simpa [Value.ownBlock] using hg
    subst this
    rcases Nat.lt_or_ge g' w.heap.size with hlt | hge
    · exact hlt
    · rw [Array.getElem?_eq_none hge] at hh; cases hh
theorem OwnY.other {row : Option Nat} (h : OwnY w base v n xs) (hg : w.grownBy w' row) (hr : ∀ g, v.ownBlock = some g → row ≠ some g) : OwnY w' base v n xs := by
  refine ⟨h.1, ?_⟩
  rcases h.2 with h | ⟨g, cap, cur, hv, hbg, hh, r⟩
  · exact .inl h
  · refine .inr ⟨g, cap, cur, hv, hbg, ?_, r⟩
    have hlt : g < w.heap.size := by
      rcases Nat.lt_or_ge g w.heap.size with hlt | hge
      · exact hlt
      · rw [Array.getElem?_eq_none hge] at hh; cases hh
    rw [hg.block g hlt (fun e => hr g (by rw [hv]; rfl) e.symm)]
    exact hh
theorem OwnY.lit (w : World) (base : Nat) (xs : List Int) (hb : base ≤ w.heap.size) (hl : xs.length ≤ 1099511627776) :
    OwnY (w.alloc (.cells (xs.map (Value.int .u8)).toArray 5)) base (.slice (some ⟨w.heap.size, 0, none⟩) xs.length xs.length) xs.length xs := by
  have := World.ownsRow_lit (base := base) (e := 5) (size := 1) w (xs.map (Value.int .u8)).toArray xs.length hb (by unfold maxLen; omega) (by simp)
  simpa [OwnY] using this
theorem OwnY.ge (h : OwnY w base v n xs) : ∀ g, v.ownBlock = some g → base ≤ g := by
  intro g hg
  rcases h.2 with ⟨rfl, _⟩ | ⟨g', cap, cur, rfl, hb, _⟩
  · cases hg
  · have : g' = g := by simpa [Value.ownBlock] using hg
    omega
theorem ix_set (xs : List Int) (j k : Nat) (u : Int) (hj : j < xs.length) : ix (xs.set j u) k = if j = k then u else ix xs k := by
  unfold ix
  by_cases h : j = k
  · subst h; simp [List.getD, hj]
  · simp [List.getD, h]
theorem ix_append_lt {xs ys : List Int} {k : Nat} (h : k < xs.length) : ix (xs ++ ys) k = ix xs k := by
  unfold ix; simp [List.getD, List.getElem?_append_left h]
theorem ix_snoc (xs : List Int) (u : Int) : ix (xs ++ [u]) xs.length = u := by unfold ix; simp
end

/-- 'append(s, x)', s the call's own: s grows by one. -/
theorem wplY_app {w : World} {ops : Array Oper} {rest : List Oper} {o : Oper} {a : Act} {Q : Exit → Act → World → Prop} (hgd : o.guard = none) (s x : Operand)
    (ho : o.op = .call { callee := .builtin .append, args := #[s, x], argTypes := #[44, 44] })
    (base : Nat) (v : Value) (n : Nat) (xs : List Int) (hs : a.eval s = v) (hown : OwnY w base v n xs)
    (b : Nat) (u : Int) (hx : a.eval x = .slice (some ⟨b, 0, none⟩) 1 1) (hc : w.cell? ⟨b, 0, none⟩ = some (.int .u8 u)) (hn : n ≤ 1099511627776) (hbase : base ≤ w.heap.size)
    (h : ∀ g c w', OwnY w' base (.slice (some ⟨g, 0, none⟩) (n + 1) c) (n + 1) (xs ++ [u]) → base ≤ g → w.grownBy w' v.ownBlock → (v.ownBlock = some g ∨ g = w.heap.size) → wpList Try.prog ops Q rest (a.put o.dst (.slice (some ⟨g, 0, none⟩) (n + 1) c)) w') :
    wpList Try.prog ops Q (o :: rest) a w := by
  obtain ⟨i0, hi, hz0, hz1, hz2⟩ := info_parts infoByte
  refine wpList_append_own_at w hgd s x 44 ho base 5 i0 (.int .u8 0) 1 1 Try.underlying44 hi hz0 hz1 hz2 rfl (by decide) v n _ hs hown ⟨b, 0, none⟩ 1 1 [.int .u8 u] hx rfl ?_ ?_ (by unfold maxLen; omega) (by omega) hbase ?_
  · intro j z hj
    match j, hj with
    | 0, hj => simp at hj; subst hj; simpa [Addr.add] using hc
  · intro z hz; simp at hz; subst hz; rfl
  · intro v' w' hown' hg _ hat
    have ho' : OwnY w' base v' (n + 1) (xs ++ [u]) := by unfold OwnY; rw [List.map_append]; exact hown'
    obtain ⟨g, c, rfl, hbg, _⟩ := ho'.form (by omega)
    exact h g c w' ho' hbg hg (by
      rcases hat with h | h
      · exact .inl h.symm
      · right; have : some g = some w.heap.size := h; injection this)

/-- 'make([]int, n)': noughts. -/
theorem wplY_make {w : World} {ops : Array Oper} {rest : List Oper} {o : Oper} {a : Act} {Q : Exit → Act → World → Prop} (hgd : o.guard = none) (l c : Operand)
    (ho : o.op = Op.makeSlice 44 l c) (base n : Nat) (hl : a.eval l = .int .i64 (n : Int)) (hc : a.eval c = .int .i64 (n : Int)) (hn : n ≤ 1099511627776) (hbase : base ≤ w.heap.size)
    (h : ∀ w', OwnY w' base (.slice (some ⟨w.heap.size, 0, none⟩) n n) n (List.replicate n 0) → w.grownBy w' none → wpList Try.prog ops Q rest (a.put o.dst (.slice (some ⟨w.heap.size, 0, none⟩) n n)) w') :
    wpList Try.prog ops Q (o :: rest) a w := by
  obtain ⟨i0, hi, hz0, hz1, hz2⟩ := info_parts infoByte
  refine wpList_make_full w hgd l c 44 ho base 5 i0 (.int .u8 0) 1 Try.underlying44 hi hz0 hz1 .i64 .i64 n n n hl hc rfl rfl (by rw [hz2]; omega) (by unfold maxLen; omega) hbase ?_
  intro w' hown hg
  refine h w' ?_ hg
  unfold OwnY
  have e : (madeCells (Value.int .u8 0).cells (n * 1)).toList = (List.replicate n (0 : Int)).map (Value.int .u8) := by
    simp only [madeCells, Value.cells, Array.toList_map, Array.toList_range, Nat.mul_one, List.map_replicate]
    refine List.eq_replicate_iff.2 ⟨by simp, fun b hb => ?_⟩
    obtain ⟨x, _, rfl⟩ := List.mem_map.1 hb
    have : x % 1 = 0 := Nat.mod_one x
    simp [this]
  rw [← e]; exact hown
end Go.Proofs.Ytolgmoaoheflcaa
