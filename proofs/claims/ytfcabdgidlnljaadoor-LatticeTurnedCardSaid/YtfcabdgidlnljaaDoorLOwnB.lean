/-
  A SLICE OF BOOL that the call itself made.
-/
import Derived.Test.YtfcabdgidlnljaaDoorDQue
namespace Go.Proofs.YtfcabdgidlnljaaDoor
open Go.RowKit
open DiP
set_option linter.unusedVariables false
set_option linter.unusedSimpArgs false

/-! ### A slice of bool that the call itself made -/
theorem infoBool : (Tryd.prog.info? 4).map (fun i => (i.zero, i.size, i.bytes)) = some (some (.bool false), 1, 1) := by kernel_rfl
def bx (bs : List Bool) (i : Nat) : Bool := bs.getD i false
def OwnB (w : World) (base : Nat) (v : Value) (n : Nat) (bs : List Bool) : Prop := w.ownsRow base 4 1 v n (bs.map Value.bool)
section
variable {w w' : World} {base n c g : Nat} {v : Value} {bs : List Bool}
theorem OwnB.len (h : OwnB w base v n bs) : bs.length = n := by simpa using h.1
theorem OwnB.cell (h : OwnB w base (.slice (some ⟨g, 0, none⟩) n c) n bs) {j : Nat} (hj : j < n) : w.cell? ⟨g, j, none⟩ = some (.bool (bx bs j)) := by
  have hl : j < bs.length := by rw [h.len]; exact hj
  rw [h.cellAt j (by omega)]
  simp [bx, List.getD, hl]
theorem OwnB.free (h : OwnB w base (.slice (some ⟨g, 0, none⟩) n c) n bs) (j : Nat) : w.frozen? ⟨g, j, none⟩ = false := h.frozenAt j
theorem OwnB.store (h : OwnB w base (.slice (some ⟨g, 0, none⟩) n c) n bs) (j : Nat) (u : Bool) : OwnB (w.setCell ⟨g, j, none⟩ (.bool u)) base (.slice (some ⟨g, 0, none⟩) n c) n (bs.set j u) := by
  have := (h.stored j (.bool u)).1
  unfold OwnB; rw [List.map_set]; exact this
theorem OwnB.far (h : OwnB w base (.slice (some ⟨g, 0, none⟩) n c) n bs) {p : Addr} (hp : g ≠ p.block) (u : Value) : OwnB (w.setCell p u) base (.slice (some ⟨g, 0, none⟩) n c) n bs := by
  refine ⟨h.1, ?_⟩
  rcases h.2 with h | ⟨g', cap, cur, hv, hbg, hh, r⟩
  · exact .inl h
  · refine .inr ⟨g', cap, cur, hv, hbg, ?_, r⟩
    cases hv
    rw [Below.heap_setCell w p u g hp]; exact hh
theorem Own.far {xs : List Int} (h : Own w base (.slice (some ⟨g, 0, none⟩) n c) n xs) {p : Addr} (hp : g ≠ p.block) (u : Value) : Own (w.setCell p u) base (.slice (some ⟨g, 0, none⟩) n c) n xs := by
  refine ⟨h.1, ?_⟩
  rcases h.2 with h | ⟨g', cap, cur, hv, hbg, hh, r⟩
  · exact .inl h
  · refine .inr ⟨g', cap, cur, hv, hbg, ?_, r⟩
    cases hv
    rw [Below.heap_setCell w p u g hp]; exact hh
theorem Own.home {xs : List Int} (h : Own w base (.slice (some ⟨g, 0, none⟩) n c) n xs) : g < w.heap.size := by
  rcases h.2 with ⟨e, _⟩ | ⟨g', cap, cur, e, _, hh, _⟩
  · cases e
  · cases e
    rcases Nat.lt_or_ge g w.heap.size with hlt | hge
    · exact hlt
    · rw [Array.getElem?_eq_none hge] at hh; cases hh
theorem bx_set (bs : List Bool) (j k : Nat) (u : Bool) (hj : j < bs.length) : bx (bs.set j u) k = if j = k then u else bx bs k := by
  unfold bx
  by_cases h : j = k
  · subst h; simp [List.getD, hj]
  · simp [List.getD, h]
theorem bx_replicate (n j : Nat) : bx (List.replicate n false) j = false := by
  unfold bx
  by_cases h : j < n <;> simp [List.getD, h]
end

theorem wpl_makeB {w : World} {ops : Array Oper} {rest : List Oper} {o : Oper} {a : Act} {Q : Exit → Act → World → Prop} (hgd : o.guard = none) (l c : Operand)
    (ho : o.op = Op.makeSlice 52 l c) (base n : Nat) (hl : a.eval l = .int .i64 (n : Int)) (hc : a.eval c = .int .i64 (n : Int)) (hn : n ≤ 1099511627776) (hbase : base ≤ w.heap.size)
    (h : ∀ w', OwnB w' base (.slice (some ⟨w.heap.size, 0, none⟩) n n) n (List.replicate n false) → w.grownBy w' none → wpList Tryd.prog ops Q rest (a.put o.dst (.slice (some ⟨w.heap.size, 0, none⟩) n n)) w') :
    wpList Tryd.prog ops Q (o :: rest) a w := by
  obtain ⟨i0, hi, hz0, hz1, hz2⟩ := info_parts infoBool
  refine wpList_make_full w hgd l c 52 ho base 4 i0 (.bool false) 1 Tryd.underlying52 hi hz0 hz1 .i64 .i64 n n n hl hc rfl rfl (by rw [hz2]; omega) (by unfold maxLen; omega) hbase ?_
  intro w' hown hg
  refine h w' ?_ hg
  unfold OwnB
  have e : (madeCells (Value.bool false).cells (n * 1)).toList = (List.replicate n false).map Value.bool := by
    simp only [madeCells, Value.cells, Array.toList_map, Array.toList_range, Nat.mul_one, List.map_replicate]
    refine List.eq_replicate_iff.2 ⟨by simp, fun b hb => ?_⟩
    obtain ⟨x, _, rfl⟩ := List.mem_map.1 hb
    have : x % 1 = 0 := Nat.mod_one x
    simp [this]
  rw [← e]; exact hown


def blL (n : Nat) (f : Nat → Bool) : List Bool := (List.range n).map f
theorem blL_bx {n : Nat} (f : Nat → Bool) {i : Nat} (h : i < n) : bx (blL n f) i = f i := by simp [bx, blL, List.getD, h]
def updB (f : Nat → Bool) (i : Nat) (x : Bool) : Nat → Bool := fun v => if v = i then x else f v
theorem blL_set {n : Nat} (f : Nat → Bool) {i : Nat} (x : Bool) (h : i < n) : (blL n f).set i x = blL n (updB f i x) := by
  apply List.ext_getElem?
  intro j
  rw [List.getElem?_set]
  by_cases hj : i = j
  · subst hj; simp [blL, h, updB]
  · rw [if_neg hj]
    unfold blL updB
    rw [List.getElem?_map, List.getElem?_map]
    by_cases hl : j < n
    · have hji : ¬ j = i := fun e => hj e.symm
      simp [hl, hji]
    · simp [hl]
theorem blL_none (n : Nat) : List.replicate n false = blL n (fun _ => false) := by
  apply List.ext_getElem?
  intro j
  by_cases hl : j < n <;> simp [blL, hl]
end Go.Proofs.YtfcabdgidlnljaaDoor
