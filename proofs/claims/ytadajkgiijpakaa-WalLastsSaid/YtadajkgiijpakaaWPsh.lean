/-
  WORDS FOR MEMORY: a record more in a log; the dock as it was where the log alone turned.
-/
import Derived.Test.YtadajkgiijpakaaWOps
namespace Go.Proofs.Ytadajkgiijpakaa
open Go.RowKit
open ByteP
set_option linter.unusedVariables false
theorem Dk.fr {w w' : World} {db mb K : Nat} {n : Nm} {F : Int → Option Fi} {M : Nat → Prop} (h : Dk w db mb K n F) (hf : Fr w w' M) (hM : ∀ b, Mine db mb F b → ¬ M b) : Dk w' db mb K n F := by
  have hl := h.dlt
  have hm := h.lt
  exact h.of_heap (hf.block db hl (hM db (.inl rfl))) (hf.block mb (by omega) (hM mb (.inr (.inl rfl)))) (fun k f hk g hg => hf.block g (h.rowLt hk g hg) (hM g (.inr (.inr ⟨k, f, hk, hg⟩))))
/-- The blocks that the log writes. -/
def OM (lb : Nat) (v : LgV) (b : Nat) : Prop := b = lb ∨ v.rv.ownBlock = some b
section
variable {w w' w5 w7 : World} {D : Nat → Prop} {B0 lb g cap k : Nat} {v : LgV} {bs : List Int} {rs rs' : List (List Int)} {o : Obj}
theorem Lg.om (h : Lg w D B0 lb v bs rs) : ∀ b, D b → ¬ OM lb v b := fun b hb ho => by
  rcases ho with h1 | h1
  · exact h.nd (h1 ▸ hb)
  · exact h.row.nd b h1 (.inl hb)
theorem om_lm {b : Nat} (h : OM lb v b) : LM D lb v b := h.elim (fun h1 => .inl (.inr h1)) .inr
/-- The log's own blocks turned: what is apart from them, and from D. -/
theorem Lg.base_turn (h : Lg w D B0 lb v bs rs) {v' : LgV} (hf : Fr w w' (OM lb v)) (hv : ∀ b, v'.rv.ownBlock = some b → v.rv.ownBlock = some b ∨ w.heap.size ≤ b) : RdK w' (LM D lb v') v.bA v.bn bs :=
  h.base.turn ⟨hf.os, hf.tape, hf.output, hf.size, fun b hb hn => hf.block b hb (fun h1 => hn (om_lm h1))⟩ (fun b hb => by
    rcases hb with h1 | h1
    · exact .inl (.inl h1)
    · exact (hv b h1).elim (fun h2 => .inl (.inr h2)) .inr)
theorem Lg.pushed (h : Lg w D B0 lb v bs rs) (hDl : ∀ b, D b → b < w.heap.size) (hb5 : Below w.heap.size w w5) (hg7 : (w5.alloc o).grownBy w7 v.rv.ownBlock) (hat : v.rv.ownBlock = some g ∨ g = w5.heap.size + 1)
    (hrow : Row w7 (fun b => D b ∨ b = lb) B0 (.slice (some ⟨g, 0, none⟩) k cap) rs') (hrb : ∀ x, x ∈ rs' → RecOK x) (z : Int) :
    Lg ((w7.setCell ⟨lb, 3, none⟩ (.slice (some ⟨g, 0, none⟩) k cap)).setCell ⟨lb, 4, none⟩ (.int .i64 z)) D B0 lb { v with rv := .slice (some ⟨g, 0, none⟩) k cap, sz := z } bs rs' ∧
      Fr w ((w7.setCell ⟨lb, 3, none⟩ (.slice (some ⟨g, 0, none⟩) k cap)).setCell ⟨lb, 4, none⟩ (.int .i64 z)) (OM lb v) ∧
      (∀ b, LM D lb { v with rv := .slice (some ⟨g, 0, none⟩) k cap, sz := z } b → LM D lb v b ∨ w.heap.size ≤ b) := by
  have hs5 := hb5.size
  have hgl : ¬ g = lb := fun e => hrow.nd g rfl (.inr e)
  have hF7 : Fr w w7 (OM lb v) := (Fr.of_below_then hb5 (Fr.of_below_then ((Below.refl _ _).alloc (Nat.le_refl _) o) (Fr.grown (M := OM lb v) hg7 (fun b hb => .inr hb))))
  have hce : w7.heap[lb]? = some (.cells (cellsL v) 83 (0, 0)) := by
    have hlt := h.lt
    rw [hg7.block lb (by simp; omega) (fun e => h.row.nd lb e.symm (.inr rfl))]
    exact ((h.below hb5).alloc o).cells
  obtain ⟨W, hW⟩ : ∃ W, (w7.setCell ⟨lb, 3, none⟩ (.slice (some ⟨g, 0, none⟩) k cap)).setCell ⟨lb, 4, none⟩ (.int .i64 z) = W := ⟨_, rfl⟩
  have hF8 : Fr w7 W (fun b => b = lb) := by
    rw [← hW]
    exact (Fr.setCell w7 (fun b => b = lb) (p := ⟨lb, 3, none⟩) rfl _).trans (Fr.setCell _ (fun b => b = lb) (p := ⟨lb, 4, none⟩) rfl _) (fun b hb => .inl hb)
  have hFW : Fr w W (OM lb v) := hF7.trans hF8 (fun b hb => .inl (.inl hb))
  have hcW : W.heap[lb]? = some (.cells (cellsL { v with rv := .slice (some ⟨g, 0, none⟩) k cap, sz := z }) 83 (0, 0)) := by
    rw [← hW]
    have h1 := heap_setCell_same w7 lb 3 _ _ (.slice (some ⟨g, 0, none⟩) k cap) hce
    have h2 := heap_setCell_same (w7.setCell ⟨lb, 3, none⟩ (.slice (some ⟨g, 0, none⟩) k cap)) lb 4 _ _ (.int .i64 z) h1
    exact h2
  rw [hW]
  have hlt := h.lt
  have hFW2 := hFW.size
  refine ⟨⟨by omega, h.ge, h.nd, hcW, ?_, h.bb, h.bl, ?_, hrb⟩, hFW, fun b hb => ?_⟩
  · refine h.base_turn hFW (fun b hb => ?_)
    have e : some g = some b := hb
    injection e with e
    subst e
    rcases hat with h1 | h1
    · exact .inl h1
    · right; omega
  · refine hrow.turn ⟨hF8.os, hF8.tape, hF8.output, hF8.size, fun b hb hn => hF8.block b hb (fun h1 => hn (.inr h1))⟩ (fun b hb => .inl hb)
  · rcases hb with h1 | h1
    · exact .inl (.inl h1)
    · have e : some g = some b := h1
      injection e with e
      subst e
      rcases hat with h1 | h1
      · exact .inl (.inr h1)
      · right; omega
theorem Lg.anew (h : Lg w D B0 lb v bs rs) {A : Option Addr} {m c : Nat} {xs : List Int} (hx : RdK w (fun b => D b ∨ b = lb) A m xs) (hb : Bytes xs) (hl : xs.length ≤ 65535) (z : Int) :
    Lg (((w.setCell ⟨lb, 2, none⟩ (.slice A m c)).setCell ⟨lb, 3, none⟩ (.slice none 0 0)).setCell ⟨lb, 4, none⟩ (.int .i64 z)) D B0 lb { v with bA := A, bn := m, bc := c, rv := .slice none 0 0, sz := z } xs [] ∧
      Fr w (((w.setCell ⟨lb, 2, none⟩ (.slice A m c)).setCell ⟨lb, 3, none⟩ (.slice none 0 0)).setCell ⟨lb, 4, none⟩ (.int .i64 z)) (fun b => b = lb) := by
  obtain ⟨W, hW⟩ : ∃ W, ((w.setCell ⟨lb, 2, none⟩ (.slice A m c)).setCell ⟨lb, 3, none⟩ (.slice none 0 0)).setCell ⟨lb, 4, none⟩ (.int .i64 z) = W := ⟨_, rfl⟩
  have hF : Fr w W (fun b => b = lb) := by
    rw [← hW]
    exact ((Fr.setCell w (fun b => b = lb) (p := ⟨lb, 2, none⟩) rfl _).trans (Fr.setCell _ (fun b => b = lb) (p := ⟨lb, 3, none⟩) rfl _) (fun b hb => .inl hb)).trans (Fr.setCell _ (fun b => b = lb) (p := ⟨lb, 4, none⟩) rfl _) (fun b hb => .inl hb)
  have hcW : W.heap[lb]? = some (.cells (cellsL { v with bA := A, bn := m, bc := c, rv := .slice none 0 0, sz := z }) 83 (0, 0)) := by
    rw [← hW]
    have h1 := heap_setCell_same w lb 2 _ _ (.slice A m c) h.cells
    have h2 := heap_setCell_same _ lb 3 _ _ (.slice none 0 0) h1
    exact heap_setCell_same _ lb 4 _ _ (.int .i64 z) h2
  rw [hW]
  have hlt := h.lt
  have hs := hF.size
  refine ⟨⟨by omega, h.ge, h.nd, hcW, ?_, hb, hl, Row.nil_ _ _ _, fun x h => by cases h⟩, hF⟩
  refine hx.turn ⟨hF.os, hF.tape, hF.output, hF.size, fun b hb hn => hF.block b hb (fun h1 => hn (.inr h1))⟩ (fun b hb => ?_)
  rcases hb with h1 | h1
  · exact .inl h1
  · cases h1
end
end Go.Proofs.Ytadajkgiijpakaa
