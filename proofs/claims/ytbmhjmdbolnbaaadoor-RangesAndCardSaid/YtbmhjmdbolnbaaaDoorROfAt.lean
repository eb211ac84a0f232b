/-
  RANGES: the range of one comparison in memory; the guards of a drawn region.
-/
import Derived.Test.YtbmhjmdbolnbaaaDoorRTilP
import Derived.Test.YtbmhjmdbolnbaaaDoorInv
import Derived.Deep.DeepCutAuto
namespace Go.Proofs.YtbmhjmdbolnbaaaDoor
open Go.RowKit
open SemP
set_option linter.unusedVariables false
set_option linter.unusedSimpArgs false
set_option maxRecDepth 100000

/-- The range of one comparison, in memory. -/
def OfAt (w : World) (x : CV) (v : Value) : Prop := ∃ g B, v = .agg #[.slice (some ⟨g, 0, none⟩) 1 1] ∧ B ≤ w.heap.size ∧ RdR w B (some ⟨g, 0, none⟩) 1 [[x]]
theorem OfAt.below {w w' : World} {x : CV} {v : Value} (h : OfAt w x v) (hb : Below w.heap.size w w') : OfAt w' x v := by
  obtain ⟨g, B, e, hB, hr⟩ := h
  exact ⟨g, B, e, Nat.le_trans hB hb.size, hr.below (hb.mono hB)⟩
theorem OfAt.drew {w : World} {x : CV} {v : Value} (h : OfAt w x v) : OfAt { w with drawn := w.drawn + 1 } x v := h
theorem fits_one {x : CV} (h : x.s.size < 4294967281) : Fits [[x]] := by
  intro l hl
  simp at hl
  subst hl
  exact ⟨fun y hy => by simp at hy; subst hy; exact h, by simp⟩
theorem hasOf_any (x : CV) (v : Value) (a b c : Int) (s : ByteArray) (w : World) (ho : OfAt w x v) (hx : x.s.size < 4294967281) (hs : s.size < 4294967281) (hm : LenAt w) (h1 : 1 < w.heap.size) :
    Calls Tryd.prog 36 #[v, verV a b c s] w fun e w' => e = .returned (.bool (hasR [[x]] ⟨a, b, c, bs s⟩)) ∧ Below w.heap.size w w' := by
  obtain ⟨g, B, rfl, hB, hr⟩ := ho
  exact RgHas_any _ 1 1 [[x]] a b c s w B hr hB (fits_one hx) hs (by decide) hm h1
theorem ofAt_any (op a b c : Int) (s : ByteArray) (w : World) :
    Calls Tryd.prog 43 #[.int .i64 op, verV a b c s] w fun e w' => ∃ v, e = .returned v ∧ OfAt w' ⟨op, a, b, c, s⟩ v ∧ Below w.heap.size w w' := by
  refine (of_any op a b c s w).mono ?_
  rintro e w' ⟨g, he, hr, hb⟩
  exact ⟨_, he, ⟨g, w'.heap.size, rfl, Nat.le_refl _, hr⟩, hb⟩
section
variable {P : Program} {ops : Array Oper} {Q : Exit → Act → World → Prop}
theorem wpOp_want {i : Nat} {o : Oper} {a : Act} {w : World} {K0 : Act → World → Prop} (ho : ops[i]? = some o) (j : Nat) (b : Bool) (hg : o.guard = some (j, b)) (hy : yielded ops a.tmps j = some b)
    (h : ∀ K : Act → World → Prop, Hid (∀ a' w', K0 a' w' → K a' w') → o.wp P a w K Q) : wpOp P ops Q i K0 a w := by
  unfold wpOp
  rw [ho]
  have hw : Region.wanted o (yielded ops a.tmps) = true := by unfold Region.wanted; rw [hg]; simp [hy]
  simp only [hw, if_true]
  exact .inl (h K0 (Lib.hid fun _ _ h => h))
theorem wpOp_skip {i : Nat} {o : Oper} {a : Act} {w : World} {K0 : Act → World → Prop} (ho : ops[i]? = some o) (j : Nat) (b : Bool) (hg : o.guard = some (j, b)) (hy : yielded ops a.tmps j = some (!b))
    (h : K0 (a.put o.dst undef) w) : wpOp P ops Q i K0 a w := by
  unfold wpOp
  rw [ho]
  have hw : Region.wanted o (yielded ops a.tmps) = false := by unfold Region.wanted; rw [hg]; cases b <;> simp [hy]
  simp only [hw]
  exact h
end
theorem right_zero : CV.right ⟨0, 0, 0, 0, ⟨#[]⟩⟩ = true := by
  unfold CV.right; rw [if_pos rfl]; exact verEq_true _ _ _ _
end Go.Proofs.YtbmhjmdbolnbaaaDoor
