/-
  A REGION THAT DRAWS ITS ORDER, INSIDE A FENCE, BY WHAT HOLDS AFTER EACH SET OF ITS OPERATIONS: one obligation an operation, whatever the order.
-/
import Derived.Test.YticklaophgekeaaInv
import Derived.OrdersIn
namespace Go.Proofs.Yticklaophgekeaa
open Go.RowKit
section
variable {F : Fence} {n : Nat} {P : Program} {ops : Array Oper} {Q : Exit → Act → World → Prop} {md : Region.Mode}
theorem wpAnyIn_inv {I : Array Bool → Act → World → Prop}
    (hstep : ∀ l a w i, I l a w → i ∈ Region.ready md ops l → wpOpIn F n P ops Q i (fun a' w' => I (l.setIfInBounds i true) a' w') a w)
    (hend : ∀ l a w, I l a w → Region.ready md ops l = [] → Q .normal a w) :
    ∀ (fuel : Nat) (l : Array Bool) (a : Act) (w : World), I l a w → l.count false ≤ fuel → wpAnyIn F n P md ops Q fuel l a w := by
  intro fuel
  induction fuel with
  | zero =>
    intro l a w h hc
    have hr : Region.ready md ops l = [] := by
      rw [List.eq_nil_iff_forall_not_mem]
      intro i hi
      obtain ⟨_, h2⟩ := ready_lt hi
      have hmem : false ∈ l := by
        rw [Array.getD_eq_getD_getElem?] at h2
        cases he : l[i]? with
        | none => rw [he] at h2; cases h2
        | some b =>
          rw [he] at h2
          simp at h2
          subst h2
          exact Array.mem_of_getElem? he
      have := Array.count_pos_iff.2 hmem
      omega
    exact ⟨hr, hend l a w h hr⟩
  | succ fuel ih =>
    intro l a w h hc
    refine ⟨fun hr => hend l a w h hr, fun i hi => ?_⟩
    refine wpOpIn_mono (fun a' w' h' => ih _ a' w' h' ?_) (hstep l a w i h hi)
    obtain ⟨_, h2⟩ := ready_lt hi
    rw [Array.getD_eq_getD_getElem?] at h2
    cases he : l[i]? with
    | none => rw [he] at h2; cases h2
    | some b =>
      rw [he] at h2
      simp at h2
      subst h2
      obtain ⟨hlt, hge⟩ := Array.getElem?_eq_some_iff.1 he
      rw [Array.setIfInBounds_def, dif_pos hlt, Array.count_set]
      simp [hge]
      omega
theorem wpIn_region_inv {id : Nat} {a : Act} {w : World} (hm : P.follows .mixedOrders = true) {I : Array Bool → Act → World → Prop}
    (hstart : I (Array.replicate ops.size false) a { w with drawn := w.drawn + 1 })
    (hstep : ∀ l a w i, I l a w → i ∈ Region.ready .any ops l → wpOpIn F n P ops Q i (fun a' w' => I (l.setIfInBounds i true) a' w') a w)
    (hend : ∀ l a w, I l a w → Region.ready .any ops l = [] → Q .normal a w) : (Code.region id ops true).wpIn F n P Q a w :=
  wpIn_region_any hm (wpAnyIn_inv hstep hend _ _ _ _ hstart (by simp))
theorem wpOpIn_one {i : Nat} {o : Oper} {a : Act} {w : World} {K0 : Act → World → Prop} (ho : ops[i]? = some o) (hg : o.guard = none)
    (h : ∀ K : Act → World → Prop, Hid (∀ a' w', K0 a' w' → K a' w') → o.wpIn F n P a w K Q) : wpOpIn F n P ops Q i K0 a w := by
  unfold wpOpIn
  rw [ho]
  have hw : Region.wanted o (yielded ops a.tmps) = true := by unfold Region.wanted; rw [hg]
  simp only [hw, if_true]
  exact h K0 (Lib.hid fun _ _ h => h)
end
end Go.Proofs.Yticklaophgekeaa
