/-
  A REGION THAT DRAWS ITS ORDER, BY WHAT HOLDS AFTER EACH SET OF ITS OPERATIONS: one obligation an operation, whatever the order.
-/
import Derived.Orders
import Derived.Lib.Hide
namespace Go.Proofs.YtpnbbbhbbnemlaaGreatDoor
open Go.RowKit
section
variable {P : Program} {ops : Array Oper} {Q : Exit → Act → World → Prop} {md : Region.Mode}
theorem ready_lt {l : Array Bool} {i : Nat} (h : i ∈ Region.ready md ops l) : i < ops.size ∧ l.getD i true = false := by
  unfold Region.ready at h
  rw [List.mem_filter] at h
  refine ⟨by simpa using h.1, ?_⟩
  have := h.2
  simp only [Bool.and_eq_true, Bool.not_eq_true'] at this
  exact this.1
theorem wpAny_inv {I : Array Bool → Act → World → Prop}
    (hstep : ∀ l a w i, I l a w → i ∈ Region.ready md ops l → wpOp P ops Q i (fun a' w' => I (l.setIfInBounds i true) a' w') a w)
    (hend : ∀ l a w, I l a w → Region.ready md ops l = [] → Q .normal a w) :
    ∀ (fuel : Nat) (l : Array Bool) (a : Act) (w : World), I l a w → l.count false ≤ fuel → wpAny P md ops Q fuel l a w := by
  intro fuel
  induction fuel with
  | zero =>
    intro l a w h hc
    have hr : Region.ready md ops l = [] := by
      rw [List.eq_nil_iff_forall_not_mem]
      intro i hi
      obtain ⟨_, h2⟩ := ready_lt hi
      have hmem : false ∈ l := by
        rw [Array.getD_eq_getD_getElem?] at h2
        cases he : l[i]? with
        | none => rw [he] at h2; cases h2
        | some b =>
          rw [he] at h2
          simp at h2
          subst h2
          exact Array.mem_of_getElem? he
      have := Array.count_pos_iff.2 hmem
      omega
    exact ⟨hr, hend l a w h hr⟩
  | succ fuel ih =>
    intro l a w h hc
    refine ⟨fun hr => hend l a w h hr, fun i hi => ?_⟩
    refine wpOp_mono (fun a' w' h' => ih _ a' w' h' ?_) (hstep l a w i h hi)
    obtain ⟨_, h2⟩ := ready_lt hi
    rw [Array.getD_eq_getD_getElem?] at h2
    cases he : l[i]? with
    | none => rw [he] at h2; cases h2
    | some b =>
      rw [he] at h2
      simp at h2
      subst h2
      obtain ⟨hlt, hge⟩ := Array.getElem?_eq_some_iff.1 he
      rw [Array.setIfInBounds_def, dif_pos hlt, Array.count_set]
      simp [hge]
      omega
theorem wp_region_inv {id : Nat} {a : Act} {w : World} (hm : P.follows .mixedOrders = true) {I : Array Bool → Act → World → Prop}
    (hstart : I (Array.replicate ops.size false) a { w with drawn := w.drawn + 1 })
    (hstep : ∀ l a w i, I l a w → i ∈ Region.ready .any ops l → wpOp P ops Q i (fun a' w' => I (l.setIfInBounds i true) a' w') a w)
    (hend : ∀ l a w, I l a w → Region.ready .any ops l = [] → Q .normal a w) : (Code.region id ops true).wp P Q a w :=
  wp_region_any hm (wpAny_inv hstep hend _ _ _ _ hstart (by simp))
theorem ready_dep {l : Array Bool} {i : Nat} {o : Oper} (h : i ∈ Region.ready md ops l) (ho : ops[i]? = some o) (j : Nat) (hj : o.after.any (fun e => Region.binds md e && e.on == j) = true) : l.getD j false = true := by
  unfold Region.ready at h
  rw [List.mem_filter] at h
  have h2 := h.2
  rw [ho] at h2
  simp only [Option.map_some, Option.getD_some, Bool.and_eq_true] at h2
  have h3 := h2.2
  rw [Array.any_eq_true] at hj
  obtain ⟨k, hk, hb⟩ := hj
  rw [Array.all_eq_true] at h3
  have := h3 k hk
  simp only [Bool.and_eq_true, beq_iff_eq] at hb
  obtain ⟨hb1, rfl⟩ := hb
  rw [hb1] at this
  simpa using this
theorem ready_in {l : Array Bool} (i : Nat) {o : Oper} (ho : ops[i]? = some o) (hl : l.getD i true = false) (hd : o.after.all (fun e => !Region.binds md e || l.getD e.on false) = true) (hr : Region.ready md ops l = []) : False := by
  have : i ∈ Region.ready md ops l := by
    unfold Region.ready
    rw [List.mem_filter, ho, hl]
    obtain ⟨hlt, _⟩ := Array.getElem?_eq_some_iff.1 ho
    exact ⟨by simpa using hlt, by simpa using hd⟩
  rw [hr] at this
  cases this
theorem wpOp_one {i : Nat} {o : Oper} {a : Act} {w : World} {K0 : Act → World → Prop} (ho : ops[i]? = some o) (hg : o.guard = none)
    (h : ∀ K : Act → World → Prop, Hid (∀ a' w', K0 a' w' → K a' w') → o.wp P a w K Q) : wpOp P ops Q i K0 a w := by
  unfold wpOp
  rw [ho]
  have hw : Region.wanted o (yielded ops a.tmps) = true := by unfold Region.wanted; rw [hg]
  simp only [hw, if_true]
  exact .inl (h K0 (Lib.hid fun _ _ h => h))
end
end Go.Proofs.YtpnbbbhbbnemlaaGreatDoor
