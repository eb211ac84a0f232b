/-
  PLAIN MATHEMATICS for LatticeWays: the table of the ways, pair by pair.
-/
import Derived.Test.YtfcabdgidlnljaaDoorLPa
namespace Go.Proofs.YtfcabdgidlnljaaDoor.DiP
set_option linter.unusedVariables false
set_option linter.unusedSimpArgs false
/-- Which pairs have been gone through. -/
def dn (bef : Nat → Nat) (set i x v : Nat) : Bool := rdy bef x v && decide (x < set ∨ (x = set ∧ v < i))
/-- The table on the way. -/
def tabW (bef : Nat → Nat) (n set i x : Nat) : Nat := if x = 0 then 1 else sumW (fun y => some (wayN bef n y)) (dn bef set i) n x
theorem tabW_start (bef : Nat → Nat) (n x : Nat) : tabW bef n 0 0 x = if x = 0 then 1 else 0 := by
  unfold tabW
  by_cases h : x = 0
  · rw [if_pos h, if_pos h]
  · rw [if_neg h, if_neg h]
    have h0 : ∀ v, v < n → tm (fun y => some (wayN bef n y)) (dn bef 0 0) x v = 0 := fun v _ => by
      unfold tm dn
      rw [if_neg]
      simp
    have := sumN_le (c := 0) n (fun v hv => Nat.le_of_eq (h0 v hv))
    unfold sumW; omega
theorem tabW_next (bef : Nat → Nat) (n set x : Nat) : tabW bef n set n x = tabW bef n (set + 1) 0 x := by
  unfold tabW
  by_cases h : x = 0
  · rw [if_pos h, if_pos h]
  · rw [if_neg h, if_neg h]
    refine sumN_congr n fun v hv => ?_
    have e : dn bef set n (del x v) v = dn bef (set + 1) 0 (del x v) v := by
      unfold dn
      congr 1
      exact decide_eq_decide.2 (by omega)
    unfold tm
    rw [e]
theorem rdy_bt {bef : Nat → Nat} {s v : Nat} (h : rdy bef s v = true) : bt s v = false := by
  unfold rdy at h
  rw [Bool.and_eq_true, Bool.not_eq_true'] at h
  exact h.1
theorem tabW_step {bef : Nat → Nat} {n set i x : Nat} (hn : n ≤ 64) (hs : set < lim) (hi : i < n) (hx : x < lim) : tabW bef n set (i + 1) x = tabW bef n set i x + (if x = add set i ∧ rdy bef set i = true then wayN bef n set else 0) := by
  cases hr : rdy bef set i with
  | false =>
    rw [if_neg (by simp)]
    have e : ∀ y v, dn bef set (i + 1) y v = dn bef set i y v := fun y v => by
      unfold dn
      by_cases h : y = set ∧ v = i
      · rw [h.1, h.2, hr]; rfl
      · congr 1
        exact decide_eq_decide.2 (by omega)
    unfold tabW
    by_cases h : x = 0
    · rw [if_pos h, if_pos h, Nat.add_zero]
    · rw [if_neg h, if_neg h]
      rw [Nat.add_zero]
      exact sumN_congr n fun v hv => by unfold tm; rw [e]
  | true =>
    have hb := rdy_bt hr
    have hi6 : i < 64 := by omega
    have e : dn bef set (i + 1) = updD (dn bef set i) set i := by
      funext y v
      unfold dn updD
      by_cases h : y = set ∧ v = i
      · rw [if_pos h, h.1, h.2, hr]
        simp
      · rw [if_neg h]
        congr 1
        exact decide_eq_decide.2 (by omega)
    have hd0 : dn bef set i set i = false := by
      unfold dn
      simp
    unfold tabW
    by_cases h : x = 0
    · rw [if_pos h, if_pos h, if_neg]
      rintro ⟨h2, _⟩
      have h3 : bt x i = true := by rw [h2, bt_add]; simp
      rw [h, bt_zero] at h3; cases h3
    · rw [if_neg h, if_neg h, e]
      by_cases hxa : x = add set i
      · rw [if_pos ⟨hxa, rfl⟩]
        have hda := del_add hs hi6 hb
        have hba : bt x i = true := by rw [hxa, bt_add]; simp
        have h1 := sumN_upd (f := tm (fun y => some (wayN bef n y)) (dn bef set i) x) (h := tm (fun y => some (wayN bef n y)) (updD (dn bef set i) set i) x) (v := i) (c := wayN bef n set) (by
          unfold tm
          rw [hba, hxa, hda, updD_same, hd0]; simp) (fun u hu => by
          unfold tm
          rw [updD_other _ (fun e => hu e.2)]) n
        rw [if_pos hi] at h1
        exact h1
      · rw [if_neg (fun h => hxa h.1)]
        refine sumN_congr n fun u hu => ?_
        unfold tm
        cases hbs : bt x u with
        | false => rfl
        | true =>
          rw [updD_other]
          rintro ⟨e1, rfl⟩
          exact hxa (by rw [← e1]; exact (add_del hx (by omega) hbs).symm)
theorem del_lessW {x v : Nat} (hx : x < lim) (hv : v < 64) (h : bt x v = true) : del x v < x := by
  have e := add_del hx hv h
  have h1 : del x v ≤ x := by
    conv => rhs; rw [← e]
    unfold add
    exact Nat.left_le_or
  refine Nat.lt_of_le_of_ne h1 fun e2 => ?_
  have h2 := bt_del_self (s := x) hv
  rw [e2, h] at h2; cases h2
theorem tabW_at {bef : Nat → Nat} {n set i x : Nat} (hn : n ≤ 64) (hx : inS n x) (hle : x ≤ set) : tabW bef n set i x = wayN bef n x := by
  unfold tabW
  by_cases h : x = 0
  · rw [if_pos h, h, wayN_zero]
  · rw [if_neg h, wayN_sum hn hx h]
    refine sumN_congr n fun v hv => ?_
    unfold tm
    cases hb : bt x v with
    | false => rfl
    | true =>
      have h1 := del_lessW hx.1 (show v < 64 by omega) hb
      have e : dn bef set i (del x v) v = rdy bef (del x v) v := by
        unfold dn
        rw [decide_eq_true (by omega), Bool.and_true]
      rw [e]
theorem tabW_le {bef : Nat → Nat} {n set i x : Nat} (hn : n ≤ 64) (hx : inS n x) : tabW bef n set i x ≤ wayN bef n x := by
  unfold tabW
  by_cases h : x = 0
  · rw [if_pos h, h, wayN_zero]; exact Nat.le_refl _
  · rw [if_neg h, wayN_sum hn hx h]
    exact next_part fun y v e => by
      unfold dn at e
      rw [Bool.and_eq_true] at e
      exact e.1
end Go.Proofs.YtfcabdgidlnljaaDoor.DiP
