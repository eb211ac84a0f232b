/-
  PLAIN MATHEMATICS for the statements of layer 16 (waits): a wait that is doubled again and again, up to a cap.
-/
namespace Go.Proofs.Ytinphdphloddmab.BackP
def dbl (b c : Int) : Nat → Int
  | 0 => min b c
  | k + 1 => min (2 * dbl b c k) c
def sumD (b c : Int) : Nat → Int
  | 0 => 0
  | k + 1 => sumD b c k + dbl b c k
theorem pow_pos2 (k : Nat) : (1 : Int) ≤ 2 ^ k := by
  induction k with
  | zero => simp
  | succ k ih => rw [Int.pow_succ]; omega
theorem dbl_eq (b c : Int) (hb : 0 ≤ b) (hc : 0 ≤ c) : ∀ k, dbl b c k = min (b * 2 ^ k) c := by
  intro k
  induction k with
  | zero => simp [dbl]
  | succ k ih =>
    rw [dbl, ih, Int.pow_succ, ← Int.mul_assoc]
    have : 0 ≤ b * 2 ^ k := Int.mul_nonneg hb (by have := pow_pos2 k; omega)
    omega
theorem dbl_bd (b c : Int) (hb : 0 ≤ b) (hc : 0 ≤ c) (k : Nat) : 0 ≤ dbl b c k ∧ dbl b c k ≤ c := by
  rw [dbl_eq b c hb hc]
  have : 0 ≤ b * 2 ^ k := Int.mul_nonneg hb (by have := pow_pos2 k; omega)
  omega
theorem dbl_mono (b c : Int) (hb : 0 ≤ b) (hc : 0 ≤ c) (k : Nat) : dbl b c k ≤ dbl b c (k + 1) := by
  have := dbl_bd b c hb hc k
  rw [dbl]; omega
theorem dbl_stay (b c : Int) (k : Nat) (h : dbl b c k = dbl b c (k + 1)) : ∀ m, dbl b c (k + m) = dbl b c k := by
  intro m
  induction m with
  | zero => rfl
  | succ m ih =>
    rw [show k + (m + 1) = (k + m) + 1 from rfl, dbl, ih]
    have h' : dbl b c k = min (2 * dbl b c k) c := h
    omega
theorem dbl_far (b c : Int) (hb : 0 ≤ b) (hc : 0 ≤ c) (hc2 : c ≤ 1048576) (k : Nat) (hk : 29 ≤ k) : dbl b c k = min (b * 536870912) c := by
  rw [dbl_eq b c hb hc]
  have h29 : (2 : Int) ^ 29 = 536870912 := by decide
  by_cases h0 : b = 0
  · subst h0; simp
  · have h1 : (536870912 : Int) ≤ 2 ^ k := by
      obtain ⟨m, rfl⟩ : ∃ m, k = 29 + m := ⟨k - 29, by omega⟩
      rw [Int.pow_add, h29]
      have := pow_pos2 m
      omega
    have h2 : (1 : Int) * 536870912 ≤ b * 2 ^ k := Int.mul_le_mul (by omega) h1 (by omega) (by omega)
    omega
/-- The statements' own wait: doubled at most 29 times. -/
def lawW (b : Int) (k : Nat) : Int := b * 2 ^ k
theorem lawW_succ (b : Int) (k : Nat) : lawW b (k + 1) = lawW b k * 2 := by unfold lawW; rw [Int.pow_succ, Int.mul_assoc]
theorem lawW_bd (b : Int) (hb : 0 ≤ b) (hb2 : b ≤ 1048576) (k : Nat) (hk : k ≤ 29) : 0 ≤ lawW b k ∧ lawW b k ≤ 562949953421312 := by
  unfold lawW
  have h1 := pow_pos2 k
  have h2 : (2 : Int) ^ k ≤ 536870912 := by
    have h29 : (536870912 : Int) = 2 ^ k * 2 ^ (29 - k) := by rw [← Int.pow_add, show k + (29 - k) = 29 by omega]; decide
    rw [h29]
    have := pow_pos2 (29 - k)
    calc (2 : Int) ^ k = 2 ^ k * 1 := by omega
      _ ≤ 2 ^ k * 2 ^ (29 - k) := Int.mul_le_mul_of_nonneg_left this (by omega)
  refine ⟨Int.mul_nonneg hb (by omega), ?_⟩
  calc b * 2 ^ k ≤ 1048576 * 536870912 := Int.mul_le_mul hb2 h2 (by omega) (by omega)
    _ = 562949953421312 := by decide
theorem lawW_near (b c : Int) (hb : 0 ≤ b) (hc : 0 ≤ c) (k : Nat) : min (lawW b k) c = dbl b c k := (dbl_eq b c hb hc k).symm
theorem lawW_far (b c : Int) (hb : 0 ≤ b) (hc : 0 ≤ c) (hc2 : c ≤ 1048576) (k : Nat) (hk : 29 ≤ k) : min (lawW b 29) c = dbl b c k := by
  rw [dbl_far b c hb hc hc2 k hk]; unfold lawW; rw [show (2 : Int) ^ 29 = 536870912 by decide]
theorem sumD_bd (b c : Int) (hb : 0 ≤ b) (hc : 0 ≤ c) (hc2 : c ≤ 1048576) : ∀ k : Nat, 0 ≤ sumD b c k ∧ sumD b c k ≤ k * 1048576 := by
  intro k
  induction k with
  | zero => simp [sumD]
  | succ k ih =>
    have := dbl_bd b c hb hc k
    rw [sumD]
    refine ⟨by omega, ?_⟩
    push_cast
    omega
/-- When the next is no longer: the cap is reached, or it is nought. -/
theorem dbl_same (b c : Int) (hb : 0 ≤ b) (hc : 0 ≤ c) (k : Nat) : dbl b c (k + 1) = dbl b c k ↔ dbl b c k = c ∨ b = 0 := by
  have h1 := dbl_bd b c hb hc k
  constructor
  · intro h
    have h' : min (2 * dbl b c k) c = dbl b c k := h
    by_cases h0 : dbl b c k = c
    · exact .inl h0
    · right
      have h2 : dbl b c k = 0 := by omega
      rw [dbl_eq b c hb hc] at h2
      have h3 : b * 2 ^ k = 0 ∨ c = 0 := by omega
      rcases h3 with h3 | h3
      · rcases Int.mul_eq_zero.1 h3 with h4 | h4
        · exact h4
        · have := pow_pos2 k; omega
      · exfalso; rw [dbl_eq b c hb hc] at h0; omega
  · rintro (h | h)
    · rw [dbl, h]; omega
    · subst h
      rw [dbl_eq 0 c hb hc, dbl_eq 0 c hb hc]; simp
end Go.Proofs.Ytinphdphloddmab.BackP
