/-
  PLAIN MATHEMATICS: a burst of at most 32 turned bits gives another sum: a turned bit adds a word's steps, steps map nothing but nought to nought.
-/
import Derived.Test.YtcbjneidjbfheabYLin
namespace Go.Proofs.Ytcbjneidjbfheab.ByteP
theorem xor_eq_zero {a b : Nat} (e : a ^^^ b = 0) : a = b := by
  have := congrArg (a ^^^ ·) e
  simp only [← Nat.xor_assoc, Nat.xor_self, Nat.zero_xor, Nat.xor_zero] at this
  exact this.symm
theorem run_xor (bs : List Int) : ∀ r v, run (r ^^^ v) bs = run r bs ^^^ stps (8 * bs.length) v := by
  induction bs with
  | nil => intro r v; simp [run, stps]
  | cons b bs ih =>
    intro r v
    have e : byteStep (r ^^^ v) b = byteStep r b ^^^ stps 8 v := by
      unfold byteStep
      rw [← stps_xor]
      congr 1
      ac_rfl
    show run (byteStep (r ^^^ v) b) bs = run (byteStep r b) bs ^^^ _
    rw [e, ih, ← stps_add]
    congr 2
theorem run_set (bs : List Int) : ∀ (r i v : Nat), i < bs.length → run r (bs.set i (((ix bs i).toNat ^^^ v : Nat) : Int)) = run r bs ^^^ stps (8 * (bs.length - i)) v := by
  induction bs with
  | nil => intro r i v h; simp at h
  | cons b bs ih =>
    intro r i v h
    cases i with
    | zero =>
      show run (byteStep r ((((ix (b :: bs) 0).toNat ^^^ v : Nat) : Int))) bs = run (byteStep r b) bs ^^^ _
      have e : byteStep r ((((ix (b :: bs) 0).toNat ^^^ v : Nat) : Int)) = byteStep r b ^^^ stps 8 v := by
        have e0 : ix (b :: bs) 0 = b := by simp [ix]
        rw [e0]
        unfold byteStep
        rw [← stps_xor, Int.toNat_natCast]
        congr 1
        ac_rfl
      rw [e, run_xor, ← stps_add]
      congr 2
    | succ i =>
      show run (byteStep r b) (bs.set i _) = run (byteStep r b) bs ^^^ _
      have e0 : ix (b :: bs) (i + 1) = ix bs i := by simp [ix]
      rw [e0, ih (byteStep r b) i v (by simpa using h)]
      congr 2
      simp
theorem stp_even (r : Nat) (h : r % 2 = 0) : stp r = r / 2 := by unfold stp; rw [h]; simp
theorem stps_pow (j : Nat) : stps j (2 ^ j) = 1 := by
  have h : ∀ k, k ≤ j → stps k (2 ^ j) = 2 ^ (j - k) := by
    intro k
    induction k with
    | zero => intro _; rfl
    | succ k ih =>
      intro hk
      show stp (stps k (2 ^ j)) = _
      rw [ih (by omega)]
      have e : 2 ^ (j - k) = 2 * 2 ^ (j - (k + 1)) := by rw [show j - k = (j - (k + 1)) + 1 by omega, Nat.pow_succ]; omega
      rw [stp_even _ (by rw [e]; omega), e]
      omega
  have := h j (Nat.le_refl _)
  rw [this, Nat.sub_self, Nat.pow_zero]
theorem stps_shift (m k : Nat) (h : k ≤ m) : stps m (2 ^ k) = stps (m - k) 1 := by
  conv => lhs; rw [show m = (m - k) + k by omega]
  rw [stps_add, stps_pow]
theorem stp_ne {r : Nat} (h : r < 2 ^ 32) (h0 : r ≠ 0) : stp r ≠ 0 := by
  unfold stp
  have h2 : r % 2 = 0 ∨ r % 2 = 1 := by omega
  rcases h2 with h2 | h2
  · rw [h2]; simp; omega
  · rw [h2]
    intro e
    have e2 := xor_eq_zero e
    omega
theorem stps_ne {r : Nat} (h : r < 2 ^ 32) (h0 : r ≠ 0) : ∀ k, stps k r ≠ 0 := by
  intro k
  induction k with
  | zero => exact h0
  | succ k ih => exact stp_ne (stps_lt h k) ih

/-- What k rounds of turning have made: ys is xs with the lowest k of the bits turned, from the place at on. -/
def FlipTo (xs ys : List Int) (at_ : Nat) (bt : Nat) (k : Nat) : Prop :=
  ys.length = xs.length ∧ Bytes ys ∧ ∃ v, v < 2 ^ k ∧ (bt % 2 ^ k ≠ 0 → v ≠ 0) ∧ run (0 ^^^ allOnes) ys = run (0 ^^^ allOnes) xs ^^^ stps (8 * xs.length - at_) v
theorem FlipTo.start {xs : List Int} (h : Bytes xs) (at_ bt : Nat) : FlipTo xs xs at_ bt 0 := by
  refine ⟨rfl, h, 0, by simp, fun e => absurd (by rw [Nat.pow_zero]; omega) e, ?_⟩
  have : ∀ k, stps k 0 = 0 := by
    intro k
    induction k with
    | zero => rfl
    | succ k ih => show stp (stps k 0) = 0; rw [ih]; rfl
  rw [this, Nat.xor_zero]
theorem pow_mod_succ (bt k : Nat) : bt % 2 ^ (k + 1) = bt % 2 ^ k + 2 ^ k * (bt / 2 ^ k % 2) := by
  rw [Nat.pow_succ, Nat.mod_mul]
theorem FlipTo.skip {xs ys : List Int} {at_ bt k : Nat} (h : FlipTo xs ys at_ bt k) (hb : bt / 2 ^ k % 2 ≠ 1) : FlipTo xs ys at_ bt (k + 1) := by
  obtain ⟨h1, h2, v, hv, hz, hr⟩ := h
  refine ⟨h1, h2, v, by rw [Nat.pow_succ]; omega, fun e => hz ?_, hr⟩
  rw [pow_mod_succ, show bt / 2 ^ k % 2 = 0 by omega] at e
  simpa using e
theorem byte_xor {y : Int} {j : Nat} (h0 : 0 ≤ y) (h1 : y ≤ 255) (hj : j < 8) : y.toNat ^^^ 2 ^ j < 256 :=
  Nat.xor_lt_two_pow (n := 8) (by omega) (Nat.pow_lt_pow_right (by omega) hj)
theorem FlipTo.flip {xs ys : List Int} {at_ bt k i j : Nat} (h : FlipTo xs ys at_ bt k) (hk : k < 32) (hp : at_ + k = 8 * i + j) (hj : j < 8) (hi : i < xs.length) :
    FlipTo xs (ys.set i (((ix ys i).toNat ^^^ 2 ^ j : Nat) : Int)) at_ bt (k + 1) := by
  obtain ⟨h1, h2, v, hv, hz, hr⟩ := h
  refine ⟨by rw [List.length_set, h1], ?_, v ^^^ 2 ^ k, ?_, fun _ e => ?_, ?_⟩
  · intro m
    by_cases hm : i = m
    · subst hm
      have e : ix (ys.set i (((ix ys i).toNat ^^^ 2 ^ j : Nat) : Int)) i = (((ix ys i).toNat ^^^ 2 ^ j : Nat) : Int) := by
        have : i < ys.length := by rw [h1]; exact hi
        simp [ix, List.getD, this]
      have := byte_xor (h2 i).1 (h2 i).2 hj
      rw [e]
      omega
    · have e : ix (ys.set i (((ix ys i).toNat ^^^ 2 ^ j : Nat) : Int)) m = ix ys m := by simp [ix, List.getD, hm]
      rw [e]; exact h2 m
  · exact Nat.xor_lt_two_pow (by rw [Nat.pow_succ]; omega) (Nat.pow_lt_pow_right (by omega) (by omega))
  · have := xor_eq_zero e
    omega
  · rw [run_set ys _ i _ (by rw [h1]; exact hi), hr, h1, Nat.xor_assoc, stps_xor, stps_shift _ j (by omega), stps_shift _ k (by omega)]
    congr 3
    omega
theorem FlipTo.done {xs ys : List Int} {at_ bt : Nat} (h : FlipTo xs ys at_ bt 32) (h0 : 0 < bt) (h1 : bt < 2 ^ 32) : moreN 0 xs ≠ moreN 0 ys := by
  obtain ⟨_, _, v, hv, hz, hr⟩ := h
  intro e
  unfold moreN at e
  rw [hr] at e
  have e2 : run (0 ^^^ allOnes) xs = run (0 ^^^ allOnes) xs ^^^ stps (8 * xs.length - at_) v := by
    have := congrArg (· ^^^ allOnes) e
    simpa [Nat.xor_assoc] using this
  have e3 : stps (8 * xs.length - at_) v = 0 := by
    have := congrArg (run (0 ^^^ allOnes) xs ^^^ ·) e2
    simp only [Nat.xor_self, ← Nat.xor_assoc, Nat.zero_xor] at this
    exact this.symm
  exact stps_ne hv (hz (by rw [Nat.mod_eq_of_lt h1]; omega)) _ e3
end Go.Proofs.Ytcbjneidjbfheab.ByteP
