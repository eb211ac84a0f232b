/-
  PLAIN MATHEMATICS: whole numbers as floats of 64 bits: their sums, differences, order, and what is cut off, are exact.
-/
import Derived.Laws.FloatArith
import Derived.Laws.ComplexArith
namespace FlP
open Ieee

/-- The word of a whole number. -/
def fl (n : Int) : Nat := double.nearest (decide (n < 0)) n.natAbs 0

theorem log2_mul (a q : Nat) (h : a ≠ 0) : (a * 2 ^ q).log2 = a.log2 + q := by
  have hp : 0 < 2 ^ q := Nat.two_pow_pos q
  have h1 := Nat.log2_self_le h
  have h2 := Nat.lt_log2_self (n := a)
  have hne : a * 2 ^ q ≠ 0 := by
    intro e; rcases Nat.mul_eq_zero.1 e with e | e
    · exact h e
    · omega
  rw [Nat.log2_eq_iff hne]
  refine ⟨?_, ?_⟩
  · rw [Nat.pow_add]; exact Nat.mul_le_mul_right _ h1
  · rw [show a.log2 + q + 1 = (a.log2 + 1) + q by omega, Nat.pow_add]; exact Nat.mul_lt_mul_of_pos_right h2 hp

theorem cut_zero (way : Toward) (neg : Bool) (n : Nat) : way.cut neg n 0 = n := by
  unfold Toward.cut
  cases way <;> simp [Nat.shiftLeft_eq, Nat.mod_one]

theorem cut_exact (way : Toward) (neg : Bool) (a k : Nat) (h : a ≠ 0) : way.cut neg (a * 2 ^ k) k = a := by
  have hl := log2_mul a k h
  have hp : 0 < 2 ^ k := Nat.two_pow_pos k
  have hm : min k ((a * 2 ^ k).log2 + 2) = k := by rw [hl]; omega
  unfold Toward.cut
  rw [hm]
  have e1 : a * 2 ^ k / 2 ^ k = a := Nat.mul_div_cancel _ hp
  have e2 : a * 2 ^ k % 2 ^ k = 0 := Nat.mul_mod_left _ _
  cases way <;> simp [Nat.shiftLeft_eq, e1, e2] <;> omega

theorem cut_nought (way : Toward) (neg : Bool) (k : Nat) : way.cut neg 0 k = 0 := by
  unfold Toward.cut
  cases way <;> simp [Nat.shiftLeft_eq]

/-- The same number at a lower place has the same word. -/
theorem nearest_scale (neg : Bool) (a q : Nat) (ha : a < 2 ^ 53) : double.nearest neg (a * 2 ^ q) (-(q : Int)) = double.nearest neg a 0 := by
  by_cases h : a = 0
  · subst h; simp [Format.nearest]
  have hp : 0 < 2 ^ q := Nat.two_pow_pos q
  have hne : a * 2 ^ q ≠ 0 := by
    intro e; rcases Nat.mul_eq_zero.1 e with e | e
    · exact h e
    · omega
  have hL : a.log2 < 53 := (Nat.log2_lt h).2 ha
  unfold Format.nearest
  rw [if_neg h, if_neg hne, log2_mul a q h]
  have hlast : max (-(q : Int) + ((a.log2 + q : Nat) : Int) - (double.fractionBits : Int)) double.leastPlace = max ((0 : Int) + (a.log2 : Int) - (double.fractionBits : Int)) double.leastPlace := by
    congr 1; omega
  have hv : max ((0 : Int) + (a.log2 : Int) - (double.fractionBits : Int)) double.leastPlace = (a.log2 : Int) - 52 := by
    have e1 : (double.fractionBits : Int) = 52 := rfl
    have e2 : double.leastPlace = -1074 := by decide
    rw [e1, e2]; omega
  simp only [hlast, hv]
  congr 3
  obtain ⟨d, hd⟩ : ∃ d : Nat, a.log2 + d = 52 := ⟨52 - a.log2, by omega⟩
  have e0 : ((0 : Int) - ((a.log2 : Int) - 52)).toNat = d := by omega
  have e1 : ((a.log2 : Int) - 52 - 0).toNat = 0 := by omega
  rw [e0, e1, cut_zero]
  rcases Nat.lt_or_ge d q with hq | hq
  · have f0 : (-(q : Int) - ((a.log2 : Int) - 52)).toNat = 0 := by omega
    have f1 : ((a.log2 : Int) - 52 - -(q : Int)).toNat = q - d := by omega
    rw [f0, f1]
    have : (a * 2 ^ q) <<< 0 = (a * 2 ^ d) * 2 ^ (q - d) := by
      rw [Nat.shiftLeft_zero, Nat.mul_assoc, ← Nat.pow_add]; congr 2; omega
    rw [this, cut_exact _ _ _ _ (by intro e; rcases Nat.mul_eq_zero.1 e with e | e; exact h e; have := Nat.two_pow_pos d; omega), Nat.shiftLeft_eq]
  · have f0 : (-(q : Int) - ((a.log2 : Int) - 52)).toNat = d - q := by omega
    have f1 : ((a.log2 : Int) - 52 - -(q : Int)).toNat = 0 := by omega
    rw [f0, f1, cut_zero, Nat.shiftLeft_eq, Nat.shiftLeft_eq, Nat.mul_assoc, ← Nat.pow_add]
    congr 2; omega

/-- A word that stands for a whole number. -/
def Stands (d : Datum) (n : Int) : Prop := ∃ (m k : Nat), d = .number (decide (n < 0)) m (-(k : Int)) ∧ m = n.natAbs * 2 ^ k

theorem read_fl (n : Int) (h : n.natAbs < 2 ^ 53) : Stands (double.read (fl n)) n := by
  by_cases h0 : n = 0
  · subst h0
    obtain ⟨k, hk⟩ : ∃ k : Nat, k = 1074 := ⟨_, rfl⟩
    refine ⟨0, k, ?_, (Nat.zero_mul _).symm⟩
    rw [hk]
    decide +kernel
  have hne : n.natAbs ≠ 0 := by omega
  have hL : n.natAbs.log2 < 53 := (Nat.log2_lt hne).2 h
  obtain ⟨d, hd⟩ : ∃ d : Nat, n.natAbs.log2 + d = 52 := ⟨52 - n.natAbs.log2, by omega⟩
  have h1 := Nat.log2_self_le hne
  have h2 := Nat.lt_log2_self (n := n.natAbs)
  have e1 : (double.fractionBits : Int) = 52 := rfl
  have e2 : double.leastPlace = -1074 := by decide
  have e3 : double.binade = 4503599627370496 := by decide
  have e4 : double.infRung = 2047 * 4503599627370496 := by decide
  have e5 : double.signWeight = 2048 * 4503599627370496 := by decide
  obtain ⟨kept, hk⟩ : ∃ kept, kept = n.natAbs * 2 ^ d := ⟨_, rfl⟩
  have k1 : 4503599627370496 ≤ kept := by
    have : 2 ^ n.natAbs.log2 * 2 ^ d ≤ n.natAbs * 2 ^ d := Nat.mul_le_mul_right _ h1
    rw [← Nat.pow_add, hd] at this
    rw [hk]; simpa using this
  have k2 : kept < 9007199254740992 := by
    have : n.natAbs * 2 ^ d < 2 ^ (n.natAbs.log2 + 1) * 2 ^ d := Nat.mul_lt_mul_of_pos_right h2 (Nat.two_pow_pos d)
    rw [← Nat.pow_add, show n.natAbs.log2 + 1 + d = 53 by omega] at this
    rw [hk]; simpa using this
  have hv : max ((0 : Int) + (n.natAbs.log2 : Int) - (double.fractionBits : Int)) double.leastPlace = (n.natAbs.log2 : Int) - 52 := by
    rw [e1, e2]; omega
  have hw : fl n = double.word (decide (n < 0)) ((n.natAbs.log2 + 1022) * 4503599627370496 + kept) := by
    unfold fl Format.nearest
    rw [if_neg hne]
    simp only [hv]
    have g0 : ((0 : Int) - ((n.natAbs.log2 : Int) - 52)).toNat = d := by omega
    have g1 : ((n.natAbs.log2 : Int) - 52 - 0).toNat = 0 := by omega
    have g2 : ((n.natAbs.log2 : Int) - 52 - double.leastPlace).toNat = n.natAbs.log2 + 1022 := by rw [e2]; omega
    rw [g0, g1, g2, cut_zero, Nat.shiftLeft_eq, ← hk, e3, e4, Nat.min_eq_left (by omega)]
  have hr : (n.natAbs.log2 + 1022) * 4503599627370496 + kept < 2047 * 4503599627370496 := by omega
  refine ⟨kept, d, ?_, hk⟩
  rw [hw]
  unfold Format.read Format.word
  rw [e3, e4, e5, e2]
  have q1 : ((n.natAbs.log2 + 1022) * 4503599627370496 + kept) / 4503599627370496 = n.natAbs.log2 + 1023 := by omega
  have q2 : ((n.natAbs.log2 + 1022) * 4503599627370496 + kept) % 4503599627370496 = kept - 4503599627370496 := by omega
  have q3 : ((n.natAbs.log2 + 1022) * 4503599627370496 + kept) % (2048 * 4503599627370496) = (n.natAbs.log2 + 1022) * 4503599627370496 + kept := Nat.mod_eq_of_lt (by omega)
  have q4 : (2048 * 4503599627370496 + ((n.natAbs.log2 + 1022) * 4503599627370496 + kept)) % (2048 * 4503599627370496) = (n.natAbs.log2 + 1022) * 4503599627370496 + kept := by
    rw [Nat.add_mod_left]; exact q3
  have q5 : ((n.natAbs.log2 + 1022) * 4503599627370496 + kept) / (2048 * 4503599627370496) % 2 = 0 := by
    rw [Nat.div_eq_of_lt (by omega)]
  have q6 : (2048 * 4503599627370496 + ((n.natAbs.log2 + 1022) * 4503599627370496 + kept)) / (2048 * 4503599627370496) % 2 = 1 := by
    rw [Nat.add_div_left _ (by decide), Nat.div_eq_of_lt (by omega)]
  by_cases hn : n < 0
  · simp only [hn, decide_true, if_true]
    rw [q4, q6, if_neg (by omega), if_pos hr, q1, q2, show (1 == 1) = true from rfl, show 4503599627370496 + (kept - 4503599627370496) = kept by omega, show (-1074 : Int) + ((n.natAbs.log2 + 1023 - 1 : Nat) : Int) = -(d : Int) by omega]
  · simp only [hn, decide_false, Bool.false_eq_true, if_false]
    rw [q3, q5, if_neg (by omega), if_pos hr, q1, q2, show (0 == 1) = false from rfl, show 4503599627370496 + (kept - 4503599627370496) = kept by omega, show (-1074 : Int) + ((n.natAbs.log2 + 1023 - 1 : Nat) : Int) = -(d : Int) by omega]

theorem signed_stands {n : Int} {k j : Nat} : signed (decide (n < 0)) (n.natAbs * 2 ^ k) j = n * 2 ^ (k + j) := by
  unfold signed
  have e : (((n.natAbs * 2 ^ k) <<< j : Nat) : Int) = (n.natAbs : Int) * 2 ^ (k + j) := by
    rw [Nat.shiftLeft_eq, Nat.mul_assoc, ← Nat.pow_add]; push_cast; rfl
  rw [e]
  by_cases h : n < 0
  · simp only [h, decide_true, if_true]
    rw [show (n.natAbs : Int) = -n by omega, Int.neg_mul, Int.neg_neg]
  · simp only [h, decide_false, Bool.false_eq_true, if_false]
    rw [show (n.natAbs : Int) = n by omega]

theorem pow_pos_int (k : Nat) : (0 : Int) < 2 ^ k := Int.pow_pos (by decide)
theorem mul_pow_lt {n : Int} {k : Nat} : n * 2 ^ k < 0 ↔ n < 0 := by
  have := pow_pos_int k
  constructor
  · intro h
    rcases Int.lt_or_le n 0 with h' | h'
    · exact h'
    · have := Int.mul_nonneg h' (Int.le_of_lt this); omega
  · intro h; exact Int.mul_neg_of_neg_of_pos h this
theorem mul_pow_zero {n : Int} {k : Nat} : n * 2 ^ k = 0 ↔ n = 0 := by
  have := pow_pos_int k
  rw [Int.mul_eq_zero]
  constructor
  · rintro (h | h)
    · exact h
    · omega
  · exact .inl
theorem natAbs_mul_pow (n : Int) (k : Nat) : (n * 2 ^ k).natAbs = n.natAbs * 2 ^ k := by
  rw [Int.natAbs_mul]; congr 1

/-- What the sum of two is, before it is written. -/
theorem sum_stands {a b : Int} {x y : Datum} (hx : Stands x a) (hy : Stands y b) : ∃ K : Nat, x.sum y = some (.number (decide (a + b < 0)) ((a + b).natAbs * 2 ^ K) (-(K : Int))) := by
  obtain ⟨m, k, rfl, rfl⟩ := hx
  obtain ⟨m', j, rfl, rfl⟩ := hy
  refine ⟨max k j, ?_⟩
  have hb : min (-(k : Int)) (-(j : Int)) = -((max k j : Nat) : Int) := by omega
  simp only [Datum.sum, hb]
  have s1 : (-(k : Int) - -((max k j : Nat) : Int)).toNat = max k j - k := by omega
  have s2 : (-(j : Int) - -((max k j : Nat) : Int)).toNat = max k j - j := by omega
  rw [s1, s2, signed_stands, signed_stands, show k + (max k j - k) = max k j by omega, show j + (max k j - j) = max k j by omega, ← Int.add_mul]
  rw [natAbs_mul_pow]
  congr 2
  by_cases h0 : a + b = 0
  · rw [if_pos (mul_pow_zero.2 h0)]
    have : ¬ (a + b < 0) := by omega
    simp only [this, decide_false]
    by_cases ha : a < 0
    · have : ¬ b < 0 := by omega
      simp [this]
    · simp [ha]
  · rw [if_neg (fun h => h0 (mul_pow_zero.1 h))]
    simp only [mul_pow_lt]

theorem add_fl {a b : Int} (ha : a.natAbs < 2 ^ 53) (hb : b.natAbs < 2 ^ 53) (hs : (a + b).natAbs < 2 ^ 53) : double.add (fl a) (fl b) = some (fl (a + b)) := by
  obtain ⟨K, hK⟩ := sum_stands (read_fl a ha) (read_fl b hb)
  unfold Format.add
  rw [hK]
  show some (double.nearest _ _ _) = _
  rw [nearest_scale _ _ _ hs]
  rfl

theorem order_stands {a b : Int} {x y : Datum} (hx : Stands x a) (hy : Stands y b) : x.order y = some (compare a b) := by
  obtain ⟨m, k, rfl, rfl⟩ := hx
  obtain ⟨m', j, rfl, rfl⟩ := hy
  have hb : min (-(k : Int)) (-(j : Int)) = -((max k j : Nat) : Int) := by omega
  simp only [Datum.order, hb]
  have s1 : (-(k : Int) - -((max k j : Nat) : Int)).toNat = max k j - k := by omega
  have s2 : (-(j : Int) - -((max k j : Nat) : Int)).toNat = max k j - j := by omega
  rw [s1, s2, signed_stands, signed_stands, show k + (max k j - k) = max k j by omega, show j + (max k j - j) = max k j by omega]
  congr 1
  have hp := pow_pos_int (max k j)
  rcases Int.lt_trichotomy a b with h | h | h
  · rw [show compare a b = .lt from Int.compare_eq_lt.2 h]
    exact Int.compare_eq_lt.2 (Int.mul_lt_mul_of_pos_right h hp)
  · subst h; rw [show compare a a = .eq from Int.compare_eq_eq.2 rfl]
    exact Int.compare_eq_eq.2 rfl
  · rw [show compare a b = .gt from Int.compare_eq_gt.2 h]
    exact Int.compare_eq_gt.2 (Int.mul_lt_mul_of_pos_right h hp)

theorem order_fl {a b : Int} (ha : a.natAbs < 2 ^ 53) (hb : b.natAbs < 2 ^ 53) : double.order (fl a) (fl b) = some (compare a b) := order_stands (read_fl a ha) (read_fl b hb)

theorem integral_stands (way : Toward) {a : Int} {x : Datum} (hx : Stands x a) : x.integral way = .number (decide (a < 0)) a.natAbs 0 := by
  obtain ⟨m, k, rfl, rfl⟩ := hx
  simp only [Datum.integral]
  have s1 : (-(k : Int)).toNat = 0 := by omega
  have s2 : (- -(k : Int)).toNat = k := by omega
  rw [s1, s2, Nat.shiftLeft_zero]
  congr 1
  by_cases h : a.natAbs = 0
  · rw [h, Nat.zero_mul, cut_nought]
  · exact cut_exact _ _ _ _ h

theorem toInt_fl (way : Toward) {a : Int} (ha : a.natAbs < 2 ^ 53) : (double.read (fl a)).toInt way = some a := by
  unfold Datum.toInt
  rw [integral_stands way (read_fl a ha)]
  show some (signed _ _ 0) = some a
  congr 1
  unfold signed
  by_cases h : a < 0
  · simp only [h, decide_true, if_true]; rw [Nat.shiftLeft_zero]; omega
  · simp only [h, decide_false, Bool.false_eq_true, if_false]; rw [Nat.shiftLeft_zero]; omega

theorem trunc_fl {a : Int} (ha : a.natAbs < 2 ^ 53) : double.write ((double.read (fl a)).integral .zero) = fl a := by
  rw [integral_stands .zero (read_fl a ha)]; rfl
theorem isNum_fl {a : Int} (ha : a.natAbs < 2 ^ 53) : ∃ s m p, double.read (fl a) = .number s m p := by
  obtain ⟨m, k, e, _⟩ := read_fl a ha
  exact ⟨_, _, _, e⟩
theorem sub_fl {a b : Int} (ha : a.natAbs < 2 ^ 53) (hb : b.natAbs < 2 ^ 53) (hs : (a - b).natAbs < 2 ^ 53) : double.sub (fl a) (fl b) = some (fl (a - b)) := by
  by_cases h0 : b = 0
  · subst h0
    obtain ⟨m, k, e, hm⟩ := read_fl a ha
    unfold Format.sub
    rw [e, show double.read (fl 0) = .number false 0 (-1074) by decide +kernel]
    obtain ⟨K, hK⟩ : ∃ K : Nat, (Datum.number (decide (a < 0)) m (-(k : Int))).sum (Datum.number false 0 (-1074)).opposite = some (.number (decide (a < 0)) (a.natAbs * 2 ^ K) (-(K : Int))) := by
      refine ⟨max k 1074, ?_⟩
      have hb : min (-(k : Int)) (-1074) = -((max k 1074 : Nat) : Int) := by omega
      simp only [Datum.opposite, Datum.sum, hb]
      have s1 : (-(k : Int) - -((max k 1074 : Nat) : Int)).toNat = max k 1074 - k := by omega
      rw [s1, hm, signed_stands, show k + (max k 1074 - k) = max k 1074 by omega]
      have s3 : signed (!false) 0 (-1074 - -((max k 1074 : Nat) : Int)).toNat = 0 := by simp [signed]
      rw [s3, Int.add_zero, natAbs_mul_pow]
      congr 2
      by_cases h0 : a = 0
      · subst h0; simp
      · rw [if_neg (fun h => h0 (mul_pow_zero.1 h))]; simp only [mul_pow_lt]
    rw [hK]
    show some (double.nearest _ _ _) = _
    rw [nearest_scale _ _ _ ha, Int.sub_zero]
    rfl
  · have hy : Stands (double.read (fl b)).opposite (-b) := by
      obtain ⟨m, k, e, hm⟩ := read_fl b hb
      refine ⟨m, k, ?_, by rw [hm]; congr 1; omega⟩
      rw [e]
      show Datum.number _ _ _ = _
      congr 1
      by_cases h : b < 0
      · have : ¬ (-b < 0) := by omega
        simp [h]
        omega
      · have : -b < 0 := by omega
        simp [h]
        omega
    obtain ⟨K, hK⟩ := sum_stands (read_fl a ha) hy
    unfold Format.sub
    rw [hK]
    show some (double.nearest _ _ _) = _
    rw [nearest_scale _ _ _ (by rw [← Int.sub_eq_add_neg]; exact hs), ← Int.sub_eq_add_neg]
    rfl
end FlP
