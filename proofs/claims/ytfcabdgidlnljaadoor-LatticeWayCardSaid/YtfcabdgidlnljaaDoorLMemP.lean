/-
  PLAIN MATHEMATICS for the statements of layer 9: a set's nodes, the lowest first.
-/
import Derived.Test.YtfcabdgidlnljaaDoorLAll
import Derived.Lib.TrailingZeros
namespace Go.Proofs.YtfcabdgidlnljaaDoor.DiP
set_option linter.unusedVariables false
set_option linter.unusedSimpArgs false
/-- A set's nodes, rising. -/
def memL (s : Nat) : List Nat := (List.range 64).filter fun v => bt s v
theorem memL_mem {s u : Nat} : u ∈ memL s ↔ u < 64 ∧ bt s u = true := by unfold memL; rw [List.mem_filter, List.mem_range]
theorem memL_pw (s : Nat) : (memL s).Pairwise (· < ·) := List.Pairwise.filter _ List.pairwise_lt_range
theorem memL_len (s : Nat) : (memL s).length ≤ 64 := by
  have := List.length_filter_le (fun v => bt s v) (List.range 64)
  rw [List.length_range] at this
  exact this
theorem memL_zero : memL 0 = [] := by
  unfold memL
  rw [List.filter_eq_nil_iff]
  intro v _
  rw [bt_zero]; decide
/-- The lowest node of a set. -/
def tz (x : Nat) : Nat := Lib.ctz 64 x
theorem tz_form {x : Nat} (h0 : x ≠ 0) (hx : x < lim) : ∃ m, x = 2 ^ tz x * (2 * m + 1) ∧ tz x < 64 := by
  unfold tz Lib.ctz
  rw [if_neg h0]
  exact Lib.ctzFrom_spec 64 x (Nat.pos_of_ne_zero h0) (by rw [lim_eq] at hx; exact hx)
theorem tz_lt {x : Nat} (h0 : x ≠ 0) (hx : x < lim) : tz x < 64 := (tz_form h0 hx).elim fun _ h => h.2
theorem bt_tz {x : Nat} (h0 : x ≠ 0) (hx : x < lim) : bt x (tz x) = true := by
  obtain ⟨m, hm, _⟩ := tz_form h0 hx
  unfold bt
  generalize tz x = k at hm
  subst hm
  rw [Nat.mul_comm, Nat.testBit_mul_two_pow]
  simp
theorem bt_below {x u : Nat} (h0 : x ≠ 0) (hx : x < lim) (hu : u < tz x) : bt x u = false := by
  obtain ⟨m, hm, _⟩ := tz_form h0 hx
  unfold bt
  generalize tz x = k at hm hu
  subst hm
  rw [Nat.mul_comm, Nat.testBit_mul_two_pow]
  simp; omega
/-- 'x & (x - 1)' takes the lowest node away. -/
theorem and_pred {x : Nat} (h0 : x ≠ 0) (hx : x < lim) : x &&& (x - 1) = del x (tz x) := by
  have hk := tz_lt h0 hx
  refine ext64 (by rw [lim_eq] at *; exact Nat.and_lt_two_pow _ (by omega)) (del_lt _ hx) fun u hu => ?_
  rw [bt_del hk hu]
  have e : bt (x &&& (x - 1)) u = (bt x u && bt (x - 1) u) := by simp [bt]
  rw [e]
  obtain ⟨m, hm, _⟩ := tz_form h0 hx
  rcases Nat.lt_trichotomy u (tz x) with h | h | h
  · rw [bt_below h0 hx h]; rfl
  · subst h
    have : bt (x - 1) (tz x) = false := by
      generalize tz x = k at hm
      subst hm
      unfold bt
      rw [Nat.testBit_eq_decide_div_mod_eq]
      have hp := Nat.two_pow_pos k
      have e2 : 2 ^ k * (2 * m + 1) - 1 = 2 ^ k * (2 * m) + (2 ^ k - 1) := by rw [Nat.mul_add]; omega
      rw [e2, Nat.mul_add_div hp, Nat.div_eq_of_lt (by omega)]
      simp
    rw [this]; simp
  · have : bt (x - 1) u = bt x u := by
      generalize tz x = k at hm h
      subst hm
      unfold bt
      rw [Nat.testBit_eq_decide_div_mod_eq, Nat.testBit_eq_decide_div_mod_eq]
      obtain ⟨d, rfl⟩ : ∃ d, u = (k + 1) + d := ⟨u - (k + 1), by omega⟩
      have hp := Nat.two_pow_pos k
      have e2 : 2 ^ k * (2 * m + 1) - 1 = 2 ^ (k + 1) * m + (2 ^ k - 1) := by rw [Nat.mul_add, Nat.pow_succ, Nat.mul_assoc]; omega
      have e3 : 2 ^ k * (2 * m + 1) = 2 ^ (k + 1) * m + 2 ^ k := by rw [Nat.mul_add, Nat.pow_succ, Nat.mul_assoc]; omega
      have hq := Nat.two_pow_pos (k + 1)
      have hlt : 2 ^ k < 2 ^ (k + 1) := by rw [Nat.pow_succ]; omega
      rw [e2, e3, show 2 ^ (k + 1 + d) = 2 ^ (k + 1) * 2 ^ d from Nat.pow_add _ _ _]
      generalize 2 ^ (k + 1) = P at hq hlt
      rw [← Nat.div_div_eq_div_mul, ← Nat.div_div_eq_div_mul, Nat.mul_add_div hq, Nat.mul_add_div hq, Nat.div_eq_of_lt hlt, Nat.div_eq_of_lt (show 2 ^ k - 1 < P by omega)]
    rw [this, decide_eq_false (by omega)]; simp
theorem memL_cons {x : Nat} (h0 : x ≠ 0) (hx : x < lim) : memL x = tz x :: memL (del x (tz x)) := by
  have hk := tz_lt h0 hx
  refine pw_ext (memL_pw x) ?_ fun u => ?_
  · rw [List.pairwise_cons]
    refine ⟨fun u hu => ?_, memL_pw _⟩
    obtain ⟨h1, h2⟩ := memL_mem.1 hu
    rw [bt_del hk h1, Bool.and_eq_true] at h2
    rcases Nat.lt_trichotomy u (tz x) with h | h | h
    · rw [bt_below h0 hx h] at h2; cases h2.1
    · subst h; simp at h2
    · exact h
  · rw [List.mem_cons, memL_mem, memL_mem]
    constructor
    · rintro ⟨h1, h2⟩
      by_cases e : u = tz x
      · exact .inl e
      · exact .inr ⟨h1, by rw [bt_del hk h1, h2, decide_eq_false (fun h => e h.symm)]; rfl⟩
    · rintro (rfl | ⟨h1, h2⟩)
      · exact ⟨hk, bt_tz h0 hx⟩
      · rw [bt_del hk h1, Bool.and_eq_true] at h2
        exact ⟨h1, h2.1⟩
end Go.Proofs.YtfcabdgidlnljaaDoor.DiP
