/-
  PLAIN MATHEMATICS for the statements of layer 9: all closed sets, rising; the ways counted set by set.
-/
import Derived.Test.YtfcabdgidlnljaaDoorLPure
namespace Go.Proofs.YtfcabdgidlnljaaDoor.DiP
set_option linter.unusedVariables false
set_option linter.unusedSimpArgs false
theorem pw_ext : ∀ {l l' : List Nat}, l.Pairwise (· < ·) → l'.Pairwise (· < ·) → (∀ x, x ∈ l ↔ x ∈ l') → l = l'
  | [], [], _, _, _ => rfl
  | [], b :: l', _, _, e => by have := (e b).2 (by simp); cases this
  | a :: l, [], _, _, e => by have := (e a).1 (by simp); cases this
  | a :: l, b :: l', h, h', e => by
    rw [List.pairwise_cons] at h h'
    have hab : a = b := by
      have h1 := (e a).1 (by simp)
      have h2 := (e b).2 (by simp)
      rw [List.mem_cons] at h1 h2
      rcases h1 with h1 | h1
      · exact h1
      · rcases h2 with h2 | h2
        · exact h2.symm
        · have := h.1 b h2
          have := h'.1 a h1
          omega
    subst hab
    rw [pw_ext h.2 h'.2 fun x => ?_]
    have := e x
    rw [List.mem_cons, List.mem_cons] at this
    constructor
    · intro hx
      rcases this.1 (.inr hx) with rfl | h3
      · exact absurd (h.1 x hx) (Nat.lt_irrefl x)
      · exact h3
    · intro hx
      rcases this.2 (.inr hx) with rfl | h3
      · exact absurd (h'.1 x hx) (Nat.lt_irrefl x)
      · exact h3
theorem len_le : ∀ (N : Nat) {l : List Nat}, l.Nodup → (∀ x, x ∈ l → x < N) → l.length ≤ N
  | 0, [], _, _ => by simp
  | 0, a :: _, _, h => absurd (h a (by simp)) (by omega)
  | N + 1, l, hn, h => by
    have h1 := len_le N (l := l.erase N) (hn.erase N) (fun x hx => by
      have h2 := h x (List.mem_of_mem_erase hx)
      have h3 : x ≠ N := fun e => by
        subst e
        exact absurd hx (List.Nodup.not_mem_erase hn)
      omega)
    have h2 := List.length_erase_le (a := N) (l := l)
    by_cases hm : N ∈ l
    · rw [List.length_erase_of_mem hm] at h1; omega
    · rw [List.erase_of_not_mem hm] at h1; omega
theorem inS_iff {n s : Nat} (hn : n ≤ 64) : inS n s ↔ s < 2 ^ n := by
  constructor
  · intro h
    refine Nat.lt_of_not_le fun hl => ?_
    obtain ⟨i, hi, hb⟩ := Nat.exists_ge_and_testBit_of_ge_two_pow hl
    have := h.2 i hi
    unfold bt at this
    rw [hb] at this; cases this
  · intro h
    have h2 : (2 : Nat) ^ n ≤ lim := by rw [lim_eq]; exact Nat.pow_le_pow_right (by omega) hn
    refine ⟨by omega, fun u hu => ?_⟩
    exact Nat.testBit_lt_two_pow (Nat.lt_of_lt_of_le h (Nat.pow_le_pow_right (by omega) hu))
/-- All sets that p says yes to, rising. -/
def clN (n : Nat) (p : Nat → Bool) : List Nat := (List.range (2 ^ n)).filter p
theorem clN_mem {n : Nat} {p : Nat → Bool} {s : Nat} : s ∈ clN n p ↔ s < 2 ^ n ∧ p s = true := by unfold clN; rw [List.mem_filter, List.mem_range]
theorem clN_pw (n : Nat) (p : Nat → Bool) : (clN n p).Pairwise (· < ·) := List.Pairwise.filter _ (List.pairwise_lt_range)
theorem clN_of {n : Nat} {p : Nat → Bool} {l : List Nat} (hs : l.Pairwise (· ≤ ·)) (hd : l.Nodup) (hm : ∀ s, s ∈ l ↔ s < 2 ^ n ∧ p s = true) : l = clN n p := by
  refine pw_ext ?_ (clN_pw n p) fun x => by rw [hm, clN_mem]
  exact (List.Pairwise.and hs hd).imp fun h => Nat.lt_of_le_of_ne h.1 h.2
theorem full_inS (n : Nat) : (2 : Nat) ^ n - 1 < 2 ^ n := by have := Nat.two_pow_pos n; omega
theorem bt_full (n u : Nat) : bt (2 ^ n - 1) u = decide (u < n) := by unfold bt; rw [Nat.testBit_two_pow_sub_one]
theorem full_cl {g : List (Nat × Nat)} {n : Nat} (hi : InN n g) : Cl g (2 ^ n - 1) := fun k hk _ => by rw [bt_full]; exact decide_eq_true (hi k hk).1
theorem zero_cl (g : List (Nat × Nat)) : Cl g 0 := fun k _ h => by rw [bt_zero] at h; cases h
theorem cnt_full_eq (n : Nat) : cnt (2 ^ n - 1) n = n := by
  have : ∀ k, k ≤ n → cnt (2 ^ n - 1) k = k := by
    intro k
    induction k with
    | zero => intro _; rfl
    | succ k ih =>
      intro hk
      simp only [cnt, ih (by omega), bt_full, decide_eq_true (show k < n by omega)]
      rfl
  exact this n (Nat.le_refl _)
theorem cnt_zero_inS {n s : Nat} (hs : inS n s) (hn : n ≤ 64) (h : cnt s n = n) : s = 2 ^ n - 1 := by
  refine ext64 hs.1 (by have h2 : (2 : Nat) ^ n ≤ lim := by rw [lim_eq]; exact Nat.pow_le_pow_right (by omega) hn
                        have := Nat.two_pow_pos n; omega) fun u _ => ?_
  rw [bt_full]
  by_cases hu : u < n
  · rw [cnt_full n h u hu, decide_eq_true hu]
  · rw [hs.2 u (by omega), decide_eq_false hu]
/-- The last one of all closed sets is the whole. -/
theorem clN_last {n : Nat} {p : Nat → Bool} (h : p (2 ^ n - 1) = true) : (clN n p).length ≠ 0 ∧ (clN n p)[(clN n p).length - 1]? = some (2 ^ n - 1) := by
  have hl : clN n p = (List.range (2 ^ n - 1)).filter p ++ [2 ^ n - 1] := by
    unfold clN
    conv => lhs; rw [show 2 ^ n = 2 ^ n - 1 + 1 by have := Nat.two_pow_pos n; omega, List.range_succ, List.filter_append]
    simp [h]
  rw [hl]
  refine ⟨by simp, by simp⟩
theorem clN_first {n : Nat} {p : Nat → Bool} (h : p 0 = true) : (clN n p)[0]? = some 0 := by
  unfold clN
  obtain ⟨m, hm⟩ : ∃ m, 2 ^ n = m + 1 := ⟨2 ^ n - 1, by have := Nat.two_pow_pos n; omega⟩
  rw [hm, List.range_succ_eq_map]
  simp [h]
/-- How many ways lead to a set. -/
def wayN (bef : Nat → Nat) (n s : Nat) : Nat := (lvF bef n (cnt s n) s).getD 0
theorem wayN_zero (bef : Nat → Nat) (n : Nat) : wayN bef n 0 = 1 := by unfold wayN; rw [cnt_zero]; rfl
/-- Each set's ways are its ready pairs' ways. -/
theorem wayN_sum {bef : Nat → Nat} {n s : Nat} (hn : n ≤ 64) (hs : inS n s) (h0 : s ≠ 0) : wayN bef n s = sumW (fun x => some (wayN bef n x)) (rdy bef) n s := by
  obtain ⟨k, hk⟩ : ∃ k, cnt s n = k + 1 := by
    refine ⟨cnt s n - 1, ?_⟩
    have : cnt s n ≠ 0 := fun e => h0 (by
      refine ext64 hs.1 (by decide) fun u _ => ?_
      rw [bt_zero]
      cases hb : bt s u with
      | false => rfl
      | true =>
        have hu : u < n := by
          rcases Nat.lt_or_ge u n with h | h
          · exact h
          · rw [hs.2 u h] at hb; cases hb
        have := cnt_del hs.1 (show u < 64 by omega) hb n hu
        omega)
    omega
  unfold wayN
  rw [hk]
  show (nextF (lvF bef n k) (dAll bef (lvF bef n k)) n s).getD 0 = _
  rw [nextF_get hs.1]
  refine sumN_congr n fun v hv => ?_
  unfold tm dAll
  cases hb : bt s v with
  | false => rfl
  | true =>
    have hc := cnt_del hs.1 (show v < 64 by omega) hb n hv
    have hc2 : cnt (del s v) n = k := by omega
    dsimp only
    rw [hc2]
    cases hr : rdy bef (del s v) v with
    | false => simp
    | true =>
      cases hf : lvF bef n k (del s v) with
      | none => simp
      | some x => simp
theorem del_less {s v : Nat} (hs : s < lim) (hv : v < 64) (h : bt s v = true) : del s v < s := by
  have e := add_del hs hv h
  have : del s v ≤ add (del s v) v := Nat.left_le_or
  rw [e] at this
  have hne : del s v ≠ s := fun e2 => by
    have := bt_del_self (s := s) hv
    rw [e2, h] at this; cases this
  omega
end Go.Proofs.YtfcabdgidlnljaaDoor.DiP
