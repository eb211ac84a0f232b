/-
  PLAIN MATHEMATICS for LatticeTurned: what a set leaves; the ways through, counted from either side.
-/
import Derived.Test.YtfcabdgidlnljaaDoorLTurn
import Derived.Test.YtfcabdgidlnljaaDoorDCirc
namespace Go.Proofs.YtfcabdgidlnljaaDoor
open Go.RowKit
open DiP
set_option linter.unusedVariables false
set_option linter.unusedSimpArgs false
/-- The nodes below n that a set leaves. -/
def cpl (n s : Nat) : Nat := 2 ^ n - (s + 1)
theorem cpl_lt (n s : Nat) : cpl n s < 2 ^ n := by unfold cpl; have := Nat.two_pow_pos n; omega
theorem cpl_cpl {n s : Nat} (h : s < 2 ^ n) : cpl n (cpl n s) = s := by unfold cpl; omega
theorem bt_cpl {n s : Nat} (h : s < 2 ^ n) (u : Nat) : bt (cpl n s) u = (decide (u < n) && !bt s u) := by
  unfold bt cpl
  exact Nat.testBit_two_pow_sub_succ h u
theorem cl_cpl1 {g : List (Nat × Nat)} {n s : Nat} (hi : InN n g) (hs : s < 2 ^ n) (h : Cl g s) : Cl (turnG g) (cpl n s) := fun k hk hb => by
  have e : E g (fb (turnG g) k) (fa (turnG g) k) := (E_turn g _ _).1 ⟨k, hk, rfl, rfl⟩
  have h2 := inN_turn hi k hk
  rw [bt_cpl hs, Bool.and_eq_true, decide_eq_true_eq, Bool.not_eq_true'] at hb ⊢
  refine ⟨h2.1, ?_⟩
  cases hc : bt s (fa (turnG g) k) with
  | false => rfl
  | true => rw [h.E e hc] at hb; exact hb.2
theorem cl_cpl {g : List (Nat × Nat)} {n s : Nat} (hi : InN n g) (hs : s < 2 ^ n) : Cl (turnG g) (cpl n s) ↔ Cl g s := by
  refine ⟨fun h => ?_, cl_cpl1 hi hs⟩
  have h2 := cl_cpl1 (inN_turn hi) (cpl_lt n s) h
  rw [turn_turn, cpl_cpl hs] at h2
  exact h2
theorem closed_cpl {g : List (Nat × Nat)} {n s : Nat} (hi : InN n g) (hs : s < 2 ^ n) : closedB (turnG g) (cpl n s) = closedB g s := by
  rw [Bool.eq_iff_iff, closedB_iff, closedB_iff, cl_cpl hi hs]
theorem clN_turn {g : List (Nat × Nat)} {n : Nat} (hi : InN n g) : clN n (closedB (turnG g)) = ((clN n (closedB g)).map (cpl n)).reverse := by
  refine pw_ext (clN_pw _ _) ?_ fun x => ?_
  · rw [List.pairwise_reverse, List.pairwise_map]
    refine (clN_pw n (closedB g)).imp_of_mem fun {a b} ha hb hab => ?_
    have h1 := (clN_mem.1 ha).1
    have h2 := (clN_mem.1 hb).1
    unfold cpl
    omega
  · rw [List.mem_reverse, List.mem_map, clN_mem]
    constructor
    · rintro ⟨h1, h2⟩
      refine ⟨cpl n x, clN_mem.2 ⟨cpl_lt n x, ?_⟩, cpl_cpl h1⟩
      have h3 := closed_cpl (s := cpl n x) hi (cpl_lt n x)
      rw [cpl_cpl h1] at h3
      rw [← h3]; exact h2
    · rintro ⟨y, hy, rfl⟩
      obtain ⟨h1, h2⟩ := clN_mem.1 hy
      exact ⟨cpl_lt n y, by rw [closed_cpl hi h1]; exact h2⟩
theorem clN_turn_len {g : List (Nat × Nat)} {n : Nat} (hi : InN n g) : (clN n (closedB (turnG g))).length = (clN n (closedB g)).length := by
  rw [clN_turn hi, List.length_reverse, List.length_map]
theorem clN_turn_at {g : List (Nat × Nat)} {n i : Nat} (hi : InN n g) (h : i < (clN n (closedB g)).length) : (clN n (closedB (turnG g))).getD ((clN n (closedB g)).length - 1 - i) 0 = cpl n ((clN n (closedB g)).getD i 0) := by
  rw [clN_turn hi, List.getD_eq_getElem?_getD, List.getElem?_reverse (by rw [List.length_map]; omega), List.length_map, List.getElem?_map, List.getD_eq_getElem?_getD]
  rw [show (clN n (closedB g)).length - 1 - ((clN n (closedB g)).length - 1 - i) = i by omega, List.getElem?_eq_getElem h]
  rfl
theorem goes_turn {g : List (Nat × Nat)} {n : Nat} (hi : InN n g) (hn : n ≤ 64) (h : Goes (befG g) n n) : Goes (befG (turnG g)) n n :=
  goes_of_no_circle (inN_turn hi) hn fun a _ hw => no_circle hi hn h (way_turn_iff.1 hw)
theorem goes_turn_iff {g : List (Nat × Nat)} {n : Nat} (hi : InN n g) (hn : n ≤ 64) : Goes (befG (turnG g)) n n ↔ Goes (befG g) n n :=
  ⟨fun h => by have h2 := goes_turn (inN_turn hi) hn h; rw [turn_turn] at h2; exact h2, goes_turn hi hn⟩
/-! ### Sums -/
theorem sumN_zero : ∀ n, sumN (fun _ => 0) n = 0
  | 0 => rfl
  | n + 1 => by rw [sumN, sumN_zero n]
theorem sumN_plus (f h : Nat → Nat) : ∀ n, sumN (fun v => f v + h v) n = sumN f n + sumN h n
  | 0 => rfl
  | n + 1 => by rw [sumN, sumN, sumN, sumN_plus f h n]; omega
theorem sumN_times (f : Nat → Nat) (c : Nat) : ∀ n, sumN (fun v => f v * c) n = sumN f n * c
  | 0 => by simp [sumN]
  | n + 1 => by rw [sumN, sumN, sumN_times f c n, Nat.add_mul]
theorem sumN_swap (f : Nat → Nat → Nat) (b : Nat) : ∀ a, sumN (fun i => sumN (f i) b) a = sumN (fun j => sumN (fun i => f i j) a) b
  | 0 => by rw [sumN]; exact (sumN_zero b).symm
  | a + 1 => by
    rw [sumN, sumN_swap f b a, ← sumN_plus]
    exact sumN_congr b fun v _ => rfl
theorem sumN_one (f : Nat → Nat) (c : Nat) : ∀ n, sumN (fun t => if t = c then f t else 0) n = if c < n then f c else 0
  | 0 => rfl
  | n + 1 => by
    rw [sumN, sumN_one f c n]
    by_cases h : n = c
    · subst h; rw [if_neg (by omega), if_pos rfl, if_pos (by omega)]; omega
    · rw [if_neg h]
      by_cases h2 : c < n
      · rw [if_pos h2, if_pos (by omega)]; rfl
      · rw [if_neg h2, if_neg (by omega)]
/-- Pairs, told by either end. -/
theorem sum_pairs {n v : Nat} (hn : n ≤ 64) (hv : v < n) (F : Nat → Nat → Nat) :
    sumN (fun s => if bt s v = false then F s (add s v) else 0) (2 ^ n) = sumN (fun t => if bt t v = true then F (del t v) t else 0) (2 ^ n) := by
  have h64 : (2 : Nat) ^ n ≤ lim := by rw [lim_eq]; exact Nat.pow_le_pow_right (by omega) hn
  have e1 : sumN (fun s => if bt s v = false then F s (add s v) else 0) (2 ^ n) = sumN (fun s => sumN (fun t => if t = add s v ∧ bt s v = false then F s t else 0) (2 ^ n)) (2 ^ n) := by
    refine sumN_congr _ fun s hs => ?_
    by_cases h : bt s v = false
    · rw [if_pos h]
      have h2 := sumN_one (fun t => F s t) (add s v) (2 ^ n)
      rw [if_pos ((inS_iff hn).1 (inS_add ((inS_iff hn).2 hs) hv hn))] at h2
      rw [← h2]
      refine sumN_congr _ fun t _ => ?_
      by_cases e : t = add s v
      · rw [if_pos e, if_pos ⟨e, h⟩]
      · rw [if_neg e, if_neg (fun k => e k.1)]
    · rw [if_neg h]
      exact (sumN_zero (2 ^ n)).symm.trans (sumN_congr _ fun t _ => by rw [if_neg (fun k => h k.2)])
  have e2 : sumN (fun t => if bt t v = true then F (del t v) t else 0) (2 ^ n) = sumN (fun t => sumN (fun s => if t = add s v ∧ bt s v = false then F s t else 0) (2 ^ n)) (2 ^ n) := by
    refine sumN_congr _ fun t ht => ?_
    by_cases h : bt t v = true
    · rw [if_pos h]
      have h2 := sumN_one (fun s => F s t) (del t v) (2 ^ n)
      rw [if_pos ((inS_iff hn).1 (inS_del v (by omega) ((inS_iff hn).2 ht)))] at h2
      rw [← h2]
      refine sumN_congr _ fun s hs => ?_
      by_cases e : s = del t v
      · rw [if_pos e, if_pos]
        rw [e]
        exact ⟨(add_del (by omega) (by omega) h).symm, bt_del_self (by omega)⟩
      · rw [if_neg e, if_neg]
        rintro ⟨k1, k2⟩
        exact e (by rw [k1]; exact (del_add (by omega) (by omega) k2).symm)
    · rw [if_neg h]
      refine (sumN_zero (2 ^ n)).symm.trans (sumN_congr _ fun s hs => ?_)
      rw [if_neg]
      rintro ⟨k1, k2⟩
      rw [k1, bt_add] at h
      simp at h
  rw [e1, e2]
  exact sumN_swap _ _ _
section
variable {g : List (Nat × Nat)} {n : Nat}
theorem way_cl {s : Nat} (hi : InN n g) (hn : n ≤ 64) (hg : Goes (befG g) n n) (h : wayN (befG g) n s ≠ 0) : Cl g s := by
  unfold wayN at h
  have h2 : (lvF (befG g) n (cnt s n) s).isSome = true := by
    cases hc : lvF (befG g) n (cnt s n) s with
    | none => rw [hc] at h; exact (h rfl).elim
    | some x => rfl
  exact ((lv_has hi hn hg _ _).1 h2).2.2
/-- The ways from a set to the whole. -/
def wayU (g : List (Nat × Nat)) (n s : Nat) : Nat := wayN (befG (turnG g)) n (cpl n s)
theorem wayU_cl {s : Nat} (hi : InN n g) (hn : n ≤ 64) (hg : Goes (befG g) n n) (hs : s < 2 ^ n) (h : wayU g n s ≠ 0) : Cl g s :=
  (cl_cpl hi hs).1 (way_cl (inN_turn hi) hn (goes_turn hi hn hg) h)
theorem no_self (hi : InN n g) (hn : n ≤ 64) (hg : Goes (befG g) n n) {u v : Nat} (e : E g u v) : u ≠ v := fun h => by
  subst h
  exact no_circle hi hn hg (.one e)
theorem way_down (hi : InN n g) (hn : n ≤ 64) (hg : Goes (befG g) n n) {t : Nat} (ht : t < 2 ^ n) (h0 : t ≠ 0) :
    wayN (befG g) n t * wayU g n t = sumN (fun v => if bt t v = true then wayN (befG g) n (del t v) * wayU g n t else 0) n := by
  have h64 : (2 : Nat) ^ n ≤ lim := by rw [lim_eq]; exact Nat.pow_le_pow_right (by omega) hn
  conv => lhs; rw [wayN_sum hn ((inS_iff hn).2 ht) h0]
  unfold sumW
  rw [← sumN_times]
  refine sumN_congr n fun v hv => ?_
  unfold tm
  cases hb : bt t v with
  | false => simp
  | true =>
    cases hr : rdy (befG g) (del t v) v with
    | true => simp
    | false =>
      by_cases h1 : wayN (befG g) n (del t v) = 0
      · simp [h1]
      · by_cases h2 : wayU g n t = 0
        · simp [h2]
        · exfalso
          have hc := wayU_cl hi hn hg ht h2
          have := (rdy_iff hi hn (del_lt v (show t < lim by omega))).2 ⟨bt_del_self (by omega), fun u e => by
            rw [bt_del (by omega) (by have := (e.lt hi).1; omega), hc.E e hb, decide_eq_false (fun k => no_self hi hn hg e k.symm)]; rfl⟩
          rw [hr] at this; cases this
theorem del_cpl {s v : Nat} (hn : n ≤ 64) (hs : s < 2 ^ n) (hv : v < n) (hb : bt s v = false) : del (cpl n s) v = cpl n (add s v) := by
  have h64 : (2 : Nat) ^ n ≤ lim := by rw [lim_eq]; exact Nat.pow_le_pow_right (by omega) hn
  have ha : add s v < 2 ^ n := (inS_iff hn).1 (inS_add ((inS_iff hn).2 hs) hv hn)
  refine ext64 (del_lt v (by have := cpl_lt n s; omega)) (by have := cpl_lt n (add s v); omega) fun u hu => ?_
  rw [bt_del (by omega) hu, bt_cpl hs, bt_cpl ha, bt_add]
  by_cases e : v = u
  · subst e; simp
  · simp [e]
theorem way_up (hi : InN n g) (hn : n ≤ 64) (hg : Goes (befG g) n n) {s : Nat} (hs : s < 2 ^ n) (h0 : cpl n s ≠ 0) :
    wayN (befG g) n s * wayU g n s = sumN (fun v => if bt s v = false then wayN (befG g) n s * wayU g n (add s v) else 0) n := by
  have h64 : (2 : Nat) ^ n ≤ lim := by rw [lim_eq]; exact Nat.pow_le_pow_right (by omega) hn
  rw [Nat.mul_comm]
  have hcs := cpl_lt n s
  conv => lhs; rw [wayU, wayN_sum hn ((inS_iff hn).2 hcs) h0]
  unfold sumW
  rw [← sumN_times]
  refine sumN_congr n fun v hv => ?_
  unfold tm
  rw [bt_cpl hs, decide_eq_true hv, Bool.true_and]
  cases hb : bt s v with
  | true => simp
  | false =>
    rw [del_cpl hn hs hv hb]
    have ha : add s v < 2 ^ n := (inS_iff hn).1 (inS_add ((inS_iff hn).2 hs) hv hn)
    cases hr : rdy (befG (turnG g)) (cpl n (add s v)) v with
    | true => simp only [Bool.not_false, Bool.and_self, if_true, Option.getD_some]; rw [Nat.mul_comm]; rfl
    | false =>
      by_cases h1 : wayN (befG g) n s = 0
      · simp [h1]
      · by_cases h2 : wayU g n (add s v) = 0
        · simp [h2]
        · exfalso
          have hc := way_cl hi hn hg h1
          have := (rdy_iff (inN_turn hi) hn (show cpl n (add s v) < lim by have := cpl_lt n (add s v); omega)).2 ⟨by rw [bt_cpl ha v, bt_add s v v]; simp, fun u e => by
            have e2 := (E_turn g u v).1 e
            have hun := (e2.lt hi).2
            rw [bt_cpl ha, decide_eq_true hun, bt_add, decide_eq_false (no_self hi hn hg e2), Bool.or_false, Bool.true_and]
            cases hx : bt s u with
            | false => rfl
            | true => rw [hc.E e2 hx] at hb; cases hb⟩
          rw [hr] at this; cases this
/-- All ways, by the sets of one size. -/
def lvlS (g : List (Nat × Nat)) (n k : Nat) : Nat := sumN (fun s => if cnt s n = k then wayN (befG g) n s * wayU g n s else 0) (2 ^ n)
theorem cnt_nil {s : Nat} (hn : n ≤ 64) (hs : s < 2 ^ n) (h : cnt s n = 0) : s = 0 := by
  have hS := (inS_iff hn).2 hs
  refine ext64 hS.1 (by decide) fun u hu => ?_
  rw [bt_zero]
  cases hb : bt s u with
  | false => rfl
  | true =>
    have hun : u < n := by
      apply Nat.lt_of_not_le
      intro h2
      rw [hS.2 u h2] at hb; cases hb
    have := cnt_del hS.1 hu hb n hun
    omega
theorem lvl_step (hi : InN n g) (hn : n ≤ 64) (hg : Goes (befG g) n n) {k : Nat} (hk : k < n) : lvlS g n k = lvlS g n (k + 1) := by
  have h64 : (2 : Nat) ^ n ≤ lim := by rw [lim_eq]; exact Nat.pow_le_pow_right (by omega) hn
  have e1 : lvlS g n k = sumN (fun s => sumN (fun v => if bt s v = false then (if cnt s n = k then wayN (befG g) n s * wayU g n (add s v) else 0) else 0) n) (2 ^ n) := by
    unfold lvlS
    refine sumN_congr _ fun s hs => ?_
    by_cases hc : cnt s n = k
    · rw [if_pos hc, way_up hi hn hg hs (fun h => by
        have : s = 2 ^ n - 1 := by unfold cpl at h; omega
        rw [this, cnt_full_eq] at hc; omega)]
      exact sumN_congr _ fun v _ => by simp only [if_pos hc]
    · rw [if_neg hc]
      exact (sumN_zero n).symm.trans (sumN_congr _ fun v _ => by simp only [if_neg hc]; split <;> rfl)
  have e2 : lvlS g n (k + 1) = sumN (fun t => sumN (fun v => if bt t v = true then (if cnt (del t v) n = k then wayN (befG g) n (del t v) * wayU g n t else 0) else 0) n) (2 ^ n) := by
    unfold lvlS
    refine sumN_congr _ fun t ht => ?_
    by_cases hc : cnt t n = k + 1
    · rw [if_pos hc, way_down hi hn hg ht (fun h => by rw [h, cnt_zero] at hc; omega)]
      refine sumN_congr _ fun v hv => ?_
      by_cases hb : bt t v = true
      · have := cnt_del (show t < lim by omega) (show v < 64 by omega) hb n hv
        rw [if_pos hb, if_pos hb, if_pos (by omega)]
      · rw [if_neg hb, if_neg hb]
    · rw [if_neg hc]
      refine (sumN_zero n).symm.trans (sumN_congr _ fun v hv => ?_)
      by_cases hb : bt t v = true
      · have := cnt_del (show t < lim by omega) (show v < 64 by omega) hb n hv
        rw [if_pos hb, if_neg (by omega)]
      · rw [if_neg hb]
  rw [e1, e2, sumN_swap, sumN_swap (fun t v => if bt t v = true then (if cnt (del t v) n = k then wayN (befG g) n (del t v) * wayU g n t else 0) else 0)]
  exact sumN_congr n fun v hv => sum_pairs hn hv (fun s t => if cnt s n = k then wayN (befG g) n s * wayU g n t else 0)
theorem lvl_all (hi : InN n g) (hn : n ≤ 64) (hg : Goes (befG g) n n) : ∀ k, k ≤ n → lvlS g n k = lvlS g n 0
  | 0, _ => rfl
  | k + 1, h => by rw [← lvl_step hi hn hg (by omega)]; exact lvl_all hi hn hg k (by omega)
/-- As many ways through from either side. -/
theorem ways_turn (hi : InN n g) (hn : n ≤ 64) (hg : Goes (befG g) n n) : wayN (befG (turnG g)) n (2 ^ n - 1) = wayN (befG g) n (2 ^ n - 1) := by
  have hp := Nat.two_pow_pos n
  have e0 : lvlS g n 0 = wayU g n 0 := by
    have h := sumN_one (fun s => wayN (befG g) n s * wayU g n s) 0 (2 ^ n)
    rw [if_pos hp, wayN_zero, Nat.one_mul] at h
    rw [← h]
    refine sumN_congr _ fun s hs => ?_
    by_cases e : s = 0
    · subst e; rw [if_pos (cnt_zero n), if_pos rfl]
    · rw [if_neg e, if_neg (fun h2 => e (cnt_nil hn hs h2))]
  have e1 : lvlS g n n = wayN (befG g) n (2 ^ n - 1) := by
    have h := sumN_one (fun s => wayN (befG g) n s * wayU g n s) (2 ^ n - 1) (2 ^ n)
    have hz : wayU g n (2 ^ n - 1) = 1 := by
      unfold wayU
      rw [show cpl n (2 ^ n - 1) = 0 by unfold cpl; omega]
      exact wayN_zero _ _
    rw [if_pos (by omega), hz, Nat.mul_one] at h
    rw [← h]
    refine sumN_congr _ fun s hs => ?_
    by_cases e : s = 2 ^ n - 1
    · rw [e, if_pos (cnt_full_eq n), if_pos rfl]
    · rw [if_neg e, if_neg (fun h2 => e (cnt_zero_inS ((inS_iff hn).2 hs) hn h2))]
  have h2 := lvl_all hi hn hg n (Nat.le_refl _)
  rw [e0, e1] at h2
  rw [h2]
  unfold wayU
  rw [show cpl n 0 = 2 ^ n - 1 by unfold cpl; omega]
end
end Go.Proofs.YtfcabdgidlnljaaDoor
