/-
  THE WALK of the statement BackoffAdds: whatever the arguments, the call returns true and writes nothing that was there.
-/
import Derived.Test.YtcbjneidjbfheacBLaws
namespace Go.Proofs.Ytcbjneidjbfheac
open Go.RowKit
open BackP
set_option linter.unusedVariables false

theorem waitOf_nat2 (b c : Int) (k : Nat) : waitOf b c ((k : Int) + 2) = dbl b c (k + 1) := by unfold waitOf; rw [show ((k : Int) + 2 - 1).toNat = k + 1 by omega]

def sumOf (b c n : Int) : Int := sumD b c n.toNat
theorem total_int (b c n : Int) (w : World) (hr : RW b c) (h0 : 0 ≤ n) (hn : n ≤ 1000000) :
    Calls Try.prog 12 #[.int .i64 b, .int .i64 c, .int .i64 n] w fun e w' => e = .returned (.tuple #[.int .i64 (sumOf b c n), .int .i64 0]) ∧ w = w' := by
  obtain ⟨m, rfl⟩ := Int.eq_ofNat_of_zero_le h0
  exact total_yes b c m w hr (by omega)

set_option maxHeartbeats 800000 in
theorem law_adds_in {w : World} (b c : Int) (n : Nat) (hr : RW b c) (hn : n ≤ 2000) :
    Calls Try.prog 7 #[.int .i64 b, .int .i64 c, .int .i64 (n : Int)] w fun e w' => e = .returned (.bool true) ∧ Below w.heap.size w w' := by
  obtain ⟨hb0, hb1, hc0, hc1⟩ := id hr
  have HR := Lib.hid hr
  clear hr
  obtain ⟨hd0, hd1⟩ := dbl_bd b c hb0 hc0 n
  obtain ⟨hs0, hs1⟩ := sumD_bd b c hb0 hc0 hc1 n
  have hsame := dbl_same b c hb0 hc0 n
  have hstep : dbl b c (n + 1) = min (2 * dbl b c n) c := rfl
  obtain ⟨v, hv⟩ : ∃ v, v = dbl b c (n + 1) := ⟨_, rfl⟩
  obtain ⟨x, hx⟩ : ∃ x, x = dbl b c n := ⟨_, rfl⟩
  obtain ⟨s, hs⟩ : ∃ s, s = sumD b c n := ⟨_, rfl⟩
  have HW : Hid (waitOf b c ((n : Int) + 1) = x) := Lib.hid (by rw [waitOf_nat, hx])
  have HV : Hid (waitOf b c ((n : Int) + 2) = v) := Lib.hid (by rw [waitOf_nat2, hv])
  have HS : Hid (sumD b c n = s) := Lib.hid hs.symm
  have HS1 : Hid (sumOf b c ((n : Int) + 1) = s + x) := Lib.hid (by unfold sumOf; rw [show ((n : Int) + 1).toNat = n + 1 by omega, hs, hx]; rfl)
  rw [← hx] at hd0 hd1 hstep hsame
  rw [← hv] at hstep hsame
  rw [← hs] at hs0 hs1
  clear hv hx hs
  have q0 : (s + x != s + x) = false := by simp
  by_cases h1 : x = c
  · obtain rfl : v = x := by rw [hsame]; exact .inl h1
    have q1 : (v == v) = true := by simp
    have q2 : (v == c) = true := by simp [h1]
    clear hsame hstep h1
    go_enter Try.func7, Try.ntmps7
    go_wp2_with (first
      | (go_at_call 8; refine (anchor_any _).mono ?_; rintro e w1 ⟨rfl, hbel⟩; (have HB := Lib.hid hbel); clear hbel)
      | (go_at_call 10; refine (right_yes _ _ _ HR.out).mono ?_; rintro e w2 ⟨rfl, rfl⟩))
    refine (total_yes b c n _ HR.out (by omega)).mono ?_
    rintro e w2 ⟨rfl, rfl⟩
    rw [HS.out]
    go_wp2_with fail
    refine (wait_yes b c ((n : Int) + 1) _ HR.out (by omega) (by omega)).mono ?_
    rintro e w2 ⟨rfl, rfl⟩
    rw [HW.out]
    go_wp2_with fail
    refine (total_int b c ((n : Int) + 1) _ HR.out (by omega) (by omega)).mono ?_
    rintro e w2 ⟨rfl, rfl⟩
    rw [HS1.out]
    go_wp2_with fail
    refine (wait_yes b c ((n : Int) + 2) _ HR.out (by omega) (by omega)).mono ?_
    rintro e w2 ⟨rfl, rfl⟩
    rw [HV.out]
    go_wp2
    all_goals
      go_ret
      exact ⟨rfl, HB.out⟩
  · by_cases h2 : b = 0
    · obtain rfl : v = x := by rw [hsame]; exact .inr h2
      have q1 : (v == v) = true := by simp
      have q2 : (v == c) = false := by simp [h1]
      have q3 : (b == 0) = true := by simp [h2]
      have HB0 := Lib.hid h2
      clear hsame hstep h1 h2
      go_enter Try.func7, Try.ntmps7
      go_wp2_with (first
        | (go_at_call 8; refine (anchor_any _).mono ?_; rintro e w1 ⟨rfl, hbel⟩; (have HB := Lib.hid hbel); clear hbel)
        | (go_at_call 10; refine (right_yes _ _ _ HR.out).mono ?_; rintro e w2 ⟨rfl, rfl⟩))
      refine (total_yes b c n _ HR.out (by omega)).mono ?_
      rintro e w2 ⟨rfl, rfl⟩
      rw [HS.out]
      go_wp2_with fail
      refine (wait_yes b c ((n : Int) + 1) _ HR.out (by omega) (by omega)).mono ?_
      rintro e w2 ⟨rfl, rfl⟩
      rw [HW.out]
      go_wp2_with fail
      refine (total_int b c ((n : Int) + 1) _ HR.out (by omega) (by omega)).mono ?_
      rintro e w2 ⟨rfl, rfl⟩
      rw [HS1.out]
      go_wp2_with fail
      refine (wait_yes b c ((n : Int) + 2) _ HR.out (by omega) (by omega)).mono ?_
      rintro e w2 ⟨rfl, rfl⟩
      rw [HV.out]
      go_wp2
      all_goals
        go_ret
        exact ⟨rfl, HB.out⟩
    · have hne : v ≠ x := by intro e; rcases hsame.1 e with h | h; exact h1 h; exact h2 h
      have q1 : (v == x) = false := by simp [hne]
      have q2 : (x == c) = false := by simp [h1]
      have q3 : (b == 0) = false := by simp [h2]
      clear hsame h1 h2 hne
      by_cases h3 : 2 * x ≤ c
      · have q4 : (v == 2 * x) = true := by simp; omega
        clear hstep
        go_enter Try.func7, Try.ntmps7
        go_wp2_with (first
          | (go_at_call 8; refine (anchor_any _).mono ?_; rintro e w1 ⟨rfl, hbel⟩; (have HB := Lib.hid hbel); clear hbel)
          | (go_at_call 10; refine (right_yes _ _ _ HR.out).mono ?_; rintro e w2 ⟨rfl, rfl⟩))
        refine (total_yes b c n _ HR.out (by omega)).mono ?_
        rintro e w2 ⟨rfl, rfl⟩
        rw [HS.out]
        go_wp2_with fail
        refine (wait_yes b c ((n : Int) + 1) _ HR.out (by omega) (by omega)).mono ?_
        rintro e w2 ⟨rfl, rfl⟩
        rw [HW.out]
        go_wp2_with fail
        refine (total_int b c ((n : Int) + 1) _ HR.out (by omega) (by omega)).mono ?_
        rintro e w2 ⟨rfl, rfl⟩
        rw [HS1.out]
        go_wp2_with fail
        refine (wait_yes b c ((n : Int) + 2) _ HR.out (by omega) (by omega)).mono ?_
        rintro e w2 ⟨rfl, rfl⟩
        rw [HV.out]
        go_wp2
        all_goals
          go_ret
          exact ⟨rfl, HB.out⟩
      · have q4 : (v == c) = true := by simp; omega
        clear hstep
        go_enter Try.func7, Try.ntmps7
        go_wp2_with (first
          | (go_at_call 8; refine (anchor_any _).mono ?_; rintro e w1 ⟨rfl, hbel⟩; (have HB := Lib.hid hbel); clear hbel)
          | (go_at_call 10; refine (right_yes _ _ _ HR.out).mono ?_; rintro e w2 ⟨rfl, rfl⟩))
        refine (total_yes b c n _ HR.out (by omega)).mono ?_
        rintro e w2 ⟨rfl, rfl⟩
        rw [HS.out]
        go_wp2_with fail
        refine (wait_yes b c ((n : Int) + 1) _ HR.out (by omega) (by omega)).mono ?_
        rintro e w2 ⟨rfl, rfl⟩
        rw [HW.out]
        go_wp2_with fail
        refine (total_int b c ((n : Int) + 1) _ HR.out (by omega) (by omega)).mono ?_
        rintro e w2 ⟨rfl, rfl⟩
        rw [HS1.out]
        go_wp2_with fail
        refine (wait_yes b c ((n : Int) + 2) _ HR.out (by omega) (by omega)).mono ?_
        rintro e w2 ⟨rfl, rfl⟩
        rw [HV.out]
        go_wp2
        all_goals
          go_ret
          exact ⟨rfl, HB.out⟩

theorem law_adds {w : World} (b c n : Int) :
    Calls Try.prog 7 #[.int .i64 b, .int .i64 c, .int .i64 n] w fun e w' => e = .returned (.bool true) ∧ Below w.heap.size w w' := by
  by_cases hr : RW b c
  · by_cases hn0 : n < 0
    · have HR := Lib.hid hr
      clear hr
      go_enter Try.func7, Try.ntmps7
      go_wp2_with (first
        | (go_at_call 8; refine (anchor_any _).mono ?_; rintro e w1 ⟨rfl, hbel⟩; (have HB := Lib.hid hbel); clear hbel)
        | (go_at_call 10; refine (right_yes _ _ _ HR.out).mono ?_; rintro e w2 ⟨rfl, rfl⟩))
      go_ret
      exact ⟨rfl, HB.out⟩
    · by_cases hn2 : 2000 < n
      · have HR := Lib.hid hr
        clear hr
        go_enter Try.func7, Try.ntmps7
        go_wp2_with (first
          | (go_at_call 8; refine (anchor_any _).mono ?_; rintro e w1 ⟨rfl, hbel⟩; (have HB := Lib.hid hbel); clear hbel)
          | (go_at_call 10; refine (right_yes _ _ _ HR.out).mono ?_; rintro e w2 ⟨rfl, rfl⟩))
        go_ret
        exact ⟨rfl, HB.out⟩
      · obtain ⟨m, rfl⟩ := Int.eq_ofNat_of_zero_le (show 0 ≤ n by omega)
        exact law_adds_in b c m hr (by omega)
  · have HR := Lib.hid hr
    clear hr
    go_enter Try.func7, Try.ntmps7
    go_wp2_with (first
      | (go_at_call 8; refine (anchor_any _).mono ?_; rintro e w1 ⟨rfl, hbel⟩; (have HB := Lib.hid hbel); clear hbel)
      | (go_at_call 10; refine (right_no _ _ _ HR.out).mono ?_; rintro e w2 ⟨rfl, rfl⟩))
    go_ret
    exact ⟨rfl, HB.out⟩
end Go.Proofs.Ytcbjneidjbfheac
