/-
  THE WALKS of the statements BackoffWaits and BackoffTotals: whatever the arguments, the call returns true and writes nothing that was there.
-/
import Derived.Test.YtcbjneidjbfheacBClock
namespace Go.Proofs.Ytcbjneidjbfheac
open Go.RowKit
open BackP
set_option linter.unusedVariables false

theorem law_waits {w : World} (b c n : Int) (hnw : -9223372036854775808 ≤ n ∧ n ≤ 9223372036854775807) :
    Calls Try.prog 3 #[.int .i64 b, .int .i64 c, .int .i64 n] w fun e w' => e = .returned (.bool true) ∧ Below w.heap.size w w' := by
  by_cases hr : RW b c
  · by_cases hn : 1 ≤ n
    · obtain ⟨hb0, hb1, hc0, hc1⟩ := id hr
      obtain ⟨hv0, hv1⟩ : 0 ≤ waitOf b c n ∧ waitOf b c n ≤ c := dbl_bd b c hb0 hc0 _
      have hq : (waitOf b c n != waitOf b c n) = false := by simp
      have HR := Lib.hid hr
      have hn2 := hnw.2
      clear hr hnw
      by_cases htop : n = 9223372036854775807
      · subst htop
        go_enter Try.func3, Try.ntmps3
        go_wp2_with (first
          | (go_at_call 8; refine (anchor_any _).mono ?_; rintro e w1 ⟨rfl, hbel⟩; (have HB := Lib.hid hbel); clear hbel)
          | (go_at_call 9; refine (wait_yes _ _ _ _ HR.out (by omega) (by omega)).mono ?_; rintro e w2 ⟨rfl, rfl⟩)
          | (go_at_call 10; refine (right_yes _ _ _ HR.out).mono ?_; rintro e w2 ⟨rfl, rfl⟩)
          | (go_at_call 11; refine (lawWait_any _ _ _ _ HR.out (by omega) (by omega)).mono ?_; rintro e w2 ⟨rfl, rfl⟩))
        go_ret
        exact ⟨rfl, HB.out⟩
      · have ht2 : (n == 9223372036854775807) = false := by simp; exact htop
        have hn3 : n + 1 ≤ 9223372036854775807 := by omega
        clear htop
        have hmono : waitOf b c n ≤ waitOf b c (n + 1) := by
          have := dbl_mono b c hb0 hc0 (n - 1).toNat
          unfold waitOf
          rw [show (n + 1 - 1).toNat = (n - 1).toNat + 1 by omega]; exact this
        obtain ⟨hu0, hu1⟩ : 0 ≤ waitOf b c (n + 1) ∧ waitOf b c (n + 1) ≤ c := dbl_bd b c hb0 hc0 _
        go_enter Try.func3, Try.ntmps3
        go_wp2_with (first
          | (go_at_call 8; refine (anchor_any _).mono ?_; rintro e w1 ⟨rfl, hbel⟩; (have HB := Lib.hid hbel); clear hbel)
          | (go_at_call 9; refine (wait_yes _ _ _ _ HR.out (by omega) (by omega)).mono ?_; rintro e w2 ⟨rfl, rfl⟩)
          | (go_at_call 10; refine (right_yes _ _ _ HR.out).mono ?_; rintro e w2 ⟨rfl, rfl⟩)
          | (go_at_call 11; refine (lawWait_any _ _ _ _ HR.out (by omega) (by omega)).mono ?_; rintro e w2 ⟨rfl, rfl⟩))
        go_ret
        exact ⟨rfl, HB.out⟩
    · have HR := Lib.hid hr
      have HN : Hid (¬ RW b c ∨ n < 1) := Lib.hid (.inr (by omega))
      clear hr
      go_enter Try.func3, Try.ntmps3
      go_wp2_with (first
        | (go_at_call 8; refine (anchor_any _).mono ?_; rintro e w1 ⟨rfl, hbel⟩; (have HB := Lib.hid hbel); clear hbel)
        | (go_at_call 9; refine (wait_bad _ _ _ _ HN.out).mono ?_; rintro e w2 ⟨rfl, rfl⟩)
        | (go_at_call 10; refine (right_yes _ _ _ HR.out).mono ?_; rintro e w2 ⟨rfl, rfl⟩))
      go_ret
      exact ⟨rfl, HB.out⟩
  · have HR := Lib.hid hr
    have HN : Hid (¬ RW b c ∨ n < 1) := Lib.hid (.inl hr)
    clear hr
    go_enter Try.func3, Try.ntmps3
    go_wp2_with (first
      | (go_at_call 8; refine (anchor_any _).mono ?_; rintro e w1 ⟨rfl, hbel⟩; (have HB := Lib.hid hbel); clear hbel)
      | (go_at_call 9; refine (wait_bad _ _ _ _ HN.out).mono ?_; rintro e w2 ⟨rfl, rfl⟩)
      | (go_at_call 10; refine (right_no _ _ _ HR.out).mono ?_; rintro e w2 ⟨rfl, rfl⟩))
    go_ret
    exact ⟨rfl, HB.out⟩

theorem waitOf_nat (b c : Int) (k : Nat) : waitOf b c ((k : Int) + 1) = dbl b c k := by unfold waitOf; rw [show ((k : Int) + 1 - 1).toNat = k by omega]

set_option maxHeartbeats 1600000 in
theorem law_totals_in {w : World} (b c : Int) (n : Nat) (hr : RW b c) (hn : n ≤ 3000) :
    Calls Try.prog 4 #[.int .i64 b, .int .i64 c, .int .i64 (n : Int)] w fun e w' => e = .returned (.bool true) ∧ Below w.heap.size w w' := by
  obtain ⟨hb0, hb1, hc0, hc1⟩ := id hr
  have HR := Lib.hid hr
  clear hr
  go_enter Try.func4, Try.ntmps4
  go_wp2_with (first
    | (go_at_call 8; refine (anchor_any _).mono ?_; rintro e w1 ⟨rfl, hbel⟩; (have HB := Lib.hid hbel); clear hbel)
    | (go_at_call 12; refine (total_yes _ _ n _ HR.out (by omega)).mono ?_; rintro e w2 ⟨rfl, rfl⟩)
    | (go_at_call 10; refine (right_yes _ _ _ HR.out).mono ?_; rintro e w2 ⟨rfl, rfl⟩))
  go_loop [9, 10] (fun s i => ∃ k : Nat, k ≤ n ∧ i = .int .i64 ((k : Int) + 1) ∧ s = .int .i64 (sumD b c k)) (fun _ i => n + 1 - (intOf i).toNat)
  case atStart => exact ⟨0, by omega, rfl, rfl⟩
  case round =>
    obtain ⟨k, hk, rfl, rfl⟩ := hrel
    obtain ⟨hd0, hd1⟩ := dbl_bd b c hb0 hc0 k
    obtain ⟨hs0, hs1⟩ := sumD_bd b c hb0 hc0 hc1 k
    by_cases hlt : k < n
    · go_wp2_with (go_at_call 11; refine (lawWait_any _ _ _ _ HR.out (by omega) (by omega)).mono ?_; rintro e w2 ⟨rfl, rfl⟩; rw [waitOf_nat])
      go_round
      case rel => exact ⟨k + 1, by omega, by go_num, rfl⟩
      case measure => simp [intOf]; omega
    · obtain rfl : k = n := by omega
      have hq : (sumD b c k == sumD b c k) = true := by simp
      go_wp2
      go_ret
      exact ⟨rfl, HB.out⟩

theorem law_totals {w : World} (b c n : Int) :
    Calls Try.prog 4 #[.int .i64 b, .int .i64 c, .int .i64 n] w fun e w' => e = .returned (.bool true) ∧ Below w.heap.size w w' := by
  by_cases hbig : 3000 < n ∧ n ≤ 1000000
  · obtain ⟨h1, h2⟩ := hbig
    go_enter Try.func4, Try.ntmps4
    go_wp2_with (go_at_call 8; refine (anchor_any _).mono ?_; rintro e w1 ⟨rfl, hbel⟩; (have HB := Lib.hid hbel); clear hbel)
    go_ret
    exact ⟨rfl, HB.out⟩
  · by_cases hr : RW b c
    · by_cases hn : 0 ≤ n ∧ n ≤ 1000000
      · obtain ⟨m, rfl⟩ := Int.eq_ofNat_of_zero_le hn.1
        exact law_totals_in b c m hr (by omega)
      · have HR := Lib.hid hr
        have HN : Hid (¬ RW b c ∨ n < 0 ∨ 1000000 < n) := Lib.hid (.inr (by omega))
        have hn' : n < 0 ∨ 1000000 < n := by omega
        clear hr hbig hn
        rcases hn' with hn' | hn'
        all_goals
          go_enter Try.func4, Try.ntmps4
          go_wp2_with (first
            | (go_at_call 8; refine (anchor_any _).mono ?_; rintro e w1 ⟨rfl, hbel⟩; (have HB := Lib.hid hbel); clear hbel)
            | (go_at_call 12; refine (total_bad _ _ _ _ HN.out).mono ?_; rintro e w2 ⟨rfl, rfl⟩)
            | (go_at_call 10; refine (right_yes _ _ _ HR.out).mono ?_; rintro e w2 ⟨rfl, rfl⟩))
          go_ret
          exact ⟨rfl, HB.out⟩
    · have HR := Lib.hid hr
      have HN : Hid (¬ RW b c ∨ n < 0 ∨ 1000000 < n) := Lib.hid (.inl hr)
      have hn' : n ≤ 3000 ∨ 1000000 < n := by omega
      clear hr hbig
      rcases hn' with hn' | hn'
      all_goals
        go_enter Try.func4, Try.ntmps4
        go_wp2_with (first
          | (go_at_call 8; refine (anchor_any _).mono ?_; rintro e w1 ⟨rfl, hbel⟩; (have HB := Lib.hid hbel); clear hbel)
          | (go_at_call 12; refine (total_bad _ _ _ _ HN.out).mono ?_; rintro e w2 ⟨rfl, rfl⟩)
          | (go_at_call 10; refine (right_no _ _ _ HR.out).mono ?_; rintro e w2 ⟨rfl, rfl⟩))
        go_ret
        exact ⟨rfl, HB.out⟩
end Go.Proofs.Ytcbjneidjbfheac
