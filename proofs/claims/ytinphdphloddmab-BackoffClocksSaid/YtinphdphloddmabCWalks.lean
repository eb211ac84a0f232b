/-
  CONTRACTS of the waits of package backoff, and of the statements' own wait, over this translation.
-/
import Derived.Test.YtinphdphloddmabChecked
import Derived.Test.YtinphdphloddmabBPure
import Derived.WalkKit
import Derived.WalkSpells
import Derived.Below
import Derived.Lib.Hide
namespace Go.Proofs.Ytinphdphloddmab
open Go.RowKit
open BackP
set_option linter.unusedVariables false

theorem ret_int {k : IntKind} {a b : Int} (h : a = b) : Ending.returned (.int k a) = .returned (.int k b) := by rw [h]
theorem tup2_int {a b c d : Int} (h : a = b) (h' : c = d) : Ending.returned (.tuple #[.int .i64 a, .int .i64 c]) = .returned (.tuple #[.int .i64 b, .int .i64 d]) := by rw [h, h']

theorem rightWait_yes (n : Int) (w : World) (h0 : 0 ≤ n) (h1 : n ≤ 1048576) : Calls Try.prog 65 #[.int .i64 n] w fun e w' => e = .returned (.bool true) ∧ w = w' := by
  go_enter Try.func65, Try.ntmps65
  go_wp2
  go_ret
  exact ⟨rfl, rfl⟩
theorem rightWait_no (n : Int) (w : World) (h : n < 0 ∨ 1048576 < n) : Calls Try.prog 65 #[.int .i64 n] w fun e w' => e = .returned (.bool false) ∧ w = w' := by
  rcases h with h | h
  · go_enter Try.func65, Try.ntmps65
    go_wp2
    go_ret
    exact ⟨rfl, rfl⟩
  · have h0 : 0 ≤ n := by omega
    have hd : decide (n ≤ 1048576) = false := by simp; omega
    go_enter Try.func65, Try.ntmps65
    go_wp2
    go_ret
    exact ⟨rfl, rfl⟩

def twice (x c : Int) : Int := min (2 * x) c
theorem doubled_any (x c : Int) (w : World) (h0 : 0 ≤ x) (h1 : x ≤ 1048576) (h2 : 0 ≤ c) (h3 : c ≤ 1048576) : Calls Try.prog 66 #[.int .i64 x, .int .i64 c] w fun e w' => e = .returned (.int .i64 (twice x c)) ∧ w = w' := by
  by_cases h : 2 * x ≤ c
  · have E : Hid (twice x c = 2 * x) := Lib.hid (by unfold twice; omega)
    go_enter Try.func66, Try.ntmps66
    go_wp2
    all_goals
      go_ret
      exact ⟨ret_int (by rw [E.out]), rfl⟩
  · have E : Hid (twice x c = c) := Lib.hid (by unfold twice; omega)
    go_enter Try.func66, Try.ntmps66
    go_wp2
    all_goals
      go_ret
      exact ⟨ret_int (by rw [E.out]), rfl⟩
theorem dbl_twice (b c : Int) (k : Nat) : twice (dbl b c k) c = dbl b c (k + 1) := rfl

/-- A base and a cap that are right. -/
def RW (b c : Int) : Prop := 0 ≤ b ∧ b ≤ 1048576 ∧ 0 ≤ c ∧ c ≤ 1048576

theorem wait_bad (b c n : Int) (w : World) (h : ¬ RW b c ∨ n < 1) : Calls Try.prog 50 #[.int .i64 b, .int .i64 c, .int .i64 n] w fun e w' => e = .returned (.tuple #[.int .i64 0, .int .i64 12]) ∧ w = w' := by
  by_cases hb : 0 ≤ b ∧ b ≤ 1048576
  · obtain ⟨hb0, hb1⟩ := hb
    by_cases hc : 0 ≤ c ∧ c ≤ 1048576
    · obtain ⟨hc0, hc1⟩ := hc
      have hn : n < 1 := by
        rcases h with h | h
        · exact absurd ⟨hb0, hb1, hc0, hc1⟩ h
        · exact h
      clear h
      go_enter Try.func50, Try.ntmps50
      go_wp2_with (go_at_call 65; refine (rightWait_yes _ _ (by omega) (by omega)).mono ?_; rintro e w' ⟨rfl, rfl⟩)
      go_ret2
      exact ⟨rfl, rfl⟩
    · have hc' : c < 0 ∨ 1048576 < c := by omega
      have HC := Lib.hid hc'
      clear h hc hc'
      go_enter Try.func50, Try.ntmps50
      go_wp2_with fail
      refine (rightWait_yes b _ hb0 hb1).mono ?_
      rintro e w' ⟨rfl, rfl⟩
      go_wp2_with fail
      refine (rightWait_no c _ HC.out).mono ?_
      rintro e w' ⟨rfl, rfl⟩
      go_wp2
      go_ret2
      exact ⟨rfl, rfl⟩
  · have hb' : b < 0 ∨ 1048576 < b := by omega
    have HB := Lib.hid hb'
    clear h hb hb'
    go_enter Try.func50, Try.ntmps50
    go_wp2_with (go_at_call 65; refine (rightWait_no b _ HB.out).mono ?_; rintro e w' ⟨rfl, rfl⟩)
    go_ret2
    exact ⟨rfl, rfl⟩

/-- The n-th wait. -/
def waitOf (b c n : Int) : Int := dbl b c (n - 1).toNat

set_option maxHeartbeats 1600000 in
theorem wait_yes (b c n : Int) (w : World) (hr : RW b c) (hn : 1 ≤ n) (hn2 : n ≤ 9223372036854775807) :
    Calls Try.prog 50 #[.int .i64 b, .int .i64 c, .int .i64 n] w fun e w' => e = .returned (.tuple #[.int .i64 (waitOf b c n), .int .i64 0]) ∧ w = w' := by
  obtain ⟨hb0, hb1, hc0, hc1⟩ := hr
  have start : ∀ m : Int, Hid (m = min b c) → m = dbl b c 0 := fun m h => h.out
  obtain ⟨m, hm⟩ : ∃ m, m = min b c := ⟨_, rfl⟩
  by_cases hbc : b ≤ c
  all_goals
    have HM : Hid (dbl b c 0 = if b ≤ c then b else c) := Lib.hid (by show min b c = _; split <;> omega)
    clear hm start
    go_enter Try.func50, Try.ntmps50
    go_wp2_with (go_at_call 65; refine (rightWait_yes _ _ (by omega) (by omega)).mono ?_; rintro e w' ⟨rfl, rfl⟩)
    go_loop [8, 9] (fun x i => ∃ k : Nat, (k : Int) + 1 ≤ n ∧ i = .int .i64 ((k : Int) + 1) ∧ x = .int .i64 (dbl b c k)) (fun _ i => (n - intOf i).toNat)
    case atStart => exact ⟨0, by omega, rfl, congrArg (Value.int .i64) (by rw [HM.out]; split <;> omega)⟩
    case round =>
      obtain ⟨k, hk, rfl, rfl⟩ := hrel
      obtain ⟨hd0, hd1⟩ := dbl_bd b c hb0 hc0 k
      by_cases hlt : (k : Int) + 1 < n
      · by_cases he : dbl b c k = dbl b c (k + 1)
        · have hb2 : (dbl b c k != dbl b c (k + 1)) = false := by rw [← he]; simp
          have HE : Hid (waitOf b c n = dbl b c k) := Lib.hid (by
            unfold waitOf
            have := dbl_stay b c k he ((n - 1).toNat - k)
            rw [show k + ((n - 1).toNat - k) = (n - 1).toNat by omega] at this
            exact this)
          clear he
          go_wp2_with (go_at_call 66; refine (doubled_any _ _ _ (by omega) (by omega) (by omega) (by omega)).mono ?_; rintro e w' ⟨rfl, rfl⟩; rw [dbl_twice])
          go_ret2
          exact ⟨tup2_int HE.out.symm rfl, rfl⟩
        · have hb2 : (dbl b c k != dbl b c (k + 1)) = true := by simp [he]
          clear he
          go_wp2_with (go_at_call 66; refine (doubled_any _ _ _ (by omega) (by omega) (by omega) (by omega)).mono ?_; rintro e w' ⟨rfl, rfl⟩; rw [dbl_twice])
          go_round
          case rel => exact ⟨k + 1, by omega, by go_num, rfl⟩
          case measure => simp [intOf]; omega
      · have HE : Hid (waitOf b c n = dbl b c k) := Lib.hid (by unfold waitOf; rw [show (n - 1).toNat = k by omega])
        go_wp2
        go_ret2
        exact ⟨tup2_int HE.out.symm rfl, rfl⟩

theorem total_bad (b c n : Int) (w : World) (h : ¬ RW b c ∨ n < 0 ∨ 1000000 < n) : Calls Try.prog 51 #[.int .i64 b, .int .i64 c, .int .i64 n] w fun e w' => e = .returned (.tuple #[.int .i64 0, .int .i64 12]) ∧ w = w' := by
  by_cases hb : 0 ≤ b ∧ b ≤ 1048576
  · obtain ⟨hb0, hb1⟩ := hb
    by_cases hc : 0 ≤ c ∧ c ≤ 1048576
    · obtain ⟨hc0, hc1⟩ := hc
      have hn : n < 0 ∨ 1000000 < n := by
        rcases h with h | h
        · exact absurd ⟨hb0, hb1, hc0, hc1⟩ h
        · exact h
      clear h
      rcases hn with hn | hn
      all_goals
        go_enter Try.func51, Try.ntmps51
        go_wp2_with (go_at_call 65; refine (rightWait_yes _ _ (by omega) (by omega)).mono ?_; rintro e w' ⟨rfl, rfl⟩)
        go_ret2
        exact ⟨rfl, rfl⟩
    · have hc' : c < 0 ∨ 1048576 < c := by omega
      have HC := Lib.hid hc'
      clear h hc hc'
      go_enter Try.func51, Try.ntmps51
      go_wp2_with fail
      refine (rightWait_yes b _ hb0 hb1).mono ?_
      rintro e w' ⟨rfl, rfl⟩
      go_wp2_with fail
      refine (rightWait_no c _ HC.out).mono ?_
      rintro e w' ⟨rfl, rfl⟩
      go_wp2
      go_ret2
      exact ⟨rfl, rfl⟩
  · have hb' : b < 0 ∨ 1048576 < b := by omega
    have HB := Lib.hid hb'
    clear h hb hb'
    go_enter Try.func51, Try.ntmps51
    go_wp2_with (go_at_call 65; refine (rightWait_no b _ HB.out).mono ?_; rintro e w' ⟨rfl, rfl⟩)
    go_ret2
    exact ⟨rfl, rfl⟩

set_option maxHeartbeats 1600000 in
theorem total_yes (b c : Int) (n : Nat) (w : World) (hr : RW b c) (hn : n ≤ 1000000) :
    Calls Try.prog 51 #[.int .i64 b, .int .i64 c, .int .i64 (n : Int)] w fun e w' => e = .returned (.tuple #[.int .i64 (sumD b c n), .int .i64 0]) ∧ w = w' := by
  obtain ⟨hb0, hb1, hc0, hc1⟩ := hr
  by_cases hbc : b ≤ c
  all_goals
    have HM : Hid (dbl b c 0 = if b ≤ c then b else c) := Lib.hid (by show min b c = _; split <;> omega)
    go_enter Try.func51, Try.ntmps51
    go_wp2_with (go_at_call 65; refine (rightWait_yes _ _ (by omega) (by omega)).mono ?_; rintro e w' ⟨rfl, rfl⟩)
    go_loop [8, 9, 30] (fun s x i => ∃ k : Nat, k ≤ n ∧ i = .int .i64 (k : Int) ∧ x = .int .i64 (dbl b c k) ∧ s = .int .i64 (sumD b c k)) (fun _ _ i => n - (intOf i).toNat)
    case atStart => exact ⟨0, by omega, rfl, congrArg (Value.int .i64) (by rw [HM.out]; split <;> omega), rfl⟩
    case round =>
      obtain ⟨k, hk, rfl, rfl, rfl⟩ := hrel
      obtain ⟨hd0, hd1⟩ := dbl_bd b c hb0 hc0 k
      obtain ⟨hs0, hs1⟩ := sumD_bd b c hb0 hc0 hc1 k
      by_cases hlt : k < n
      · go_wp2_with (go_at_call 66; refine (doubled_any _ _ _ (by omega) (by omega) (by omega) (by omega)).mono ?_; rintro e w' ⟨rfl, rfl⟩; rw [dbl_twice])
        go_round
        case rel => exact ⟨k + 1, by omega, by go_num, rfl, rfl⟩
        case measure => simp [intOf]; omega
      · obtain rfl : k = n := by omega
        go_wp2
        go_ret2
        exact ⟨rfl, rfl⟩
end Go.Proofs.Ytinphdphloddmab
