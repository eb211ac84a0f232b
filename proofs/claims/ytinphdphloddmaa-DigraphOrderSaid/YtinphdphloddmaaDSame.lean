/-
  CONTRACT of the statements' same, where both lists are the same, over this translation.
-/
import Derived.Test.YtinphdphloddmaaDInts
namespace Go.Proofs.Ytinphdphloddmaa
open Go.RowKit
open DiP
set_option linter.unusedVariables false

set_option maxHeartbeats 1000000 in
theorem same_yes {w : World} {B D n c d : Nat} {A A' : Option Addr} {xs : List Int} (hx : Rd w B A n xs) (hy : Rd w D A' n xs) (hn : n ≤ 1099511627776) :
    Calls Try.prog 23 #[.slice A n c, .slice A' n d] w fun e w' => e = .returned (.bool true) ∧ w = w' := by
  have HX := Lib.hid hx
  have HY := Lib.hid hy
  clear hx hy
  go_enter Try.func23, Try.ntmps23
  go_wp2_with fail
  go_loop [14] (fun i => ∃ k : Nat, k ≤ n ∧ i = .int .i64 (k : Int)) (fun i => n - (intOf i).toNat)
  case atStart => exact ⟨0, by omega, rfl⟩
  case round =>
    obtain ⟨k, hk, rfl⟩ := hrel
    by_cases hlt : k < n
    · obtain ⟨b, off, rfl, _, hc⟩ := HX.out.at_ (k := k) hlt
      obtain ⟨b', off', rfl, _, hc'⟩ := HY.out.at_ (k := k) hlt
      have hq : (ix xs k != ix xs k) = false := by simp
      go_wp2
      go_round
      case rel => exact ⟨k + 1, by omega, by go_num⟩
      case measure => simp [intOf]; omega
    · go_wp2
      go_ret
      exact ⟨rfl, rfl⟩
end Go.Proofs.Ytinphdphloddmaa
