/-
  CONTRACTS of the document's own package of layer 1: by.
-/
import Derived.Test.YtbmhjmdbolnbaaaDoorSRefM
namespace Go.Proofs.YtbmhjmdbolnbaaaDoor
open Go.RowKit
open SemP
set_option linter.unusedVariables false
set_option linter.unusedSimpArgs false
set_option maxRecDepth 100000

theorem by_any (a b : Int) (w : World) : Calls Tryd.prog 57 #[.int .i64 a, .int .i64 b] w fun e w' => e = .returned (.int .i64 (Lib.compareInt a b)) ∧ w' = w := by
  by_cases h1 : a < b
  · have d1 : decide (a < b) = true := decide_eq_true h1
    have HV : Hid (Lib.compareInt a b = -1) := Lib.hid (if_pos h1)
    clear h1
    go_enter Tryd.func57, Tryd.ntmps57
    go_wp2
    refine bodyPost_ret (results_tmp rfl _ _ _) rfl ⟨by rw [HV.out]; rfl, rfl⟩
  · have d1 : decide (a < b) = false := decide_eq_false h1
    by_cases h2 : b < a
    · have d2 : decide (b < a) = true := decide_eq_true h2
      have HV : Hid (Lib.compareInt a b = 1) := Lib.hid (by unfold Lib.compareInt; rw [if_neg h1, if_pos h2])
      clear h1 h2
      go_enter Tryd.func57, Tryd.ntmps57
      go_wp2
      refine bodyPost_ret (results_tmp rfl _ _ _) rfl ⟨by rw [HV.out]; rfl, rfl⟩
    · have d2 : decide (b < a) = false := decide_eq_false h2
      have HV : Hid (Lib.compareInt a b = 0) := Lib.hid (by unfold Lib.compareInt; rw [if_neg h1, if_neg h2])
      clear h1 h2
      go_enter Tryd.func57, Tryd.ntmps57
      go_wp2
      go_ret
      exact ⟨by rw [HV.out]; rfl, rfl⟩
end Go.Proofs.YtbmhjmdbolnbaaaDoor
