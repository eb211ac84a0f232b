/-
  CONTRACT of the document's own package of layer 1: Right (printed by genrefright.py).
-/
import Derived.Test.YtbmhjmdbolnbaaaDoorSRefD
import Derived.Test.YtbmhjmdbolnbaaaDoorSRight
namespace Go.Proofs.YtbmhjmdbolnbaaaDoor
open Go.RowKit
open SemP
set_option linter.unusedVariables false
set_option linter.unusedSimpArgs false
set_option maxRecDepth 100000

abbrev refC (a b c : Int) (s : ByteArray) : Obj := .cells #[.int .i64 a, .int .i64 b, .int .i64 c, .string s] 29
set_option maxHeartbeats 4000000 in
theorem RefRight_any (a b c : Int) (s : ByteArray) (w : World) (hs : s.size ≤ 1000000000000) :
    Calls Tryd.prog 25 #[verV a b c s] w fun e w' => e = .returned (.bool (Ver.right ⟨a, b, c, bs s⟩)) ∧ Below w.heap.size w w' := by
  have hb0 : Below w.heap.size w (w.alloc (refC a b c s)) := (Below.refl _ w).alloc (Nat.le_refl _) _
  obtain ⟨x0, x1, x2, x3⟩ := cells4 (World.alloc_heap_new w (refC a b c s))
  have HRP := Lib.hid (Pre_any s (w.alloc (refC a b c s)) hs)
  have HB0 := Lib.hid hb0
  have HR := Lib.hid (show Ver.right ⟨a, b, c, bs s⟩ = ((decide (0 ≤ a) && decide (a ≤ 999999)) && (decide (0 ≤ b) && decide (b ≤ 999999)) && (decide (0 ≤ c) && decide (c ≤ 999999)) && ((bs s).isEmpty || rightPre (bs s))) from rfl)
  clear hb0
  cases d0 : decide (0 ≤ a) with
  | false =>
    have HV : Hid (Ver.right ⟨a, b, c, bs s⟩ = false) := Lib.hid (by rw [HR.out, d0]; simp)
    go_enter Tryd.func25, Tryd.ntmps25
    go_wp2
    refine bodyPost_ret (results_tmp rfl _ _ _) rfl ⟨by rw [HV.out]; rfl, HB0.out⟩
  | true =>
    cases d1 : decide (a ≤ 999999) with
    | false =>
      have HV : Hid (Ver.right ⟨a, b, c, bs s⟩ = false) := Lib.hid (by rw [HR.out, d1]; simp)
      go_enter Tryd.func25, Tryd.ntmps25
      go_wp2
      refine bodyPost_ret (results_tmp rfl _ _ _) rfl ⟨by rw [HV.out]; rfl, HB0.out⟩
    | true =>
      cases d2 : decide (0 ≤ b) with
      | false =>
        have HV : Hid (Ver.right ⟨a, b, c, bs s⟩ = false) := Lib.hid (by rw [HR.out, d2]; simp)
        go_enter Tryd.func25, Tryd.ntmps25
        go_wp2
        refine bodyPost_ret (results_tmp rfl _ _ _) rfl ⟨by rw [HV.out]; rfl, HB0.out⟩
      | true =>
        cases d3 : decide (b ≤ 999999) with
        | false =>
          have HV : Hid (Ver.right ⟨a, b, c, bs s⟩ = false) := Lib.hid (by rw [HR.out, d3]; simp)
          go_enter Tryd.func25, Tryd.ntmps25
          go_wp2
          refine bodyPost_ret (results_tmp rfl _ _ _) rfl ⟨by rw [HV.out]; rfl, HB0.out⟩
        | true =>
          cases d4 : decide (0 ≤ c) with
          | false =>
            have HV : Hid (Ver.right ⟨a, b, c, bs s⟩ = false) := Lib.hid (by rw [HR.out, d4]; simp)
            go_enter Tryd.func25, Tryd.ntmps25
            go_wp2
            refine bodyPost_ret (results_tmp rfl _ _ _) rfl ⟨by rw [HV.out]; rfl, HB0.out⟩
          | true =>
            cases d5 : decide (c ≤ 999999) with
            | false =>
              have HV : Hid (Ver.right ⟨a, b, c, bs s⟩ = false) := Lib.hid (by rw [HR.out, d5]; simp)
              go_enter Tryd.func25, Tryd.ntmps25
              go_wp2
              refine bodyPost_ret (results_tmp rfl _ _ _) rfl ⟨by rw [HV.out]; rfl, HB0.out⟩
            | true =>
              have HV : Hid (Ver.right ⟨a, b, c, bs s⟩ = ((bs s).isEmpty || rightPre (bs s))) := Lib.hid (by rw [HR.out, d0, d1, d2, d3, d4, d5]; simp)
              go_enter Tryd.func25, Tryd.ntmps25
              go_wp2_with fail
              refine HRP.out.mono ?_
              rintro e W2 ⟨rfl, h2⟩
              have HB2 := Lib.hid (HB0.out.trans (h2.mono (by simp)))
              clear h2 HRP
              go_wp2
              all_goals (refine bodyPost_ret (results_tmp rfl _ _ _) rfl ⟨?_, HB2.out⟩)
              all_goals (rw [HV.out]; first | rfl | (simp [*]; done))
end Go.Proofs.YtbmhjmdbolnbaaaDoor
