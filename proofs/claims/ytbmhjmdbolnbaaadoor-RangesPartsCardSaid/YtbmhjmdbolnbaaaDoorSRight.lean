/-
  CONTRACT of package semver: Right.
-/
import Derived.Test.YtbmhjmdbolnbaaaDoorSCompare
namespace Go.Proofs.YtbmhjmdbolnbaaaDoor
open Go.RowKit
open SemP
set_option linter.unusedVariables false
set_option linter.unusedSimpArgs false
set_option maxRecDepth 100000

theorem rightNumber_any (n : Int) (w : World) : Calls Tryd.prog 52 #[.int .i64 n] w fun e w' => e = .returned (.bool (rightN n)) ∧ w' = w := by
  have HR := Lib.hid (show rightN n = (decide (0 ≤ n) && decide (n ≤ 999999)) from rfl)
  go_enter Tryd.func52, Tryd.ntmps52
  go_wp2
  all_goals (refine bodyPost_ret (results_tmp rfl _ _ _) rfl ⟨?_, rfl⟩)
  all_goals (rw [HR.out])
  all_goals (first | rfl | (rename_i h; simp; omega) | (simp [*]; done))
set_option maxHeartbeats 4000000 in
theorem Right_any (a b c : Int) (s : ByteArray) (w : World) (hs : s.size < 4294967281) (hm : LenAt w) (h1 : 1 < w.heap.size) :
    Calls Tryd.prog 24 #[verV a b c s] w fun e w' => e = .returned (.bool (Ver.right ⟨a, b, c, bs s⟩)) ∧ Below w.heap.size w w' := by
  have hb0 : Below w.heap.size w (w.alloc (verC a b c s)) := (Below.refl _ w).alloc (Nat.le_refl _) _
  obtain ⟨x0, x1, x2, x3⟩ := cells4 (World.alloc_heap_new w (verC a b c s))
  have hm1 : LenAt (w.alloc (verC a b c s)) := by
    obtain ⟨m, hm⟩ := hm
    exact ⟨m, (hb0.cell (show 1 < _ from h1)).trans hm⟩
  have HRP := Lib.hid (rightPre_any s (w.alloc (verC a b c s)) hs hm1 (by simp; omega))
  have HB0 := Lib.hid hb0
  have HR := Lib.hid (show Ver.right ⟨a, b, c, bs s⟩ = (rightN a && rightN b && rightN c && ((bs s).isEmpty || rightPre (bs s))) from rfl)
  have HSE := Lib.hid (show s.toList.isEmpty = (bs s).isEmpty by rw [ByteArray.toList_eq])
  cases ha : rightN a with
  | false =>
    have HA := Lib.hid ha
    clear ha hb0 hm hm1
    go_enter Tryd.func24, Tryd.ntmps24
    go_wp2_with fail
    refine (rightNumber_any a _).mono ?_
    rintro e w' ⟨rfl, rfl⟩
    rw [HA.out]
    go_wp2
    refine bodyPost_ret (results_tmp rfl _ _ _) rfl ⟨?_, HB0.out⟩
    rw [HR.out, HA.out]; rfl
  | true =>
    have HA := Lib.hid ha
    cases hbb : rightN b with
    | false =>
      have HBB := Lib.hid hbb
      clear ha hbb hb0 hm hm1
      go_enter Tryd.func24, Tryd.ntmps24
      go_wp2_with fail
      refine (rightNumber_any a _).mono ?_
      rintro e w' ⟨rfl, rfl⟩
      rw [HA.out]
      go_wp2_with fail
      refine (rightNumber_any b _).mono ?_
      rintro e w' ⟨rfl, rfl⟩
      rw [HBB.out]
      go_wp2
      refine bodyPost_ret (results_tmp rfl _ _ _) rfl ⟨?_, HB0.out⟩
      rw [HR.out, HA.out, HBB.out]; rfl
    | true =>
      have HBB := Lib.hid hbb
      cases hcc : rightN c with
      | false =>
        have HCC := Lib.hid hcc
        clear ha hbb hcc hb0 hm hm1
        go_enter Tryd.func24, Tryd.ntmps24
        go_wp2_with fail
        refine (rightNumber_any a _).mono ?_
        rintro e w' ⟨rfl, rfl⟩
        rw [HA.out]
        go_wp2_with fail
        refine (rightNumber_any b _).mono ?_
        rintro e w' ⟨rfl, rfl⟩
        rw [HBB.out]
        go_wp2_with fail
        refine (rightNumber_any c _).mono ?_
        rintro e w' ⟨rfl, rfl⟩
        rw [HCC.out]
        go_wp2
        refine bodyPost_ret (results_tmp rfl _ _ _) rfl ⟨?_, HB0.out⟩
        rw [HR.out, HA.out, HBB.out, HCC.out]; rfl
      | true =>
        have HCC := Lib.hid hcc
        cases hee : (bs s).isEmpty with
        | true =>
          have hse : s.toList.isEmpty = true := by rw [HSE.out]; exact hee
          have HEE := Lib.hid hee
          clear ha hbb hcc hee hb0 hm hm1
          go_enter Tryd.func24, Tryd.ntmps24
          go_wp2_with fail
          refine (rightNumber_any a _).mono ?_
          rintro e w' ⟨rfl, rfl⟩
          rw [HA.out]
          go_wp2_with fail
          refine (rightNumber_any b _).mono ?_
          rintro e w' ⟨rfl, rfl⟩
          rw [HBB.out]
          go_wp2_with fail
          refine (rightNumber_any c _).mono ?_
          rintro e w' ⟨rfl, rfl⟩
          rw [HCC.out]
          go_wp2
          refine bodyPost_ret (results_tmp rfl _ _ _) rfl ⟨?_, HB0.out⟩
          rw [HR.out, HA.out, HBB.out, HCC.out, HEE.out]; rfl
        | false =>
          have hse : s.toList.isEmpty = false := by rw [HSE.out]; exact hee
          have HEE := Lib.hid hee
          clear ha hbb hcc hee hb0 hm hm1
          go_enter Tryd.func24, Tryd.ntmps24
          go_wp2_with fail
          refine (rightNumber_any a _).mono ?_
          rintro e w' ⟨rfl, rfl⟩
          rw [HA.out]
          go_wp2_with fail
          refine (rightNumber_any b _).mono ?_
          rintro e w' ⟨rfl, rfl⟩
          rw [HBB.out]
          go_wp2_with fail
          refine (rightNumber_any c _).mono ?_
          rintro e w' ⟨rfl, rfl⟩
          rw [HCC.out]
          go_wp2_with fail
          refine HRP.out.mono ?_
          rintro e W2 ⟨rfl, h2⟩
          have HB2 := Lib.hid (HB0.out.trans (h2.mono (by simp)))
          clear h2 HRP
          go_wp2
          refine bodyPost_ret (results_tmp rfl _ _ _) rfl ⟨?_, HB2.out⟩
          rw [HR.out, HA.out, HBB.out, HCC.out, HEE.out]; rfl
end Go.Proofs.YtbmhjmdbolnbaaaDoor
