/-
 CONTRACTS: the program's formed by the lengths of a record's plan alone, the document's Formed (printed by genhfo.py).
-/
import Derived.Test.YtolgmoaoheflcaaGFo
namespace Go.Proofs.Ytolgmoaoheflcaa.Sa
open Go.RowKit
open DiP
set_option linter.unusedVariables false
set_option linter.unusedSimpArgs false
set_option maxRecDepth 10000
def fB (kd sp : Int) (mF mT mS mE : Nat) : Bool := rkB kd && (decide (mF = 0 ∧ mT = 0 ∧ mS = 0 ∧ mE = 0) || decide (kd = 1)) && (decide (sp = 0) || ofStepB kd)
set_option maxHeartbeats 16000000 in
theorem formed_len {w : World} {kd sp : Int} {BF BT BS BE : Option Addr} {mF mT mS mE dF dT dS dE : Nat} :
 Calls Try.prog 36 #[.agg #[.int .i64 kd, .int .i64 sp, .slice BF mF dF, .slice BT mT dT, .slice BS mS dS, .slice BE mE dE]] w fun e w' => e = .returned (.bool (fB kd sp mF mT mS mE)) ∧ Below w.heap.size w w' := by
 obtain ⟨W, HW⟩ : ∃ W, Hid (W = w.alloc (.cells #[.int .i64 kd, .int .i64 sp, .slice BF mF dF, .slice BT mT dT, .slice BS mS dS, .slice BE mE dE] 33)) := ⟨_, Lib.hid rfl⟩
 have hbl : Below w.heap.size w W := by rw [HW.out]; exact (Below.refl _ w).alloc (Nat.le_refl _) _
 have H0 : Hid (W.heap[w.heap.size]? = some (.cells #[.int .i64 kd, .int .i64 sp, .slice BF mF dF, .slice BT mT dT, .slice BS mS dS, .slice BE mE dE] 33 (0, 0))) := Lib.hid (by rw [HW.out]; exact heap_new w _)
 have HBL := Lib.hid hbl
 obtain ⟨fv, HFQ⟩ : ∃ q, Hid (fB kd sp mF mT mS mE = q) := ⟨_, Lib.hid rfl⟩
 have HFV : Hid (fv = (rkB kd && (decide (mF = 0 ∧ mT = 0 ∧ mS = 0 ∧ mE = 0) || decide (kd = 1)) && (decide (sp = 0) || ofStepB kd))) := Lib.hid HFQ.out.symm
 rw [HFQ.out]
 clear hbl HFQ
 have HX : Hid (∀ Z, Below W.heap.size W Z → Z.cell? ⟨w.heap.size, 0, none⟩ = some (.int .i64 kd) ∧ Z.cell? ⟨w.heap.size, 1, none⟩ = some (.int .i64 sp) ∧ Z.cell? ⟨w.heap.size, 2, none⟩ = some (.slice BF mF dF) ∧ Z.cell? ⟨w.heap.size, 3, none⟩ = some (.slice BT mT dT) ∧ Z.cell? ⟨w.heap.size, 4, none⟩ = some (.slice BS mS dS) ∧ Z.cell? ⟨w.heap.size, 5, none⟩ = some (.slice BE mE dE)) := Lib.hid (fun Z hZ => row6 ((hZ.block w.heap.size (heapE_lt H0.out)).trans H0.out))
 have HRK := Lib.hid (rightKind_any kd W)
 obtain ⟨rk, HRV⟩ : ∃ q, Hid (rkB kd = q) := ⟨_, Lib.hid rfl⟩
 have HOS := Lib.hid (fun Z => ofStep_any kd Z)
 obtain ⟨os, HOV⟩ : ∃ q, Hid (ofStepB kd = q) := ⟨_, Lib.hid rfl⟩
 rw [HRV.out] at HRK HFV
 rw [HOV.out] at HOS HFV
 obtain ⟨x0, x1, x2, x3, x4, x5⟩ := HX.out W (Below.refl _ _)
 go_enter Try.func36, Try.ntmps36
 go_upto_region 1 with fail
 change Code.wp _ _ _ _ (w.alloc (.cells #[.int .i64 kd, .int .i64 sp, .slice BF mF dF, .slice BT mT dT, .slice BS mS dS, .slice BE mE dE] 33))
 rw [← HW.out]
 by_cases zmF : mF = 0
 rotate_left
 ·have dmF : ((mF : Int) == 0) = false := by rw [beq_eq_false_iff_ne]; omega
  have HCO : Hid (decide (mF = 0 ∧ mT = 0 ∧ mS = 0 ∧ mE = 0) = false) := Lib.hid (decide_eq_false (by omega))
  clear zmF
  have HV0 : Hid (fv = (rk && (false || decide (kd = 1)) && (decide (sp = 0) || os))) := Lib.hid (by rw [HFV.out, HCO.out])
  clear HFV
  cases rk with
  | false =>
   have HV : Hid (fv = false) := Lib.hid (by rw [HV0.out]; rfl)
   go_wp2_with fail
   refine HRK.out.mono ?_
   rintro e w1 ⟨rfl, hb⟩
   clear x0 x1 x2 x3 x4 x5
   obtain ⟨x0, x1, x2, x3, x4, x5⟩ := HX.out w1 hb
   have HBw1 := Lib.hid (HBL.out.trans (hb.mono HBL.out.size))
   clear hb
   go_wp2_with fail
   refine bodyPost_ret (results_tmp rfl _ _ _) rfl ⟨?_, HBw1.out⟩
   exact congrArg (fun b => Ending.returned (.bool b)) HV.out.symm
  | true =>
   by_cases k1 : kd = 1
   ·subst k1
    have HK : Hid ((false || decide ((1 : Int) = 1)) = true) := Lib.hid rfl
    by_cases s0 : sp = 0
    ·subst s0
     have HV : Hid (fv = true) := Lib.hid (by rw [HV0.out, HK.out]; rfl)
     go_wp2_with fail
     refine HRK.out.mono ?_
     rintro e w1 ⟨rfl, hb⟩
     clear x0 x1 x2 x3 x4 x5
     obtain ⟨x0, x1, x2, x3, x4, x5⟩ := HX.out w1 hb
     have HBw1 := Lib.hid (HBL.out.trans (hb.mono HBL.out.size))
     clear hb
     go_wp2_with fail
     refine bodyPost_ret (results_tmp rfl _ _ _) rfl ⟨?_, HBw1.out⟩
     exact congrArg (fun b => Ending.returned (.bool b)) HV.out.symm
    ·have s1 : (sp == 0) = false := by rw [beq_eq_false_iff_ne]; exact s0
     have HV : Hid (fv = os) := Lib.hid (by rw [HV0.out, HK.out, decide_eq_false s0]; cases os <;> rfl)
     clear s0
     go_wp2_with fail
     refine HRK.out.mono ?_
     rintro e w1 ⟨rfl, hb⟩
     clear x0 x1 x2 x3 x4 x5
     obtain ⟨x0, x1, x2, x3, x4, x5⟩ := HX.out w1 hb
     have HBw1 := Lib.hid (HBL.out.trans (hb.mono HBL.out.size))
     clear hb
     go_wp2_with fail
     refine (HOS.out _).mono ?_
     rintro e w2 ⟨rfl, hb⟩
     have HBw2 := Lib.hid (HBw1.out.trans (hb.mono HBw1.out.size))
     clear hb x0 x1 x2 x3 x4 x5
     go_wp2_with fail
     refine bodyPost_ret (results_tmp rfl _ _ _) rfl ⟨?_, HBw2.out⟩
     exact congrArg (fun b => Ending.returned (.bool b)) HV.out.symm
   ·have k2 : (kd == 1) = false := by rw [beq_eq_false_iff_ne]; exact k1
    have HV : Hid (fv = false) := Lib.hid (by rw [HV0.out, decide_eq_false k1]; rfl)
    clear k1
    go_wp2_with fail
    refine HRK.out.mono ?_
    rintro e w1 ⟨rfl, hb⟩
    clear x0 x1 x2 x3 x4 x5
    obtain ⟨x0, x1, x2, x3, x4, x5⟩ := HX.out w1 hb
    have HBw1 := Lib.hid (HBL.out.trans (hb.mono HBL.out.size))
    clear hb
    go_wp2_with fail
    refine bodyPost_ret (results_tmp rfl _ _ _) rfl ⟨?_, HBw1.out⟩
    exact congrArg (fun b => Ending.returned (.bool b)) HV.out.symm
 subst zmF
 by_cases zmT : mT = 0
 rotate_left
 ·have dmT : ((mT : Int) == 0) = false := by rw [beq_eq_false_iff_ne]; omega
  have HCO : Hid (decide (0 = 0 ∧ mT = 0 ∧ mS = 0 ∧ mE = 0) = false) := Lib.hid (decide_eq_false (by omega))
  clear zmT
  have HV0 : Hid (fv = (rk && (false || decide (kd = 1)) && (decide (sp = 0) || os))) := Lib.hid (by rw [HFV.out, HCO.out])
  clear HFV
  cases rk with
  | false =>
   have HV : Hid (fv = false) := Lib.hid (by rw [HV0.out]; rfl)
   go_wp2_with fail
   refine HRK.out.mono ?_
   rintro e w1 ⟨rfl, hb⟩
   clear x0 x1 x2 x3 x4 x5
   obtain ⟨x0, x1, x2, x3, x4, x5⟩ := HX.out w1 hb
   have HBw1 := Lib.hid (HBL.out.trans (hb.mono HBL.out.size))
   clear hb
   go_wp2_with fail
   refine bodyPost_ret (results_tmp rfl _ _ _) rfl ⟨?_, HBw1.out⟩
   exact congrArg (fun b => Ending.returned (.bool b)) HV.out.symm
  | true =>
   by_cases k1 : kd = 1
   ·subst k1
    have HK : Hid ((false || decide ((1 : Int) = 1)) = true) := Lib.hid rfl
    by_cases s0 : sp = 0
    ·subst s0
     have HV : Hid (fv = true) := Lib.hid (by rw [HV0.out, HK.out]; rfl)
     go_wp2_with fail
     refine HRK.out.mono ?_
     rintro e w1 ⟨rfl, hb⟩
     clear x0 x1 x2 x3 x4 x5
     obtain ⟨x0, x1, x2, x3, x4, x5⟩ := HX.out w1 hb
     have HBw1 := Lib.hid (HBL.out.trans (hb.mono HBL.out.size))
     clear hb
     go_wp2_with fail
     refine bodyPost_ret (results_tmp rfl _ _ _) rfl ⟨?_, HBw1.out⟩
     exact congrArg (fun b => Ending.returned (.bool b)) HV.out.symm
    ·have s1 : (sp == 0) = false := by rw [beq_eq_false_iff_ne]; exact s0
     have HV : Hid (fv = os) := Lib.hid (by rw [HV0.out, HK.out, decide_eq_false s0]; cases os <;> rfl)
     clear s0
     go_wp2_with fail
     refine HRK.out.mono ?_
     rintro e w1 ⟨rfl, hb⟩
     clear x0 x1 x2 x3 x4 x5
     obtain ⟨x0, x1, x2, x3, x4, x5⟩ := HX.out w1 hb
     have HBw1 := Lib.hid (HBL.out.trans (hb.mono HBL.out.size))
     clear hb
     go_wp2_with fail
     refine (HOS.out _).mono ?_
     rintro e w2 ⟨rfl, hb⟩
     have HBw2 := Lib.hid (HBw1.out.trans (hb.mono HBw1.out.size))
     clear hb x0 x1 x2 x3 x4 x5
     go_wp2_with fail
     refine bodyPost_ret (results_tmp rfl _ _ _) rfl ⟨?_, HBw2.out⟩
     exact congrArg (fun b => Ending.returned (.bool b)) HV.out.symm
   ·have k2 : (kd == 1) = false := by rw [beq_eq_false_iff_ne]; exact k1
    have HV : Hid (fv = false) := Lib.hid (by rw [HV0.out, decide_eq_false k1]; rfl)
    clear k1
    go_wp2_with fail
    refine HRK.out.mono ?_
    rintro e w1 ⟨rfl, hb⟩
    clear x0 x1 x2 x3 x4 x5
    obtain ⟨x0, x1, x2, x3, x4, x5⟩ := HX.out w1 hb
    have HBw1 := Lib.hid (HBL.out.trans (hb.mono HBL.out.size))
    clear hb
    go_wp2_with fail
    refine bodyPost_ret (results_tmp rfl _ _ _) rfl ⟨?_, HBw1.out⟩
    exact congrArg (fun b => Ending.returned (.bool b)) HV.out.symm
 subst zmT
 by_cases zmS : mS = 0
 rotate_left
 ·have dmS : ((mS : Int) == 0) = false := by rw [beq_eq_false_iff_ne]; omega
  have HCO : Hid (decide (0 = 0 ∧ 0 = 0 ∧ mS = 0 ∧ mE = 0) = false) := Lib.hid (decide_eq_false (by omega))
  clear zmS
  have HV0 : Hid (fv = (rk && (false || decide (kd = 1)) && (decide (sp = 0) || os))) := Lib.hid (by rw [HFV.out, HCO.out])
  clear HFV
  cases rk with
  | false =>
   have HV : Hid (fv = false) := Lib.hid (by rw [HV0.out]; rfl)
   go_wp2_with fail
   refine HRK.out.mono ?_
   rintro e w1 ⟨rfl, hb⟩
   clear x0 x1 x2 x3 x4 x5
   obtain ⟨x0, x1, x2, x3, x4, x5⟩ := HX.out w1 hb
   have HBw1 := Lib.hid (HBL.out.trans (hb.mono HBL.out.size))
   clear hb
   go_wp2_with fail
   refine bodyPost_ret (results_tmp rfl _ _ _) rfl ⟨?_, HBw1.out⟩
   exact congrArg (fun b => Ending.returned (.bool b)) HV.out.symm
  | true =>
   by_cases k1 : kd = 1
   ·subst k1
    have HK : Hid ((false || decide ((1 : Int) = 1)) = true) := Lib.hid rfl
    by_cases s0 : sp = 0
    ·subst s0
     have HV : Hid (fv = true) := Lib.hid (by rw [HV0.out, HK.out]; rfl)
     go_wp2_with fail
     refine HRK.out.mono ?_
     rintro e w1 ⟨rfl, hb⟩
     clear x0 x1 x2 x3 x4 x5
     obtain ⟨x0, x1, x2, x3, x4, x5⟩ := HX.out w1 hb
     have HBw1 := Lib.hid (HBL.out.trans (hb.mono HBL.out.size))
     clear hb
     go_wp2_with fail
     refine bodyPost_ret (results_tmp rfl _ _ _) rfl ⟨?_, HBw1.out⟩
     exact congrArg (fun b => Ending.returned (.bool b)) HV.out.symm
    ·have s1 : (sp == 0) = false := by rw [beq_eq_false_iff_ne]; exact s0
     have HV : Hid (fv = os) := Lib.hid (by rw [HV0.out, HK.out, decide_eq_false s0]; cases os <;> rfl)
     clear s0
     go_wp2_with fail
     refine HRK.out.mono ?_
     rintro e w1 ⟨rfl, hb⟩
     clear x0 x1 x2 x3 x4 x5
     obtain ⟨x0, x1, x2, x3, x4, x5⟩ := HX.out w1 hb
     have HBw1 := Lib.hid (HBL.out.trans (hb.mono HBL.out.size))
     clear hb
     go_wp2_with fail
     refine (HOS.out _).mono ?_
     rintro e w2 ⟨rfl, hb⟩
     have HBw2 := Lib.hid (HBw1.out.trans (hb.mono HBw1.out.size))
     clear hb x0 x1 x2 x3 x4 x5
     go_wp2_with fail
     refine bodyPost_ret (results_tmp rfl _ _ _) rfl ⟨?_, HBw2.out⟩
     exact congrArg (fun b => Ending.returned (.bool b)) HV.out.symm
   ·have k2 : (kd == 1) = false := by rw [beq_eq_false_iff_ne]; exact k1
    have HV : Hid (fv = false) := Lib.hid (by rw [HV0.out, decide_eq_false k1]; rfl)
    clear k1
    go_wp2_with fail
    refine HRK.out.mono ?_
    rintro e w1 ⟨rfl, hb⟩
    clear x0 x1 x2 x3 x4 x5
    obtain ⟨x0, x1, x2, x3, x4, x5⟩ := HX.out w1 hb
    have HBw1 := Lib.hid (HBL.out.trans (hb.mono HBL.out.size))
    clear hb
    go_wp2_with fail
    refine bodyPost_ret (results_tmp rfl _ _ _) rfl ⟨?_, HBw1.out⟩
    exact congrArg (fun b => Ending.returned (.bool b)) HV.out.symm
 subst zmS
 by_cases zmE : mE = 0
 rotate_left
 ·have dmE : ((mE : Int) == 0) = false := by rw [beq_eq_false_iff_ne]; omega
  have HCO : Hid (decide (0 = 0 ∧ 0 = 0 ∧ 0 = 0 ∧ mE = 0) = false) := Lib.hid (decide_eq_false (by omega))
  clear zmE
  have HV0 : Hid (fv = (rk && (false || decide (kd = 1)) && (decide (sp = 0) || os))) := Lib.hid (by rw [HFV.out, HCO.out])
  clear HFV
  cases rk with
  | false =>
   have HV : Hid (fv = false) := Lib.hid (by rw [HV0.out]; rfl)
   go_wp2_with fail
   refine HRK.out.mono ?_
   rintro e w1 ⟨rfl, hb⟩
   clear x0 x1 x2 x3 x4 x5
   obtain ⟨x0, x1, x2, x3, x4, x5⟩ := HX.out w1 hb
   have HBw1 := Lib.hid (HBL.out.trans (hb.mono HBL.out.size))
   clear hb
   go_wp2_with fail
   refine bodyPost_ret (results_tmp rfl _ _ _) rfl ⟨?_, HBw1.out⟩
   exact congrArg (fun b => Ending.returned (.bool b)) HV.out.symm
  | true =>
   by_cases k1 : kd = 1
   ·subst k1
    have HK : Hid ((false || decide ((1 : Int) = 1)) = true) := Lib.hid rfl
    by_cases s0 : sp = 0
    ·subst s0
     have HV : Hid (fv = true) := Lib.hid (by rw [HV0.out, HK.out]; rfl)
     go_wp2_with fail
     refine HRK.out.mono ?_
     rintro e w1 ⟨rfl, hb⟩
     clear x0 x1 x2 x3 x4 x5
     obtain ⟨x0, x1, x2, x3, x4, x5⟩ := HX.out w1 hb
     have HBw1 := Lib.hid (HBL.out.trans (hb.mono HBL.out.size))
     clear hb
     go_wp2_with fail
     refine bodyPost_ret (results_tmp rfl _ _ _) rfl ⟨?_, HBw1.out⟩
     exact congrArg (fun b => Ending.returned (.bool b)) HV.out.symm
    ·have s1 : (sp == 0) = false := by rw [beq_eq_false_iff_ne]; exact s0
     have HV : Hid (fv = os) := Lib.hid (by rw [HV0.out, HK.out, decide_eq_false s0]; cases os <;> rfl)
     clear s0
     go_wp2_with fail
     refine HRK.out.mono ?_
     rintro e w1 ⟨rfl, hb⟩
     clear x0 x1 x2 x3 x4 x5
     obtain ⟨x0, x1, x2, x3, x4, x5⟩ := HX.out w1 hb
     have HBw1 := Lib.hid (HBL.out.trans (hb.mono HBL.out.size))
     clear hb
     go_wp2_with fail
     refine (HOS.out _).mono ?_
     rintro e w2 ⟨rfl, hb⟩
     have HBw2 := Lib.hid (HBw1.out.trans (hb.mono HBw1.out.size))
     clear hb x0 x1 x2 x3 x4 x5
     go_wp2_with fail
     refine bodyPost_ret (results_tmp rfl _ _ _) rfl ⟨?_, HBw2.out⟩
     exact congrArg (fun b => Ending.returned (.bool b)) HV.out.symm
   ·have k2 : (kd == 1) = false := by rw [beq_eq_false_iff_ne]; exact k1
    have HV : Hid (fv = false) := Lib.hid (by rw [HV0.out, decide_eq_false k1]; rfl)
    clear k1
    go_wp2_with fail
    refine HRK.out.mono ?_
    rintro e w1 ⟨rfl, hb⟩
    clear x0 x1 x2 x3 x4 x5
    obtain ⟨x0, x1, x2, x3, x4, x5⟩ := HX.out w1 hb
    have HBw1 := Lib.hid (HBL.out.trans (hb.mono HBL.out.size))
    clear hb
    go_wp2_with fail
    refine bodyPost_ret (results_tmp rfl _ _ _) rfl ⟨?_, HBw1.out⟩
    exact congrArg (fun b => Ending.returned (.bool b)) HV.out.symm
 subst zmE
 have HCO : Hid (decide ((0 : Nat) = 0 ∧ (0 : Nat) = 0 ∧ (0 : Nat) = 0 ∧ (0 : Nat) = 0) = true) := Lib.hid rfl
 have HV0 : Hid (fv = (rk && (true || decide (kd = 1)) && (decide (sp = 0) || os))) := Lib.hid (by rw [HFV.out, HCO.out])
 clear HFV
 cases rk with
 | false =>
  have HV : Hid (fv = false) := Lib.hid (by rw [HV0.out]; rfl)
  go_wp2_with fail
  refine HRK.out.mono ?_
  rintro e w1 ⟨rfl, hb⟩
  clear x0 x1 x2 x3 x4 x5
  obtain ⟨x0, x1, x2, x3, x4, x5⟩ := HX.out w1 hb
  have HBw1 := Lib.hid (HBL.out.trans (hb.mono HBL.out.size))
  clear hb
  go_wp2_with fail
  refine bodyPost_ret (results_tmp rfl _ _ _) rfl ⟨?_, HBw1.out⟩
  exact congrArg (fun b => Ending.returned (.bool b)) HV.out.symm
 | true =>
  have HK : Hid ((true || decide (kd = 1)) = true) := Lib.hid rfl
  by_cases s0 : sp = 0
  ·subst s0
   have HV : Hid (fv = true) := Lib.hid (by rw [HV0.out, HK.out]; rfl)
   go_wp2_with fail
   refine HRK.out.mono ?_
   rintro e w1 ⟨rfl, hb⟩
   clear x0 x1 x2 x3 x4 x5
   obtain ⟨x0, x1, x2, x3, x4, x5⟩ := HX.out w1 hb
   have HBw1 := Lib.hid (HBL.out.trans (hb.mono HBL.out.size))
   clear hb
   go_wp2_with fail
   refine bodyPost_ret (results_tmp rfl _ _ _) rfl ⟨?_, HBw1.out⟩
   exact congrArg (fun b => Ending.returned (.bool b)) HV.out.symm
  ·have s1 : (sp == 0) = false := by rw [beq_eq_false_iff_ne]; exact s0
   have HV : Hid (fv = os) := Lib.hid (by rw [HV0.out, HK.out, decide_eq_false s0]; cases os <;> rfl)
   clear s0
   go_wp2_with fail
   refine HRK.out.mono ?_
   rintro e w1 ⟨rfl, hb⟩
   clear x0 x1 x2 x3 x4 x5
   obtain ⟨x0, x1, x2, x3, x4, x5⟩ := HX.out w1 hb
   have HBw1 := Lib.hid (HBL.out.trans (hb.mono HBL.out.size))
   clear hb
   go_wp2_with fail
   refine (HOS.out _).mono ?_
   rintro e w2 ⟨rfl, hb⟩
   have HBw2 := Lib.hid (HBw1.out.trans (hb.mono HBw1.out.size))
   clear hb x0 x1 x2 x3 x4 x5
   go_wp2_with fail
   refine bodyPost_ret (results_tmp rfl _ _ _) rfl ⟨?_, HBw2.out⟩
   exact congrArg (fun b => Ending.returned (.bool b)) HV.out.symm
set_option maxHeartbeats 16000000 in
theorem formedQ_any {w : World} {kd sp : Int} {BF BT BS BE : Option Addr} {mF mT mS mE dF dT dS dE : Nat} (hF : mF ≤ 10000) (hT : mT ≤ 10000) (hS : mS ≤ 10000) (hE : mE ≤ 10000) :
 Calls Try.prog 43 #[.agg #[.int .i64 kd, .int .i64 sp, .slice BF mF dF, .slice BT mT dT, .slice BS mS dS, .slice BE mE dE]] w fun e w' => e = .returned (.bool (fB kd sp mF mT mS mE)) ∧ Below w.heap.size w w' := by
 obtain ⟨fv, HFQ⟩ : ∃ q, Hid (fB kd sp mF mT mS mE = q) := ⟨_, Lib.hid rfl⟩
 rw [HFQ.out]
 have hbl : Below w.heap.size w (w.alloc (.cells #[.int .i64 kd, .int .i64 sp, .slice BF mF dF, .slice BT mT dT, .slice BS mS dS, .slice BE mE dE] 55)) := (Below.refl _ w).alloc (Nat.le_refl _) _
 have HBL := Lib.hid hbl
 have H0 := Lib.hid (heap_new w (.cells #[.int .i64 kd, .int .i64 sp, .slice BF mF dF, .slice BT mT dT, .slice BS mS dS, .slice BE mE dE] 55))
 clear hbl
 obtain ⟨W, HW⟩ : ∃ W, Hid (W = w.alloc (.cells #[.int .i64 kd, .int .i64 sp, .slice BF mF dF, .slice BT mT dT, .slice BS mS dS, .slice BE mE dE] 55)) := ⟨_, Lib.hid rfl⟩
 rw [← HW.out] at HBL H0
 obtain ⟨x0, x1, x2, x3, x4, x5⟩ := row6 H0.out
 go_enter Try.func43, Try.ntmps43
 go_upto_region 1 with fail
 change Code.wp _ _ _ _ (w.alloc (.cells #[.int .i64 kd, .int .i64 sp, .slice BF mF dF, .slice BT mT dT, .slice BS mS dS, .slice BE mE dE] 55))
 rw [← HW.out]
 by_cases l1 : kd < 1
 ·have d1 : decide (kd < 1) = true := decide_eq_true l1
  have HV : Hid (fv = false) := Lib.hid (by rw [← HFQ.out]; unfold fB rkB; rw [decide_eq_false (by omega)]; rfl)
  go_wp2_with fail
  (refine bodyPost_ret (results_tmp rfl _ _ _) rfl ⟨?_, HBL.out⟩; exact congrArg (fun b => Ending.returned (.bool b)) HV.out.symm)
 have d1 : decide (kd < 1) = false := decide_eq_false l1
 by_cases l8 : 8 < kd
 ·have d8 : decide (8 < kd) = true := decide_eq_true l8
  have HV : Hid (fv = false) := Lib.hid (by rw [← HFQ.out]; unfold fB rkB; rw [decide_eq_false (by omega)]; rfl)
  go_wp2_with fail
  (refine bodyPost_ret (results_tmp rfl _ _ _) rfl ⟨?_, HBL.out⟩; exact congrArg (fun b => Ending.returned (.bool b)) HV.out.symm)
 have d8 : decide (8 < kd) = false := decide_eq_false l8
 have HRK : Hid (rkB kd = true) := Lib.hid (decide_eq_true (by omega))
 go_upto_region 4 with fail
 obtain ⟨X, HX⟩ : ∃ X, Hid (X = W.alloc (.cells #[.slice BF mF dF, .slice BT mT dT, .slice BS mS dS, .slice BE mE dE] 47)) := ⟨_, Lib.hid rfl⟩
 have HXB : Hid (Below w.heap.size w X) := Lib.hid (by rw [HX.out]; exact HBL.out.alloc HBL.out.size _)
 have J0 : Hid (X.heap[w.heap.size]? = some (.cells #[.int .i64 kd, .int .i64 sp, .slice BF mF dF, .slice BT mT dT, .slice BS mS dS, .slice BE mE dE] 55 (0, 0))) := Lib.hid (by rw [HX.out]; exact (Below.heap_alloc W _ w.heap.size (heapE_lt H0.out)).trans H0.out)
 have J1 := heap_new W (.cells #[.slice BF mF dF, .slice BT mT dT, .slice BS mS dS, .slice BE mE dE] 47)
 rw [← HX.out] at J1
 obtain ⟨y0, y1, y2, y3⟩ := row4 J1
 clear x0 x1 x2 x3 x4 x5 J1
 obtain ⟨x0, x1, x2, x3, x4, x5⟩ := row6 J0.out
 change Code.wp _ _ _ _ (W.alloc (.cells #[.slice BF mF dF, .slice BT mT dT, .slice BS mS dS, .slice BE mE dE] 47))
 rw [← HX.out]
 by_cases hb : mF = 0 ∧ mT = 0 ∧ mS = 0 ∧ mE = 0
 ·obtain ⟨rfl, rfl, rfl, rfl⟩ := hb
  have HFV : Hid (fv = (decide (sp = 0) || ofStepB kd)) := Lib.hid (by rw [← HFQ.out]; unfold fB; rw [HRK.out]; simp)
  clear HFQ
  by_cases s0 : sp = 0
  ·subst s0
   have HV : Hid (fv = true) := Lib.hid HFV.out
   have hk : kd = 1 ∨ kd = 2 ∨ kd = 3 ∨ kd = 4 ∨ kd = 5 ∨ kd = 6 ∨ kd = 7 ∨ kd = 8 := by omega
   clear d1 d8 l1 l8 HRK HFV
   rcases hk with rfl | rfl | rfl | rfl | rfl | rfl | rfl | rfl
   all_goals (go_wp2_with fail)
   all_goals (refine bodyPost_ret (results_tmp rfl _ _ _) rfl ⟨?_, HXB.out⟩; exact congrArg (fun b => Ending.returned (.bool b)) HV.out.symm)
  ·have s1 : (sp == 0) = false := by rw [beq_eq_false_iff_ne]; exact s0
   have HV : Hid (fv = ofStepB kd) := Lib.hid (by rw [HFV.out, decide_eq_false s0, Bool.false_or])
   have hk : kd = 1 ∨ kd = 2 ∨ kd = 3 ∨ kd = 4 ∨ kd = 5 ∨ kd = 6 ∨ kd = 7 ∨ kd = 8 := by omega
   clear d1 d8 l1 l8 HRK HFV s0
   rcases hk with rfl | rfl | rfl | rfl | rfl | rfl | rfl | rfl
   all_goals (go_wp2_with fail)
   all_goals (refine bodyPost_ret (results_tmp rfl _ _ _) rfl ⟨?_, HXB.out⟩; exact congrArg (fun b => Ending.returned (.bool b)) HV.out.symm)
 ·by_cases k1 : kd = 1
  ·subst k1
   have HFV : Hid (fv = decide (sp = 0)) := Lib.hid (by rw [← HFQ.out]; unfold fB; rw [HRK.out]; simp [ofStepB])
   clear HFQ HRK d1 d8 l1 l8 hb
   by_cases s0 : sp = 0
   ·subst s0
    have HV : Hid (fv = true) := Lib.hid HFV.out
    go_wp2_with fail
    (refine bodyPost_ret (results_tmp rfl _ _ _) rfl ⟨?_, HXB.out⟩; exact congrArg (fun b => Ending.returned (.bool b)) HV.out.symm)
   ·have s1 : (sp == 0) = false := by rw [beq_eq_false_iff_ne]; exact s0
    have HV : Hid (fv = false) := Lib.hid (by rw [HFV.out, decide_eq_false s0])
    clear s0
    go_wp2_with fail
    (refine bodyPost_ret (results_tmp rfl _ _ _) rfl ⟨?_, HXB.out⟩; exact congrArg (fun b => Ending.returned (.bool b)) HV.out.symm)
  ·have k2 : (kd != 1) = true := by rw [bne_iff_ne]; exact k1
   have HV : Hid (fv = false) := Lib.hid (by rw [← HFQ.out]; unfold fB; rw [HRK.out, decide_eq_false hb, decide_eq_false k1]; rfl)
   have e3 : ¬ ((mF : Int) + (mT : Int) + (mS : Int) + (mE : Int) ≤ 0) := by omega
   have e4 : decide ((0 : Int) < (mF : Int) + (mT : Int) + (mS : Int) + (mE : Int)) = true := decide_eq_true (by omega)
   clear HFQ HRK d1 d8 k1 hb
   go_wp2_with fail
   (refine bodyPost_ret (results_tmp rfl _ _ _) rfl ⟨?_, HXB.out⟩; exact congrArg (fun b => Ending.returned (.bool b)) HV.out.symm)
end Go.Proofs.Ytolgmoaoheflcaa.Sa
