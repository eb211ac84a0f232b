/-
 CONTRACTS: rightKind, ofStep, formed (printed by gengfo.py).
-/
import Derived.Test.YtolgmoaoheflcaaGSt
namespace Go.Proofs.Ytolgmoaoheflcaa.Sa
open Go.RowKit
open DiP
set_option linter.unusedVariables false
set_option linter.unusedSimpArgs false
set_option maxRecDepth 10000
def rkB (k : Int) : Bool := decide (1 ≤ k ∧ k ≤ 8)
theorem rightKind_any (k : Int) (w : World) : Calls Try.prog 45 #[.int .i64 k] w fun e w' => e = .returned (.bool (rkB k)) ∧ Below w.heap.size w w' := by
 go_enter Try.func45, Try.ntmps45
 by_cases h1 : 1 ≤ k
 ·have d1 : decide (1 ≤ k) = true := decide_eq_true h1
  by_cases h2 : k ≤ 8
  ·have d2 : decide (k ≤ 8) = true := decide_eq_true h2
   have HV : Hid (rkB k = true) := Lib.hid (decide_eq_true ⟨h1, h2⟩)
   go_wp2_with fail
   refine bodyPost_ret (results_tmp rfl _ _ _) rfl ⟨?_, Below.refl _ _⟩
   exact congrArg (fun b => Ending.returned (.bool b)) HV.out.symm
  ·have d2 : decide (k ≤ 8) = false := decide_eq_false h2
   have HV : Hid (rkB k = false) := Lib.hid (decide_eq_false (fun h => h2 h.2))
   go_wp2_with fail
   refine bodyPost_ret (results_tmp rfl _ _ _) rfl ⟨?_, Below.refl _ _⟩
   exact congrArg (fun b => Ending.returned (.bool b)) HV.out.symm
 ·have d1 : decide (1 ≤ k) = false := decide_eq_false h1
  have HV : Hid (rkB k = false) := Lib.hid (decide_eq_false (fun h => h1 h.1))
  go_wp2_with fail
  refine bodyPost_ret (results_tmp rfl _ _ _) rfl ⟨?_, Below.refl _ _⟩
  exact congrArg (fun b => Ending.returned (.bool b)) HV.out.symm
theorem ofStep_any (k : Int) (w : World) : Calls Try.prog 41 #[.int .i64 k] w fun e w' => e = .returned (.bool (ofStepB k)) ∧ Below w.heap.size w w' := by
 go_enter Try.func41, Try.ntmps41
 by_cases p2 : k = 2
 ·subst p2
  have HV : Hid (ofStepB 2 = true) := Lib.hid rfl
  go_wp2_with fail
  refine bodyPost_ret (results_tmp rfl _ _ _) rfl ⟨?_, Below.refl _ _⟩
  exact congrArg (fun b => Ending.returned (.bool b)) HV.out.symm
 have b2 : (k == 2) = false := by rw [beq_eq_false_iff_ne]; exact p2
 by_cases p3 : k = 3
 ·subst p3
  have HV : Hid (ofStepB 3 = true) := Lib.hid rfl
  clear p2 b2
  go_wp2_with fail
  refine bodyPost_ret (results_tmp rfl _ _ _) rfl ⟨?_, Below.refl _ _⟩
  exact congrArg (fun b => Ending.returned (.bool b)) HV.out.symm
 have b3 : (k == 3) = false := by rw [beq_eq_false_iff_ne]; exact p3
 by_cases p4 : k = 4
 ·subst p4
  have HV : Hid (ofStepB 4 = true) := Lib.hid rfl
  clear p2 b2 p3 b3
  go_wp2_with fail
  refine bodyPost_ret (results_tmp rfl _ _ _) rfl ⟨?_, Below.refl _ _⟩
  exact congrArg (fun b => Ending.returned (.bool b)) HV.out.symm
 have b4 : (k == 4) = false := by rw [beq_eq_false_iff_ne]; exact p4
 by_cases p6 : k = 6
 ·subst p6
  have HV : Hid (ofStepB 6 = true) := Lib.hid rfl
  clear p2 b2 p3 b3 p4 b4
  go_wp2_with fail
  refine bodyPost_ret (results_tmp rfl _ _ _) rfl ⟨?_, Below.refl _ _⟩
  exact congrArg (fun b => Ending.returned (.bool b)) HV.out.symm
 have b6 : (k == 6) = false := by rw [beq_eq_false_iff_ne]; exact p6
 have HV : Hid (ofStepB k = false) := Lib.hid (by unfold ofStepB; exact decide_eq_false (by omega))
 clear p2 p3 p4 p6
 go_wp2_with fail
 refine bodyPost_ret (results_tmp rfl _ _ _) rfl ⟨?_, Below.refl _ _⟩
 exact congrArg (fun b => Ending.returned (.bool b)) HV.out.symm
structure RcW (w : World) (B : Nat) (kd sp : Int) (BF : Option Addr) (mF : Nat) (BT : Option Addr) (mT : Nat) (BS : Option Addr) (mS : Nat) (BE : Option Addr) (mE : Nat) (r : RcV) : Prop where
 pl : PlW w B BF mF BT mT BS mS BE mE r.pl
 kind : r.kind = kd
 step : r.step = sp
theorem RcW.below {w w' : World} {B : Nat} {kd sp : Int} {BF BT BS BE : Option Addr} {mF mT mS mE : Nat} {r : RcV} (h : RcW w B kd sp BF mF BT mT BS mS BE mE r) (hb : Below B w w') : RcW w' B kd sp BF mF BT mT BS mS BE mE r := ⟨h.pl.below hb, h.kind, h.step⟩
theorem RcW.more {w : World} {B B' : Nat} {kd sp : Int} {BF BT BS BE : Option Addr} {mF mT mS mE : Nat} {r : RcV} (h : RcW w B kd sp BF mF BT mT BS mS BE mE r) (hb : B ≤ B') : RcW w B' kd sp BF mF BT mT BS mS BE mE r := ⟨h.pl.more hb, h.kind, h.step⟩
set_option maxHeartbeats 16000000 in
theorem formed_any {w : World} {B : Nat} {kd sp : Int} {BF BT BS BE : Option Addr} {mF mT mS mE dF dT dS dE : Nat} {r : RcV} (h : RcW w B kd sp BF mF BT mT BS mS BE mE r) (hB : B ≤ w.heap.size) :
 Calls Try.prog 36 #[.agg #[.int .i64 kd, .int .i64 sp, .slice BF mF dF, .slice BT mT dT, .slice BS mS dS, .slice BE mE dE]] w fun e w' => e = .returned (.bool (formB r)) ∧ Below w.heap.size w w' := by
 obtain ⟨W, HW⟩ : ∃ W, Hid (W = w.alloc (.cells #[.int .i64 kd, .int .i64 sp, .slice BF mF dF, .slice BT mT dT, .slice BS mS dS, .slice BE mE dE] 33)) := ⟨_, Lib.hid rfl⟩
 have hbl : Below w.heap.size w W := by rw [HW.out]; exact (Below.refl _ w).alloc (Nat.le_refl _) _
 have H0 : Hid (W.heap[w.heap.size]? = some (.cells #[.int .i64 kd, .int .i64 sp, .slice BF mF dF, .slice BT mT dT, .slice BS mS dS, .slice BE mE dE] 33 (0, 0))) := Lib.hid (by rw [HW.out]; exact heap_new w _)
 have HBL := Lib.hid hbl
 have HFV : Hid (formB r = (rkB kd && (decide (mF = 0 ∧ mT = 0 ∧ mS = 0 ∧ mE = 0) || decide (kd = 1)) && (decide (sp = 0) || ofStepB kd))) := Lib.hid (by
  unfold formB bareB rkB; rw [h.kind, h.step, h.pl.fs.len, h.pl.ts.len, h.pl.S.1, h.pl.E.1])
 clear h hbl hB
 have HX : Hid (∀ Z, Below W.heap.size W Z → Z.cell? ⟨w.heap.size, 0, none⟩ = some (.int .i64 kd) ∧ Z.cell? ⟨w.heap.size, 1, none⟩ = some (.int .i64 sp) ∧ Z.cell? ⟨w.heap.size, 2, none⟩ = some (.slice BF mF dF) ∧ Z.cell? ⟨w.heap.size, 3, none⟩ = some (.slice BT mT dT) ∧ Z.cell? ⟨w.heap.size, 4, none⟩ = some (.slice BS mS dS) ∧ Z.cell? ⟨w.heap.size, 5, none⟩ = some (.slice BE mE dE)) := Lib.hid (fun Z hZ => row6 ((hZ.block w.heap.size (heapE_lt H0.out)).trans H0.out))
 have HRK := Lib.hid (rightKind_any kd W)
 obtain ⟨rk, HRV⟩ : ∃ q, Hid (rkB kd = q) := ⟨_, Lib.hid rfl⟩
 have HOS := Lib.hid (fun Z => ofStep_any kd Z)
 obtain ⟨os, HOV⟩ : ∃ q, Hid (ofStepB kd = q) := ⟨_, Lib.hid rfl⟩
 rw [HRV.out] at HRK HFV
 rw [HOV.out] at HOS HFV
 obtain ⟨x0, x1, x2, x3, x4, x5⟩ := HX.out W (Below.refl _ _)
 go_enter Try.func36, Try.ntmps36
 go_upto_region 1 with fail
 change Code.wp _ _ _ _ (w.alloc (.cells #[.int .i64 kd, .int .i64 sp, .slice BF mF dF, .slice BT mT dT, .slice BS mS dS, .slice BE mE dE] 33))
 rw [← HW.out]
 by_cases zmF : mF = 0
 rotate_left
 ·have dmF : ((mF : Int) == 0) = false := by rw [beq_eq_false_iff_ne]; omega
  have HCO : Hid (decide (mF = 0 ∧ mT = 0 ∧ mS = 0 ∧ mE = 0) = false) := Lib.hid (decide_eq_false (by omega))
  clear zmF
  have HV0 : Hid (formB r = (rk && (false || decide (kd = 1)) && (decide (sp = 0) || os))) := Lib.hid (by rw [HFV.out, HCO.out])
  clear HFV
  cases rk with
  | false =>
   have HV : Hid (formB r = false) := Lib.hid (by rw [HV0.out]; rfl)
   go_wp2_with fail
   refine HRK.out.mono ?_
   rintro e w1 ⟨rfl, hb⟩
   clear x0 x1 x2 x3 x4 x5
   obtain ⟨x0, x1, x2, x3, x4, x5⟩ := HX.out w1 hb
   have HBw1 := Lib.hid (HBL.out.trans (hb.mono HBL.out.size))
   clear hb
   go_wp2_with fail
   refine bodyPost_ret (results_tmp rfl _ _ _) rfl ⟨?_, HBw1.out⟩
   exact congrArg (fun b => Ending.returned (.bool b)) HV.out.symm
  | true =>
   by_cases k1 : kd = 1
   ·subst k1
    have HK : Hid ((false || decide ((1 : Int) = 1)) = true) := Lib.hid rfl
    by_cases s0 : sp = 0
    ·subst s0
     have HV : Hid (formB r = true) := Lib.hid (by rw [HV0.out, HK.out]; rfl)
     go_wp2_with fail
     refine HRK.out.mono ?_
     rintro e w1 ⟨rfl, hb⟩
     clear x0 x1 x2 x3 x4 x5
     obtain ⟨x0, x1, x2, x3, x4, x5⟩ := HX.out w1 hb
     have HBw1 := Lib.hid (HBL.out.trans (hb.mono HBL.out.size))
     clear hb
     go_wp2_with fail
     refine bodyPost_ret (results_tmp rfl _ _ _) rfl ⟨?_, HBw1.out⟩
     exact congrArg (fun b => Ending.returned (.bool b)) HV.out.symm
    ·have s1 : (sp == 0) = false := by rw [beq_eq_false_iff_ne]; exact s0
     have HV : Hid (formB r = os) := Lib.hid (by rw [HV0.out, HK.out, decide_eq_false s0]; cases os <;> rfl)
     clear s0
     go_wp2_with fail
     refine HRK.out.mono ?_
     rintro e w1 ⟨rfl, hb⟩
     clear x0 x1 x2 x3 x4 x5
     obtain ⟨x0, x1, x2, x3, x4, x5⟩ := HX.out w1 hb
     have HBw1 := Lib.hid (HBL.out.trans (hb.mono HBL.out.size))
     clear hb
     go_wp2_with fail
     refine (HOS.out _).mono ?_
     rintro e w2 ⟨rfl, hb⟩
     have HBw2 := Lib.hid (HBw1.out.trans (hb.mono HBw1.out.size))
     clear hb x0 x1 x2 x3 x4 x5
     go_wp2_with fail
     refine bodyPost_ret (results_tmp rfl _ _ _) rfl ⟨?_, HBw2.out⟩
     exact congrArg (fun b => Ending.returned (.bool b)) HV.out.symm
   ·have k2 : (kd == 1) = false := by rw [beq_eq_false_iff_ne]; exact k1
    have HV : Hid (formB r = false) := Lib.hid (by rw [HV0.out, decide_eq_false k1]; rfl)
    clear k1
    go_wp2_with fail
    refine HRK.out.mono ?_
    rintro e w1 ⟨rfl, hb⟩
    clear x0 x1 x2 x3 x4 x5
    obtain ⟨x0, x1, x2, x3, x4, x5⟩ := HX.out w1 hb
    have HBw1 := Lib.hid (HBL.out.trans (hb.mono HBL.out.size))
    clear hb
    go_wp2_with fail
    refine bodyPost_ret (results_tmp rfl _ _ _) rfl ⟨?_, HBw1.out⟩
    exact congrArg (fun b => Ending.returned (.bool b)) HV.out.symm
 subst zmF
 by_cases zmT : mT = 0
 rotate_left
 ·have dmT : ((mT : Int) == 0) = false := by rw [beq_eq_false_iff_ne]; omega
  have HCO : Hid (decide (0 = 0 ∧ mT = 0 ∧ mS = 0 ∧ mE = 0) = false) := Lib.hid (decide_eq_false (by omega))
  clear zmT
  have HV0 : Hid (formB r = (rk && (false || decide (kd = 1)) && (decide (sp = 0) || os))) := Lib.hid (by rw [HFV.out, HCO.out])
  clear HFV
  cases rk with
  | false =>
   have HV : Hid (formB r = false) := Lib.hid (by rw [HV0.out]; rfl)
   go_wp2_with fail
   refine HRK.out.mono ?_
   rintro e w1 ⟨rfl, hb⟩
   clear x0 x1 x2 x3 x4 x5
   obtain ⟨x0, x1, x2, x3, x4, x5⟩ := HX.out w1 hb
   have HBw1 := Lib.hid (HBL.out.trans (hb.mono HBL.out.size))
   clear hb
   go_wp2_with fail
   refine bodyPost_ret (results_tmp rfl _ _ _) rfl ⟨?_, HBw1.out⟩
   exact congrArg (fun b => Ending.returned (.bool b)) HV.out.symm
  | true =>
   by_cases k1 : kd = 1
   ·subst k1
    have HK : Hid ((false || decide ((1 : Int) = 1)) = true) := Lib.hid rfl
    by_cases s0 : sp = 0
    ·subst s0
     have HV : Hid (formB r = true) := Lib.hid (by rw [HV0.out, HK.out]; rfl)
     go_wp2_with fail
     refine HRK.out.mono ?_
     rintro e w1 ⟨rfl, hb⟩
     clear x0 x1 x2 x3 x4 x5
     obtain ⟨x0, x1, x2, x3, x4, x5⟩ := HX.out w1 hb
     have HBw1 := Lib.hid (HBL.out.trans (hb.mono HBL.out.size))
     clear hb
     go_wp2_with fail
     refine bodyPost_ret (results_tmp rfl _ _ _) rfl ⟨?_, HBw1.out⟩
     exact congrArg (fun b => Ending.returned (.bool b)) HV.out.symm
    ·have s1 : (sp == 0) = false := by rw [beq_eq_false_iff_ne]; exact s0
     have HV : Hid (formB r = os) := Lib.hid (by rw [HV0.out, HK.out, decide_eq_false s0]; cases os <;> rfl)
     clear s0
     go_wp2_with fail
     refine HRK.out.mono ?_
     rintro e w1 ⟨rfl, hb⟩
     clear x0 x1 x2 x3 x4 x5
     obtain ⟨x0, x1, x2, x3, x4, x5⟩ := HX.out w1 hb
     have HBw1 := Lib.hid (HBL.out.trans (hb.mono HBL.out.size))
     clear hb
     go_wp2_with fail
     refine (HOS.out _).mono ?_
     rintro e w2 ⟨rfl, hb⟩
     have HBw2 := Lib.hid (HBw1.out.trans (hb.mono HBw1.out.size))
     clear hb x0 x1 x2 x3 x4 x5
     go_wp2_with fail
     refine bodyPost_ret (results_tmp rfl _ _ _) rfl ⟨?_, HBw2.out⟩
     exact congrArg (fun b => Ending.returned (.bool b)) HV.out.symm
   ·have k2 : (kd == 1) = false := by rw [beq_eq_false_iff_ne]; exact k1
    have HV : Hid (formB r = false) := Lib.hid (by rw [HV0.out, decide_eq_false k1]; rfl)
    clear k1
    go_wp2_with fail
    refine HRK.out.mono ?_
    rintro e w1 ⟨rfl, hb⟩
    clear x0 x1 x2 x3 x4 x5
    obtain ⟨x0, x1, x2, x3, x4, x5⟩ := HX.out w1 hb
    have HBw1 := Lib.hid (HBL.out.trans (hb.mono HBL.out.size))
    clear hb
    go_wp2_with fail
    refine bodyPost_ret (results_tmp rfl _ _ _) rfl ⟨?_, HBw1.out⟩
    exact congrArg (fun b => Ending.returned (.bool b)) HV.out.symm
 subst zmT
 by_cases zmS : mS = 0
 rotate_left
 ·have dmS : ((mS : Int) == 0) = false := by rw [beq_eq_false_iff_ne]; omega
  have HCO : Hid (decide (0 = 0 ∧ 0 = 0 ∧ mS = 0 ∧ mE = 0) = false) := Lib.hid (decide_eq_false (by omega))
  clear zmS
  have HV0 : Hid (formB r = (rk && (false || decide (kd = 1)) && (decide (sp = 0) || os))) := Lib.hid (by rw [HFV.out, HCO.out])
  clear HFV
  cases rk with
  | false =>
   have HV : Hid (formB r = false) := Lib.hid (by rw [HV0.out]; rfl)
   go_wp2_with fail
   refine HRK.out.mono ?_
   rintro e w1 ⟨rfl, hb⟩
   clear x0 x1 x2 x3 x4 x5
   obtain ⟨x0, x1, x2, x3, x4, x5⟩ := HX.out w1 hb
   have HBw1 := Lib.hid (HBL.out.trans (hb.mono HBL.out.size))
   clear hb
   go_wp2_with fail
   refine bodyPost_ret (results_tmp rfl _ _ _) rfl ⟨?_, HBw1.out⟩
   exact congrArg (fun b => Ending.returned (.bool b)) HV.out.symm
  | true =>
   by_cases k1 : kd = 1
   ·subst k1
    have HK : Hid ((false || decide ((1 : Int) = 1)) = true) := Lib.hid rfl
    by_cases s0 : sp = 0
    ·subst s0
     have HV : Hid (formB r = true) := Lib.hid (by rw [HV0.out, HK.out]; rfl)
     go_wp2_with fail
     refine HRK.out.mono ?_
     rintro e w1 ⟨rfl, hb⟩
     clear x0 x1 x2 x3 x4 x5
     obtain ⟨x0, x1, x2, x3, x4, x5⟩ := HX.out w1 hb
     have HBw1 := Lib.hid (HBL.out.trans (hb.mono HBL.out.size))
     clear hb
     go_wp2_with fail
     refine bodyPost_ret (results_tmp rfl _ _ _) rfl ⟨?_, HBw1.out⟩
     exact congrArg (fun b => Ending.returned (.bool b)) HV.out.symm
    ·have s1 : (sp == 0) = false := by rw [beq_eq_false_iff_ne]; exact s0
     have HV : Hid (formB r = os) := Lib.hid (by rw [HV0.out, HK.out, decide_eq_false s0]; cases os <;> rfl)
     clear s0
     go_wp2_with fail
     refine HRK.out.mono ?_
     rintro e w1 ⟨rfl, hb⟩
     clear x0 x1 x2 x3 x4 x5
     obtain ⟨x0, x1, x2, x3, x4, x5⟩ := HX.out w1 hb
     have HBw1 := Lib.hid (HBL.out.trans (hb.mono HBL.out.size))
     clear hb
     go_wp2_with fail
     refine (HOS.out _).mono ?_
     rintro e w2 ⟨rfl, hb⟩
     have HBw2 := Lib.hid (HBw1.out.trans (hb.mono HBw1.out.size))
     clear hb x0 x1 x2 x3 x4 x5
     go_wp2_with fail
     refine bodyPost_ret (results_tmp rfl _ _ _) rfl ⟨?_, HBw2.out⟩
     exact congrArg (fun b => Ending.returned (.bool b)) HV.out.symm
   ·have k2 : (kd == 1) = false := by rw [beq_eq_false_iff_ne]; exact k1
    have HV : Hid (formB r = false) := Lib.hid (by rw [HV0.out, decide_eq_false k1]; rfl)
    clear k1
    go_wp2_with fail
    refine HRK.out.mono ?_
    rintro e w1 ⟨rfl, hb⟩
    clear x0 x1 x2 x3 x4 x5
    obtain ⟨x0, x1, x2, x3, x4, x5⟩ := HX.out w1 hb
    have HBw1 := Lib.hid (HBL.out.trans (hb.mono HBL.out.size))
    clear hb
    go_wp2_with fail
    refine bodyPost_ret (results_tmp rfl _ _ _) rfl ⟨?_, HBw1.out⟩
    exact congrArg (fun b => Ending.returned (.bool b)) HV.out.symm
 subst zmS
 by_cases zmE : mE = 0
 rotate_left
 ·have dmE : ((mE : Int) == 0) = false := by rw [beq_eq_false_iff_ne]; omega
  have HCO : Hid (decide (0 = 0 ∧ 0 = 0 ∧ 0 = 0 ∧ mE = 0) = false) := Lib.hid (decide_eq_false (by omega))
  clear zmE
  have HV0 : Hid (formB r = (rk && (false || decide (kd = 1)) && (decide (sp = 0) || os))) := Lib.hid (by rw [HFV.out, HCO.out])
  clear HFV
  cases rk with
  | false =>
   have HV : Hid (formB r = false) := Lib.hid (by rw [HV0.out]; rfl)
   go_wp2_with fail
   refine HRK.out.mono ?_
   rintro e w1 ⟨rfl, hb⟩
   clear x0 x1 x2 x3 x4 x5
   obtain ⟨x0, x1, x2, x3, x4, x5⟩ := HX.out w1 hb
   have HBw1 := Lib.hid (HBL.out.trans (hb.mono HBL.out.size))
   clear hb
   go_wp2_with fail
   refine bodyPost_ret (results_tmp rfl _ _ _) rfl ⟨?_, HBw1.out⟩
   exact congrArg (fun b => Ending.returned (.bool b)) HV.out.symm
  | true =>
   by_cases k1 : kd = 1
   ·subst k1
    have HK : Hid ((false || decide ((1 : Int) = 1)) = true) := Lib.hid rfl
    by_cases s0 : sp = 0
    ·subst s0
     have HV : Hid (formB r = true) := Lib.hid (by rw [HV0.out, HK.out]; rfl)
     go_wp2_with fail
     refine HRK.out.mono ?_
     rintro e w1 ⟨rfl, hb⟩
     clear x0 x1 x2 x3 x4 x5
     obtain ⟨x0, x1, x2, x3, x4, x5⟩ := HX.out w1 hb
     have HBw1 := Lib.hid (HBL.out.trans (hb.mono HBL.out.size))
     clear hb
     go_wp2_with fail
     refine bodyPost_ret (results_tmp rfl _ _ _) rfl ⟨?_, HBw1.out⟩
     exact congrArg (fun b => Ending.returned (.bool b)) HV.out.symm
    ·have s1 : (sp == 0) = false := by rw [beq_eq_false_iff_ne]; exact s0
     have HV : Hid (formB r = os) := Lib.hid (by rw [HV0.out, HK.out, decide_eq_false s0]; cases os <;> rfl)
     clear s0
     go_wp2_with fail
     refine HRK.out.mono ?_
     rintro e w1 ⟨rfl, hb⟩
     clear x0 x1 x2 x3 x4 x5
     obtain ⟨x0, x1, x2, x3, x4, x5⟩ := HX.out w1 hb
     have HBw1 := Lib.hid (HBL.out.trans (hb.mono HBL.out.size))
     clear hb
     go_wp2_with fail
     refine (HOS.out _).mono ?_
     rintro e w2 ⟨rfl, hb⟩
     have HBw2 := Lib.hid (HBw1.out.trans (hb.mono HBw1.out.size))
     clear hb x0 x1 x2 x3 x4 x5
     go_wp2_with fail
     refine bodyPost_ret (results_tmp rfl _ _ _) rfl ⟨?_, HBw2.out⟩
     exact congrArg (fun b => Ending.returned (.bool b)) HV.out.symm
   ·have k2 : (kd == 1) = false := by rw [beq_eq_false_iff_ne]; exact k1
    have HV : Hid (formB r = false) := Lib.hid (by rw [HV0.out, decide_eq_false k1]; rfl)
    clear k1
    go_wp2_with fail
    refine HRK.out.mono ?_
    rintro e w1 ⟨rfl, hb⟩
    clear x0 x1 x2 x3 x4 x5
    obtain ⟨x0, x1, x2, x3, x4, x5⟩ := HX.out w1 hb
    have HBw1 := Lib.hid (HBL.out.trans (hb.mono HBL.out.size))
    clear hb
    go_wp2_with fail
    refine bodyPost_ret (results_tmp rfl _ _ _) rfl ⟨?_, HBw1.out⟩
    exact congrArg (fun b => Ending.returned (.bool b)) HV.out.symm
 subst zmE
 have HCO : Hid (decide ((0 : Nat) = 0 ∧ (0 : Nat) = 0 ∧ (0 : Nat) = 0 ∧ (0 : Nat) = 0) = true) := Lib.hid rfl
 have HV0 : Hid (formB r = (rk && (true || decide (kd = 1)) && (decide (sp = 0) || os))) := Lib.hid (by rw [HFV.out, HCO.out])
 clear HFV
 cases rk with
 | false =>
  have HV : Hid (formB r = false) := Lib.hid (by rw [HV0.out]; rfl)
  go_wp2_with fail
  refine HRK.out.mono ?_
  rintro e w1 ⟨rfl, hb⟩
  clear x0 x1 x2 x3 x4 x5
  obtain ⟨x0, x1, x2, x3, x4, x5⟩ := HX.out w1 hb
  have HBw1 := Lib.hid (HBL.out.trans (hb.mono HBL.out.size))
  clear hb
  go_wp2_with fail
  refine bodyPost_ret (results_tmp rfl _ _ _) rfl ⟨?_, HBw1.out⟩
  exact congrArg (fun b => Ending.returned (.bool b)) HV.out.symm
 | true =>
  have HK : Hid ((true || decide (kd = 1)) = true) := Lib.hid rfl
  by_cases s0 : sp = 0
  ·subst s0
   have HV : Hid (formB r = true) := Lib.hid (by rw [HV0.out, HK.out]; rfl)
   go_wp2_with fail
   refine HRK.out.mono ?_
   rintro e w1 ⟨rfl, hb⟩
   clear x0 x1 x2 x3 x4 x5
   obtain ⟨x0, x1, x2, x3, x4, x5⟩ := HX.out w1 hb
   have HBw1 := Lib.hid (HBL.out.trans (hb.mono HBL.out.size))
   clear hb
   go_wp2_with fail
   refine bodyPost_ret (results_tmp rfl _ _ _) rfl ⟨?_, HBw1.out⟩
   exact congrArg (fun b => Ending.returned (.bool b)) HV.out.symm
  ·have s1 : (sp == 0) = false := by rw [beq_eq_false_iff_ne]; exact s0
   have HV : Hid (formB r = os) := Lib.hid (by rw [HV0.out, HK.out, decide_eq_false s0]; cases os <;> rfl)
   clear s0
   go_wp2_with fail
   refine HRK.out.mono ?_
   rintro e w1 ⟨rfl, hb⟩
   clear x0 x1 x2 x3 x4 x5
   obtain ⟨x0, x1, x2, x3, x4, x5⟩ := HX.out w1 hb
   have HBw1 := Lib.hid (HBL.out.trans (hb.mono HBL.out.size))
   clear hb
   go_wp2_with fail
   refine (HOS.out _).mono ?_
   rintro e w2 ⟨rfl, hb⟩
   have HBw2 := Lib.hid (HBw1.out.trans (hb.mono HBw1.out.size))
   clear hb x0 x1 x2 x3 x4 x5
   go_wp2_with fail
   refine bodyPost_ret (results_tmp rfl _ _ _) rfl ⟨?_, HBw2.out⟩
   exact congrArg (fun b => Ending.returned (.bool b)) HV.out.symm
end Go.Proofs.Ytolgmoaoheflcaa.Sa
