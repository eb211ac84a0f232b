/-
 CONTRACT: check (printed by gengch.py).
-/
import Derived.Test.YtolgmoaoheflcaaGTk
import Derived.Test.YtolgmoaoheflcaaGFo
import Derived.Test.YtolgmoaoheflcaaGBe
namespace Go.Proofs.Ytolgmoaoheflcaa.Sa
open Go.RowKit
open DiP
set_option linter.unusedVariables false
set_option linter.unusedSimpArgs false
set_option maxRecDepth 10000
set_option maxHeartbeats 16000000 in
theorem check_any {w : World} {B : Nat} {num ph : Int} {AF AT AS AE AO AD : Option Addr} {nF nT nS nE nO nD cF cT cS cE cO cD : Nat} {kd sp : Int} {BF BT BS BE : Option Addr} {mF mT mS mE dF dT dS dE : Nat} {s : StV} {r : RcV} (h : StW w B num ph AF nF AT nT AS nS AE nE AO nO AD nD s) (hr : RcW w B kd sp BF mF BT mT BS mS BE mE r) (hB : B ≤ w.heap.size) (hk : 1 ≤ kd ∧ kd ≤ 8) :
 Calls Try.prog 38 #[.agg #[.int .i64 num, .int .i64 ph, .slice AF nF cF, .slice AT nT cT, .slice AS nS cS, .slice AE nE cE, .slice AO nO cO, .slice AD nD cD], .agg #[.int .i64 kd, .int .i64 sp, .slice BF mF dF, .slice BT mT dT, .slice BS mS dS, .slice BE mE dE]] w fun e w' => e = .returned (.int .i64 (checkI s r)) ∧ Below w.heap.size w w' := by
 obtain ⟨W, HW⟩ : ∃ W, Hid (W = (w.alloc (.cells #[.int .i64 num, .int .i64 ph, .slice AF nF cF, .slice AT nT cT, .slice AS nS cS, .slice AE nE cE, .slice AO nO cO, .slice AD nD cD] 31)).alloc (.cells #[.int .i64 kd, .int .i64 sp, .slice BF mF dF, .slice BT mT dT, .slice BS mS dS, .slice BE mE dE] 33)) := ⟨_, Lib.hid rfl⟩
 have hbl : Below w.heap.size w W := by rw [HW.out]; exact ((Below.refl _ w).alloc (Nat.le_refl _) _).alloc (by simp) _
 have H0 : Hid (W.heap[w.heap.size]? = some (.cells #[.int .i64 num, .int .i64 ph, .slice AF nF cF, .slice AT nT cT, .slice AS nS cS, .slice AE nE cE, .slice AO nO cO, .slice AD nD cD] 31 (0, 0))) := Lib.hid (by rw [HW.out, Below.heap_alloc _ _ _ (by simp)]; exact heap_new w _)
 have H1 : Hid (W.heap[w.heap.size + 1]? = some (.cells #[.int .i64 kd, .int .i64 sp, .slice BF mF dF, .slice BT mT dT, .slice BS mS dS, .slice BE mE dE] 33 (0, 0))) := Lib.hid (by
  rw [HW.out]
  have h := heap_new (w.alloc (.cells #[.int .i64 num, .int .i64 ph, .slice AF nF cF, .slice AT nT cT, .slice AS nS cS, .slice AE nE cE, .slice AO nO cO, .slice AD nD cD] 31)) (.cells #[.int .i64 kd, .int .i64 sp, .slice BF mF dF, .slice BT mT dT, .slice BS mS dS, .slice BE mE dE] 33)
  rw [World.size_alloc] at h; exact h)
 have HBL := Lib.hid hbl
 have HS := Lib.hid (h.below (hbl.mono hB))
 have HR := Lib.hid (hr.below (hbl.mono hB))
 have HBB : Hid (B ≤ W.heap.size) := Lib.hid (Nat.le_trans hB hbl.size)
 have HKD : Hid (r.kind = kd) := Lib.hid hr.kind
 have HSP : Hid (r.step = sp) := Lib.hid hr.step
 have ho100 := h.so
 have hd100 := h.sd
 clear h hr hbl hB
 have HX : Hid (∀ Z, Below W.heap.size W Z → (Z.cell? ⟨w.heap.size, 0, none⟩ = some (.int .i64 num) ∧ Z.cell? ⟨w.heap.size, 1, none⟩ = some (.int .i64 ph) ∧ Z.cell? ⟨w.heap.size, 2, none⟩ = some (.slice AF nF cF) ∧ Z.cell? ⟨w.heap.size, 3, none⟩ = some (.slice AT nT cT) ∧ Z.cell? ⟨w.heap.size, 4, none⟩ = some (.slice AS nS cS) ∧ Z.cell? ⟨w.heap.size, 5, none⟩ = some (.slice AE nE cE) ∧ Z.cell? ⟨w.heap.size, 6, none⟩ = some (.slice AO nO cO) ∧ Z.cell? ⟨w.heap.size, 7, none⟩ = some (.slice AD nD cD)) ∧ (Z.cell? ⟨w.heap.size + 1, 0, none⟩ = some (.int .i64 kd) ∧ Z.cell? ⟨w.heap.size + 1, 1, none⟩ = some (.int .i64 sp) ∧ Z.cell? ⟨w.heap.size + 1, 2, none⟩ = some (.slice BF mF dF) ∧ Z.cell? ⟨w.heap.size + 1, 3, none⟩ = some (.slice BT mT dT) ∧ Z.cell? ⟨w.heap.size + 1, 4, none⟩ = some (.slice BS mS dS) ∧ Z.cell? ⟨w.heap.size + 1, 5, none⟩ = some (.slice BE mE dE))) := Lib.hid (fun Z hZ => ⟨row8 ((hZ.block w.heap.size (heapE_lt H0.out)).trans H0.out), row6 ((hZ.block (w.heap.size + 1) (heapE_lt H1.out)).trans H1.out)⟩)
 obtain ⟨⟨x0, x1, x2, x3, x4, x5, x6, x7⟩, ⟨y0, y1, y2, y3, y4, y5⟩⟩ := HX.out W (Below.refl _ _)
 have hk8 : kd = 1 ∨ kd = 2 ∨ kd = 3 ∨ kd = 4 ∨ kd = 5 ∨ kd = 6 ∨ kd = 7 ∨ kd = 8 := by omega
 clear hk
 rcases hk8 with rfl | rfl | rfl | rfl | rfl | rfl | rfl | rfl
 ·go_enter Try.func38, Try.ntmps38
  go_upto_region 1 with fail
  change Code.wp _ _ _ _ ((w.alloc (.cells #[.int .i64 num, .int .i64 ph, .slice AF nF cF, .slice AT nT cT, .slice AS nS cS, .slice AE nE cE, .slice AO nO cO, .slice AD nD cD] 31)).alloc (.cells #[.int .i64 1, .int .i64 sp, .slice BF mF dF, .slice BT mT dT, .slice BS mS dS, .slice BE mE dE] 33))
  rw [← HW.out]
  have HC := Lib.hid (canBegin_any (cF := dF) (cT := dT) (cS := dS) (cE := dE) HR.out.pl HBB.out)
  have HE : Hid (checkI s r = if canB r.pl = true then 0 else 45) := Lib.hid (by unfold checkI; rw [HKD.out, if_pos rfl])
  obtain ⟨q, HQ⟩ : ∃ q, Hid (canB r.pl = q) := ⟨_, Lib.hid rfl⟩
  rw [HQ.out] at HC HE
  cases q with
  | true =>
   have HV : Hid (checkI s r = 0) := Lib.hid (by rw [HE.out]; rfl)
   go_wp2_with fail
   refine HC.out.mono ?_
   rintro e w1 ⟨rfl, hb⟩
   have HB1 := Lib.hid (HBL.out.trans (hb.mono HBL.out.size))
   clear hb
   clear x0 x1 x2 x3 x4 x5 x6 x7 y0 y1 y2 y3 y4 y5
   go_wp2_with fail
   refine bodyPost_ret (results_tmp rfl _ _ _) rfl ⟨?_, HB1.out⟩
   exact congrArg (fun b => Ending.returned (.int .i64 b)) HV.out.symm
  | false =>
   have HV : Hid (checkI s r = 45) := Lib.hid (by rw [HE.out]; rfl)
   go_wp2_with fail
   refine HC.out.mono ?_
   rintro e w1 ⟨rfl, hb⟩
   have HB1 := Lib.hid (HBL.out.trans (hb.mono HBL.out.size))
   clear hb
   clear x0 x1 x2 x3 x4 x5 x6 x7 y0 y1 y2 y3 y4 y5
   go_wp2_with fail
   refine bodyPost_ret (results_tmp rfl _ _ _) rfl ⟨?_, HB1.out⟩
   exact congrArg (fun b => Ending.returned (.int .i64 b)) HV.out.symm
 ·go_enter Try.func38, Try.ntmps38
  go_upto_region 1 with fail
  change Code.wp _ _ _ _ ((w.alloc (.cells #[.int .i64 num, .int .i64 ph, .slice AF nF cF, .slice AT nT cT, .slice AS nS cS, .slice AE nE cE, .slice AO nO cO, .slice AD nD cD] 31)).alloc (.cells #[.int .i64 2, .int .i64 sp, .slice BF mF dF, .slice BT mT dT, .slice BS mS dS, .slice BE mE dE] 33))
  rw [← HW.out]
  have HC := Lib.hid (may_any (cF := cF) (cT := cT) (cS := cS) (cE := cE) (cO := cO) (cD := cD) HS.out HBB.out sp)
  have HE : Hid (checkI s r = if mayB s sp = true then 0 else 71) := Lib.hid (by unfold checkI; rw [HKD.out, HSP.out, if_neg (by decide), if_pos rfl])
  obtain ⟨q, HQ⟩ : ∃ q, Hid (mayB s sp = q) := ⟨_, Lib.hid rfl⟩
  rw [HQ.out] at HC HE
  cases q with
  | true =>
   have HV : Hid (checkI s r = 0) := Lib.hid (by rw [HE.out]; rfl)
   go_wp2_with fail
   refine HC.out.mono ?_
   rintro e w1 ⟨rfl, hb⟩
   have HB1 := Lib.hid (HBL.out.trans (hb.mono HBL.out.size))
   clear hb
   clear x0 x1 x2 x3 x4 x5 x6 x7 y0 y1 y2 y3 y4 y5
   go_wp2_with fail
   refine bodyPost_ret (results_tmp rfl _ _ _) rfl ⟨?_, HB1.out⟩
   exact congrArg (fun b => Ending.returned (.int .i64 b)) HV.out.symm
  | false =>
   have HV : Hid (checkI s r = 71) := Lib.hid (by rw [HE.out]; rfl)
   go_wp2_with fail
   refine HC.out.mono ?_
   rintro e w1 ⟨rfl, hb⟩
   have HB1 := Lib.hid (HBL.out.trans (hb.mono HBL.out.size))
   clear hb
   clear x0 x1 x2 x3 x4 x5 x6 x7 y0 y1 y2 y3 y4 y5
   go_wp2_with fail
   refine bodyPost_ret (results_tmp rfl _ _ _) rfl ⟨?_, HB1.out⟩
   exact congrArg (fun b => Ending.returned (.int .i64 b)) HV.out.symm
 ·go_enter Try.func38, Try.ntmps38
  go_upto_region 1 with fail
  change Code.wp _ _ _ _ ((w.alloc (.cells #[.int .i64 num, .int .i64 ph, .slice AF nF cF, .slice AT nT cT, .slice AS nS cS, .slice AE nE cE, .slice AO nO cO, .slice AD nD cD] 31)).alloc (.cells #[.int .i64 3, .int .i64 sp, .slice BF mF dF, .slice BT mT dT, .slice BS mS dS, .slice BE mE dE] 33))
  rw [← HW.out]
  have HC := Lib.hid (contains_any (c := cO) HS.out.op (by omega) sp)
  have HE : Hid (checkI s r = if inB s.op sp = true then 0 else 71) := Lib.hid (by unfold checkI; rw [HKD.out, HSP.out, if_neg (by decide), if_neg (by decide), if_pos (by decide)])
  obtain ⟨q, HQ⟩ : ∃ q, Hid (inB s.op sp = q) := ⟨_, Lib.hid rfl⟩
  rw [HQ.out] at HC HE
  cases q with
  | true =>
   have HV : Hid (checkI s r = 0) := Lib.hid (by rw [HE.out]; rfl)
   go_wp2_with fail
   refine HC.out.mono ?_
   rintro e w1 ⟨rfl, hb⟩
   have HB1 := Lib.hid (HBL.out.trans (hb.mono HBL.out.size))
   clear hb
   clear x0 x1 x2 x3 x4 x5 x6 x7 y0 y1 y2 y3 y4 y5
   go_wp2_with fail
   refine bodyPost_ret (results_tmp rfl _ _ _) rfl ⟨?_, HB1.out⟩
   exact congrArg (fun b => Ending.returned (.int .i64 b)) HV.out.symm
  | false =>
   have HV : Hid (checkI s r = 71) := Lib.hid (by rw [HE.out]; rfl)
   go_wp2_with fail
   refine HC.out.mono ?_
   rintro e w1 ⟨rfl, hb⟩
   have HB1 := Lib.hid (HBL.out.trans (hb.mono HBL.out.size))
   clear hb
   clear x0 x1 x2 x3 x4 x5 x6 x7 y0 y1 y2 y3 y4 y5
   go_wp2_with fail
   refine bodyPost_ret (results_tmp rfl _ _ _) rfl ⟨?_, HB1.out⟩
   exact congrArg (fun b => Ending.returned (.int .i64 b)) HV.out.symm
 ·go_enter Try.func38, Try.ntmps38
  go_upto_region 1 with fail
  change Code.wp _ _ _ _ ((w.alloc (.cells #[.int .i64 num, .int .i64 ph, .slice AF nF cF, .slice AT nT cT, .slice AS nS cS, .slice AE nE cE, .slice AO nO cO, .slice AD nD cD] 31)).alloc (.cells #[.int .i64 4, .int .i64 sp, .slice BF mF dF, .slice BT mT dT, .slice BS mS dS, .slice BE mE dE] 33))
  rw [← HW.out]
  have HC := Lib.hid (contains_any (c := cO) HS.out.op (by omega) sp)
  have HE : Hid (checkI s r = if inB s.op sp = true then 0 else 71) := Lib.hid (by unfold checkI; rw [HKD.out, HSP.out, if_neg (by decide), if_neg (by decide), if_pos (by decide)])
  obtain ⟨q, HQ⟩ : ∃ q, Hid (inB s.op sp = q) := ⟨_, Lib.hid rfl⟩
  rw [HQ.out] at HC HE
  cases q with
  | true =>
   have HV : Hid (checkI s r = 0) := Lib.hid (by rw [HE.out]; rfl)
   go_wp2_with fail
   refine HC.out.mono ?_
   rintro e w1 ⟨rfl, hb⟩
   have HB1 := Lib.hid (HBL.out.trans (hb.mono HBL.out.size))
   clear hb
   clear x0 x1 x2 x3 x4 x5 x6 x7 y0 y1 y2 y3 y4 y5
   go_wp2_with fail
   refine bodyPost_ret (results_tmp rfl _ _ _) rfl ⟨?_, HB1.out⟩
   exact congrArg (fun b => Ending.returned (.int .i64 b)) HV.out.symm
  | false =>
   have HV : Hid (checkI s r = 71) := Lib.hid (by rw [HE.out]; rfl)
   go_wp2_with fail
   refine HC.out.mono ?_
   rintro e w1 ⟨rfl, hb⟩
   have HB1 := Lib.hid (HBL.out.trans (hb.mono HBL.out.size))
   clear hb
   clear x0 x1 x2 x3 x4 x5 x6 x7 y0 y1 y2 y3 y4 y5
   go_wp2_with fail
   refine bodyPost_ret (results_tmp rfl _ _ _) rfl ⟨?_, HB1.out⟩
   exact congrArg (fun b => Ending.returned (.int .i64 b)) HV.out.symm
 ·go_enter Try.func38, Try.ntmps38
  go_upto_region 1 with fail
  change Code.wp _ _ _ _ ((w.alloc (.cells #[.int .i64 num, .int .i64 ph, .slice AF nF cF, .slice AT nT cT, .slice AS nS cS, .slice AE nE cE, .slice AO nO cO, .slice AD nD cD] 31)).alloc (.cells #[.int .i64 5, .int .i64 sp, .slice BF mF dF, .slice BT mT dT, .slice BS mS dS, .slice BE mE dE] 33))
  rw [← HW.out]
  have HV : Hid (checkI s r = 0) := Lib.hid (by unfold checkI; rw [HKD.out]; rfl)
  go_wp2_with fail
  refine bodyPost_ret (results_tmp rfl _ _ _) rfl ⟨?_, HBL.out⟩
  exact congrArg (fun b => Ending.returned (.int .i64 b)) HV.out.symm
 ·go_enter Try.func38, Try.ntmps38
  go_upto_region 1 with fail
  change Code.wp _ _ _ _ ((w.alloc (.cells #[.int .i64 num, .int .i64 ph, .slice AF nF cF, .slice AT nT cT, .slice AS nS cS, .slice AE nE cE, .slice AO nO cO, .slice AD nD cD] 31)).alloc (.cells #[.int .i64 6, .int .i64 sp, .slice BF mF dF, .slice BT mT dT, .slice BS mS dS, .slice BE mE dE] 33))
  rw [← HW.out]
  have HC := Lib.hid (top_any (cF := cF) (cT := cT) (cS := cS) (cE := cE) (cO := cO) (cD := cD) HS.out HBB.out)
  have HE : Hid (checkI s r = if topO s = some sp then 0 else 71) := Lib.hid (by unfold checkI; rw [HKD.out, HSP.out, if_neg (by decide), if_neg (by decide), if_neg (by decide), if_pos rfl])
  obtain ⟨q, HQ⟩ : ∃ q, Hid (topO s = q) := ⟨_, Lib.hid rfl⟩
  rw [HQ.out] at HC HE
  go_wp2_with fail
  refine HC.out.mono ?_
  rintro e w1 ⟨rfl, hb⟩
  have HB1 := Lib.hid (HBL.out.trans (hb.mono HBL.out.size))
  clear x0 x1 x2 x3 x4 x5 x6 x7 y0 y1 y2 y3 y4 y5
  obtain ⟨⟨x0, x1, x2, x3, x4, x5, x6, x7⟩, ⟨y0, y1, y2, y3, y4, y5⟩⟩ := HX.out w1 hb
  clear hb
  cases q with
  | none =>
   have HV : Hid (checkI s r = 71) := Lib.hid (by rw [HE.out]; rfl)
   go_wp2_with fail
   refine bodyPost_ret (results_tmp rfl _ _ _) rfl ⟨?_, HB1.out⟩
   exact congrArg (fun b => Ending.returned (.int .i64 b)) HV.out.symm
  | some t =>
   by_cases ht : t = sp
   ·have htb : (t != sp) = false := by rw [bne_eq_false_iff_eq]; exact ht
    have HV : Hid (checkI s r = 0) := Lib.hid (by rw [HE.out, if_pos (by rw [ht])])
    clear ht
    go_wp2_with fail
    refine bodyPost_ret (results_tmp rfl _ _ _) rfl ⟨?_, HB1.out⟩
    exact congrArg (fun b => Ending.returned (.int .i64 b)) HV.out.symm
   ·have htb : (t != sp) = true := by rw [bne_iff_ne]; exact ht
    have HV : Hid (checkI s r = 71) := Lib.hid (by rw [HE.out, if_neg (fun e => ht (by injection e))])
    clear ht
    go_wp2_with fail
    refine bodyPost_ret (results_tmp rfl _ _ _) rfl ⟨?_, HB1.out⟩
    exact congrArg (fun b => Ending.returned (.int .i64 b)) HV.out.symm
 ·go_enter Try.func38, Try.ntmps38
  go_upto_region 1 with fail
  change Code.wp _ _ _ _ ((w.alloc (.cells #[.int .i64 num, .int .i64 ph, .slice AF nF cF, .slice AT nT cT, .slice AS nS cS, .slice AE nE cE, .slice AO nO cO, .slice AD nD cD] 31)).alloc (.cells #[.int .i64 7, .int .i64 sp, .slice BF mF dF, .slice BT mT dT, .slice BS mS dS, .slice BE mE dE] 33))
  rw [← HW.out]
  have HC := Lib.hid (marks_any (cF := cF) (cT := cT) (cS := cS) (cE := cE) (cO := cO) (cD := cD) HS.out HBB.out)
  have HE : Hid (checkI s r = if marksB s = true then 0 else 72) := Lib.hid (by unfold checkI; rw [HKD.out, if_neg (by decide), if_neg (by decide), if_neg (by decide), if_neg (by decide), if_pos rfl])
  obtain ⟨q, HQ⟩ : ∃ q, Hid (marksB s = q) := ⟨_, Lib.hid rfl⟩
  rw [HQ.out] at HC HE
  cases q with
  | true =>
   have HV : Hid (checkI s r = 0) := Lib.hid (by rw [HE.out]; rfl)
   go_wp2_with fail
   refine HC.out.mono ?_
   rintro e w1 ⟨rfl, hb⟩
   have HB1 := Lib.hid (HBL.out.trans (hb.mono HBL.out.size))
   clear hb
   clear x0 x1 x2 x3 x4 x5 x6 x7 y0 y1 y2 y3 y4 y5
   go_wp2_with fail
   refine bodyPost_ret (results_tmp rfl _ _ _) rfl ⟨?_, HB1.out⟩
   exact congrArg (fun b => Ending.returned (.int .i64 b)) HV.out.symm
  | false =>
   have HV : Hid (checkI s r = 72) := Lib.hid (by rw [HE.out]; rfl)
   go_wp2_with fail
   refine HC.out.mono ?_
   rintro e w1 ⟨rfl, hb⟩
   have HB1 := Lib.hid (HBL.out.trans (hb.mono HBL.out.size))
   clear hb
   clear x0 x1 x2 x3 x4 x5 x6 x7 y0 y1 y2 y3 y4 y5
   go_wp2_with fail
   refine bodyPost_ret (results_tmp rfl _ _ _) rfl ⟨?_, HB1.out⟩
   exact congrArg (fun b => Ending.returned (.int .i64 b)) HV.out.symm
 ·go_enter Try.func38, Try.ntmps38
  go_upto_region 1 with fail
  change Code.wp _ _ _ _ ((w.alloc (.cells #[.int .i64 num, .int .i64 ph, .slice AF nF cF, .slice AT nT cT, .slice AS nS cS, .slice AE nE cE, .slice AO nO cO, .slice AD nD cD] 31)).alloc (.cells #[.int .i64 8, .int .i64 sp, .slice BF mF dF, .slice BT mT dT, .slice BS mS dS, .slice BE mE dE] 33))
  rw [← HW.out]
  have HC := Lib.hid (ends_any (cF := cF) (cT := cT) (cS := cS) (cE := cE) (cO := cO) (cD := cD) HS.out HBB.out)
  have HE : Hid (checkI s r = if endsB s = true then 0 else 72) := Lib.hid (by unfold checkI; rw [HKD.out, if_neg (by decide), if_neg (by decide), if_neg (by decide), if_neg (by decide), if_neg (by decide), if_pos rfl])
  obtain ⟨q, HQ⟩ : ∃ q, Hid (endsB s = q) := ⟨_, Lib.hid rfl⟩
  rw [HQ.out] at HC HE
  cases q with
  | true =>
   have HV : Hid (checkI s r = 0) := Lib.hid (by rw [HE.out]; rfl)
   go_wp2_with fail
   refine HC.out.mono ?_
   rintro e w1 ⟨rfl, hb⟩
   have HB1 := Lib.hid (HBL.out.trans (hb.mono HBL.out.size))
   clear hb
   clear x0 x1 x2 x3 x4 x5 x6 x7 y0 y1 y2 y3 y4 y5
   go_wp2_with fail
   refine bodyPost_ret (results_tmp rfl _ _ _) rfl ⟨?_, HB1.out⟩
   exact congrArg (fun b => Ending.returned (.int .i64 b)) HV.out.symm
  | false =>
   have HV : Hid (checkI s r = 72) := Lib.hid (by rw [HE.out]; rfl)
   go_wp2_with fail
   refine HC.out.mono ?_
   rintro e w1 ⟨rfl, hb⟩
   have HB1 := Lib.hid (HBL.out.trans (hb.mono HBL.out.size))
   clear hb
   clear x0 x1 x2 x3 x4 x5 x6 x7 y0 y1 y2 y3 y4 y5
   go_wp2_with fail
   refine bodyPost_ret (results_tmp rfl _ _ _) rfl ⟨?_, HB1.out⟩
   exact congrArg (fun b => Ending.returned (.int .i64 b)) HV.out.symm
end Go.Proofs.Ytolgmoaoheflcaa.Sa
