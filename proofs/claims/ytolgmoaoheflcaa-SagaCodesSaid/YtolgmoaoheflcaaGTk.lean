/-
 CONTRACTS: Top, Marks, Ends, hears, formed (printed by gengtk.py).
-/
import Derived.Test.YtolgmoaoheflcaaGSt
namespace Go.Proofs.Ytolgmoaoheflcaa.Sa
open Go.RowKit
open DiP
set_option linter.unusedVariables false
set_option linter.unusedSimpArgs false
set_option maxRecDepth 10000
theorem last_ix {l : List Int} {n : Nat} (h : l.length = n) (h0 : 0 < n) : l.getLast? = some (ix l (n - 1)) := by
 rw [List.getLast?_eq_getElem?, h]
 unfold ix
 rw [List.getElem?_eq_getElem (by omega)]
 simp [List.getD, show n - 1 < l.length by omega]
set_option maxHeartbeats 4000000 in
theorem top_any {w : World} {B : Nat} {num ph : Int} {AF AT AS AE AO AD : Option Addr} {nF nT nS nE nO nD cF cT cS cE cO cD : Nat} {s : StV} (h : StW w B num ph AF nF AT nT AS nS AE nE AO nO AD nD s) (hB : B ≤ w.heap.size) :
 Calls Try.prog 25 #[.agg #[.int .i64 num, .int .i64 ph, .slice AF nF cF, .slice AT nT cT, .slice AS nS cS, .slice AE nE cE, .slice AO nO cO, .slice AD nD cD]] w fun e w' => e = .returned (.tuple #[.int .i64 ((topO s).getD 0), .bool (topO s).isSome]) ∧ Below w.heap.size w w' := by
 obtain ⟨W, HW⟩ : ∃ W, Hid (W = w.alloc (.cells #[.int .i64 num, .int .i64 ph, .slice AF nF cF, .slice AT nT cT, .slice AS nS cS, .slice AE nE cE, .slice AO nO cO, .slice AD nD cD] 31)) := ⟨_, Lib.hid rfl⟩
 have hbl : Below w.heap.size w W := by rw [HW.out]; exact (Below.refl _ w).alloc (Nat.le_refl _) _
 have H0 : Hid (W.heap[w.heap.size]? = some (.cells #[.int .i64 num, .int .i64 ph, .slice AF nF cF, .slice AT nT cT, .slice AS nS cS, .slice AE nE cE, .slice AO nO cO, .slice AD nD cD] 31 (0, 0))) := Lib.hid (by rw [HW.out]; exact heap_new w _)
 have HBL := Lib.hid hbl
 have HS := Lib.hid (h.below (hbl.mono hB))
 have HBB : Hid (B ≤ W.heap.size) := Lib.hid (Nat.le_trans hB hbl.size)
 have HNS : Hid (s.pl.S.length = nS) := Lib.hid h.pl.S.1
 have HNO : Hid (s.op.length = nO) := Lib.hid h.op.len
 have HND : Hid (s.dn.length = nD) := Lib.hid h.dn.len
 have HPH : Hid (s.ph = ph) := Lib.hid h.ph
 have hn100 := h.pl.sz.2.2.1
 have ho100 := h.so
 have hd100 := h.sd
 clear h hbl hB
 have HX : Hid (∀ Z, Below W.heap.size W Z → Z.cell? ⟨w.heap.size, 0, none⟩ = some (.int .i64 num) ∧ Z.cell? ⟨w.heap.size, 1, none⟩ = some (.int .i64 ph) ∧ Z.cell? ⟨w.heap.size, 2, none⟩ = some (.slice AF nF cF) ∧ Z.cell? ⟨w.heap.size, 3, none⟩ = some (.slice AT nT cT) ∧ Z.cell? ⟨w.heap.size, 4, none⟩ = some (.slice AS nS cS) ∧ Z.cell? ⟨w.heap.size, 5, none⟩ = some (.slice AE nE cE) ∧ Z.cell? ⟨w.heap.size, 6, none⟩ = some (.slice AO nO cO) ∧ Z.cell? ⟨w.heap.size, 7, none⟩ = some (.slice AD nD cD)) := Lib.hid (fun Z hZ => row8 ((hZ.block w.heap.size (heapE_lt H0.out)).trans H0.out))
 obtain ⟨x0, x1, x2, x3, x4, x5, x6, x7⟩ := HX.out W (Below.refl _ _)
 go_enter Try.func25, Try.ntmps25
 go_upto_region 1 with fail
 change Code.wp _ _ _ _ (w.alloc (.cells #[.int .i64 num, .int .i64 ph, .slice AF nF cF, .slice AT nT cT, .slice AS nS cS, .slice AE nE cE, .slice AO nO cO, .slice AD nD cD] 31))
 rw [← HW.out]
 by_cases hp : ph = 2
 rotate_left
 ·have hpb : (ph != 2) = true := by rw [bne_iff_ne]; exact hp
  have HV : Hid (topO s = none) := Lib.hid (by unfold topO; rw [HPH.out, if_neg hp])
  clear hp
  go_wp2_with fail
  go_ret2
  exact ⟨by rw [HV.out]; rfl, HBL.out⟩
 subst hp
 by_cases ho : 0 < nO
 ·have d1 : decide (0 < (nO : Int)) = true := decide_eq_true (by omega)
  have hw : IntKind.i64.wrap ((nO : Int) - 1) = ((nO - 1 : Nat) : Int) := by rw [IntWalk.i64_in _ (by omega)]; omega
  obtain ⟨b, off, hA, _, k1⟩ := HS.out.op.at_ (show nO - 1 < nO by omega)
  subst hA
  have hi1 : (((nO - 1 : Nat) : Int)) < (nO : Int) := by omega
  have HV : Hid (topO s = some (ix s.op (nO - 1))) := Lib.hid (by
   unfold topO; rw [HPH.out, if_pos rfl, if_neg (fun e => by have := HNO.out; rw [e] at this; simp at this; omega)]
   exact last_ix HNO.out ho)
  obtain ⟨u, HU⟩ : ∃ u, Hid (ix s.op (nO - 1) = u) := ⟨_, Lib.hid rfl⟩
  rw [HU.out] at k1 HV
  obtain ⟨m, HM⟩ : ∃ m, Hid (nO - 1 = m) := ⟨_, Lib.hid rfl⟩
  rw [HM.out] at k1 hw hi1
  go_wp2_with fail
  go_ret2
  exact ⟨by rw [HV.out]; rfl, HBL.out⟩
 have h0 : nO = 0 := by omega
 subst h0
 have HO0 : Hid (s.op = []) := Lib.hid (List.eq_nil_of_length_eq_zero HNO.out)
 by_cases hd : 0 < nD
 ·have d1 : decide (0 < (nD : Int)) = true := decide_eq_true (by omega)
  have hw : IntKind.i64.wrap ((nD : Int) - 1) = ((nD - 1 : Nat) : Int) := by rw [IntWalk.i64_in _ (by omega)]; omega
  obtain ⟨b, off, hA, _, k1⟩ := HS.out.dn.at_ (show nD - 1 < nD by omega)
  subst hA
  have hi1 : (((nD - 1 : Nat) : Int)) < (nD : Int) := by omega
  have HV : Hid (topO s = some (ix s.dn (nD - 1))) := Lib.hid (by
   unfold topO; rw [HPH.out, if_pos rfl, if_pos HO0.out]
   exact last_ix HND.out hd)
  obtain ⟨u, HU⟩ : ∃ u, Hid (ix s.dn (nD - 1) = u) := ⟨_, Lib.hid rfl⟩
  rw [HU.out] at k1 HV
  obtain ⟨m, HM⟩ : ∃ m, Hid (nD - 1 = m) := ⟨_, Lib.hid rfl⟩
  rw [HM.out] at k1 hw hi1
  go_wp2_with fail
  go_ret2
  exact ⟨by rw [HV.out]; rfl, HBL.out⟩
 have h0 : nD = 0 := by omega
 subst h0
 have HV : Hid (topO s = none) := Lib.hid (by
  unfold topO; rw [HPH.out, if_pos rfl, if_pos HO0.out, List.eq_nil_of_length_eq_zero HND.out]; rfl)
 go_wp2_with fail
 go_ret2
 exact ⟨by rw [HV.out]; rfl, HBL.out⟩
set_option maxHeartbeats 4000000 in
theorem marks_any {w : World} {B : Nat} {num ph : Int} {AF AT AS AE AO AD : Option Addr} {nF nT nS nE nO nD cF cT cS cE cO cD : Nat} {s : StV} (h : StW w B num ph AF nF AT nT AS nS AE nE AO nO AD nD s) (hB : B ≤ w.heap.size) :
 Calls Try.prog 23 #[.agg #[.int .i64 num, .int .i64 ph, .slice AF nF cF, .slice AT nT cT, .slice AS nS cS, .slice AE nE cE, .slice AO nO cO, .slice AD nD cD]] w fun e w' => e = .returned (.bool (marksB s)) ∧ Below w.heap.size w w' := by
 obtain ⟨W, HW⟩ : ∃ W, Hid (W = w.alloc (.cells #[.int .i64 num, .int .i64 ph, .slice AF nF cF, .slice AT nT cT, .slice AS nS cS, .slice AE nE cE, .slice AO nO cO, .slice AD nD cD] 31)) := ⟨_, Lib.hid rfl⟩
 have hbl : Below w.heap.size w W := by rw [HW.out]; exact (Below.refl _ w).alloc (Nat.le_refl _) _
 have H0 : Hid (W.heap[w.heap.size]? = some (.cells #[.int .i64 num, .int .i64 ph, .slice AF nF cF, .slice AT nT cT, .slice AS nS cS, .slice AE nE cE, .slice AO nO cO, .slice AD nD cD] 31 (0, 0))) := Lib.hid (by rw [HW.out]; exact heap_new w _)
 have HBL := Lib.hid hbl
 have HS := Lib.hid (h.below (hbl.mono hB))
 have HBB : Hid (B ≤ W.heap.size) := Lib.hid (Nat.le_trans hB hbl.size)
 have HNS : Hid (s.pl.S.length = nS) := Lib.hid h.pl.S.1
 have HNO : Hid (s.op.length = nO) := Lib.hid h.op.len
 have HND : Hid (s.dn.length = nD) := Lib.hid h.dn.len
 have HPH : Hid (s.ph = ph) := Lib.hid h.ph
 have hn100 := h.pl.sz.2.2.1
 have ho100 := h.so
 have hd100 := h.sd
 clear h hbl hB
 have HX : Hid (∀ Z, Below W.heap.size W Z → Z.cell? ⟨w.heap.size, 0, none⟩ = some (.int .i64 num) ∧ Z.cell? ⟨w.heap.size, 1, none⟩ = some (.int .i64 ph) ∧ Z.cell? ⟨w.heap.size, 2, none⟩ = some (.slice AF nF cF) ∧ Z.cell? ⟨w.heap.size, 3, none⟩ = some (.slice AT nT cT) ∧ Z.cell? ⟨w.heap.size, 4, none⟩ = some (.slice AS nS cS) ∧ Z.cell? ⟨w.heap.size, 5, none⟩ = some (.slice AE nE cE) ∧ Z.cell? ⟨w.heap.size, 6, none⟩ = some (.slice AO nO cO) ∧ Z.cell? ⟨w.heap.size, 7, none⟩ = some (.slice AD nD cD)) := Lib.hid (fun Z hZ => row8 ((hZ.block w.heap.size (heapE_lt H0.out)).trans H0.out))
 obtain ⟨x0, x1, x2, x3, x4, x5, x6, x7⟩ := HX.out W (Below.refl _ _)
 go_enter Try.func23, Try.ntmps23
 go_upto_region 1 with fail
 change Code.wp _ _ _ _ (w.alloc (.cells #[.int .i64 num, .int .i64 ph, .slice AF nF cF, .slice AT nT cT, .slice AS nS cS, .slice AE nE cE, .slice AO nO cO, .slice AD nD cD] 31))
 rw [← HW.out]
 go_wp2_with fail
 clear x0 x1 x2 x3 x4 x5 x6 x7
 go_loopw [3, 8] (fun _ v wr => ∃ k : Nat, k ≤ nS ∧ v = .int .i64 (k : Int) ∧ Hid (Below W.heap.size W wr) ∧ Hid (∀ i, i < k → (decide (eb s.pl.S i = 3) || inB s.dn (i : Int)) = true)) (fun _ v _ => nS - (intOf v).toNat)
 case atStart => exact ⟨0, Nat.zero_le _, rfl, Lib.hid (Below.refl _ _), Lib.hid (fun i h => absurd h (by omega))⟩
 case round =>
  obtain ⟨wo, hwo⟩ : ∃ x, x = wr := ⟨_, rfl⟩
  subst hwo
  obtain ⟨k, hk, rfl, HBo, HOK⟩ := hrel
  have HWo : Hid (Below w.heap.size w wo) := Lib.hid (HBL.out.trans (HBo.out.mono HBL.out.size))
  obtain ⟨x0, x1, x2, x3, x4, x5, x6, x7⟩ := HX.out wo HBo.out
  by_cases hkn : k < nS
  ·have hd : decide ((k : Int) < (nS : Int)) = true := by simp; omega
   have hki : (k : Int) < (nS : Int) := by omega
   have hadd : IntKind.i64.wrap ((k : Int) + 1) = ((k + 1 : Nat) : Int) := by rw [IntWalk.i64_in _ (by omega)]; omega
   have HSo := Lib.hid (HS.out.below (HBo.out.mono HBB.out))
   have HL := Lib.hid (isLast_any (num := num) (ph := ph) (AF := AF) (nF := nF) (cF := cF) (AT := AT) (nT := nT) (cT := cT) (cS := cS) (AE := AE) (nE := nE) (cE := cE) (AO := AO) (nO := nO) (cO := cO) (AD := AD) (nD := nD) (cD := cD) HSo.out.pl.S (Nat.le_trans HBB.out HBo.out.size) hkn hn100)
   obtain ⟨la, HLA⟩ : ∃ la, Hid (decide (eb s.pl.S k = 3) = la) := ⟨_, Lib.hid rfl⟩
   rw [HLA.out] at HL
   have HXI : Hid (∀ i, i < k + 1 → (la || inB s.dn (k : Int)) = true → (decide (eb s.pl.S i = 3) || inB s.dn (i : Int)) = true) := Lib.hid (fun i hi hq => by
    by_cases e : i = k
    ·subst e; rw [HLA.out]; exact hq
    ·exact HOK.out i (by omega))
   cases la with
   | true =>
    go_wp2_with fail
    refine HL.out.mono ?_
    rintro e w1 ⟨rfl, hb⟩
    have HB1 := Lib.hid (HBo.out.trans (hb.mono HBo.out.size))
    clear hb x0 x1 x2 x3 x4 x5 x6 x7
    go_wp2_with fail
    go_roundw
    case rel => exact ⟨k + 1, by omega, by go_num, HB1, Lib.hid (fun i hi => HXI.out i hi rfl)⟩
    case measure => simp [intOf]; omega
   | false =>
    go_wp2_with fail
    refine HL.out.mono ?_
    rintro e w1 ⟨rfl, hb⟩
    have HB1 := Lib.hid (HBo.out.trans (hb.mono HBo.out.size))
    clear hb x0 x1 x2 x3 x4 x5 x6 x7
    obtain ⟨x0, x1, x2, x3, x4, x5, x6, x7⟩ := HX.out w1 HB1.out
    have HS1 := Lib.hid (HS.out.below (HB1.out.mono HBB.out))
    have HC := Lib.hid (contains_any (c := cD) HS1.out.dn (by omega) (k : Int))
    obtain ⟨q, HQ⟩ : ∃ q, Hid (inB s.dn (k : Int) = q) := ⟨_, Lib.hid rfl⟩
    rw [HQ.out] at HC HXI
    cases q with
    | true =>
     go_wp2_with fail
     refine HC.out.mono ?_
     rintro e w2 ⟨rfl, hb⟩
     have HB2 := Lib.hid (HB1.out.trans (hb.mono HB1.out.size))
     clear hb x0 x1 x2 x3 x4 x5 x6 x7
     go_wp2_with fail
     go_roundw
     case rel => exact ⟨k + 1, by omega, by go_num, HB2, Lib.hid (fun i hi => HXI.out i hi rfl)⟩
     case measure => simp [intOf]; omega
    | false =>
     have HV : Hid (marksB s = false) := Lib.hid (by
      unfold marksB
      have : (List.range s.pl.S.length).all (fun k => isLastB s.pl k || inB s.dn (k : Int)) = false := by
       rw [List.all_eq_false]
       refine ⟨k, List.mem_range.2 (by rw [HNS.out]; exact hkn), ?_⟩
       show ¬ (decide (eb s.pl.S k = 3) || inB s.dn (k : Int)) = true
       rw [HLA.out, HQ.out]; decide
      rw [this]; rfl)
     go_wp2_with fail
     refine HC.out.mono ?_
     rintro e w2 ⟨rfl, hb⟩
     have HB2 := Lib.hid (HBL.out.trans ((HB1.out.trans (hb.mono HB1.out.size)).mono HBL.out.size))
     clear hb x0 x1 x2 x3 x4 x5 x6 x7
     go_wp2_with fail
     refine bodyPost_ret (results_tmp rfl _ _ _) rfl ⟨?_, HB2.out⟩
     exact congrArg (fun b => Ending.returned (.bool b)) HV.out.symm
  ·have hd : decide ((k : Int) < (nS : Int)) = false := by simp; omega
   have HAL : Hid ((List.range s.pl.S.length).all (fun k => isLastB s.pl k || inB s.dn (k : Int)) = true) := Lib.hid (by
    rw [List.all_eq_true]
    intro i hi
    exact HOK.out i (by have := List.mem_range.1 hi; have := HNS.out; omega))
   by_cases hp : ph = 1
   ·have hpb : (ph == 1) = true := by rw [beq_iff_eq]; exact hp
    have HV : Hid (marksB s = true) := Lib.hid (by unfold marksB; rw [HAL.out, HPH.out, decide_eq_true hp]; rfl)
    clear hp
    go_wp2_with fail
    refine bodyPost_ret (results_tmp rfl _ _ _) rfl ⟨?_, HWo.out⟩
    exact congrArg (fun b => Ending.returned (.bool b)) HV.out.symm
   ·have hpb : (ph == 1) = false := by rw [beq_eq_false_iff_ne]; exact hp
    have HV : Hid (marksB s = false) := Lib.hid (by unfold marksB; rw [HPH.out, decide_eq_false hp, Bool.and_false])
    clear hp
    go_wp2_with fail
    refine bodyPost_ret (results_tmp rfl _ _ _) rfl ⟨?_, HWo.out⟩
    exact congrArg (fun b => Ending.returned (.bool b)) HV.out.symm
set_option maxHeartbeats 4000000 in
theorem ends_any {w : World} {B : Nat} {num ph : Int} {AF AT AS AE AO AD : Option Addr} {nF nT nS nE nO nD cF cT cS cE cO cD : Nat} {s : StV} (h : StW w B num ph AF nF AT nT AS nS AE nE AO nO AD nD s) (hB : B ≤ w.heap.size) :
 Calls Try.prog 26 #[.agg #[.int .i64 num, .int .i64 ph, .slice AF nF cF, .slice AT nT cT, .slice AS nS cS, .slice AE nE cE, .slice AO nO cO, .slice AD nD cD]] w fun e w' => e = .returned (.bool (endsB s)) ∧ Below w.heap.size w w' := by
 obtain ⟨W, HW⟩ : ∃ W, Hid (W = w.alloc (.cells #[.int .i64 num, .int .i64 ph, .slice AF nF cF, .slice AT nT cT, .slice AS nS cS, .slice AE nE cE, .slice AO nO cO, .slice AD nD cD] 31)) := ⟨_, Lib.hid rfl⟩
 have hbl : Below w.heap.size w W := by rw [HW.out]; exact (Below.refl _ w).alloc (Nat.le_refl _) _
 have H0 : Hid (W.heap[w.heap.size]? = some (.cells #[.int .i64 num, .int .i64 ph, .slice AF nF cF, .slice AT nT cT, .slice AS nS cS, .slice AE nE cE, .slice AO nO cO, .slice AD nD cD] 31 (0, 0))) := Lib.hid (by rw [HW.out]; exact heap_new w _)
 have HBL := Lib.hid hbl
 have HS := Lib.hid (h.below (hbl.mono hB))
 have HBB : Hid (B ≤ W.heap.size) := Lib.hid (Nat.le_trans hB hbl.size)
 have HNS : Hid (s.pl.S.length = nS) := Lib.hid h.pl.S.1
 have HNO : Hid (s.op.length = nO) := Lib.hid h.op.len
 have HND : Hid (s.dn.length = nD) := Lib.hid h.dn.len
 have HPH : Hid (s.ph = ph) := Lib.hid h.ph
 have hn100 := h.pl.sz.2.2.1
 have ho100 := h.so
 have hd100 := h.sd
 clear h hbl hB
 have HX : Hid (∀ Z, Below W.heap.size W Z → Z.cell? ⟨w.heap.size, 0, none⟩ = some (.int .i64 num) ∧ Z.cell? ⟨w.heap.size, 1, none⟩ = some (.int .i64 ph) ∧ Z.cell? ⟨w.heap.size, 2, none⟩ = some (.slice AF nF cF) ∧ Z.cell? ⟨w.heap.size, 3, none⟩ = some (.slice AT nT cT) ∧ Z.cell? ⟨w.heap.size, 4, none⟩ = some (.slice AS nS cS) ∧ Z.cell? ⟨w.heap.size, 5, none⟩ = some (.slice AE nE cE) ∧ Z.cell? ⟨w.heap.size, 6, none⟩ = some (.slice AO nO cO) ∧ Z.cell? ⟨w.heap.size, 7, none⟩ = some (.slice AD nD cD)) := Lib.hid (fun Z hZ => row8 ((hZ.block w.heap.size (heapE_lt H0.out)).trans H0.out))
 obtain ⟨x0, x1, x2, x3, x4, x5, x6, x7⟩ := HX.out W (Below.refl _ _)
 go_enter Try.func26, Try.ntmps26
 go_upto_region 1 with fail
 change Code.wp _ _ _ _ (w.alloc (.cells #[.int .i64 num, .int .i64 ph, .slice AF nF cF, .slice AT nT cT, .slice AS nS cS, .slice AE nE cE, .slice AO nO cO, .slice AD nD cD] 31))
 rw [← HW.out]
 by_cases hp : ph = 3
 ·subst hp
  have HE : Hid (endsB s = decide (nD = nS)) := Lib.hid (by unfold endsB; rw [HPH.out, if_pos rfl, HND.out, HNS.out])
  by_cases hq : nD = nS
  ·have d1 : ((nD : Int) == (nS : Int)) = true := by rw [beq_iff_eq]; omega
   have HV : Hid (endsB s = true) := Lib.hid (by rw [HE.out]; exact decide_eq_true hq)
   clear hq
   go_wp2_with fail
   refine bodyPost_ret (results_tmp rfl _ _ _) rfl ⟨?_, HBL.out⟩
   exact congrArg (fun b => Ending.returned (.bool b)) HV.out.symm
  ·have d1 : ((nD : Int) == (nS : Int)) = false := by rw [beq_eq_false_iff_ne]; omega
   have HV : Hid (endsB s = false) := Lib.hid (by rw [HE.out]; exact decide_eq_false hq)
   clear hq
   go_wp2_with fail
   refine bodyPost_ret (results_tmp rfl _ _ _) rfl ⟨?_, HBL.out⟩
   exact congrArg (fun b => Ending.returned (.bool b)) HV.out.symm
 have hp3 : (ph == 3) = false := by rw [beq_eq_false_iff_ne]; exact hp
 by_cases hp2 : ph = 2
 ·subst hp2
  have HE : Hid (endsB s = (decide (nO = 0) && decide (nD = 0))) := Lib.hid (by unfold endsB; rw [HPH.out, if_neg (by decide), if_pos rfl, HND.out, HNO.out])
  clear hp hp3
  by_cases ho : nO = 0
  ·subst ho
   by_cases hd : nD = 0
   ·subst hd
    have HV : Hid (endsB s = true) := Lib.hid (by rw [HE.out]; rfl)
    go_wp2_with fail
    refine bodyPost_ret (results_tmp rfl _ _ _) rfl ⟨?_, HBL.out⟩
    exact congrArg (fun b => Ending.returned (.bool b)) HV.out.symm
   ·have d1 : ((nD : Int) == 0) = false := by rw [beq_eq_false_iff_ne]; omega
    have HV : Hid (endsB s = false) := Lib.hid (by rw [HE.out, decide_eq_false hd]; rfl)
    clear hd
    go_wp2_with fail
    refine bodyPost_ret (results_tmp rfl _ _ _) rfl ⟨?_, HBL.out⟩
    exact congrArg (fun b => Ending.returned (.bool b)) HV.out.symm
  ·have d1 : ((nO : Int) == 0) = false := by rw [beq_eq_false_iff_ne]; omega
   have HV : Hid (endsB s = false) := Lib.hid (by rw [HE.out, decide_eq_false ho]; rfl)
   clear ho
   go_wp2_with fail
   refine bodyPost_ret (results_tmp rfl _ _ _) rfl ⟨?_, HBL.out⟩
   exact congrArg (fun b => Ending.returned (.bool b)) HV.out.symm
 have hpb : (ph == 2) = false := by rw [beq_eq_false_iff_ne]; exact hp2
 have HV : Hid (endsB s = false) := Lib.hid (by unfold endsB; rw [HPH.out, if_neg hp, if_neg hp2])
 clear hp hp2
 go_wp2_with fail
 refine bodyPost_ret (results_tmp rfl _ _ _) rfl ⟨?_, HBL.out⟩
 exact congrArg (fun b => Ending.returned (.bool b)) HV.out.symm
theorem kind_cases (k : Int) : k = 1 ∨ k = 2 ∨ k = 3 ∨ k = 6 ∨ k = 8 ∨ (k ≠ 1 ∧ k ≠ 2 ∧ k ≠ 3 ∧ k ≠ 6 ∧ k ≠ 8) := by omega
set_option maxHeartbeats 16000000 in
theorem hears_any {w : World} {B : Nat} {num ph : Int} {AF AT AS AE AO AD : Option Addr} {nF nT nS nE nO nD cF cT cS cE cO cD : Nat} {s : StV} (h : StW w B num ph AF nF AT nT AS nS AE nE AO nO AD nD s) (hB : B ≤ w.heap.size) (k : Int) :
 Calls Try.prog 37 #[.agg #[.int .i64 num, .int .i64 ph, .slice AF nF cF, .slice AT nT cT, .slice AS nS cS, .slice AE nE cE, .slice AO nO cO, .slice AD nD cD], .int .i64 k] w fun e w' => e = .returned (.bool (hearsB s.ph k)) ∧ Below w.heap.size w w' := by
 obtain ⟨W, HW⟩ : ∃ W, Hid (W = w.alloc (.cells #[.int .i64 num, .int .i64 ph, .slice AF nF cF, .slice AT nT cT, .slice AS nS cS, .slice AE nE cE, .slice AO nO cO, .slice AD nD cD] 31)) := ⟨_, Lib.hid rfl⟩
 have hbl : Below w.heap.size w W := by rw [HW.out]; exact (Below.refl _ w).alloc (Nat.le_refl _) _
 have H0 : Hid (W.heap[w.heap.size]? = some (.cells #[.int .i64 num, .int .i64 ph, .slice AF nF cF, .slice AT nT cT, .slice AS nS cS, .slice AE nE cE, .slice AO nO cO, .slice AD nD cD] 31 (0, 0))) := Lib.hid (by rw [HW.out]; exact heap_new w _)
 have HBL := Lib.hid hbl
 have HS := Lib.hid (h.below (hbl.mono hB))
 have HBB : Hid (B ≤ W.heap.size) := Lib.hid (Nat.le_trans hB hbl.size)
 have HNS : Hid (s.pl.S.length = nS) := Lib.hid h.pl.S.1
 have HNO : Hid (s.op.length = nO) := Lib.hid h.op.len
 have HND : Hid (s.dn.length = nD) := Lib.hid h.dn.len
 have HPH : Hid (s.ph = ph) := Lib.hid h.ph
 have hn100 := h.pl.sz.2.2.1
 have ho100 := h.so
 have hd100 := h.sd
 clear h hbl hB
 have HX : Hid (∀ Z, Below W.heap.size W Z → Z.cell? ⟨w.heap.size, 0, none⟩ = some (.int .i64 num) ∧ Z.cell? ⟨w.heap.size, 1, none⟩ = some (.int .i64 ph) ∧ Z.cell? ⟨w.heap.size, 2, none⟩ = some (.slice AF nF cF) ∧ Z.cell? ⟨w.heap.size, 3, none⟩ = some (.slice AT nT cT) ∧ Z.cell? ⟨w.heap.size, 4, none⟩ = some (.slice AS nS cS) ∧ Z.cell? ⟨w.heap.size, 5, none⟩ = some (.slice AE nE cE) ∧ Z.cell? ⟨w.heap.size, 6, none⟩ = some (.slice AO nO cO) ∧ Z.cell? ⟨w.heap.size, 7, none⟩ = some (.slice AD nD cD)) := Lib.hid (fun Z hZ => row8 ((hZ.block w.heap.size (heapE_lt H0.out)).trans H0.out))
 obtain ⟨x0, x1, x2, x3, x4, x5, x6, x7⟩ := HX.out W (Below.refl _ _)
 go_enter Try.func37, Try.ntmps37
 go_upto_region 1 with fail
 change Code.wp _ _ _ _ (w.alloc (.cells #[.int .i64 num, .int .i64 ph, .slice AF nF cF, .slice AT nT cT, .slice AS nS cS, .slice AE nE cE, .slice AO nO cO, .slice AD nD cD] 31))
 rw [← HW.out]
 by_cases p0 : ph = 0
 ·subst p0
  rcases kind_cases k with rfl | rfl | rfl | rfl | rfl | ⟨k1, k2, k3, k6, k8⟩
  ·have HV : Hid (hearsB s.ph 1 = true) := Lib.hid (by rw [HPH.out]; rfl)
   go_wp2_with fail
   refine bodyPost_ret (results_tmp rfl _ _ _) rfl ⟨?_, HBL.out⟩
   exact congrArg (fun b => Ending.returned (.bool b)) HV.out.symm
  ·have HV : Hid (hearsB s.ph 2 = false) := Lib.hid (by rw [HPH.out]; rfl)
   go_wp2_with fail
   refine bodyPost_ret (results_tmp rfl _ _ _) rfl ⟨?_, HBL.out⟩
   exact congrArg (fun b => Ending.returned (.bool b)) HV.out.symm
  ·have HV : Hid (hearsB s.ph 3 = false) := Lib.hid (by rw [HPH.out]; rfl)
   go_wp2_with fail
   refine bodyPost_ret (results_tmp rfl _ _ _) rfl ⟨?_, HBL.out⟩
   exact congrArg (fun b => Ending.returned (.bool b)) HV.out.symm
  ·have HV : Hid (hearsB s.ph 6 = false) := Lib.hid (by rw [HPH.out]; rfl)
   go_wp2_with fail
   refine bodyPost_ret (results_tmp rfl _ _ _) rfl ⟨?_, HBL.out⟩
   exact congrArg (fun b => Ending.returned (.bool b)) HV.out.symm
  ·have HV : Hid (hearsB s.ph 8 = false) := Lib.hid (by rw [HPH.out]; rfl)
   go_wp2_with fail
   refine bodyPost_ret (results_tmp rfl _ _ _) rfl ⟨?_, HBL.out⟩
   exact congrArg (fun b => Ending.returned (.bool b)) HV.out.symm
  ·have e1 : (k == 1) = false := by rw [beq_eq_false_iff_ne]; exact k1
   have e2 : (k == 2) = false := by rw [beq_eq_false_iff_ne]; exact k2
   have e3 : (k == 3) = false := by rw [beq_eq_false_iff_ne]; exact k3
   have e6 : (k == 6) = false := by rw [beq_eq_false_iff_ne]; exact k6
   have e8 : (k == 8) = false := by rw [beq_eq_false_iff_ne]; exact k8
   have n1 : (k != 1) = true := by rw [bne_iff_ne]; exact k1
   have n6 : (k != 6) = true := by rw [bne_iff_ne]; exact k6
   have n8 : (k != 8) = true := by rw [bne_iff_ne]; exact k8
   have HV : Hid (hearsB s.ph k = false) := Lib.hid (by rw [HPH.out]; simp [hearsB, k1, k2, k3, k6, k8])
   clear k1 k2 k3 k6 k8
   go_wp2_with fail
   refine bodyPost_ret (results_tmp rfl _ _ _) rfl ⟨?_, HBL.out⟩
   exact congrArg (fun b => Ending.returned (.bool b)) HV.out.symm
 have b0 : (ph == 0) = false := by rw [beq_eq_false_iff_ne]; exact p0
 by_cases p1 : ph = 1
 ·subst p1
  clear p0 b0
  rcases kind_cases k with rfl | rfl | rfl | rfl | rfl | ⟨k1, k2, k3, k6, k8⟩
  ·have HV : Hid (hearsB s.ph 1 = false) := Lib.hid (by rw [HPH.out]; rfl)
   go_wp2_with fail
   refine bodyPost_ret (results_tmp rfl _ _ _) rfl ⟨?_, HBL.out⟩
   exact congrArg (fun b => Ending.returned (.bool b)) HV.out.symm
  ·have HV : Hid (hearsB s.ph 2 = true) := Lib.hid (by rw [HPH.out]; rfl)
   go_wp2_with fail
   refine bodyPost_ret (results_tmp rfl _ _ _) rfl ⟨?_, HBL.out⟩
   exact congrArg (fun b => Ending.returned (.bool b)) HV.out.symm
  ·have HV : Hid (hearsB s.ph 3 = true) := Lib.hid (by rw [HPH.out]; rfl)
   go_wp2_with fail
   refine bodyPost_ret (results_tmp rfl _ _ _) rfl ⟨?_, HBL.out⟩
   exact congrArg (fun b => Ending.returned (.bool b)) HV.out.symm
  ·have HV : Hid (hearsB s.ph 6 = false) := Lib.hid (by rw [HPH.out]; rfl)
   go_wp2_with fail
   refine bodyPost_ret (results_tmp rfl _ _ _) rfl ⟨?_, HBL.out⟩
   exact congrArg (fun b => Ending.returned (.bool b)) HV.out.symm
  ·have HV : Hid (hearsB s.ph 8 = false) := Lib.hid (by rw [HPH.out]; rfl)
   go_wp2_with fail
   refine bodyPost_ret (results_tmp rfl _ _ _) rfl ⟨?_, HBL.out⟩
   exact congrArg (fun b => Ending.returned (.bool b)) HV.out.symm
  ·have e1 : (k == 1) = false := by rw [beq_eq_false_iff_ne]; exact k1
   have e2 : (k == 2) = false := by rw [beq_eq_false_iff_ne]; exact k2
   have e3 : (k == 3) = false := by rw [beq_eq_false_iff_ne]; exact k3
   have e6 : (k == 6) = false := by rw [beq_eq_false_iff_ne]; exact k6
   have e8 : (k == 8) = false := by rw [beq_eq_false_iff_ne]; exact k8
   have n1 : (k != 1) = true := by rw [bne_iff_ne]; exact k1
   have n6 : (k != 6) = true := by rw [bne_iff_ne]; exact k6
   have n8 : (k != 8) = true := by rw [bne_iff_ne]; exact k8
   have HV : Hid (hearsB s.ph k = true) := Lib.hid (by rw [HPH.out]; simp [hearsB, k1, k2, k3, k6, k8])
   clear k1 k2 k3 k6 k8
   go_wp2_with fail
   refine bodyPost_ret (results_tmp rfl _ _ _) rfl ⟨?_, HBL.out⟩
   exact congrArg (fun b => Ending.returned (.bool b)) HV.out.symm
 have b1 : (ph == 1) = false := by rw [beq_eq_false_iff_ne]; exact p1
 by_cases p2 : ph = 2
 ·subst p2
  clear p0 b0 p1 b1
  rcases kind_cases k with rfl | rfl | rfl | rfl | rfl | ⟨k1, k2, k3, k6, k8⟩
  ·have HV : Hid (hearsB s.ph 1 = false) := Lib.hid (by rw [HPH.out]; rfl)
   go_wp2_with fail
   refine bodyPost_ret (results_tmp rfl _ _ _) rfl ⟨?_, HBL.out⟩
   exact congrArg (fun b => Ending.returned (.bool b)) HV.out.symm
  ·have HV : Hid (hearsB s.ph 2 = false) := Lib.hid (by rw [HPH.out]; rfl)
   go_wp2_with fail
   refine bodyPost_ret (results_tmp rfl _ _ _) rfl ⟨?_, HBL.out⟩
   exact congrArg (fun b => Ending.returned (.bool b)) HV.out.symm
  ·have HV : Hid (hearsB s.ph 3 = false) := Lib.hid (by rw [HPH.out]; rfl)
   go_wp2_with fail
   refine bodyPost_ret (results_tmp rfl _ _ _) rfl ⟨?_, HBL.out⟩
   exact congrArg (fun b => Ending.returned (.bool b)) HV.out.symm
  ·have HV : Hid (hearsB s.ph 6 = true) := Lib.hid (by rw [HPH.out]; rfl)
   go_wp2_with fail
   refine bodyPost_ret (results_tmp rfl _ _ _) rfl ⟨?_, HBL.out⟩
   exact congrArg (fun b => Ending.returned (.bool b)) HV.out.symm
  ·have HV : Hid (hearsB s.ph 8 = true) := Lib.hid (by rw [HPH.out]; rfl)
   go_wp2_with fail
   refine bodyPost_ret (results_tmp rfl _ _ _) rfl ⟨?_, HBL.out⟩
   exact congrArg (fun b => Ending.returned (.bool b)) HV.out.symm
  ·have e1 : (k == 1) = false := by rw [beq_eq_false_iff_ne]; exact k1
   have e2 : (k == 2) = false := by rw [beq_eq_false_iff_ne]; exact k2
   have e3 : (k == 3) = false := by rw [beq_eq_false_iff_ne]; exact k3
   have e6 : (k == 6) = false := by rw [beq_eq_false_iff_ne]; exact k6
   have e8 : (k == 8) = false := by rw [beq_eq_false_iff_ne]; exact k8
   have n1 : (k != 1) = true := by rw [bne_iff_ne]; exact k1
   have n6 : (k != 6) = true := by rw [bne_iff_ne]; exact k6
   have n8 : (k != 8) = true := by rw [bne_iff_ne]; exact k8
   have HV : Hid (hearsB s.ph k = false) := Lib.hid (by rw [HPH.out]; simp [hearsB, k1, k2, k3, k6, k8])
   clear k1 k2 k3 k6 k8
   go_wp2_with fail
   refine bodyPost_ret (results_tmp rfl _ _ _) rfl ⟨?_, HBL.out⟩
   exact congrArg (fun b => Ending.returned (.bool b)) HV.out.symm
 have b2 : (ph == 2) = false := by rw [beq_eq_false_iff_ne]; exact p2
 by_cases p3 : ph = 3
 ·subst p3
  clear p0 b0 p1 b1 p2 b2
  rcases kind_cases k with rfl | rfl | rfl | rfl | rfl | ⟨k1, k2, k3, k6, k8⟩
  ·have HV : Hid (hearsB s.ph 1 = false) := Lib.hid (by rw [HPH.out]; rfl)
   go_wp2_with fail
   refine bodyPost_ret (results_tmp rfl _ _ _) rfl ⟨?_, HBL.out⟩
   exact congrArg (fun b => Ending.returned (.bool b)) HV.out.symm
  ·have HV : Hid (hearsB s.ph 2 = true) := Lib.hid (by rw [HPH.out]; rfl)
   go_wp2_with fail
   refine bodyPost_ret (results_tmp rfl _ _ _) rfl ⟨?_, HBL.out⟩
   exact congrArg (fun b => Ending.returned (.bool b)) HV.out.symm
  ·have HV : Hid (hearsB s.ph 3 = true) := Lib.hid (by rw [HPH.out]; rfl)
   go_wp2_with fail
   refine bodyPost_ret (results_tmp rfl _ _ _) rfl ⟨?_, HBL.out⟩
   exact congrArg (fun b => Ending.returned (.bool b)) HV.out.symm
  ·have HV : Hid (hearsB s.ph 6 = false) := Lib.hid (by rw [HPH.out]; rfl)
   go_wp2_with fail
   refine bodyPost_ret (results_tmp rfl _ _ _) rfl ⟨?_, HBL.out⟩
   exact congrArg (fun b => Ending.returned (.bool b)) HV.out.symm
  ·have HV : Hid (hearsB s.ph 8 = true) := Lib.hid (by rw [HPH.out]; rfl)
   go_wp2_with fail
   refine bodyPost_ret (results_tmp rfl _ _ _) rfl ⟨?_, HBL.out⟩
   exact congrArg (fun b => Ending.returned (.bool b)) HV.out.symm
  ·have e1 : (k == 1) = false := by rw [beq_eq_false_iff_ne]; exact k1
   have e2 : (k == 2) = false := by rw [beq_eq_false_iff_ne]; exact k2
   have e3 : (k == 3) = false := by rw [beq_eq_false_iff_ne]; exact k3
   have e6 : (k == 6) = false := by rw [beq_eq_false_iff_ne]; exact k6
   have e8 : (k == 8) = false := by rw [beq_eq_false_iff_ne]; exact k8
   have n1 : (k != 1) = true := by rw [bne_iff_ne]; exact k1
   have n6 : (k != 6) = true := by rw [bne_iff_ne]; exact k6
   have n8 : (k != 8) = true := by rw [bne_iff_ne]; exact k8
   have HV : Hid (hearsB s.ph k = false) := Lib.hid (by rw [HPH.out]; simp [hearsB, k1, k2, k3, k6, k8])
   clear k1 k2 k3 k6 k8
   go_wp2_with fail
   refine bodyPost_ret (results_tmp rfl _ _ _) rfl ⟨?_, HBL.out⟩
   exact congrArg (fun b => Ending.returned (.bool b)) HV.out.symm
 have b3 : (ph == 3) = false := by rw [beq_eq_false_iff_ne]; exact p3
 by_cases p4 : ph = 4
 ·subst p4
  clear p0 b0 p1 b1 p2 b2 p3 b3
  rcases kind_cases k with rfl | rfl | rfl | rfl | rfl | ⟨k1, k2, k3, k6, k8⟩
  ·have HV : Hid (hearsB s.ph 1 = true) := Lib.hid (by rw [HPH.out]; rfl)
   go_wp2_with fail
   refine bodyPost_ret (results_tmp rfl _ _ _) rfl ⟨?_, HBL.out⟩
   exact congrArg (fun b => Ending.returned (.bool b)) HV.out.symm
  ·have HV : Hid (hearsB s.ph 2 = false) := Lib.hid (by rw [HPH.out]; rfl)
   go_wp2_with fail
   refine bodyPost_ret (results_tmp rfl _ _ _) rfl ⟨?_, HBL.out⟩
   exact congrArg (fun b => Ending.returned (.bool b)) HV.out.symm
  ·have HV : Hid (hearsB s.ph 3 = false) := Lib.hid (by rw [HPH.out]; rfl)
   go_wp2_with fail
   refine bodyPost_ret (results_tmp rfl _ _ _) rfl ⟨?_, HBL.out⟩
   exact congrArg (fun b => Ending.returned (.bool b)) HV.out.symm
  ·have HV : Hid (hearsB s.ph 6 = false) := Lib.hid (by rw [HPH.out]; rfl)
   go_wp2_with fail
   refine bodyPost_ret (results_tmp rfl _ _ _) rfl ⟨?_, HBL.out⟩
   exact congrArg (fun b => Ending.returned (.bool b)) HV.out.symm
  ·have HV : Hid (hearsB s.ph 8 = false) := Lib.hid (by rw [HPH.out]; rfl)
   go_wp2_with fail
   refine bodyPost_ret (results_tmp rfl _ _ _) rfl ⟨?_, HBL.out⟩
   exact congrArg (fun b => Ending.returned (.bool b)) HV.out.symm
  ·have e1 : (k == 1) = false := by rw [beq_eq_false_iff_ne]; exact k1
   have e2 : (k == 2) = false := by rw [beq_eq_false_iff_ne]; exact k2
   have e3 : (k == 3) = false := by rw [beq_eq_false_iff_ne]; exact k3
   have e6 : (k == 6) = false := by rw [beq_eq_false_iff_ne]; exact k6
   have e8 : (k == 8) = false := by rw [beq_eq_false_iff_ne]; exact k8
   have n1 : (k != 1) = true := by rw [bne_iff_ne]; exact k1
   have n6 : (k != 6) = true := by rw [bne_iff_ne]; exact k6
   have n8 : (k != 8) = true := by rw [bne_iff_ne]; exact k8
   have HV : Hid (hearsB s.ph k = false) := Lib.hid (by rw [HPH.out]; simp [hearsB, k1, k2, k3, k6, k8])
   clear k1 k2 k3 k6 k8
   go_wp2_with fail
   refine bodyPost_ret (results_tmp rfl _ _ _) rfl ⟨?_, HBL.out⟩
   exact congrArg (fun b => Ending.returned (.bool b)) HV.out.symm
 have b4 : (ph == 4) = false := by rw [beq_eq_false_iff_ne]; exact p4
 by_cases p5 : ph = 5
 ·subst p5
  clear p0 b0 p1 b1 p2 b2 p3 b3 p4 b4
  rcases kind_cases k with rfl | rfl | rfl | rfl | rfl | ⟨k1, k2, k3, k6, k8⟩
  ·have HV : Hid (hearsB s.ph 1 = true) := Lib.hid (by rw [HPH.out]; rfl)
   go_wp2_with fail
   refine bodyPost_ret (results_tmp rfl _ _ _) rfl ⟨?_, HBL.out⟩
   exact congrArg (fun b => Ending.returned (.bool b)) HV.out.symm
  ·have HV : Hid (hearsB s.ph 2 = false) := Lib.hid (by rw [HPH.out]; rfl)
   go_wp2_with fail
   refine bodyPost_ret (results_tmp rfl _ _ _) rfl ⟨?_, HBL.out⟩
   exact congrArg (fun b => Ending.returned (.bool b)) HV.out.symm
  ·have HV : Hid (hearsB s.ph 3 = false) := Lib.hid (by rw [HPH.out]; rfl)
   go_wp2_with fail
   refine bodyPost_ret (results_tmp rfl _ _ _) rfl ⟨?_, HBL.out⟩
   exact congrArg (fun b => Ending.returned (.bool b)) HV.out.symm
  ·have HV : Hid (hearsB s.ph 6 = false) := Lib.hid (by rw [HPH.out]; rfl)
   go_wp2_with fail
   refine bodyPost_ret (results_tmp rfl _ _ _) rfl ⟨?_, HBL.out⟩
   exact congrArg (fun b => Ending.returned (.bool b)) HV.out.symm
  ·have HV : Hid (hearsB s.ph 8 = false) := Lib.hid (by rw [HPH.out]; rfl)
   go_wp2_with fail
   refine bodyPost_ret (results_tmp rfl _ _ _) rfl ⟨?_, HBL.out⟩
   exact congrArg (fun b => Ending.returned (.bool b)) HV.out.symm
  ·have e1 : (k == 1) = false := by rw [beq_eq_false_iff_ne]; exact k1
   have e2 : (k == 2) = false := by rw [beq_eq_false_iff_ne]; exact k2
   have e3 : (k == 3) = false := by rw [beq_eq_false_iff_ne]; exact k3
   have e6 : (k == 6) = false := by rw [beq_eq_false_iff_ne]; exact k6
   have e8 : (k == 8) = false := by rw [beq_eq_false_iff_ne]; exact k8
   have n1 : (k != 1) = true := by rw [bne_iff_ne]; exact k1
   have n6 : (k != 6) = true := by rw [bne_iff_ne]; exact k6
   have n8 : (k != 8) = true := by rw [bne_iff_ne]; exact k8
   have HV : Hid (hearsB s.ph k = false) := Lib.hid (by rw [HPH.out]; simp [hearsB, k1, k2, k3, k6, k8])
   clear k1 k2 k3 k6 k8
   go_wp2_with fail
   refine bodyPost_ret (results_tmp rfl _ _ _) rfl ⟨?_, HBL.out⟩
   exact congrArg (fun b => Ending.returned (.bool b)) HV.out.symm
 have b5 : (ph == 5) = false := by rw [beq_eq_false_iff_ne]; exact p5
 have HV : Hid (hearsB s.ph k = false) := Lib.hid (by rw [HPH.out]; simp [hearsB, p0, p1, p2, p3, p4, p5])
 clear p0 p1 p2 p3 p4 p5
 go_wp2_with fail
 refine bodyPost_ret (results_tmp rfl _ _ _) rfl ⟨?_, HBL.out⟩
 exact congrArg (fun b => Ending.returned (.bool b)) HV.out.symm
end Go.Proofs.Ytolgmoaoheflcaa.Sa
