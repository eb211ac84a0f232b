/-
 THE WALK of the statement SagaThrough (printed by gengl3b.py).
-/
import Derived.Test.YtolgmoaoheflcaaGTh
namespace Go.Proofs.Ytolgmoaoheflcaa.Sa
open Go.RowKit
open DiP
set_option linter.unusedVariables false
set_option linter.unusedSimpArgs false
set_option maxRecDepth 20000
def lenV : Value → Nat
 | .slice _ n _ => n
 | _ => 0
/-- How much a state in memory has to take back. -/
def mstO (w : World) (sb : Nat) : Nat := match w.heap[sb]? with
 | some (.cells cs _ _) => lenV (cs.getD 6 undef) + lenV (cs.getD 7 undef)
 | _ => 0
set_option maxHeartbeats 32000000 in
theorem law_through {w : World} {AF AT AS AE : Option Addr} {nF nT nS nE cF cT cS cE nP cP : Nat} {AP : Option Addr} {p : PlV} {ps : List Int} {gv : Int} (h : PlR w w.heap.size AF nF AT nT AS nS AE nE p) (hps : Rd w w.heap.size AP nP ps) (hnp : nP ≤ 9223372036854775807) :
 Calls Try.prog 5 #[.agg #[.slice AF nF cF, .slice AT nT cT, .slice AS nS cS, .slice AE nE cE], .slice AP nP cP, .int .i64 gv] w fun e w' => e = .returned (.bool true) ∧ Below w.heap.size w w' := by
 obtain ⟨W, HW⟩ : ∃ W, Hid (W = w.alloc (.cells #[.slice AF nF cF, .slice AT nT cT, .slice AS nS cS, .slice AE nE cE] 29)) := ⟨_, Lib.hid rfl⟩
 have HBL : Hid (Below w.heap.size w W) := Lib.hid (by rw [HW.out]; exact (Below.refl _ w).alloc (Nat.le_refl _) _)
 have H0 : Hid (W.heap[w.heap.size]? = some (.cells #[.slice AF nF cF, .slice AT nT cT, .slice AS nS cS, .slice AE nE cE] 29 (0, 0))) := Lib.hid (by rw [HW.out]; exact heap_new w _)
 have HPL := Lib.hid (h.below HBL.out)
 have HPW := Lib.hid h
 have HPS := Lib.hid hps
 have HAN := Lib.hid (anchor_any W)
 clear h hps
 go_enter Try.func5, Try.ntmps5
 go_upto_region 1 with fail
 change Code.wp _ _ _ _ (w.alloc (.cells #[.slice AF nF cF, .slice AT nT cT, .slice AS nS cS, .slice AE nE cE] 29))
 rw [← HW.out]
 go_wp2_with fail
 refine HAN.out.mono ?_
 rintro e wa ⟨rfl, hb⟩
 have HBA := Lib.hid (HBL.out.trans (hb.mono HBL.out.size))
 have HHA : Hid (wa.heap[w.heap.size]? = some (.cells #[.slice AF nF cF, .slice AT nT cT, .slice AS nS cS, .slice AE nE cE] 29 (0, 0))) := Lib.hid ((hb.block _ (heapE_lt H0.out)).trans H0.out)
 clear hb HAN
 have HMP := Lib.hid (madeP_any (w := wa) (cF := cF) (cT := cT) (cS := cS) (cE := cE) (HPW.out.below HBA.out) HBA.out.size)
 obtain ⟨x0, x1, x2, x3⟩ := row4 HHA.out
 go_wp2_with fail
 refine HMP.out.mono ?_
 rintro e wb ⟨hb, hc⟩
 have HBB := Lib.hid (HBA.out.trans (hb.mono HBA.out.size))
 have HHB : Hid (wb.heap[w.heap.size]? = some (.cells #[.slice AF nF cF, .slice AT nT cT, .slice AS nS cS, .slice AE nE cE] 29 (0, 0))) := Lib.hid ((hb.block _ (heapE_lt HHA.out)).trans HHA.out)
 clear hb HMP x0 x1 x2 x3
 rcases hc with ⟨hs, rfl⟩ | ⟨hs, A', n', c', rfl, ho⟩
 ·have HBZ := Lib.hid (fun (o : Obj) => HBB.out.alloc HBB.out.size o)
  clear hs
  go_wp2_with fail
  exact bodyPost_ret (results_tmp rfl _ _ _) rfl ⟨rfl, HBZ.out _⟩
 have HSZ := Lib.hid hs
 clear hs ho
 obtain ⟨C, HCE⟩ : ∃ C, Hid (C = wb.alloc (.cells #[.slice AF nF cF, .slice AT nT cT, .slice A' n' c', .slice AE nE cE] 47)) := ⟨_, Lib.hid rfl⟩
 have hcb : Below wb.heap.size wb C := by rw [HCE.out]; exact (Below.refl _ wb).alloc (Nat.le_refl _) _
 have HBC := Lib.hid (HBB.out.trans (hcb.mono HBB.out.size))
 have HHC : Hid (C.heap[w.heap.size]? = some (.cells #[.slice AF nF cF, .slice AT nT cT, .slice AS nS cS, .slice AE nE cE] 29 (0, 0))) := Lib.hid ((hcb.block _ (heapE_lt HHB.out)).trans HHB.out)
 clear hcb
 go_upto_region 4 with fail
 change Code.wp _ _ _ _ (wb.alloc (.cells #[.slice AF nF cF, .slice AT nT cT, .slice A' n' c', .slice AE nE cE] 47))
 rw [← HCE.out]
 by_cases h40 : 200 < nP
 ·have d40 : decide (200 < (nP : Int)) = true := decide_eq_true (by omega)
  go_wp2_with fail
  exact bodyPost_ret (results_tmp rfl _ _ _) rfl ⟨rfl, HBC.out⟩
 have d40 : decide (200 < (nP : Int)) = false := decide_eq_false (by omega)
 have HTK := Lib.hid (take_any (w := C) (base := 0) (r := ⟨1, 0, p⟩) (dF := cF) (dT := cT) (dS := cS) (dE := cE) StO.nil_ InvS.start (RcW.of (HPW.out.below HBC.out) HSZ.out rfl rfl) HBC.out.size)
 obtain ⟨er, HER⟩ : ∃ q, Hid (takeE st0 ⟨1, 0, p⟩ = q) := ⟨_, Lib.hid rfl⟩
 rw [HER.out] at HTK
 obtain ⟨x0, x1, x2, x3⟩ := row4 HHC.out
 go_wp2_with fail
 refine HTK.out.mono ?_
 rintro e wd ⟨hb, hc⟩
 have HBD := Lib.hid (HBC.out.trans (hb.mono HBC.out.size))
 have HHD : Hid (wd.heap[w.heap.size]? = some (.cells #[.slice AF nF cF, .slice AT nT cT, .slice AS nS cS, .slice AE nE cE] 29 (0, 0))) := Lib.hid ((hb.block _ (heapE_lt HHC.out)).trans HHC.out)
 clear hb HTK x0 x1 x2 x3
 rcases hc with ⟨hne, rfl⟩ | ⟨he0, num, ph, A1, n1, c1, A2, n2, c2, A3, n3, c3, A4, n4, c4, A5, n5, c5, A6, n6, c6, rfl, hst⟩
 ·have hnb : (er != 0) = true := by rw [bne_iff_ne]; exact hne
  have HBZ := Lib.hid (fun (o : Obj) => HBD.out.alloc HBD.out.size o)
  clear hne
  obtain ⟨Z, HZE⟩ : ∃ Z, Hid (Z = wd.alloc (.cells #[.int .i64 0, .int .i64 0, .slice none 0 0, .slice none 0 0, .slice none 0 0, .slice none 0 0, .slice none 0 0, .slice none 0 0] 31)) := ⟨_, Lib.hid rfl⟩
  have hz0 : Z.heap[wd.heap.size]? = some (.cells #[.int .i64 0, .int .i64 0, .slice none 0 0, .slice none 0 0, .slice none 0 0, .slice none 0 0, .slice none 0 0, .slice none 0 0] 31 (0, 0)) := by rw [HZE.out]; exact heap_new wd _
  have HBZ2 : Hid (Below w.heap.size w Z) := Lib.hid (by rw [HZE.out]; exact HBZ.out _)
  obtain ⟨_, z1, _, _, _, _, _, _⟩ := row8 hz0
  go_upto_region 7 with fail
  change Code.wp _ _ _ _ (wd.alloc (.cells #[.int .i64 0, .int .i64 0, .slice none 0 0, .slice none 0 0, .slice none 0 0, .slice none 0 0, .slice none 0 0, .slice none 0 0] 31))
  rw [← HZE.out]
  go_wp2_with fail
  exact bodyPost_ret (results_tmp rfl _ _ _) rfl ⟨rfl, HBZ2.out⟩
 subst he0
 have HI0 := Lib.hid (InvS.start.take HER.out)
 have HM0 := Lib.hid (t_begin HER.out)
 obtain ⟨s0, HS0⟩ : ∃ q, Hid (takeS st0 ⟨1, 0, p⟩ = q) := ⟨_, Lib.hid rfl⟩
 rw [HS0.out] at HI0 HM0 hst
 obtain ⟨E, HEE⟩ : ∃ E, Hid (E = wd.alloc (.cells #[.int .i64 num, .int .i64 ph, .slice A1 n1 c1, .slice A2 n2 c2, .slice A3 n3 c3, .slice A4 n4 c4, .slice A5 n5 c5, .slice A6 n6 c6] 31)) := ⟨_, Lib.hid rfl⟩
 have heb : Below wd.heap.size wd E := by rw [HEE.out]; exact (Below.refl _ wd).alloc (Nat.le_refl _) _
 have HBE := Lib.hid (HBD.out.trans (heb.mono HBD.out.size))
 have HHE : Hid (E.heap[w.heap.size]? = some (.cells #[.slice AF nF cF, .slice AT nT cT, .slice AS nS cS, .slice AE nE cE] 29 (0, 0))) := Lib.hid ((heb.block _ (heapE_lt HHD.out)).trans HHD.out)
 have HRE : Hid (E.heap[wd.heap.size]? = some (.cells #[.int .i64 num, .int .i64 ph, .slice A1 n1 c1, .slice A2 n2 c2, .slice A3 n3 c3, .slice A4 n4 c4, .slice A5 n5 c5, .slice A6 n6 c6] 31 (0, 0))) := Lib.hid (by rw [HEE.out]; exact heap_new wd _)
 have HSE := Lib.hid ((hst.less (Nat.zero_le _)).kept heb)
 have HSBG : Hid (w.heap.size < wd.heap.size) := Lib.hid (heapE_lt HHD.out)
 obtain ⟨sb, HSBE⟩ : ∃ q, Hid (wd.heap.size = q) := ⟨_, Lib.hid rfl⟩
 rw [HSBE.out] at HRE HSBG
 clear heb hst
 go_upto_region 7 with fail
 change Code.wp _ _ _ _ (wd.alloc (.cells #[.int .i64 num, .int .i64 ph, .slice A1 n1 c1, .slice A2 n2 c2, .slice A3 n3 c3, .slice A4 n4 c4, .slice A5 n5 c5, .slice A6 n6 c6] 31))
 rw [HSBE.out]
 rw [← HEE.out]
 have hmf := fun (fn : Fn) (first cap : Array Value) (W : World) => (show (Instr.makeFunc fn first cap).run Try.prog W = .ok (.func fn first cap) W from rfl)
 have HNS : Hid (s0.pl.S.length = nS) := Lib.hid (by rw [HM0.out.2.1]; exact HPW.out.S.1)
 have hs100 : nS ≤ 100 := (PlR.plw HPW.out HSZ.out).sz.2.2.1
 have hmul : IntKind.i64.wrap (2 * (nS : Int)) = ((2 * nS : Nat) : Int) := by rw [IntWalk.i64_in _ (by omega)]; omega
 clear HHC HHD HBD HBC HBB HBA
 go_upto_region 11 with fail
 go_loopw [12, 13, 14, 16, 17] (fun v _ _ _ _ wr => ∃ q : Nat, v = .int .i64 (q : Int) ∧ q ≤ 2 * nS ∧ ∃ num ph A1 n1 c1 A2 n2 c2 A3 n3 c3 A4 n4 c4 A5 n5 c5 A6 n6 c6, ∃ s : StV, Hid (Below w.heap.size w wr) ∧ Hid (wr.heap[w.heap.size]? = some (.cells #[.slice AF nF cF, .slice AT nT cT, .slice AS nS cS, .slice AE nE cE] 29 (0, 0))) ∧ Hid (wr.heap[sb]? = some (.cells #[.int .i64 num, .int .i64 ph, .slice A1 n1 c1, .slice A2 n2 c2, .slice A3 n3 c3, .slice A4 n4 c4, .slice A5 n5 c5, .slice A6 n6 c6] 31 (0, 0))) ∧ Hid (StO wr 0 num ph A1 n1 c1 A2 n2 c2 A3 n3 c3 A4 n4 c4 A5 n5 c5 A6 n6 c6 s) ∧ Hid (InvS s) ∧ Hid (Ph3 s ∧ s.pl.S.length = nS ∧ measS s = q)) (fun v _ _ _ _ _ => 2 * nS + 1 - (intOf v).toNat)
 case atStart => exact ⟨0, rfl, by omega, num, ph, A1, n1, c1, A2, n2, c2, A3, n3, c3, A4, n4, c4, A5, n5, c5, A6, n6, c6, s0, HBE, HHE, HRE, HSE, HI0, Lib.hid ⟨.inl HM0.out.1, HNS.out, HM0.out.2.2⟩⟩
 case round =>
  obtain ⟨wo, hwo⟩ : ∃ x, x = wr := ⟨_, rfl⟩
  subst hwo
  obtain ⟨q, rfl, hq2, num, ph, A1, n1, c1, A2, n2, c2, A3, n3, c3, A4, n4, c4, A5, n5, c5, A6, n6, c6, s, HBo, HHo, HRo, HSo, HIo, HPo⟩ := hrel
  clear HHE HRE HSE HBE HI0 HM0
  have hqadd : IntKind.i64.wrap ((q : Int) + 1) = ((q + 1 : Nat) : Int) := by rw [IntWalk.i64_in _ (by omega)]; omega
  have hd : decide ((q : Int) ≤ ((2 * nS : Nat) : Int)) = true := decide_eq_true (by omega)
  have hdq : (q : Int) ≤ ((2 * nS : Nat) : Int) := by omega
  obtain ⟨p0, p1, p2, p3⟩ := row4 HHo.out
  obtain ⟨x0, x1, x2, x3, x4, x5, x6, x7⟩ := row8 HRo.out
  go_upto_region 13 with fail
  obtain ⟨bq, HBQ⟩ : ∃ r : Bool, Hid ((decide ((q : Int) = gv) && decide (ph = 1)) = r) := ⟨_, Lib.hid rfl⟩
  go_cut [63] (fun v w' => v = .bool bq ∧ w' = wo)
  case first =>
   by_cases hg : (q : Int) = gv
   ·have hgb : ((q : Int) == gv) = true := by rw [beq_iff_eq]; exact hg
    by_cases hp : ph = 1
    ·have hpb : (ph == 1) = true := by rw [beq_iff_eq]; exact hp
     have HE : Hid (true = bq) := Lib.hid (by rw [← HBQ.out, decide_eq_true hg, decide_eq_true hp]; rfl)
     clear hg hp
     go_wp2_with fail
     go_meet
     exact ⟨congrArg Value.bool HE.out, rfl⟩
    ·have hpb : (ph == 1) = false := by rw [beq_eq_false_iff_ne]; exact hp
     have HE : Hid (false = bq) := Lib.hid (by rw [← HBQ.out, decide_eq_false hp, Bool.and_false])
     clear hg hp
     go_wp2_with fail
     go_meet
     exact ⟨congrArg Value.bool HE.out, rfl⟩
   ·have hgb : ((q : Int) == gv) = false := by rw [beq_eq_false_iff_ne]; exact hg
    have HE : Hid (false = bq) := Lib.hid (by rw [← HBQ.out, decide_eq_false hg, Bool.false_and])
    clear hg
    go_wp2_with fail
    go_meet
    exact ⟨congrArg Value.bool HE.out, rfl⟩
  case rest =>
  obtain ⟨rfl, hwc⟩ := hcut
  subst hwc
  obtain ⟨w13, hw13⟩ : ∃ x, x = wc := ⟨_, rfl⟩
  subst hw13
  go_upto_if 63 with fail
  go_cut [6] (fun _ w' => ∃ num ph A1 n1 c1 A2 n2 c2 A3 n3 c3 A4 n4 c4 A5 n5 c5 A6 n6 c6, ∃ s : StV, Hid (Below w.heap.size w w') ∧ Hid (w'.heap[w.heap.size]? = some (.cells #[.slice AF nF cF, .slice AT nT cT, .slice AS nS cS, .slice AE nE cE] 29 (0, 0))) ∧ Hid (w'.heap[sb]? = some (.cells #[.int .i64 num, .int .i64 ph, .slice A1 n1 c1, .slice A2 n2 c2, .slice A3 n3 c3, .slice A4 n4 c4, .slice A5 n5 c5, .slice A6 n6 c6] 31 (0, 0))) ∧ Hid (StO w' 0 num ph A1 n1 c1 A2 n2 c2 A3 n3 c3 A4 n4 c4 A5 n5 c5 A6 n6 c6 s) ∧ Hid (InvS s) ∧ Hid (Ph3 s ∧ s.pl.S.length = nS ∧ measS s = q))
  case first =>
   cases bq with
   | true =>
    have hph : s.ph = 1 := by
     have h := HBQ.out
     simp only [Bool.and_eq_true, decide_eq_true_eq] at h
     rw [HSo.out.ph]; exact h.2
    have HT := Lib.hid (t_abort hph)
    have HI2 := Lib.hid (HIo.out.take HT.out.1)
    have HCL := Lib.hid (take1_any (w := w13) (B := 0) (sb := sb) (dF := 0) (dT := 0) (dS := 0) (dE := 0) HRo.out HSo.out HIo.out (RcW.of (r := ⟨5, 0, pl0⟩) plr_nil rfl rfl rfl) (Nat.zero_le _) HT.out.1)
    clear hph x0 x1 x2 x3 x4 x5 x6 x7 p0 p1 p2 p3
    go_wp2_with fail
    refine HCL.out.mono ?_
    rintro e w1 ⟨rfl, hgr, num2, ph2, B1, m1, d1, B2, m2, d2, B3, m3, d3, B4, m4, d4, B5, m5, d5, B6, m6, d6, hrow, hst⟩
    have HG1 := Lib.hid hgr
    have HB1 : Hid (Below w.heap.size w w1) := Lib.hid (HBo.out.grown hgr HBo.out.size (fun z hz => by injection hz with hz; have := HSBG.out; omega))
    have HH1 : Hid (w1.heap[w.heap.size]? = some (.cells #[.slice AF nF cF, .slice AT nT cT, .slice AS nS cS, .slice AE nE cE] 29 (0, 0))) := Lib.hid ((hgr.block _ (heapE_lt HHo.out) (fun e => by injection e with e; have := HSBG.out; omega)).trans HHo.out)
    have HR1 := Lib.hid hrow
    have HS1 := Lib.hid hst
    clear hgr hrow hst
    rw [HT.out.2] at HS1 HI2
    go_wp2_with fail
    go_meet
    exact ⟨num2, ph2, B1, m1, d1, B2, m2, d2, B3, m3, d3, B4, m4, d4, B5, m5, d5, B6, m6, d6, { s with ph := 2 }, HB1, HH1, HR1, HS1, HI2, Lib.hid ⟨.inr (.inl rfl), HPo.out.2⟩⟩
   | false =>
    go_wp2_with fail
    go_meet
    exact ⟨num, ph, A1, n1, c1, A2, n2, c2, A3, n3, c3, A4, n4, c4, A5, n5, c5, A6, n6, c6, s, HBo, HHo, HRo, HSo, HIo, HPo⟩
  case rest =>
  clear x0 x1 x2 x3 x4 x5 x6 x7 p0 p1 p2 p3 HBo HHo HRo HSo HIo HPo HBQ
  clear s num ph A1 n1 c1 A2 n2 c2 A3 n3 c3 A4 n4 c4 A5 n5 c5 A6 n6 c6
  obtain ⟨num, ph, A1, n1, c1, A2, n2, c2, A3, n3, c3, A4, n4, c4, A5, n5, c5, A6, n6, c6, s, HBo, HHo, HRo, HSo, HIo, HPo⟩ := hcut
  obtain ⟨wp, hwp⟩ : ∃ x, x = wc := ⟨_, rfl⟩
  subst hwp
  obtain ⟨x0, x1, x2, x3, x4, x5, x6, x7⟩ := row8 HRo.out
  go_upto_region 16 with fail
  go_cut [75] (fun v6 w' => v6 = .bool false ∧ ∃ num ph A1 n1 c1 A2 n2 c2 A3 n3 c3 A4 n4 c4 A5 n5 c5 A6 n6 c6, ∃ s : StV, Hid (Below w.heap.size w w') ∧ Hid (w'.heap[w.heap.size]? = some (.cells #[.slice AF nF cF, .slice AT nT cT, .slice AS nS cS, .slice AE nE cE] 29 (0, 0))) ∧ Hid (w'.heap[sb]? = some (.cells #[.int .i64 num, .int .i64 ph, .slice A1 n1 c1, .slice A2 n2 c2, .slice A3 n3 c3, .slice A4 n4 c4, .slice A5 n5 c5, .slice A6 n6 c6] 31 (0, 0))) ∧ Hid (StO w' 0 num ph A1 n1 c1 A2 n2 c2 A3 n3 c3 A4 n4 c4 A5 n5 c5 A6 n6 c6 s) ∧ Hid (InvS s) ∧ Hid (Ph3 s ∧ s.pl.S.length = nS ∧ measS s = q) ∧ Hid (s.ph = 1 → marksB s = false))
  case first =>
   have HMK := Lib.hid (marks_any (cF := c1) (cT := c2) (cS := c3) (cE := c4) (cO := c5) (cD := c6) (HSo.out.stw HIo.out) (Nat.le_refl _))
   obtain ⟨mq, HMQ⟩ : ∃ r, Hid (marksB s = r) := ⟨_, Lib.hid rfl⟩
   rw [HMQ.out] at HMK
   go_wp2_with fail
   refine HMK.out.mono ?_
   rintro e wm ⟨rfl, hb⟩
   have HBm := Lib.hid (HBo.out.trans (hb.mono HBo.out.size))
   have HHm : Hid (wm.heap[w.heap.size]? = some (.cells #[.slice AF nF cF, .slice AT nT cT, .slice AS nS cS, .slice AE nE cE] 29 (0, 0))) := Lib.hid ((hb.block _ (heapE_lt HHo.out)).trans HHo.out)
   have HRm : Hid (wm.heap[sb]? = some (.cells #[.int .i64 num, .int .i64 ph, .slice A1 n1 c1, .slice A2 n2 c2, .slice A3 n3 c3, .slice A4 n4 c4, .slice A5 n5 c5, .slice A6 n6 c6] 31 (0, 0))) := Lib.hid ((hb.block _ (heapE_lt HRo.out)).trans HRo.out)
   have HSm := Lib.hid (HSo.out.kept hb)
   clear hb x0 x1 x2 x3 x4 x5 x6 x7 HMK
   cases mq with
   | true =>
    have HT := Lib.hid (t_mark HMQ.out)
    have HI2 := Lib.hid (HIo.out.take HT.out.1)
    have HCL := Lib.hid (take1_any (w := wm) (B := 0) (sb := sb) (dF := 0) (dT := 0) (dS := 0) (dE := 0) HRm.out HSm.out HIo.out (RcW.of (r := ⟨7, 0, pl0⟩) plr_nil rfl rfl rfl) (Nat.zero_le _) HT.out.1)
    go_wp2_with fail
    refine HCL.out.mono ?_
    rintro e w1 ⟨rfl, hgr, num2, ph2, B1, m1, d1, B2, m2, d2, B3, m3, d3, B4, m4, d4, B5, m5, d5, B6, m6, d6, hrow, hst⟩
    have HG1 := Lib.hid hgr
    have HB1 : Hid (Below w.heap.size w w1) := Lib.hid (HBm.out.grown hgr HBm.out.size (fun z hz => by injection hz with hz; have := HSBG.out; omega))
    have HH1 : Hid (w1.heap[w.heap.size]? = some (.cells #[.slice AF nF cF, .slice AT nT cT, .slice AS nS cS, .slice AE nE cE] 29 (0, 0))) := Lib.hid ((hgr.block _ (heapE_lt HHm.out) (fun e => by injection e with e; have := HSBG.out; omega)).trans HHm.out)
    have HR1 := Lib.hid hrow
    have HS1 := Lib.hid hst
    clear hgr hrow hst
    rw [HT.out.2] at HS1 HI2
    go_wp2_with fail
    go_meet
    exact ⟨rfl, num2, ph2, B1, m1, d1, B2, m2, d2, B3, m3, d3, B4, m4, d4, B5, m5, d5, B6, m6, d6, { s with ph := 3 }, HB1, HH1, HR1, HS1, HI2, Lib.hid ⟨.inr (.inr rfl), HPo.out.2⟩, Lib.hid (fun h => by cases h)⟩
   | false =>
    go_wp2_with fail
    go_meet
    exact ⟨rfl, num, ph, A1, n1, c1, A2, n2, c2, A3, n3, c3, A4, n4, c4, A5, n5, c5, A6, n6, c6, s, HBm, HHm, HRm, HSm, HIo, HPo, Lib.hid (fun _ => HMQ.out)⟩
  case rest =>
  clear x0 x1 x2 x3 x4 x5 x6 x7 HBo HHo HRo HSo HIo HPo
  clear s num ph A1 n1 c1 A2 n2 c2 A3 n3 c3 A4 n4 c4 A5 n5 c5 A6 n6 c6
  obtain ⟨rfl, num, ph, A1, n1, c1, A2, n2, c2, A3, n3, c3, A4, n4, c4, A5, n5, c5, A6, n6, c6, s, HBo, HHo, HRo, HSo, HIo, HPo, HMF⟩ := hcut
  obtain ⟨wp2, hwp2⟩ : ∃ x, x = wc := ⟨_, rfl⟩
  subst hwp2
  have hpl := HPo.out.2.1
  have hbo := HIo.out.both
  have hlo := HSo.out.lens
  have h5 : s.op.length = n5 := hlo.2.2.2.2.1
  have h6 : s.dn.length = n6 := hlo.2.2.2.2.2
  have h56 : n5 + n6 ≤ nS := by omega
  have HPH : Hid (s.ph = ph) := Lib.hid HSo.out.ph
  clear hbo hlo hpl
  obtain ⟨p0, p1, p2, p3⟩ := row4 HHo.out
  go_upto_region 20 with fail
  clear p0 p1 p2 p3
  go_loopw [13, 14, 79] (fun v13 _ v wq => ∃ i : Nat, i ≤ nS ∧ v = .int .i64 (i : Int) ∧ ∃ (AL : Option Addr) (nL cL : Nat) (lst : List Pr), v13 = .slice AL nL cL ∧ Hid (Below wp2.heap.size wp2 wq) ∧ Hid (OwnF 33 6 rcF wq wp2.heap.size (.slice AL nL cL) lst) ∧ Hid (∀ x ∈ lst, OkR s x) ∧ Hid (lst.length ≤ i) ∧ Hid (lst = [] → ∀ k, k < i → mayB s (k : Int) = false)) (fun _ _ v _ => nS - (intOf v).toNat)
  case atStart => exact ⟨0, Nat.zero_le _, rfl, none, 0, 0, [], rfl, Lib.hid (Below.refl _ _), Lib.hid (OwnF.nil_ _ _ _ _ _), Lib.hid (fun x hx => by cases hx), Lib.hid (Nat.le_refl _), Lib.hid (fun _ k hk => absurd hk (by omega))⟩
  case round =>
   obtain ⟨wi, hwi⟩ : ∃ x, x = wr := ⟨_, rfl⟩
   subst hwi
   obtain ⟨i, hi, rfl, AL, nL, cL, lst, rfl, HBi, HLi, HMi, HLL, HNo⟩ := hrel
   have HRi : Hid (wi.heap[sb]? = some (.cells #[.int .i64 num, .int .i64 ph, .slice A1 n1 c1, .slice A2 n2 c2, .slice A3 n3 c3, .slice A4 n4 c4, .slice A5 n5 c5, .slice A6 n6 c6] 31 (0, 0))) := Lib.hid ((HBi.out.block _ (heapE_lt HRo.out)).trans HRo.out)
   have HSi := Lib.hid (HSo.out.kept HBi.out)
   by_cases hin : i < nS
   ·have hd2 : decide ((i : Int) < (nS : Int)) = true := by simp; omega
    have hii : (i : Int) < (nS : Int) := by omega
    have hiadd : IntKind.i64.wrap ((i : Int) + 1) = ((i + 1 : Nat) : Int) := by rw [IntWalk.i64_in _ (by omega)]; omega
    have HMY := Lib.hid (may_any (cF := c1) (cT := c2) (cS := c3) (cE := c4) (cO := c5) (cD := c6) (HSi.out.stw HIo.out) (Nat.le_refl _) (i : Int))
    obtain ⟨mq, HMQ⟩ : ∃ r, Hid (mayB s (i : Int) = r) := ⟨_, Lib.hid rfl⟩
    rw [HMQ.out] at HMY
    obtain ⟨x0, x1, x2, x3, x4, x5, x6, x7⟩ := row8 HRi.out
    go_wp2_with fail
    refine HMY.out.mono ?_
    rintro e w1 ⟨rfl, hb⟩
    have HB1 := Lib.hid (HBi.out.trans (hb.mono HBi.out.size))
    have HL1 := Lib.hid (HLi.out.kept hb)
    clear hb HMY x0 x1 x2 x3 x4 x5 x6 x7
    cases mq with
    | false =>
     go_wp2_with fail
     go_roundw
     case rel => exact ⟨i + 1, by omega, by go_num, AL, nL, cL, lst, rfl, HB1, HL1, HMi, Lib.hid (by have := HLL.out; omega), Lib.hid (fun hl k hk => by
      by_cases e : k = i
      ·subst e; exact HMQ.out
      ·exact HNo.out hl k (by omega))⟩
     case measure => simp [intOf]; omega
    | true =>
     have HAR := Lib.hid (HL1.out.alloc (.cells #[.int .i64 2, .int .i64 (i : Int), .slice none 0 0, .slice none 0 0, .slice none 0 0, .slice none 0 0] 33))
     have HAC : Hid ((w1.alloc (.cells #[.int .i64 2, .int .i64 (i : Int), .slice none 0 0, .slice none 0 0, .slice none 0 0, .slice none 0 0] 33)).heap[w1.heap.size]? = some (.cells (rcF (2, (i : Int))).toArray 33 (0, 0))) := Lib.hid (heap_new w1 _)
     have HAB : Hid (Below wp2.heap.size wp2 (w1.alloc (.cells #[.int .i64 2, .int .i64 (i : Int), .slice none 0 0, .slice none 0 0, .slice none 0 0, .slice none 0 0] 33))) := Lib.hid (HB1.out.alloc HB1.out.size _)
     have HLN : Hid (lst.length + 1 ≤ 1000000000) := Lib.hid (by have := HLL.out; omega)
     go_wp2_with (at_builtin; refine wplF_oneR rfl (.tmp 85) (.tmp 88) rfl wp2.heap.size _ lst rfl HAR.out w1.heap.size 1 (2, (i : Int)) rfl HAC.out HLN.out HAB.out.size ?_; intro A7 n7 c7 y7 hown hgr; (have HO7 := Lib.hid hown); (have HR7 := Lib.hid hgr); clear hown hgr)
     have HB7 : Hid (Below wp2.heap.size wp2 y7) := Lib.hid (HAB.out.grown HR7.out HAB.out.size HAR.out.ge)
     go_roundw
     case rel => exact ⟨i + 1, by omega, by go_num, A7, n7, c7, lst ++ [(2, (i : Int))], rfl, HB7, HO7, Lib.hid (fun x hx => by
      simp only [List.mem_append, List.mem_singleton] at hx
      rcases hx with hx | rfl
      ·exact HMi.out x hx
      ·exact .inl ⟨rfl, HMQ.out⟩), Lib.hid (by have := HLL.out; simp; omega), Lib.hid (fun hl => by simp at hl)⟩
     case measure => simp [intOf]; omega
   ·have hd2 : decide ((i : Int) < (nS : Int)) = false := by simp; omega
    have HNM : Hid (lst = [] → ∀ k, k < nS → mayB s (k : Int) = false) := Lib.hid (fun hl k hk => HNo.out hl k (by omega))
    have HL100 : Hid (lst.length ≤ 100) := Lib.hid (by have := HLL.out; omega)
    obtain ⟨x0, x1, x2, x3, x4, x5, x6, x7⟩ := row8 HRi.out
    go_upto_region 26 with fail
    clear x0 x1 x2 x3 x4 x5 x6 x7
    clear hd2 hin
    go_loopw [13, 16, 94] (fun v13 _ v wq => ∃ j : Nat, j ≤ n5 ∧ v = .int .i64 (j : Int) ∧ ∃ (AL : Option Addr) (nL cL : Nat) (lst : List Pr), v13 = .slice AL nL cL ∧ Hid (Below wp2.heap.size wp2 wq) ∧ Hid (OwnF 33 6 rcF wq wp2.heap.size (.slice AL nL cL) lst) ∧ Hid (∀ x ∈ lst, OkR s x) ∧ Hid (lst.length ≤ 100 + j) ∧ Hid (lst = [] → (∀ k, k < nS → mayB s (k : Int) = false) ∧ (s.ph = 2 ∨ j = 0))) (fun _ _ v _ => n5 - (intOf v).toNat)
    case atStart => exact ⟨0, Nat.zero_le _, rfl, AL, nL, cL, lst, rfl, HBi, HLi, HMi, Lib.hid (by have := HL100.out; omega), Lib.hid (fun hl => ⟨HNM.out hl, .inr rfl⟩)⟩
    case round =>
     obtain ⟨wj, hwj⟩ : ∃ x, x = wr := ⟨_, rfl⟩
     subst hwj
     clear HRi HSi HBi HLi HMi HLL HNo HNM HL100
     obtain ⟨j, hj, rfl, AL, nL, cL, lst, rfl, HBi, HLi, HMi, HLL, HNo⟩ := hrel
     have HRi : Hid (wj.heap[sb]? = some (.cells #[.int .i64 num, .int .i64 ph, .slice A1 n1 c1, .slice A2 n2 c2, .slice A3 n3 c3, .slice A4 n4 c4, .slice A5 n5 c5, .slice A6 n6 c6] 31 (0, 0))) := Lib.hid ((HBi.out.block _ (heapE_lt HRo.out)).trans HRo.out)
     have HSi := Lib.hid (HSo.out.kept HBi.out)
     have hn36 := HIo.out.lenO.1
     rw [h5] at hn36
     by_cases hjn : j < n5
     ·have hd2 : decide ((j : Int) < (n5 : Int)) = true := by simp; omega
      have hjj : (j : Int) < (n5 : Int) := by omega
      have hjadd : IntKind.i64.wrap ((j : Int) + 1) = ((j + 1 : Nat) : Int) := by rw [IntWalk.i64_in _ (by omega)]; omega
      obtain ⟨b, off, hA, _, k1⟩ := (HSi.out.op.rdI).at_ hjn
      have HMEM : Hid (ix s.op j ∈ s.op) := Lib.hid (mem_ix.2 ⟨j, by omega, rfl⟩)
      obtain ⟨x, HXE⟩ : ∃ r, Hid (ix s.op j = r) := ⟨_, Lib.hid rfl⟩
      rw [HXE.out] at k1 HMEM
      subst hA
      obtain ⟨x0, x1, x2, x3, x4, x5, x6, x7⟩ := row8 HRi.out
      by_cases hp : ph = 2
      ·have hpb : (ph != 2) = false := by rw [bne_eq_false_iff_eq]; exact hp
       have HP2 : Hid (s.ph = 2) := Lib.hid (by rw [HPH.out]; exact hp)
       clear hp
       go_wp2_with fail
       go_roundw
       case rel => exact ⟨j + 1, by omega, by go_num, AL, nL, cL, lst, rfl, HBi, HLi, HMi, Lib.hid (by have := HLL.out; omega), Lib.hid (fun hl => ⟨(HNo.out hl).1, .inl HP2.out⟩)⟩
       case measure => simp [intOf]; omega
      ·have hpb : (ph != 2) = true := by rw [bne_iff_ne]; exact hp
       have HP2 : Hid (s.ph ≠ 2) := Lib.hid (by rw [HPH.out]; exact hp)
       have HAR := Lib.hid (HLi.out.alloc (.cells #[.int .i64 3, .int .i64 x, .slice none 0 0, .slice none 0 0, .slice none 0 0, .slice none 0 0] 33))
       have HAC : Hid ((wj.alloc (.cells #[.int .i64 3, .int .i64 x, .slice none 0 0, .slice none 0 0, .slice none 0 0, .slice none 0 0] 33)).heap[wj.heap.size]? = some (.cells (rcF (3, x)).toArray 33 (0, 0))) := Lib.hid (heap_new wj _)
       have HAB : Hid (Below wp2.heap.size wp2 (wj.alloc (.cells #[.int .i64 3, .int .i64 x, .slice none 0 0, .slice none 0 0, .slice none 0 0, .slice none 0 0] 33))) := Lib.hid (HBi.out.alloc HBi.out.size _)
       have HLN : Hid (lst.length + 1 ≤ 1000000000) := Lib.hid (by have := HLL.out; omega)
       clear hp
       go_wp2_with (at_builtin; refine wplF_oneR rfl (.tmp 101) (.tmp 104) rfl wp2.heap.size _ lst rfl HAR.out wj.heap.size 1 (3, x) rfl HAC.out HLN.out HAB.out.size ?_; intro A7 n7 c7 y7 hown hgr; (have HO7 := Lib.hid hown); (have HR7 := Lib.hid hgr); clear hown hgr)
       have HB7 : Hid (Below wp2.heap.size wp2 y7) := Lib.hid (HAB.out.grown HR7.out HAB.out.size HAR.out.ge)
       go_roundw
       case rel => exact ⟨j + 1, by omega, by go_num, A7, n7, c7, lst ++ [(3, x)], rfl, HB7, HO7, Lib.hid (fun y hy => by
        simp only [List.mem_append, List.mem_singleton] at hy
        rcases hy with hy | rfl
        ·exact HMi.out y hy
        ·exact .inr ⟨rfl, HMEM.out, HP2.out⟩), Lib.hid (by have := HLL.out; simp; omega), Lib.hid (fun hl => by simp at hl)⟩
       case measure => simp [intOf]; omega
     ·have hd2 : decide ((j : Int) < (n5 : Int)) = false := by simp; omega
      have HLLN : Hid (lst.length = nL) := Lib.hid (OwnF.cellsA (f := rcF) (z := 6) (fun _ => rfl) HLi.out).1
      have HBI : Hid (Below w.heap.size w wj) := Lib.hid (HBo.out.trans (HBi.out.mono HBo.out.size))
      have HHi : Hid (wj.heap[w.heap.size]? = some (.cells #[.slice AF nF cF, .slice AT nT cT, .slice AS nS cS, .slice AE nE cE] 29 (0, 0))) := Lib.hid ((HBi.out.block _ (heapE_lt HHo.out)).trans HHo.out)
      by_cases hn0 : nL = 0
      ·subst hn0
       have HBR : Hid ((∀ k, k < nS → mayB s (k : Int) = false) ∧ (s.ph = 2 ∨ s.op = [])) := Lib.hid (by
        have hl : lst = [] := List.eq_nil_of_length_eq_zero HLLN.out
        refine ⟨(HNo.out hl).1, ?_⟩
        rcases (HNo.out hl).2 with h | h
        ·exact .inl h
        ·exact .inr (List.eq_nil_of_length_eq_zero (by omega)))
       rcases HPo.out.1 with hp | hp | hp
       ·have hph : ph = 1 := by rw [← HPH.out]; exact hp
        subst hph
        have HMK := Lib.hid (marks_any (cF := c1) (cT := c2) (cS := c3) (cE := c4) (cO := c5) (cD := c6) (HSi.out.stw HIo.out) (Nat.le_refl _))
        rw [HMF.out hp] at HMK
        obtain ⟨x0, x1, x2, x3, x4, x5, x6, x7⟩ := row8 HRi.out
        go_wp2_with fail
        refine wp_loop_rounds 1 ?_
        rw [rounds_succ]
        go_wp2_with fail
        refine HMK.out.mono ?_
        rintro e wm ⟨rfl, hb⟩
        have HBm := Lib.hid (HBI.out.trans (hb.mono HBI.out.size))
        clear hb x0 x1 x2 x3 x4 x5 x6 x7 HMK
        go_wp2_with fail
        exact bodyPost_ret (results_tmp rfl _ _ _) rfl ⟨rfl, HBm.out⟩
       ·have hph : ph = 2 := by rw [← HPH.out]; exact hp
        subst hph
        go_upto_region 31 with fail
        go_wp2_with fail
        have HP2 := Lib.hid hp
        clear hp HPH HPo HMF HBR HBi HLi HMi HLL HNo HLLN HBo HHo HRo HSo h5 h6 h56 hj hjn hd2
        go_loopw [18, 19] (fun _ _ wq => ∃ num9 ph9 D1 k1 f1 D2 k2 f2 D3 k3 f3 D4 k4 f4 D5 k5 f5 D6 k6 f6, ∃ t : StV, Hid (Below w.heap.size w wq) ∧ Hid (wq.heap[w.heap.size]? = some (.cells #[.slice AF nF cF, .slice AT nT cT, .slice AS nS cS, .slice AE nE cE] 29 (0, 0))) ∧ Hid (wq.heap[sb]? = some (.cells #[.int .i64 num9, .int .i64 ph9, .slice D1 k1 f1, .slice D2 k2 f2, .slice D3 k3 f3, .slice D4 k4 f4, .slice D5 k5 f5, .slice D6 k6 f6] 31 (0, 0))) ∧ Hid (StO wq 0 num9 ph9 D1 k1 f1 D2 k2 f2 D3 k3 f3 D4 k4 f4 D5 k5 f5 D6 k6 f6 t) ∧ Hid (InvS t) ∧ Hid (t.ph = 2)) (fun _ _ wq => mstO wq sb)
        case atStart => exact ⟨num, 2, A1, n1, c1, A2, n2, c2, A3, n3, c3, A4, n4, c4, A5, n5, c5, A6, n6, c6, s, HBI, HHi, HRi, HSi, HIo, HP2⟩
        case round =>
         obtain ⟨wk, hwk⟩ : ∃ x, x = wr := ⟨_, rfl⟩
         subst hwk
         obtain ⟨num9, ph9, D1, k1, f1, D2, k2, f2, D3, k3, f3, D4, k4, f4, D5, k5, f5, D6, k6, f6, t, HBk, HHk, HRk, HSk, HIk, HPk⟩ := hrel
         clear HBI HHi HRi HSi HIo HP2
         have hph : ph9 = 2 := by rw [← HSk.out.ph]; exact HPk.out
         subst hph
         have hl := HSk.out.lens
         have h5 : t.op.length = k5 := hl.2.2.2.2.1
         have h6 : t.dn.length = k6 := hl.2.2.2.2.2
         have h36 := HIk.out.lenO
         clear hl
         have hsum : IntKind.i64.wrap ((k5 : Int) + (k6 : Int)) = ((k5 + k6 : Nat) : Int) := by rw [IntWalk.i64_in _ (by omega)]; omega
         have HMS : Hid (mstO wk sb = k5 + k6) := Lib.hid (by unfold mstO; rw [HRk.out]; rfl)
         by_cases h0 : 0 < k5 + k6
         ·have hpos : decide (0 < ((k5 + k6 : Nat) : Int)) = true := decide_eq_true (by omega)
          have hpos2 : (0 : Int) < ((k5 + k6 : Nat) : Int) := by omega
          obtain ⟨x, hx⟩ := topO_some HPk.out (by omega : 0 < t.op.length + t.dn.length)
          have HT := Lib.hid (t_undo HIk.out hx)
          have HI2 := Lib.hid (HIk.out.take HT.out.1)
          have HCT := Lib.hid (top_any (cF := f1) (cT := f2) (cS := f3) (cE := f4) (cO := f5) (cD := f6) (HSk.out.stw HIk.out) (Nat.le_refl _))
          rw [hx] at HCT
          obtain ⟨N, HN⟩ : ∃ r, Hid (k5 + k6 = r) := ⟨_, Lib.hid rfl⟩
          rw [HN.out] at hsum hpos hpos2 HMS h0
          have h56 : t.op.length + t.dn.length = N := by rw [h5, h6]; exact HN.out
          obtain ⟨x0, x1, x2, x3, x4, x5, x6, x7⟩ := row8 HRk.out
          go_wp2_with fail
          refine HCT.out.mono ?_
          rintro e w1 ⟨rfl, hb⟩
          have HB1 := Lib.hid (HBk.out.trans (hb.mono HBk.out.size))
          have HH1 : Hid (w1.heap[w.heap.size]? = some (.cells #[.slice AF nF cF, .slice AT nT cT, .slice AS nS cS, .slice AE nE cE] 29 (0, 0))) := Lib.hid ((hb.block _ (heapE_lt HHk.out)).trans HHk.out)
          have HR1 : Hid (w1.heap[sb]? = some (.cells #[.int .i64 num9, .int .i64 2, .slice D1 k1 f1, .slice D2 k2 f2, .slice D3 k3 f3, .slice D4 k4 f4, .slice D5 k5 f5, .slice D6 k6 f6] 31 (0, 0))) := Lib.hid ((hb.block _ (heapE_lt HRk.out)).trans HRk.out)
          have HS1 := Lib.hid (HSk.out.kept hb)
          clear hb x0 x1 x2 x3 x4 x5 x6 x7 HCT hx
          have HCL := Lib.hid (take1_any (w := w1) (B := 0) (sb := sb) (dF := 0) (dT := 0) (dS := 0) (dE := 0) HR1.out HS1.out HIk.out (RcW.of (r := ⟨6, x, pl0⟩) plr_nil rfl rfl rfl) (Nat.zero_le _) HT.out.1)
          go_wp2_with fail
          refine HCL.out.mono ?_
          rintro e w2 ⟨rfl, hgr, num2, ph2, B1, m1, d1, B2, m2, d2, B3, m3, d3, B4, m4, d4, B5, m5, d5, B6, m6, d6, hrow, hst⟩
          have HG2 := Lib.hid hgr
          have HB2 : Hid (Below w.heap.size w w2) := Lib.hid (HB1.out.grown hgr HB1.out.size (fun z hz => by injection hz with hz; have := HSBG.out; omega))
          have HH2 : Hid (w2.heap[w.heap.size]? = some (.cells #[.slice AF nF cF, .slice AT nT cT, .slice AS nS cS, .slice AE nE cE] 29 (0, 0))) := Lib.hid ((hgr.block _ (heapE_lt HH1.out) (fun e => by injection e with e; have := HSBG.out; omega)).trans HH1.out)
          have HR2 := Lib.hid hrow
          have HS2 := Lib.hid hst
          clear hgr hrow hst
          have HMS2 : Hid (mstO w2 sb < N) := Lib.hid (by
           unfold mstO
           rw [HR2.out]
           show m5 + m6 < N
           have hl := HS2.out.lens
           have h := HT.out.2.2.2
           omega)
          go_wp2_with fail
          go_roundw
          case rel => exact ⟨num2, ph2, B1, m1, d1, B2, m2, d2, B3, m3, d3, B4, m4, d4, B5, m5, d5, B6, m6, d6, takeS t ⟨6, x, pl0⟩, HB2, HH2, HR2, HS2, HI2, Lib.hid HT.out.2.1⟩
          case measure => rw [HMS.out]; exact HMS2.out
         ·obtain rfl : k5 = 0 := by omega
          obtain rfl : k6 = 0 := by omega
          have HEN : Hid (endsB t = true) := Lib.hid (by unfold endsB; rw [HPk.out, h5, h6]; rfl)
          have HT := Lib.hid (t_end HEN.out (.inl HPk.out))
          have HQ : Hid ((takeS t ⟨8, 0, pl0⟩).ph = 5) := Lib.hid (by rw [HT.out.2, if_pos HPk.out])
          clear hsum
          have hsum : IntKind.i64.wrap (0 : Int) = 0 := rfl
          have HCE := Lib.hid (take1_any (w := wk) (B := 0) (sb := sb) (dF := 0) (dT := 0) (dS := 0) (dE := 0) HRk.out HSk.out HIk.out (RcW.of (r := ⟨8, 0, pl0⟩) plr_nil rfl rfl rfl) (Nat.zero_le _) HT.out.1)
          obtain ⟨x0, x1, x2, x3, x4, x5, x6, x7⟩ := row8 HRk.out
          go_wp2_with fail
          refine HCE.out.mono ?_
          rintro e w9 ⟨rfl, hgr, num2, ph2, B1, m1, d1, B2, m2, d2, B3, m3, d3, B4, m4, d4, B5, m5, d5, B6, m6, d6, hrow, hst⟩
          have HB9 : Hid (Below w.heap.size w w9) := Lib.hid (HBk.out.grown hgr HBk.out.size (fun z hz => by injection hz with hz; have := HSBG.out; omega))
          have HR9 := Lib.hid hrow
          have HP9 := hst.ph
          clear hgr hrow hst x0 x1 x2 x3 x4 x5 x6 x7 HCE
          rw [HQ.out] at HP9
          subst HP9
          obtain ⟨x0, x1, x2, x3, x4, x5, x6, x7⟩ := row8 HR9.out
          go_wp2_with fail
          exact bodyPost_ret (results_tmp rfl _ _ _) rfl ⟨rfl, HB9.out⟩
       ·have hph : ph = 3 := by rw [← HPH.out]; exact hp
        subst hph
        have hnS : s.pl.S.length = nS := HPo.out.2.1
        by_cases hdn : n6 < nS
        ·have hdb : decide ((n6 : Int) < (nS : Int)) = true := by simp; omega
         have HEN := Lib.hid (ends_any (cF := c1) (cT := c2) (cS := c3) (cE := c4) (cO := c5) (cD := c6) (HSi.out.stw HIo.out) (Nat.le_refl _))
         rw [show endsB s = false by unfold endsB; rw [hp, if_pos rfl]; exact decide_eq_false (by omega)] at HEN
         obtain ⟨p0, p1, p2, p3⟩ := row4 HHi.out
         obtain ⟨x0, x1, x2, x3, x4, x5, x6, x7⟩ := row8 HRi.out
         go_wp2_with fail
         refine wp_loop_rounds 1 ?_
         rw [rounds_succ]
         go_wp2_with fail
         refine HEN.out.mono ?_
         rintro e wm ⟨rfl, hb⟩
         have HBm := Lib.hid (HBI.out.trans (hb.mono HBI.out.size))
         clear hb x0 x1 x2 x3 x4 x5 x6 x7 HEN p0 p1 p2 p3
         go_wp2_with fail
         exact bodyPost_ret (results_tmp rfl _ _ _) rfl ⟨rfl, HBm.out⟩
        ·have hdb : decide ((n6 : Int) < (nS : Int)) = false := by simp; omega
         have HEN : Hid (endsB s = true) := Lib.hid (by unfold endsB; rw [hp, if_pos rfl]; exact decide_eq_true (by omega))
         have HT := Lib.hid (t_end HEN.out (.inr hp))
         have HQ : Hid ((takeS s ⟨8, 0, pl0⟩).ph = 4) := Lib.hid (by rw [HT.out.2, if_neg (by rw [hp]; decide)])
         obtain ⟨p0, p1, p2, p3⟩ := row4 HHi.out
         have HCE := Lib.hid (take1_any (w := wj) (B := 0) (sb := sb) (dF := 0) (dT := 0) (dS := 0) (dE := 0) HRi.out HSi.out HIo.out (RcW.of (r := ⟨8, 0, pl0⟩) plr_nil rfl rfl rfl) (Nat.zero_le _) HT.out.1)
         obtain ⟨x0, x1, x2, x3, x4, x5, x6, x7⟩ := row8 HRi.out
         go_wp2_with fail
         refine wp_loop_rounds 1 ?_
         rw [rounds_succ]
         go_wp2_with fail
         refine HCE.out.mono ?_
         rintro e w9 ⟨rfl, hgr, num2, ph2, B1, m1, d1, B2, m2, d2, B3, m3, d3, B4, m4, d4, B5, m5, d5, B6, m6, d6, hrow, hst⟩
         have HB9 : Hid (Below w.heap.size w w9) := Lib.hid (HBI.out.grown hgr HBI.out.size (fun z hz => by injection hz with hz; have := HSBG.out; omega))
         have HR9 := Lib.hid hrow
         have HP9 := hst.ph
         clear hgr hrow hst x0 x1 x2 x3 x4 x5 x6 x7 HCE p0 p1 p2 p3
         rw [HQ.out] at HP9
         subst HP9
         obtain ⟨x0, x1, x2, x3, x4, x5, x6, x7⟩ := row8 HR9.out
         go_wp2_with fail
         exact bodyPost_ret (results_tmp rfl _ _ _) rfl ⟨rfl, HB9.out⟩
      have hnL : 0 < nL := by omega
      have hnb0 : ((nL : Int) == 0) = false := by rw [beq_eq_false_iff_ne]; omega
      have hnL200 : nL ≤ 200 := by have := HLL.out; have := HLLN.out; omega
      have hnLne : (nL : Int) ≠ 0 := by omega
      go_upto_if 113 with fail
      go_cut [17] (fun v17 w' => ∃ rm : Int, v17 = .int .i64 rm ∧ w' = wj ∧ Hid (-(nL : Int) < rm ∧ rm < (nL : Int)))
      case first =>
       by_cases hqn : q < nP
       ·have hqb : decide ((q : Int) < (nP : Int)) = true := by simp; omega
        have hqi : (q : Int) < (nP : Int) := by omega
        obtain ⟨b, off, hA, _, k1⟩ := (HPS.out.below HBI.out).at_ hqn
        subst hA
        obtain ⟨pk, HPKE⟩ : ∃ r, Hid (ix ps q = r) := ⟨_, Lib.hid rfl⟩
        rw [HPKE.out] at k1
        obtain ⟨rm, hrm⟩ : ∃ r : Int, Int.tmod pk (nL : Int) = r := ⟨_, rfl⟩
        have HRL : Hid (-(nL : Int) < rm ∧ rm < (nL : Int)) := Lib.hid (by
         rw [← hrm]
         exact ⟨Int.lt_tmod_of_pos _ (by omega), Int.tmod_lt_of_pos _ (by omega)⟩)
        go_wp2_with fail
        go_meet
        exact ⟨rm, rfl, rfl, HRL⟩
       ·have hqb : decide ((q : Int) < (nP : Int)) = false := by simp; omega
        go_wp2_with fail
        go_meet
        exact ⟨0, rfl, rfl, Lib.hid (by omega)⟩
      case rest =>
      obtain ⟨rm, rfl, hwc, HRL⟩ := hcut
      subst hwc
      have hrl := HRL.out
      have hwneg : IntKind.i64.wrap (-rm) = -rm := IntWalk.i64_in _ (by omega)
      obtain ⟨ai, hai⟩ : ∃ q : Nat, (q : Int) = max rm (-rm) ∧ q < nL := ⟨rm.natAbs, by omega, by omega⟩
      obtain ⟨bL, hAL, _, r0, r1, r2, r3, r4, r5⟩ := HLi.out.cellR hai.2
      have HOK : Hid (OkR s (pAt lst ai)) := Lib.hid (HMi.out _ (pAt_mem (by rw [HLLN.out]; exact hai.2)))
      obtain ⟨⟨rk, rx⟩, HRX⟩ : ∃ r, Hid (pAt lst ai = r) := ⟨_, Lib.hid rfl⟩
      rw [HRX.out] at r0 r1 HOK
      have r0' : wc.cell? ⟨bL, ai * 6, none⟩ = some (.int .i64 rk) := r0
      have r1' : wc.cell? ⟨bL, ai * 6 + 1, none⟩ = some (.int .i64 rx) := r1
      clear r0 r1
      subst hAL
      have hain : (ai : Int) < (nL : Int) := by omega
      have HT := Lib.hid (t_step HIo.out HPo.out.1 HOK.out)
      have HI2 := Lib.hid (HIo.out.take HT.out.1)
      have HCL := Lib.hid (take1_any (w := wc) (B := 0) (sb := sb) (dF := 0) (dT := 0) (dS := 0) (dE := 0) HRi.out HSi.out HIo.out (RcW.of (r := ⟨rk, rx, pl0⟩) plr_nil rfl rfl rfl) (Nat.zero_le _) HT.out.1)
      obtain ⟨s2, HS2E⟩ : ∃ r, Hid (takeS s ⟨rk, rx, pl0⟩ = r) := ⟨_, Lib.hid rfl⟩
      have HF : Hid (Ph3 s2 ∧ s2.pl.S.length = nS ∧ measS s2 = q + 1) := Lib.hid (by
       have e := HS2E.out
       have h := HT.out
       have e2 : takeS s ⟨(rk, rx).1, (rk, rx).2, pl0⟩ = s2 := e
       rw [e2] at h
       refine ⟨?_, by rw [h.2.2.1]; exact HPo.out.2.1, by rw [h.2.2.2, HPo.out.2.2]⟩
       unfold Ph3; rw [h.2.1]; exact HPo.out.1)
      have HI3 : Hid (InvS s2) := Lib.hid (by
       have e2 : takeS s ⟨(rk, rx).1, (rk, rx).2, pl0⟩ = s2 := HS2E.out
       rw [← e2]; exact HI2.out)
      have HQ2 : Hid (q + 1 ≤ 2 * nS) := Lib.hid (by
       have := HI3.out.both
       have h2 := HF.out.2
       unfold measS at h2
       omega)
      rw [HS2E.out] at HCL
      have hm2 := HQ2.out
      rcases Int.lt_or_le 0 rm with hgt | hlt
      rotate_left
      ·have hwn : IntKind.i64.wrap (-rm) = (ai : Int) := by rw [hwneg]; omega
       have t5 : max rm (ai : Int) = (ai : Int) := by omega
       clear hwneg hlt hai hrl HRL
       go_wp2_with fail
       refine HCL.out.mono ?_
       rintro e w1 ⟨rfl, hgr, num2, ph2, B1, m1, d1, B2, m2, d2, B3, m3, d3, B4, m4, d4, B5, m5, d5, B6, m6, d6, hrow, hst⟩
       have HG9 := Lib.hid hgr
       have HB9 : Hid (Below w.heap.size w w1) := Lib.hid (HBI.out.grown hgr HBI.out.size (fun z hz => by injection hz with hz; have := HSBG.out; omega))
       have HH9 : Hid (w1.heap[w.heap.size]? = some (.cells #[.slice AF nF cF, .slice AT nT cT, .slice AS nS cS, .slice AE nE cE] 29 (0, 0))) := Lib.hid ((hgr.block _ (heapE_lt HHi.out) (fun e => by injection e with e; have := HSBG.out; omega)).trans HHi.out)
       have HR9 := Lib.hid hrow
       have HS9 := Lib.hid hst
       clear hgr hrow hst
       go_wp2_with fail
       go_roundw
       case rel => exact ⟨q + 1, by go_num, hm2, num2, ph2, B1, m1, d1, B2, m2, d2, B3, m3, d3, B4, m4, d4, B5, m5, d5, B6, m6, d6, s2, HB9, HH9, HR9, HS9, HI3, HF⟩
       case measure => simp [intOf]; omega
      ·obtain rfl : rm = (ai : Int) := by omega
       obtain ⟨ng, hng⟩ : ∃ q : Int, -(ai : Int) = q := ⟨_, rfl⟩
       rw [hng] at hwneg
       have hwn : IntKind.i64.wrap (-(ai : Int)) = ng := by rw [hng]; exact hwneg
       have t5 : max (ai : Int) ng = (ai : Int) := by omega
       clear hgt hai hrl hwneg hng HRL
       go_wp2_with fail
       refine HCL.out.mono ?_
       rintro e w1 ⟨rfl, hgr, num2, ph2, B1, m1, d1, B2, m2, d2, B3, m3, d3, B4, m4, d4, B5, m5, d5, B6, m6, d6, hrow, hst⟩
       have HG9 := Lib.hid hgr
       have HB9 : Hid (Below w.heap.size w w1) := Lib.hid (HBI.out.grown hgr HBI.out.size (fun z hz => by injection hz with hz; have := HSBG.out; omega))
       have HH9 : Hid (w1.heap[w.heap.size]? = some (.cells #[.slice AF nF cF, .slice AT nT cT, .slice AS nS cS, .slice AE nE cE] 29 (0, 0))) := Lib.hid ((hgr.block _ (heapE_lt HHi.out) (fun e => by injection e with e; have := HSBG.out; omega)).trans HHi.out)
       have HR9 := Lib.hid hrow
       have HS9 := Lib.hid hst
       clear hgr hrow hst
       go_wp2_with fail
       go_roundw
       case rel => exact ⟨q + 1, by go_num, hm2, num2, ph2, B1, m1, d1, B2, m2, d2, B3, m3, d3, B4, m4, d4, B5, m5, d5, B6, m6, d6, s2, HB9, HH9, HR9, HS9, HI3, HF⟩
       case measure => simp [intOf]; omega
end Go.Proofs.Ytolgmoaoheflcaa.Sa
