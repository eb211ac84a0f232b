/-
  MERGED: VQp VQm VQt.
-/
import Derived.Test.YtlodledcglleiaaGreatVCk
import Derived.Test.YtlodledcglleiaaGreatCQm
namespace Go.Proofs.YtlodledcglleiaaGreat
open Go.RowKit
open SemP DiP FlP GaP SeaP
set_option linter.unusedVariables false
set_option linter.unusedSimpArgs false
set_option maxRecDepth 10000
theorem isR_at {l : List Sv} {k : Nat} {v : Int} (hk : k < l.length) : isR l (k : Int) v = (decide (0 ≤ v) && decide (v < ((svAt l k).2.length : Int))) := by
  unfold isR isS
  rw [decide_eq_true (show (0 : Int) ≤ (k : Int) by omega), decide_eq_true (show (k : Int) < (l.length : Int) by omega), Int.toNat_natCast]; rfl
set_option maxHeartbeats 8000000 in
theorem relQ_any {w : World} {B B2 n c m c2 : Nat} {A A2 : Option Addr} {l : List Sv} {vs : List Int} (h : CatAt w B A n c l) (hv : Rd w B2 A2 m vs) (hB2 : B2 ≤ w.heap.size) (hm : m ≤ 1000000) :
    Calls Tryz.prog 40 #[.agg #[.slice A n c], .slice A2 m c2] w fun e w' => e = .returned (.bool (setB l vs)) ∧ Below w.heap.size w w' := by
  obtain ⟨W, HW⟩ : ∃ W, Hid (W = w.alloc (.cells #[.slice A n c] 28)) := ⟨_, Lib.hid rfl⟩
  have hbl : Below w.heap.size w W := by rw [HW.out]; exact (Below.refl _ w).alloc (Nat.le_refl _) _
  have HBL := Lib.hid hbl
  have H0 : Hid (W.heap[w.heap.size]? = some (.cells #[.slice A n c] 28 (0, 0))) := Lib.hid (by rw [HW.out]; exact heap_new w _)
  have HA := Lib.hid (h.below hbl)
  have HV := Lib.hid (hv.below (hbl.mono hB2))
  have HNL : Hid (l.length = n) := Lib.hid h.rd.1
  have HVL : Hid (vs.length = m) := Lib.hid hv.len
  have HBB : Hid (B2 ≤ W.heap.size) := Lib.hid (Nat.le_trans hB2 hbl.size)
  have hn16 := h.n16
  clear h hv hbl
  obtain ⟨x0, _⟩ := row1f H0.out
  go_enter Tryz.func40, Tryz.ntmps40
  go_upto_region 1 with fail
  change Code.wp _ _ _ _ (w.alloc (.cells #[.slice A n c] 28))
  rw [← HW.out]
  by_cases hmn : m = n
  rotate_left
  · have hne : ((m : Int) != (n : Int)) = true := by rw [bne_iff_ne]; omega
    have HF : Hid (setB l vs = false) := Lib.hid (by
      unfold setB; rw [decide_eq_false (by rw [HVL.out, HNL.out]; exact hmn), Bool.false_and])
    go_wp2_with fail
    refine bodyPost_ret (results_tmp rfl _ _ _) rfl ⟨?_, HBL.out⟩
    exact congrArg (fun b => Ending.returned (.bool b)) HF.out.symm
  subst hmn
  go_wp2_with fail
  clear x0
  go_loopw [5] (fun v wr => ∃ k : Nat, k ≤ m ∧ v = .int .i64 (k : Int) ∧ Hid (Below W.heap.size W wr) ∧ Hid (∀ i, i < k → isR l (i : Int) (ix vs i) = true)) (fun v _ => m - (intOf v).toNat)
  case atStart => exact ⟨0, Nat.zero_le _, rfl, Lib.hid (Below.refl _ _), Lib.hid (fun i h => absurd h (by omega))⟩
  case round =>
    obtain ⟨wo, hwo⟩ : ∃ x, x = wr := ⟨_, rfl⟩
    subst hwo
    obtain ⟨k, hk, rfl, HBo, HOK⟩ := hrel
    have HWo : Hid (Below w.heap.size w wo) := Lib.hid (HBL.out.trans (HBo.out.mono HBL.out.size))
    have Ko : Hid (wo.heap[w.heap.size]? = _) := Lib.hid ((HBo.out.block w.heap.size (heapE_lt H0.out)).trans H0.out)
    by_cases hkn : k < m
    · have hd : decide ((k : Int) < (m : Int)) = true := by simp; omega
      have hki : (k : Int) < (m : Int) := by omega
      have hk0 : (0 : Int) ≤ (k : Int) := by omega
      have hadd : IntKind.i64.wrap ((k : Int) + 1) = ((k + 1 : Nat) : Int) := by rw [IntWalk.i64_in _ (by omega)]; omega
      have HAo := Lib.hid (HA.out.below HBo.out)
      obtain ⟨bv, ov, hAv, hbv, kv⟩ := (HV.out.below (HBo.out.mono HBB.out)).at_ hkn
      obtain ⟨b1, o1, Aj, nj, cj, hAA, hb1, _, k1, _, hrj⟩ := sv_at HAo.out.rd (i := k) hkn
      subst hAv hAA
      have HNJ : Hid ((svAt l k).2.length = nj) := Lib.hid hrj.1
      have HRK := Lib.hid (isR_at (l := l) (k := k) (v := ix vs k) (by rw [HNL.out]; exact hkn))
      obtain ⟨v, HVV⟩ : ∃ v, Hid (ix vs k = v) := ⟨_, Lib.hid rfl⟩
      rw [HVV.out] at kv
      obtain ⟨x0, _⟩ := row1f Ko.out
      clear hrj
      by_cases hv0 : v < 0
      · have d1 : decide (v < 0) = true := decide_eq_true hv0
        have HF : Hid (setB l vs = false) := Lib.hid (by
          have h1 : (List.range vs.length).all (fun i => isR l (i : Int) (ix vs i)) = false := by
            rw [List.all_eq_false]
            exact ⟨k, List.mem_range.2 (by rw [HVL.out]; exact hkn), by rw [HRK.out, HVV.out, decide_eq_false (by omega)]; simp⟩
          unfold setB; rw [h1, Bool.and_false])
        go_wp2_with fail
        go_quiet (fail)
        go_wp2_with fail
        refine bodyPost_ret (results_tmp rfl _ _ _) rfl ⟨?_, by first | exact HWo.out | exact Below.drewN' HWo.out _⟩
        exact congrArg (fun b => Ending.returned (.bool b)) HF.out.symm
      have d1 : decide (v < 0) = false := decide_eq_false hv0
      by_cases hvn : (nj : Int) ≤ v
      · have d2 : decide ((nj : Int) ≤ v) = true := decide_eq_true hvn
        have HF : Hid (setB l vs = false) := Lib.hid (by
          have h1 : (List.range vs.length).all (fun i => isR l (i : Int) (ix vs i)) = false := by
            rw [List.all_eq_false]
            exact ⟨k, List.mem_range.2 (by rw [HVL.out]; exact hkn), by rw [HRK.out, HVV.out, HNJ.out, decide_eq_false (show ¬ v < (nj : Int) by omega)]; simp⟩
          unfold setB; rw [h1, Bool.and_false])
        go_wp2_with fail
        go_quiet (fail)
        go_wp2_with fail
        refine bodyPost_ret (results_tmp rfl _ _ _) rfl ⟨?_, by first | exact HWo.out | exact Below.drewN' HWo.out _⟩
        exact congrArg (fun b => Ending.returned (.bool b)) HF.out.symm
      have d2 : decide ((nj : Int) ≤ v) = false := decide_eq_false hvn
      have HQ : Hid (isR l (k : Int) (ix vs k) = true) := Lib.hid (by rw [HRK.out, HVV.out, HNJ.out, decide_eq_true (show 0 ≤ v by omega), decide_eq_true (show v < (nj : Int) by omega)]; rfl)
      go_wp2_with fail
      go_quiet (fail)
      go_wp2_with fail
      go_roundw
      case rel => exact ⟨k + 1, by omega, by go_num, Lib.hid (by first | exact HBo.out | exact Below.drewN' HBo.out _), Lib.hid (fun i hi => by
        by_cases e : i = k
        · subst e; exact HQ.out
        · exact HOK.out i (by omega))⟩
      case measure => simp [intOf]; omega
    · have hd : decide ((k : Int) < (m : Int)) = false := by simp; omega
      have HF : Hid (setB l vs = true) := Lib.hid (setB_iff.2 ⟨by rw [HVL.out, HNL.out], fun i hi => HOK.out i (by have := HVL.out; omega)⟩)
      go_wp2_with fail
      refine bodyPost_ret (results_tmp rfl _ _ _) rfl ⟨?_, HWo.out⟩
      exact congrArg (fun b => Ending.returned (.bool b)) HF.out.symm
set_option maxHeartbeats 8000000 in
theorem pinQ_any {w : World} {B B3 n c np cp nm cm i vv : Nat} {A Aq Am : Option Addr} {l : List Sv} {ps : List Nd} {ms : List Int} (h : CatAt w B A n c l) (hq : ReqAt w B3 Aq np Am nm ps ms) (hi : i < n) (hv : vv < (svAt l i).2.length) :
    Calls Tryz.prog 70 #[.agg #[.slice A n c], .agg #[.slice Aq np cp, .slice Am nm cm], .int .i64 (i : Int), .int .i64 (vv : Int)] w fun e w' => e = .returned (.bool (pinR l ps i vv)) ∧ Below w.heap.size w w' := by
  obtain ⟨W, HW⟩ : ∃ W, Hid (W = (w.alloc (.cells #[.slice A n c] 28)).alloc (.cells #[.slice Aq np cp, .slice Am nm cm] 49)) := ⟨_, Lib.hid rfl⟩
  have hbl : Below w.heap.size w W := by rw [HW.out]; exact ((Below.refl _ w).alloc (Nat.le_refl _) _).alloc (by simp) _
  have HBL := Lib.hid hbl
  have H0 : Hid (W.heap[w.heap.size]? = some (.cells #[.slice A n c] 28 (0, 0))) := Lib.hid (by
    rw [HW.out, Below.heap_alloc _ _ _ (by simp)]; exact heap_new w _)
  have H1 : Hid (W.heap[w.heap.size + 1]? = some (.cells #[.slice Aq np cp, .slice Am nm cm] 49 (0, 0))) := Lib.hid (by
    rw [HW.out]
    have h := heap_new (w.alloc (.cells #[.slice A n c] 28)) (.cells #[.slice Aq np cp, .slice Am nm cm] 49)
    rw [World.size_alloc] at h; exact h)
  have HQ := Lib.hid (hq.below hbl)
  have HA := Lib.hid (h.below hbl)
  have HPL : Hid (ps.length = np) := Lib.hid hq.pd.1
  have HNL : Hid (l.length = n) := Lib.hid h.rd.1
  have HSV := Lib.hid (h.sm.2 _ (svAt_mem (i := i) (by rw [HNL.out]; exact hi)))
  have HVL := Lib.hid hv
  have hnp := hq.np
  have hn16 := h.n16
  clear h hq hbl hv
  obtain ⟨x0, _⟩ := row1f H0.out
  obtain ⟨y0, y1, _⟩ := row2 H1.out
  go_enter Tryz.func70, Tryz.ntmps70
  go_upto_region 1 with fail
  change Code.wp _ _ _ _ ((w.alloc (.cells #[.slice A n c] 28)).alloc (.cells #[.slice Aq np cp, .slice Am nm cm] 49))
  rw [← HW.out]
  go_wp2_with fail
  clear x0 y0 y1
  go_loopw [9] (fun v wr => ∃ j : Nat, j ≤ np ∧ v = .int .i64 (j : Int) ∧ Hid (Below W.heap.size W wr) ∧ Hid (∀ q, q < j → pinP l i vv (pnAt ps q) = true)) (fun v _ => np - (intOf v).toNat)
  case atStart => exact ⟨0, Nat.zero_le _, rfl, Lib.hid (Below.refl _ _), Lib.hid (fun i h => absurd h (by omega))⟩
  case round =>
    obtain ⟨wo, hwo⟩ : ∃ x, x = wr := ⟨_, rfl⟩
    subst hwo
    obtain ⟨j, hj, rfl, HBo, HPK⟩ := hrel
    have hzo := HBo.out.size
    have HWo : Hid (Below w.heap.size w wo) := Lib.hid (HBL.out.trans (HBo.out.mono HBL.out.size))
    have Ko0 : Hid (wo.heap[w.heap.size]? = _) := Lib.hid ((HBo.out.block w.heap.size (heapE_lt H0.out)).trans H0.out)
    have Ko1 : Hid (wo.heap[w.heap.size + 1]? = _) := Lib.hid ((HBo.out.block (w.heap.size + 1) (heapE_lt H1.out)).trans H1.out)
    obtain ⟨y0, _, _⟩ := row2 Ko1.out
    by_cases hjn : j < np
    · have hd2 : decide ((j : Int) < (np : Int)) = true := by simp; omega
      have hji : (j : Int) < (np : Int) := by omega
      have hj0 : (0 : Int) ≤ (j : Int) := by omega
      have hadd2 : IntKind.i64.wrap ((j : Int) + 1) = ((j + 1 : Nat) : Int) := by rw [IntWalk.i64_in _ (by omega)]; omega
      have HQo := Lib.hid (HQ.out.below HBo.out)
      have HAo := Lib.hid (HA.out.below HBo.out)
      have HJL : Hid (j < ps.length) := Lib.hid (by rw [HPL.out]; exact hjn)
      obtain ⟨b4, o4, A5, n5, c5, hA4, hb4, p0, p1, hcap5, hr5⟩ := nd_at HQo.out.pd hjn
      subst hA4
      obtain ⟨pj, HPJ⟩ : ∃ pj, Hid ((pnAt ps j).1 = pj) := ⟨_, Lib.hid rfl⟩
      rw [HPJ.out] at p0
      have hb4w : b4 < wo.heap.size := by have := HQo.out.le; omega
      have HSR := Lib.hid (HQo.out.sm _ (pnAt_mem HJL.out))
      have HR5 := Lib.hid hr5
      clear hr5
      by_cases hpi : pj = (i : Int)
      · subst hpi
        have h3 : ((i : Int) == (i : Int)) = true := by simp
        have hii : (i : Int) < (n : Int) := by omega
        have hi0 : (0 : Int) ≤ (i : Int) := by omega
        have hv0 : (0 : Int) ≤ (vv : Int) := by omega
        obtain ⟨b1, o1, Ai, ni, ci, hA1, hb1, _, k1, _, hri⟩ := sv_at HAo.out.rd hi
        subst hA1
        have hvi : vv < ni := by rw [← hri.1]; exact HVL.out
        have hvI : (vv : Int) < (ni : Int) := by omega
        obtain ⟨b2, o2, A3, n3, c3, hA3, hb2, q0, q1, q2, q3, _, _, _, _⟩ := rl_at hri hvi
        subst hA3
        have hsx := HSV.out.2.2 _ (rlAt_mem HVL.out)
        obtain ⟨y, HY⟩ : ∃ y, Hid (rlAt (svAt l i).2 vv = y) := ⟨_, Lib.hid rfl⟩
        rw [HY.out] at q0 q1 q2 q3 hsx
        obtain ⟨⟨va, vb, vc, vs⟩, lv, nd2⟩ := y
        simp only at q0 q1 q2 q3
        have HVS : Hid (vs.size ≤ 100) := Lib.hid hsx.2.1
        have hb1w : b1 < wo.heap.size := by have := HAo.out.le; omega
        have hb2w : b2 < wo.heap.size := by have := HAo.out.le; omega
        have HP : Hid (pinP l i vv (pnAt ps j) = hasR (pnAt ps j).2 ⟨va, vb, vc, bs vs⟩) := Lib.hid (by
          unfold pinP
          rw [HPJ.out, HY.out, decide_eq_true rfl]; rfl)
        have hrd : RdR (wo.drewN 1) B3 A5 n5 (pnAt ps j).2 := HR5.out
        have HI := Lib.hid (RefHas_any A5 n5 c5 (pnAt ps j).2 va vb vc vs (wo.drewN 1) B3 hrd HQo.out.le HSR.out.small (by have := HVS.out; omega))
        obtain ⟨u0, _⟩ := row1f Ko0.out
        clear hri hsx hrd
        go_wp2_with fail
        go_region_held3 (fun W' => W'.cell? ⟨w.heap.size + 1, 0, none⟩ = some (.slice (some ⟨b4, o4, none⟩) np cp) ∧ W'.cell? ⟨b4, o4 + j * 2, none⟩ = some (.int .i64 (i : Int)) ∧ W'.cell? ⟨b4, o4 + j * 2 + 1, none⟩ = some (.slice A5 n5 c5) ∧ W'.cell? ⟨w.heap.size, 0, none⟩ = some (.slice (some ⟨b1, o1, none⟩) n c) ∧ W'.cell? ⟨b1, o1 + i * 2 + 1, none⟩ = some (.slice (some ⟨b2, o2, none⟩) ni ci) ∧ W'.cell? ⟨b2, o2 + vv * 6, none⟩ = some (.int .i64 va) ∧ W'.cell? ⟨b2, o2 + vv * 6 + 1, none⟩ = some (.int .i64 vb) ∧ W'.cell? ⟨b2, o2 + vv * 6 + 2, none⟩ = some (.int .i64 vc) ∧ W'.cell? ⟨b2, o2 + vv * 6 + 3, none⟩ = some (.string vs)) ((first | exact ⟨y0, p0, p1, u0, k1, q0, q1, q2, q3⟩ | exact ⟨z0, z1, z2, z3, z4, z5, z6, z7, z8⟩ | go_keep)) (first
          | (go_at_call 94; refine HI.out.mono ?_; rintro e w1 ⟨rfl, hb'⟩; (have hb : Below wo.heap.size wo w1 := (Below.drewN' (Below.refl _ wo) 1).trans hb'); (have z0 := (hb.cell (p := ⟨w.heap.size + 1, 0, none⟩) (heapE_lt Ko1.out)).trans y0); (have z1 := (hb.cell (p := ⟨b4, o4 + j * 2, none⟩) hb4w).trans p0); (have z2 := (hb.cell (p := ⟨b4, o4 + j * 2 + 1, none⟩) hb4w).trans p1); (have z3 := (hb.cell (p := ⟨w.heap.size, 0, none⟩) (heapE_lt Ko0.out)).trans u0); (have z4 := (hb.cell (p := ⟨b1, o1 + i * 2 + 1, none⟩) hb1w).trans k1); (have z5 := (hb.cell (p := ⟨b2, o2 + vv * 6, none⟩) hb2w).trans q0); (have z6 := (hb.cell (p := ⟨b2, o2 + vv * 6 + 1, none⟩) hb2w).trans q1); (have z7 := (hb.cell (p := ⟨b2, o2 + vv * 6 + 2, none⟩) hb2w).trans q2); (have z8 := (hb.cell (p := ⟨b2, o2 + vv * 6 + 3, none⟩) hb2w).trans q3); (have HBW := Lib.hid hb); clear hb hb'))
        have HB1 : Hid (Below w.heap.size w w1 ∧ Below W.heap.size W w1) := Lib.hid ⟨HWo.out.trans (HBW.out.mono HWo.out.size), HBo.out.trans (HBW.out.mono HBo.out.size)⟩
        clear z0 z1 z2 z3 z4 z5 z6 z7 z8 y0 p0 p1 u0 k1 q0 q1 q2 q3 HBW HI
        cases hq : hasR (pnAt ps j).2 ⟨va, vb, vc, bs vs⟩ with
        | false =>
          have HF : Hid (pinR l ps i vv = false) := Lib.hid (all_no HJL.out (by rw [← hq]; exact HP.out))
          clear hq
          go_wp2_with fail
          refine bodyPost_ret (results_tmp rfl _ _ _) rfl ⟨?_, HB1.out.1⟩
          exact congrArg (fun b => Ending.returned (.bool b)) HF.out.symm
        | true =>
          have HQ1 := Lib.hid hq
          clear hq
          go_wp2_with fail
          go_roundw
          case rel => exact ⟨j + 1, by omega, by go_num, Lib.hid HB1.out.2, Lib.hid (fun q hq => by
            by_cases e : q = j
            · subst e; rw [HP.out]; exact HQ1.out
            · exact HPK.out q (by omega))⟩
          case measure => simp [intOf]; omega
      · have h3 : (pj == (i : Int)) = false := by rw [beq_eq_false_iff_ne]; exact hpi
        have HP : Hid (pinP l i vv (pnAt ps j) = true) := Lib.hid (by
          unfold pinP
          rw [HPJ.out, decide_eq_false hpi]; rfl)
        go_wp2_with fail
        go_quiet (fail)
        go_wp2_with fail
        go_roundw
        case rel => exact ⟨j + 1, by omega, by go_num, Lib.hid (by first | exact HBo.out | exact Below.drewN' HBo.out _), Lib.hid (fun q hq => by
          by_cases e : q = j
          · subst e; exact HP.out
          · exact HPK.out q (by omega))⟩
        case measure => simp [intOf]; omega
    · have hd2 : decide ((j : Int) < (np : Int)) = false := by simp; omega
      have HF : Hid (pinR l ps i vv = true) := Lib.hid (all_ix (fun q hq => HPK.out q (by have := HPL.out; omega)))
      go_wp2_with fail
      refine bodyPost_ret (results_tmp rfl _ _ _) rfl ⟨?_, HWo.out⟩
      exact congrArg (fun b => Ending.returned (.bool b)) HF.out.symm
end Go.Proofs.YtlodledcglleiaaGreat

namespace Go.Proofs.YtlodledcglleiaaGreat
open Go.RowKit
open SemP DiP FlP GaP SeaP
set_option linter.unusedVariables false
set_option linter.unusedSimpArgs false
set_option maxRecDepth 10000
set_option maxHeartbeats 16000000 in
theorem chkQ_any {w : World} {B B2 B3 n c m c2 np cp nm cm : Nat} {A A2 Aq Am : Option Addr} {l : List Sv} {vs : List Int} {ps : List Nd} {ms : List Int} (h : CatAt w B A n c l) (hv : Rd w B2 A2 m vs) (hB2 : B2 ≤ w.heap.size) (hm : m ≤ 1000000) (hq : ReqAt w B3 Aq np Am nm ps ms) :
    Calls Tryz.prog 18 #[.agg #[.slice A n c], .slice A2 m c2, .agg #[.slice Aq np cp, .slice Am nm cm]] w fun e w' => e = .returned (.int .i64 (chkR l vs ps ms)) ∧ Below w.heap.size w w' := by
  obtain ⟨W, HW⟩ : ∃ W, Hid (W = (w.alloc (.cells #[.slice A n c] 28)).alloc (.cells #[.slice Aq np cp, .slice Am nm cm] 49)) := ⟨_, Lib.hid rfl⟩
  have hbl : Below w.heap.size w W := by rw [HW.out]; exact ((Below.refl _ w).alloc (Nat.le_refl _) _).alloc (by simp) _
  have HBL := Lib.hid hbl
  have H0 : Hid (W.heap[w.heap.size]? = some (.cells #[.slice A n c] 28 (0, 0))) := Lib.hid (by
    rw [HW.out, Below.heap_alloc _ _ _ (by simp)]; exact heap_new w _)
  have H1 : Hid (W.heap[w.heap.size + 1]? = some (.cells #[.slice Aq np cp, .slice Am nm cm] 49 (0, 0))) := Lib.hid (by
    rw [HW.out]
    have h := heap_new (w.alloc (.cells #[.slice A n c] 28)) (.cells #[.slice Aq np cp, .slice Am nm cm] 49)
    rw [World.size_alloc] at h; exact h)
  have HQ := Lib.hid (hq.below hbl)
  have HA := Lib.hid (h.below hbl)
  have HV := Lib.hid (hv.below (hbl.mono hB2))
  have HB2 : Hid (B2 ≤ W.heap.size) := Lib.hid (Nat.le_trans hB2 hbl.size)
  have HRL := Lib.hid (relQ_any (c2 := c2) (h.below hbl) (hv.below (hbl.mono hB2)) (Nat.le_trans hB2 hbl.size) hm)
  have HPL : Hid (ps.length = np) := Lib.hid hq.pd.1
  have HML : Hid (ms.length = nm) := Lib.hid hq.md.len
  have HNL : Hid (l.length = n) := Lib.hid h.rd.1
  have HVL : Hid (vs.length = m) := Lib.hid hv.len
  have hnp := hq.np
  have hnm := hq.nm
  have hn16 := h.n16
  clear h hv hq hbl
  obtain ⟨x0, _⟩ := row1f H0.out
  go_enter Tryz.func18, Tryz.ntmps18
  go_upto_region 1 with fail
  change Code.wp _ _ _ _ ((w.alloc (.cells #[.slice A n c] 28)).alloc (.cells #[.slice Aq np cp, .slice Am nm cm] 49))
  rw [← HW.out]
  go_wp2_with fail
  refine HRL.out.mono ?_
  rintro e w1 ⟨rfl, hb⟩
  have HB1 : Hid (Below W.heap.size W w1) := Lib.hid hb
  have HQ1 := Lib.hid (HQ.out.below hb)
  have HA1 := Lib.hid (HA.out.below hb)
  have HV1 := Lib.hid (HV.out.below (hb.mono HB2.out))
  have HB21 : Hid (B2 ≤ w1.heap.size) := Lib.hid (Nat.le_trans HB2.out hb.size)
  have K0 : Hid (w1.heap[w.heap.size]? = _) := Lib.hid ((hb.block w.heap.size (heapE_lt H0.out)).trans H0.out)
  have K1 : Hid (w1.heap[w.heap.size + 1]? = _) := Lib.hid ((hb.block (w.heap.size + 1) (heapE_lt H1.out)).trans H1.out)
  have HW1 : Hid (Below w.heap.size w w1) := Lib.hid (HBL.out.trans (hb.mono HBL.out.size))
  clear hb HRL x0
  cases hs : setB l vs with
  | false =>
    have HF : Hid (chkR l vs ps ms = 42) := Lib.hid (by unfold chkR; rw [if_pos hs])
    clear hs
    go_wp2_with fail
    refine bodyPost_ret (results_tmp rfl _ _ _) rfl ⟨?_, HW1.out⟩
    exact congrArg (fun b => Ending.returned (.int .i64 b)) HF.out.symm
  | true =>
    have HV1' : Hid (chkR l vs ps ms = if 24 < ps.length ∨ ms.length ≠ l.length then 36 else if (modB ms && pinsB ps) = false then 12 else if svcB l ps = false then 33 else 0) := Lib.hid (by unfold chkR; rw [hs]; rfl)
    clear hs
    obtain ⟨y0, _⟩ := row1f K0.out
    obtain ⟨z0, z1, _⟩ := row2 K1.out
    by_cases h24 : 24 < np
    · have d1 : decide ((24 : Int) < (np : Int)) = true := by simp; omega
      have HF : Hid (chkR l vs ps ms = 36) := Lib.hid (by rw [HV1'.out, if_pos (.inl (by rw [HPL.out]; exact h24))])
      go_wp2_with fail
      refine bodyPost_ret (results_tmp rfl _ _ _) rfl ⟨?_, HW1.out⟩
      exact congrArg (fun b => Ending.returned (.int .i64 b)) HF.out.symm
    have d1 : decide ((24 : Int) < (np : Int)) = false := by simp; omega
    by_cases hmn : nm = n
    rotate_left
    · have d2 : ((nm : Int) != (n : Int)) = true := by rw [bne_iff_ne]; omega
      have HF : Hid (chkR l vs ps ms = 36) := Lib.hid (by rw [HV1'.out, if_pos (.inr (by rw [HML.out, HNL.out]; exact hmn))])
      go_wp2_with fail
      refine bodyPost_ret (results_tmp rfl _ _ _) rfl ⟨?_, HW1.out⟩
      exact congrArg (fun b => Ending.returned (.int .i64 b)) HF.out.symm
    have d2 : ((nm : Int) != (n : Int)) = false := by rw [bne_eq_false_iff_eq]; omega
    have HV2 : Hid (chkR l vs ps ms = if (modB ms && pinsB ps) = false then 12 else if svcB l ps = false then 33 else 0) := Lib.hid (by
      rw [HV1'.out, if_neg]
      rw [HPL.out, HML.out, HNL.out]; omega)
    clear hmn HV1'
    go_wp2_with fail
    clear y0 z0 z1 d1 d2 h24
    go_loopw [7] (fun v wr => ∃ k : Nat, k ≤ nm ∧ v = .int .i64 (k : Int) ∧ Hid (wr = w1) ∧ Hid (∀ i, i < k → (decide (0 ≤ ix ms i) && decide (ix ms i ≤ 3)) = true)) (fun v _ => nm - (intOf v).toNat)
    case atStart => exact ⟨0, Nat.zero_le _, rfl, Lib.hid rfl, Lib.hid (fun i h => absurd h (by omega))⟩
    case round =>
      obtain ⟨k, hk, rfl, HWE, HOK⟩ := hrel
      obtain ⟨wb, hwb⟩ : ∃ x, x = wr := ⟨_, rfl⟩
      subst hwb
      obtain rfl := HWE.out
      clear HWE
      obtain ⟨z0, z1, _⟩ := row2 K1.out
      by_cases hkn : k < nm
      · have hd : decide ((k : Int) < (nm : Int)) = true := by simp; omega
        have hki : (k : Int) < (nm : Int) := by omega
        have hk0 : (0 : Int) ≤ (k : Int) := by omega
        have hadd : IntKind.i64.wrap ((k : Int) + 1) = ((k + 1 : Nat) : Int) := by rw [IntWalk.i64_in _ (by omega)]; omega
        obtain ⟨b, off, hAm, hb, kc⟩ := HQ1.out.md.at_ hkn
        have HKL : Hid (k < ms.length) := Lib.hid (by rw [HML.out]; exact hkn)
        obtain ⟨v, HV⟩ : ∃ v, Hid (ix ms k = v) := ⟨_, Lib.hid rfl⟩
        rw [HV.out] at kc
        have HAM := Lib.hid hAm
        rw [hAm] at z1
        clear hAm z0
        by_cases hv0 : v < 0
        · have d1 : decide (v < 0) = true := decide_eq_true hv0
          have HF : Hid (chkR l vs ps ms = 12) := Lib.hid (by
            rw [HV2.out, if_pos]
            rw [show modB ms = false from all_no HKL.out (by rw [ix_d, HV.out, decide_eq_false (by omega)]; rfl)]; rfl)
          go_wp2_with fail
          refine bodyPost_ret (results_tmp rfl _ _ _) rfl ⟨?_, HW1.out⟩
          exact congrArg (fun b => Ending.returned (.int .i64 b)) HF.out.symm
        · have d1 : decide (v < 0) = false := decide_eq_false hv0
          by_cases hv3 : 3 < v
          · have d2 : decide (3 < v) = true := decide_eq_true hv3
            have HF : Hid (chkR l vs ps ms = 12) := Lib.hid (by
              rw [HV2.out, if_pos]
              rw [show modB ms = false from all_no HKL.out (by rw [ix_d, HV.out, decide_eq_false (show ¬ v ≤ 3 by omega), Bool.and_false])]; rfl)
            go_wp2_with fail
            refine bodyPost_ret (results_tmp rfl _ _ _) rfl ⟨?_, HW1.out⟩
            exact congrArg (fun b => Ending.returned (.int .i64 b)) HF.out.symm
          · have d2 : decide (3 < v) = false := decide_eq_false hv3
            have HOK2 : Hid (∀ i, i < k + 1 → (decide (0 ≤ ix ms i) && decide (ix ms i ≤ 3)) = true) := Lib.hid (fun i hi => by
              by_cases e : i = k
              · subst e; rw [HV.out, decide_eq_true (show 0 ≤ v by omega), decide_eq_true (show v ≤ 3 by omega)]; rfl
              · exact HOK.out i (by omega))
            go_wp2_with fail
            go_roundw
            case rel => exact ⟨k + 1, by omega, by go_num, Lib.hid (by first | trivial | rfl), HOK2⟩
            case measure => simp [intOf]; omega
      · have hd : decide ((k : Int) < (nm : Int)) = false := by simp; omega
        have HMB : Hid (modB ms = true) := Lib.hid (all_ix (fun j hj => by rw [ix_d]; exact HOK.out j (by have := HML.out; omega)))
        go_wp2_with fail
        clear z0 z1
        go_loopw [8] (fun v wx => ∃ j : Nat, j ≤ np ∧ v = .int .i64 (j : Int) ∧ Hid (Below wb.heap.size wb wx) ∧ Hid (∀ i, i < j → rightR (pnAt ps i).2 = true)) (fun v _ => np - (intOf v).toNat)
        case atStart => exact ⟨0, Nat.zero_le _, rfl, Lib.hid (Below.refl _ _), Lib.hid (fun i h => absurd h (by omega))⟩
        case round =>
          obtain ⟨wi, hwi⟩ : ∃ x, x = wr := ⟨_, rfl⟩
          subst hwi
          obtain ⟨j, hj, rfl, HBi, HPR⟩ := hrel
          have hzi := HBi.out.size
          have HWi : Hid (Below w.heap.size w wi) := Lib.hid (HW1.out.trans (HBi.out.mono HW1.out.size))
          have Ki0 : Hid (wi.heap[w.heap.size]? = _) := Lib.hid ((HBi.out.block w.heap.size (heapE_lt K0.out)).trans K0.out)
          have Ki1 : Hid (wi.heap[w.heap.size + 1]? = _) := Lib.hid ((HBi.out.block (w.heap.size + 1) (heapE_lt K1.out)).trans K1.out)
          obtain ⟨z0, z1, _⟩ := row2 Ki1.out
          clear z1
          have HQi := Lib.hid (HQ1.out.below HBi.out)
          by_cases hjn : j < np
          · have hd2 : decide ((j : Int) < (np : Int)) = true := by simp; omega
            have hji : (j : Int) < (np : Int) := by omega
            have hj0 : (0 : Int) ≤ (j : Int) := by omega
            have hadd2 : IntKind.i64.wrap ((j : Int) + 1) = ((j + 1 : Nat) : Int) := by rw [IntWalk.i64_in _ (by omega)]; omega
            have HJL : Hid (j < ps.length) := Lib.hid (by rw [HPL.out]; exact hjn)
            obtain ⟨b4, o4, A5, n5, c5, hA4, hb4, _, p1, _, hr5⟩ := nd_at HQi.out.pd hjn
            subst hA4
            have hsr := HQi.out.sm _ (pnAt_mem HJL.out)
            have HI := Lib.hid (RefRgRight_any A5 n5 c5 (pnAt ps j).2 wi B3 hr5 HQi.out.le hsr.small)
            clear hr5 hsr
            go_wp2_with fail
            refine HI.out.mono ?_
            rintro e w3 ⟨rfl, hb⟩
            have HB3 : Hid (Below wb.heap.size wb w3) := Lib.hid (HBi.out.trans (hb.mono hzi))
            have HW3 : Hid (Below w.heap.size w w3) := Lib.hid (HWi.out.trans (hb.mono HWi.out.size))
            clear hb z0 p1 HI
            cases hq : rightR (pnAt ps j).2 with
            | false =>
              have HF : Hid (chkR l vs ps ms = 12) := Lib.hid (by
                rw [HV2.out, if_pos]
                rw [show pinsB ps = false from all_no HJL.out hq, Bool.and_false])
              clear hq
              go_wp2_with fail
              refine bodyPost_ret (results_tmp rfl _ _ _) rfl ⟨?_, HW3.out⟩
              exact congrArg (fun b => Ending.returned (.int .i64 b)) HF.out.symm
            | true =>
              have HQ1' := Lib.hid hq
              clear hq
              go_wp2_with fail
              go_roundw
              case rel => exact ⟨j + 1, by omega, by go_num, HB3, Lib.hid (fun i hi => by
                by_cases e : i = j
                · subst e; exact HQ1'.out
                · exact HPR.out i (by omega))⟩
              case measure => simp [intOf]; omega
          · have hd2 : decide ((j : Int) < (np : Int)) = false := by simp; omega
            have HV3 : Hid (chkR l vs ps ms = if svcB l ps = false then 33 else 0) := Lib.hid (by
              rw [HV2.out, if_neg]
              rw [HMB.out, show pinsB ps = true from all_ix (fun i hi => HPR.out i (by have := HPL.out; omega))]; decide)
            go_wp2_with fail
            clear z0
            go_loopw [9] (fun v wr => ∃ j : Nat, j ≤ np ∧ v = .int .i64 (j : Int) ∧ Hid (Below wi.heap.size wi wr) ∧ Hid (∀ i, i < j → isS l (pnAt ps i).1 = true)) (fun v _ => np - (intOf v).toNat)
            case atStart => exact ⟨0, Nat.zero_le _, rfl, Lib.hid (Below.refl _ _), Lib.hid (fun i h => absurd h (by omega))⟩
            case round =>
              obtain ⟨wo, hwo⟩ : ∃ x, x = wr := ⟨_, rfl⟩
              subst hwo
              obtain ⟨j, hj, rfl, HBo, HPK⟩ := hrel
              have hzo := HBo.out.size
              have HWo : Hid (Below w.heap.size w wo) := Lib.hid (HWi.out.trans (HBo.out.mono HWi.out.size))
              have Ko0 : Hid (wo.heap[w.heap.size]? = _) := Lib.hid ((HBo.out.block w.heap.size (heapE_lt Ki0.out)).trans Ki0.out)
              have Ko1 : Hid (wo.heap[w.heap.size + 1]? = _) := Lib.hid ((HBo.out.block (w.heap.size + 1) (heapE_lt Ki1.out)).trans Ki1.out)
              obtain ⟨u0, _⟩ := row1f Ko0.out
              obtain ⟨z0, z1, _⟩ := row2 Ko1.out
              clear z1
              by_cases hjn : j < np
              · have hd2 : decide ((j : Int) < (np : Int)) = true := by simp; omega
                have hji : (j : Int) < (np : Int) := by omega
                have hj0 : (0 : Int) ≤ (j : Int) := by omega
                have hadd2 : IntKind.i64.wrap ((j : Int) + 1) = ((j + 1 : Nat) : Int) := by rw [IntWalk.i64_in _ (by omega)]; omega
                have HQo := Lib.hid (HQi.out.below HBo.out)
                have HJL : Hid (j < ps.length) := Lib.hid (by rw [HPL.out]; exact hjn)
                obtain ⟨b4, o4, A5, n5, c5, hA4, hb4, p0, _, _, _⟩ := nd_at HQo.out.pd hjn
                subst hA4
                obtain ⟨pj, HPJ⟩ : ∃ pj, Hid ((pnAt ps j).1 = pj) := ⟨_, Lib.hid rfl⟩
                rw [HPJ.out] at p0
                by_cases hp0 : pj < 0
                · have d1 : decide (pj < 0) = true := decide_eq_true hp0
                  have HF : Hid (chkR l vs ps ms = 33) := Lib.hid (by
                    have hsv : svcB l ps = false := all_no HJL.out (by show isS l (pnAt ps j).1 = false; rw [HPJ.out]; unfold isS; rw [decide_eq_false (show ¬ 0 ≤ pj by omega), Bool.false_and])
                    rw [HV3.out, if_pos hsv])
                  go_wp2_with fail
                  go_quiet (fail)
                  go_wp2_with fail
                  refine bodyPost_ret (results_tmp rfl _ _ _) rfl ⟨?_, by first | exact HWo.out | exact Below.drewN' HWo.out _⟩
                  exact congrArg (fun b => Ending.returned (.int .i64 b)) HF.out.symm
                have d1 : decide (pj < 0) = false := decide_eq_false hp0
                by_cases hpn : (n : Int) ≤ pj
                · have d2 : decide ((n : Int) ≤ pj) = true := decide_eq_true hpn
                  have HF : Hid (chkR l vs ps ms = 33) := Lib.hid (by
                    have hsv : svcB l ps = false := all_no HJL.out (by show isS l (pnAt ps j).1 = false; rw [HPJ.out]; unfold isS; rw [HNL.out, decide_eq_false (show ¬ pj < (n : Int) by omega), Bool.and_false])
                    rw [HV3.out, if_pos hsv])
                  go_wp2_with fail
                  go_quiet (fail)
                  go_wp2_with fail
                  refine bodyPost_ret (results_tmp rfl _ _ _) rfl ⟨?_, by first | exact HWo.out | exact Below.drewN' HWo.out _⟩
                  exact congrArg (fun b => Ending.returned (.int .i64 b)) HF.out.symm
                have d2 : decide ((n : Int) ≤ pj) = false := decide_eq_false hpn
                have HQ1' : Hid (isS l (pnAt ps j).1 = true) := Lib.hid (by rw [HPJ.out]; unfold isS; rw [HNL.out, decide_eq_true (show 0 ≤ pj by omega), decide_eq_true (show pj < (n : Int) by omega)]; rfl)
                go_wp2_with fail
                go_quiet (fail)
                go_wp2_with fail
                go_roundw
                case rel => exact ⟨j + 1, by omega, by go_num, Lib.hid (by first | exact HBo.out | exact Below.drewN' HBo.out _), Lib.hid (fun i hi => by
                  by_cases e : i = j
                  · subst e; exact HQ1'.out
                  · exact HPK.out i (by omega))⟩
                case measure => simp [intOf]; omega
              · have hd2 : decide ((j : Int) < (np : Int)) = false := by simp; omega
                have HSVC : Hid (svcB l ps = true) := Lib.hid (all_ix (fun i hi => HPK.out i (by have := HPL.out; omega)))
                have HF : Hid (chkR l vs ps ms = 0) := Lib.hid (by rw [HV3.out, if_neg (by rw [HSVC.out]; decide)])
                go_wp2_with fail
                refine bodyPost_ret (results_tmp rfl _ _ _) rfl ⟨?_, HWo.out⟩
                exact congrArg (fun b => Ending.returned (.int .i64 b)) HF.out.symm
end Go.Proofs.YtlodledcglleiaaGreat

namespace Go.Proofs.YtlodledcglleiaaGreat
open Go.RowKit
open SemP DiP FlP GaP SeaP
set_option linter.unusedVariables false
set_option linter.unusedSimpArgs false
set_option maxRecDepth 10000
set_option maxHeartbeats 16000000 in
theorem meetQ_any {w : World} {B B2 B3 n c m c2 np cp nm cm : Nat} {A A2 Aq Am : Option Addr} {l : List Sv} {ts : List Int} {ps : List Nd} {ms : List Int} (h : CatAt w B A n c l) (hv : Rd w B2 A2 m ts) (hB2 : B2 ≤ w.heap.size) (hm : m ≤ 1000000) (hq : ReqAt w B3 Aq np Am nm ps ms) :
    Calls Tryz.prog 44 #[.agg #[.slice A n c], .agg #[.slice Aq np cp, .slice Am nm cm], .slice A2 m c2] w fun e w' => e = .returned (.bool (tgtB l ps ts)) ∧ Below w.heap.size w w' := by
  obtain ⟨W, HW⟩ : ∃ W, Hid (W = (w.alloc (.cells #[.slice A n c] 28)).alloc (.cells #[.slice Aq np cp, .slice Am nm cm] 49)) := ⟨_, Lib.hid rfl⟩
  have hbl : Below w.heap.size w W := by rw [HW.out]; exact ((Below.refl _ w).alloc (Nat.le_refl _) _).alloc (by simp) _
  have HBL := Lib.hid hbl
  have H0 : Hid (W.heap[w.heap.size]? = some (.cells #[.slice A n c] 28 (0, 0))) := Lib.hid (by
    rw [HW.out, Below.heap_alloc _ _ _ (by simp)]; exact heap_new w _)
  have H1 : Hid (W.heap[w.heap.size + 1]? = some (.cells #[.slice Aq np cp, .slice Am nm cm] 49 (0, 0))) := Lib.hid (by
    rw [HW.out]
    have h := heap_new (w.alloc (.cells #[.slice A n c] 28)) (.cells #[.slice Aq np cp, .slice Am nm cm] 49)
    rw [World.size_alloc] at h; exact h)
  have HQ := Lib.hid (hq.below hbl)
  have HA := Lib.hid (h.below hbl)
  have HV := Lib.hid (hv.below (hbl.mono hB2))
  have HB2 : Hid (B2 ≤ W.heap.size) := Lib.hid (Nat.le_trans hB2 hbl.size)
  have HRL := Lib.hid (relQ_any (c2 := c2) (h.below hbl) (hv.below (hbl.mono hB2)) (Nat.le_trans hB2 hbl.size) hm)
  have HPL : Hid (ps.length = np) := Lib.hid hq.pd.1
  have HML : Hid (ms.length = nm) := Lib.hid hq.md.len
  have HNL : Hid (l.length = n) := Lib.hid h.rd.1
  have HVL : Hid (ts.length = m) := Lib.hid hv.len
  have hnp := hq.np
  have hnm := hq.nm
  have hn16 := h.n16
  clear h hv hq hbl
  obtain ⟨x0, _⟩ := row1f H0.out
  go_enter Tryz.func44, Tryz.ntmps44
  go_upto_region 1 with fail
  change Code.wp _ _ _ _ ((w.alloc (.cells #[.slice A n c] 28)).alloc (.cells #[.slice Aq np cp, .slice Am nm cm] 49))
  rw [← HW.out]
  go_wp2_with fail
  refine HRL.out.mono ?_
  rintro e w1 ⟨rfl, hb⟩
  have HB1 : Hid (Below W.heap.size W w1) := Lib.hid hb
  have HQ1 := Lib.hid (HQ.out.below hb)
  have HA1 := Lib.hid (HA.out.below hb)
  have HV1 := Lib.hid (HV.out.below (hb.mono HB2.out))
  have HB21 : Hid (B2 ≤ w1.heap.size) := Lib.hid (Nat.le_trans HB2.out hb.size)
  have K0 : Hid (w1.heap[w.heap.size]? = _) := Lib.hid ((hb.block w.heap.size (heapE_lt H0.out)).trans H0.out)
  have K1 : Hid (w1.heap[w.heap.size + 1]? = _) := Lib.hid ((hb.block (w.heap.size + 1) (heapE_lt H1.out)).trans H1.out)
  have HW1 : Hid (Below w.heap.size w w1) := Lib.hid (HBL.out.trans (hb.mono HBL.out.size))
  clear hb HRL x0
  cases hs : setB l ts with
  | false =>
    have HF : Hid (tgtB l ps ts = false) := Lib.hid (by unfold tgtB; rw [hs, Bool.false_and])
    clear hs
    go_wp2_with fail
    refine bodyPost_ret (results_tmp rfl _ _ _) rfl ⟨?_, HW1.out⟩
    exact congrArg (fun b => Ending.returned (.bool b)) HF.out.symm
  | true =>
    have HT1 : Hid (tgtB l ps ts = (svcB l ps && (List.range ts.length).all fun j => pinR l ps j (ix ts j).toNat && (List.range j).all fun i => fitsC l (i : Int) (ix ts i) (j : Int) (ix ts j))) := Lib.hid (by unfold tgtB; rw [hs, Bool.true_and])
    have HSET := Lib.hid (setB_iff.1 hs)
    clear hs
    obtain rfl : m = n := by rw [← HVL.out, ← HNL.out]; exact HSET.out.1
    go_wp2_with fail
    go_loopw [7] (fun v wr => ∃ j : Nat, j ≤ np ∧ v = .int .i64 (j : Int) ∧ Hid (Below w1.heap.size w1 wr) ∧ Hid (∀ i, i < j → isS l (pnAt ps i).1 = true)) (fun v _ => np - (intOf v).toNat)
    case atStart => exact ⟨0, Nat.zero_le _, rfl, Lib.hid (Below.refl _ _), Lib.hid (fun i h => absurd h (by omega))⟩
    case round =>
      obtain ⟨wo, hwo⟩ : ∃ x, x = wr := ⟨_, rfl⟩
      subst hwo
      obtain ⟨j, hj, rfl, HBo, HPK⟩ := hrel
      have hzo := HBo.out.size
      have HWo : Hid (Below w.heap.size w wo) := Lib.hid (HW1.out.trans (HBo.out.mono HW1.out.size))
      have Ko0 : Hid (wo.heap[w.heap.size]? = _) := Lib.hid ((HBo.out.block w.heap.size (heapE_lt K0.out)).trans K0.out)
      have Ko1 : Hid (wo.heap[w.heap.size + 1]? = _) := Lib.hid ((HBo.out.block (w.heap.size + 1) (heapE_lt K1.out)).trans K1.out)
      obtain ⟨u0, _⟩ := row1f Ko0.out
      obtain ⟨z0, z1, _⟩ := row2 Ko1.out
      clear z1
      by_cases hjn : j < np
      · have hd2 : decide ((j : Int) < (np : Int)) = true := by simp; omega
        have hji : (j : Int) < (np : Int) := by omega
        have hj0 : (0 : Int) ≤ (j : Int) := by omega
        have hadd2 : IntKind.i64.wrap ((j : Int) + 1) = ((j + 1 : Nat) : Int) := by rw [IntWalk.i64_in _ (by omega)]; omega
        have HQo := Lib.hid (HQ1.out.below HBo.out)
        have HJL : Hid (j < ps.length) := Lib.hid (by rw [HPL.out]; exact hjn)
        obtain ⟨b4, o4, A5, n5, c5, hA4, hb4, p0, _, _, _⟩ := nd_at HQo.out.pd hjn
        subst hA4
        obtain ⟨pj, HPJ⟩ : ∃ pj, Hid ((pnAt ps j).1 = pj) := ⟨_, Lib.hid rfl⟩
        rw [HPJ.out] at p0
        by_cases hp0 : pj < 0
        · have d1 : decide (pj < 0) = true := decide_eq_true hp0
          have HF : Hid (tgtB l ps ts = false) := Lib.hid (by
            have hsv : svcB l ps = false := all_no HJL.out (by show isS l (pnAt ps j).1 = false; rw [HPJ.out]; unfold isS; rw [decide_eq_false (show ¬ 0 ≤ pj by omega), Bool.false_and])
            rw [HT1.out, hsv, Bool.false_and])
          go_wp2_with fail
          go_quiet (fail)
          go_wp2_with fail
          refine bodyPost_ret (results_tmp rfl _ _ _) rfl ⟨?_, by first | exact HWo.out | exact Below.drewN' HWo.out _⟩
          exact congrArg (fun b => Ending.returned (.bool b)) HF.out.symm
        have d1 : decide (pj < 0) = false := decide_eq_false hp0
        by_cases hpn : (m : Int) ≤ pj
        · have d2 : decide ((m : Int) ≤ pj) = true := decide_eq_true hpn
          have HF : Hid (tgtB l ps ts = false) := Lib.hid (by
            have hsv : svcB l ps = false := all_no HJL.out (by show isS l (pnAt ps j).1 = false; rw [HPJ.out]; unfold isS; rw [HNL.out, decide_eq_false (show ¬ pj < (m : Int) by omega), Bool.and_false])
            rw [HT1.out, hsv, Bool.false_and])
          go_wp2_with fail
          go_quiet (fail)
          go_wp2_with fail
          refine bodyPost_ret (results_tmp rfl _ _ _) rfl ⟨?_, by first | exact HWo.out | exact Below.drewN' HWo.out _⟩
          exact congrArg (fun b => Ending.returned (.bool b)) HF.out.symm
        have d2 : decide ((m : Int) ≤ pj) = false := decide_eq_false hpn
        have HQ1' : Hid (isS l (pnAt ps j).1 = true) := Lib.hid (by rw [HPJ.out]; unfold isS; rw [HNL.out, decide_eq_true (show 0 ≤ pj by omega), decide_eq_true (show pj < (m : Int) by omega)]; rfl)
        go_wp2_with fail
        go_quiet (fail)
        go_wp2_with fail
        go_roundw
        case rel => exact ⟨j + 1, by omega, by go_num, Lib.hid (by first | exact HBo.out | exact Below.drewN' HBo.out _), Lib.hid (fun i hi => by
          by_cases e : i = j
          · subst e; exact HQ1'.out
          · exact HPK.out i (by omega))⟩
        case measure => simp [intOf]; omega
      · have hd2 : decide ((j : Int) < (np : Int)) = false := by simp; omega
        have HSVC : Hid (svcB l ps = true) := Lib.hid (all_ix (fun i hi => HPK.out i (by have := HPL.out; omega)))
        have HT2 : Hid (tgtB l ps ts = (List.range ts.length).all fun j => pinR l ps j (ix ts j).toNat && (List.range j).all fun i => fitsC l (i : Int) (ix ts i) (j : Int) (ix ts j)) := Lib.hid (by
          rw [HT1.out, HSVC.out, Bool.true_and])
        clear u0
        go_wp2_with fail
        clear z0
        go_loopw [8, 9] (fun v _ wr => ∃ q : Nat, q ≤ m ∧ v = .int .i64 (q : Int) ∧ Hid (Below wo.heap.size wo wr) ∧ Hid (∀ i, i < q → (pinR l ps i (ix ts i).toNat && (List.range i).all fun k => fitsC l (k : Int) (ix ts k) (i : Int) (ix ts i)) = true)) (fun v _ _ => m - (intOf v).toNat)
        case atStart => exact ⟨0, Nat.zero_le _, rfl, Lib.hid (Below.refl _ _), Lib.hid (fun i h => absurd h (by omega))⟩
        case round =>
          obtain ⟨wi, hwi⟩ : ∃ x, x = wr := ⟨_, rfl⟩
          subst hwi
          obtain ⟨q, hq, rfl, HBi, HOK⟩ := hrel
          have hzi := HBi.out.size
          have HWi : Hid (Below w.heap.size w wi) := Lib.hid (HWo.out.trans (HBi.out.mono HWo.out.size))
          have HB1i : Hid (Below w1.heap.size w1 wi) := Lib.hid (HBo.out.trans (HBi.out.mono hzo))
          have Ki : Hid (wi.heap[w.heap.size]? = _) := Lib.hid ((HBi.out.block w.heap.size (heapE_lt Ko0.out)).trans Ko0.out)
          have Ki1 : Hid (wi.heap[w.heap.size + 1]? = _) := Lib.hid ((HBi.out.block (w.heap.size + 1) (heapE_lt Ko1.out)).trans Ko1.out)
          by_cases hqn : q < m
          · have hd3 : decide ((q : Int) < (m : Int)) = true := by simp; omega
            have hqi : (q : Int) < (m : Int) := by omega
            have hq0 : (0 : Int) ≤ (q : Int) := by omega
            have hadd3 : IntKind.i64.wrap ((q : Int) + 1) = ((q + 1 : Nat) : Int) := by rw [IntWalk.i64_in _ (by omega)]; omega
            have HAi := Lib.hid (HA1.out.below HB1i.out)
            have HQi := Lib.hid (HQ1.out.below HB1i.out)
            have HVi := Lib.hid (HV1.out.below (HB1i.out.mono HB21.out))
            obtain ⟨a0, v, ha0, hv, hal, hvl⟩ := isR_nat (HSET.out.2 q (by rw [HVL.out]; exact hqn))
            obtain rfl : a0 = q := by omega
            have HVV : Hid (ix ts a0 = (v : Int)) := Lib.hid hv
            obtain ⟨bT, oT, hAT, hbT, kT⟩ := HVi.out.at_ hqn
            rw [HVV.out] at kT
            have hAiD : CatAt (wi.drewN 1) B A m c l := ⟨HAi.out.rd, HAi.out.cap, HAi.out.le, HAi.out.sm, HAi.out.len, HAi.out.one⟩
            have hQiD : ReqAt (wi.drewN 1) B3 Aq np Am nm ps ms := ⟨HQi.out.pd, HQi.out.md, HQi.out.np, HQi.out.nm, HQi.out.sm, HQi.out.le⟩
            have HPN := Lib.hid (pinQ_any (cp := cp) (cm := cm) (vv := v) hAiD hQiD hqn hvl)
            have HPT : Hid (pinR l ps a0 (ix ts a0).toNat = pinR l ps a0 v) := Lib.hid (by rw [HVV.out, Int.toNat_natCast])
            have hbTs : bT < wi.heap.size := by have := HB21.out; have := HB1i.out.size; omega
            have HTC : Hid (A2 = some ⟨bT, oT, none⟩) := Lib.hid hAT
            obtain ⟨x0, _⟩ := row1f Ki.out
            obtain ⟨y0, y1, _⟩ := row2 Ki1.out
            clear ha0 hv hal hvl hAT hAiD hQiD
            rw [HTC.out]
            go_wp2_with fail
            go_region_held3 (fun W' => W'.cell? ⟨w.heap.size, 0, none⟩ = some (.slice A m c) ∧ W'.cell? ⟨w.heap.size + 1, 0, none⟩ = some (.slice Aq np cp) ∧ W'.cell? ⟨w.heap.size + 1, 1, none⟩ = some (.slice Am nm cm) ∧ W'.cell? ⟨bT, oT + a0, none⟩ = some (.int .i64 (v : Int))) ((first | exact ⟨x0, y0, y1, kT⟩ | exact ⟨z0, z1, z2, z3⟩ | go_keep)) (first
              | (go_at_call 70; refine HPN.out.mono ?_; rintro e w4 ⟨rfl, hb'⟩; (have hb : Below wi.heap.size wi w4 := (Below.drewN' (Below.refl _ wi) 1).trans hb'); (have z0 := (hb.cell (p := ⟨w.heap.size, 0, none⟩) (heapE_lt Ki.out)).trans x0); (have z1 := (hb.cell (p := ⟨w.heap.size + 1, 0, none⟩) (heapE_lt Ki1.out)).trans y0); (have z2 := (hb.cell (p := ⟨w.heap.size + 1, 1, none⟩) (heapE_lt Ki1.out)).trans y1); (have z3 := (hb.cell (p := ⟨bT, oT + a0, none⟩) hbTs).trans kT); (have HBW := Lib.hid hb); clear hb hb'))
            have HB4 : Hid (Below wo.heap.size wo w4) := Lib.hid (HBi.out.trans (HBW.out.mono hzi))
            have HW4 : Hid (Below w.heap.size w w4) := Lib.hid (HWi.out.trans (HBW.out.mono HWi.out.size))
            have HB14 : Hid (Below w1.heap.size w1 w4) := Lib.hid (HB1i.out.trans (HBW.out.mono HB1i.out.size))
            have K4 : Hid (w4.heap[w.heap.size]? = _) := Lib.hid ((HBW.out.block w.heap.size (heapE_lt Ki.out)).trans Ki.out)
            clear z0 z1 z2 z3 x0 y0 y1 kT HPN HBW
            cases hp : pinR l ps a0 v with
            | false =>
              have HF : Hid (tgtB l ps ts = false) := Lib.hid (by
                rw [HT2.out, List.all_eq_false]
                exact ⟨a0, List.mem_range.2 (by rw [HVL.out]; exact hqn), by rw [HPT.out, hp]; simp⟩)
              clear hp
              go_wp2_with fail
              refine bodyPost_ret (results_tmp rfl _ _ _) rfl ⟨?_, HW4.out⟩
              exact congrArg (fun b => Ending.returned (.bool b)) HF.out.symm
            | true =>
              have HP := Lib.hid hp
              clear hp
              rw [show (!true) = false from rfl]
              go_wp2_with fail
              go_loopw [9] (fun v wr => ∃ k : Nat, k ≤ a0 ∧ v = .int .i64 (k : Int) ∧ Hid (Below w4.heap.size w4 wr) ∧ Hid (∀ i, i < k → fitsC l (i : Int) (ix ts i) (a0 : Int) (ix ts a0) = true)) (fun v _ => a0 - (intOf v).toNat)
              case atStart => exact ⟨0, Nat.zero_le _, rfl, Lib.hid (Below.refl _ _), Lib.hid (fun i h => absurd h (by omega))⟩
              case round =>
                obtain ⟨wk, hwk⟩ : ∃ x, x = wr := ⟨_, rfl⟩
                subst hwk
                obtain ⟨k, hk, rfl, HBk, HFK⟩ := hrel
                have HWk : Hid (Below w.heap.size w wk) := Lib.hid (HW4.out.trans (HBk.out.mono HW4.out.size))
                have HB1k : Hid (Below w1.heap.size w1 wk) := Lib.hid (HB14.out.trans (HBk.out.mono HB14.out.size))
                have Kk : Hid (wk.heap[w.heap.size]? = _) := Lib.hid ((HBk.out.block w.heap.size (heapE_lt K4.out)).trans K4.out)
                by_cases hkn : k < a0
                · have hd4 : decide ((k : Int) < (a0 : Int)) = true := by simp; omega
                  have hki : (k : Int) < (a0 : Int) := by omega
                  have hki2 : (k : Int) < (m : Int) := by omega
                  have hk0 : (0 : Int) ≤ (k : Int) := by omega
                  have hadd4 : IntKind.i64.wrap ((k : Int) + 1) = ((k + 1 : Nat) : Int) := by rw [IntWalk.i64_in _ (by omega)]; omega
                  obtain ⟨bU, oU, hAU, hbU, kU⟩ := (HV1.out.below (HB1k.out.mono HB21.out)).at_ (k := k) (by omega)
                  obtain ⟨bV, oV, hAV, hbV, kV⟩ := (HV1.out.below (HB1k.out.mono HB21.out)).at_ (k := a0) (by omega)
                  have hAU2 : some (⟨bT, oT, none⟩ : Addr) = some ⟨bU, oU, none⟩ := by rw [← HTC.out]; exact hAU
                  injection hAU2 with hAU2
                  injection hAU2 with e1 e2' _
                  subst e1 e2'
                  have hAV2 : some (⟨bT, oT, none⟩ : Addr) = some ⟨bV, oV, none⟩ := by rw [← HTC.out]; exact hAV
                  injection hAV2 with hAV2
                  injection hAV2 with e1 e2' _
                  subst e1 e2'
                  obtain ⟨u, HU⟩ : ∃ u, Hid (ix ts k = u) := ⟨_, Lib.hid rfl⟩
                  rw [HU.out] at kU
                  rw [HVV.out] at kV
                  have HAk := Lib.hid (HA1.out.below HB1k.out)
                  have hAkD : CatAt (wk.drewN 1) B A m c l := ⟨HAk.out.rd, HAk.out.cap, HAk.out.le, HAk.out.sm, HAk.out.len, HAk.out.one⟩
                  have HFT := Lib.hid (fitsQ_any (i := (a0 : Int)) (v := (v : Int)) (j := (k : Int)) (x := u) hAkD)
                  rw [fitsC_swap] at HFT
                  have hbTk : bT < wk.heap.size := by have := HB21.out; have := HB1k.out.size; omega
                  obtain ⟨x0, _⟩ := row1f Kk.out
                  clear hAU hAV hAkD
                  go_wp2_with fail
                  go_region_held3 (fun W' => W'.cell? ⟨w.heap.size, 0, none⟩ = some (.slice A m c) ∧ W'.cell? ⟨bT, oT + k, none⟩ = some (.int .i64 u) ∧ W'.cell? ⟨bT, oT + a0, none⟩ = some (.int .i64 (v : Int))) ((first | exact ⟨x0, kU, kV⟩ | exact ⟨z0, z1, z2⟩ | go_keep)) (first
                    | (go_at_call 71; refine HFT.out.mono ?_; rintro e w5 ⟨rfl, hb'⟩; (have hb : Below wk.heap.size wk w5 := (Below.drewN' (Below.refl _ wk) 1).trans hb'); (have z0 := (hb.cell (p := ⟨w.heap.size, 0, none⟩) (heapE_lt Kk.out)).trans x0); (have z1 := (hb.cell (p := ⟨bT, oT + k, none⟩) hbTk).trans kU); (have z2 := (hb.cell (p := ⟨bT, oT + a0, none⟩) hbTk).trans kV); (have HBW := Lib.hid hb); clear hb hb'))
                  have HB5 : Hid (Below w4.heap.size w4 w5) := Lib.hid (HBk.out.trans (HBW.out.mono HBk.out.size))
                  have HW5 : Hid (Below w.heap.size w w5) := Lib.hid (HWk.out.trans (HBW.out.mono HWk.out.size))
                  clear HBW x0 kU kV z0 z1 z2 HFT
                  cases hf : fitsC l (k : Int) u (a0 : Int) (v : Int) with
                  | false =>
                    have HF : Hid (tgtB l ps ts = false) := Lib.hid (by
                      rw [HT2.out, List.all_eq_false]
                      refine ⟨a0, List.mem_range.2 (by rw [HVL.out]; exact hqn), ?_⟩
                      rw [Bool.and_eq_true]
                      rintro ⟨_, h2⟩
                      rw [List.all_eq_true] at h2
                      have := h2 k (List.mem_range.2 hkn)
                      rw [HU.out, HVV.out, hf] at this
                      cases this)
                    clear hf
                    go_wp2_with fail
                    refine bodyPost_ret (results_tmp rfl _ _ _) rfl ⟨?_, HW5.out⟩
                    exact congrArg (fun b => Ending.returned (.bool b)) HF.out.symm
                  | true =>
                    have HF1 := Lib.hid hf
                    clear hf
                    go_wp2_with fail
                    go_roundw
                    case rel => exact ⟨k + 1, by omega, by go_num, HB5, Lib.hid (fun i hi => by
                      by_cases e : i = k
                      · subst e; rw [HU.out, HVV.out]; exact HF1.out
                      · exact HFK.out i (by omega))⟩
                    case measure => simp [intOf]; omega
                · have hd4 : decide ((k : Int) < (a0 : Int)) = false := by simp; omega
                  obtain rfl : k = a0 := by omega
                  go_wp2_with fail
                  go_roundw
                  case rel => exact ⟨k + 1, by omega, by go_num, Lib.hid (HB4.out.trans (HBk.out.mono HB4.out.size)), Lib.hid (fun i hi => by
                    by_cases e : i = k
                    · subst e
                      rw [HPT.out, HP.out, Bool.true_and, List.all_eq_true]
                      exact fun x hx => HFK.out x (List.mem_range.1 hx)
                    · exact HOK.out i (by omega))⟩
                  case measure => simp [intOf]; omega
          · have hd3 : decide ((q : Int) < (m : Int)) = false := by simp; omega
            have HF : Hid (tgtB l ps ts = true) := Lib.hid (by
              rw [HT2.out, List.all_eq_true]
              exact fun i hi => HOK.out i (by have := List.mem_range.1 hi; have := HVL.out; omega))
            go_wp2_with fail
            refine bodyPost_ret (results_tmp rfl _ _ _) rfl ⟨?_, HWi.out⟩
            exact congrArg (fun b => Ending.returned (.bool b)) HF.out.symm
end Go.Proofs.YtlodledcglleiaaGreat
