/-
  CONTRACT: Meets.
-/
import Derived.Test.YteiknbkigbdfgaaVCk
namespace Go.Proofs.Yteiknbkigbdfgaa
open Go.RowKit
open SemP DiP FlP GaP SeaP
set_option linter.unusedVariables false
set_option linter.unusedSimpArgs false
set_option maxRecDepth 10000
set_option maxHeartbeats 16000000 in
theorem meets_any {w : World} {B B2 B3 n c m c2 np cp nm cm : Nat} {A A2 Aq Am : Option Addr} {l : List Sv} {ts : List Int} {ps : List Nd} {ms : List Int} (h : CatAt w B A n c l) (hlv : LevOK l) (hv : Rd w B2 A2 m ts) (hB2 : B2 ≤ w.heap.size) (hcap : CapA A2 m c2) (hq : ReqAt w B3 Aq np Am nm ps ms) :
    Calls Try.prog 18 #[.agg #[.slice A n c], .agg #[.slice Aq np cp, .slice Am nm cm], .slice A2 m c2] w fun e w' => e = .returned (.bool (tgtB l ps ts)) ∧ Below w.heap.size w w' := by
  obtain ⟨W, HW⟩ : ∃ W, Hid (W = (w.alloc (.cells #[.slice A n c] 24)).alloc (.cells #[.slice Aq np cp, .slice Am nm cm] 55)) := ⟨_, Lib.hid rfl⟩
  have hbl : Below w.heap.size w W := by rw [HW.out]; exact ((Below.refl _ w).alloc (Nat.le_refl _) _).alloc (by simp) _
  have HBL := Lib.hid hbl
  have H0 : Hid (W.heap[w.heap.size]? = some (.cells #[.slice A n c] 24 (0, 0))) := Lib.hid (by
    rw [HW.out, Below.heap_alloc _ _ _ (by simp)]; exact heap_new w _)
  have H1 : Hid (W.heap[w.heap.size + 1]? = some (.cells #[.slice Aq np cp, .slice Am nm cm] 55 (0, 0))) := Lib.hid (by
    rw [HW.out]
    have h := heap_new (w.alloc (.cells #[.slice A n c] 24)) (.cells #[.slice Aq np cp, .slice Am nm cm] 55)
    rw [World.size_alloc] at h; exact h)
  have HQ := Lib.hid (hq.below hbl)
  have HA := Lib.hid (h.below hbl)
  have HV := Lib.hid (hv.below (hbl.mono hB2))
  have HB2 : Hid (B2 ≤ W.heap.size) := Lib.hid (Nat.le_trans hB2 hbl.size)
  have HAR := Lib.hid (areRel_any (c2 := c2) (h.below hbl) hlv (hv.below (hbl.mono hB2)) (Nat.le_trans hB2 hbl.size))
  have HPL : Hid (ps.length = np) := Lib.hid hq.pd.1
  have HNL : Hid (l.length = n) := Lib.hid h.rd.1
  have HVL : Hid (ts.length = m) := Lib.hid hv.len
  have hnp := hq.np
  have hn16 := h.n16
  have HCP := Lib.hid hcap
  clear h hv hq hbl hcap
  obtain ⟨x0, _⟩ := row1f H0.out
  go_enter Try.func18, Try.ntmps18
  go_upto_region 1 with fail
  change Code.wp _ _ _ _ ((w.alloc (.cells #[.slice A n c] 24)).alloc (.cells #[.slice Aq np cp, .slice Am nm cm] 55))
  rw [← HW.out]
  go_wp2_with fail
  refine HAR.out.mono ?_
  rintro e w1 ⟨rfl, hb⟩
  have HB1 : Hid (Below W.heap.size W w1) := Lib.hid hb
  have HQ1 := Lib.hid (HQ.out.below hb)
  have HA1 := Lib.hid (HA.out.below hb)
  have HV1 := Lib.hid (HV.out.below (hb.mono HB2.out))
  have K0 : Hid (w1.heap[w.heap.size]? = _) := Lib.hid ((hb.block w.heap.size (heapE_lt H0.out)).trans H0.out)
  have K1 : Hid (w1.heap[w.heap.size + 1]? = _) := Lib.hid ((hb.block (w.heap.size + 1) (heapE_lt H1.out)).trans H1.out)
  have HW1 : Hid (Below w.heap.size w w1) := Lib.hid (HBL.out.trans (hb.mono HBL.out.size))
  have HB21 : Hid (B2 ≤ w1.heap.size) := Lib.hid (Nat.le_trans HB2.out hb.size)
  clear hb HAR x0
  cases hs : setB l ts with
  | false =>
    have HF : Hid (tgtB l ps ts = false) := Lib.hid (by unfold tgtB; rw [hs, Bool.false_and])
    clear hs
    go_wp2_with fail
    refine bodyPost_ret (results_tmp rfl _ _ _) rfl ⟨?_, HW1.out⟩
    exact congrArg (fun b => Ending.returned (.bool b)) HF.out.symm
  | true =>
    have HT1 : Hid (tgtB l ps ts = (svcB l ps && (List.range ts.length).all fun j => pinR l ps j (ix ts j).toNat && (List.range j).all fun i => fitsC l (i : Int) (ix ts i) (j : Int) (ix ts j))) := Lib.hid (by unfold tgtB; rw [hs, Bool.true_and])
    have HSET := Lib.hid (setB_iff.1 hs)
    clear hs
    obtain rfl : m = n := by rw [← HVL.out, ← HNL.out]; exact HSET.out.1
    obtain ⟨z0, z1, _⟩ := row2 K1.out
    go_wp2_with fail
    clear z0 z1
    go_loopw [8, 20] (fun _ v wr => ∃ j : Nat, j ≤ np ∧ v = .int .i64 (j : Int) ∧ Hid (Below w1.heap.size w1 wr) ∧ Hid (∀ i, i < j → isS l (pnAt ps i).1 = true)) (fun _ v _ => np - (intOf v).toNat)
    case atStart => exact ⟨0, Nat.zero_le _, rfl, Lib.hid (Below.refl _ _), Lib.hid (fun i h => absurd h (by omega))⟩
    case round =>
      obtain ⟨wo, hwo⟩ : ∃ x, x = wr := ⟨_, rfl⟩
      subst hwo
      obtain ⟨j, hj, rfl, HBo, HPK⟩ := hrel
      have hzo := HBo.out.size
      have HWo : Hid (Below w.heap.size w wo) := Lib.hid (HW1.out.trans (HBo.out.mono HW1.out.size))
      have Ko : Hid (wo.heap[w.heap.size]? = _) := Lib.hid ((HBo.out.block w.heap.size (heapE_lt K0.out)).trans K0.out)
      have Ko1 : Hid (wo.heap[w.heap.size + 1]? = _) := Lib.hid ((HBo.out.block (w.heap.size + 1) (heapE_lt K1.out)).trans K1.out)
      by_cases hjn : j < np
      · have hd2 : decide ((j : Int) < (np : Int)) = true := by simp; omega
        have hji : (j : Int) < (np : Int) := by omega
        have hj0 : (0 : Int) ≤ (j : Int) := by omega
        have hadd2 : IntKind.i64.wrap ((j : Int) + 1) = ((j + 1 : Nat) : Int) := by rw [IntWalk.i64_in _ (by omega)]; omega
        have HQo := Lib.hid (HQ1.out.below HBo.out)
        have HJL : Hid (j < ps.length) := Lib.hid (by rw [HPL.out]; exact hjn)
        obtain ⟨b4, o4, A5, n5, c5, rfl, hb4, p0, p1, hcap5, hr5⟩ := nd_at HQo.out.pd hjn
        obtain ⟨pj, HPJ⟩ : ∃ pj, Hid ((pnAt ps j).1 = pj) := ⟨_, Lib.hid rfl⟩
        rw [HPJ.out] at p0
        obtain ⟨X, HX⟩ : ∃ X, Hid (X = wo.alloc (.cells #[.int .i64 pj, .slice A5 n5 c5] 71)) := ⟨_, Lib.hid rfl⟩
        have hbX : Below wo.heap.size wo X := by rw [HX.out]; exact (Below.refl _ wo).alloc (Nat.le_refl _) _
        have X0 : X.heap[wo.heap.size]? = some (.cells #[.int .i64 pj, .slice A5 n5 c5] 71 (0, 0)) := by rw [HX.out]; exact heap_new wo _
        have HI := Lib.hid (sIs_any (w := X) (c := c) (A := A) pj HNL.out)
        have HBX : Hid (Below w1.heap.size w1 X) := Lib.hid (HBo.out.trans (hbX.mono hzo))
        have HWX : Hid (Below w.heap.size w X) := Lib.hid (HWo.out.trans (hbX.mono HWo.out.size))
        obtain ⟨u0, _⟩ := row1f ((hbX.block w.heap.size (heapE_lt Ko.out)).trans Ko.out)
        obtain ⟨y0, y1, _⟩ := row2 X0
        clear hr5 hbX X0 y1
        go_upto_region 6 with fail
        change Code.wp _ _ _ _ (wo.alloc (.cells #[.int .i64 pj, .slice A5 n5 c5] 71))
        rw [← HX.out]
        clear p0 p1
        go_wp2_with fail
        refine HI.out.mono ?_
        rintro e w3 ⟨rfl, hb⟩
        have HB3 : Hid (Below w1.heap.size w1 w3) := Lib.hid (HBX.out.trans (hb.mono HBX.out.size))
        have HW3 : Hid (Below w.heap.size w w3) := Lib.hid (HWX.out.trans (hb.mono HWX.out.size))
        clear hb y0 u0 HI
        cases hq : isS l pj with
        | false =>
          have HF : Hid (tgtB l ps ts = false) := Lib.hid (by
            rw [HT1.out, show svcB l ps = false from all_no HJL.out (by show isS l (pnAt ps j).1 = false; rw [HPJ.out]; exact hq), Bool.false_and])
          clear hq
          go_wp2_with fail
          refine bodyPost_ret (results_tmp rfl _ _ _) rfl ⟨?_, HW3.out⟩
          exact congrArg (fun b => Ending.returned (.bool b)) HF.out.symm
        | true =>
          have HQ1 := Lib.hid hq
          clear hq
          go_wp2_with fail
          go_roundw
          case rel => exact ⟨j + 1, by omega, by go_num, HB3, Lib.hid (fun i hi => by
            by_cases e : i = j
            · subst e; rw [HPJ.out]; exact HQ1.out
            · exact HPK.out i (by omega))⟩
          case measure => simp [intOf]; omega
      · have hd2 : decide ((j : Int) < (np : Int)) = false := by simp; omega
        have HT2 : Hid (tgtB l ps ts = (List.range ts.length).all fun j => pinR l ps j (ix ts j).toNat && (List.range j).all fun i => fitsC l (i : Int) (ix ts i) (j : Int) (ix ts j)) := Lib.hid (by
          rw [HT1.out, show svcB l ps = true from all_ix (fun i hi => HPK.out i (by have := HPL.out; omega)), Bool.true_and])
        go_wp2_with fail
        go_loopw [9, 10, 11, 12, 32] (fun _ _ _ _ v wr => ∃ q : Nat, q ≤ m ∧ v = .int .i64 (q : Int) ∧ Hid (Below wo.heap.size wo wr) ∧ Hid (∀ i, i < q → (pinR l ps i (ix ts i).toNat && (List.range i).all fun k => fitsC l (k : Int) (ix ts k) (i : Int) (ix ts i)) = true)) (fun _ _ _ _ v _ => m - (intOf v).toNat)
        case atStart => exact ⟨0, Nat.zero_le _, rfl, Lib.hid (Below.refl _ _), Lib.hid (fun i h => absurd h (by omega))⟩
        case round =>
          obtain ⟨wi, hwi⟩ : ∃ x, x = wr := ⟨_, rfl⟩
          subst hwi
          obtain ⟨q, hq, rfl, HBi, HOK⟩ := hrel
          have hzi := HBi.out.size
          have HWi : Hid (Below w.heap.size w wi) := Lib.hid (HWo.out.trans (HBi.out.mono HWo.out.size))
          have HB1i : Hid (Below w1.heap.size w1 wi) := Lib.hid (HBo.out.trans (HBi.out.mono hzo))
          have Ki : Hid (wi.heap[w.heap.size]? = _) := Lib.hid ((HBi.out.block w.heap.size (heapE_lt Ko.out)).trans Ko.out)
          have Ki1 : Hid (wi.heap[w.heap.size + 1]? = _) := Lib.hid ((HBi.out.block (w.heap.size + 1) (heapE_lt Ko1.out)).trans Ko1.out)
          by_cases hqn : q < m
          · have hd3 : decide ((q : Int) < (m : Int)) = true := by simp; omega
            have hqi : (q : Int) < (m : Int) := by omega
            have hq0 : (0 : Int) ≤ (q : Int) := by omega
            have hqc : (q : Int) ≤ (m : Int) := by omega
            have hadd3 : IntKind.i64.wrap ((q : Int) + 1) = ((q + 1 : Nat) : Int) := by rw [IntWalk.i64_in _ (by omega)]; omega
            have HAi := Lib.hid (HA1.out.below HB1i.out)
            have HQi := Lib.hid (HQ1.out.below HB1i.out)
            have HVi := Lib.hid (HV1.out.below (HB1i.out.mono HB21.out))
            obtain ⟨a0, v, ha0, hv, hal, hvl⟩ := isR_nat (HSET.out.2 q (by rw [HVL.out]; exact hqn))
            obtain rfl : a0 = q := by omega
            have HVV : Hid (ix ts a0 = (v : Int)) := Lib.hid hv
            obtain ⟨bT, oT, hAT, hbT, kT⟩ := HVi.out.at_ hqn
            rw [HVV.out] at kT
            have HPN := Lib.hid (pinned_any (cp := cp) (cm := cm) (vv := v) HAi.out HQi.out hqn hvl)
            have HPT : Hid (pinR l ps a0 (ix ts a0).toNat = pinR l ps a0 v) := Lib.hid (by rw [HVV.out, Int.toNat_natCast])
            obtain ⟨x0, _⟩ := row1f Ki.out
            obtain ⟨y0, y1, _⟩ := row2 Ki1.out
            have hbTs : bT < wi.heap.size := by have := HB21.out; have := HB1i.out.size; omega
            have HTC : Hid (A2 = some ⟨bT, oT, none⟩) := Lib.hid hAT
            have HAL := Lib.hid hal
            clear ha0 hv hal hvl hAT
            rw [HTC.out]
            go_wp2_with fail
            refine HPN.out.mono ?_
            rintro e w4 ⟨rfl, hb⟩
            have HB4 : Hid (Below wo.heap.size wo w4) := Lib.hid (HBi.out.trans (hb.mono hzi))
            have HW4 : Hid (Below w.heap.size w w4) := Lib.hid (HWi.out.trans (hb.mono HWi.out.size))
            have HB14 : Hid (Below w1.heap.size w1 w4) := Lib.hid (HB1i.out.trans (hb.mono HB1i.out.size))
            have K4 : Hid (w4.heap[w.heap.size]? = _) := Lib.hid ((hb.block w.heap.size (heapE_lt Ki.out)).trans Ki.out)
            clear hb x0 y0 y1 kT HPN
            cases hp : pinR l ps a0 v with
            | false =>
              have HF : Hid (tgtB l ps ts = false) := Lib.hid (by
                rw [HT2.out, List.all_eq_false]
                exact ⟨a0, List.mem_range.2 (by rw [HVL.out]; exact hqn), by rw [HPT.out, hp]; simp⟩)
              clear hp
              go_wp2_with fail
              refine bodyPost_ret (results_tmp rfl _ _ _) rfl ⟨?_, HW4.out⟩
              exact congrArg (fun b => Ending.returned (.bool b)) HF.out.symm
            | true =>
              have HP := Lib.hid hp
              clear hp
              have hsl : (Instr.slice 52 (.slice (some ⟨bT, oT, none⟩) m c2) none (some (.int .i64 (a0 : Int))) none).run Try.prog w4 = .ok (.slice (some ⟨bT, oT, none⟩) a0 c2) w4 := slice_to Try.underlying52 (by kernel_rfl) infoInt (by rw [← HTC.out]; exact HCP.out) hq w4
              go_wp2_with fail
              clear hsl
              go_loopw [11, 12, 47] (fun _ _ v wr => ∃ k : Nat, k ≤ a0 ∧ v = .int .i64 (k : Int) ∧ Hid (Below w4.heap.size w4 wr) ∧ Hid (∀ i, i < k → fitsC l (i : Int) (ix ts i) (a0 : Int) (ix ts a0) = true)) (fun _ _ v _ => a0 - (intOf v).toNat)
              case atStart => exact ⟨0, Nat.zero_le _, rfl, Lib.hid (Below.refl _ _), Lib.hid (fun i h => absurd h (by omega))⟩
              case round =>
                obtain ⟨wk, hwk⟩ : ∃ x, x = wr := ⟨_, rfl⟩
                subst hwk
                obtain ⟨k, hk, rfl, HBk, HFK⟩ := hrel
                have HWk : Hid (Below w.heap.size w wk) := Lib.hid (HW4.out.trans (HBk.out.mono HW4.out.size))
                have HB1k : Hid (Below w1.heap.size w1 wk) := Lib.hid (HB14.out.trans (HBk.out.mono HB14.out.size))
                have Kk : Hid (wk.heap[w.heap.size]? = _) := Lib.hid ((HBk.out.block w.heap.size (heapE_lt K4.out)).trans K4.out)
                by_cases hkn : k < a0
                · have hd4 : decide ((k : Int) < (a0 : Int)) = true := by simp; omega
                  have hki : (k : Int) < (a0 : Int) := by omega
                  have hk0 : (0 : Int) ≤ (k : Int) := by omega
                  have hadd4 : IntKind.i64.wrap ((k : Int) + 1) = ((k + 1 : Nat) : Int) := by rw [IntWalk.i64_in _ (by omega)]; omega
                  obtain ⟨bU, oU, hAU, hbU, kU⟩ := (HV1.out.below (HB1k.out.mono HB21.out)).at_ (k := k) (by omega)
                  have hAU2 : some (⟨bT, oT, none⟩ : Addr) = some ⟨bU, oU, none⟩ := by rw [← HTC.out]; exact hAU
                  injection hAU2 with hAU2
                  injection hAU2 with e1 e2' _
                  subst e1 e2'
                  obtain ⟨u, HU⟩ : ∃ u, Hid (ix ts k = u) := ⟨_, Lib.hid rfl⟩
                  rw [HU.out] at kU
                  have HFT := Lib.hid (fits_any (i := (k : Int)) (v := u) (j := (a0 : Int)) (x := (v : Int)) (HA1.out.below HB1k.out))
                  obtain ⟨x0, _⟩ := row1f Kk.out
                  clear hAU
                  go_wp2_with fail
                  refine HFT.out.mono ?_
                  rintro e w5 ⟨rfl, hb⟩
                  have HB5 : Hid (Below w4.heap.size w4 w5) := Lib.hid (HBk.out.trans (hb.mono HBk.out.size))
                  have HW5 : Hid (Below w.heap.size w w5) := Lib.hid (HWk.out.trans (hb.mono HWk.out.size))
                  clear hb x0 kU HFT
                  cases hf : fitsC l (k : Int) u (a0 : Int) (v : Int) with
                  | false =>
                    have HF : Hid (tgtB l ps ts = false) := Lib.hid (by
                      rw [HT2.out, List.all_eq_false]
                      refine ⟨a0, List.mem_range.2 (by rw [HVL.out]; exact hqn), ?_⟩
                      rw [Bool.and_eq_true]
                      rintro ⟨_, h2⟩
                      rw [List.all_eq_true] at h2
                      have := h2 k (List.mem_range.2 hkn)
                      rw [HU.out, HVV.out, hf] at this
                      cases this)
                    clear hf
                    go_wp2_with fail
                    refine bodyPost_ret (results_tmp rfl _ _ _) rfl ⟨?_, HW5.out⟩
                    exact congrArg (fun b => Ending.returned (.bool b)) HF.out.symm
                  | true =>
                    have HF1 := Lib.hid hf
                    clear hf
                    go_wp2_with fail
                    go_roundw
                    case rel => exact ⟨k + 1, by omega, by go_num, HB5, Lib.hid (fun i hi => by
                      by_cases e : i = k
                      · subst e; rw [HU.out, HVV.out]; exact HF1.out
                      · exact HFK.out i (by omega))⟩
                    case measure => simp [intOf]; omega
                · have hd4 : decide ((k : Int) < (a0 : Int)) = false := by simp; omega
                  obtain rfl : k = a0 := by omega
                  go_wp2_with fail
                  go_roundw
                  case rel => exact ⟨k + 1, by omega, by go_num, Lib.hid (HB4.out.trans (HBk.out.mono HB4.out.size)), Lib.hid (fun i hi => by
                    by_cases e : i = k
                    · subst e
                      rw [HPT.out, HP.out, Bool.true_and, List.all_eq_true]
                      exact fun x hx => HFK.out x (List.mem_range.1 hx)
                    · exact HOK.out i (by omega))⟩
                  case measure => simp [intOf]; omega
          · have hd3 : decide ((q : Int) < (m : Int)) = false := by simp; omega
            have HF : Hid (tgtB l ps ts = true) := Lib.hid (by
              rw [HT2.out, List.all_eq_true]
              exact fun i hi => HOK.out i (by have := List.mem_range.1 hi; have := HVL.out; omega))
            go_wp2_with fail
            refine bodyPost_ret (results_tmp rfl _ _ _) rfl ⟨?_, HWi.out⟩
            exact congrArg (fun b => Ending.returned (.bool b)) HF.out.symm
end Go.Proofs.Yteiknbkigbdfgaa
