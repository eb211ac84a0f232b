/-
 CONTRACT of the document's release.
-/
import Derived.Test.YtminihiecloglaaGreatCQa
import Derived.Test.YtminihiecloglaaGreatROa
import Derived.Test.YtminihiecloglaaGreatSRefK
import Derived.Deep.RegionHeld3
set_option linter.unusedVariables false
set_option linter.unusedSimpArgs false
namespace Go.Proofs.YtminihiecloglaaGreat
open Go.RowKit
open SemP
set_option maxRecDepth 10000
theorem cmpPre_range (a b : Str) : cmpPre a b = -1 ∨ cmpPre a b = 0 ∨ cmpPre a b = 1 := by
 unfold cmpPre
 by_cases h : a = b
 ·rw [if_pos h]; simp
 ·rw [if_neg h]
  by_cases ha : a = []
  ·rw [if_pos ha]; simp
  ·rw [if_neg ha]
   by_cases hb : b = []
   ·rw [if_pos hb]; simp
   ·rw [if_neg hb]; exact (rowC_tot cmpMarks_tot).range _ _
theorem cmpV_range (a b : Ver) : cmpV a b = -1 ∨ cmpV a b = 0 ∨ cmpV a b = 1 :=
 orI_range (compareInt_tot.range _ _) (orI_range (compareInt_tot.range _ _) (orI_range (compareInt_tot.range _ _) (cmpPre_range _ _)))
theorem SmR.small {r : List (List CV)} (h : SmR r) : Small r := fun l hl x hx => by have := (h.2 l hl).2 x hx; omega
set_option maxHeartbeats 16000000 in
theorem releaseQ_any {w : World} {B n c i v : Nat} {A : Option Addr} {l : List Sv} (h : CatAt w B A n c l) (hi : i < n) (hv : v < (svAt l i).2.length) (hp : ∀ u, v = u + 1 → Ver.right (vOf (rlAt (svAt l i).2 u).1) = true ∧ 0 ≤ (rlAt (svAt l i).2 u).2.1) :
  Calls Tryz.prog 70 #[.agg #[.slice A n c], .int .i64 (i : Int), .int .i64 (v : Int)] w fun e w' => e = .returned (.int .i64 (relE n i (svAt l i).2 v)) ∧ Below w.heap.size w w' := by
 have HN : Hid (l.length = n) := Lib.hid h.rd.1
 have hn16 := h.n16
 have hle := h.le
 obtain ⟨b1, o1, Aj, nj, cj, rfl, hb1, k0, k1, hcap, hrr⟩ := sv_at h.rd hi
 have hb1w : b1 < w.heap.size := by omega
 have hsm := h.sm.2 _ (svAt_mem (i := i) (by rw [HN.out]; exact hi))
 obtain ⟨rls, HRL⟩ : ∃ x, Hid ((svAt l i).2 = x) := ⟨_, Lib.hid rfl⟩
 rw [HRL.out] at hrr hv hp
 rw [HRL.out]
 have hsm2 := hsm.2
 rw [HRL.out] at hsm2
 have HSM2 := Lib.hid hsm2
 have HP := Lib.hid hp
 have HNJ : Hid (rls.length = nj) := Lib.hid hrr.1
 have hvj : v < nj := by rw [← HNJ.out]; exact hv
 have hnj : nj ≤ 16 := by have := hsm2.1; have := HNJ.out; omega
 have hvi : (v : Int) < (nj : Int) := by omega
 have hii : (i : Int) < (n : Int) := by omega
 obtain ⟨b2, o2, A3, n3, c3, rfl, hb2, q0, q1, q2, q3, q4, q5, hcap3, hnd⟩ := rl_at hrr hvj
 have hb2w : b2 < w.heap.size := by omega
 have hsmr := hsm2.2 _ (rlAt_mem (i := v) (by rw [HNJ.out]; exact hvj))
 obtain ⟨x, HX⟩ : ∃ x, Hid (rlAt rls v = x) := ⟨_, Lib.hid rfl⟩
 rw [HX.out] at q0 q1 q2 q3 q4 hnd hsmr
 obtain ⟨⟨va, vb, vc, vs⟩, lv, nds⟩ := x
 simp only at q0 q1 q2 q3 q4 hnd
 have HS100 : Hid (vs.size ≤ 100) := Lib.hid hsmr.2.1
 have HSN : Hid (∀ p ∈ nds, SmR p.2) := Lib.hid hsmr.2.2
 have HN3 : Hid (nds.length = n3) := Lib.hid hnd.1
 have hn3 : n3 ≤ 12 := by have := hsmr.1; have h9 : nds.length = n3 := HN3.out; have h8 : nds.length ≤ 12 := this; omega
 have HRLS := Lib.hid hrr
 have HND := Lib.hid hnd
 have HK1 := Lib.hid k1
 have HV : Hid (relE n i rls v = if Ver.right ⟨va, vb, vc, bs vs⟩ = false then 34 else if 0 < v ∧ 0 ≤ cmpV (vOf (rlAt rls (v - 1)).1) ⟨va, vb, vc, bs vs⟩ then 32 else if lv < (if 0 < v then (rlAt rls (v - 1)).2.1 else 0) ∨ 1000 < lv then 35 else if 8 < n3 then 36 else needsE n i nds) := Lib.hid (by unfold relE; rw [HX.out]; rw [HN3.out]; rfl)
 obtain ⟨W, HW⟩ : ∃ W, Hid (W = (w.alloc (.cells #[.slice (some ⟨b1, o1, none⟩) n c] 29)).alloc (.cells #[.int .i64 va, .int .i64 vb, .int .i64 vc, .string vs, .int .i64 lv, .slice A3 n3 c3] 125)) := ⟨_, Lib.hid rfl⟩
 have hbl : Below w.heap.size w W := by rw [HW.out]; exact ((Below.refl _ w).alloc (Nat.le_refl _) _).alloc (by simp) _
 have hz : W.heap.size = w.heap.size + 2 := by rw [HW.out]; simp
 have H0 : Hid (W.heap[w.heap.size]? = some (.cells #[.slice (some ⟨b1, o1, none⟩) n c] 29 (0, 0))) := Lib.hid (by
  rw [HW.out, Below.heap_alloc _ _ _ (by simp)]; exact heap_new w _)
 have H1 : Hid (W.heap[w.heap.size + 1]? = some (.cells #[.int .i64 va, .int .i64 vb, .int .i64 vc, .string vs, .int .i64 lv, .slice A3 n3 c3] 125 (0, 0))) := Lib.hid (by
  rw [HW.out]
  have h := heap_new (w.alloc (.cells #[.slice (some ⟨b1, o1, none⟩) n c] 29)) (.cells #[.int .i64 va, .int .i64 vb, .int .i64 vc, .string vs, .int .i64 lv, .slice A3 n3 c3] 125)
  rw [World.size_alloc] at h; exact h)
 have HBL := Lib.hid hbl
 have HRT := Lib.hid (RefRight_any va vb vc vs W (by have := HS100.out; omega))
 clear hbl h hrr hsm hsm2 hnd hsmr hp
 go_enter Tryz.func70, Tryz.ntmps70
 go_upto_region 2 with fail
 change Code.wp _ _ _ _ ((w.alloc (.cells #[.slice (some ⟨b1, o1, none⟩) n c] 29)).alloc (.cells #[.int .i64 va, .int .i64 vb, .int .i64 vc, .string vs, .int .i64 lv, .slice A3 n3 c3] 125))
 rw [← HW.out]
 clear k0 k1 q0 q1 q2 q3 q4 q5
 obtain ⟨y0, y1, y2, y3, y4, y5, yf⟩ := r6_cells H1.out
 go_wp2_with fail
 refine HRT.out.mono ?_
 rintro e w2 ⟨rfl, hb⟩
 have HR2 : Hid (Below W.heap.size W w2) := Lib.hid hb
 have HB2 : Hid (Below w.heap.size w w2) := Lib.hid (HBL.out.trans (hb.mono HBL.out.size))
 have K2 : Hid (w2.heap[w.heap.size + 1]? = _) := Lib.hid ((hb.block (w.heap.size + 1) (heapE_lt H1.out)).trans H1.out)
 have K0 : Hid (w2.heap[w.heap.size]? = _) := Lib.hid ((hb.block w.heap.size (heapE_lt H0.out)).trans H0.out)
 clear hb y0 y1 y2 y3 y4 y5 yf HRT
 cases hq : Ver.right ⟨va, vb, vc, bs vs⟩ with
 | false =>
  have HE : Hid (relE n i rls v = 34) := Lib.hid (by rw [HV.out, hq]; rfl)
  clear hq
  go_wp2_with fail
  refine bodyPost_ret (results_tmp rfl _ _ _) rfl ⟨?_, HB2.out⟩
  exact congrArg (fun b => Ending.returned (.int .i64 b)) HE.out.symm
 | true =>
  have HQ := Lib.hid hq
  clear hq
  by_cases hv0 : v = 0
  ·subst hv0
   have HV2 : Hid (relE n i rls 0 = if lv < 0 ∨ 1000 < lv then 35 else if 8 < n3 then 36 else needsE n i nds) := Lib.hid (by rw [HV.out, HQ.out, if_neg (by decide), if_neg (by omega), if_neg (show ¬ 0 < 0 by omega)])
   obtain ⟨y0, y1, y2, y3, y4, y5, yf⟩ := r6_cells K2.out
   go_wp2_with fail
   go_quiet (fail)
   go_wp2_with fail
   by_cases h1 : lv < 0
   ·have HE : Hid (relE n i rls 0 = 35) := Lib.hid (by rw [HV2.out, if_pos (.inl h1)])
    have d1 : decide (lv < 0) = true := decide_eq_true h1
    go_quiet (fail)
    go_wp2_with fail
    refine bodyPost_ret (results_tmp rfl _ _ _) rfl ⟨?_, ?_⟩; exact congrArg (fun b => Ending.returned (.int .i64 b)) HE.out.symm
    first | exact HB2.out | exact Below.drewN' HB2.out _ | exact Below.drewN' (Below.drewN' HB2.out _) _
   have d1 : decide (lv < 0) = false := decide_eq_false h1
   by_cases h2 : 1000 < lv
   ·have HE : Hid (relE n i rls 0 = 35) := Lib.hid (by rw [HV2.out, if_pos (.inr h2)])
    have d2 : decide (1000 < lv) = true := decide_eq_true h2
    go_quiet (fail)
    go_wp2_with fail
    refine bodyPost_ret (results_tmp rfl _ _ _) rfl ⟨?_, ?_⟩; exact congrArg (fun b => Ending.returned (.int .i64 b)) HE.out.symm
    first | exact HB2.out | exact Below.drewN' HB2.out _ | exact Below.drewN' (Below.drewN' HB2.out _) _
   have d2 : decide (1000 < lv) = false := decide_eq_false h2
   have HV4 : Hid (relE n i rls 0 = if 8 < n3 then 36 else needsE n i nds) := Lib.hid (by rw [HV2.out, if_neg (by omega)])
   by_cases h8 : 8 < n3
   ·have d8 : decide ((8 : Int) < (n3 : Int)) = true := by simp; omega
    have p8 : (8 : Int) < (n3 : Int) := by omega
    have HE : Hid (relE n i rls 0 = 36) := Lib.hid (by rw [HV4.out, if_pos h8])
    go_quiet (fail)
    go_wp2_with fail
    refine bodyPost_ret (results_tmp rfl _ _ _) rfl ⟨?_, ?_⟩; exact congrArg (fun b => Ending.returned (.int .i64 b)) HE.out.symm
    first | exact HB2.out | exact Below.drewN' HB2.out _ | exact Below.drewN' (Below.drewN' HB2.out _) _
   have d8 : decide ((8 : Int) < (n3 : Int)) = false := by simp; omega
   have p8 : ¬ (8 : Int) < (n3 : Int) := by omega
   have HV5 : Hid (relE n i rls 0 = needsE n i nds) := Lib.hid (by rw [HV4.out, if_neg h8])
   go_quiet (fail)
   go_wp2_with fail
   clear y0 y1 y2 y3 y4 y5 yf h8
   go_loopw [8, 9, 10] (fun v _ _ wr => ∃ k : Nat, k ≤ n3 ∧ v = .int .i64 (k : Int) ∧ Hid (Below W.heap.size W wr) ∧ Hid (∀ j, j < k → badI (needE n i nds j) = false)) (fun v _ _ _ => n3 - (intOf v).toNat)
   case atStart => exact ⟨0, Nat.zero_le _, rfl, Lib.hid (by first | exact Below.drewN' HR2.out _ | exact Below.drewN' (Below.drewN' HR2.out _) _), Lib.hid (fun j h => absurd h (by omega))⟩
   case round =>
    obtain ⟨wo, hwo⟩ : ∃ x, x = wr := ⟨_, rfl⟩
    subst hwo
    obtain ⟨k, hk, rfl, HRo, HOK⟩ := hrel
    have hzr := HRo.out.size
    have HBR : Hid (Below w.heap.size w wo) := Lib.hid (HBL.out.trans (HRo.out.mono (by omega)))
    have KO : Hid (wo.heap[w.heap.size + 1]? = _) := Lib.hid ((HRo.out.block (w.heap.size + 1) (heapE_lt H1.out)).trans H1.out)
    obtain ⟨y0, y1, y2, y3, y4, y5, yf⟩ := r6_cells KO.out
    by_cases hkm : k < n3
    ·have hd : decide ((k : Int) < (n3 : Int)) = true := by simp; omega
     have hki : (k : Int) < (n3 : Int) := by omega
     have hadd : IntKind.i64.wrap ((k : Int) + 1) = ((k + 1 : Nat) : Int) := by rw [IntWalk.i64_in _ (by omega)]; omega
     have HKL : Hid (k < nds.length) := Lib.hid (by rw [HN3.out]; exact hkm)
     obtain ⟨b5, o5, A6, n6, c6, rfl, hb5, k0, k1, _, hr6⟩ := nd_at (RdJ.below' pn_turns HND.out hle HBR.out) hkm
     have hb5w : b5 < wo.heap.size := by omega
     have HSR : Hid (SmR (pnAt nds k).2) := Lib.hid (HSN.out _ (pnAt_mem HKL.out))
     obtain ⟨x, HXP⟩ : ∃ x, Hid (pnAt nds k = x) := ⟨_, Lib.hid rfl⟩
     rw [HXP.out] at k0 hr6
     have HSX : Hid (SmR x.2) := Lib.hid (by have := HSR.out; rw [HXP.out] at this; exact this)
     obtain ⟨sv, rg⟩ := x
     simp only at k0 hr6
     have HNE : Hid (needE n i nds k = if (sv < 0 ∨ (n : Int) ≤ sv) ∨ sv = (i : Int) then 33 else if (nds.take k).any (fun y => decide (y.1 = sv)) then 31 else if rightR rg then 0 else 12) := Lib.hid (by unfold needE; rw [HXP.out])
     have HHIT : Hid (∀ e : Int, needE n i nds k = e → e ≠ 0 → relE n i rls 0 = e) := Lib.hid (fun e he h0 => by
      rw [HV5.out]
      unfold needsE
      rw [fst1_hit (z := (0 : Int)) rfl HOK.out (badI_yes.2 (by rw [he]; exact h0)) HKL.out, he])
     obtain ⟨X, HXX⟩ : ∃ X, Hid (X = wo.alloc (.cells #[.int .i64 sv, .slice A6 n6 c6] 148)) := ⟨_, Lib.hid rfl⟩
     have hbx : Below wo.heap.size wo X := by rw [HXX.out]; exact (Below.refl _ wo).alloc (Nat.le_refl _) _
     have HX0 : Hid (X.heap[wo.heap.size]? = some (.cells #[.int .i64 sv, .slice A6 n6 c6] 148 (0, 0))) := Lib.hid (by rw [HXX.out]; exact heap_new wo _)
     have HXS : Hid (X.heap.size = wo.heap.size + 1) := Lib.hid (by rw [HXX.out]; simp)
     have HBX0 : Hid (Below W.heap.size W X) := Lib.hid (HRo.out.trans (hbx.mono hzr))
     have HBX : Hid (Below w.heap.size w X) := Lib.hid (HBR.out.trans (hbx.mono HBR.out.size))
     have HRR : Hid (RdR X B A6 n6 rg) := Lib.hid (hr6.below (hbx.mono (by omega)))
     obtain ⟨x0, _⟩ := row1f ((HBX0.out.block w.heap.size (by omega)).trans H0.out)
     obtain ⟨u0, u1, _, _⟩ := row2 HX0.out
     clear hr6 hbx
     go_upto_region 14 with fail
     change Code.wp _ _ _ _ (wo.alloc (.cells #[.int .i64 sv, .slice A6 n6 c6] 148))
     rw [← HXX.out]
     clear k0 k1 y0 y1 y2 y3 y4 y5 yf
     by_cases hsv : sv < 0
     ·have d9 : decide (sv < 0) = true := decide_eq_true hsv
      have HE : Hid (relE n i rls 0 = 33) := Lib.hid (HHIT.out 33 (by rw [HNE.out, if_pos (.inl (.inl hsv))]) (by decide))
      go_wp2_with fail
      refine bodyPost_ret (results_tmp rfl _ _ _) rfl ⟨?_, ?_⟩; exact congrArg (fun b => Ending.returned (.int .i64 b)) HE.out.symm
      first | exact HBX.out | exact Below.drewN' HBX.out _ | exact Below.drewN' (Below.drewN' HBX.out _) _
     have d9 : decide (sv < 0) = false := decide_eq_false hsv
     by_cases hsn : (n : Int) ≤ sv
     ·have d10 : decide ((n : Int) ≤ sv) = true := decide_eq_true hsn
      have HE : Hid (relE n i rls 0 = 33) := Lib.hid (HHIT.out 33 (by rw [HNE.out, if_pos (.inl (.inr hsn))]) (by decide))
      go_wp2_with fail
      refine bodyPost_ret (results_tmp rfl _ _ _) rfl ⟨?_, ?_⟩; exact congrArg (fun b => Ending.returned (.int .i64 b)) HE.out.symm
      first | exact HBX.out | exact Below.drewN' HBX.out _ | exact Below.drewN' (Below.drewN' HBX.out _) _
     have d10 : decide ((n : Int) ≤ sv) = false := decide_eq_false hsn
     by_cases hsi : sv = (i : Int)
     ·have HE : Hid (relE n i rls 0 = 33) := Lib.hid (HHIT.out 33 (by rw [HNE.out, if_pos (.inr hsi)]) (by decide))
      have d11 : (sv == (i : Int)) = true := by rw [beq_iff_eq]; exact hsi
      go_wp2_with fail
      refine bodyPost_ret (results_tmp rfl _ _ _) rfl ⟨?_, ?_⟩; exact congrArg (fun b => Ending.returned (.int .i64 b)) HE.out.symm
      first | exact HBX.out | exact Below.drewN' HBX.out _ | exact Below.drewN' (Below.drewN' HBX.out _) _
     have d11 : (sv == (i : Int)) = false := by rw [beq_eq_false_iff_ne]; exact hsi
     have HNE2 : Hid (needE n i nds k = if (nds.take k).any (fun y => decide (y.1 = sv)) then 31 else if rightR rg then 0 else 12) := Lib.hid (by rw [HNE.out, if_neg (by omega)])
     go_wp2_with fail
     clear x0 u0 u1
     go_loopw [10] (fun v wr => ∃ q : Nat, q ≤ k ∧ v = .int .i64 (q : Int) ∧ Hid (Below X.heap.size X wr) ∧ Hid (∀ j, j < q → (pnAt nds j).1 ≠ sv)) (fun v _ => k - (intOf v).toNat)
     case atStart => exact ⟨0, Nat.zero_le _, rfl, Lib.hid (Below.refl _ _), Lib.hid (fun j h => absurd h (by omega))⟩
     case round =>
      obtain ⟨wi, hwi⟩ : ∃ x, x = wr := ⟨_, rfl⟩
      subst hwi
      obtain ⟨q, hq, rfl, HRi, HOKi⟩ := hrel
      have hzi := HRi.out.size
      have HBi : Hid (Below w.heap.size w wi) := Lib.hid (HBX.out.trans (HRi.out.mono HBX.out.size))
      have HBi0 : Hid (Below W.heap.size W wi) := Lib.hid (HBX0.out.trans (HRi.out.mono HBX0.out.size))
      obtain ⟨y0, y1, y2, y3, y4, y5, yf⟩ := r6_cells ((HBi0.out.block (w.heap.size + 1) (heapE_lt H1.out)).trans H1.out)
      obtain ⟨u0, u1, _, _⟩ := row2 ((HRi.out.block wo.heap.size (heapE_lt HX0.out)).trans HX0.out)
      by_cases hqk : q < k
      ·have hd2 : decide ((q : Int) < (k : Int)) = true := by simp; omega
       have hqi : (q : Int) < (k : Int) := by omega
       have hqn : (q : Int) < (n3 : Int) := by omega
       have hadd2 : IntKind.i64.wrap ((q : Int) + 1) = ((q + 1 : Nat) : Int) := by rw [IntWalk.i64_in _ (by omega)]; omega
       obtain ⟨b5', o5', A7, n7, c7, he5, hb5', k0, k1, _, _⟩ := nd_at (RdJ.below' pn_turns HND.out hle HBi.out) (show q < n3 by omega)
       injection he5 with he5
       injection he5 with e51 e52
       subst e51 e52
       have HQL : Hid (q < nds.length) := Lib.hid (by rw [HN3.out]; omega)
       by_cases hqs : (pnAt nds q).1 = sv
       ·have HE : Hid (relE n i rls 0 = 31) := Lib.hid (HHIT.out 31 (by
         have hany : (nds.take k).any (fun y => decide (y.1 = sv)) = true := by
          rw [List.any_eq_true]
          refine ⟨pnAt nds q, ?_, decide_eq_true hqs⟩
          have hql := HQL.out
          rw [show pnAt nds q = nds[q] by simp [pnAt, List.getD, hql]]
          exact List.mem_take_iff_getElem.2 ⟨q, by omega, rfl⟩
         rw [HNE2.out, hany]; rfl) (by decide))
        rw [hqs] at k0
        clear hqs
        go_wp2_with fail
        go_quiet (fail)
        go_wp2_with fail
        refine bodyPost_ret (results_tmp rfl _ _ _) rfl ⟨?_, ?_⟩; exact congrArg (fun b => Ending.returned (.int .i64 b)) HE.out.symm
        first | exact HBi.out | exact Below.drewN' HBi.out _ | exact Below.drewN' (Below.drewN' HBi.out _) _
       ·have HNQ := Lib.hid hqs
        obtain ⟨pj, HPJ⟩ : ∃ pj, Hid ((pnAt nds q).1 = pj) := ⟨_, Lib.hid rfl⟩
        rw [HPJ.out] at k0 hqs
        have h3 : (pj == sv) = false := by rw [beq_eq_false_iff_ne]; exact hqs
        go_wp2_with fail
        go_quiet (fail)
        clear k0 k1 y0 y1 y2 y3 y4 y5 yf u0 u1
        go_wp2_with fail
        go_roundw
        case rel => exact ⟨q + 1, by omega, by go_num, Lib.hid (Below.drewN' HRi.out _), Lib.hid (fun j hj => by
         by_cases e : j = q
         ·subst e; exact HNQ.out
         ·exact HOKi.out j (by omega))⟩
        case measure => simp [intOf]; omega
      ·have hd2 : decide ((q : Int) < (k : Int)) = false := by simp; omega
       have hqi : ¬ (q : Int) < (k : Int) := by omega
       have HNE3 : Hid (needE n i nds k = if rightR rg then 0 else 12) := Lib.hid (by
        have hany : (nds.take k).any (fun y => decide (y.1 = sv)) = false := by
         refine List.any_eq_false.2 fun y hy => ?_
         obtain ⟨j, hj, rfl⟩ := List.mem_take_iff_getElem.1 hy
         have h := HOKi.out j (by omega)
         rw [show pnAt nds j = nds[j] by simp [pnAt, List.getD, show j < nds.length by omega]] at h
         rw [decide_eq_false h]; simp
        rw [HNE2.out, hany, if_neg (by decide)])
       have HRRi : Hid (RdR wi B A6 n6 rg) := Lib.hid (HRR.out.below (HRi.out.mono (Nat.le_trans hle HBX.out.size)))
       have HRT := Lib.hid (RefRgRight_any A6 n6 c6 rg wi B HRRi.out (Nat.le_trans hle HBi.out.size) HSX.out.small)
       go_wp2_with fail
       refine HRT.out.mono ?_
       rintro e w4 ⟨rfl, hb⟩
       have HB4 : Hid (Below w.heap.size w w4) := Lib.hid (HBi.out.trans (hb.mono HBi.out.size))
       have HB04 : Hid (Below W.heap.size W w4) := Lib.hid (HBi0.out.trans (hb.mono HBi0.out.size))
       clear hb HRT y0 y1 y2 y3 y4 y5 yf u0 u1
       cases hqr : rightR rg with
       | false =>
        have HE : Hid (relE n i rls 0 = 12) := Lib.hid (HHIT.out 12 (by rw [HNE3.out, hqr]; rfl) (by decide))
        clear hqr
        go_wp2_with fail
        refine bodyPost_ret (results_tmp rfl _ _ _) rfl ⟨?_, ?_⟩; exact congrArg (fun b => Ending.returned (.int .i64 b)) HE.out.symm
        first | exact HB4.out | exact Below.drewN' HB4.out _ | exact Below.drewN' (Below.drewN' HB4.out _) _
       | true =>
        have HE : Hid (badI (needE n i nds k) = false) := Lib.hid (by rw [HNE3.out, hqr]; rfl)
        clear hqr
        go_wp2_with fail
        go_roundw
        case rel => exact ⟨k + 1, by omega, by go_num, HB04, Lib.hid (fun j hj => by
         by_cases e : j = k
         ·subst e; exact HE.out
         ·exact HOK.out j (by omega))⟩
        case measure => simp [intOf]; omega
    ·have hd : decide ((k : Int) < (n3 : Int)) = false := by simp; omega
     have hki : ¬ (k : Int) < (n3 : Int) := by omega
     have HE : Hid (relE n i rls 0 = 0) := Lib.hid (by
      have hkk : k = n3 := by omega
      rw [HV5.out]; unfold needsE; rw [HN3.out]; exact fst1_ok rfl (by rw [← hkk]; exact HOK.out))
     go_wp2_with fail
     refine bodyPost_ret (results_tmp rfl _ _ _) rfl ⟨?_, ?_⟩; exact congrArg (fun b => Ending.returned (.int .i64 b)) HE.out.symm
     first | exact HBR.out | exact Below.drewN' HBR.out _ | exact Below.drewN' (Below.drewN' HBR.out _) _
  ·obtain ⟨u, rfl⟩ : ∃ u, v = u + 1 := ⟨v - 1, by omega⟩
   have hpos : decide ((0 : Int) < ((u + 1 : Nat) : Int)) = true := decide_eq_true (by omega)
   have hsub : IntKind.i64.wrap (((u + 1 : Nat) : Int) - 1) = (u : Int) := by rw [IntWalk.i64_in _ (by omega)]; omega
   have hsub2 : IntKind.i64.wrap ((u : Int) + 1 - 1) = (u : Int) := by rw [IntWalk.i64_in _ (by omega)]; omega
   have hsub3 : IntKind.i64.wrap (u : Int) = (u : Int) := by rw [IntWalk.i64_in _ (by omega)]
   have hu0 : (0 : Int) ≤ (u : Int) := by omega
   have hi0 : (0 : Int) ≤ (i : Int) := by omega
   have HRL2 : Hid (RdJ 6 reI w2 (fun b => B ≤ b) (some ⟨b2, o2, none⟩) nj rls) := Lib.hid (RdJ.below' re_turns HRLS.out hle HB2.out)
   have huj : u < nj := by omega
   have hui : (u : Int) < (nj : Int) := by omega
   obtain ⟨b2', o2', A4, n4, c4, he, hb2', p0, p1, p2, p3, p4, p5, _, hnd4⟩ := rl_at HRL2.out huj
   injection he with he
   injection he with e1 e2
   subst e1 e2
   have hsp1 := (HSM2.out.2 _ (rlAt_mem (i := u) (by rw [HNJ.out]; exact huj))).2.1
   have hpp := HP.out u rfl
   obtain ⟨y, HY⟩ : ∃ y, Hid (rlAt rls u = y) := ⟨_, Lib.hid rfl⟩
   rw [HY.out] at p0 p1 p2 p3 p4 hsp1 hpp
   obtain ⟨⟨pa, pb, pc, ps⟩, pl, pn⟩ := y
   simp only at p0 p1 p2 p3 p4 hsp1
   have HPS := Lib.hid hsp1
   have HPP : Hid (Ver.right ⟨pa, pb, pc, bs ps⟩ = true ∧ 0 ≤ pl) := Lib.hid hpp
   have hb2w2 : b2 < w2.heap.size := by have := HB2.out.size; omega
   have hb1w2 : b1 < w2.heap.size := by have := HB2.out.size; omega
   obtain ⟨cr, HCR⟩ : ∃ cr, Hid (cmpV ⟨pa, pb, pc, bs ps⟩ ⟨va, vb, vc, bs vs⟩ = cr) := ⟨_, Lib.hid rfl⟩
   have HCRR : Hid (refV ⟨pa, pb, pc, bs ps⟩ ⟨va, vb, vc, bs vs⟩ = cr) := Lib.hid (by rw [refV_cmp HPP.out.1 HQ.out, HCR.out])
   have HCRN : Hid (cr = -1 ∨ cr = 0 ∨ cr = 1) := Lib.hid (by rw [← HCR.out]; exact cmpV_range _ _)
   have HV2 : Hid (relE n i rls (u + 1) = if 0 ≤ cr then 32 else if lv < pl ∨ 1000 < lv then 35 else if 8 < n3 then 36 else needsE n i nds) := Lib.hid (by
    rw [HV.out, HQ.out, if_neg (by decide), Nat.add_sub_cancel, HY.out]
    simp only [vOf, show 0 < u + 1 by omega, if_true, true_and]; rw [HCR.out])
   have HCM : Hid (Calls Tryz.prog 96 #[verV pa pb pc ps, verV va vb vc vs] (w2.drewN 1) fun e w' => e = .returned (.int .i64 cr) ∧ Below (w2.drewN 1).heap.size (w2.drewN 1) w') := Lib.hid (by rw [← HCRR.out]; exact RefCompare_any pa pb pc ps va vb vc vs (w2.drewN 1) (by have := HPS.out; omega) (by have := HS100.out; omega))
   obtain ⟨y0, y1, y2, y3, y4, y5, yf⟩ := r6_cells K2.out
   obtain ⟨x0, _⟩ := row1f K0.out
   have k1' := (HB2.out.cell (p := ⟨b1, o1 + i * 2 + 1, none⟩) hb1w).trans HK1.out
   clear hnd4 hsp1 hv hv0 hpp
   go_wp2_with fail
   go_region_held3 (fun W => W.cell? ⟨b2, o2 + u * 6, none⟩ = some (.int .i64 pa) ∧ W.cell? ⟨b2, o2 + u * 6 + 1, none⟩ = some (.int .i64 pb) ∧ W.cell? ⟨b2, o2 + u * 6 + 2, none⟩ = some (.int .i64 pc) ∧ W.cell? ⟨b2, o2 + u * 6 + 3, none⟩ = some (.string ps) ∧ W.cell? ⟨w.heap.size + 1, 0, none⟩ = some (.int .i64 va) ∧ W.cell? ⟨w.heap.size + 1, 1, none⟩ = some (.int .i64 vb) ∧ W.cell? ⟨w.heap.size + 1, 2, none⟩ = some (.int .i64 vc) ∧ W.cell? ⟨w.heap.size + 1, 3, none⟩ = some (.string vs) ∧ W.cell? ⟨w.heap.size, 0, none⟩ = some (.slice (some ⟨b1, o1, none⟩) n c) ∧ W.cell? ⟨b1, o1 + i * 2 + 1, none⟩ = some (.slice (some ⟨b2, o2, none⟩) nj cj)) ((first | exact ⟨p0, p1, p2, p3, y0, y1, y2, y3, x0, k1'⟩ | exact ⟨z0, z1, z2, z3, z4, z5, z6, z7, z8, z9⟩ | go_keep)) (first
    | (go_at_call 96; refine HCM.out.mono ?_; rintro e w3 ⟨rfl, hb'⟩; (have hb : Below w2.heap.size w2 w3 := (Below.drewN' (Below.refl _ w2) 1).trans hb'); (have z0 := (hb.cell (p := ⟨b2, o2 + u * 6, none⟩) hb2w2).trans p0); (have z1 := (hb.cell (p := ⟨b2, o2 + u * 6 + 1, none⟩) hb2w2).trans p1); (have z2 := (hb.cell (p := ⟨b2, o2 + u * 6 + 2, none⟩) hb2w2).trans p2); (have z3 := (hb.cell (p := ⟨b2, o2 + u * 6 + 3, none⟩) hb2w2).trans p3); (have hkk := (hb.block (w.heap.size + 1) (heapE_lt K2.out)).trans K2.out); (obtain ⟨z4, z5, z6, z7, _⟩ := r6_cells hkk); (have z8 := (row1f ((hb.block w.heap.size (heapE_lt K0.out)).trans K0.out)).1); (have z9 := (hb.cell (p := ⟨b1, o1 + i * 2 + 1, none⟩) hb1w2).trans k1'); (have HBW3 := Lib.hid hb); clear hb hb' hkk))
   have hb := HBW3.out
   have HR3 : Hid (Below W.heap.size W w3) := Lib.hid (HR2.out.trans (hb.mono HR2.out.size))
   have HB3 : Hid (Below w.heap.size w w3) := Lib.hid (HB2.out.trans (hb.mono HB2.out.size))
   have K3 : Hid (w3.heap[w.heap.size + 1]? = _) := Lib.hid ((hb.block (w.heap.size + 1) (heapE_lt K2.out)).trans K2.out)
   have K03 : Hid (w3.heap[w.heap.size]? = _) := Lib.hid ((hb.block w.heap.size (heapE_lt K0.out)).trans K0.out)
   have p4' := (hb.cell (p := ⟨b2, o2 + u * 6 + 4, none⟩) (by show b2 < w2.heap.size; omega)).trans p4
   have k1'' := (hb.cell (p := ⟨b1, o1 + i * 2 + 1, none⟩) hb1w2).trans k1'
   clear hb HBW3 y0 y1 y2 y3 y4 y5 yf HCM p0 p1 p2 p3 p4 p5 z0 z1 z2 z3 z4 z5 z6 z7 z8 z9 x0 k1'
   by_cases hc : cr = -1
   ·subst hc
    have HV3 : Hid (relE n i rls (u + 1) = if lv < pl ∨ 1000 < lv then 35 else if 8 < n3 then 36 else needsE n i nds) := Lib.hid (by rw [HV2.out, if_neg (by decide)])
    obtain ⟨y0, y1, y2, y3, y4, y5, yf⟩ := r6_cells K3.out
    obtain ⟨x0, _⟩ := row1f K03.out
    go_wp2_with fail
    by_cases h1 : lv < 0
    ·have HE : Hid (relE n i rls (u + 1) = 35) := Lib.hid (by rw [HV3.out, if_pos (.inl (by have := HPP.out.2; omega))])
     have d1 : decide (lv < 0) = true := decide_eq_true h1
     go_quiet (fail)
     go_wp2_with fail
     refine bodyPost_ret (results_tmp rfl _ _ _) rfl ⟨?_, ?_⟩; exact congrArg (fun b => Ending.returned (.int .i64 b)) HE.out.symm
     first | exact HB3.out | exact Below.drewN' HB3.out _ | exact Below.drewN' (Below.drewN' HB3.out _) _
    have d1 : decide (lv < 0) = false := decide_eq_false h1
    by_cases h2 : 1000 < lv
    ·have HE : Hid (relE n i rls (u + 1) = 35) := Lib.hid (by rw [HV3.out, if_pos (.inr h2)])
     have d2 : decide (1000 < lv) = true := decide_eq_true h2
     go_quiet (fail)
     go_wp2_with fail
     refine bodyPost_ret (results_tmp rfl _ _ _) rfl ⟨?_, ?_⟩; exact congrArg (fun b => Ending.returned (.int .i64 b)) HE.out.symm
     first | exact HB3.out | exact Below.drewN' HB3.out _ | exact Below.drewN' (Below.drewN' HB3.out _) _
    have d2 : decide (1000 < lv) = false := decide_eq_false h2
    by_cases h3 : lv < pl
    ·have HE : Hid (relE n i rls (u + 1) = 35) := Lib.hid (by rw [HV3.out, if_pos (.inl h3)])
     have d3 : decide (lv < pl) = true := decide_eq_true h3
     go_quiet (fail)
     go_wp2_with fail
     refine bodyPost_ret (results_tmp rfl _ _ _) rfl ⟨?_, ?_⟩; exact congrArg (fun b => Ending.returned (.int .i64 b)) HE.out.symm
     first | exact HB3.out | exact Below.drewN' HB3.out _ | exact Below.drewN' (Below.drewN' HB3.out _) _
    have d3 : decide (lv < pl) = false := decide_eq_false h3
    have HV4 : Hid (relE n i rls (u + 1) = if 8 < n3 then 36 else needsE n i nds) := Lib.hid (by rw [HV3.out, if_neg (by omega)])
    by_cases h8 : 8 < n3
    ·have d8 : decide ((8 : Int) < (n3 : Int)) = true := by simp; omega
     have p8 : (8 : Int) < (n3 : Int) := by omega
     have HE : Hid (relE n i rls (u + 1) = 36) := Lib.hid (by rw [HV4.out, if_pos h8])
     go_quiet (fail)
     go_wp2_with fail
     refine bodyPost_ret (results_tmp rfl _ _ _) rfl ⟨?_, ?_⟩; exact congrArg (fun b => Ending.returned (.int .i64 b)) HE.out.symm
     first | exact HB3.out | exact Below.drewN' HB3.out _ | exact Below.drewN' (Below.drewN' HB3.out _) _
    have d8 : decide ((8 : Int) < (n3 : Int)) = false := by simp; omega
    have p8 : ¬ (8 : Int) < (n3 : Int) := by omega
    have HV5 : Hid (relE n i rls (u + 1) = needsE n i nds) := Lib.hid (by rw [HV4.out, if_neg h8])
    go_quiet (fail)
    go_wp2_with fail
    clear y0 y1 y2 y3 y4 y5 yf h8
    go_loopw [8, 9, 10] (fun v _ _ wr => ∃ k : Nat, k ≤ n3 ∧ v = .int .i64 (k : Int) ∧ Hid (Below W.heap.size W wr) ∧ Hid (∀ j, j < k → badI (needE n i nds j) = false)) (fun v _ _ _ => n3 - (intOf v).toNat)
    case atStart => exact ⟨0, Nat.zero_le _, rfl, Lib.hid (by first | exact Below.drewN' HR3.out _ | exact Below.drewN' (Below.drewN' HR3.out _) _), Lib.hid (fun j h => absurd h (by omega))⟩
    case round =>
     obtain ⟨wo, hwo⟩ : ∃ x, x = wr := ⟨_, rfl⟩
     subst hwo
     obtain ⟨k, hk, rfl, HRo, HOK⟩ := hrel
     have hzr := HRo.out.size
     have HBR : Hid (Below w.heap.size w wo) := Lib.hid (HBL.out.trans (HRo.out.mono (by omega)))
     have KO : Hid (wo.heap[w.heap.size + 1]? = _) := Lib.hid ((HRo.out.block (w.heap.size + 1) (heapE_lt H1.out)).trans H1.out)
     obtain ⟨y0, y1, y2, y3, y4, y5, yf⟩ := r6_cells KO.out
     by_cases hkm : k < n3
     ·have hd : decide ((k : Int) < (n3 : Int)) = true := by simp; omega
      have hki : (k : Int) < (n3 : Int) := by omega
      have hadd : IntKind.i64.wrap ((k : Int) + 1) = ((k + 1 : Nat) : Int) := by rw [IntWalk.i64_in _ (by omega)]; omega
      have HKL : Hid (k < nds.length) := Lib.hid (by rw [HN3.out]; exact hkm)
      obtain ⟨b5, o5, A6, n6, c6, rfl, hb5, k0, k1, _, hr6⟩ := nd_at (RdJ.below' pn_turns HND.out hle HBR.out) hkm
      have hb5w : b5 < wo.heap.size := by omega
      have HSR : Hid (SmR (pnAt nds k).2) := Lib.hid (HSN.out _ (pnAt_mem HKL.out))
      obtain ⟨x, HXP⟩ : ∃ x, Hid (pnAt nds k = x) := ⟨_, Lib.hid rfl⟩
      rw [HXP.out] at k0 hr6
      have HSX : Hid (SmR x.2) := Lib.hid (by have := HSR.out; rw [HXP.out] at this; exact this)
      obtain ⟨sv, rg⟩ := x
      simp only at k0 hr6
      have HNE : Hid (needE n i nds k = if (sv < 0 ∨ (n : Int) ≤ sv) ∨ sv = (i : Int) then 33 else if (nds.take k).any (fun y => decide (y.1 = sv)) then 31 else if rightR rg then 0 else 12) := Lib.hid (by unfold needE; rw [HXP.out])
      have HHIT : Hid (∀ e : Int, needE n i nds k = e → e ≠ 0 → relE n i rls (u + 1) = e) := Lib.hid (fun e he h0 => by
       rw [HV5.out]
       unfold needsE
       rw [fst1_hit (z := (0 : Int)) rfl HOK.out (badI_yes.2 (by rw [he]; exact h0)) HKL.out, he])
      obtain ⟨X, HXX⟩ : ∃ X, Hid (X = wo.alloc (.cells #[.int .i64 sv, .slice A6 n6 c6] 148)) := ⟨_, Lib.hid rfl⟩
      have hbx : Below wo.heap.size wo X := by rw [HXX.out]; exact (Below.refl _ wo).alloc (Nat.le_refl _) _
      have HX0 : Hid (X.heap[wo.heap.size]? = some (.cells #[.int .i64 sv, .slice A6 n6 c6] 148 (0, 0))) := Lib.hid (by rw [HXX.out]; exact heap_new wo _)
      have HXS : Hid (X.heap.size = wo.heap.size + 1) := Lib.hid (by rw [HXX.out]; simp)
      have HBX0 : Hid (Below W.heap.size W X) := Lib.hid (HRo.out.trans (hbx.mono hzr))
      have HBX : Hid (Below w.heap.size w X) := Lib.hid (HBR.out.trans (hbx.mono HBR.out.size))
      have HRR : Hid (RdR X B A6 n6 rg) := Lib.hid (hr6.below (hbx.mono (by omega)))
      obtain ⟨x0, _⟩ := row1f ((HBX0.out.block w.heap.size (by omega)).trans H0.out)
      obtain ⟨u0, u1, _, _⟩ := row2 HX0.out
      clear hr6 hbx
      go_upto_region 14 with fail
      change Code.wp _ _ _ _ (wo.alloc (.cells #[.int .i64 sv, .slice A6 n6 c6] 148))
      rw [← HXX.out]
      clear k0 k1 y0 y1 y2 y3 y4 y5 yf
      by_cases hsv : sv < 0
      ·have d9 : decide (sv < 0) = true := decide_eq_true hsv
       have HE : Hid (relE n i rls (u + 1) = 33) := Lib.hid (HHIT.out 33 (by rw [HNE.out, if_pos (.inl (.inl hsv))]) (by decide))
       go_wp2_with fail
       refine bodyPost_ret (results_tmp rfl _ _ _) rfl ⟨?_, ?_⟩; exact congrArg (fun b => Ending.returned (.int .i64 b)) HE.out.symm
       first | exact HBX.out | exact Below.drewN' HBX.out _ | exact Below.drewN' (Below.drewN' HBX.out _) _
      have d9 : decide (sv < 0) = false := decide_eq_false hsv
      by_cases hsn : (n : Int) ≤ sv
      ·have d10 : decide ((n : Int) ≤ sv) = true := decide_eq_true hsn
       have HE : Hid (relE n i rls (u + 1) = 33) := Lib.hid (HHIT.out 33 (by rw [HNE.out, if_pos (.inl (.inr hsn))]) (by decide))
       go_wp2_with fail
       refine bodyPost_ret (results_tmp rfl _ _ _) rfl ⟨?_, ?_⟩; exact congrArg (fun b => Ending.returned (.int .i64 b)) HE.out.symm
       first | exact HBX.out | exact Below.drewN' HBX.out _ | exact Below.drewN' (Below.drewN' HBX.out _) _
      have d10 : decide ((n : Int) ≤ sv) = false := decide_eq_false hsn
      by_cases hsi : sv = (i : Int)
      ·have HE : Hid (relE n i rls (u + 1) = 33) := Lib.hid (HHIT.out 33 (by rw [HNE.out, if_pos (.inr hsi)]) (by decide))
       have d11 : (sv == (i : Int)) = true := by rw [beq_iff_eq]; exact hsi
       go_wp2_with fail
       refine bodyPost_ret (results_tmp rfl _ _ _) rfl ⟨?_, ?_⟩; exact congrArg (fun b => Ending.returned (.int .i64 b)) HE.out.symm
       first | exact HBX.out | exact Below.drewN' HBX.out _ | exact Below.drewN' (Below.drewN' HBX.out _) _
      have d11 : (sv == (i : Int)) = false := by rw [beq_eq_false_iff_ne]; exact hsi
      have HNE2 : Hid (needE n i nds k = if (nds.take k).any (fun y => decide (y.1 = sv)) then 31 else if rightR rg then 0 else 12) := Lib.hid (by rw [HNE.out, if_neg (by omega)])
      go_wp2_with fail
      clear x0 u0 u1
      go_loopw [10] (fun v wr => ∃ q : Nat, q ≤ k ∧ v = .int .i64 (q : Int) ∧ Hid (Below X.heap.size X wr) ∧ Hid (∀ j, j < q → (pnAt nds j).1 ≠ sv)) (fun v _ => k - (intOf v).toNat)
      case atStart => exact ⟨0, Nat.zero_le _, rfl, Lib.hid (Below.refl _ _), Lib.hid (fun j h => absurd h (by omega))⟩
      case round =>
       obtain ⟨wi, hwi⟩ : ∃ x, x = wr := ⟨_, rfl⟩
       subst hwi
       obtain ⟨q, hq, rfl, HRi, HOKi⟩ := hrel
       have hzi := HRi.out.size
       have HBi : Hid (Below w.heap.size w wi) := Lib.hid (HBX.out.trans (HRi.out.mono HBX.out.size))
       have HBi0 : Hid (Below W.heap.size W wi) := Lib.hid (HBX0.out.trans (HRi.out.mono HBX0.out.size))
       obtain ⟨y0, y1, y2, y3, y4, y5, yf⟩ := r6_cells ((HBi0.out.block (w.heap.size + 1) (heapE_lt H1.out)).trans H1.out)
       obtain ⟨u0, u1, _, _⟩ := row2 ((HRi.out.block wo.heap.size (heapE_lt HX0.out)).trans HX0.out)
       by_cases hqk : q < k
       ·have hd2 : decide ((q : Int) < (k : Int)) = true := by simp; omega
        have hqi : (q : Int) < (k : Int) := by omega
        have hqn : (q : Int) < (n3 : Int) := by omega
        have hadd2 : IntKind.i64.wrap ((q : Int) + 1) = ((q + 1 : Nat) : Int) := by rw [IntWalk.i64_in _ (by omega)]; omega
        obtain ⟨b5', o5', A7, n7, c7, he5, hb5', k0, k1, _, _⟩ := nd_at (RdJ.below' pn_turns HND.out hle HBi.out) (show q < n3 by omega)
        injection he5 with he5
        injection he5 with e51 e52
        subst e51 e52
        have HQL : Hid (q < nds.length) := Lib.hid (by rw [HN3.out]; omega)
        by_cases hqs : (pnAt nds q).1 = sv
        ·have HE : Hid (relE n i rls (u + 1) = 31) := Lib.hid (HHIT.out 31 (by
          have hany : (nds.take k).any (fun y => decide (y.1 = sv)) = true := by
           rw [List.any_eq_true]
           refine ⟨pnAt nds q, ?_, decide_eq_true hqs⟩
           have hql := HQL.out
           rw [show pnAt nds q = nds[q] by simp [pnAt, List.getD, hql]]
           exact List.mem_take_iff_getElem.2 ⟨q, by omega, rfl⟩
          rw [HNE2.out, hany]; rfl) (by decide))
         rw [hqs] at k0
         clear hqs
         go_wp2_with fail
         go_quiet (fail)
         go_wp2_with fail
         refine bodyPost_ret (results_tmp rfl _ _ _) rfl ⟨?_, ?_⟩; exact congrArg (fun b => Ending.returned (.int .i64 b)) HE.out.symm
         first | exact HBi.out | exact Below.drewN' HBi.out _ | exact Below.drewN' (Below.drewN' HBi.out _) _
        ·have HNQ := Lib.hid hqs
         obtain ⟨pj, HPJ⟩ : ∃ pj, Hid ((pnAt nds q).1 = pj) := ⟨_, Lib.hid rfl⟩
         rw [HPJ.out] at k0 hqs
         have h3 : (pj == sv) = false := by rw [beq_eq_false_iff_ne]; exact hqs
         go_wp2_with fail
         go_quiet (fail)
         clear k0 k1 y0 y1 y2 y3 y4 y5 yf u0 u1
         go_wp2_with fail
         go_roundw
         case rel => exact ⟨q + 1, by omega, by go_num, Lib.hid (Below.drewN' HRi.out _), Lib.hid (fun j hj => by
          by_cases e : j = q
          ·subst e; exact HNQ.out
          ·exact HOKi.out j (by omega))⟩
         case measure => simp [intOf]; omega
       ·have hd2 : decide ((q : Int) < (k : Int)) = false := by simp; omega
        have hqi : ¬ (q : Int) < (k : Int) := by omega
        have HNE3 : Hid (needE n i nds k = if rightR rg then 0 else 12) := Lib.hid (by
         have hany : (nds.take k).any (fun y => decide (y.1 = sv)) = false := by
          refine List.any_eq_false.2 fun y hy => ?_
          obtain ⟨j, hj, rfl⟩ := List.mem_take_iff_getElem.1 hy
          have h := HOKi.out j (by omega)
          rw [show pnAt nds j = nds[j] by simp [pnAt, List.getD, show j < nds.length by omega]] at h
          rw [decide_eq_false h]; simp
         rw [HNE2.out, hany, if_neg (by decide)])
        have HRRi : Hid (RdR wi B A6 n6 rg) := Lib.hid (HRR.out.below (HRi.out.mono (Nat.le_trans hle HBX.out.size)))
        have HRT := Lib.hid (RefRgRight_any A6 n6 c6 rg wi B HRRi.out (Nat.le_trans hle HBi.out.size) HSX.out.small)
        go_wp2_with fail
        refine HRT.out.mono ?_
        rintro e w4 ⟨rfl, hb⟩
        have HB4 : Hid (Below w.heap.size w w4) := Lib.hid (HBi.out.trans (hb.mono HBi.out.size))
        have HB04 : Hid (Below W.heap.size W w4) := Lib.hid (HBi0.out.trans (hb.mono HBi0.out.size))
        clear hb HRT y0 y1 y2 y3 y4 y5 yf u0 u1
        cases hqr : rightR rg with
        | false =>
         have HE : Hid (relE n i rls (u + 1) = 12) := Lib.hid (HHIT.out 12 (by rw [HNE3.out, hqr]; rfl) (by decide))
         clear hqr
         go_wp2_with fail
         refine bodyPost_ret (results_tmp rfl _ _ _) rfl ⟨?_, ?_⟩; exact congrArg (fun b => Ending.returned (.int .i64 b)) HE.out.symm
         first | exact HB4.out | exact Below.drewN' HB4.out _ | exact Below.drewN' (Below.drewN' HB4.out _) _
        | true =>
         have HE : Hid (badI (needE n i nds k) = false) := Lib.hid (by rw [HNE3.out, hqr]; rfl)
         clear hqr
         go_wp2_with fail
         go_roundw
         case rel => exact ⟨k + 1, by omega, by go_num, HB04, Lib.hid (fun j hj => by
          by_cases e : j = k
          ·subst e; exact HE.out
          ·exact HOK.out j (by omega))⟩
         case measure => simp [intOf]; omega
     ·have hd : decide ((k : Int) < (n3 : Int)) = false := by simp; omega
      have hki : ¬ (k : Int) < (n3 : Int) := by omega
      have HE : Hid (relE n i rls (u + 1) = 0) := Lib.hid (by
       have hkk : k = n3 := by omega
       rw [HV5.out]; unfold needsE; rw [HN3.out]; exact fst1_ok rfl (by rw [← hkk]; exact HOK.out))
      go_wp2_with fail
      refine bodyPost_ret (results_tmp rfl _ _ _) rfl ⟨?_, ?_⟩; exact congrArg (fun b => Ending.returned (.int .i64 b)) HE.out.symm
      first | exact HBR.out | exact Below.drewN' HBR.out _ | exact Below.drewN' (Below.drewN' HBR.out _) _
   ·have HE : Hid (relE n i rls (u + 1) = 32) := Lib.hid (by rw [HV2.out, if_pos (by have := HCRN.out; omega)])
    have hd : (cr != -1) = true := by rw [bne_iff_ne]; exact hc
    go_wp2_with fail
    refine bodyPost_ret (results_tmp rfl _ _ _) rfl ⟨?_, HB3.out⟩
    exact congrArg (fun b => Ending.returned (.int .i64 b)) HE.out.symm
end Go.Proofs.YtminihiecloglaaGreat
