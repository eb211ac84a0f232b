/-
 CONTRACT of the document's Check.
-/
import Derived.Test.YtminihiecloglaaGreatCQr
import Derived.Test.YtminihiecloglaaGreatCGb
import Derived.Test.YtminihiecloglaaGreatCCa
import Derived.Test.YtminihiecloglaaGreatDCirc
set_option linter.unusedVariables false
set_option linter.unusedSimpArgs false
namespace Go.Proofs.YtminihiecloglaaGreat
open Go.RowKit
open SemP DiP
set_option maxRecDepth 10000
theorem relE_ok {N i : Nat} {rls : List Rl} : ∀ u, (∀ j, j ≤ u → relE N i rls j = 0) → Ver.right (vOf (rlAt rls u).1) = true ∧ 0 ≤ (rlAt rls u).2.1 := by
 intro u
 induction u with
 | zero =>
  intro h
  have h0 := h 0 (Nat.le_refl _)
  unfold relE at h0
  by_cases h1 : Ver.right (vOf (rlAt rls 0).1) = false
  ·rw [if_pos h1] at h0; exact absurd h0 (by decide)
  ·rw [if_neg h1, if_neg (by omega), if_neg (show ¬ 0 < 0 by omega)] at h0
   by_cases h2 : (rlAt rls 0).2.1 < 0 ∨ 1000 < (rlAt rls 0).2.1
   ·rw [if_pos h2] at h0; exact absurd h0 (by decide)
   ·exact ⟨by simpa using h1, by omega⟩
 | succ u ih =>
  intro h
  have hp := ih (fun j hj => h j (by omega))
  have h0 := h (u + 1) (Nat.le_refl _)
  unfold relE at h0
  rw [Nat.add_sub_cancel] at h0
  by_cases h1 : Ver.right (vOf (rlAt rls (u + 1)).1) = false
  ·rw [if_pos h1] at h0; exact absurd h0 (by decide)
  ·rw [if_neg h1] at h0
   by_cases h3 : 0 < u + 1 ∧ 0 ≤ cmpV (vOf (rlAt rls u).1) (vOf (rlAt rls (u + 1)).1)
   ·rw [if_pos h3] at h0; exact absurd h0 (by decide)
   ·rw [if_neg h3, if_pos (show 0 < u + 1 by omega)] at h0
    by_cases h2 : (rlAt rls (u + 1)).2.1 < (rlAt rls u).2.1 ∨ 1000 < (rlAt rls (u + 1)).2.1
    ·rw [if_pos h2] at h0; exact absurd h0 (by decide)
    ·exact ⟨by simpa using h1, by have := hp.2; omega⟩
set_option maxHeartbeats 16000000 in
theorem checkQ_any {w : World} {B n c : Nat} {A : Option Addr} {l : List Sv} (h : CatAt w B A n c l) :
  Calls Tryz.prog 39 #[.agg #[.slice A n c]] w fun e w' => e = .returned (t3V (chkC l)) ∧ Below w.heap.size w w' := by
 have HN : Hid (l.length = n) := Lib.hid h.rd.1
 have hn16 := h.n16
 have hbl : Below w.heap.size w (w.alloc (.cells #[.slice A n c] 29)) := (Below.refl _ w).alloc (Nat.le_refl _) _
 obtain ⟨W, HW⟩ : ∃ W, Hid (W = w.alloc (.cells #[.slice A n c] 29)) := ⟨_, Lib.hid rfl⟩
 rw [← HW.out] at hbl
 have H0 : Hid (W.heap[w.heap.size]? = some (.cells #[.slice A n c] 29 (0, 0))) := Lib.hid (by rw [HW.out]; exact heap_new w _)
 have HA0 := Lib.hid h
 have HBL := Lib.hid hbl
 have hzW : W.heap.size = w.heap.size + 1 := by rw [HW.out]; simp
 clear h hbl
 obtain ⟨x0, _⟩ := row1f H0.out
 go_enter Tryz.func39, Tryz.ntmps39
 go_upto_region 1 with fail
 change Code.wp _ _ _ _ (w.alloc (.cells #[.slice A n c] 29))
 rw [← HW.out]
 by_cases h1 : n < 1
 ·have HV : Hid (chkC l = (0, 0, 36)) := Lib.hid (by unfold chkC; rw [if_pos (.inl (by rw [HN.out]; exact h1))])
  have d1 : decide ((n : Int) < 1) = true := by simp; omega
  have p1 : (n : Int) < 1 := by omega
  go_wp2_with fail
  refine bodyPost_ret (results_tmp3 rfl _ _ _) rfl ⟨?_, HBL.out⟩
  exact congrArg (fun b => Ending.returned (t3V b)) HV.out.symm
 have d1 : decide ((n : Int) < 1) = false := by simp; omega
 have p1 : ¬ (n : Int) < 1 := by omega
 by_cases h2 : 12 < n
 ·have HV : Hid (chkC l = (0, 0, 36)) := Lib.hid (by unfold chkC; rw [if_pos (.inr (by rw [HN.out]; exact h2))])
  have d2 : decide ((12 : Int) < (n : Int)) = true := by simp; omega
  have p2 : (12 : Int) < (n : Int) := by omega
  go_wp2_with fail
  refine bodyPost_ret (results_tmp3 rfl _ _ _) rfl ⟨?_, HBL.out⟩
  exact congrArg (fun b => Ending.returned (t3V b)) HV.out.symm
 have d2 : decide ((12 : Int) < (n : Int)) = false := by simp; omega
 have p2 : ¬ (12 : Int) < (n : Int) := by omega
 have HNB : Hid (¬ (l.length < 1 ∨ 12 < l.length)) := Lib.hid (by rw [HN.out]; omega)
 go_wp2_with fail
 clear x0
 go_loopw [5, 6, 7] (fun v _ _ wr => ∃ i : Nat, i ≤ n ∧ v = .int .i64 (i : Int) ∧ Hid (Below W.heap.size W wr) ∧ Hid (∀ j, j < i → bad3 (chkS l j) = false)) (fun v _ _ _ => n - (intOf v).toNat)
 case atStart => exact ⟨0, Nat.zero_le _, rfl, Lib.hid (Below.refl _ _), Lib.hid (fun j h => absurd h (by omega))⟩
 case round =>
  obtain ⟨wo, hwo⟩ : ∃ x, x = wr := ⟨_, rfl⟩
  subst hwo
  obtain ⟨i, hi, rfl, HR, HOK⟩ := hrel
  have hzr := HR.out.size
  have HB : Hid (Below w.heap.size w wo) := Lib.hid (HBL.out.trans (HR.out.mono (by omega)))
  have K0 : Hid (wo.heap[w.heap.size]? = _) := Lib.hid ((HR.out.block w.heap.size (by omega)).trans H0.out)
  obtain ⟨x0, _⟩ := row1f K0.out
  by_cases hin : i < n
  ·have hd : decide ((i : Int) < (n : Int)) = true := by simp; omega
   have hii : (i : Int) < (n : Int) := by omega
   have hadd : IntKind.i64.wrap ((i : Int) + 1) = ((i + 1 : Nat) : Int) := by rw [IntWalk.i64_in _ (by omega)]; omega
   have HA := Lib.hid (HA0.out.below HB.out)
   have HSV := Lib.hid (serviceQ_any HA.out hin)
   have HIL : Hid (i < l.length) := Lib.hid (by rw [HN.out]; exact hin)
   obtain ⟨sv, HE⟩ : ∃ sv, Hid (svcE l i = sv) := ⟨_, Lib.hid rfl⟩
   rw [HE.out] at HSV
   go_wp2_with fail
   refine HSV.out.mono ?_
   rintro e w1 ⟨rfl, hb⟩
   have HR1 : Hid (Below W.heap.size W w1) := Lib.hid (HR.out.trans (hb.mono hzr))
   have HB1 : Hid (Below w.heap.size w w1) := Lib.hid (HB.out.trans (hb.mono HB.out.size))
   have K1 : Hid (w1.heap[w.heap.size]? = _) := Lib.hid ((hb.block w.heap.size (heapE_lt K0.out)).trans K0.out)
   clear hb x0 HSV
   by_cases hs0 : sv = 0
   ·subst hs0
    have HA1 := Lib.hid (HA0.out.below HB1.out)
    obtain ⟨b1, o1, Aj, nj, cj, hA, hb1, k0, k1, hcap, hrr⟩ := sv_at HA1.out.rd hin
    subst hA
    have HNJ : Hid ((svAt l i).2.length = nj) := Lib.hid hrr.1
    have hnj : nj ≤ 16 := by have := (HA0.out.sm.2 _ (svAt_mem HIL.out)).2.1; have := HNJ.out; omega
    obtain ⟨x0, _⟩ := row1f K1.out
    clear hrr
    go_wp2_with fail
    clear x0 k0 k1
    go_loopw [6, 7] (fun _ v wr => ∃ k : Nat, k ≤ nj ∧ v = .int .i64 (k : Int) ∧ Hid (Below W.heap.size W wr) ∧ Hid (∀ j, j < k → bad3 (relT l i j) = false)) (fun _ v _ => nj - (intOf v).toNat)
    case atStart => exact ⟨0, Nat.zero_le _, rfl, HR1, Lib.hid (fun j h => absurd h (by omega))⟩
    case round =>
     obtain ⟨wi, hwi⟩ : ∃ x, x = wr := ⟨_, rfl⟩
     subst hwi
     obtain ⟨k, hk, rfl, HRi, HOKi⟩ := hrel
     have hzi := HRi.out.size
     have HBi : Hid (Below w.heap.size w wi) := Lib.hid (HBL.out.trans (HRi.out.mono (by omega)))
     have Ki : Hid (wi.heap[w.heap.size]? = _) := Lib.hid ((HRi.out.block w.heap.size (by omega)).trans H0.out)
     obtain ⟨x0, _⟩ := row1f Ki.out
     obtain ⟨b1', o1', Aj', nj', cj', he', hb1', k0', k1', _, hrr'⟩ := sv_at (HA0.out.below HBi.out).rd hin
     injection he' with he'
     injection he' with e1 e2
     subst e1 e2
     have hnj' : nj = nj' := by rw [← hrr'.1]; exact HNJ.out.symm
     subst hnj'
     clear hrr'
     by_cases hkn : k < nj
     ·have hd2 : decide ((k : Int) < (nj : Int)) = true := by simp; omega
      have hki : (k : Int) < (nj : Int) := by omega
      have hadd2 : IntKind.i64.wrap ((k : Int) + 1) = ((k + 1 : Nat) : Int) := by rw [IntWalk.i64_in _ (by omega)]; omega
      have HKL : Hid (k < (svAt l i).2.length) := Lib.hid (by rw [HNJ.out]; exact hkn)
      have HRE := Lib.hid (releaseQ_any (HA0.out.below HBi.out) hin HKL.out (fun u hu => relE_ok u (fun j hj => by
       have h := bad3_no.1 (HOKi.out j (by omega))
       have h2 : relE l.length i (svAt l i).2 j = 0 := h
       rw [HN.out] at h2; exact h2)))
      obtain ⟨re, HRR⟩ : ∃ re, Hid (relE n i (svAt l i).2 k = re) := ⟨_, Lib.hid rfl⟩
      rw [HRR.out] at HRE
      go_wp2_with fail
      refine HRE.out.mono ?_
      rintro e w2 ⟨rfl, hb⟩
      have HR2 : Hid (Below W.heap.size W w2) := Lib.hid (HRi.out.trans (hb.mono hzi))
      have HB2 : Hid (Below w.heap.size w w2) := Lib.hid (HBi.out.trans (hb.mono HBi.out.size))
      clear hb x0 HRE
      by_cases hr0 : re = 0
      ·subst hr0
       have HOKn : Hid (bad3 (relT l i k) = false) := Lib.hid (bad3_no.2 (by show relE _ _ _ _ = 0; rw [HN.out, HRR.out]))
       go_wp2_with fail
       go_roundw
       case rel => exact ⟨k + 1, by omega, by go_num, HR2, Lib.hid (fun j hj => by
        by_cases e : j = k
        ·subst e; exact HOKn.out
        ·exact HOKi.out j (by omega))⟩
       case measure => simp [intOf]; omega
      ·have hne : (re != 0) = true := by rw [bne_iff_ne]; exact hr0
       have HV : Hid (chkC l = ((i : Int), (k : Int), re)) := Lib.hid (chkC_hit HNB.out HIL.out HOK.out (chkS_rel HE.out HKL.out HOKi.out (by rw [HN.out]; exact HRR.out) hr0) hr0)
       go_wp2_with fail
       refine bodyPost_ret (results_tmp3 rfl _ _ _) rfl ⟨?_, HB2.out⟩
       exact congrArg (fun b => Ending.returned (t3V b)) HV.out.symm
     ·have hd2 : decide ((k : Int) < (nj : Int)) = false := by simp; omega
      obtain rfl : k = nj := by omega
      have HOKn : Hid (bad3 (chkS l i) = false) := Lib.hid (chkS_ok HE.out (by rw [HNJ.out]; exact HOKi.out))
      go_wp2_with fail
      go_roundw
      case rel => exact ⟨i + 1, by omega, by go_num, HRi, Lib.hid (fun j hj => by
       by_cases e : j = i
       ·subst e; exact HOKn.out
       ·exact HOK.out j (by omega))⟩
      case measure => simp [intOf]; omega
   ·have hne : (sv != 0) = true := by rw [bne_iff_ne]; exact hs0
    have HV : Hid (chkC l = ((i : Int), -1, sv)) := Lib.hid (chkC_hit HNB.out HIL.out HOK.out (chkS_svc HE.out hs0) hs0)
    go_wp2_with fail
    refine bodyPost_ret (results_tmp3 rfl _ _ _) rfl ⟨?_, HB1.out⟩
    exact congrArg (fun b => Ending.returned (t3V b)) HV.out.symm
  ·have hd : decide ((i : Int) < (n : Int)) = false := by simp; omega
   obtain rfl : i = n := by omega
   have HV : Hid (chkC l = if Goes (befG (grE l)) i i then (0, 0, 0) else (0, 0, 21)) := Lib.hid (by
    rw [chkC_end HNB.out (by rw [HN.out]; exact HOK.out), HN.out])
   have HGR := Lib.hid (graphQ_any (HA0.out.below HB.out))
   go_wp2_with fail
   refine HGR.out.mono ?_
   rintro e w1 ⟨A', c', rfl, hed, hb⟩
   have HB1 : Hid (Below w.heap.size w w1) := Lib.hid (HB.out.trans (hb.mono HB.out.size))
   have HIN : Hid (InN i (grE l)) := Lib.hid (by have := grE_inN l; rw [HN.out] at this; exact this)
   have HED := Lib.hid hed
   have hgl := grE_len HN.out hn16
   clear hb hed x0 HGR
   by_cases hg : Goes (befG (grE l)) i i
   ·have HX : Hid (chkC l = (0, 0, 0)) := Lib.hid (by rw [HV.out, if_pos hg])
    have HC := Lib.hid (circle_any (c := c') HED.out HIN.out (by omega) (by omega) (Nat.le_refl _) false ⟨fun h => (by cases h), fun h => absurd hg h⟩)
    clear hg
    go_wp2_with fail
    refine HC.out.mono ?_
    rintro e w2 ⟨rfl, hb⟩
    have HB2 : Hid (Below w.heap.size w w2) := Lib.hid (HB1.out.trans (hb.mono HB1.out.size))
    clear hb HC
    go_wp2_with fail
    refine bodyPost_ret (results_tmp3 rfl _ _ _) rfl ⟨?_, HB2.out⟩
    exact congrArg (fun b => Ending.returned (t3V b)) HX.out.symm
   ·have HX : Hid (chkC l = (0, 0, 21)) := Lib.hid (by rw [HV.out, if_neg hg])
    have HC := Lib.hid (circle_any (c := c') HED.out HIN.out (by omega) (by omega) (Nat.le_refl _) true ⟨fun _ => hg, fun _ => rfl⟩)
    clear hg
    go_wp2_with fail
    refine HC.out.mono ?_
    rintro e w2 ⟨rfl, hb⟩
    have HB2 : Hid (Below w.heap.size w w2) := Lib.hid (HB1.out.trans (hb.mono HB1.out.size))
    clear hb HC
    go_wp2_with fail
    refine bodyPost_ret (results_tmp3 rfl _ _ _) rfl ⟨?_, HB2.out⟩
    exact congrArg (fun b => Ending.returned (t3V b)) HX.out.symm
end Go.Proofs.YtminihiecloglaaGreat
