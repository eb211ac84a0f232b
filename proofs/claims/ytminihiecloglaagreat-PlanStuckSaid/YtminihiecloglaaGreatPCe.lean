/-
 CONTRACT: checkEnds of package plan.
-/
import Derived.Test.YtminihiecloglaaGreatPRi
set_option linter.unusedVariables false
set_option linter.unusedSimpArgs false
namespace Go.Proofs.YtminihiecloglaaGreat
open Go.RowKit
open SemP FlP GaP DiP
set_option maxRecDepth 10000
theorem set_small {l : List Sv} {vs : List Int} (hlv : LevOK l) (hsm : SmCat l) (hs : setB l vs = true) : ∀ k, k < vs.length → (at_ (setL l vs) k).1.natAbs < 2 ^ 53 ∧ (at_ (setL l vs) k).2.natAbs < 2 ^ 53 := by
 intro k hk
 rw [setL_at l vs hk]
 have := setP_ok hlv hsm ((setB_iff.1 hs).2 k hk)
 omega
theorem rise_all {l : List Sv} {fs ts : List Int} (h : ∀ i, i < fs.length → riseB l fs ts i = true) : (List.range fs.length).all (riseB l fs ts) = true := by
 rw [List.all_eq_true]; exact fun i hi => h i (List.mem_range.1 hi)
theorem rise_no {l : List Sv} {fs ts : List Int} {i : Nat} (hi : i < fs.length) (h : riseB l fs ts i = false) : (List.range fs.length).all (riseB l fs ts) = false := by
 rw [List.all_eq_false]; exact ⟨i, List.mem_range.2 hi, by rw [h]; decide⟩
set_option maxHeartbeats 16000000 in
theorem checkEnds_any {w : World} {B B2 B3 n c m c2 m3 c3 : Nat} {A A2 A3 : Option Addr} {l : List Sv} {fs ts : List Int} (h : CatAt w B A n c l) (hlv : LevOK l) (hf : Rd w B2 A2 m fs) (ht : Rd w B3 A3 m3 ts) (hB2 : B2 ≤ w.heap.size) (hB3 : B3 ≤ w.heap.size) (hm : m ≤ 64) (hm3 : m3 ≤ 64) :
  Calls Tryz.prog 40 #[.agg #[.slice A n c], .slice A2 m c2, .slice A3 m3 c3] w fun e w' => e = .returned (.int .i64 (chkE l fs ts)) ∧ Below w.heap.size w w' := by
 obtain ⟨W, HW⟩ : ∃ W, Hid (W = w.alloc (.cells #[.slice A n c] 24)) := ⟨_, Lib.hid rfl⟩
 have hbl : Below w.heap.size w W := by rw [HW.out]; exact (Below.refl _ w).alloc (Nat.le_refl _) _
 have H0 : Hid (W.heap[w.heap.size]? = some (.cells #[.slice A n c] 24 (0, 0))) := Lib.hid (by rw [HW.out]; exact heap_new w _)
 have HBL := Lib.hid hbl
 have HA := Lib.hid (h.below hbl)
 have HF := Lib.hid (hf.below (hbl.mono hB2))
 have HT := Lib.hid (ht.below (hbl.mono hB3))
 have HB2 : Hid (B2 ≤ W.heap.size) := Lib.hid (Nat.le_trans hB2 hbl.size)
 have HB3 : Hid (B3 ≤ W.heap.size) := Lib.hid (Nat.le_trans hB3 hbl.size)
 have HLV := Lib.hid hlv
 have HN : Hid (l.length = n) := Lib.hid h.rd.1
 have HML : Hid (fs.length = m) := Lib.hid hf.len
 have HM3 : Hid (ts.length = m3) := Lib.hid ht.len
 have hn16 := h.n16
 have HCE : Hid (chkE l fs ts = if setB l fs = false ∨ setB l ts = false then 42 else if goodC l (setL l fs) = false ∨ goodC l (setL l ts) = false then 70 else if (List.range fs.length).all (riseB l fs ts) = false then 43 else 0) := Lib.hid rfl
 obtain ⟨CE, HCV⟩ : ∃ q, Hid (chkE l fs ts = q) := ⟨_, Lib.hid rfl⟩
 rw [HCV.out] at HCE
 rw [HCV.out]
 clear h hf ht hbl hlv hB2 hB3 HCV
 obtain ⟨x0, _⟩ := row1f H0.out
 have HS1 := Lib.hid (settled_any (c2 := c2) HA.out HLV.out HF.out HB2.out hm)
 go_enter Tryz.func40, Tryz.ntmps40
 go_upto_region 1 with fail
 change Code.wp _ _ _ _ (w.alloc (.cells #[.slice A n c] 24))
 rw [← HW.out]
 go_wp2_with fail
 refine HS1.out.mono ?_
 rintro e w1 ⟨hb, ho⟩
 have HB1 : Hid (Below W.heap.size W w1) := Lib.hid hb
 have HW1 : Hid (Below w.heap.size w w1) := Lib.hid (HBL.out.trans (hb.mono HBL.out.size))
 have K1 : Hid (w1.heap[w.heap.size]? = some (.cells #[.slice A n c] 24 (0, 0))) := Lib.hid ((hb.block w.heap.size (heapE_lt H0.out)).trans H0.out)
 have HS2 := Lib.hid (settled_any (c2 := c3) (HA.out.below hb) HLV.out (HT.out.below (hb.mono HB3.out)) (Nat.le_trans HB3.out hb.size) hm3)
 clear hb x0 HS1
 obtain ⟨x0, _⟩ := row1f K1.out
 rcases ho with ⟨hs1, A5, c5, rfl, hown5⟩ | ⟨hs1, rfl⟩
 rotate_left
 ·have HX : Hid (CE = 42) := Lib.hid (by rw [HCE.out, if_pos (.inl hs1)])
  go_wp2_with fail
  refine HS2.out.mono ?_
  rintro e w2 ⟨hb, ho⟩
  have HW2 : Hid (Below w.heap.size w w2) := Lib.hid (HW1.out.trans (hb.mono HW1.out.size))
  clear hb x0 HS2
  rcases ho with ⟨hs2, A6, c6, rfl, hown6⟩ | ⟨hs2, rfl⟩
  ·go_wp2_with fail
   exact bodyPost_ret (results_tmp rfl _ _ _) rfl ⟨by rw [HX.out]; rfl, HW2.out⟩
  ·go_wp2_with fail
   exact bodyPost_ret (results_tmp rfl _ _ _) rfl ⟨by rw [HX.out]; rfl, HW2.out⟩
 have HO5 := Lib.hid hown5
 have HSB1 := Lib.hid hs1
 clear hown5
 go_wp2_with fail
 refine HS2.out.mono ?_
 rintro e w2 ⟨hb, ho⟩
 have HB2' : Hid (Below W.heap.size W w2) := Lib.hid (HB1.out.trans (hb.mono HB1.out.size))
 have HW2 : Hid (Below w.heap.size w w2) := Lib.hid (HW1.out.trans (hb.mono HW1.out.size))
 have K2 : Hid (w2.heap[w.heap.size]? = some (.cells #[.slice A n c] 24 (0, 0))) := Lib.hid ((hb.block w.heap.size (heapE_lt K1.out)).trans K1.out)
 have HO52 : Hid (OwnZc w2 W.heap.size (.slice A5 m c5) m (setL l fs)) := Lib.hid (HO5.out.kept hb)
 clear hb x0 HS2 hs1
 rcases ho with ⟨hs2, A6, c6, rfl, hown6⟩ | ⟨hs2, rfl⟩
 rotate_left
 ·have HX : Hid (CE = 42) := Lib.hid (by rw [HCE.out, if_pos (.inr hs2)])
  go_wp2_with fail
  exact bodyPost_ret (results_tmp rfl _ _ _) rfl ⟨by rw [HX.out]; rfl, HW2.out⟩
 have HSB2 := Lib.hid hs2
 have HO6 := Lib.hid hown6
 have HC2 : Hid (CE = if goodC l (setL l fs) = false ∨ goodC l (setL l ts) = false then 70 else if (List.range fs.length).all (riseB l fs ts) = false then 43 else 0) := Lib.hid (by
  rw [HCE.out, if_neg]; rintro (h | h)
  ·rw [HSB1.out] at h; cases h
  ·rw [HSB2.out] at h; cases h)
 have hmn : m = n := by rw [← HML.out, ← HN.out]; exact (setB_iff.1 HSB1.out).1
 have hm3n : m3 = n := by rw [← HM3.out, ← HN.out]; exact (setB_iff.1 HSB2.out).1
 subst hmn
 subst hm3n
 clear hs2 hown6 HCE
 have HG1 := Lib.hid (good_any (c2 := c5) (HA.out.below HB2'.out) HLV.out HO52.out.rd (Nat.le_refl _) (by omega) (fun k hk => set_small HLV.out HA.out.sm HSB1.out k (by rw [HML.out]; exact hk)))
 obtain ⟨x0, _⟩ := row1f K2.out
 cases hg1 : goodC l (setL l fs) with
 | false =>
  have HX : Hid (CE = 70) := Lib.hid (by rw [HC2.out, if_pos (.inl hg1)])
  rw [hg1] at HG1
  clear hg1
  go_wp2_with fail
  refine HG1.out.mono ?_
  rintro e w3 ⟨rfl, hb⟩
  go_wp2_with fail
  exact bodyPost_ret (results_tmp rfl _ _ _) rfl ⟨by rw [HX.out]; rfl, HW2.out.trans (hb.mono HW2.out.size)⟩
 | true =>
  rw [hg1] at HG1
  go_wp2_with fail
  refine HG1.out.mono ?_
  rintro e w3 ⟨rfl, hb⟩
  have HB3' : Hid (Below W.heap.size W w3) := Lib.hid (HB2'.out.trans (hb.mono HB2'.out.size))
  have HW3 : Hid (Below w.heap.size w w3) := Lib.hid (HW2.out.trans (hb.mono HW2.out.size))
  have K3 : Hid (w3.heap[w.heap.size]? = some (.cells #[.slice A m3 c] 24 (0, 0))) := Lib.hid ((hb.block w.heap.size (heapE_lt K2.out)).trans K2.out)
  have HO63 : Hid (OwnZc w3 w1.heap.size (.slice A6 m3 c6) m3 (setL l ts)) := Lib.hid (HO6.out.kept hb)
  clear hb x0 HG1
  have HG2 := Lib.hid (good_any (c2 := c6) (HA.out.below HB3'.out) HLV.out HO63.out.rd (Nat.le_refl _) (by omega) (fun k hk => set_small HLV.out HA.out.sm HSB2.out k (by rw [HM3.out]; exact hk)))
  obtain ⟨x0, _⟩ := row1f K3.out
  cases hg2 : goodC l (setL l ts) with
  | false =>
   have HX : Hid (CE = 70) := Lib.hid (by rw [HC2.out, if_pos (.inr hg2)])
   rw [hg2] at HG2
   clear hg1 hg2
   go_wp2_with fail
   refine HG2.out.mono ?_
   rintro e w4 ⟨rfl, hb⟩
   go_wp2_with fail
   exact bodyPost_ret (results_tmp rfl _ _ _) rfl ⟨by rw [HX.out]; rfl, HW3.out.trans (hb.mono HW3.out.size)⟩
  | true =>
   have HC3 : Hid (CE = if (List.range fs.length).all (riseB l fs ts) = false then 43 else 0) := Lib.hid (by
    rw [HC2.out, if_neg]; rintro (h | h)
    ·rw [hg1] at h; cases h
    ·rw [hg2] at h; cases h)
   rw [hg2] at HG2
   clear hg1 hg2
   go_wp2_with fail
   refine HG2.out.mono ?_
   rintro e w4 ⟨rfl, hb⟩
   have HB4 : Hid (Below W.heap.size W w4) := Lib.hid (HB3'.out.trans (hb.mono HB3'.out.size))
   have HW4 : Hid (Below w.heap.size w w4) := Lib.hid (HW3.out.trans (hb.mono HW3.out.size))
   have K4 : Hid (w4.heap[w.heap.size]? = some (.cells #[.slice A m3 c] 24 (0, 0))) := Lib.hid ((hb.block w.heap.size (heapE_lt K3.out)).trans K3.out)
   clear hb x0 HG2
   go_wp2_with fail
   go_loopw [11, 12, 45] (fun _ _ v wr => ∃ k : Nat, k ≤ m3 ∧ v = .int .i64 (k : Int) ∧ Hid (Below w4.heap.size w4 wr) ∧ Hid (∀ i, i < k → riseB l fs ts i = true)) (fun _ _ v _ => m3 - (intOf v).toNat)
   case atStart => exact ⟨0, Nat.zero_le _, rfl, Lib.hid (Below.refl _ _), Lib.hid (fun i h => absurd h (by omega))⟩
   case round =>
    obtain ⟨wo, hwo⟩ : ∃ x, x = wr := ⟨_, rfl⟩
    subst hwo
    obtain ⟨k, hk, rfl, HBo, HRK⟩ := hrel
    have HWo : Hid (Below w.heap.size w wo) := Lib.hid (HW4.out.trans (HBo.out.mono HW4.out.size))
    by_cases hkn : k < m3
    ·have hd : decide ((k : Int) < (m3 : Int)) = true := by simp; omega
     have hki : (k : Int) < (m3 : Int) := by omega
     have hk0 : (0 : Int) ≤ (k : Int) := by omega
     have hadd : IntKind.i64.wrap ((k : Int) + 1) = ((k + 1 : Nat) : Int) := by rw [IntWalk.i64_in _ (by omega)]; omega
     have hbW : Below W.heap.size W wo := HB4.out.trans (HBo.out.mono HB4.out.size)
     have HRI := Lib.hid (rise_any (c2 := c2) (c3 := c3) (HA.out.below hbW) HLV.out (HF.out.below (hbW.mono HB2.out)) (HT.out.below (hbW.mono HB3.out)) (Nat.le_trans HB2.out hbW.size) (Nat.le_trans HB3.out hbW.size) HSB1.out HSB2.out hkn)
     obtain ⟨R, HR⟩ : ∃ q, Hid (rise l fs ts k = q) := ⟨_, Lib.hid rfl⟩
     rw [HR.out] at HRI
     have HRB : Hid (riseB l fs ts k = (decide (0 ≤ R) && decide (R ≤ 1))) := Lib.hid (by unfold riseB; rw [HR.out])
     obtain ⟨x0, _⟩ := row1f ((HBo.out.block w.heap.size (heapE_lt K4.out)).trans K4.out)
     clear hbW
     by_cases h1 : R < 0
     ·have d1 : decide (R < 0) = true := decide_eq_true h1
      have HX : Hid (CE = 43) := Lib.hid (by rw [HC3.out, if_pos (rise_no (i := k) (by rw [HML.out]; exact hkn) (by rw [HRB.out, decide_eq_false (by omega)]; rfl))])
      go_wp2_with fail
      refine HRI.out.mono ?_
      rintro e w5 ⟨rfl, hb⟩
      go_wp2_with fail
      exact bodyPost_ret (results_tmp rfl _ _ _) rfl ⟨by rw [HX.out]; rfl, HWo.out.trans (hb.mono HWo.out.size)⟩
     have d1 : decide (R < 0) = false := decide_eq_false h1
     by_cases h2 : 1 < R
     ·have d2 : decide (1 < R) = true := decide_eq_true h2
      have HX : Hid (CE = 43) := Lib.hid (by rw [HC3.out, if_pos (rise_no (i := k) (by rw [HML.out]; exact hkn) (by rw [HRB.out, decide_eq_false (show ¬ R ≤ 1 by omega), Bool.and_false]))])
      go_wp2_with fail
      refine HRI.out.mono ?_
      rintro e w5 ⟨rfl, hb⟩
      go_wp2_with fail
      exact bodyPost_ret (results_tmp rfl _ _ _) rfl ⟨by rw [HX.out]; rfl, HWo.out.trans (hb.mono HWo.out.size)⟩
     have d2 : decide (1 < R) = false := decide_eq_false h2
     have HQ : Hid (riseB l fs ts k = true) := Lib.hid (by rw [HRB.out, decide_eq_true (show 0 ≤ R by omega), decide_eq_true (show R ≤ 1 by omega)]; rfl)
     go_wp2_with fail
     refine HRI.out.mono ?_
     rintro e w5 ⟨rfl, hb⟩
     have HB5 : Hid (Below w4.heap.size w4 w5) := Lib.hid (HBo.out.trans (hb.mono HBo.out.size))
     clear hb x0 HRI
     go_wp2_with fail
     go_roundw
     case rel => exact ⟨k + 1, by omega, by go_num, HB5, Lib.hid (fun i hi => by
      by_cases e : i = k
      ·subst e; exact HQ.out
      ·exact HRK.out i (by omega))⟩
     case measure => simp [intOf]; omega
    ·have hd : decide ((k : Int) < (m3 : Int)) = false := by simp; omega
     have HX : Hid (CE = 0) := Lib.hid (by rw [HC3.out, if_neg]; rw [rise_all (fun i hi => HRK.out i (by rw [HML.out] at hi; omega))]; decide)
     go_wp2_with fail
     exact bodyPost_ret (results_tmp rfl _ _ _) rfl ⟨by rw [HX.out]; rfl, HWo.out⟩
end Go.Proofs.YtminihiecloglaaGreat
