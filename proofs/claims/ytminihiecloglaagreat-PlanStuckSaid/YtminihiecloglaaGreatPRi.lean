/-
 CONTRACTS: rise, stepsOf, checkEnds of package plan.
-/
import Derived.Test.YtminihiecloglaaGreatPOf
set_option linter.unusedVariables false
set_option linter.unusedSimpArgs false
namespace Go.Proofs.YtminihiecloglaaGreat
open Go.RowKit
open SemP FlP GaP DiP
set_option maxRecDepth 10000
set_option maxHeartbeats 8000000 in
theorem rise_any {w : World} {B B2 B3 n c m c2 m3 c3 i : Nat} {A A2 A3 : Option Addr} {l : List Sv} {fs ts : List Int} (h : CatAt w B A n c l) (hlv : LevOK l) (hf : Rd w B2 A2 m fs) (ht : Rd w B3 A3 m3 ts) (hB2 : B2 ≤ w.heap.size) (hB3 : B3 ≤ w.heap.size) (hsf : setB l fs = true) (hst : setB l ts = true) (hi : i < n) :
  Calls Tryz.prog 73 #[.agg #[.slice A n c], .int .i64 (i : Int), .slice A2 m c2, .slice A3 m3 c3] w fun e w' => e = .returned (.int .i64 (rise l fs ts i)) ∧ Below w.heap.size w w' := by
 obtain ⟨W, HW⟩ : ∃ W, Hid (W = w.alloc (.cells #[.slice A n c] 24)) := ⟨_, Lib.hid rfl⟩
 have hbl : Below w.heap.size w W := by rw [HW.out]; exact (Below.refl _ w).alloc (Nat.le_refl _) _
 have H0 : Hid (W.heap[w.heap.size]? = some (.cells #[.slice A n c] 24 (0, 0))) := Lib.hid (by rw [HW.out]; exact heap_new w _)
 have HBL := Lib.hid hbl
 have hN : l.length = n := h.rd.1
 obtain ⟨f1, f2⟩ := setB_iff.1 hsf
 obtain ⟨t1, t2⟩ := setB_iff.1 hst
 have hmf : fs.length = m := hf.len
 have hmt : ts.length = m3 := ht.len
 have him : i < m := by omega
 have him3 : i < m3 := by omega
 obtain ⟨a0, vf, ea, evf, hal, hvf⟩ := isR_nat (f2 i (by omega))
 obtain rfl : i = a0 := by omega
 obtain ⟨a0, vt, ea2, evt, _, hvt⟩ := isR_nat (t2 i (by omega))
 obtain rfl : i = a0 := by omega
 have hA := h.below hbl
 obtain ⟨b1, o1, Aj, nj, cj, hA1, hb1, _, k1, _, hrj⟩ := sv_at hA.rd hi
 subst hA1
 have hnj : (svAt l i).2.length = nj := hrj.1
 obtain ⟨b2, o2, _, _, _, hA2, hb2, _, _, _, _, kf, _⟩ := rl_at hrj (i := vf) (by omega)
 subst hA2
 obtain ⟨b3, o3, _, _, _, hA3, hb3, _, _, _, _, kt, _⟩ := rl_at hrj (i := vt) (by omega)
 injection hA3 with hA3
 injection hA3 with e1 e2 _
 subst e1 e2
 obtain ⟨bf, of', hAf, hbf, cf⟩ := (hf.below (hbl.mono hB2)).at_ him
 subst hAf
 obtain ⟨bt', ot, hAt, hbt, ct⟩ := (ht.below (hbl.mono hB3)).at_ him3
 subst hAt
 rw [evf] at cf
 rw [evt] at ct
 have l1 := levAt_ok hlv hal hvf
 have l2 := levAt_ok hlv hal hvt
 have e1 : (rlAt (svAt l i).2 vf).2.1 = levAt l i vf := rfl
 have e2 : (rlAt (svAt l i).2 vt).2.1 = levAt l i vt := rfl
 rw [e1] at kf
 rw [e2] at kt
 obtain ⟨L1, hL1⟩ : ∃ q, levAt l i vf = q := ⟨_, rfl⟩
 obtain ⟨L2, hL2⟩ : ∃ q, levAt l i vt = q := ⟨_, rfl⟩
 have HF : Hid (rise l fs ts i = L2 - L1) := Lib.hid (by unfold rise; rw [evf, evt, Int.toNat_natCast, Int.toNat_natCast, hL1, hL2])
 rw [hL1] at kf l1
 rw [hL2] at kt l2
 have hsub : IntKind.i64.wrap (L2 - L1) = L2 - L1 := IntWalk.i64_in _ (by omega)
 have hii : (i : Int) < (n : Int) := by omega
 have hi0 : (0 : Int) ≤ (i : Int) := by omega
 have hiim : (i : Int) < (m : Int) := by omega
 have hiim3 : (i : Int) < (m3 : Int) := by omega
 have hvfi : (vf : Int) < (nj : Int) := by omega
 have hvti : (vt : Int) < (nj : Int) := by omega
 have hvf0 : (0 : Int) ≤ (vf : Int) := by omega
 have hvt0 : (0 : Int) ≤ (vt : Int) := by omega
 obtain ⟨x0, _⟩ := row1f H0.out
 clear h hf ht hA hrj hbl f2 t2 ea ea2 evf evt hsf hst hL1 hL2 e1 e2 hlv
 go_enter Tryz.func73, Tryz.ntmps73
 go_upto_region 1 with fail
 change Code.wp _ _ _ _ (w.alloc (.cells #[.slice (some ⟨b1, o1, none⟩) n c] 24))
 rw [← HW.out]
 go_wp2_with fail
 go_quiet (fail)
 go_wp2_with fail
 refine bodyPost_ret (results_tmp rfl _ _ _) rfl ⟨?_, by first | exact HBL.out | exact Below.drewN' HBL.out _⟩
 exact congrArg (fun b => Ending.returned (.int .i64 b)) HF.out.symm
theorem infoSt : (Tryz.prog.info? 64).map (fun i => (i.zero, i.size, i.bytes)) = some (some (.agg #[.int .i64 0, .int .i64 0]), 2, 16) := by kernel_rfl
set_option maxHeartbeats 16000000 in
theorem stepsOf_any {w : World} {B B2 B3 n c m c2 m3 c3 : Nat} {A A2 A3 : Option Addr} {l : List Sv} {fs ts : List Int} (h : CatAt w B A n c l) (hlv : LevOK l) (hf : Rd w B2 A2 m fs) (ht : Rd w B3 A3 m3 ts) (hB2 : B2 ≤ w.heap.size) (hB3 : B3 ≤ w.heap.size) (hsf : setB l fs = true) (hst : setB l ts = true) :
  Calls Tryz.prog 42 #[.agg #[.slice A n c], .slice A2 m c2, .slice A3 m3 c3] w fun e w' => ∃ v, e = .returned v ∧ OwnF 64 2 spF w' w.heap.size v (stL l fs ts) ∧ Below w.heap.size w w' := by
 obtain ⟨W, HW⟩ : ∃ W, Hid (W = w.alloc (.cells #[.slice A n c] 24)) := ⟨_, Lib.hid rfl⟩
 have hbl : Below w.heap.size w W := by rw [HW.out]; exact (Below.refl _ w).alloc (Nat.le_refl _) _
 have H0 : Hid (W.heap[w.heap.size]? = some (.cells #[.slice A n c] 24 (0, 0))) := Lib.hid (by rw [HW.out]; exact heap_new w _)
 have HBL := Lib.hid hbl
 have HA := Lib.hid (h.below hbl)
 have HF := Lib.hid (hf.below (hbl.mono hB2))
 have HT := Lib.hid (ht.below (hbl.mono hB3))
 have HB2 : Hid (B2 ≤ W.heap.size) := Lib.hid (Nat.le_trans hB2 hbl.size)
 have HB3 : Hid (B3 ≤ W.heap.size) := Lib.hid (Nat.le_trans hB3 hbl.size)
 have HLV := Lib.hid hlv
 have HSF := Lib.hid hsf
 have HST := Lib.hid hst
 have HML : Hid (fs.length = m) := Lib.hid hf.len
 have hmn : m = n := by rw [← hf.len, ← h.rd.1]; exact (setB_iff.1 hsf).1
 have hm3n : m3 = n := by rw [← ht.len, ← h.rd.1]; exact (setB_iff.1 hst).1
 have hn16 := h.n16
 subst hmn
 subst hm3n
 clear h hf ht hbl hlv hsf hst hB2 hB3
 obtain ⟨x0, _⟩ := row1f H0.out
 go_enter Tryz.func42, Tryz.ntmps42
 go_upto_region 1 with fail
 change Code.wp _ _ _ _ (w.alloc (.cells #[.slice A m3 c] 24))
 rw [← HW.out]
 go_wp2_with fail
 clear x0
 go_loopw [7, 8, 11] (fun v _ i wr => ∃ k : Nat, k ≤ m3 ∧ i = .int .i64 (k : Int) ∧ Hid (OwnF 64 2 spF wr W.heap.size v (stK l fs ts k)) ∧ Hid (Below W.heap.size W wr)) (fun _ _ i _ => m3 - (intOf i).toNat)
 case atStart => exact ⟨0, Nat.zero_le _, rfl, Lib.hid (OwnF.nil_ _ _ _ _ _), Lib.hid (Below.refl _ _)⟩
 case round =>
  obtain ⟨wo, hwo⟩ : ∃ x, x = wr := ⟨_, rfl⟩
  subst hwo
  obtain ⟨k, hk, rfl, HO, HBo⟩ := hrel
  have hzo := HBo.out.size
  by_cases hkn : k < m3
  ·have hd : decide ((k : Int) < (m3 : Int)) = true := by simp; omega
   have hki : (k : Int) < (m3 : Int) := by omega
   have hk0 : (0 : Int) ≤ (k : Int) := by omega
   have hadd : IntKind.i64.wrap ((k : Int) + 1) = ((k + 1 : Nat) : Int) := by rw [IntWalk.i64_in _ (by omega)]; omega
   have HFo := Lib.hid (HF.out.below (HBo.out.mono HB2.out))
   have HTo := Lib.hid (HT.out.below (HBo.out.mono HB3.out))
   have HSL : Hid ((stK l fs ts k).length ≤ 48) := Lib.hid (by have := stK_len l fs ts k; omega)
   obtain ⟨bf, of', hAf, hbf, cf⟩ := HFo.out.at_ hkn
   obtain ⟨bt', ot, hAt, hbt, ct⟩ := HTo.out.at_ hkn
   obtain ⟨F, HFV⟩ : ∃ q, Hid (ix fs k = q) := ⟨_, Lib.hid rfl⟩
   obtain ⟨T, HTV⟩ : ∃ q, Hid (ix ts k = q) := ⟨_, Lib.hid rfl⟩
   rw [HFV.out] at cf
   rw [HTV.out] at ct
   by_cases hft : F = T
   ·subst hft
    have e1 : (F == F) = true := by simp
    have HNX : Hid (stK l fs ts (k + 1) = stK l fs ts k) := Lib.hid (by
     rw [stK_succ]; unfold stAt; rw [if_pos (by rw [HFV.out, HTV.out])]; simp)
    subst hAf hAt
    go_wp2_with fail
    go_quiet (fail)
    go_wp2_with fail
    go_roundw
    case rel => exact ⟨k + 1, by omega, by go_num, Lib.hid (by rw [HNX.out]; first | exact HO.out | exact HO.out.drewN _), Lib.hid (by first | exact HBo.out | exact Below.drewN' HBo.out _)⟩
    case measure => simp [intOf]; omega
   ·have e1 : (F == T) = false := by rw [beq_eq_false_iff_ne]; exact hft
    have HNE : Hid (ix fs k ≠ ix ts k) := Lib.hid (by rw [HFV.out, HTV.out]; exact hft)
    obtain ⟨x0, _⟩ := row1f ((HBo.out.block w.heap.size (heapE_lt H0.out)).trans H0.out)
    have HRI := Lib.hid (fun nq => rise_any (c2 := c2) (c3 := c3) (w := wo.drewN nq) (show CatAt (wo.drewN nq) B A m3 c l from (by have h := HA.out.below HBo.out; exact ⟨h.rd, h.cap, h.le, h.sm, h.len, h.one⟩)) HLV.out (show Rd (wo.drewN nq) B2 A2 m3 fs from HFo.out) (show Rd (wo.drewN nq) B3 A3 m3 ts from HTo.out) (by have := HB2.out; show B2 ≤ wo.heap.size; omega) (by have := HB3.out; show B3 ≤ wo.heap.size; omega) HSF.out HST.out hkn)
    obtain ⟨R, HR⟩ : ∃ q, Hid (rise l fs ts k = q) := ⟨_, Lib.hid rfl⟩
    have HRI := Lib.hid (fun nq => by have h := HRI.out nq; rw [HR.out] at h; exact h)
    subst hAf hAt
    clear hft
    by_cases hr0 : R = 0
    ·have e2 : (R == 0) = true := by simp [hr0]
     have HNX : Hid (stK l fs ts (k + 1) = stK l fs ts k ++ [((k : Int), 2)]) := Lib.hid (by
      rw [stK_succ]; unfold stAt; rw [if_neg HNE.out, if_pos (by rw [HR.out]; exact hr0)])
     clear hr0
     go_wp2_with fail
     go_quiet (fail)
     go_wp2_with fail
     refine (HRI.out _).mono ?_
     rintro e w1 ⟨rfl, hb'⟩
     have HB1 : Hid (Below wo.heap.size wo w1) := Lib.hid ((Below.drewN' (Below.refl _ wo) _).trans hb')
     have HO1 := Lib.hid (HO.out.kept HB1.out)
     have hz1 := HB1.out.size
     clear hb' x0 cf ct HRI
     go_wp2_with (at_builtin; refine wplF_apps (f := spF) (fun _ => rfl) (fun x u hu => by simp [spF] at hu; rcases hu with rfl | rfl <;> rfl) Tryz.underlying32 infoSt rfl (by decide) (by decide) rfl (.tmp 40) (.tmp 43) rfl W.heap.size _ (stK l fs ts k) rfl (HO1.out.alloc _) w1.heap.size 1 1 [((k : Int), 2)] rfl rfl (cells_of (heap_new w1 _)) (by have := HSL.out; omega) (by simp; omega) ?_; intro v' w2 hown2 hgr2 hat2)
     have HB2' : Hid (Below W.heap.size W w2) := Lib.hid (((HBo.out.trans (HB1.out.mono hzo)).alloc (by omega) _).grown hgr2 (by simp; omega) (HO1.out.ge))
     have HO2 : Hid (OwnF 64 2 spF w2 W.heap.size v' (stK l fs ts (k + 1))) := Lib.hid (by rw [HNX.out]; exact hown2)
     clear hown2 hgr2 hat2
     go_wp2_with fail
     go_roundw
     case rel => exact ⟨k + 1, by omega, by go_num, HO2, HB2'⟩
     case measure => simp [intOf]; omega
    ·have e2 : (R == 0) = false := by rw [beq_eq_false_iff_ne]; exact hr0
     have HNX : Hid (stK l fs ts (k + 1) = stK l fs ts k ++ [((k : Int), 1), ((k : Int), 2), ((k : Int), 3)]) := Lib.hid (by
      rw [stK_succ]; unfold stAt; rw [if_neg HNE.out, if_neg (by rw [HR.out]; exact hr0)])
     clear hr0
     go_wp2_with fail
     go_quiet (fail)
     go_wp2_with fail
     refine (HRI.out _).mono ?_
     rintro e w1 ⟨rfl, hb'⟩
     have HB1 : Hid (Below wo.heap.size wo w1) := Lib.hid ((Below.drewN' (Below.refl _ wo) _).trans hb')
     have HO1 := Lib.hid (HO.out.kept HB1.out)
     have hz1 := HB1.out.size
     clear hb' x0 cf ct HRI
     go_wp2_with (at_builtin; refine wplF_apps (f := spF) (fun _ => rfl) (fun x u hu => by simp [spF] at hu; rcases hu with rfl | rfl <;> rfl) Tryz.underlying32 infoSt rfl (by decide) (by decide) rfl (.tmp 14) (.tmp 21) rfl W.heap.size _ (stK l fs ts k) rfl (HO1.out.alloc _) w1.heap.size 3 3 [((k : Int), 1), ((k : Int), 2), ((k : Int), 3)] rfl rfl (cells_of (heap_new w1 _)) (by have := HSL.out; omega) (by simp; omega) ?_; intro v' w2 hown2 hgr2 hat2)
     have HB2' : Hid (Below W.heap.size W w2) := Lib.hid (((HBo.out.trans (HB1.out.mono hzo)).alloc (by omega) _).grown hgr2 (by simp; omega) (HO1.out.ge))
     have HO2 : Hid (OwnF 64 2 spF w2 W.heap.size v' (stK l fs ts (k + 1))) := Lib.hid (by rw [HNX.out]; exact hown2)
     clear hown2 hgr2 hat2
     go_wp2_with fail
     go_roundw
     case rel => exact ⟨k + 1, by omega, by go_num, HO2, HB2'⟩
     case measure => simp [intOf]; omega
  ·have hd : decide ((k : Int) < (m3 : Int)) = false := by simp; omega
   obtain rfl : k = m3 := by omega
   go_wp2_with fail
   exact bodyPost_ret (results_tmp rfl _ _ _) rfl ⟨_, rfl, (by unfold stL; rw [HML.out]; exact HO.out.less HBL.out.size), HBL.out.trans (HBo.out.mono HBL.out.size)⟩
end Go.Proofs.YtminihiecloglaaGreat
