/-
  MERGED: PGc PDg PEo PRs PRt.
-/
import Derived.Test.YtminihiecloglaaGreatPGb
import Derived.Test.YtminihiecloglaaGreatPFa
import Derived.Test.YtminihiecloglaaGreatPCe
import Derived.Test.YtminihiecloglaaGreatPZb
import Derived.Test.YtminihiecloglaaGreatDCirc
import Derived.Deep.QuietTactic
import Derived.BigQuiet
import Derived.Deep.RegionWith
import Derived.Deep.RegionHeld3
set_option linter.unusedVariables false
set_option linter.unusedSimpArgs false
namespace Go.Proofs.YtminihiecloglaaGreat
open Go.RowKit
open SemP FlP GaP DiP
set_option maxRecDepth 10000
set_option maxHeartbeats 16000000 in
theorem goodQ_set {w : World} {B n c c2 : Nat} {A A2 : Option Addr} {l : List Sv} {vs : List Int} (h : CatAt w B A n c l) (hlv : LevOK l) (hset : setB l vs = true) (hv : PrR w A2 n (setL l vs)) :
  Calls Tryz.prog 34 #[.agg #[.slice A n c], .slice A2 n c2] w fun e w' => e = .returned (.bool (goodC l (setL l vs))) ∧ Below w.heap.size w w' := by
 obtain ⟨W, HW⟩ : ∃ W, Hid (W = w.alloc (.cells #[.slice A n c] 29)) := ⟨_, Lib.hid rfl⟩
 have hbl : Below w.heap.size w W := by rw [HW.out]; exact (Below.refl _ w).alloc (Nat.le_refl _) _
 have H0 : Hid (W.heap[w.heap.size]? = some (.cells #[.slice A n c] 29 (0, 0))) := Lib.hid (by rw [HW.out]; exact heap_new w _)
 have HBL := Lib.hid hbl
 have HN16 := Lib.hid h.n16
 have HA := Lib.hid (h.below hbl)
 have HV := Lib.hid (hv.below hbl)
 have HLV := Lib.hid hlv
 have HSET := Lib.hid hset
 have HVN : Hid (vs.length = n) := Lib.hid (by have := hv.1; rw [setL_len] at this; exact this)
 have HGC : Hid (goodC l (setL l vs) = (List.range n).all (fun j => (List.range j).all (fun i => fitP l (setL l vs) i j))) := Lib.hid (by
  have hl : (setL l vs).length = n := by rw [setL_len]; exact HVN.out
  unfold goodC
  rw [hl, decide_eq_true (show n = l.length from h.rd.1.symm), Bool.true_and]
  rw [show (List.range n).all (fun i => standC l (i : Int) (at_ (setL l vs) i)) = true from ?_, Bool.true_and]
  rw [List.all_eq_true]
  intro k hk
  have hk := List.mem_range.1 hk
  rw [setL_at l vs (by rw [HVN.out]; exact hk)]
  exact stand_set hlv h.sm ((setB_iff.1 hset).2 k (by rw [HVN.out]; exact hk)))
 obtain ⟨G, HG⟩ : ∃ q, Hid (goodC l (setL l vs) = q) := ⟨_, Lib.hid rfl⟩
 rw [HG.out] at HGC ⊢
 clear h hlv hset hv hbl
 obtain ⟨x0, _⟩ := row1f H0.out
 go_enter Tryz.func34, Tryz.ntmps34
 go_upto_region 1 with fail
 change Code.wp _ _ _ _ (w.alloc (.cells #[.slice A n c] 29))
 rw [← HW.out]
 have hnn : ((n : Int) != (n : Int)) = false := by simp
 go_wp2_with fail
 clear x0
 go_loopw [5] (fun v wr => ∃ k : Nat, k ≤ n ∧ v = .int .i64 (k : Int) ∧ Hid (Below W.heap.size W wr)) (fun v _ => n - (intOf v).toNat)
 case atStart => exact ⟨0, Nat.zero_le _, rfl, Lib.hid (Below.refl _ _)⟩
 case round =>
  obtain ⟨wo, hwo⟩ : ∃ x, x = wr := ⟨_, rfl⟩
  subst hwo
  obtain ⟨k, hk, rfl, HBo⟩ := hrel
  by_cases hkn : k < n
  ·have hd : decide ((k : Int) < (n : Int)) = true := by simp; omega
   have hki : (k : Int) < (n : Int) := by omega
   have hk0 : (0 : Int) ≤ (k : Int) := by omega
   have hadd : IntKind.i64.wrap ((k : Int) + 1) = ((k + 1 : Nat) : Int) := by rw [IntWalk.i64_in _ (by have := HN16.out; omega)]; omega
   obtain ⟨v, _, hvl, hat⟩ := setP_nat HSET.out (show k < vs.length by rw [HVN.out]; exact hkn)
   obtain ⟨b, off, rfl, hlt, s0, s1⟩ := (HV.out.below HBo.out).2 k hkn
   rw [hat] at s0 s1
   have hAo := HA.out.below HBo.out
   have hAD : CatAt (wo.drewN 1) B A n c l := ⟨hAo.rd, hAo.cap, hAo.le, hAo.sm, hAo.len, hAo.one⟩
   have HST := Lib.hid (standQ_set (c := c) hAD HLV.out hkn hvl)
   obtain ⟨F, HF⟩ : ∃ q, Hid (2 * levAt l k v = q) := ⟨_, Lib.hid rfl⟩
   rw [HF.out] at HST
   have s0 : wo.cell? ⟨b, off + k * 2, none⟩ = some (.int .i64 (v : Int)) := s0
   have s1 : wo.cell? ⟨b, off + k * 2 + 1, none⟩ = some (.int .i64 (2 * levAt l k v)) := s1
   rw [HF.out] at s1
   have Ko : Hid (wo.heap[w.heap.size]? = _) := Lib.hid ((HBo.out.block w.heap.size (heapE_lt H0.out)).trans H0.out)
   obtain ⟨x0, _⟩ := row1f Ko.out
   clear hAo hAD hat hvl
   go_wp2_with fail
   go_region_held3 (fun W' => W'.cell? ⟨w.heap.size, 0, none⟩ = some (.slice A n c) ∧ W'.cell? ⟨b, off + k * 2, none⟩ = some (.int .i64 (v : Int)) ∧ W'.cell? ⟨b, off + k * 2 + 1, none⟩ = some (.int .i64 F)) ((first | exact ⟨x0, s0, s1⟩ | exact ⟨z0, z1, z2⟩ | go_keep)) (first
    | (go_at_call 65; refine HST.out.mono ?_; rintro e w1 ⟨rfl, hb'⟩; (have hb : Below wo.heap.size wo w1 := (Below.drewN' (Below.refl _ wo) 1).trans hb'); (have z0 := (row1f ((hb.block w.heap.size (heapE_lt Ko.out)).trans Ko.out)).1); (have z1 := (hb.cell (p := ⟨b, off + k * 2, none⟩) hlt).trans s0); (have z2 := (hb.cell (p := ⟨b, off + k * 2 + 1, none⟩) hlt).trans s1); (have HBZ := Lib.hid hb); clear hb hb'))
   have HB1 : Hid (Below W.heap.size W w1) := Lib.hid (HBo.out.trans (HBZ.out.mono HBo.out.size))
   clear z0 z1 z2 s0 s1 x0
   go_wp2_with fail
   go_roundw
   case rel => exact ⟨k + 1, by omega, by go_num, HB1⟩
   case measure => simp [intOf]; omega
  ·have hd : decide ((k : Int) < (n : Int)) = false := by simp; omega
   go_wp2_with fail
   go_loopw [6, 7] (fun v _ wr => ∃ j : Nat, j ≤ n ∧ v = .int .i64 (j : Int) ∧ Hid (Below W.heap.size W wr) ∧ Hid (∀ x, x < j → (List.range x).all (fun i => fitP l (setL l vs) i x) = true)) (fun v _ _ => n - (intOf v).toNat)
   case atStart => exact ⟨0, Nat.zero_le _, rfl, HBo, Lib.hid (fun x hx => absurd hx (by omega))⟩
   case round =>
    obtain ⟨wj, hwj⟩ : ∃ x, x = wr := ⟨_, rfl⟩
    subst hwj
    obtain ⟨j, hj, rfl, HBj, HJ⟩ := hrel
    by_cases hjn : j < n
    ·have hd2 : decide ((j : Int) < (n : Int)) = true := by simp; omega
     have hji : (j : Int) < (n : Int) := by omega
     have hj0 : (0 : Int) ≤ (j : Int) := by omega
     have hadd2 : IntKind.i64.wrap ((j : Int) + 1) = ((j + 1 : Nat) : Int) := by rw [IntWalk.i64_in _ (by have := HN16.out; omega)]; omega
     go_wp2_with fail
     go_loopw [7] (fun v wr => ∃ i : Nat, i ≤ j ∧ v = .int .i64 (i : Int) ∧ Hid (Below W.heap.size W wr) ∧ Hid (∀ x, x < i → fitP l (setL l vs) x j = true)) (fun v _ => j - (intOf v).toNat)
     case atStart => exact ⟨0, Nat.zero_le _, rfl, HBj, Lib.hid (fun x hx => absurd hx (by omega))⟩
     case round =>
      obtain ⟨wi, hwi⟩ : ∃ x, x = wr := ⟨_, rfl⟩
      subst hwi
      obtain ⟨i, hi, rfl, HBi, HI⟩ := hrel
      by_cases hij : i < j
      ·have hd3 : decide ((i : Int) < (j : Int)) = true := by simp; omega
       have hii : (i : Int) < (n : Int) := by omega
       have hi0 : (0 : Int) ≤ (i : Int) := by omega
       have hadd3 : IntKind.i64.wrap ((i : Int) + 1) = ((i + 1 : Nat) : Int) := by rw [IntWalk.i64_in _ (by have := HN16.out; omega)]; omega
       obtain ⟨b, off, rfl, hlt, s0, _⟩ := (HV.out.below HBi.out).2 j hjn
       obtain ⟨b', off', hA', _, t0, _⟩ := (HV.out.below HBi.out).2 i (by omega)
       injection hA' with hA'
       injection hA' with q1 q2 _
       subst q1 q2
       obtain ⟨V, HVV⟩ : ∃ q, Hid ((at_ (setL l vs) j).1 = q) := ⟨_, Lib.hid rfl⟩
       obtain ⟨U, HUU⟩ : ∃ q, Hid ((at_ (setL l vs) i).1 = q) := ⟨_, Lib.hid rfl⟩
       rw [HVV.out] at s0
       rw [HUU.out] at t0
       have hAi := HA.out.below HBi.out
       have hAD : CatAt (wi.drewN 1) B A n c l := ⟨hAi.rd, hAi.cap, hAi.le, hAi.sm, hAi.len, hAi.one⟩
       have HFT := Lib.hid (fitsQ_any (i := (j : Int)) (v := V) (j := (i : Int)) (x := U) hAD)
       rw [fitsC_swap] at HFT
       have HFP : Hid (fitP l (setL l vs) i j = fitsC l (i : Int) U (j : Int) V) := Lib.hid (by unfold fitP; rw [HVV.out, HUU.out])
       obtain ⟨ft, HF⟩ : ∃ q, Hid (fitsC l (i : Int) U (j : Int) V = q) := ⟨_, Lib.hid rfl⟩
       rw [HF.out] at HFT HFP
       have Ki : Hid (wi.heap[w.heap.size]? = _) := Lib.hid ((HBi.out.block w.heap.size (heapE_lt H0.out)).trans H0.out)
       obtain ⟨x0, _⟩ := row1f Ki.out
       clear hAi hAD
       go_wp2_with fail
       go_region_held3 (fun W' => W'.cell? ⟨w.heap.size, 0, none⟩ = some (.slice A n c) ∧ W'.cell? ⟨b, off + j * 2, none⟩ = some (.int .i64 V) ∧ W'.cell? ⟨b, off + i * 2, none⟩ = some (.int .i64 U)) ((first | exact ⟨x0, s0, t0⟩ | exact ⟨z0, z1, z2⟩ | go_keep)) (first
        | (go_at_call 58; refine HFT.out.mono ?_; rintro e w1 ⟨rfl, hb'⟩; (have hb : Below wi.heap.size wi w1 := (Below.drewN' (Below.refl _ wi) 1).trans hb'); (have z0 := (row1f ((hb.block w.heap.size (heapE_lt Ki.out)).trans Ki.out)).1); (have z1 := (hb.cell (p := ⟨b, off + j * 2, none⟩) hlt).trans s0); (have z2 := (hb.cell (p := ⟨b, off + i * 2, none⟩) hlt).trans t0); (have HBZ := Lib.hid hb); clear hb hb'))
       have HB1 : Hid (Below W.heap.size W w1) := Lib.hid (HBi.out.trans (HBZ.out.mono HBi.out.size))
       clear z0 z1 z2 s0 t0 x0
       cases ft with
       | false =>
        have HX : Hid (G = false) := Lib.hid (by
         rw [HGC.out, List.all_eq_false]
         refine ⟨j, List.mem_range.2 hjn, ?_⟩
         rw [Bool.not_eq_true, List.all_eq_false]
         exact ⟨i, List.mem_range.2 hij, by rw [HFP.out]; decide⟩)
        go_wp2_with fail
        exact bodyPost_ret (results_tmp rfl _ _ _) rfl ⟨by rw [HX.out]; rfl, HBL.out.trans (HB1.out.mono HBL.out.size)⟩
       | true =>
        go_wp2_with fail
        go_roundw
        case rel => exact ⟨i + 1, by omega, by go_num, HB1, Lib.hid (fun x hx => by
         by_cases e : x = i
         ·subst e; exact HFP.out
         ·exact HI.out x (by omega))⟩
        case measure => simp [intOf]; omega
      ·have hd3 : decide ((i : Int) < (j : Int)) = false := by simp; omega
       obtain rfl : i = j := by omega
       go_wp2_with fail
       go_roundw
       case rel => exact ⟨i + 1, by omega, by go_num, HBi, Lib.hid (fun x hx => by
        by_cases e : x = i
        ·subst e; rw [List.all_eq_true]; exact fun y hy => HI.out y (List.mem_range.1 hy)
        ·exact HJ.out x (by omega))⟩
       case measure => simp [intOf]; omega
    ·have hd2 : decide ((j : Int) < (n : Int)) = false := by simp; omega
     have HX : Hid (G = true) := Lib.hid (by
      rw [HGC.out, List.all_eq_true]
      exact fun x hx => HJ.out x (by have := List.mem_range.1 hx; omega))
     go_wp2_with fail
     exact bodyPost_ret (results_tmp rfl _ _ _) rfl ⟨by rw [HX.out]; rfl, HBL.out.trans (HBj.out.mono HBL.out.size)⟩
end Go.Proofs.YtminihiecloglaaGreat
namespace Go.Proofs.YtminihiecloglaaGreat
open Go.RowKit
open SemP FlP GaP DiP
set_option maxRecDepth 10000
def RelP (l : List Sv) (ps : List (Int × Int)) : Prop := ∀ k, k < ps.length → ∃ v : Nat, (at_ ps k).1 = (v : Int) ∧ v < (svAt l k).2.length ∧ 0 ≤ (at_ ps k).2 ∧ (at_ ps k).2 ≤ 5000
set_option maxHeartbeats 16000000 in
theorem standR_any {w : World} {B n c i v : Nat} {f : Int} {A : Option Addr} {l : List Sv} (h : CatAt w B A n c l) (hlv : LevOK l) (hi : i < n) (hv : v < (svAt l i).2.length) (hf : 0 ≤ f ∧ f ≤ 5000) :
  Calls Tryz.prog 65 #[.agg #[.slice A n c], .int .i64 (i : Int), .agg #[.int .i64 (v : Int), .int .i64 f]] w fun e w' => e = .returned (.bool (decide (-1 ≤ f - 2 * levAt l i v) && decide (f - 2 * levAt l i v ≤ 1))) ∧ Below w.heap.size w w' := by
 obtain ⟨W, HW⟩ : ∃ W, Hid (W = (w.alloc (.cells #[.slice A n c] 29)).alloc (.cells #[.int .i64 (v : Int), .int .i64 f] 66)) := ⟨_, Lib.hid rfl⟩
 have hbl : Below w.heap.size w W := by rw [HW.out]; exact ((Below.refl _ w).alloc (Nat.le_refl _) _).alloc (by simp) _
 have HBL := Lib.hid hbl
 have H0 : Hid (W.heap[w.heap.size]? = some (.cells #[.slice A n c] 29 (0, 0))) := Lib.hid (by
  rw [HW.out, Below.heap_alloc _ _ _ (by simp)]; exact heap_new w _)
 have H1 : Hid (W.heap[w.heap.size + 1]? = some (.cells #[.int .i64 (v : Int), .int .i64 f] 66 (0, 0))) := Lib.hid (by
  rw [HW.out]
  have h := heap_new (w.alloc (.cells #[.slice A n c] 29)) (.cells #[.int .i64 (v : Int), .int .i64 f] 66)
  rw [World.size_alloc] at h; exact h)
 have hA := h.below hbl
 have hn16 := h.n16
 have hln : l.length = n := h.rd.1
 have hv16 : v < 17 := by have := (h.sm.2 _ (svAt_mem (show i < l.length by omega))).2.1; omega
 obtain ⟨b1, o1, Aj, nj, cj, hA1, hb1, _, k1, _, hrj⟩ := sv_at hA.rd hi
 subst hA1
 have hnj : (svAt l i).2.length = nj := hrj.1
 obtain ⟨b2, o2, _, _, _, hA2, hb2, _, _, _, _, kf, _⟩ := rl_at hrj (i := v) (by omega)
 subst hA2
 have l1 := levAt_ok hlv (show i < l.length by omega) hv
 have e1 : (rlAt (svAt l i).2 v).2.1 = levAt l i v := rfl
 rw [e1] at kf
 obtain ⟨L, hL⟩ : ∃ q, levAt l i v = q := ⟨_, rfl⟩
 rw [hL] at kf l1 ⊢
 have hb1w : b1 < W.heap.size := by have := hA.le; omega
 have hb2w : b2 < W.heap.size := by have := hA.le; omega
 have HPL := Lib.hid (placeQ_yes (x := (v : Int)) (y := f) (by omega) (by omega) (W.drewN 1))
 have hi0 : (0 : Int) ≤ (i : Int) := by omega
 have hii : (i : Int) < (n : Int) := by omega
 have di0 : decide ((i : Int) < 0) = false := by simp
 have din : decide ((n : Int) ≤ (i : Int)) = false := by simp; omega
 have dvn : decide ((nj : Int) ≤ (v : Int)) = false := by simp; omega
 have pi0 : ¬ (i : Int) < 0 := by omega
 have pin : ¬ (n : Int) ≤ (i : Int) := by omega
 have pvn : ¬ (nj : Int) ≤ (v : Int) := by omega
 have hv0 : (0 : Int) ≤ (v : Int) := by omega
 have hvn : (v : Int) < (nj : Int) := by omega
 have hmul : IntKind.i64.wrap (2 * L) = 2 * L := IntWalk.i64_in _ (by omega)
 obtain ⟨D, HD⟩ : ∃ q, Hid (f - 2 * L = q) := ⟨_, Lib.hid rfl⟩
 have hsub : IntKind.i64.wrap (f - 2 * L) = D := by rw [IntWalk.i64_in _ (by omega)]; exact HD.out
 rw [HD.out]
 obtain ⟨x0, _⟩ := row1f H0.out
 obtain ⟨p0, p1, _, _⟩ := row2 H1.out
 clear h hlv hbl hA hrj hv hL e1 hf l1
 go_enter Tryz.func65, Tryz.ntmps65
 go_upto_region 1 with fail
 change Code.wp _ _ _ _ ((w.alloc (.cells #[.slice (some ⟨b1, o1, none⟩) n c] 29)).alloc (.cells #[.int .i64 (v : Int), .int .i64 f] 66))
 rw [← HW.out]
 go_region_held3 (fun W' => W'.cell? ⟨w.heap.size, 0, none⟩ = some (.slice (some ⟨b1, o1, none⟩) n c) ∧ W'.cell? ⟨w.heap.size + 1, 0, none⟩ = some (.int .i64 (v : Int)) ∧ W'.cell? ⟨w.heap.size + 1, 1, none⟩ = some (.int .i64 f) ∧ W'.cell? ⟨b1, o1 + i * 2 + 1, none⟩ = some (.slice (some ⟨b2, o2, none⟩) nj cj)) ((first | exact ⟨x0, p0, p1, k1⟩ | exact ⟨z0, z1, z2, z3⟩ | go_keep)) (first
  | (go_at_call 28; refine HPL.out.mono ?_; rintro e w1 ⟨rfl, hb'⟩; (have hb : Below W.heap.size W w1 := (Below.drewN' (Below.refl _ W) 1).trans hb'); (have z0 := (row1f ((hb.block w.heap.size (heapE_lt H0.out)).trans H0.out)).1); (obtain ⟨z1, z2, _, _⟩ := row2 ((hb.block (w.heap.size + 1) (heapE_lt H1.out)).trans H1.out)); (have z3 := (hb.cell (p := ⟨b1, o1 + i * 2 + 1, none⟩) hb1w).trans k1); (have z4 := (hb.cell (p := ⟨b2, o2 + v * 6 + 4, none⟩) hb2w).trans kf); (have HBZ := Lib.hid hb); clear hb hb'))
 have HRES : Hid (Below w.heap.size w w1) := Lib.hid (HBL.out.trans (HBZ.out.mono HBL.out.size))
 by_cases h1 : D = -1
 ·subst h1
  go_wp2_with fail
  go_quiet (fail)
  go_wp2_with fail
  refine bodyPost_ret (results_tmp rfl _ _ _) rfl ⟨rfl, by first | exact HRES.out | exact Below.drewN' HRES.out _⟩
 by_cases h2 : D = 0
 ·subst h2
  clear h1
  go_wp2_with fail
  go_quiet (fail)
  go_wp2_with fail
  refine bodyPost_ret (results_tmp rfl _ _ _) rfl ⟨rfl, by first | exact HRES.out | exact Below.drewN' HRES.out _⟩
 by_cases h3 : D = 1
 ·subst h3
  clear h1 h2
  go_wp2_with fail
  go_quiet (fail)
  go_wp2_with fail
  refine bodyPost_ret (results_tmp rfl _ _ _) rfl ⟨rfl, by first | exact HRES.out | exact Below.drewN' HRES.out _⟩
 have n1 : (D == -1) = false := by rw [beq_eq_false_iff_ne]; exact h1
 have n2 : (D == 0) = false := by rw [beq_eq_false_iff_ne]; exact h2
 have n3 : (D == 1) = false := by rw [beq_eq_false_iff_ne]; exact h3
 have HX : Hid ((decide (-1 ≤ D) && decide (D ≤ 1)) = false) := Lib.hid (by
  by_cases h : -1 ≤ D
  ·rw [decide_eq_false (show ¬ D ≤ 1 by omega), Bool.and_false]
  ·rw [decide_eq_false h, Bool.false_and])
 clear h1 h2 h3
 go_wp2_with fail
 go_quiet (fail)
 go_wp2_with fail
 refine bodyPost_ret (results_tmp rfl _ _ _) rfl ⟨by rw [HX.out]; rfl, by first | exact HRES.out | exact Below.drewN' HRES.out _⟩
set_option maxHeartbeats 16000000 in
theorem goodR_any {w : World} {B n c c2 : Nat} {A A2 : Option Addr} {l : List Sv} {ps : List (Int × Int)} (h : CatAt w B A n c l) (hlv : LevOK l) (hrl : RelP l ps) (hv : PrR w A2 n ps) :
  Calls Tryz.prog 34 #[.agg #[.slice A n c], .slice A2 n c2] w fun e w' => e = .returned (.bool (goodC l (ps))) ∧ Below w.heap.size w w' := by
 obtain ⟨W, HW⟩ : ∃ W, Hid (W = w.alloc (.cells #[.slice A n c] 29)) := ⟨_, Lib.hid rfl⟩
 have hbl : Below w.heap.size w W := by rw [HW.out]; exact (Below.refl _ w).alloc (Nat.le_refl _) _
 have H0 : Hid (W.heap[w.heap.size]? = some (.cells #[.slice A n c] 29 (0, 0))) := Lib.hid (by rw [HW.out]; exact heap_new w _)
 have HBL := Lib.hid hbl
 have HN16 := Lib.hid h.n16
 have HA := Lib.hid (h.below hbl)
 have HV := Lib.hid (hv.below hbl)
 have HLV := Lib.hid hlv
 have HRL := Lib.hid hrl
 have HVN : Hid (ps.length = n) := Lib.hid hv.1
 have HGC : Hid (goodC l ps = ((List.range n).all (fun i => standC l (i : Int) (at_ ps i)) && (List.range n).all (fun j => (List.range j).all (fun i => fitP l ps i j)))) := Lib.hid (by
  unfold goodC
  rw [HVN.out, decide_eq_true (show n = l.length from h.rd.1.symm), Bool.true_and])
 have HLN : Hid (l.length = n) := Lib.hid h.rd.1
 have HSM : Hid (∀ a, a < l.length → (svAt l a).2.length ≤ 16) := Lib.hid (fun a ha => (h.sm.2 _ (svAt_mem ha)).2.1)
 obtain ⟨G, HG⟩ : ∃ q, Hid (goodC l (ps) = q) := ⟨_, Lib.hid rfl⟩
 rw [HG.out] at HGC ⊢
 clear h hlv hrl hv hbl
 obtain ⟨x0, _⟩ := row1f H0.out
 go_enter Tryz.func34, Tryz.ntmps34
 go_upto_region 1 with fail
 change Code.wp _ _ _ _ (w.alloc (.cells #[.slice A n c] 29))
 rw [← HW.out]
 have hnn : ((n : Int) != (n : Int)) = false := by simp
 go_wp2_with fail
 clear x0
 go_loopw [5] (fun v wr => ∃ k : Nat, k ≤ n ∧ v = .int .i64 (k : Int) ∧ Hid (Below W.heap.size W wr) ∧ Hid (∀ x, x < k → standC l (x : Int) (at_ ps x) = true)) (fun v _ => n - (intOf v).toNat)
 case atStart => exact ⟨0, Nat.zero_le _, rfl, Lib.hid (Below.refl _ _), Lib.hid (fun x hx => absurd hx (by omega))⟩
 case round =>
  obtain ⟨wo, hwo⟩ : ∃ x, x = wr := ⟨_, rfl⟩
  subst hwo
  obtain ⟨k, hk, rfl, HBo, HK⟩ := hrel
  by_cases hkn : k < n
  ·have hd : decide ((k : Int) < (n : Int)) = true := by simp; omega
   have hki : (k : Int) < (n : Int) := by omega
   have hk0 : (0 : Int) ≤ (k : Int) := by omega
   have hadd : IntKind.i64.wrap ((k : Int) + 1) = ((k + 1 : Nat) : Int) := by rw [IntWalk.i64_in _ (by have := HN16.out; omega)]; omega
   obtain ⟨v, hve, hvl, hf0, hf5⟩ := HRL.out k (by rw [HVN.out]; exact hkn)
   obtain ⟨b, off, rfl, hlt, s0, s1⟩ := (HV.out.below HBo.out).2 k hkn
   rw [hve] at s0
   obtain ⟨F, HF⟩ : ∃ q, Hid ((at_ ps k).2 = q) := ⟨_, Lib.hid rfl⟩
   rw [HF.out] at s1 hf0 hf5
   have hAo := HA.out.below HBo.out
   have hAD : CatAt (wo.drewN 1) B A n c l := ⟨hAo.rd, hAo.cap, hAo.le, hAo.sm, hAo.len, hAo.one⟩
   have HST := Lib.hid (standR_any (c := c) hAD HLV.out hkn hvl ⟨hf0, hf5⟩)
   have HSC : Hid (standC l (k : Int) (at_ ps k) = (decide (-1 ≤ F - 2 * levAt l k v) && decide (F - 2 * levAt l k v ≤ 1))) := Lib.hid (by
    have h16 := HSM.out k (by rw [HLN.out]; exact hkn)
    unfold standC plB
    rw [hve, HF.out, decide_eq_true (show (0 : Int) ≤ (v : Int) by omega), decide_eq_true (show (v : Int) ≤ 1048576 by omega), decide_eq_true hf0, decide_eq_true (show F ≤ 1048576 by omega), isR_of (by rw [HLN.out]; exact hkn) hvl, Int.toNat_natCast, Int.toNat_natCast]
    simp)
   obtain ⟨sc, HSV⟩ : ∃ q, Hid ((decide (-1 ≤ F - 2 * levAt l k v) && decide (F - 2 * levAt l k v ≤ 1)) = q) := ⟨_, Lib.hid rfl⟩
   rw [HSV.out] at HST HSC
   have Ko : Hid (wo.heap[w.heap.size]? = _) := Lib.hid ((HBo.out.block w.heap.size (heapE_lt H0.out)).trans H0.out)
   obtain ⟨x0, _⟩ := row1f Ko.out
   clear hAo hAD hve hvl hf0 hf5
   go_wp2_with fail
   go_region_held3 (fun W' => W'.cell? ⟨w.heap.size, 0, none⟩ = some (.slice A n c) ∧ W'.cell? ⟨b, off + k * 2, none⟩ = some (.int .i64 (v : Int)) ∧ W'.cell? ⟨b, off + k * 2 + 1, none⟩ = some (.int .i64 F)) ((first | exact ⟨x0, s0, s1⟩ | exact ⟨z0, z1, z2⟩ | go_keep)) (first
    | (go_at_call 65; refine HST.out.mono ?_; rintro e w1 ⟨rfl, hb'⟩; (have hb : Below wo.heap.size wo w1 := (Below.drewN' (Below.refl _ wo) 1).trans hb'); (have z0 := (row1f ((hb.block w.heap.size (heapE_lt Ko.out)).trans Ko.out)).1); (have z1 := (hb.cell (p := ⟨b, off + k * 2, none⟩) hlt).trans s0); (have z2 := (hb.cell (p := ⟨b, off + k * 2 + 1, none⟩) hlt).trans s1); (have HBZ := Lib.hid hb); clear hb hb'))
   have HB1 : Hid (Below W.heap.size W w1) := Lib.hid (HBo.out.trans (HBZ.out.mono HBo.out.size))
   clear z0 z1 z2 s0 s1 x0
   cases sc with
   | false =>
    have HX : Hid (G = false) := Lib.hid (by
     rw [HGC.out]
     have : (List.range n).all (fun i => standC l (i : Int) (at_ ps i)) = false := by
      rw [List.all_eq_false]
      exact ⟨k, List.mem_range.2 hkn, by rw [HSC.out]; decide⟩
     rw [this, Bool.false_and])
    go_wp2_with fail
    exact bodyPost_ret (results_tmp rfl _ _ _) rfl ⟨by rw [HX.out]; rfl, HBL.out.trans (HB1.out.mono HBL.out.size)⟩
   | true =>
    go_wp2_with fail
    go_roundw
    case rel => exact ⟨k + 1, by omega, by go_num, HB1, Lib.hid (fun x hx => by
     by_cases e : x = k
     ·subst e; exact HSC.out
     ·exact HK.out x (by omega))⟩
    case measure => simp [intOf]; omega
  ·have hd : decide ((k : Int) < (n : Int)) = false := by simp; omega
   have HGC2 : Hid (G = (List.range n).all (fun j => (List.range j).all (fun i => fitP l ps i j))) := Lib.hid (by
    have : (List.range n).all (fun i => standC l (i : Int) (at_ ps i)) = true := by
     rw [List.all_eq_true]; exact fun x hx => HK.out x (by have := List.mem_range.1 hx; omega)
    rw [HGC.out, this, Bool.true_and])
   go_wp2_with fail
   go_loopw [6, 7] (fun v _ wr => ∃ j : Nat, j ≤ n ∧ v = .int .i64 (j : Int) ∧ Hid (Below W.heap.size W wr) ∧ Hid (∀ x, x < j → (List.range x).all (fun i => fitP l (ps) i x) = true)) (fun v _ _ => n - (intOf v).toNat)
   case atStart => exact ⟨0, Nat.zero_le _, rfl, HBo, Lib.hid (fun x hx => absurd hx (by omega))⟩
   case round =>
    obtain ⟨wj, hwj⟩ : ∃ x, x = wr := ⟨_, rfl⟩
    subst hwj
    obtain ⟨j, hj, rfl, HBj, HJ⟩ := hrel
    by_cases hjn : j < n
    ·have hd2 : decide ((j : Int) < (n : Int)) = true := by simp; omega
     have hji : (j : Int) < (n : Int) := by omega
     have hj0 : (0 : Int) ≤ (j : Int) := by omega
     have hadd2 : IntKind.i64.wrap ((j : Int) + 1) = ((j + 1 : Nat) : Int) := by rw [IntWalk.i64_in _ (by have := HN16.out; omega)]; omega
     go_wp2_with fail
     go_loopw [7] (fun v wr => ∃ i : Nat, i ≤ j ∧ v = .int .i64 (i : Int) ∧ Hid (Below W.heap.size W wr) ∧ Hid (∀ x, x < i → fitP l (ps) x j = true)) (fun v _ => j - (intOf v).toNat)
     case atStart => exact ⟨0, Nat.zero_le _, rfl, HBj, Lib.hid (fun x hx => absurd hx (by omega))⟩
     case round =>
      obtain ⟨wi, hwi⟩ : ∃ x, x = wr := ⟨_, rfl⟩
      subst hwi
      obtain ⟨i, hi, rfl, HBi, HI⟩ := hrel
      by_cases hij : i < j
      ·have hd3 : decide ((i : Int) < (j : Int)) = true := by simp; omega
       have hii : (i : Int) < (n : Int) := by omega
       have hi0 : (0 : Int) ≤ (i : Int) := by omega
       have hadd3 : IntKind.i64.wrap ((i : Int) + 1) = ((i + 1 : Nat) : Int) := by rw [IntWalk.i64_in _ (by have := HN16.out; omega)]; omega
       obtain ⟨b, off, rfl, hlt, s0, _⟩ := (HV.out.below HBi.out).2 j hjn
       obtain ⟨b', off', hA', _, t0, _⟩ := (HV.out.below HBi.out).2 i (by omega)
       injection hA' with hA'
       injection hA' with q1 q2 _
       subst q1 q2
       obtain ⟨V, HVV⟩ : ∃ q, Hid ((at_ (ps) j).1 = q) := ⟨_, Lib.hid rfl⟩
       obtain ⟨U, HUU⟩ : ∃ q, Hid ((at_ (ps) i).1 = q) := ⟨_, Lib.hid rfl⟩
       rw [HVV.out] at s0
       rw [HUU.out] at t0
       have hAi := HA.out.below HBi.out
       have hAD : CatAt (wi.drewN 1) B A n c l := ⟨hAi.rd, hAi.cap, hAi.le, hAi.sm, hAi.len, hAi.one⟩
       have HFT := Lib.hid (fitsQ_any (i := (j : Int)) (v := V) (j := (i : Int)) (x := U) hAD)
       rw [fitsC_swap] at HFT
       have HFP : Hid (fitP l (ps) i j = fitsC l (i : Int) U (j : Int) V) := Lib.hid (by unfold fitP; rw [HVV.out, HUU.out])
       obtain ⟨ft, HF⟩ : ∃ q, Hid (fitsC l (i : Int) U (j : Int) V = q) := ⟨_, Lib.hid rfl⟩
       rw [HF.out] at HFT HFP
       have Ki : Hid (wi.heap[w.heap.size]? = _) := Lib.hid ((HBi.out.block w.heap.size (heapE_lt H0.out)).trans H0.out)
       obtain ⟨x0, _⟩ := row1f Ki.out
       clear hAi hAD
       go_wp2_with fail
       go_region_held3 (fun W' => W'.cell? ⟨w.heap.size, 0, none⟩ = some (.slice A n c) ∧ W'.cell? ⟨b, off + j * 2, none⟩ = some (.int .i64 V) ∧ W'.cell? ⟨b, off + i * 2, none⟩ = some (.int .i64 U)) ((first | exact ⟨x0, s0, t0⟩ | exact ⟨z0, z1, z2⟩ | go_keep)) (first
        | (go_at_call 58; refine HFT.out.mono ?_; rintro e w1 ⟨rfl, hb'⟩; (have hb : Below wi.heap.size wi w1 := (Below.drewN' (Below.refl _ wi) 1).trans hb'); (have z0 := (row1f ((hb.block w.heap.size (heapE_lt Ki.out)).trans Ki.out)).1); (have z1 := (hb.cell (p := ⟨b, off + j * 2, none⟩) hlt).trans s0); (have z2 := (hb.cell (p := ⟨b, off + i * 2, none⟩) hlt).trans t0); (have HBZ := Lib.hid hb); clear hb hb'))
       have HB1 : Hid (Below W.heap.size W w1) := Lib.hid (HBi.out.trans (HBZ.out.mono HBi.out.size))
       clear z0 z1 z2 s0 t0 x0
       cases ft with
       | false =>
        have HX : Hid (G = false) := Lib.hid (by
         rw [HGC2.out, List.all_eq_false]
         refine ⟨j, List.mem_range.2 hjn, ?_⟩
         rw [Bool.not_eq_true, List.all_eq_false]
         exact ⟨i, List.mem_range.2 hij, by rw [HFP.out]; decide⟩)
        go_wp2_with fail
        exact bodyPost_ret (results_tmp rfl _ _ _) rfl ⟨by rw [HX.out]; rfl, HBL.out.trans (HB1.out.mono HBL.out.size)⟩
       | true =>
        go_wp2_with fail
        go_roundw
        case rel => exact ⟨i + 1, by omega, by go_num, HB1, Lib.hid (fun x hx => by
         by_cases e : x = i
         ·subst e; exact HFP.out
         ·exact HI.out x (by omega))⟩
        case measure => simp [intOf]; omega
      ·have hd3 : decide ((i : Int) < (j : Int)) = false := by simp; omega
       obtain rfl : i = j := by omega
       go_wp2_with fail
       go_roundw
       case rel => exact ⟨i + 1, by omega, by go_num, HBi, Lib.hid (fun x hx => by
        by_cases e : x = i
        ·subst e; rw [List.all_eq_true]; exact fun y hy => HI.out y (List.mem_range.1 hy)
        ·exact HJ.out x (by omega))⟩
       case measure => simp [intOf]; omega
    ·have hd2 : decide ((j : Int) < (n : Int)) = false := by simp; omega
     have HX : Hid (G = true) := Lib.hid (by
      rw [HGC2.out, List.all_eq_true]
      exact fun x hx => HJ.out x (by have := List.mem_range.1 hx; omega))
     go_wp2_with fail
     exact bodyPost_ret (results_tmp rfl _ _ _) rfl ⟨by rw [HX.out]; rfl, HBL.out.trans (HBj.out.mono HBL.out.size)⟩
end Go.Proofs.YtminihiecloglaaGreat
namespace Go.Proofs.YtminihiecloglaaGreat
open Go.RowKit
open SemP FlP GaP DiP
set_option maxRecDepth 10000
end Go.Proofs.YtminihiecloglaaGreat

set_option linter.unusedVariables false
set_option linter.unusedSimpArgs false
namespace Go.Proofs.YtminihiecloglaaGreat
open Go.RowKit
open SemP FlP GaP DiP
set_option maxRecDepth 10000
def clB (g : List (Nat × Nat)) (s : Nat) : Nat → Bool
 | 0 => true
 | k + 1 => clB g s k && (!bt s (fb g k) || bt s (fa g k))
theorem clB_later {g : List (Nat × Nat)} {s k : Nat} (h : clB g s k = false) : ∀ m, clB g s (k + m) = false := by
 intro m
 induction m with
 | zero => exact h
 | succ m ih => show (clB g s (k + m) && _) = false; rw [ih]; rfl
theorem clB_iff (g : List (Nat × Nat)) (s : Nat) : ∀ k, clB g s k = true ↔ ∀ j, j < k → bt s (fb g j) = true → bt s (fa g j) = true := by
 intro k
 induction k with
 | zero => simp [clB]
 | succ k ih =>
  unfold clB
  rw [Bool.and_eq_true, ih]
  constructor
  ·rintro ⟨h1, h2⟩ j hj hb
   by_cases e : j = k
   ·subst e; rw [hb] at h2; simpa using h2
   ·exact h1 j (by omega) hb
  ·intro h
   refine ⟨fun j hj => h j (by omega), ?_⟩
   cases hb : bt s (fb g k) with
   | false => rfl
   | true => rw [h k (by omega) hb]; rfl
def closedB (g : List (Nat × Nat)) (s : Nat) : Bool := clB g s g.length
theorem closedB_iff (g : List (Nat × Nat)) (s : Nat) : closedB g s = true ↔ Cl g s := clB_iff g s _
set_option maxHeartbeats 1000000 in
theorem refClosed_any {w : World} {B m c n s : Nat} {A : Option Addr} {g : List (Nat × Nat)} (hx : RdEg w B A m g) (hi : InN n g) (hn : n ≤ 64) (hm : m ≤ 4096) (hB : B ≤ w.heap.size) (hs : s < lim) :
  Calls Tryz.prog 32 #[.agg #[.int .i64 (n : Int), .slice A m c], .int .u64 (s : Int)] w fun e w' => e = .returned (.bool (closedB g s)) ∧ Below w.heap.size w w' := by
 have HX := Lib.hid hx
 have HI := Lib.hid hi
 have HL := Lib.hid hx.len
 have HS := Lib.hid hs
 clear hx hi hs
 go_enter Tryz.func32, Tryz.ntmps32
 go_wp2_with fail
 have HW : Hid (Boxed (w.alloc (.cells #[.int .i64 (n : Int), .slice A m c] 74)) w.heap.size n A m c ∧ Below w.heap.size w (w.alloc (.cells #[.int .i64 (n : Int), .slice A m c] 74))) := Lib.hid ⟨boxed_alloc _ _ _ _ _ _, (Below.refl _ _).alloc (Nat.le_refl _) _⟩
 generalize (w.alloc (.cells #[.int .i64 (n : Int), .slice A m c] 74)) = W0 at HW ⊢
 obtain ⟨hcn, hcs⟩ := HW.out.1
 go_loop [5] (fun i => ∃ k : Nat, k ≤ m ∧ i = .int .i64 (k : Int) ∧ Hid (clB g s k = true)) (fun i => m - (intOf i).toNat)
 case atStart => exact ⟨0, by omega, rfl, Lib.hid rfl⟩
 case round =>
  obtain ⟨k, hk, rfl, HV⟩ := hrel
  by_cases hlt : k < m
  ·obtain ⟨b, off, rfl, hbb, hca, hcb⟩ := (HX.out.below (HW.out.2.mono hB)).at_ hlt
   obtain ⟨hfa, hfb⟩ := HI.out k (by rw [HL.out]; exact hlt)
   have HK : Hid (clB g s (k + 1) = (!bt s (fb g k) || bt s (fa g k))) := Lib.hid (by show (clB g s k && _) = _; rw [HV.out]; rfl)
   have HC : Hid (closedB g s = clB g s m) := Lib.hid (by unfold closedB; rw [HL.out])
   have HE : Hid (clB g s (k + 1) = false → clB g s m = false) := Lib.hid (fun h => by have := clB_later h (m - (k + 1)); rwa [show k + 1 + (m - (k + 1)) = m by omega] at this)
   cases hb : bt s (fb g k) with
   | false =>
    have HH := Lib.hid hb
    clear hb
    go_wp2_with (go_at_call 30; refine (in_any HS.out (by omega)).mono ?_; rintro e w' ⟨rfl, rfl⟩; rw [HH.out])
    go_round
    case rel => exact ⟨k + 1, by omega, by go_num, Lib.hid (by rw [HK.out, HH.out]; rfl)⟩
    case measure => simp [intOf]; omega
   | true =>
    cases ha : bt s (fa g k) with
    | false =>
     have HH := Lib.hid hb
     have HA := Lib.hid ha
     clear hb ha
     go_wp2_with fail
     refine (in_any HS.out (by omega)).mono ?_; rintro e w' ⟨rfl, rfl⟩; rw [HH.out]
     go_wp2_with fail
     refine (in_any HS.out (by omega)).mono ?_; rintro e w' ⟨rfl, rfl⟩; rw [HA.out]
     go_wp2
     go_ret
     exact ⟨by rw [HC.out, HE.out (by rw [HK.out, HH.out, HA.out]; rfl)]; rfl, HW.out.2⟩
    | true =>
     have HH := Lib.hid hb
     have HA := Lib.hid ha
     clear hb ha
     go_wp2_with fail
     refine (in_any HS.out (by omega)).mono ?_; rintro e w' ⟨rfl, rfl⟩; rw [HH.out]
     go_wp2_with fail
     refine (in_any HS.out (by omega)).mono ?_; rintro e w' ⟨rfl, rfl⟩; rw [HA.out]
     go_wp2
     go_round
     case rel => exact ⟨k + 1, by omega, by go_num, Lib.hid (by rw [HK.out, HH.out, HA.out]; rfl)⟩
     case measure => simp [intOf]; omega
  ·have e : k = m := by omega
   have HC : Hid (closedB g s = true) := Lib.hid (by unfold closedB; rw [HL.out, ← e]; exact HV.out)
   clear e
   go_wp2
   go_ret
   exact ⟨by rw [HC.out]; rfl, HW.out.2⟩
def RevTo (xs ys : List Int) (k : Nat) : Prop := ys.length = xs.length ∧ ∀ t < xs.length, ix ys t = if t < k ∨ xs.length ≤ t + k then ix xs (xs.length - 1 - t) else ix xs t
theorem RevTo.start (xs : List Int) : RevTo xs xs 0 := ⟨rfl, fun t ht => by rw [if_neg (by omega)]⟩
theorem RevTo.step {xs ys : List Int} {k : Nat} (h : RevTo xs ys k) (hk : k < xs.length - 1 - k) :
  RevTo xs ((ys.set k (ix ys (xs.length - 1 - k))).set (xs.length - 1 - k) (ix ys k)) (k + 1) := by
 refine ⟨by simp [h.1], fun t ht => ?_⟩
 rw [ix_set _ _ _ _ (by simp [h.1]; omega), ix_set _ _ _ _ (by rw [h.1]; omega), h.2 k (by omega), h.2 _ (show xs.length - 1 - k < xs.length by omega), h.2 t ht]
 by_cases h1 : xs.length - 1 - k = t
 ·subst h1
  rw [if_pos rfl, if_neg (by omega), if_pos (by omega)]; congr 1; omega
 ·rw [if_neg h1]
  by_cases h2 : k = t
  ·subst h2; rw [if_pos rfl, if_neg (by omega), if_pos (by omega)]
  ·rw [if_neg h2]
   by_cases h3 : t < k ∨ xs.length ≤ t + k
   ·rw [if_pos h3, if_pos (by omega)]
   ·rw [if_neg h3, if_neg (by omega)]
theorem ix_reverse (xs : List Int) (t : Nat) (ht : t < xs.length) : ix xs.reverse t = ix xs (xs.length - 1 - t) := by
 unfold ix; simp [List.getD, List.getElem?_reverse ht]
theorem RevTo.done {xs ys : List Int} {k : Nat} (h : RevTo xs ys k) (hk : xs.length - 1 ≤ 2 * k) : ys = xs.reverse := by
 refine list_ext_getD (by simp [h.1]) fun t ht => ?_
 rw [h.1] at ht
 rw [h.2 t ht, ix_reverse xs t ht]
 by_cases h3 : t < k ∨ xs.length ≤ t + k
 ·rw [if_pos h3]
 ·rw [if_neg h3]; congr 1; omega
set_option maxHeartbeats 4000000 in
theorem graphD_any {w : World} {nF cF nT cT nS cS n c : Nat} {AF AT AS A : Option Addr} :
  Calls Tryz.prog 31 #[.agg #[.slice AF nF cF, .slice AT nT cT, .slice AS nS cS, .slice A n c]] w fun e w' => e = .returned (.agg #[.int .i64 (nS : Int), .slice A n c]) ∧ Below w.heap.size w w' := by
 obtain ⟨W, HW⟩ : ∃ W, Hid (W = (w.alloc (.cells #[.slice AF nF cF, .slice AT nT cT, .slice AS nS cS, .slice A n c] 41)).alloc (.cells #[.int .i64 0, .slice none 0 0] 74)) := ⟨_, Lib.hid rfl⟩
 have hbl : Below w.heap.size w W := by rw [HW.out]; exact ((Below.refl _ w).alloc (Nat.le_refl _) _).alloc (by simp) _
 have HBL := Lib.hid hbl
 have H0 : Hid (W.heap[w.heap.size]? = some (.cells #[.slice AF nF cF, .slice AT nT cT, .slice AS nS cS, .slice A n c] 41 (0, 0))) := Lib.hid (by
  rw [HW.out, Below.heap_alloc _ _ _ (by simp)]; exact heap_new w _)
 have H1 : Hid (W.heap[w.heap.size + 1]? = some (.cells #[.int .i64 0, .slice none 0 0] 74 (0, 0))) := Lib.hid (by
  rw [HW.out]
  have h := heap_new (w.alloc (.cells #[.slice AF nF cF, .slice AT nT cT, .slice AS nS cS, .slice A n c] 41)) (.cells #[.int .i64 0, .slice none 0 0] 74)
  rw [World.size_alloc] at h; exact h)
 clear hbl
 go_enter Tryz.func31, Tryz.ntmps31
 go_upto_region 1 with fail
 change Code.wp _ _ _ _ ((w.alloc (.cells #[.slice AF nF cF, .slice AT nT cT, .slice AS nS cS, .slice A n c] 41)).alloc (.cells #[.int .i64 0, .slice none 0 0] 74))
 rw [← HW.out]
 obtain ⟨_, _, y2, y3⟩ := row4 H0.out
 obtain ⟨g0, g1, gf0, gf1⟩ := row2 H1.out
 have S1 := heap_setCell_same W (w.heap.size + 1) 0 _ _ (.int .i64 (nS : Int)) H1.out
 have S2 := heap_setCell_same _ (w.heap.size + 1) 1 _ _ (.slice A n c) S1
 have S3 := Lib.hid S2
 have HBF := Lib.hid ((HBL.out.setCell (p := ⟨w.heap.size + 1, 0, none⟩) (by show w.heap.size ≤ w.heap.size + 1; omega) (.int .i64 (nS : Int))).setCell (p := ⟨w.heap.size + 1, 1, none⟩) (by show w.heap.size ≤ w.heap.size + 1; omega) (.slice A n c))
 clear S1 S2
 go_wp2_with fail
 refine bodyPost_ret (v := .agg #[.int .i64 (nS : Int), .slice A n c]) ?_ rfl ⟨rfl, HBF.out⟩
 exact results_cell_row rfl _ _ (w.heap.size + 1) _ _ _ _ rfl S3.out Tryz.underlying74 rfl (by kernel_rfl)
end Go.Proofs.YtminihiecloglaaGreat

set_option linter.unusedVariables false
set_option linter.unusedSimpArgs false
namespace Go.Proofs.YtminihiecloglaaGreat
open Go.RowKit
open SemP FlP GaP DiP
set_option maxRecDepth 10000
structure EoSt (w0 : World) (h : Nat) (A A2 A3 : Option Addr) (n c c2 c3 : Nat) (l : List Sv) (fs ts : List Int) (b0 b1 b2 b3 b4 b5 b6 b7 b8 b9 b10 b11 b12 b13 : Bool) (v19 v20 v21 v22 v23 v24 v25 v26 v27 v28 v29 v30 v31 v32 : Value) (w' : World) : Prop where
 bel : Below w0.heap.size w0 w'
 h0 : b0 = true → v19 = .agg #[.slice A n c]
 h1 : b1 = true → v20 = .agg #[.slice A n c]
 h2 : b2 = true → v21 = .slice A2 n c2
 h3 : b3 = true → ∃ A' c', v22 = .slice A' n c' ∧ PrR w' A' n (setL l fs)
 h4 : b4 = true → v23 = .bool true
 h5 : b5 = true → v24 = .bool false
 h6 : b6 = true → v25 = .bool false
 h7 : b7 = true → v26 = .agg #[.slice A n c]
 h8 : b8 = true → v27 = .agg #[.slice A n c]
 h9 : b9 = true → v28 = .slice A3 n c3
 h10 : b10 = true → ∃ A' c', v29 = .slice A' n c' ∧ PrR w' A' n (setL l ts)
 h11 : b11 = true → v30 = .bool true
 h12 : b12 = true → v31 = .bool false
 h13 : b13 = true → v32 = .bool false
inductive EoJ (w0 : World) (h : Nat) (A A2 A3 : Option Addr) (n c c2 c3 : Nat) (l : List Sv) (fs ts : List Int) (p0 p1 p2 p3 p4 p5 p6 p7 p8 p9 p10 p11 p12 p13 p14 p15 p16 p17 p18 p33 p34 p35 p36 p37 p38 p39 p40 p41 p42 p43 p44 p45 p46 p47 p48 p49 p50 p51 p52 p53 p54 p55 p56 p57 p58 p59 p60 p61 p62 p63 p64 p65 p66 p67 p68 p69 p70 p71 : Value) : Array Bool → Act → World → Prop where
 | mk (b0 b1 b2 b3 b4 b5 b6 b7 b8 b9 b10 b11 b12 b13 : Bool) (v19 v20 v21 v22 v23 v24 v25 v26 v27 v28 v29 v30 v31 v32 : Value) (w' : World) : EoSt w0 h A A2 A3 n c c2 c3 l fs ts b0 b1 b2 b3 b4 b5 b6 b7 b8 b9 b10 b11 b12 b13 v19 v20 v21 v22 v23 v24 v25 v26 v27 v28 v29 v30 v31 v32 w' → EoJ w0 h A A2 A3 n c c2 c3 l fs ts p0 p1 p2 p3 p4 p5 p6 p7 p8 p9 p10 p11 p12 p13 p14 p15 p16 p17 p18 p33 p34 p35 p36 p37 p38 p39 p40 p41 p42 p43 p44 p45 p46 p47 p48 p49 p50 p51 p52 p53 p54 p55 p56 p57 p58 p59 p60 p61 p62 p63 p64 p65 p66 p67 p68 p69 p70 p71 #[b0, b1, b2, b3, b4, b5, b6, b7, b8, b9, b10, b11, b12, b13] { tmps := List.toArray (p0 :: p1 :: p2 :: p3 :: p4 :: p5 :: p6 :: p7 :: p8 :: p9 :: p10 :: p11 :: p12 :: p13 :: p14 :: p15 :: p16 :: p17 :: p18 :: v19 :: v20 :: v21 :: v22 :: v23 :: v24 :: v25 :: v26 :: v27 :: v28 :: v29 :: v30 :: v31 :: v32 :: p33 :: p34 :: p35 :: p36 :: p37 :: p38 :: p39 :: p40 :: p41 :: p42 :: p43 :: p44 :: p45 :: p46 :: p47 :: p48 :: p49 :: p50 :: p51 :: p52 :: p53 :: p54 :: p55 :: p56 :: p57 :: p58 :: p59 :: p60 :: p61 :: p62 :: p63 :: p64 :: p65 :: p66 :: p67 :: p68 :: p69 :: p70 :: p71 :: []), defers := [] } w'
set_option maxHeartbeats 16000000 in
theorem endsQ_ok {w : World} {B B2 B3 n c m c2 m3 c3 : Nat} {A A2 A3 : Option Addr} {l : List Sv} {fs ts : List Int} (h : CatAt w B A n c l) (hlv : LevOK l) (hf : Rd w B2 A2 m fs) (ht : Rd w B3 A3 m3 ts) (hB2 : B2 ≤ w.heap.size) (hB3 : B3 ≤ w.heap.size) (hm : m ≤ 1000000) (hm3 : m3 ≤ 1000000) (hce : chkE l fs ts = 0) :
  Calls Tryz.prog 22 #[.agg #[.slice A n c], .slice A2 m c2, .slice A3 m3 c3] w fun e w' => e = .returned (.int .i64 0) ∧ Below w.heap.size w w' := by
 obtain ⟨W, HW⟩ : ∃ W, Hid (W = w.alloc (.cells #[.slice A n c] 29)) := ⟨_, Lib.hid rfl⟩
 have hbl : Below w.heap.size w W := by rw [HW.out]; exact (Below.refl _ w).alloc (Nat.le_refl _) _
 have H0 : Hid (W.heap[w.heap.size]? = some (.cells #[.slice A n c] 29 (0, 0))) := Lib.hid (by rw [HW.out]; exact heap_new w _)
 have HBL := Lib.hid hbl
 have HA := Lib.hid (h.below hbl)
 have HF := Lib.hid (hf.below (hbl.mono hB2))
 have HTS := Lib.hid (ht.below (hbl.mono hB3))
 have HB2 : Hid (B2 ≤ W.heap.size) := Lib.hid (Nat.le_trans hB2 hbl.size)
 have HB3 : Hid (B3 ≤ W.heap.size) := Lib.hid (Nat.le_trans hB3 hbl.size)
 have HLV := Lib.hid hlv
 have HN : Hid (l.length = n) := Lib.hid h.rd.1
 have HN16 := Lib.hid h.n16
 have HML : Hid (fs.length = m) := Lib.hid hf.len
 have HM3 : Hid (ts.length = m3) := Lib.hid ht.len
 have HSF := Lib.hid (chkE_ok hce).1
 have HST := Lib.hid (chkE_ok hce).2.1
 have HG1 := Lib.hid (chkE_ok hce).2.2.1
 have HG2 := Lib.hid (chkE_ok hce).2.2.2.1
 have HRI := Lib.hid (chkE_ok hce).2.2.2.2
 have HR1 := Lib.hid (relQ_any (c := c) (c2 := c2) HA.out HF.out HB2.out hm)
 have HR2 := Lib.hid (fun (X : World) (hb : Below W.heap.size W X) => relQ_any (c := c) (c2 := c3) (HA.out.below hb) (HTS.out.below (hb.mono HB3.out)) (Nat.le_trans HB3.out hb.size) hm3)
 clear h hlv hf ht hB2 hB3 hm hm3 hbl hce
 obtain ⟨x0, _⟩ := row1f H0.out
 go_enter Tryz.func22, Tryz.ntmps22
 go_upto_region 1 with fail
 change Code.wp _ _ _ _ (w.alloc (.cells #[.slice A n c] 29))
 rw [← HW.out]
 rw [HSF.out] at HR1
 go_wp2_with fail
 refine HR1.out.mono ?_
 rintro e w1 ⟨rfl, hb⟩
 have HW1 : Hid (Below W.heap.size W w1) := Lib.hid hb
 have K1 : Hid (w1.heap[w.heap.size]? = _) := Lib.hid ((hb.block w.heap.size (heapE_lt H0.out)).trans H0.out)
 have HR2 := Lib.hid (HR2.out w1 hb)
 clear hb x0 HR1
 obtain ⟨x0, _⟩ := row1f K1.out
 rw [HST.out] at HR2
 go_wp2_with fail
 refine HR2.out.mono ?_
 rintro e X ⟨rfl, hb⟩
 have HWX : Hid (Below W.heap.size W X) := Lib.hid (HW1.out.trans (hb.mono HW1.out.size))
 have KX : Hid (X.heap[w.heap.size]? = some (.cells #[.slice A n c] 29 (0, 0))) := Lib.hid ((hb.block w.heap.size (heapE_lt K1.out)).trans K1.out)
 have HBX : Hid (Below w.heap.size w X) := Lib.hid (HBL.out.trans (HWX.out.mono HBL.out.size))
 clear hb x0 HR2
 have hmn : m = n := by rw [← HML.out, ← HN.out]; exact (setB_iff.1 HSF.out).1
 have hm3n : m3 = n := by rw [← HM3.out, ← HN.out]; exact (setB_iff.1 HST.out).1
 subst hmn
 subst hm3n
 have HAX := Lib.hid (HA.out.below HWX.out)
 have HFX := Lib.hid (HF.out.below (HWX.out.mono HB2.out))
 have HTX := Lib.hid (HTS.out.below (HWX.out.mono HB3.out))
 have HB2X : Hid (B2 ≤ X.heap.size) := Lib.hid (Nat.le_trans HB2.out HWX.out.size)
 have HB3X : Hid (B3 ≤ X.heap.size) := Lib.hid (Nat.le_trans HB3.out HWX.out.size)
 go_wp2_with fail
 refine wp_region_inv (by kernel_rfl) (I := EoJ X w.heap.size A A2 A3 m3 c c2 c3 l fs ts _ _ _ _ _ _ _ _ _ _ _ _ _ _ _ _ _ _ _ _ _ _ _ _ _ _ _ _ _ _ _ _ _ _ _ _ _ _ _ _ _ _ _ _ _ _ _ _ _ _ _ _ _ _ _ _ _ _) (.mk false false false false false false false false false false false false false false _ _ _ _ _ _ _ _ _ _ _ _ _ _ _ ⟨(Below.refl _ X).drew, nofun, nofun, nofun, nofun, nofun, nofun, nofun, nofun, nofun, nofun, nofun, nofun, nofun, nofun⟩) ?step ?fin
 case step =>
  rintro lq a' w' ix ⟨b0, b1, b2, b3, b4, b5, b6, b7, b8, b9, b10, b11, b12, b13, v19, v20, v21, v22, v23, v24, v25, v26, v27, v28, v29, v30, v31, v32, _, HT⟩ hi
  obtain ⟨hi_, hib⟩ := ready_lt hi
  have HTH := Lib.hid HT
  match ix, hi_, hi, hib with
  | 0, _, hi, hib =>
   have HTb := Lib.hid HT.bel
   obtain ⟨x0, _⟩ := row1f ((HTb.out.block w.heap.size (heapE_lt KX.out)).trans KX.out)
   clear HT
   refine wpOp_one rfl rfl (fun K hK => ?_)
   go_simp
   exact hK.out _ _ (.mk true b1 b2 b3 b4 b5 b6 b7 b8 b9 b10 b11 b12 b13 _ _ _ _ _ _ _ _ _ _ _ _ _ _ _ { HTH.out with h0 := fun _ => rfl })
  | 1, _, hi, hib =>
   have HTb := Lib.hid HT.bel
   obtain ⟨x0, _⟩ := row1f ((HTb.out.block w.heap.size (heapE_lt KX.out)).trans KX.out)
   clear HT
   refine wpOp_one rfl rfl (fun K hK => ?_)
   go_simp
   exact hK.out _ _ (.mk b0 true b2 b3 b4 b5 b6 b7 b8 b9 b10 b11 b12 b13 _ _ _ _ _ _ _ _ _ _ _ _ _ _ _ { HTH.out with h1 := fun _ => rfl })
  | 2, _, hi, hib =>
   clear HT
   refine wpOp_one rfl rfl (fun K hK => ?_)
   go_simp
   exact hK.out _ _ (.mk b0 b1 true b3 b4 b5 b6 b7 b8 b9 b10 b11 b12 b13 _ _ _ _ _ _ _ _ _ _ _ _ _ _ _ { HTH.out with h2 := fun _ => rfl })
  | 3, _, hi, hib =>
   have d1 : b1 = true := ready_dep hi rfl 1 (by kernel_rfl)
   have hd1 := HT.h1 d1
   subst hd1
   have d2 : b2 = true := ready_dep hi rfl 2 (by kernel_rfl)
   have hd2 := HT.h2 d2
   subst hd2
   have HTb := Lib.hid HT.bel
   have HC := Lib.hid (settledQ_any (w := w') (c := c) (c2 := c2) (HAX.out.below HTb.out) HLV.out (HFX.out.below (HTb.out.mono HB2X.out)) (Nat.le_trans HB2X.out HTb.out.size) (by have := HN16.out; omega) HSF.out)
   clear HT
   refine wpOp_one rfl rfl (fun K hK => ?_)
   go_simp
   refine HC.out.mono ?_
   rintro e w2 ⟨A9, c9, rfl, hrd, hb⟩
   exact hK.out _ _ (.mk b0 b1 b2 true b4 b5 b6 b7 b8 b9 b10 b11 b12 b13 _ _ _ _ _ _ _ _ _ _ _ _ _ _ _ { HTH.out with bel := HTH.out.bel.trans (hb.mono HTH.out.bel.size), h3 := fun _ => ⟨A9, c9, rfl, PrR.of hrd⟩, h10 := fun h => (by obtain ⟨A', c', e, r⟩ := (HTH.out.h10 h); exact ⟨A', c', e, r.below hb⟩) })
  | 4, _, hi, hib =>
   have d0 : b0 = true := ready_dep hi rfl 0 (by kernel_rfl)
   have hd0 := HT.h0 d0
   subst hd0
   have d3 : b3 = true := ready_dep hi rfl 3 (by kernel_rfl)
   have HO3 := Lib.hid (HT.h3 d3)
   have HTb := Lib.hid HT.bel
   obtain ⟨A9, c9, e9, hr9⟩ := HO3.out
   subst e9
   have HC := Lib.hid (goodQ_set (w := w') (c := c) (c2 := c9) (HAX.out.below HTb.out) HLV.out HSF.out hr9)
   rw [HG1.out] at HC
   clear HT
   refine wpOp_one rfl rfl (fun K hK => ?_)
   go_simp
   refine HC.out.mono ?_
   rintro e w2 ⟨rfl, hb⟩
   exact hK.out _ _ (.mk b0 b1 b2 b3 true b5 b6 b7 b8 b9 b10 b11 b12 b13 _ _ _ _ _ _ _ _ _ _ _ _ _ _ _ { HTH.out with bel := HTH.out.bel.trans (hb.mono HTH.out.bel.size), h4 := fun _ => rfl, h3 := fun h => (by obtain ⟨A', c', e, r⟩ := (HTH.out.h3 h); exact ⟨A', c', e, r.below hb⟩), h10 := fun h => (by obtain ⟨A', c', e, r⟩ := (HTH.out.h10 h); exact ⟨A', c', e, r.below hb⟩) })
  | 5, _, hi, hib =>
   have d4 : b4 = true := ready_dep hi rfl 4 (by kernel_rfl)
   have hd4 := HT.h4 d4
   subst hd4
   clear HT
   refine wpOp_one rfl rfl (fun K hK => ?_)
   go_simp
   exact hK.out _ _ (.mk b0 b1 b2 b3 b4 true b6 b7 b8 b9 b10 b11 b12 b13 _ _ _ _ _ _ _ _ _ _ _ _ _ _ _ { HTH.out with h5 := fun _ => rfl })
  | 6, _, hi, hib =>
   have d5 : b5 = true := ready_dep hi rfl 5 (by kernel_rfl)
   have hd5 := HT.h5 d5
   subst hd5
   clear HT
   refine wpOp_one rfl rfl (fun K hK => ?_)
   go_simp
   exact hK.out _ _ (.mk b0 b1 b2 b3 b4 b5 true b7 b8 b9 b10 b11 b12 b13 _ _ _ _ _ _ _ _ _ _ _ _ _ _ _ { HTH.out with h6 := fun _ => rfl })
  | 7, _, hi, hib =>
   have e6 : b6 = true := ready_dep hi rfl 6 (by kernel_rfl)
   have he6 := HT.h6 e6
   subst he6
   have HTb := Lib.hid HT.bel
   obtain ⟨x0, _⟩ := row1f ((HTb.out.block w.heap.size (heapE_lt KX.out)).trans KX.out)
   clear HT
   refine wpOp_want rfl 6 false rfl rfl (fun K hK => ?_)
   go_simp
   exact hK.out _ _ (.mk b0 b1 b2 b3 b4 b5 b6 true b8 b9 b10 b11 b12 b13 _ _ _ _ _ _ _ _ _ _ _ _ _ _ _ { HTH.out with h7 := fun _ => rfl })
  | 8, _, hi, hib =>
   have e6 : b6 = true := ready_dep hi rfl 6 (by kernel_rfl)
   have he6 := HT.h6 e6
   subst he6
   have HTb := Lib.hid HT.bel
   obtain ⟨x0, _⟩ := row1f ((HTb.out.block w.heap.size (heapE_lt KX.out)).trans KX.out)
   clear HT
   refine wpOp_want rfl 6 false rfl rfl (fun K hK => ?_)
   go_simp
   exact hK.out _ _ (.mk b0 b1 b2 b3 b4 b5 b6 b7 true b9 b10 b11 b12 b13 _ _ _ _ _ _ _ _ _ _ _ _ _ _ _ { HTH.out with h8 := fun _ => rfl })
  | 9, _, hi, hib =>
   have e6 : b6 = true := ready_dep hi rfl 6 (by kernel_rfl)
   have he6 := HT.h6 e6
   subst he6
   clear HT
   refine wpOp_want rfl 6 false rfl rfl (fun K hK => ?_)
   go_simp
   exact hK.out _ _ (.mk b0 b1 b2 b3 b4 b5 b6 b7 b8 true b10 b11 b12 b13 _ _ _ _ _ _ _ _ _ _ _ _ _ _ _ { HTH.out with h9 := fun _ => rfl })
  | 10, _, hi, hib =>
   have e6 : b6 = true := ready_dep hi rfl 6 (by kernel_rfl)
   have he6 := HT.h6 e6
   subst he6
   have d8 : b8 = true := ready_dep hi rfl 8 (by kernel_rfl)
   have hd8 := HT.h8 d8
   subst hd8
   have d9 : b9 = true := ready_dep hi rfl 9 (by kernel_rfl)
   have hd9 := HT.h9 d9
   subst hd9
   have HTb := Lib.hid HT.bel
   have HC := Lib.hid (settledQ_any (w := w') (c := c) (c2 := c3) (HAX.out.below HTb.out) HLV.out (HTX.out.below (HTb.out.mono HB3X.out)) (Nat.le_trans HB3X.out HTb.out.size) (by have := HN16.out; omega) HST.out)
   clear HT
   refine wpOp_want rfl 6 false rfl rfl (fun K hK => ?_)
   go_simp
   refine HC.out.mono ?_
   rintro e w2 ⟨A9, c9, rfl, hrd, hb⟩
   exact hK.out _ _ (.mk b0 b1 b2 b3 b4 b5 b6 b7 b8 b9 true b11 b12 b13 _ _ _ _ _ _ _ _ _ _ _ _ _ _ _ { HTH.out with bel := HTH.out.bel.trans (hb.mono HTH.out.bel.size), h10 := fun _ => ⟨A9, c9, rfl, PrR.of hrd⟩, h3 := fun h => (by obtain ⟨A', c', e, r⟩ := (HTH.out.h3 h); exact ⟨A', c', e, r.below hb⟩) })
  | 11, _, hi, hib =>
   have e6 : b6 = true := ready_dep hi rfl 6 (by kernel_rfl)
   have he6 := HT.h6 e6
   subst he6
   have d7 : b7 = true := ready_dep hi rfl 7 (by kernel_rfl)
   have hd7 := HT.h7 d7
   subst hd7
   have d10 : b10 = true := ready_dep hi rfl 10 (by kernel_rfl)
   have HO10 := Lib.hid (HT.h10 d10)
   have HTb := Lib.hid HT.bel
   obtain ⟨A9, c9, e9, hr9⟩ := HO10.out
   subst e9
   have HC := Lib.hid (goodQ_set (w := w') (c := c) (c2 := c9) (HAX.out.below HTb.out) HLV.out HST.out hr9)
   rw [HG2.out] at HC
   clear HT
   refine wpOp_want rfl 6 false rfl rfl (fun K hK => ?_)
   go_simp
   refine HC.out.mono ?_
   rintro e w2 ⟨rfl, hb⟩
   exact hK.out _ _ (.mk b0 b1 b2 b3 b4 b5 b6 b7 b8 b9 b10 true b12 b13 _ _ _ _ _ _ _ _ _ _ _ _ _ _ _ { HTH.out with bel := HTH.out.bel.trans (hb.mono HTH.out.bel.size), h11 := fun _ => rfl, h3 := fun h => (by obtain ⟨A', c', e, r⟩ := (HTH.out.h3 h); exact ⟨A', c', e, r.below hb⟩), h10 := fun h => (by obtain ⟨A', c', e, r⟩ := (HTH.out.h10 h); exact ⟨A', c', e, r.below hb⟩) })
  | 12, _, hi, hib =>
   have e6 : b6 = true := ready_dep hi rfl 6 (by kernel_rfl)
   have he6 := HT.h6 e6
   subst he6
   have d11 : b11 = true := ready_dep hi rfl 11 (by kernel_rfl)
   have hd11 := HT.h11 d11
   subst hd11
   clear HT
   refine wpOp_want rfl 6 false rfl rfl (fun K hK => ?_)
   go_simp
   exact hK.out _ _ (.mk b0 b1 b2 b3 b4 b5 b6 b7 b8 b9 b10 b11 true b13 _ _ _ _ _ _ _ _ _ _ _ _ _ _ _ { HTH.out with h12 := fun _ => rfl })
  | 13, _, hi, hib =>
   have d6 : b6 = true := ready_dep hi rfl 6 (by kernel_rfl)
   have hd6 := HT.h6 d6
   subst hd6
   have d12 : b12 = true := ready_dep hi rfl 12 (by kernel_rfl)
   have hd12 := HT.h12 d12
   subst hd12
   clear HT
   refine wpOp_one rfl rfl (fun K hK => ?_)
   go_simp
   exact hK.out _ _ (.mk b0 b1 b2 b3 b4 b5 b6 b7 b8 b9 b10 b11 b12 true _ _ _ _ _ _ _ _ _ _ _ _ _ _ _ { HTH.out with h13 := fun _ => rfl })
 case fin =>
  rintro lq a' w' ⟨b0, b1, b2, b3, b4, b5, b6, b7, b8, b9, b10, b11, b12, b13, v19, v20, v21, v22, v23, v24, v25, v26, v27, v28, v29, v30, v31, v32, _, HT⟩ hr
  obtain rfl : b0 = true := by
   cases b0 with
   | true => rfl
   | false => exact (ready_in 0 rfl rfl (by simp [Region.binds]) hr).elim
  obtain rfl : b1 = true := by
   cases b1 with
   | true => rfl
   | false => exact (ready_in 1 rfl rfl (by simp [Region.binds]) hr).elim
  obtain rfl : b2 = true := by
   cases b2 with
   | true => rfl
   | false => exact (ready_in 2 rfl rfl (by simp [Region.binds]) hr).elim
  obtain rfl : b3 = true := by
   cases b3 with
   | true => rfl
   | false => exact (ready_in 3 rfl rfl (by simp [Region.binds]) hr).elim
  obtain rfl : b4 = true := by
   cases b4 with
   | true => rfl
   | false => exact (ready_in 4 rfl rfl (by simp [Region.binds]) hr).elim
  obtain rfl : b5 = true := by
   cases b5 with
   | true => rfl
   | false => exact (ready_in 5 rfl rfl (by simp [Region.binds]) hr).elim
  obtain rfl : b6 = true := by
   cases b6 with
   | true => rfl
   | false => exact (ready_in 6 rfl rfl (by simp [Region.binds]) hr).elim
  obtain rfl : b7 = true := by
   cases b7 with
   | true => rfl
   | false => exact (ready_in 7 rfl rfl (by simp [Region.binds]) hr).elim
  obtain rfl : b8 = true := by
   cases b8 with
   | true => rfl
   | false => exact (ready_in 8 rfl rfl (by simp [Region.binds]) hr).elim
  obtain rfl : b9 = true := by
   cases b9 with
   | true => rfl
   | false => exact (ready_in 9 rfl rfl (by simp [Region.binds]) hr).elim
  obtain rfl : b10 = true := by
   cases b10 with
   | true => rfl
   | false => exact (ready_in 10 rfl rfl (by simp [Region.binds]) hr).elim
  obtain rfl : b11 = true := by
   cases b11 with
   | true => rfl
   | false => exact (ready_in 11 rfl rfl (by simp [Region.binds]) hr).elim
  obtain rfl : b12 = true := by
   cases b12 with
   | true => rfl
   | false => exact (ready_in 12 rfl rfl (by simp [Region.binds]) hr).elim
  obtain rfl : b13 = true := by
   cases b13 with
   | true => rfl
   | false => exact (ready_in 13 rfl rfl (by simp [Region.binds]) hr).elim
  have k0 := HT.h0 rfl
  subst k0
  have k1 := HT.h1 rfl
  subst k1
  have k2 := HT.h2 rfl
  subst k2
  have k4 := HT.h4 rfl
  subst k4
  have k5 := HT.h5 rfl
  subst k5
  have k6 := HT.h6 rfl
  subst k6
  have k7 := HT.h7 rfl
  subst k7
  have k8 := HT.h8 rfl
  subst k8
  have k9 := HT.h9 rfl
  subst k9
  have k11 := HT.h11 rfl
  subst k11
  have k12 := HT.h12 rfl
  subst k12
  have k13 := HT.h13 rfl
  subst k13
  have HBZ := Lib.hid HT.bel
  clear HT hr
  obtain ⟨Y, hY⟩ : ∃ Y, Y = w' := ⟨_, rfl⟩
  subst hY
  go_wp2_with fail
  go_loopw [7, 8] (fun v _ wr => ∃ k : Nat, k ≤ m3 ∧ v = .int .i64 (k : Int) ∧ Hid (Below X.heap.size X wr)) (fun v _ _ => m3 - (intOf v).toNat)
  case atStart => exact ⟨0, Nat.zero_le _, rfl, HBZ⟩
  case round =>
   obtain ⟨wo, hwo⟩ : ∃ x, x = wr := ⟨_, rfl⟩
   subst hwo
   obtain ⟨k, hk, rfl, HBo⟩ := hrel
   have HWo : Hid (Below w.heap.size w wo) := Lib.hid (HBX.out.trans (HBo.out.mono HBX.out.size))
   by_cases hkn : k < m3
   ·have hd : decide ((k : Int) < (m3 : Int)) = true := by simp; omega
    have hki : (k : Int) < (m3 : Int) := by omega
    have hk0 : (0 : Int) ≤ (k : Int) := by omega
    have hadd : IntKind.i64.wrap ((k : Int) + 1) = ((k + 1 : Nat) : Int) := by rw [IntWalk.i64_in _ (by have := HN16.out; omega)]; omega
    obtain ⟨f1, f2⟩ := setB_iff.1 HSF.out
    obtain ⟨t1, t2⟩ := setB_iff.1 HST.out
    obtain ⟨a0, vf, ea, evf, hal, hvf⟩ := isR_nat (f2 k (by rw [HML.out]; exact hkn))
    obtain rfl : k = a0 := by omega
    obtain ⟨a0, vt, ea2, evt, _, hvt⟩ := isR_nat (t2 k (by rw [HM3.out]; exact hkn))
    obtain rfl : k = a0 := by omega
    have hA := HAX.out.below HBo.out
    obtain ⟨b1, o1, Aj, nj, cj, hA1, hb1, _, k1, _, hrj⟩ := sv_at hA.rd hkn
    subst hA1
    have hnj : (svAt l k).2.length = nj := hrj.1
    obtain ⟨b2, o2, _, _, _, hA2, hb2, _, _, _, _, kf, _⟩ := rl_at hrj (i := vf) (by omega)
    subst hA2
    obtain ⟨b3, o3, _, _, _, hA3, hb3, _, _, _, _, kt, _⟩ := rl_at hrj (i := vt) (by omega)
    injection hA3 with hA3
    injection hA3 with e1 e2 _
    subst e1 e2
    obtain ⟨bf, of', hAf, hbf, cf⟩ := (HFX.out.below (HBo.out.mono HB2X.out)).at_ hkn
    subst hAf
    obtain ⟨bt', ot, hAt, hbt, ct⟩ := (HTX.out.below (HBo.out.mono HB3X.out)).at_ hkn
    subst hAt
    rw [evf] at cf
    rw [evt] at ct
    have e1 : (rlAt (svAt l k).2 vf).2.1 = levAt l k vf := rfl
    have e2 : (rlAt (svAt l k).2 vt).2.1 = levAt l k vt := rfl
    have l1 := levAt_ok HLV.out hal hvf
    have l2 := levAt_ok HLV.out hal hvt
    rw [e1] at kf
    rw [e2] at kt
    obtain ⟨L1, hL1⟩ : ∃ q, levAt l k vf = q := ⟨_, rfl⟩
    obtain ⟨L2, hL2⟩ : ∃ q, levAt l k vt = q := ⟨_, rfl⟩
    have hRS : rise l fs ts k = L2 - L1 := by unfold rise; rw [evf, evt, Int.toNat_natCast, Int.toNat_natCast, hL1, hL2]
    rw [hL1] at kf l1
    rw [hL2] at kt l2
    have hvfi : (vf : Int) < (nj : Int) := by omega
    have hvti : (vt : Int) < (nj : Int) := by omega
    have hvf0 : (0 : Int) ≤ (vf : Int) := by omega
    have hvt0 : (0 : Int) ≤ (vt : Int) := by omega
    obtain ⟨x0, _⟩ := row1f ((HBo.out.block w.heap.size (heapE_lt KX.out)).trans KX.out)
    clear hA hrj f2 t2 ea ea2 evf evt hL1 hL2 e1 e2
    obtain ⟨R, HR⟩ : ∃ q, Hid (L2 - L1 = q) := ⟨_, Lib.hid rfl⟩
    have hsub : IntKind.i64.wrap (L2 - L1) = R := by rw [IntWalk.i64_in _ (by omega)]; exact HR.out
    have hri := HRI.out k (by rw [HML.out]; exact hkn)
    rw [hRS, HR.out] at hri
    clear hRS l1 l2
    rcases (show R = 0 ∨ R = 1 by omega) with h0 | h0
    all_goals
     subst h0
     clear hri
     go_wp2_with fail
     go_quiet (fail)
     go_wp2_with fail
     go_roundw
     case rel => exact ⟨k + 1, by omega, by go_num, Lib.hid (by first | exact HBo.out | exact Below.drewN' HBo.out _)⟩
     case measure => simp [intOf]; omega
   ·have hd : decide ((k : Int) < (m3 : Int)) = false := by simp; omega
    go_wp2_with fail
    exact bodyPost_ret (results_tmp rfl _ _ _) rfl ⟨rfl, HWo.out⟩
end Go.Proofs.YtminihiecloglaaGreat

set_option linter.unusedVariables false
set_option linter.unusedSimpArgs false
namespace Go.Proofs.YtminihiecloglaaGreat
open Go.RowKit
open SemP FlP GaP DiP
set_option maxRecDepth 10000
set_option maxHeartbeats 16000000 in
theorem stepsR_any {w : World} {B B2 B3 n c m c2 m3 c3 : Nat} {A A2 A3 : Option Addr} {l : List Sv} {fs ts : List Int} (h : CatAt w B A n c l) (hlv : LevOK l) (hf : Rd w B2 A2 m fs) (ht : Rd w B3 A3 m3 ts) (hB2 : B2 ≤ w.heap.size) (hB3 : B3 ≤ w.heap.size) (hsf : setB l fs = true) (hst : setB l ts = true) (hri : ∀ i, i < fs.length → 0 ≤ rise l fs ts i) :
  Calls Tryz.prog 24 #[.agg #[.slice A n c], .slice A2 m c2, .slice A3 m3 c3] w fun e w' => ∃ v, e = .returned v ∧ OwnF 111 2 spF w' w.heap.size v (stL l fs ts) ∧ Below w.heap.size w w' := by
 obtain ⟨W, HW⟩ : ∃ W, Hid (W = w.alloc (.cells #[.slice A n c] 29)) := ⟨_, Lib.hid rfl⟩
 have hbl : Below w.heap.size w W := by rw [HW.out]; exact (Below.refl _ w).alloc (Nat.le_refl _) _
 have H0 : Hid (W.heap[w.heap.size]? = some (.cells #[.slice A n c] 29 (0, 0))) := Lib.hid (by rw [HW.out]; exact heap_new w _)
 have HBL := Lib.hid hbl
 have HA := Lib.hid (h.below hbl)
 have HF := Lib.hid (hf.below (hbl.mono hB2))
 have HT := Lib.hid (ht.below (hbl.mono hB3))
 have HB2 : Hid (B2 ≤ W.heap.size) := Lib.hid (Nat.le_trans hB2 hbl.size)
 have HB3 : Hid (B3 ≤ W.heap.size) := Lib.hid (Nat.le_trans hB3 hbl.size)
 have HLV := Lib.hid hlv
 have HSF := Lib.hid hsf
 have HST := Lib.hid hst
 have HRI := Lib.hid hri
 have HML : Hid (fs.length = m) := Lib.hid hf.len
 have hmn : m = n := by rw [← hf.len, ← h.rd.1]; exact (setB_iff.1 hsf).1
 have hm3n : m3 = n := by rw [← ht.len, ← h.rd.1]; exact (setB_iff.1 hst).1
 have hn16 := h.n16
 subst hmn
 subst hm3n
 clear h hf ht hbl hlv hsf hst hB2 hB3 hri
 obtain ⟨x0, _⟩ := row1f H0.out
 go_enter Tryz.func24, Tryz.ntmps24
 go_upto_region 1 with fail
 change Code.wp _ _ _ _ (w.alloc (.cells #[.slice A m3 c] 29))
 rw [← HW.out]
 go_wp2_with fail
 clear x0
 go_loopw [7, 8] (fun v i wr => ∃ k : Nat, k ≤ m3 ∧ i = .int .i64 (k : Int) ∧ Hid (OwnF 111 2 spF wr W.heap.size v (stK l fs ts k)) ∧ Hid (Below W.heap.size W wr)) (fun _ i _ => m3 - (intOf i).toNat)
 case atStart => exact ⟨0, Nat.zero_le _, rfl, Lib.hid (OwnF.nil_ _ _ _ _ _), Lib.hid (Below.refl _ _)⟩
 case round =>
  obtain ⟨wo, hwo⟩ : ∃ x, x = wr := ⟨_, rfl⟩
  subst hwo
  obtain ⟨k, hk, rfl, HO, HBo⟩ := hrel
  have hzo := HBo.out.size
  by_cases hkn : k < m3
  ·have hd : decide ((k : Int) < (m3 : Int)) = true := by simp; omega
   have hki : (k : Int) < (m3 : Int) := by omega
   have hk0 : (0 : Int) ≤ (k : Int) := by omega
   have hadd : IntKind.i64.wrap ((k : Int) + 1) = ((k + 1 : Nat) : Int) := by rw [IntWalk.i64_in _ (by omega)]; omega
   have HSL : Hid ((stK l fs ts k).length ≤ 48) := Lib.hid (by have := stK_len l fs ts k; omega)
   obtain ⟨f1, f2⟩ := setB_iff.1 HSF.out
   obtain ⟨t1, t2⟩ := setB_iff.1 HST.out
   have hri := HRI.out k (by rw [HML.out]; exact hkn)
   obtain ⟨a0, vf, ea, evf, hal, hvf⟩ := isR_nat (f2 k (by rw [HML.out]; exact hkn))
   obtain rfl : k = a0 := by omega
   obtain ⟨a0, vt, ea2, evt, _, hvt⟩ := isR_nat (t2 k (by omega))
   obtain rfl : k = a0 := by omega
   have hA := HA.out.below HBo.out
   obtain ⟨b1, o1, Aj, nj, cj, hA1, hb1, _, k1, _, hrj⟩ := sv_at hA.rd hkn
   subst hA1
   have hnj : (svAt l k).2.length = nj := hrj.1
   obtain ⟨b2, o2, _, _, _, hA2, hb2, _, _, _, _, kf, _⟩ := rl_at hrj (i := vf) (by omega)
   subst hA2
   obtain ⟨b3, o3, _, _, _, hA3, hb3, _, _, _, _, kt, _⟩ := rl_at hrj (i := vt) (by omega)
   injection hA3 with hA3
   injection hA3 with e1 e2 _
   subst e1 e2
   obtain ⟨bf, of', hAf, hbf, cf⟩ := (HF.out.below (HBo.out.mono HB2.out)).at_ hkn
   subst hAf
   obtain ⟨bt', ot, hAt, hbt, ct⟩ := (HT.out.below (HBo.out.mono HB3.out)).at_ hkn
   subst hAt
   rw [evf] at cf
   rw [evt] at ct
   have e1 : (rlAt (svAt l k).2 vf).2.1 = levAt l k vf := rfl
   have e2 : (rlAt (svAt l k).2 vt).2.1 = levAt l k vt := rfl
   rw [e1] at kf
   rw [e2] at kt
   obtain ⟨L1, hL1⟩ : ∃ q, levAt l k vf = q := ⟨_, rfl⟩
   obtain ⟨L2, hL2⟩ : ∃ q, levAt l k vt = q := ⟨_, rfl⟩
   have hRS : rise l fs ts k = L2 - L1 := by unfold rise; rw [evf, evt, Int.toNat_natCast, Int.toNat_natCast, hL1, hL2]
   rw [hRS] at hri
   rw [hL1] at kf
   rw [hL2] at kt
   have HST2 : Hid (stAt l fs ts k = if (vf : Int) = (vt : Int) then [] else if L2 - L1 = 0 then [((k : Int), 2)] else [((k : Int), 1), ((k : Int), 2), ((k : Int), 3)]) := Lib.hid (by unfold stAt; rw [evf, evt, hRS])
   have hvfi : (vf : Int) < (nj : Int) := by omega
   have hvti : (vt : Int) < (nj : Int) := by omega
   have hvf0 : (0 : Int) ≤ (vf : Int) := by omega
   have hvt0 : (0 : Int) ≤ (vt : Int) := by omega
   obtain ⟨x0, _⟩ := row1f ((HBo.out.block w.heap.size (heapE_lt H0.out)).trans H0.out)
   clear hA hrj f2 t2 ea ea2 evf evt hL1 hL2 e1 e2 hRS
   by_cases hft : (vf : Int) = (vt : Int)
   ·have e1 : ((vf : Int) == (vt : Int)) = true := by rw [beq_iff_eq]; exact hft
    have HNX : Hid (stK l fs ts (k + 1) = stK l fs ts k) := Lib.hid (by rw [stK_succ, HST2.out, if_pos hft]; simp)
    clear hft
    go_wp2_with fail
    go_quiet (fail)
    go_wp2_with fail
    go_roundw
    case rel => exact ⟨k + 1, by omega, by go_num, Lib.hid (by rw [HNX.out]; first | exact HO.out | exact HO.out.drewN _), Lib.hid (by first | exact HBo.out | exact Below.drewN' HBo.out _)⟩
    case measure => simp [intOf]; omega
   ·have e1 : ((vf : Int) == (vt : Int)) = false := by rw [beq_eq_false_iff_ne]; exact hft
    by_cases hr0 : L1 < L2
    ·have e2 : decide (L1 < L2) = true := decide_eq_true hr0
     have HNX : Hid (stK l fs ts (k + 1) = stK l fs ts k ++ [((k : Int), 1), ((k : Int), 2), ((k : Int), 3)]) := Lib.hid (by rw [stK_succ, HST2.out, if_neg hft, if_neg (by omega)])
     clear hft
     go_wp2_with fail
     go_quiet (fail)
     go_wp2_with fail
     go_quiet (fail)
     go_wp2_with (at_builtin; refine wplF_apps (f := spF) (fun _ => rfl) (fun x u hu => by simp [spF] at hu; rcases hu with rfl | rfl <;> rfl) Tryz.underlying39 infoRS rfl (by decide) (by decide) rfl (.tmp 51) (.tmp 58) rfl W.heap.size _ (stK l fs ts k) rfl ((HO.out.drewN _).alloc _) wo.heap.size 3 3 [((k : Int), 1), ((k : Int), 2), ((k : Int), 3)] rfl rfl (cells_of (heap_new _ _)) (by have := HSL.out; omega) (by simp; exact Nat.le_succ_of_le hzo) ?_; intro v' w2 hown2 hgr2 hat2; (have HB2' : Hid (Below W.heap.size W w2) := Lib.hid (((Below.drewN' HBo.out _).alloc hzo _).grown hgr2 (by simp; exact Nat.le_succ_of_le hzo) (HO.out.ge))); (have HO2 : Hid (OwnF 111 2 spF w2 W.heap.size v' (stK l fs ts (k + 1))) := Lib.hid (by rw [HNX.out]; exact hown2)); clear hown2 hgr2 hat2)
     go_roundw
     case rel => exact ⟨k + 1, by omega, by go_num, HO2, HB2'⟩
     case measure => simp [intOf]; omega
    ·have e2 : decide (L1 < L2) = false := decide_eq_false hr0
     have HNX : Hid (stK l fs ts (k + 1) = stK l fs ts k ++ [((k : Int), 2)]) := Lib.hid (by rw [stK_succ, HST2.out, if_neg hft, if_pos (by omega)])
     clear hft
     go_wp2_with fail
     go_quiet (fail)
     go_wp2_with fail
     go_quiet (fail)
     go_wp2_with (at_builtin; refine wplF_apps (f := spF) (fun _ => rfl) (fun x u hu => by simp [spF] at hu; rcases hu with rfl | rfl <;> rfl) Tryz.underlying39 infoRS rfl (by decide) (by decide) rfl (.tmp 60) (.tmp 63) rfl W.heap.size _ (stK l fs ts k) rfl ((HO.out.drewN _).alloc _) wo.heap.size 1 1 [((k : Int), 2)] rfl rfl (cells_of (heap_new _ _)) (by have := HSL.out; omega) (by simp; exact Nat.le_succ_of_le hzo) ?_; intro v' w2 hown2 hgr2 hat2; (have HB2' : Hid (Below W.heap.size W w2) := Lib.hid (((Below.drewN' HBo.out _).alloc hzo _).grown hgr2 (by simp; exact Nat.le_succ_of_le hzo) (HO.out.ge))); (have HO2 : Hid (OwnF 111 2 spF w2 W.heap.size v' (stK l fs ts (k + 1))) := Lib.hid (by rw [HNX.out]; exact hown2)); clear hown2 hgr2 hat2)
     go_roundw
     case rel => exact ⟨k + 1, by omega, by go_num, HO2, HB2'⟩
     case measure => simp [intOf]; omega
  ·have hd : decide ((k : Int) < (m3 : Int)) = false := by simp; omega
   obtain rfl : k = m3 := by omega
   go_wp2_with fail
   exact bodyPost_ret (results_tmp rfl _ _ _) rfl ⟨_, rfl, (by unfold stL; rw [HML.out]; exact HO.out.less HBL.out.size), HBL.out.trans (HBo.out.mono HBL.out.size)⟩
end Go.Proofs.YtminihiecloglaaGreat

set_option linter.unusedVariables false
set_option linter.unusedSimpArgs false
namespace Go.Proofs.YtminihiecloglaaGreat
open Go.RowKit
open SemP FlP GaP DiP
set_option maxRecDepth 10000
theorem node_iffQ {n x : Int} : node n x = true ↔ 0 ≤ x ∧ x < n := by unfold node; simp
set_option maxHeartbeats 1000000 in
theorem rightQ_yes {w : World} {B m c : Nat} {n : Int} {A : Option Addr} {es : List (Int × Int)} (hx : RdE w B A m es) (hr : GraphR n es) (hB : B ≤ w.heap.size) :
  Calls Tryz.prog 49 #[.agg #[.int .i64 n, .slice A m c]] w fun e w' => e = .returned (.bool true) ∧ Below w.heap.size w w' := by
 have hm : m ≤ 4096 := by have := hr.2.2.1; rw [hx.1] at this; exact this
 have hn0 := hr.1
 have hn1 := hr.2.1
 have HX := Lib.hid hx
 have HR : Hid (∀ k < m, node n (ea es k) = true ∧ node n (eb es k) = true) := Lib.hid (by have := hr.2.2.2; rwa [hx.1] at this)
 clear hx hr
 go_enter Tryz.func49, Tryz.ntmps49
 go_wp2_with fail
 have HW : Hid (Boxed (w.alloc (.cells #[.int .i64 n, .slice A m c] 74)) w.heap.size n A m c ∧ Below w.heap.size w (w.alloc (.cells #[.int .i64 n, .slice A m c] 74))) := Lib.hid ⟨boxed_alloc _ _ _ _ _ _, (Below.refl _ _).alloc (Nat.le_refl _) _⟩
 generalize (w.alloc (.cells #[.int .i64 n, .slice A m c] 74)) = W0 at HW ⊢
 obtain ⟨hcn, hcs⟩ := HW.out.1
 go_loop [3] (fun i => ∃ k : Nat, k ≤ m ∧ i = .int .i64 (k : Int)) (fun i => m - (intOf i).toNat)
 case atStart => exact ⟨0, by omega, rfl⟩
 case round =>
  obtain ⟨k, hk, rfl⟩ := hrel
  by_cases hlt : k < m
  ·obtain ⟨b, off, rfl, hbb, hca, hcb⟩ := (HX.out.below (HW.out.2.mono hB)).at_ hlt
   obtain ⟨hna, hnb⟩ := HR.out k hlt
   obtain ⟨ha0, ha1⟩ := node_iffQ.1 hna
   obtain ⟨hb0, hb1⟩ := node_iffQ.1 hnb
   clear hna hnb
   go_wp2
   go_round
   case rel => exact ⟨k + 1, by omega, by go_num⟩
   case measure => simp [intOf]; omega
  ·go_wp2
   go_ret
   exact ⟨rfl, HW.out.2⟩
theorem clo_ofQ {g : List (Nat × Nat)} {s : Nat} (h : closedB g s = true) : clo g s := by
 have hc := (closedB_iff g s).1 h
 intro p hp hb
 obtain ⟨j, hj, e⟩ := List.getElem_of_mem hp
 have h1 : fb g j = p.2 := by unfold fb; rw [List.getD_eq_getElem?_getD, List.getElem?_eq_getElem hj, e]; rfl
 have h2 : fa g j = p.1 := by unfold fa; rw [List.getD_eq_getElem?_getD, List.getElem?_eq_getElem hj, e]; rfl
 have := hc j hj (by rw [h1]; exact hb)
 rw [h2] at this; exact this
theorem rel_fleetQ {l : List Sv} {fs ts : List Int} {s : Nat} (hlv : LevOK l) (hsm : SmCat l) (hf : setB l fs = true) (ht : setB l ts = true) : RelP l (plL l fs ts (stL l fs ts) s) := by
 intro k hk
 rw [plL_len] at hk
 obtain ⟨v, e, hv, _, h0, h2⟩ := flK_small (s := s) (stepsOK (l := l) (fs := fs) (ts := ts)) hlv hsm hf ht (Nat.le_refl _) hk
 rw [flK_all stepsOK] at e h0 h2
 exact ⟨v, e, hv, h0, by omega⟩
theorem sAt_left {a b : List StP} {k : Nat} (h : k < a.length) : sAt (a ++ b) k = sAt a k := by
 unfold sAt; rw [List.getD_eq_getElem?_getD, List.getElem?_append_left h, ← List.getD_eq_getElem?_getD]
theorem sAt_right {a b : List StP} {k : Nat} (h : a.length ≤ k) : sAt (a ++ b) k = sAt b (k - a.length) := by
 unfold sAt; rw [List.getD_eq_getElem?_getD, List.getElem?_append_right h, ← List.getD_eq_getElem?_getD]
theorem stAt_next {l : List Sv} {fs ts : List Int} {i j : Nat} (h : j + 1 < (stAt l fs ts i).length) : (sAt (stAt l fs ts i) (j + 1)).2 = (sAt (stAt l fs ts i) j).2 + 1 := by
 unfold stAt at h ⊢
 by_cases h1 : ix fs i = ix ts i
 ·rw [if_pos h1] at h; simp at h
 rw [if_neg h1] at h ⊢
 by_cases h2 : rise l fs ts i = 0
 ·rw [if_pos h2] at h; simp at h
 rw [if_neg h2] at h ⊢
 have hj : j = 0 ∨ j = 1 := by simp at h; omega
 rcases hj with rfl | rfl <;> rfl
theorem stK_next {l : List Sv} {fs ts : List Int} : ∀ K k, k + 1 < (stK l fs ts K).length → (sAt (stK l fs ts K) k).1 = (sAt (stK l fs ts K) (k + 1)).1 → (sAt (stK l fs ts K) (k + 1)).2 = (sAt (stK l fs ts K) k).2 + 1
 | 0, k, h, _ => by have : (stK l fs ts 0).length = 0 := rfl; omega
 | K + 1, k, h, e => by
  rw [stK_succ] at h e ⊢
  by_cases h1 : k + 1 < (stK l fs ts K).length
  ·rw [sAt_left h1, sAt_left (show k < _ by omega)] at e ⊢
   exact stK_next K k h1 e
  ·by_cases h2 : k < (stK l fs ts K).length
   ·rw [sAt_left h2, sAt_right (show _ ≤ k + 1 by omega)] at e
    rw [List.length_append] at h
    obtain ⟨i, hi, e1, _⟩ := mem_stK.1 (sAt_mem h2)
    have e2 := (mem_stAt.1 (sAt_mem (S := stAt l fs ts K) (k := k + 1 - (stK l fs ts K).length) (by omega))).1
    omega
   ·rw [List.length_append] at h
    rw [sAt_right (show _ ≤ k + 1 by omega), sAt_right (show _ ≤ k by omega), show k + 1 - (stK l fs ts K).length = (k - (stK l fs ts K).length) + 1 by omega]
    exact stAt_next (by omega)
theorem next_way {l : List Sv} {fs ts : List Int} {k : Nat} (hi : InN (stL l fs ts).length (befP l fs ts (stL l fs ts))) (h : k + 1 < (stL l fs ts).length) (e : (sAt (stL l fs ts) k).1 = (sAt (stL l fs ts) (k + 1)).1) : bt (rchG (stL l fs ts).length (befP l fs ts (stL l fs ts)) k) (k + 1) = true := by
 have h2 := stK_next (l := l) (fs := fs) (ts := ts) fs.length k h e
 have hm : ((k, k + 1) : Nat × Nat) ∈ befP l fs ts (stL l fs ts) := by
  refine mem_befP.2 ⟨by show k < _; omega, h, ?_⟩
  show mustR l fs ts (sAt (stL l fs ts) k) (sAt (stL l fs ts) (k + 1)) = true
  unfold mustR
  rw [if_pos e, decide_eq_true_eq]
  have h3 : (sAt (stL l fs ts) (k + 1)).2 = (sAt (stL l fs ts) k).2 + 1 := h2
  omega
 obtain ⟨j, hj, hje⟩ := List.getElem_of_mem hm
 refine (rch_way hi (show k < _ by omega)).2 (Way.one ⟨j, hj, ?_, ?_⟩)
 ·unfold fa; rw [List.getD_eq_getElem?_getD, List.getElem?_eq_getElem hj, hje]; rfl
 ·unfold fb; rw [List.getD_eq_getElem?_getD, List.getElem?_eq_getElem hj, hje]; rfl
structure TaSt (w0 : World) (A AF AT AS AE : Option Addr) (n c cF cT N cS M cE s : Nat) (l : List Sv) (fs ts : List Int) (S : List StP) (b0 b1 b2 b3 b4 b5 b6 b7 b8 b9 b10 b11 : Bool) (v95 v96 v97 v98 v99 v100 v101 v102 v103 v104 v105 v106 : Value) (w' : World) : Prop where
 bel : Below w0.heap.size w0 w'
 h0 : b0 = true → v95 = .agg #[.int .i64 (N : Int), .slice AE M cE]
 h1 : b1 = true → v96 = .int .u64 (s : Int)
 h2 : b2 = true → v97 = .bool false
 h3 : b3 = true → v98 = .bool false
 h4 : b4 = true → v99 = undef
 h5 : b5 = true → v100 = undef
 h6 : b6 = true → v101 = undef
 h7 : b7 = true → v102 = undef
 h8 : b8 = true → v103 = undef
 h9 : b9 = true → v104 = undef
 h10 : b10 = true → v105 = undef
 h11 : b11 = true → v106 = .bool false
inductive TaJ (w0 : World) (A AF AT AS AE : Option Addr) (n c cF cT N cS M cE s : Nat) (l : List Sv) (fs ts : List Int) (S : List StP) (p0 p1 p2 p3 p4 p5 p6 p7 p8 p9 p10 p11 p12 p13 p14 p15 p16 p17 p18 p19 p20 p21 p22 p23 p24 p25 p26 p27 p28 p29 p30 p31 p32 p33 p34 p35 p36 p37 p38 p39 p40 p41 p42 p43 p44 p45 p46 p47 p48 p49 p50 p51 p52 p53 p54 p55 p56 p57 p58 p59 p60 p61 p62 p63 p64 p65 p66 p67 p68 p69 p70 p71 p72 p73 p74 p75 p76 p77 p78 p79 p80 p81 p82 p83 p84 p85 p86 p87 p88 p89 p90 p91 p92 p93 p94 : Value) : Array Bool → Act → World → Prop where
 | mk (b0 b1 b2 b3 b4 b5 b6 b7 b8 b9 b10 b11 : Bool) (v95 v96 v97 v98 v99 v100 v101 v102 v103 v104 v105 v106 : Value) (w' : World) : TaSt w0 A AF AT AS AE n c cF cT N cS M cE s l fs ts S b0 b1 b2 b3 b4 b5 b6 b7 b8 b9 b10 b11 v95 v96 v97 v98 v99 v100 v101 v102 v103 v104 v105 v106 w' → TaJ w0 A AF AT AS AE n c cF cT N cS M cE s l fs ts S p0 p1 p2 p3 p4 p5 p6 p7 p8 p9 p10 p11 p12 p13 p14 p15 p16 p17 p18 p19 p20 p21 p22 p23 p24 p25 p26 p27 p28 p29 p30 p31 p32 p33 p34 p35 p36 p37 p38 p39 p40 p41 p42 p43 p44 p45 p46 p47 p48 p49 p50 p51 p52 p53 p54 p55 p56 p57 p58 p59 p60 p61 p62 p63 p64 p65 p66 p67 p68 p69 p70 p71 p72 p73 p74 p75 p76 p77 p78 p79 p80 p81 p82 p83 p84 p85 p86 p87 p88 p89 p90 p91 p92 p93 p94 #[b0, b1, b2, b3, b4, b5, b6, b7, b8, b9, b10, b11] { tmps := List.toArray (p0 :: p1 :: p2 :: p3 :: p4 :: p5 :: p6 :: p7 :: p8 :: p9 :: p10 :: p11 :: p12 :: p13 :: p14 :: p15 :: p16 :: p17 :: p18 :: p19 :: p20 :: p21 :: p22 :: p23 :: p24 :: p25 :: p26 :: p27 :: p28 :: p29 :: p30 :: p31 :: p32 :: p33 :: p34 :: p35 :: p36 :: p37 :: p38 :: p39 :: p40 :: p41 :: p42 :: p43 :: p44 :: p45 :: p46 :: p47 :: p48 :: p49 :: p50 :: p51 :: p52 :: p53 :: p54 :: p55 :: p56 :: p57 :: p58 :: p59 :: p60 :: p61 :: p62 :: p63 :: p64 :: p65 :: p66 :: p67 :: p68 :: p69 :: p70 :: p71 :: p72 :: p73 :: p74 :: p75 :: p76 :: p77 :: p78 :: p79 :: p80 :: p81 :: p82 :: p83 :: p84 :: p85 :: p86 :: p87 :: p88 :: p89 :: p90 :: p91 :: p92 :: p93 :: p94 :: v95 :: v96 :: v97 :: v98 :: v99 :: v100 :: v101 :: v102 :: v103 :: v104 :: v105 :: v106 :: []), defers := [] } w'
structure TbSt (w0 : World) (A AF AT AS AE : Option Addr) (n c cF cT N cS M cE s : Nat) (l : List Sv) (fs ts : List Int) (S : List StP) (b0 b1 b2 b3 b4 b5 b6 b7 b8 b9 b10 b11 : Bool) (v95 v96 v97 v98 v99 v100 v101 v102 v103 v104 v105 v106 : Value) (w' : World) : Prop where
 bel : Below w0.heap.size w0 w'
 h0 : b0 = true → v95 = .agg #[.int .i64 (N : Int), .slice AE M cE]
 h1 : b1 = true → v96 = .int .u64 (s : Int)
 h2 : b2 = true → v97 = .bool true
 h3 : b3 = true → v98 = .bool true
 h4 : b4 = true → v99 = .agg #[.slice A n c]
 h5 : b5 = true → v100 = .agg #[.slice A n c]
 h6 : b6 = true → v101 = .agg #[.slice AF n cF, .slice AT n cT, .slice AS N cS, .slice AE M cE]
 h7 : b7 = true → v102 = .int .u64 (s : Int)
 h8 : b8 = true → ∃ A' c', v103 = .slice A' n c' ∧ PrR w' A' n (plL l fs ts S s)
 h9 : b9 = true → v104 = .bool true
 h10 : b10 = true → v105 = .bool false
 h11 : b11 = true → v106 = .bool false
inductive TbJ (w0 : World) (A AF AT AS AE : Option Addr) (n c cF cT N cS M cE s : Nat) (l : List Sv) (fs ts : List Int) (S : List StP) (p0 p1 p2 p3 p4 p5 p6 p7 p8 p9 p10 p11 p12 p13 p14 p15 p16 p17 p18 p19 p20 p21 p22 p23 p24 p25 p26 p27 p28 p29 p30 p31 p32 p33 p34 p35 p36 p37 p38 p39 p40 p41 p42 p43 p44 p45 p46 p47 p48 p49 p50 p51 p52 p53 p54 p55 p56 p57 p58 p59 p60 p61 p62 p63 p64 p65 p66 p67 p68 p69 p70 p71 p72 p73 p74 p75 p76 p77 p78 p79 p80 p81 p82 p83 p84 p85 p86 p87 p88 p89 p90 p91 p92 p93 p94 : Value) : Array Bool → Act → World → Prop where
 | mk (b0 b1 b2 b3 b4 b5 b6 b7 b8 b9 b10 b11 : Bool) (v95 v96 v97 v98 v99 v100 v101 v102 v103 v104 v105 v106 : Value) (w' : World) : TbSt w0 A AF AT AS AE n c cF cT N cS M cE s l fs ts S b0 b1 b2 b3 b4 b5 b6 b7 b8 b9 b10 b11 v95 v96 v97 v98 v99 v100 v101 v102 v103 v104 v105 v106 w' → TbJ w0 A AF AT AS AE n c cF cT N cS M cE s l fs ts S p0 p1 p2 p3 p4 p5 p6 p7 p8 p9 p10 p11 p12 p13 p14 p15 p16 p17 p18 p19 p20 p21 p22 p23 p24 p25 p26 p27 p28 p29 p30 p31 p32 p33 p34 p35 p36 p37 p38 p39 p40 p41 p42 p43 p44 p45 p46 p47 p48 p49 p50 p51 p52 p53 p54 p55 p56 p57 p58 p59 p60 p61 p62 p63 p64 p65 p66 p67 p68 p69 p70 p71 p72 p73 p74 p75 p76 p77 p78 p79 p80 p81 p82 p83 p84 p85 p86 p87 p88 p89 p90 p91 p92 p93 p94 #[b0, b1, b2, b3, b4, b5, b6, b7, b8, b9, b10, b11] { tmps := List.toArray (p0 :: p1 :: p2 :: p3 :: p4 :: p5 :: p6 :: p7 :: p8 :: p9 :: p10 :: p11 :: p12 :: p13 :: p14 :: p15 :: p16 :: p17 :: p18 :: p19 :: p20 :: p21 :: p22 :: p23 :: p24 :: p25 :: p26 :: p27 :: p28 :: p29 :: p30 :: p31 :: p32 :: p33 :: p34 :: p35 :: p36 :: p37 :: p38 :: p39 :: p40 :: p41 :: p42 :: p43 :: p44 :: p45 :: p46 :: p47 :: p48 :: p49 :: p50 :: p51 :: p52 :: p53 :: p54 :: p55 :: p56 :: p57 :: p58 :: p59 :: p60 :: p61 :: p62 :: p63 :: p64 :: p65 :: p66 :: p67 :: p68 :: p69 :: p70 :: p71 :: p72 :: p73 :: p74 :: p75 :: p76 :: p77 :: p78 :: p79 :: p80 :: p81 :: p82 :: p83 :: p84 :: p85 :: p86 :: p87 :: p88 :: p89 :: p90 :: p91 :: p92 :: p93 :: p94 :: v95 :: v96 :: v97 :: v98 :: v99 :: v100 :: v101 :: v102 :: v103 :: v104 :: v105 :: v106 :: []), defers := [] } w'
structure TcSt (w0 : World) (A0 AE AL : Option Addr) (N M cE cL j j1 : Nat) (u : Int) (bx ox : Nat) (b0 b1 b2 b3 b4 b5 b6 b7 b8 b9 b10 b11 b12 b13 b14 b15 b16 b17 b18 b19 b20 b21 : Bool) (v65 v66 v67 v68 v69 v70 v71 v72 v73 v74 v75 v76 v77 v78 v79 v80 v81 v82 v83 v84 v85 v86 : Value) (w' : World) : Prop where
 bel : Below w0.heap.size w0 w'
 h0 : b0 = true → v65 = .slice (some ⟨bx, ox, none⟩) N cL
 h1 : b1 = true → v66 = .int .i64 (j : Int)
 h2 : b2 = true → v67 = .pointer (some ⟨bx, ox + j * 2, none⟩)
 h3 : b3 = true → v68 = .pointer (some ⟨bx, ox + j * 2, none⟩)
 h4 : b4 = true → v69 = .int .i64 u
 h5 : b5 = true → v70 = .slice (some ⟨bx, ox, none⟩) N cL
 h6 : b6 = true → v71 = .int .i64 (j : Int)
 h7 : b7 = true → v72 = .int .i64 (j1 : Int)
 h8 : b8 = true → v73 = .pointer (some ⟨bx, ox + j1 * 2, none⟩)
 h9 : b9 = true → v74 = .pointer (some ⟨bx, ox + j1 * 2, none⟩)
 h10 : b10 = true → v75 = .int .i64 u
 h11 : b11 = true → v76 = .bool true
 h12 : b12 = true → v77 = .bool true
 h13 : b13 = true → v78 = .agg #[.int .i64 (N : Int), .slice AE M cE]
 h14 : b14 = true → v79 = .int .i64 (j : Int)
 h15 : b15 = true → ∃ ob, v80 = .slice (some ⟨ob, 0, none⟩) N N ∧ ob < w'.heap.size ∧ w'.cell? ⟨ob, j1, none⟩ = some (.bool true)
 h16 : b16 = true → v81 = .int .i64 (j : Int)
 h17 : b17 = true → v82 = .int .i64 (j1 : Int)
 h18 : b18 = true → ∃ ob, v83 = .pointer (some ⟨ob, j1, none⟩) ∧ ob < w'.heap.size ∧ w'.cell? ⟨ob, j1, none⟩ = some (.bool true)
 h19 : b19 = true → v84 = .bool true
 h20 : b20 = true → v85 = .bool false
 h21 : b21 = true → v86 = .bool false
inductive TcJ (w0 : World) (A0 AE AL : Option Addr) (N M cE cL j j1 : Nat) (u : Int) (bx ox : Nat) (p0 p1 p2 p3 p4 p5 p6 p7 p8 p9 p10 p11 p12 p13 p14 p15 p16 p17 p18 p19 p20 p21 p22 p23 p24 p25 p26 p27 p28 p29 p30 p31 p32 p33 p34 p35 p36 p37 p38 p39 p40 p41 p42 p43 p44 p45 p46 p47 p48 p49 p50 p51 p52 p53 p54 p55 p56 p57 p58 p59 p60 p61 p62 p63 p64 p87 p88 p89 p90 p91 p92 p93 p94 p95 p96 p97 p98 p99 p100 p101 p102 p103 p104 p105 p106 : Value) : Array Bool → Act → World → Prop where
 | mk (b0 b1 b2 b3 b4 b5 b6 b7 b8 b9 b10 b11 b12 b13 b14 b15 b16 b17 b18 b19 b20 b21 : Bool) (v65 v66 v67 v68 v69 v70 v71 v72 v73 v74 v75 v76 v77 v78 v79 v80 v81 v82 v83 v84 v85 v86 : Value) (w' : World) : TcSt w0 A0 AE AL N M cE cL j j1 u bx ox b0 b1 b2 b3 b4 b5 b6 b7 b8 b9 b10 b11 b12 b13 b14 b15 b16 b17 b18 b19 b20 b21 v65 v66 v67 v68 v69 v70 v71 v72 v73 v74 v75 v76 v77 v78 v79 v80 v81 v82 v83 v84 v85 v86 w' → TcJ w0 A0 AE AL N M cE cL j j1 u bx ox p0 p1 p2 p3 p4 p5 p6 p7 p8 p9 p10 p11 p12 p13 p14 p15 p16 p17 p18 p19 p20 p21 p22 p23 p24 p25 p26 p27 p28 p29 p30 p31 p32 p33 p34 p35 p36 p37 p38 p39 p40 p41 p42 p43 p44 p45 p46 p47 p48 p49 p50 p51 p52 p53 p54 p55 p56 p57 p58 p59 p60 p61 p62 p63 p64 p87 p88 p89 p90 p91 p92 p93 p94 p95 p96 p97 p98 p99 p100 p101 p102 p103 p104 p105 p106 #[b0, b1, b2, b3, b4, b5, b6, b7, b8, b9, b10, b11, b12, b13, b14, b15, b16, b17, b18, b19, b20, b21] { tmps := List.toArray (p0 :: p1 :: p2 :: p3 :: p4 :: p5 :: p6 :: p7 :: p8 :: p9 :: p10 :: p11 :: p12 :: p13 :: p14 :: p15 :: p16 :: p17 :: p18 :: p19 :: p20 :: p21 :: p22 :: p23 :: p24 :: p25 :: p26 :: p27 :: p28 :: p29 :: p30 :: p31 :: p32 :: p33 :: p34 :: p35 :: p36 :: p37 :: p38 :: p39 :: p40 :: p41 :: p42 :: p43 :: p44 :: p45 :: p46 :: p47 :: p48 :: p49 :: p50 :: p51 :: p52 :: p53 :: p54 :: p55 :: p56 :: p57 :: p58 :: p59 :: p60 :: p61 :: p62 :: p63 :: p64 :: v65 :: v66 :: v67 :: v68 :: v69 :: v70 :: v71 :: v72 :: v73 :: v74 :: v75 :: v76 :: v77 :: v78 :: v79 :: v80 :: v81 :: v82 :: v83 :: v84 :: v85 :: v86 :: p87 :: p88 :: p89 :: p90 :: p91 :: p92 :: p93 :: p94 :: p95 :: p96 :: p97 :: p98 :: p99 :: p100 :: p101 :: p102 :: p103 :: p104 :: p105 :: p106 :: []), defers := [] } w'
set_option maxHeartbeats 16000000 in
theorem checkQ_made {w : World} {B BF BT BS BE n c cF cT N cS M cE : Nat} {A AF AT AS AE : Option Addr} {l : List Sv} {fs ts : List Int} {S : List StP} {G : List (Nat × Nat)} (h : CatAt w B A n c l) (hlv : LevOK l) (hF : Rd w BF AF n fs) (hT : Rd w BT AT n ts) (hS : RdS w BS AS N S) (hE : RdEg w BE AE M G) (hBF : BF ≤ w.heap.size) (hBT : BT ≤ w.heap.size) (hBS : BS ≤ w.heap.size) (hBE : BE ≤ w.heap.size) (hSS : stL l fs ts = S) (hG : befP l fs ts S = G) (hce : chkE l fs ts = 0) (hgo : Goes (befG G) N N) (hN : N ≤ 10) (hM : M ≤ 4096) :
  Calls Tryz.prog 17 #[.agg #[.slice A n c], .agg #[.slice AF n cF, .slice AT n cT, .slice AS N cS, .slice AE M cE]] w fun e w' => e = .returned (.int .i64 0) ∧ Below w.heap.size w w' := by
 obtain ⟨W, HW⟩ : ∃ W, Hid (W = (w.alloc (.cells #[.slice A n c] 29)).alloc (.cells #[.slice AF n cF, .slice AT n cT, .slice AS N cS, .slice AE M cE] 41)) := ⟨_, Lib.hid rfl⟩
 have hbl : Below w.heap.size w W := by rw [HW.out]; exact ((Below.refl _ w).alloc (Nat.le_refl _) _).alloc (by simp) _
 have HBL := Lib.hid hbl
 have H0 : Hid (W.heap[w.heap.size]? = some (.cells #[.slice A n c] 29 (0, 0))) := Lib.hid (by
  rw [HW.out, Below.heap_alloc _ _ _ (by simp)]; exact heap_new w _)
 have H1 : Hid (W.heap[w.heap.size + 1]? = some (.cells #[.slice AF n cF, .slice AT n cT, .slice AS N cS, .slice AE M cE] 41 (0, 0))) := Lib.hid (by
  rw [HW.out]
  have h := heap_new (w.alloc (.cells #[.slice A n c] 29)) (.cells #[.slice AF n cF, .slice AT n cT, .slice AS N cS, .slice AE M cE] 41)
  rw [World.size_alloc] at h; exact h)
 have HA := Lib.hid (h.below hbl)
 have HF := Lib.hid (hF.below (hbl.mono hBF))
 have HT := Lib.hid (hT.below (hbl.mono hBT))
 have HS := Lib.hid (hS.below (hbl.mono hBS) hBS)
 have HE := Lib.hid (hE.below (hbl.mono hBE))
 have LF : Hid (BF ≤ W.heap.size) := Lib.hid (Nat.le_trans hBF hbl.size)
 have LT : Hid (BT ≤ W.heap.size) := Lib.hid (Nat.le_trans hBT hbl.size)
 have LS : Hid (BS ≤ W.heap.size) := Lib.hid (Nat.le_trans hBS hbl.size)
 have LE : Hid (BE ≤ W.heap.size) := Lib.hid (Nat.le_trans hBE hbl.size)
 have HLV := Lib.hid hlv
 have HSM := Lib.hid h.sm
 have hn16 := h.n16
 have HSF := Lib.hid (chkE_ok hce).1
 have HST := Lib.hid (chkE_ok hce).2.1
 have HCE := Lib.hid hce
 have HSL : Hid (S.length = N) := Lib.hid hS.len
 have HGL : Hid (G.length = M) := Lib.hid hE.len
 have HSS := Lib.hid hSS
 have HGG := Lib.hid hG
 have HGO := Lib.hid hgo
 have HIN : Hid (InN N G) := Lib.hid (by
  intro k hk
  have hmem : G.getD k default ∈ befP l fs ts S := by rw [hG]; exact getD_mem hk
  obtain ⟨h1, h2, _⟩ := mem_befP.1 hmem
  rw [hS.len] at h1 h2
  exact ⟨h1, h2⟩)
 have HGR := Lib.hid (graphR_cast HIN.out (by omega) (by rw [hE.len]; exact hM))
 have HNW : Hid (∀ k, k + 1 < N → (sAt S k).1 = (sAt S (k + 1)).1 → bt (rchG N G k) (k + 1) = true) := Lib.hid (fun k hk e => by
  have h := next_way (l := l) (fs := fs) (ts := ts) (k := k) (by rw [hSS, hG, hS.len]; exact HIN.out) (by rw [hSS, hS.len]; exact hk) (by rw [hSS]; exact e)
  rw [hSS, hG, hS.len] at h
  exact h)
 have HEN := Lib.hid (endsQ_ok (w := W) (c := c) (c2 := cF) (c3 := cT) HA.out hlv HF.out HT.out LF.out LT.out (by omega) (by omega) hce)
 have hrise := fun i hi => ((chkE_ok hce).2.2.2.2 i hi).1
 have HRS := Lib.hid hrise
 clear h hlv hF hT hS hE hBF hBT hBS hBE hSS hG hce hgo hbl hrise
 obtain ⟨x0, _⟩ := row1f H0.out
 obtain ⟨y0, y1, y2, y3⟩ := row4 H1.out
 go_enter Tryz.func17, Tryz.ntmps17
 go_upto_region 1 with fail
 change Code.wp _ _ _ _ ((w.alloc (.cells #[.slice A n c] 29)).alloc (.cells #[.slice AF n cF, .slice AT n cT, .slice AS N cS, .slice AE M cE] 41))
 rw [← HW.out]
 go_wp2_with fail
 refine HEN.out.mono ?_
 rintro e X ⟨rfl, hb⟩
 have HWX := Lib.hid hb
 have HSR := Lib.hid (stepsR_any (w := X) (c := c) (c2 := cF) (c3 := cT) (HA.out.below hb) HLV.out (HF.out.below (hb.mono LF.out)) (HT.out.below (hb.mono LT.out)) (Nat.le_trans LF.out hb.size) (Nat.le_trans LT.out hb.size) HSF.out HST.out HRS.out)
 rw [HSS.out] at HSR
 clear x0 y0 y1 y2 y3 HEN
 obtain ⟨x0, _⟩ := row1f ((hb.block w.heap.size (heapE_lt H0.out)).trans H0.out)
 obtain ⟨y0, y1, y2, y3⟩ := row4 ((hb.block (w.heap.size + 1) (heapE_lt H1.out)).trans H1.out)
 clear hb
 go_wp2_with fail
 refine HSR.out.mono ?_
 rintro e Y ⟨v, rfl, hown, hb⟩
 obtain ⟨AL, cL, hv⟩ := hown.shape
 rw [HSL.out] at hv
 subst hv
 have HWY : Hid (Below W.heap.size W Y) := Lib.hid (HWX.out.trans (hb.mono HWX.out.size))
 have HLS : Hid (RdS Y Y.heap.size AL N S) := Lib.hid hown.rdG
 clear x0 y0 y1 y2 y3 HSR
 obtain ⟨y0, y1, y2, y3⟩ := row4 ((HWY.out.block (w.heap.size + 1) (heapE_lt H1.out)).trans H1.out)
 clear hb hown
 have hNN : ((N : Int) != (N : Int)) = false := by simp
 go_wp2_with fail
 clear y0 y1 y2 y3
 go_loopw [7] (fun v wr => ∃ k : Nat, k ≤ N ∧ v = .int .i64 (k : Int) ∧ Hid (Below Y.heap.size Y wr)) (fun v _ => N - (intOf v).toNat)
 case atStart => exact ⟨0, Nat.zero_le _, rfl, Lib.hid (Below.refl _ _)⟩
 case round =>
  obtain ⟨wo, hwo⟩ : ∃ x, x = wr := ⟨_, rfl⟩
  subst hwo
  obtain ⟨k, hk, rfl, HBo⟩ := hrel
  have HWo : Hid (Below W.heap.size W wo) := Lib.hid (HWY.out.trans (HBo.out.mono HWY.out.size))
  obtain ⟨y0, y1, y2, y3⟩ := row4 ((HWo.out.block (w.heap.size + 1) (heapE_lt H1.out)).trans H1.out)
  by_cases hkn : k < N
  ·have hd : decide ((k : Int) < (N : Int)) = true := by simp; omega
   have hki : (k : Int) < (N : Int) := by omega
   have hk0 : (0 : Int) ≤ (k : Int) := by omega
   have hadd : IntKind.i64.wrap ((k : Int) + 1) = ((k + 1 : Nat) : Int) := by rw [IntWalk.i64_in _ (by omega)]; omega
   obtain ⟨b1, o1, rfl, _, s0, s1⟩ := (HLS.out.below HBo.out (Nat.le_refl _)).at_ k hkn
   obtain ⟨b2, o2, rfl, _, t0, t1⟩ := (HS.out.below (HWo.out.mono LS.out) LS.out).at_ k hkn
   obtain ⟨⟨p1, p2⟩, HP⟩ : ∃ q, Hid (sAt S k = q) := ⟨_, Lib.hid rfl⟩
   rw [HP.out] at s0 s1 t0 t1
   replace s0 : wo.cell? ⟨b1, o1 + k * 2, none⟩ = some (.int .i64 p1) := s0
   replace s1 : wo.cell? ⟨b1, o1 + k * 2 + 1, none⟩ = some (.int .i64 p2) := s1
   replace t0 : wo.cell? ⟨b2, o2 + k * 2, none⟩ = some (.int .i64 p1) := t0
   replace t1 : wo.cell? ⟨b2, o2 + k * 2 + 1, none⟩ = some (.int .i64 p2) := t1
   have hEq := fun W => neS10 p1 p2 p1 p2 W
   simp only [beq_self_eq_true, Bool.and_self, Bool.not_true] at hEq
   go_wp2_with fail
   go_quiet (fail)
   go_wp2_with fail
   go_roundw
   case rel => exact ⟨k + 1, by omega, by go_num, Lib.hid (by first | exact HBo.out | exact Below.drewN' HBo.out _)⟩
   case measure => simp [intOf]; omega
  ·have hd : decide ((k : Int) < (N : Int)) = false := by simp; omega
   obtain rfl : k = N := by omega
   have HGD := Lib.hid (graphD_any (w := wo) (nF := n) (cF := cF) (nT := n) (cT := cT) (nS := k) (cS := cS) (n := M) (c := cE) (AF := AF) (AT := AT) (AS := AS) (A := AE))
   go_wp2_with fail
   refine HGD.out.mono ?_
   rintro e U ⟨rfl, hb⟩
   have HoU := Lib.hid hb
   obtain ⟨V, HV⟩ : ∃ V, Hid (V = U.alloc (.cells #[.int .i64 (k : Int), .slice AE M cE] 74)) := ⟨_, Lib.hid rfl⟩
   have HUV : Hid (Below U.heap.size U V) := Lib.hid (by rw [HV.out]; exact (Below.refl _ U).alloc (Nat.le_refl _) _)
   have KV : Hid (V.heap[U.heap.size]? = some (.cells #[.int .i64 (k : Int), .slice AE M cE] 74 (0, 0))) := Lib.hid (by rw [HV.out]; exact heap_new U _)
   have HWV : Hid (Below W.heap.size W V) := Lib.hid (HWo.out.trans ((hb.trans (HUV.out.mono hb.size)).mono HWo.out.size))
   have HYV : Hid (Below Y.heap.size Y V) := Lib.hid (HBo.out.trans ((hb.trans (HUV.out.mono hb.size)).mono HBo.out.size))
   have HRY := Lib.hid (rightQ_yes (w := V) (c := cE) (HE.out.below (HWV.out.mono LE.out)) HGR.out (Nat.le_trans LE.out HWV.out.size))
   clear hb y0 y1 y2 y3 HGD
   go_upto_region 13 with fail
   rw [← HV.out]
   obtain ⟨g0, g1, _, _⟩ := row2 KV.out
   go_wp2_with fail
   refine HRY.out.mono ?_
   rintro e V1 ⟨rfl, hb⟩
   have HV1 := Lib.hid hb
   have HWV1 : Hid (Below W.heap.size W V1) := Lib.hid (HWV.out.trans (hb.mono HWV.out.size))
   have HCI := Lib.hid (circle_any (w := V1) (c := cE) (HE.out.below (HWV1.out.mono LE.out)) HIN.out (by omega) hM (Nat.le_trans LE.out HWV1.out.size) false (by simp [HGO.out]))
   clear g0 g1 HRY
   obtain ⟨g0, g1, _, _⟩ := row2 ((hb.block U.heap.size (heapE_lt KV.out)).trans KV.out)
   clear hb
   go_wp2_with fail
   refine HCI.out.mono ?_
   rintro e V2 ⟨rfl, hb⟩
   have HV2 : Hid (Below V.heap.size V V2) := Lib.hid (HV1.out.trans (hb.mono HV1.out.size))
   clear hb g0 g1 HCI
   go_wp2_with fail
   go_loopw [9] (fun v wr => ∃ j : Nat, j ≤ k ∧ v = .int .i64 (j : Int) ∧ Hid (Below V.heap.size V wr)) (fun v _ => k - (intOf v).toNat)
   case atStart => exact ⟨0, Nat.zero_le _, rfl, HV2⟩
   case round =>
    obtain ⟨wi, hwi⟩ : ∃ x, x = wr := ⟨_, rfl⟩
    subst hwi
    obtain ⟨j, hj, rfl, HBi⟩ := hrel
    have HWi : Hid (Below W.heap.size W wi) := Lib.hid (HWV.out.trans (HBi.out.mono HWV.out.size))
    have HYi : Hid (Below Y.heap.size Y wi) := Lib.hid (HYV.out.trans (HBi.out.mono HYV.out.size))
    obtain ⟨j1, HJ1⟩ : ∃ q, Hid (j + 1 = q) := ⟨_, Lib.hid rfl⟩
    have hadd : IntKind.i64.wrap ((j : Int) + 1) = (j1 : Int) := by rw [IntWalk.i64_in _ (by omega)]; have := HJ1.out; omega
    by_cases hjn : j1 < k
    ·have hd2 : decide ((j1 : Int) < (k : Int)) = true := by simp; omega
     have hji : (j : Int) < (k : Int) := by have := HJ1.out; omega
     have hj0 : (0 : Int) ≤ (j : Int) := by omega
     have hji1 : (j1 : Int) < (k : Int) := by omega
     have hj01 : (0 : Int) ≤ (j1 : Int) := by omega
     have hls := HLS.out.below HYi.out (Nat.le_refl _)
     obtain ⟨b1, o1, hA1, hl1, s0, _⟩ := hls.at_ j (by have := HJ1.out; omega)
     obtain ⟨b2, o2, hA2, _, t0, _⟩ := hls.at_ j1 hjn
     subst hA1
     injection hA2 with hA2
     injection hA2 with q1 q2 _
     subst q1 q2
     obtain ⟨u, HU⟩ : ∃ q, Hid ((sAt S j).1 = q) := ⟨_, Lib.hid rfl⟩
     obtain ⟨v, HVV⟩ : ∃ q, Hid ((sAt S j1).1 = q) := ⟨_, Lib.hid rfl⟩
     rw [HU.out] at s0
     rw [HVV.out] at t0
     have KVi : Hid (wi.heap[U.heap.size]? = _) := Lib.hid ((HBi.out.block U.heap.size (heapE_lt KV.out)).trans KV.out)
     clear hls
     by_cases huv : u = v
     ·have e1 : (u == v) = true := by rw [beq_iff_eq]; exact huv
      have HBT : Hid (bt (rchG k G j) j1 = true) := Lib.hid (by have h := HNW.out j (by have := HJ1.out; omega) (by rw [HJ1.out, HU.out, HVV.out, huv]); rw [HJ1.out] at h; exact h)
      subst huv
      have HFR := Lib.hid (fun (Z : World) (hZ : Below wi.heap.size wi Z) => from_any (w := Z) (c := cE) (N := k) (a := j) (HE.out.below ((HWi.out.trans (hZ.mono HWi.out.size)).mono LE.out)) HIN.out (by omega) hM (Nat.le_trans LE.out (HWi.out.trans (hZ.mono HWi.out.size)).size) (by have := HJ1.out; omega))
      have HCEL := Lib.hid (fun (Z : World) (hZ : Below wi.heap.size wi Z) => And.intro ((hZ.cell (p := ⟨b1, o1 + j * 2, none⟩) (Nat.lt_of_lt_of_le hl1 HYi.out.size)).trans s0) (And.intro ((hZ.cell (p := ⟨b1, o1 + j1 * 2, none⟩) (Nat.lt_of_lt_of_le hl1 HYi.out.size)).trans t0) (And.intro (row2 ((hZ.block U.heap.size (heapE_lt KVi.out)).trans KVi.out)).1 (row2 ((hZ.block U.heap.size (heapE_lt KVi.out)).trans KVi.out)).2.1)))
      clear s0 t0
      go_wp2_with fail
      refine wp_region_inv (by kernel_rfl) (I := TcJ wi AE AE (some ⟨b1, o1, none⟩) k M cE cL j j1 u b1 o1 _ _ _ _ _ _ _ _ _ _ _ _ _ _ _ _ _ _ _ _ _ _ _ _ _ _ _ _ _ _ _ _ _ _ _ _ _ _ _ _ _ _ _ _ _ _ _ _ _ _ _ _ _ _ _ _ _ _ _ _ _ _ _ _ _ _ _ _ _ _ _ _ _ _ _ _ _ _ _ _ _ _ _ _ _) (.mk false false false false false false false false false false false false false false false false false false false false false false _ _ _ _ _ _ _ _ _ _ _ _ _ _ _ _ _ _ _ _ _ _ _ ⟨(Below.refl _ wi).drew, nofun, nofun, nofun, nofun, nofun, nofun, nofun, nofun, nofun, nofun, nofun, nofun, nofun, nofun, nofun, nofun, nofun, nofun, nofun, nofun, nofun, nofun⟩) ?step ?fin
      case step =>
       rintro lq a' w' ix ⟨b0, b1, b2, b3, b4, b5, b6, b7, b8, b9, b10, b11, b12, b13, b14, b15, b16, b17, b18, b19, b20, b21, v65, v66, v67, v68, v69, v70, v71, v72, v73, v74, v75, v76, v77, v78, v79, v80, v81, v82, v83, v84, v85, v86, _, HT⟩ hi
       obtain ⟨hi_, hib⟩ := ready_lt hi
       have HTH := Lib.hid HT
       match ix, hi_, hi, hib with
       | 0, _, hi, hib =>
        clear HT
        refine wpOp_one rfl rfl (fun K hK => ?_)
        go_simp
        exact hK.out _ _ (.mk true b1 b2 b3 b4 b5 b6 b7 b8 b9 b10 b11 b12 b13 b14 b15 b16 b17 b18 b19 b20 b21 _ _ _ _ _ _ _ _ _ _ _ _ _ _ _ _ _ _ _ _ _ _ _ { HTH.out with h0 := fun _ => rfl })
       | 1, _, hi, hib =>
        clear HT
        refine wpOp_one rfl rfl (fun K hK => ?_)
        go_simp
        exact hK.out _ _ (.mk b0 true b2 b3 b4 b5 b6 b7 b8 b9 b10 b11 b12 b13 b14 b15 b16 b17 b18 b19 b20 b21 _ _ _ _ _ _ _ _ _ _ _ _ _ _ _ _ _ _ _ _ _ _ _ { HTH.out with h1 := fun _ => rfl })
       | 2, _, hi, hib =>
        have d0 : b0 = true := ready_dep hi rfl 0 (by kernel_rfl)
        have hd0 := HT.h0 d0
        subst hd0
        have d1 : b1 = true := ready_dep hi rfl 1 (by kernel_rfl)
        have hd1 := HT.h1 d1
        subst hd1
        clear HT
        refine wpOp_one rfl rfl (fun K hK => ?_)
        go_simp
        exact hK.out _ _ (.mk b0 b1 true b3 b4 b5 b6 b7 b8 b9 b10 b11 b12 b13 b14 b15 b16 b17 b18 b19 b20 b21 _ _ _ _ _ _ _ _ _ _ _ _ _ _ _ _ _ _ _ _ _ _ _ { HTH.out with h2 := fun _ => rfl })
       | 3, _, hi, hib =>
        have d2 : b2 = true := ready_dep hi rfl 2 (by kernel_rfl)
        have hd2 := HT.h2 d2
        subst hd2
        clear HT
        refine wpOp_one rfl rfl (fun K hK => ?_)
        go_simp
        exact hK.out _ _ (.mk b0 b1 b2 true b4 b5 b6 b7 b8 b9 b10 b11 b12 b13 b14 b15 b16 b17 b18 b19 b20 b21 _ _ _ _ _ _ _ _ _ _ _ _ _ _ _ _ _ _ _ _ _ _ _ { HTH.out with h3 := fun _ => rfl })
       | 4, _, hi, hib =>
        have d3 : b3 = true := ready_dep hi rfl 3 (by kernel_rfl)
        have hd3 := HT.h3 d3
        subst hd3
        have HTb := Lib.hid HT.bel
        obtain ⟨s0, t0, g0, g1⟩ := HCEL.out w' HTb.out
        clear HT
        refine wpOp_one rfl rfl (fun K hK => ?_)
        go_simp
        exact hK.out _ _ (.mk b0 b1 b2 b3 true b5 b6 b7 b8 b9 b10 b11 b12 b13 b14 b15 b16 b17 b18 b19 b20 b21 _ _ _ _ _ _ _ _ _ _ _ _ _ _ _ _ _ _ _ _ _ _ _ { HTH.out with h4 := fun _ => rfl })
       | 5, _, hi, hib =>
        clear HT
        refine wpOp_one rfl rfl (fun K hK => ?_)
        go_simp
        exact hK.out _ _ (.mk b0 b1 b2 b3 b4 true b6 b7 b8 b9 b10 b11 b12 b13 b14 b15 b16 b17 b18 b19 b20 b21 _ _ _ _ _ _ _ _ _ _ _ _ _ _ _ _ _ _ _ _ _ _ _ { HTH.out with h5 := fun _ => rfl })
       | 6, _, hi, hib =>
        clear HT
        refine wpOp_one rfl rfl (fun K hK => ?_)
        go_simp
        exact hK.out _ _ (.mk b0 b1 b2 b3 b4 b5 true b7 b8 b9 b10 b11 b12 b13 b14 b15 b16 b17 b18 b19 b20 b21 _ _ _ _ _ _ _ _ _ _ _ _ _ _ _ _ _ _ _ _ _ _ _ { HTH.out with h6 := fun _ => rfl })
       | 7, _, hi, hib =>
        have d6 : b6 = true := ready_dep hi rfl 6 (by kernel_rfl)
        have hd6 := HT.h6 d6
        subst hd6
        clear HT
        refine wpOp_one rfl rfl (fun K hK => ?_)
        go_simp
        exact hK.out _ _ (.mk b0 b1 b2 b3 b4 b5 b6 true b8 b9 b10 b11 b12 b13 b14 b15 b16 b17 b18 b19 b20 b21 _ _ _ _ _ _ _ _ _ _ _ _ _ _ _ _ _ _ _ _ _ _ _ { HTH.out with h7 := fun _ => rfl })
       | 8, _, hi, hib =>
        have d5 : b5 = true := ready_dep hi rfl 5 (by kernel_rfl)
        have hd5 := HT.h5 d5
        subst hd5
        have d7 : b7 = true := ready_dep hi rfl 7 (by kernel_rfl)
        have hd7 := HT.h7 d7
        subst hd7
        clear HT
        refine wpOp_one rfl rfl (fun K hK => ?_)
        go_simp
        exact hK.out _ _ (.mk b0 b1 b2 b3 b4 b5 b6 b7 true b9 b10 b11 b12 b13 b14 b15 b16 b17 b18 b19 b20 b21 _ _ _ _ _ _ _ _ _ _ _ _ _ _ _ _ _ _ _ _ _ _ _ { HTH.out with h8 := fun _ => rfl })
       | 9, _, hi, hib =>
        have d8 : b8 = true := ready_dep hi rfl 8 (by kernel_rfl)
        have hd8 := HT.h8 d8
        subst hd8
        clear HT
        refine wpOp_one rfl rfl (fun K hK => ?_)
        go_simp
        exact hK.out _ _ (.mk b0 b1 b2 b3 b4 b5 b6 b7 b8 true b10 b11 b12 b13 b14 b15 b16 b17 b18 b19 b20 b21 _ _ _ _ _ _ _ _ _ _ _ _ _ _ _ _ _ _ _ _ _ _ _ { HTH.out with h9 := fun _ => rfl })
       | 10, _, hi, hib =>
        have d9 : b9 = true := ready_dep hi rfl 9 (by kernel_rfl)
        have hd9 := HT.h9 d9
        subst hd9
        have HTb := Lib.hid HT.bel
        obtain ⟨s0, t0, g0, g1⟩ := HCEL.out w' HTb.out
        clear HT
        refine wpOp_one rfl rfl (fun K hK => ?_)
        go_simp
        exact hK.out _ _ (.mk b0 b1 b2 b3 b4 b5 b6 b7 b8 b9 true b11 b12 b13 b14 b15 b16 b17 b18 b19 b20 b21 _ _ _ _ _ _ _ _ _ _ _ _ _ _ _ _ _ _ _ _ _ _ _ { HTH.out with h10 := fun _ => rfl })
       | 11, _, hi, hib =>
        have d4 : b4 = true := ready_dep hi rfl 4 (by kernel_rfl)
        have hd4 := HT.h4 d4
        subst hd4
        have d10 : b10 = true := ready_dep hi rfl 10 (by kernel_rfl)
        have hd10 := HT.h10 d10
        subst hd10
        clear HT
        refine wpOp_one rfl rfl (fun K hK => ?_)
        go_simp
        exact hK.out _ _ (.mk b0 b1 b2 b3 b4 b5 b6 b7 b8 b9 b10 true b12 b13 b14 b15 b16 b17 b18 b19 b20 b21 _ _ _ _ _ _ _ _ _ _ _ _ _ _ _ _ _ _ _ _ _ _ _ { HTH.out with h11 := fun _ => rfl })
       | 12, _, hi, hib =>
        have d11 : b11 = true := ready_dep hi rfl 11 (by kernel_rfl)
        have hd11 := HT.h11 d11
        subst hd11
        clear HT
        refine wpOp_one rfl rfl (fun K hK => ?_)
        go_simp
        exact hK.out _ _ (.mk b0 b1 b2 b3 b4 b5 b6 b7 b8 b9 b10 b11 true b13 b14 b15 b16 b17 b18 b19 b20 b21 _ _ _ _ _ _ _ _ _ _ _ _ _ _ _ _ _ _ _ _ _ _ _ { HTH.out with h12 := fun _ => rfl })
       | 13, _, hi, hib =>
        have e12 : b12 = true := ready_dep hi rfl 12 (by kernel_rfl)
        have he12 := HT.h12 e12
        subst he12
        have HTb := Lib.hid HT.bel
        obtain ⟨s0, t0, g0, g1⟩ := HCEL.out w' HTb.out
        clear HT
        refine wpOp_want rfl 12 true rfl rfl (fun K hK => ?_)
        go_simp
        exact hK.out _ _ (.mk b0 b1 b2 b3 b4 b5 b6 b7 b8 b9 b10 b11 b12 true b14 b15 b16 b17 b18 b19 b20 b21 _ _ _ _ _ _ _ _ _ _ _ _ _ _ _ _ _ _ _ _ _ _ _ { HTH.out with h13 := fun _ => rfl })
       | 14, _, hi, hib =>
        have e12 : b12 = true := ready_dep hi rfl 12 (by kernel_rfl)
        have he12 := HT.h12 e12
        subst he12
        clear HT
        refine wpOp_want rfl 12 true rfl rfl (fun K hK => ?_)
        go_simp
        exact hK.out _ _ (.mk b0 b1 b2 b3 b4 b5 b6 b7 b8 b9 b10 b11 b12 b13 true b15 b16 b17 b18 b19 b20 b21 _ _ _ _ _ _ _ _ _ _ _ _ _ _ _ _ _ _ _ _ _ _ _ { HTH.out with h14 := fun _ => rfl })
       | 15, _, hi, hib =>
        have e12 : b12 = true := ready_dep hi rfl 12 (by kernel_rfl)
        have he12 := HT.h12 e12
        subst he12
        have d13 : b13 = true := ready_dep hi rfl 13 (by kernel_rfl)
        have hd13 := HT.h13 d13
        subst hd13
        have d14 : b14 = true := ready_dep hi rfl 14 (by kernel_rfl)
        have hd14 := HT.h14 d14
        subst hd14
        have HTb := Lib.hid HT.bel
        have HC := Lib.hid (HFR.out w' HTb.out)
        clear HT
        refine wpOp_want rfl 12 true rfl rfl (fun K hK => ?_)
        go_simp
        refine HC.out.mono ?_
        rintro e w2 ⟨ob, rfl, hown, hb⟩
        have hc := OwnB.cell hown hjn
        rw [blL_bx _ hjn, HBT.out] at hc
        have hol : ob < w2.heap.size := by
         rcases hown.2 with ⟨h, _⟩ | ⟨g', _, _, h, _, hh, _⟩
         ·cases h
         ·cases h; exact heapE_lt hh
        exact hK.out _ _ (.mk b0 b1 b2 b3 b4 b5 b6 b7 b8 b9 b10 b11 b12 b13 b14 true b16 b17 b18 b19 b20 b21 _ _ _ _ _ _ _ _ _ _ _ _ _ _ _ _ _ _ _ _ _ _ _ { HTH.out with bel := HTH.out.bel.trans (hb.mono HTH.out.bel.size), h15 := fun _ => ⟨ob, rfl, hol, hc⟩, h18 := fun h => (by obtain ⟨ob, e, h1, h2⟩ := (HTH.out.h18 h); exact ⟨ob, e, Nat.lt_of_lt_of_le h1 hb.size, (hb.cell (p := ⟨ob, j1, none⟩) h1).trans h2⟩) })
       | 16, _, hi, hib =>
        have e12 : b12 = true := ready_dep hi rfl 12 (by kernel_rfl)
        have he12 := HT.h12 e12
        subst he12
        clear HT
        refine wpOp_want rfl 12 true rfl rfl (fun K hK => ?_)
        go_simp
        exact hK.out _ _ (.mk b0 b1 b2 b3 b4 b5 b6 b7 b8 b9 b10 b11 b12 b13 b14 b15 true b17 b18 b19 b20 b21 _ _ _ _ _ _ _ _ _ _ _ _ _ _ _ _ _ _ _ _ _ _ _ { HTH.out with h16 := fun _ => rfl })
       | 17, _, hi, hib =>
        have e12 : b12 = true := ready_dep hi rfl 12 (by kernel_rfl)
        have he12 := HT.h12 e12
        subst he12
        have d16 : b16 = true := ready_dep hi rfl 16 (by kernel_rfl)
        have hd16 := HT.h16 d16
        subst hd16
        clear HT
        refine wpOp_want rfl 12 true rfl rfl (fun K hK => ?_)
        go_simp
        exact hK.out _ _ (.mk b0 b1 b2 b3 b4 b5 b6 b7 b8 b9 b10 b11 b12 b13 b14 b15 b16 true b18 b19 b20 b21 _ _ _ _ _ _ _ _ _ _ _ _ _ _ _ _ _ _ _ _ _ _ _ { HTH.out with h17 := fun _ => rfl })
       | 18, _, hi, hib =>
        have e12 : b12 = true := ready_dep hi rfl 12 (by kernel_rfl)
        have he12 := HT.h12 e12
        subst he12
        have d15 : b15 = true := ready_dep hi rfl 15 (by kernel_rfl)
        have HO15 := Lib.hid (HT.h15 d15)
        have d17 : b17 = true := ready_dep hi rfl 17 (by kernel_rfl)
        have hd17 := HT.h17 d17
        subst hd17
        obtain ⟨ob, e9, h9, c9⟩ := HO15.out
        subst e9
        clear HT
        refine wpOp_want rfl 12 true rfl rfl (fun K hK => ?_)
        go_simp
        exact hK.out _ _ (.mk b0 b1 b2 b3 b4 b5 b6 b7 b8 b9 b10 b11 b12 b13 b14 b15 b16 b17 true b19 b20 b21 _ _ _ _ _ _ _ _ _ _ _ _ _ _ _ _ _ _ _ _ _ _ _ { HTH.out with h18 := fun _ => ⟨ob, rfl, h9, c9⟩ })
       | 19, _, hi, hib =>
        have e12 : b12 = true := ready_dep hi rfl 12 (by kernel_rfl)
        have he12 := HT.h12 e12
        subst he12
        have d18 : b18 = true := ready_dep hi rfl 18 (by kernel_rfl)
        have HO18 := Lib.hid (HT.h18 d18)
        obtain ⟨ob, e9, h9, c9⟩ := HO18.out
        subst e9
        clear HT
        refine wpOp_want rfl 12 true rfl rfl (fun K hK => ?_)
        go_simp
        exact hK.out _ _ (.mk b0 b1 b2 b3 b4 b5 b6 b7 b8 b9 b10 b11 b12 b13 b14 b15 b16 b17 b18 true b20 b21 _ _ _ _ _ _ _ _ _ _ _ _ _ _ _ _ _ _ _ _ _ _ _ { HTH.out with h19 := fun _ => rfl })
       | 20, _, hi, hib =>
        have e12 : b12 = true := ready_dep hi rfl 12 (by kernel_rfl)
        have he12 := HT.h12 e12
        subst he12
        have d19 : b19 = true := ready_dep hi rfl 19 (by kernel_rfl)
        have hd19 := HT.h19 d19
        subst hd19
        clear HT
        refine wpOp_want rfl 12 true rfl rfl (fun K hK => ?_)
        go_simp
        exact hK.out _ _ (.mk b0 b1 b2 b3 b4 b5 b6 b7 b8 b9 b10 b11 b12 b13 b14 b15 b16 b17 b18 b19 true b21 _ _ _ _ _ _ _ _ _ _ _ _ _ _ _ _ _ _ _ _ _ _ _ { HTH.out with h20 := fun _ => rfl })
       | 21, _, hi, hib =>
        have d12 : b12 = true := ready_dep hi rfl 12 (by kernel_rfl)
        have hd12 := HT.h12 d12
        subst hd12
        have d20 : b20 = true := ready_dep hi rfl 20 (by kernel_rfl)
        have hd20 := HT.h20 d20
        subst hd20
        clear HT
        refine wpOp_one rfl rfl (fun K hK => ?_)
        go_simp
        exact hK.out _ _ (.mk b0 b1 b2 b3 b4 b5 b6 b7 b8 b9 b10 b11 b12 b13 b14 b15 b16 b17 b18 b19 b20 true _ _ _ _ _ _ _ _ _ _ _ _ _ _ _ _ _ _ _ _ _ _ _ { HTH.out with h21 := fun _ => rfl })
      case fin =>
       rintro lq a' w' ⟨b0, b1, b2, b3, b4, b5, b6, b7, b8, b9, b10, b11, b12, b13, b14, b15, b16, b17, b18, b19, b20, b21, v65, v66, v67, v68, v69, v70, v71, v72, v73, v74, v75, v76, v77, v78, v79, v80, v81, v82, v83, v84, v85, v86, _, HT⟩ hr
       obtain rfl : b0 = true := by
        cases b0 with
        | true => rfl
        | false => exact (ready_in 0 rfl rfl (by simp [Region.binds]) hr).elim
       obtain rfl : b1 = true := by
        cases b1 with
        | true => rfl
        | false => exact (ready_in 1 rfl rfl (by simp [Region.binds]) hr).elim
       obtain rfl : b2 = true := by
        cases b2 with
        | true => rfl
        | false => exact (ready_in 2 rfl rfl (by simp [Region.binds]) hr).elim
       obtain rfl : b3 = true := by
        cases b3 with
        | true => rfl
        | false => exact (ready_in 3 rfl rfl (by simp [Region.binds]) hr).elim
       obtain rfl : b4 = true := by
        cases b4 with
        | true => rfl
        | false => exact (ready_in 4 rfl rfl (by simp [Region.binds]) hr).elim
       obtain rfl : b5 = true := by
        cases b5 with
        | true => rfl
        | false => exact (ready_in 5 rfl rfl (by simp [Region.binds]) hr).elim
       obtain rfl : b6 = true := by
        cases b6 with
        | true => rfl
        | false => exact (ready_in 6 rfl rfl (by simp [Region.binds]) hr).elim
       obtain rfl : b7 = true := by
        cases b7 with
        | true => rfl
        | false => exact (ready_in 7 rfl rfl (by simp [Region.binds]) hr).elim
       obtain rfl : b8 = true := by
        cases b8 with
        | true => rfl
        | false => exact (ready_in 8 rfl rfl (by simp [Region.binds]) hr).elim
       obtain rfl : b9 = true := by
        cases b9 with
        | true => rfl
        | false => exact (ready_in 9 rfl rfl (by simp [Region.binds]) hr).elim
       obtain rfl : b10 = true := by
        cases b10 with
        | true => rfl
        | false => exact (ready_in 10 rfl rfl (by simp [Region.binds]) hr).elim
       obtain rfl : b11 = true := by
        cases b11 with
        | true => rfl
        | false => exact (ready_in 11 rfl rfl (by simp [Region.binds]) hr).elim
       obtain rfl : b12 = true := by
        cases b12 with
        | true => rfl
        | false => exact (ready_in 12 rfl rfl (by simp [Region.binds]) hr).elim
       obtain rfl : b13 = true := by
        cases b13 with
        | true => rfl
        | false => exact (ready_in 13 rfl rfl (by simp [Region.binds]) hr).elim
       obtain rfl : b14 = true := by
        cases b14 with
        | true => rfl
        | false => exact (ready_in 14 rfl rfl (by simp [Region.binds]) hr).elim
       obtain rfl : b15 = true := by
        cases b15 with
        | true => rfl
        | false => exact (ready_in 15 rfl rfl (by simp [Region.binds]) hr).elim
       obtain rfl : b16 = true := by
        cases b16 with
        | true => rfl
        | false => exact (ready_in 16 rfl rfl (by simp [Region.binds]) hr).elim
       obtain rfl : b17 = true := by
        cases b17 with
        | true => rfl
        | false => exact (ready_in 17 rfl rfl (by simp [Region.binds]) hr).elim
       obtain rfl : b18 = true := by
        cases b18 with
        | true => rfl
        | false => exact (ready_in 18 rfl rfl (by simp [Region.binds]) hr).elim
       obtain rfl : b19 = true := by
        cases b19 with
        | true => rfl
        | false => exact (ready_in 19 rfl rfl (by simp [Region.binds]) hr).elim
       obtain rfl : b20 = true := by
        cases b20 with
        | true => rfl
        | false => exact (ready_in 20 rfl rfl (by simp [Region.binds]) hr).elim
       obtain rfl : b21 = true := by
        cases b21 with
        | true => rfl
        | false => exact (ready_in 21 rfl rfl (by simp [Region.binds]) hr).elim
       have k0 := HT.h0 rfl
       subst k0
       have k1 := HT.h1 rfl
       subst k1
       have k2 := HT.h2 rfl
       subst k2
       have k3 := HT.h3 rfl
       subst k3
       have k4 := HT.h4 rfl
       subst k4
       have k5 := HT.h5 rfl
       subst k5
       have k6 := HT.h6 rfl
       subst k6
       have k7 := HT.h7 rfl
       subst k7
       have k8 := HT.h8 rfl
       subst k8
       have k9 := HT.h9 rfl
       subst k9
       have k10 := HT.h10 rfl
       subst k10
       have k11 := HT.h11 rfl
       subst k11
       have k12 := HT.h12 rfl
       subst k12
       have k13 := HT.h13 rfl
       subst k13
       have k14 := HT.h14 rfl
       subst k14
       have k16 := HT.h16 rfl
       subst k16
       have k17 := HT.h17 rfl
       subst k17
       have k19 := HT.h19 rfl
       subst k19
       have k20 := HT.h20 rfl
       subst k20
       have k21 := HT.h21 rfl
       subst k21
       have HBF := Lib.hid HT.bel
       clear HT hr
       obtain ⟨wf, hwf⟩ : ∃ Q, Q = w' := ⟨_, rfl⟩
       subst hwf
       have HB1 : Hid (Below V.heap.size V wf) := Lib.hid (HBi.out.trans (HBF.out.mono HBi.out.size))
       go_wp2_with fail
       go_roundw
       case rel => exact ⟨j1, by omega, rfl, HB1⟩
       case measure => have := HJ1.out; simp [intOf]; omega
     ·have e1 : (u == v) = false := by rw [beq_eq_false_iff_ne]; exact huv
      clear huv
      go_wp2_with fail
      go_quiet (fail)
      go_wp2_with fail
      go_roundw
      case rel => exact ⟨j1, by omega, rfl, Lib.hid (by first | exact HBi.out | exact Below.drewN' HBi.out _)⟩
      case measure => have := HJ1.out; simp [intOf]; omega
    ·have hd2 : decide ((j1 : Int) < (k : Int)) = false := by simp; omega
     have h1024 : DiP.one k ≤ 1024 := Nat.le_trans (Nat.pow_le_pow_right (by decide) hN) (by decide)
     have hk64 : k < 64 := by omega
     obtain ⟨ALL, HAL⟩ : ∃ q, Hid (DiP.one k = q) := ⟨_, Lib.hid rfl⟩
     rw [HAL.out] at h1024
     have hW1 : IntKind.u64.wrap (2 ^ min k 64) = (ALL : Int) := by
      rw [Nat.min_eq_left (by omega), shl_one, IntKind.wrap_u64, HAL.out]
      omega
     have hW2 : IntKind.u64.wrap (2 ^ k) = (ALL : Int) := by
      rw [shl_one, IntKind.wrap_u64, HAL.out]
      omega
     have hk0 : (0 : Int) ≤ (k : Int) := by omega
     go_wp2_with fail
     clear hW1 hW2
     go_loopw [11] (fun v wr => ∃ s : Nat, s ≤ ALL ∧ v = .int .u64 (s : Int) ∧ Hid (Below V.heap.size V wr)) (fun v _ => ALL - (intOf v).toNat)
     case atStart => exact ⟨0, Nat.zero_le _, rfl, HBi⟩
     case round =>
      obtain ⟨wj, hwj⟩ : ∃ x, x = wr := ⟨_, rfl⟩
      subst hwj
      obtain ⟨s, hs, rfl, HBj⟩ := hrel
      have HWj : Hid (Below W.heap.size W wj) := Lib.hid (HWV.out.trans (HBj.out.mono HWV.out.size))
      by_cases hsa : s < ALL
      ·have hd3 : decide ((s : Int) < (ALL : Int)) = true := by simp; omega
       have hadd3 : IntKind.u64.wrap ((s : Int) + 1) = ((s + 1 : Nat) : Int) := by rw [IntWalk.u64_in _ (by omega)]; omega
       have HSLM : Hid (s < lim) := Lib.hid (by unfold lim; omega)
       have HC1 := Lib.hid (fun (Z : World) (hZ : Below wj.heap.size wj Z) => refClosed_any (w := Z) (c := cE) (s := s) (HE.out.below ((HWj.out.trans (hZ.mono HWj.out.size)).mono LE.out)) HIN.out (by omega) hM (Nat.le_trans LE.out (HWj.out.trans (hZ.mono HWj.out.size)).size) HSLM.out)
       have HCEL := Lib.hid (fun (Z : World) (hZ : Below wj.heap.size wj Z) => And.intro (row1f ((hZ.block w.heap.size (by have := heapE_lt H0.out; have := HWj.out.size; omega)).trans ((HWj.out.block w.heap.size (heapE_lt H0.out)).trans H0.out))).1 (And.intro (row4 ((hZ.block (w.heap.size + 1) (by have := heapE_lt H1.out; have := HWj.out.size; omega)).trans ((HWj.out.block (w.heap.size + 1) (heapE_lt H1.out)).trans H1.out))) (And.intro (row2 ((hZ.block U.heap.size (by have := heapE_lt KV.out; have := HBj.out.size; omega)).trans ((HBj.out.block U.heap.size (heapE_lt KV.out)).trans KV.out))).1 (row2 ((hZ.block U.heap.size (by have := heapE_lt KV.out; have := HBj.out.size; omega)).trans ((HBj.out.block U.heap.size (heapE_lt KV.out)).trans KV.out))).2.1)))
       cases hcl : closedB G s with
       | false =>
        have HCLV : Hid (closedB G s = false) := Lib.hid hcl
        clear hcl
        go_wp2_with fail
        refine wp_region_inv (by kernel_rfl) (I := TaJ wj A AF AT AS AE n c cF cT k cS M cE s l fs ts S _ _ _ _ _ _ _ _ _ _ _ _ _ _ _ _ _ _ _ _ _ _ _ _ _ _ _ _ _ _ _ _ _ _ _ _ _ _ _ _ _ _ _ _ _ _ _ _ _ _ _ _ _ _ _ _ _ _ _ _ _ _ _ _ _ _ _ _ _ _ _ _ _ _ _ _ _ _ _ _ _ _ _ _ _ _ _ _ _ _ _ _ _ _ _) (.mk false false false false false false false false false false false false _ _ _ _ _ _ _ _ _ _ _ _ _ ⟨(Below.refl _ wj).drew, nofun, nofun, nofun, nofun, nofun, nofun, nofun, nofun, nofun, nofun, nofun, nofun⟩) ?step ?fin
        case step =>
         rintro lq a' w' ix ⟨b0, b1, b2, b3, b4, b5, b6, b7, b8, b9, b10, b11, v95, v96, v97, v98, v99, v100, v101, v102, v103, v104, v105, v106, _, HT⟩ hi
         obtain ⟨hi_, hib⟩ := ready_lt hi
         have HTH := Lib.hid HT
         match ix, hi_, hi, hib with
         | 0, _, hi, hib =>
          have HTb := Lib.hid HT.bel
          obtain ⟨x0, ⟨y0, y1, y2, y3⟩, g0, g1⟩ := HCEL.out w' HTb.out
          clear HT
          refine wpOp_one rfl rfl (fun K hK => ?_)
          go_simp
          exact hK.out _ _ (.mk true b1 b2 b3 b4 b5 b6 b7 b8 b9 b10 b11 _ _ _ _ _ _ _ _ _ _ _ _ _ { HTH.out with h0 := fun _ => rfl })
         | 1, _, hi, hib =>
          clear HT
          refine wpOp_one rfl rfl (fun K hK => ?_)
          go_simp
          exact hK.out _ _ (.mk b0 true b2 b3 b4 b5 b6 b7 b8 b9 b10 b11 _ _ _ _ _ _ _ _ _ _ _ _ _ { HTH.out with h1 := fun _ => rfl })
         | 2, _, hi, hib =>
          have d0 : b0 = true := ready_dep hi rfl 0 (by kernel_rfl)
          have hd0 := HT.h0 d0
          subst hd0
          have d1 : b1 = true := ready_dep hi rfl 1 (by kernel_rfl)
          have hd1 := HT.h1 d1
          subst hd1
          have HTb := Lib.hid HT.bel
          have HC := Lib.hid (HC1.out w' HTb.out)
          rw [HCLV.out] at HC
          clear HT
          refine wpOp_one rfl rfl (fun K hK => ?_)
          go_simp
          refine HC.out.mono ?_
          rintro e w2 ⟨rfl, hb⟩
          exact hK.out _ _ (.mk b0 b1 true b3 b4 b5 b6 b7 b8 b9 b10 b11 _ _ _ _ _ _ _ _ _ _ _ _ _ { HTH.out with bel := HTH.out.bel.trans (hb.mono HTH.out.bel.size), h2 := fun _ => rfl })
         | 3, _, hi, hib =>
          have d2 : b2 = true := ready_dep hi rfl 2 (by kernel_rfl)
          have hd2 := HT.h2 d2
          subst hd2
          clear HT
          refine wpOp_one rfl rfl (fun K hK => ?_)
          go_simp
          exact hK.out _ _ (.mk b0 b1 b2 true b4 b5 b6 b7 b8 b9 b10 b11 _ _ _ _ _ _ _ _ _ _ _ _ _ { HTH.out with h3 := fun _ => rfl })
         | 4, _, hi, hib =>
          have e3 : b3 = true := ready_dep hi rfl 3 (by kernel_rfl)
          have he3 := HT.h3 e3
          subst he3
          refine wpOp_skip rfl 3 true rfl rfl ?_
          exact .mk b0 b1 b2 b3 true b5 b6 b7 b8 b9 b10 b11 _ _ _ _ _ _ _ _ _ _ _ _ _ { HT with h4 := fun _ => rfl }
         | 5, _, hi, hib =>
          have e3 : b3 = true := ready_dep hi rfl 3 (by kernel_rfl)
          have he3 := HT.h3 e3
          subst he3
          refine wpOp_skip rfl 3 true rfl rfl ?_
          exact .mk b0 b1 b2 b3 b4 true b6 b7 b8 b9 b10 b11 _ _ _ _ _ _ _ _ _ _ _ _ _ { HT with h5 := fun _ => rfl }
         | 6, _, hi, hib =>
          have e3 : b3 = true := ready_dep hi rfl 3 (by kernel_rfl)
          have he3 := HT.h3 e3
          subst he3
          refine wpOp_skip rfl 3 true rfl rfl ?_
          exact .mk b0 b1 b2 b3 b4 b5 true b7 b8 b9 b10 b11 _ _ _ _ _ _ _ _ _ _ _ _ _ { HT with h6 := fun _ => rfl }
         | 7, _, hi, hib =>
          have e3 : b3 = true := ready_dep hi rfl 3 (by kernel_rfl)
          have he3 := HT.h3 e3
          subst he3
          refine wpOp_skip rfl 3 true rfl rfl ?_
          exact .mk b0 b1 b2 b3 b4 b5 b6 true b8 b9 b10 b11 _ _ _ _ _ _ _ _ _ _ _ _ _ { HT with h7 := fun _ => rfl }
         | 8, _, hi, hib =>
          have e3 : b3 = true := ready_dep hi rfl 3 (by kernel_rfl)
          have he3 := HT.h3 e3
          subst he3
          refine wpOp_skip rfl 3 true rfl rfl ?_
          exact .mk b0 b1 b2 b3 b4 b5 b6 b7 true b9 b10 b11 _ _ _ _ _ _ _ _ _ _ _ _ _ { HT with h8 := fun _ => rfl }
         | 9, _, hi, hib =>
          have e3 : b3 = true := ready_dep hi rfl 3 (by kernel_rfl)
          have he3 := HT.h3 e3
          subst he3
          refine wpOp_skip rfl 3 true rfl rfl ?_
          exact .mk b0 b1 b2 b3 b4 b5 b6 b7 b8 true b10 b11 _ _ _ _ _ _ _ _ _ _ _ _ _ { HT with h9 := fun _ => rfl }
         | 10, _, hi, hib =>
          have e3 : b3 = true := ready_dep hi rfl 3 (by kernel_rfl)
          have he3 := HT.h3 e3
          subst he3
          refine wpOp_skip rfl 3 true rfl rfl ?_
          exact .mk b0 b1 b2 b3 b4 b5 b6 b7 b8 b9 true b11 _ _ _ _ _ _ _ _ _ _ _ _ _ { HT with h10 := fun _ => rfl }
         | 11, _, hi, hib =>
          have d3 : b3 = true := ready_dep hi rfl 3 (by kernel_rfl)
          have hd3 := HT.h3 d3
          subst hd3
          have d10 : b10 = true := ready_dep hi rfl 10 (by kernel_rfl)
          have hd10 := HT.h10 d10
          subst hd10
          clear HT
          refine wpOp_one rfl rfl (fun K hK => ?_)
          go_simp
          exact hK.out _ _ (.mk b0 b1 b2 b3 b4 b5 b6 b7 b8 b9 b10 true _ _ _ _ _ _ _ _ _ _ _ _ _ { HTH.out with h11 := fun _ => rfl })
        case fin =>
         rintro lq a' w' ⟨b0, b1, b2, b3, b4, b5, b6, b7, b8, b9, b10, b11, v95, v96, v97, v98, v99, v100, v101, v102, v103, v104, v105, v106, _, HT⟩ hr
         obtain rfl : b0 = true := by
          cases b0 with
          | true => rfl
          | false => exact (ready_in 0 rfl rfl (by simp [Region.binds]) hr).elim
         obtain rfl : b1 = true := by
          cases b1 with
          | true => rfl
          | false => exact (ready_in 1 rfl rfl (by simp [Region.binds]) hr).elim
         obtain rfl : b2 = true := by
          cases b2 with
          | true => rfl
          | false => exact (ready_in 2 rfl rfl (by simp [Region.binds]) hr).elim
         obtain rfl : b3 = true := by
          cases b3 with
          | true => rfl
          | false => exact (ready_in 3 rfl rfl (by simp [Region.binds]) hr).elim
         obtain rfl : b4 = true := by
          cases b4 with
          | true => rfl
          | false => exact (ready_in 4 rfl rfl (by simp [Region.binds]) hr).elim
         obtain rfl : b5 = true := by
          cases b5 with
          | true => rfl
          | false => exact (ready_in 5 rfl rfl (by simp [Region.binds]) hr).elim
         obtain rfl : b6 = true := by
          cases b6 with
          | true => rfl
          | false => exact (ready_in 6 rfl rfl (by simp [Region.binds]) hr).elim
         obtain rfl : b7 = true := by
          cases b7 with
          | true => rfl
          | false => exact (ready_in 7 rfl rfl (by simp [Region.binds]) hr).elim
         obtain rfl : b8 = true := by
          cases b8 with
          | true => rfl
          | false => exact (ready_in 8 rfl rfl (by simp [Region.binds]) hr).elim
         obtain rfl : b9 = true := by
          cases b9 with
          | true => rfl
          | false => exact (ready_in 9 rfl rfl (by simp [Region.binds]) hr).elim
         obtain rfl : b10 = true := by
          cases b10 with
          | true => rfl
          | false => exact (ready_in 10 rfl rfl (by simp [Region.binds]) hr).elim
         obtain rfl : b11 = true := by
          cases b11 with
          | true => rfl
          | false => exact (ready_in 11 rfl rfl (by simp [Region.binds]) hr).elim
         have k0 := HT.h0 rfl
         subst k0
         have k1 := HT.h1 rfl
         subst k1
         have k2 := HT.h2 rfl
         subst k2
         have k3 := HT.h3 rfl
         subst k3
         have k4 := HT.h4 rfl
         subst k4
         have k5 := HT.h5 rfl
         subst k5
         have k6 := HT.h6 rfl
         subst k6
         have k7 := HT.h7 rfl
         subst k7
         have k8 := HT.h8 rfl
         subst k8
         have k9 := HT.h9 rfl
         subst k9
         have k10 := HT.h10 rfl
         subst k10
         have k11 := HT.h11 rfl
         subst k11
         have HBZ := Lib.hid HT.bel
         clear HT hr
         obtain ⟨Q, hQ⟩ : ∃ Q, Q = w' := ⟨_, rfl⟩
         subst hQ
         have HBQ : Hid (Below V.heap.size V Q) := Lib.hid (HBj.out.trans (HBZ.out.mono HBj.out.size))
         go_wp2_with fail
         go_roundw
         case rel => exact ⟨s + 1, by omega, by go_num, HBQ⟩
         case measure => simp [intOf]; omega
       | true =>
        have HCLV : Hid (closedB G s = true) := Lib.hid hcl
        clear hcl
        have HGS : Hid (goodC l (plL l fs ts S s) = true) := Lib.hid (by
         have h := good_closed (s := s) HLV.out HSM.out HCE.out (by rw [HSS.out, HGG.out]; exact clo_ofQ HCLV.out)
         rw [HSS.out] at h; exact h)
        have HC2 := Lib.hid (fun (Z : World) (hZ : Below wj.heap.size wj Z) => fleetQ_any (w := Z) (s := s) (c := c) (cF := cF) (cT := cT) (cS := cS) (nE := M) (cE := cE) (AE := AE) (HA.out.below (HWj.out.trans (hZ.mono HWj.out.size))) HLV.out (HF.out.below ((HWj.out.trans (hZ.mono HWj.out.size)).mono LF.out)) (HT.out.below ((HWj.out.trans (hZ.mono HWj.out.size)).mono LT.out)) (HS.out.below ((HWj.out.trans (hZ.mono HWj.out.size)).mono LS.out) LS.out) (Nat.le_trans LF.out (HWj.out.trans (hZ.mono HWj.out.size)).size) (Nat.le_trans LT.out (HWj.out.trans (hZ.mono HWj.out.size)).size) (Nat.le_trans LS.out (HWj.out.trans (hZ.mono HWj.out.size)).size) (by rw [← HSS.out]; exact stepsOK) HSF.out HST.out HSLM.out (by omega))
        have HC4 := Lib.hid (fun (Z : World) (hZ : Below wj.heap.size wj Z) (A9 : Option Addr) (c9 : Nat) (hpr : PrR Z A9 n (plL l fs ts S s)) => goodR_any (w := Z) (c := c) (c2 := c9) (HA.out.below (HWj.out.trans (hZ.mono HWj.out.size))) HLV.out (by rw [← HSS.out]; exact rel_fleetQ HLV.out HSM.out HSF.out HST.out) hpr)
        rw [HGS.out] at HC4
        go_wp2_with fail
        refine wp_region_inv (by kernel_rfl) (I := TbJ wj A AF AT AS AE n c cF cT k cS M cE s l fs ts S _ _ _ _ _ _ _ _ _ _ _ _ _ _ _ _ _ _ _ _ _ _ _ _ _ _ _ _ _ _ _ _ _ _ _ _ _ _ _ _ _ _ _ _ _ _ _ _ _ _ _ _ _ _ _ _ _ _ _ _ _ _ _ _ _ _ _ _ _ _ _ _ _ _ _ _ _ _ _ _ _ _ _ _ _ _ _ _ _ _ _ _ _ _ _) (.mk false false false false false false false false false false false false _ _ _ _ _ _ _ _ _ _ _ _ _ ⟨(Below.refl _ wj).drew, nofun, nofun, nofun, nofun, nofun, nofun, nofun, nofun, nofun, nofun, nofun, nofun⟩) ?step ?fin
        case step =>
         rintro lq a' w' ix ⟨b0, b1, b2, b3, b4, b5, b6, b7, b8, b9, b10, b11, v95, v96, v97, v98, v99, v100, v101, v102, v103, v104, v105, v106, _, HT⟩ hi
         obtain ⟨hi_, hib⟩ := ready_lt hi
         have HTH := Lib.hid HT
         match ix, hi_, hi, hib with
         | 0, _, hi, hib =>
          have HTb := Lib.hid HT.bel
          obtain ⟨x0, ⟨y0, y1, y2, y3⟩, g0, g1⟩ := HCEL.out w' HTb.out
          clear HT
          refine wpOp_one rfl rfl (fun K hK => ?_)
          go_simp
          exact hK.out _ _ (.mk true b1 b2 b3 b4 b5 b6 b7 b8 b9 b10 b11 _ _ _ _ _ _ _ _ _ _ _ _ _ { HTH.out with h0 := fun _ => rfl })
         | 1, _, hi, hib =>
          clear HT
          refine wpOp_one rfl rfl (fun K hK => ?_)
          go_simp
          exact hK.out _ _ (.mk b0 true b2 b3 b4 b5 b6 b7 b8 b9 b10 b11 _ _ _ _ _ _ _ _ _ _ _ _ _ { HTH.out with h1 := fun _ => rfl })
         | 2, _, hi, hib =>
          have d0 : b0 = true := ready_dep hi rfl 0 (by kernel_rfl)
          have hd0 := HT.h0 d0
          subst hd0
          have d1 : b1 = true := ready_dep hi rfl 1 (by kernel_rfl)
          have hd1 := HT.h1 d1
          subst hd1
          have HTb := Lib.hid HT.bel
          have HC := Lib.hid (HC1.out w' HTb.out)
          rw [HCLV.out] at HC
          clear HT
          refine wpOp_one rfl rfl (fun K hK => ?_)
          go_simp
          refine HC.out.mono ?_
          rintro e w2 ⟨rfl, hb⟩
          exact hK.out _ _ (.mk b0 b1 true b3 b4 b5 b6 b7 b8 b9 b10 b11 _ _ _ _ _ _ _ _ _ _ _ _ _ { HTH.out with bel := HTH.out.bel.trans (hb.mono HTH.out.bel.size), h2 := fun _ => rfl, h8 := fun h => (by obtain ⟨A', c', e, r⟩ := (HTH.out.h8 h); exact ⟨A', c', e, r.below hb⟩) })
         | 3, _, hi, hib =>
          have d2 : b2 = true := ready_dep hi rfl 2 (by kernel_rfl)
          have hd2 := HT.h2 d2
          subst hd2
          clear HT
          refine wpOp_one rfl rfl (fun K hK => ?_)
          go_simp
          exact hK.out _ _ (.mk b0 b1 b2 true b4 b5 b6 b7 b8 b9 b10 b11 _ _ _ _ _ _ _ _ _ _ _ _ _ { HTH.out with h3 := fun _ => rfl })
         | 4, _, hi, hib =>
          have e3 : b3 = true := ready_dep hi rfl 3 (by kernel_rfl)
          have he3 := HT.h3 e3
          subst he3
          have HTb := Lib.hid HT.bel
          obtain ⟨x0, ⟨y0, y1, y2, y3⟩, g0, g1⟩ := HCEL.out w' HTb.out
          clear HT
          refine wpOp_want rfl 3 true rfl rfl (fun K hK => ?_)
          go_simp
          exact hK.out _ _ (.mk b0 b1 b2 b3 true b5 b6 b7 b8 b9 b10 b11 _ _ _ _ _ _ _ _ _ _ _ _ _ { HTH.out with h4 := fun _ => rfl })
         | 5, _, hi, hib =>
          have e3 : b3 = true := ready_dep hi rfl 3 (by kernel_rfl)
          have he3 := HT.h3 e3
          subst he3
          have HTb := Lib.hid HT.bel
          obtain ⟨x0, ⟨y0, y1, y2, y3⟩, g0, g1⟩ := HCEL.out w' HTb.out
          clear HT
          refine wpOp_want rfl 3 true rfl rfl (fun K hK => ?_)
          go_simp
          exact hK.out _ _ (.mk b0 b1 b2 b3 b4 true b6 b7 b8 b9 b10 b11 _ _ _ _ _ _ _ _ _ _ _ _ _ { HTH.out with h5 := fun _ => rfl })
         | 6, _, hi, hib =>
          have e3 : b3 = true := ready_dep hi rfl 3 (by kernel_rfl)
          have he3 := HT.h3 e3
          subst he3
          have HTb := Lib.hid HT.bel
          obtain ⟨x0, ⟨y0, y1, y2, y3⟩, g0, g1⟩ := HCEL.out w' HTb.out
          clear HT
          refine wpOp_want rfl 3 true rfl rfl (fun K hK => ?_)
          go_simp
          exact hK.out _ _ (.mk b0 b1 b2 b3 b4 b5 true b7 b8 b9 b10 b11 _ _ _ _ _ _ _ _ _ _ _ _ _ { HTH.out with h6 := fun _ => rfl })
         | 7, _, hi, hib =>
          have e3 : b3 = true := ready_dep hi rfl 3 (by kernel_rfl)
          have he3 := HT.h3 e3
          subst he3
          clear HT
          refine wpOp_want rfl 3 true rfl rfl (fun K hK => ?_)
          go_simp
          exact hK.out _ _ (.mk b0 b1 b2 b3 b4 b5 b6 true b8 b9 b10 b11 _ _ _ _ _ _ _ _ _ _ _ _ _ { HTH.out with h7 := fun _ => rfl })
         | 8, _, hi, hib =>
          have e3 : b3 = true := ready_dep hi rfl 3 (by kernel_rfl)
          have he3 := HT.h3 e3
          subst he3
          have d5 : b5 = true := ready_dep hi rfl 5 (by kernel_rfl)
          have hd5 := HT.h5 d5
          subst hd5
          have d6 : b6 = true := ready_dep hi rfl 6 (by kernel_rfl)
          have hd6 := HT.h6 d6
          subst hd6
          have d7 : b7 = true := ready_dep hi rfl 7 (by kernel_rfl)
          have hd7 := HT.h7 d7
          subst hd7
          have HTb := Lib.hid HT.bel
          have HC := Lib.hid (HC2.out w' HTb.out)
          clear HT
          refine wpOp_want rfl 3 true rfl rfl (fun K hK => ?_)
          go_simp
          refine HC.out.mono ?_
          rintro e w2 ⟨A9, c9, rfl, hpr, hb⟩
          exact hK.out _ _ (.mk b0 b1 b2 b3 b4 b5 b6 b7 true b9 b10 b11 _ _ _ _ _ _ _ _ _ _ _ _ _ { HTH.out with bel := HTH.out.bel.trans (hb.mono HTH.out.bel.size), h8 := fun _ => ⟨A9, c9, rfl, hpr⟩ })
         | 9, _, hi, hib =>
          have e3 : b3 = true := ready_dep hi rfl 3 (by kernel_rfl)
          have he3 := HT.h3 e3
          subst he3
          have d4 : b4 = true := ready_dep hi rfl 4 (by kernel_rfl)
          have hd4 := HT.h4 d4
          subst hd4
          have d8 : b8 = true := ready_dep hi rfl 8 (by kernel_rfl)
          have HO8 := Lib.hid (HT.h8 d8)
          have HTb := Lib.hid HT.bel
          obtain ⟨A9, c9, e9, hr9⟩ := HO8.out
          subst e9
          have HC := Lib.hid (HC4.out w' HTb.out _ c9 hr9)
          clear HT
          refine wpOp_want rfl 3 true rfl rfl (fun K hK => ?_)
          go_simp
          refine HC.out.mono ?_
          rintro e w2 ⟨rfl, hb⟩
          exact hK.out _ _ (.mk b0 b1 b2 b3 b4 b5 b6 b7 b8 true b10 b11 _ _ _ _ _ _ _ _ _ _ _ _ _ { HTH.out with bel := HTH.out.bel.trans (hb.mono HTH.out.bel.size), h9 := fun _ => rfl, h8 := fun h => (by obtain ⟨A', c', e, r⟩ := (HTH.out.h8 h); exact ⟨A', c', e, r.below hb⟩) })
         | 10, _, hi, hib =>
          have e3 : b3 = true := ready_dep hi rfl 3 (by kernel_rfl)
          have he3 := HT.h3 e3
          subst he3
          have d9 : b9 = true := ready_dep hi rfl 9 (by kernel_rfl)
          have hd9 := HT.h9 d9
          subst hd9
          clear HT
          refine wpOp_want rfl 3 true rfl rfl (fun K hK => ?_)
          go_simp
          exact hK.out _ _ (.mk b0 b1 b2 b3 b4 b5 b6 b7 b8 b9 true b11 _ _ _ _ _ _ _ _ _ _ _ _ _ { HTH.out with h10 := fun _ => rfl })
         | 11, _, hi, hib =>
          have d3 : b3 = true := ready_dep hi rfl 3 (by kernel_rfl)
          have hd3 := HT.h3 d3
          subst hd3
          have d10 : b10 = true := ready_dep hi rfl 10 (by kernel_rfl)
          have hd10 := HT.h10 d10
          subst hd10
          clear HT
          refine wpOp_one rfl rfl (fun K hK => ?_)
          go_simp
          exact hK.out _ _ (.mk b0 b1 b2 b3 b4 b5 b6 b7 b8 b9 b10 true _ _ _ _ _ _ _ _ _ _ _ _ _ { HTH.out with h11 := fun _ => rfl })
        case fin =>
         rintro lq a' w' ⟨b0, b1, b2, b3, b4, b5, b6, b7, b8, b9, b10, b11, v95, v96, v97, v98, v99, v100, v101, v102, v103, v104, v105, v106, _, HT⟩ hr
         obtain rfl : b0 = true := by
          cases b0 with
          | true => rfl
          | false => exact (ready_in 0 rfl rfl (by simp [Region.binds]) hr).elim
         obtain rfl : b1 = true := by
          cases b1 with
          | true => rfl
          | false => exact (ready_in 1 rfl rfl (by simp [Region.binds]) hr).elim
         obtain rfl : b2 = true := by
          cases b2 with
          | true => rfl
          | false => exact (ready_in 2 rfl rfl (by simp [Region.binds]) hr).elim
         obtain rfl : b3 = true := by
          cases b3 with
          | true => rfl
          | false => exact (ready_in 3 rfl rfl (by simp [Region.binds]) hr).elim
         obtain rfl : b4 = true := by
          cases b4 with
          | true => rfl
          | false => exact (ready_in 4 rfl rfl (by simp [Region.binds]) hr).elim
         obtain rfl : b5 = true := by
          cases b5 with
          | true => rfl
          | false => exact (ready_in 5 rfl rfl (by simp [Region.binds]) hr).elim
         obtain rfl : b6 = true := by
          cases b6 with
          | true => rfl
          | false => exact (ready_in 6 rfl rfl (by simp [Region.binds]) hr).elim
         obtain rfl : b7 = true := by
          cases b7 with
          | true => rfl
          | false => exact (ready_in 7 rfl rfl (by simp [Region.binds]) hr).elim
         obtain rfl : b8 = true := by
          cases b8 with
          | true => rfl
          | false => exact (ready_in 8 rfl rfl (by simp [Region.binds]) hr).elim
         obtain rfl : b9 = true := by
          cases b9 with
          | true => rfl
          | false => exact (ready_in 9 rfl rfl (by simp [Region.binds]) hr).elim
         obtain rfl : b10 = true := by
          cases b10 with
          | true => rfl
          | false => exact (ready_in 10 rfl rfl (by simp [Region.binds]) hr).elim
         obtain rfl : b11 = true := by
          cases b11 with
          | true => rfl
          | false => exact (ready_in 11 rfl rfl (by simp [Region.binds]) hr).elim
         have k0 := HT.h0 rfl
         subst k0
         have k1 := HT.h1 rfl
         subst k1
         have k2 := HT.h2 rfl
         subst k2
         have k3 := HT.h3 rfl
         subst k3
         have k4 := HT.h4 rfl
         subst k4
         have k5 := HT.h5 rfl
         subst k5
         have k6 := HT.h6 rfl
         subst k6
         have k7 := HT.h7 rfl
         subst k7
         have k9 := HT.h9 rfl
         subst k9
         have k10 := HT.h10 rfl
         subst k10
         have k11 := HT.h11 rfl
         subst k11
         have HBZ := Lib.hid HT.bel
         clear HT hr
         obtain ⟨Q, hQ⟩ : ∃ Q, Q = w' := ⟨_, rfl⟩
         subst hQ
         have HBQ : Hid (Below V.heap.size V Q) := Lib.hid (HBj.out.trans (HBZ.out.mono HBj.out.size))
         go_wp2_with fail
         go_roundw
         case rel => exact ⟨s + 1, by omega, by go_num, HBQ⟩
         case measure => simp [intOf]; omega
      ·have hd3 : decide ((s : Int) < (ALL : Int)) = false := by simp; omega
       go_wp2_with fail
       exact bodyPost_ret (results_tmp rfl _ _ _) rfl ⟨rfl, HBL.out.trans (HWj.out.mono HBL.out.size)⟩
end Go.Proofs.YtminihiecloglaaGreat
