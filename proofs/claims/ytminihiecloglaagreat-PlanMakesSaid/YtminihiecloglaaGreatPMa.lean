/-
  MERGED: PRs PMu PMq.
-/
import Derived.Test.YtminihiecloglaaGreatPRi
import Derived.Test.YtminihiecloglaaGreatPMl
import Derived.Test.YtminihiecloglaaGreatPMk
import Derived.Test.YtminihiecloglaaGreatPGe
namespace Go.Proofs.YtminihiecloglaaGreat
open Go.RowKit
open SemP FlP GaP DiP
set_option linter.unusedVariables false
set_option linter.unusedSimpArgs false
set_option maxRecDepth 10000
theorem infoRS : (Tryz.prog.info? 111).map (fun i => (i.zero, i.size, i.bytes)) = some (some (.agg #[.int .i64 0, .int .i64 0]), 2, 16) := by kernel_rfl
set_option maxHeartbeats 16000000 in
theorem stepsR_any {w : World} {B B2 B3 n c m c2 m3 c3 : Nat} {A A2 A3 : Option Addr} {l : List Sv} {fs ts : List Int} (h : CatAt w B A n c l) (hlv : LevOK l) (hf : Rd w B2 A2 m fs) (ht : Rd w B3 A3 m3 ts) (hB2 : B2 ≤ w.heap.size) (hB3 : B3 ≤ w.heap.size) (hsf : setB l fs = true) (hst : setB l ts = true) (hri : ∀ i, i < fs.length → 0 ≤ rise l fs ts i) :
    Calls Tryz.prog 24 #[.agg #[.slice A n c], .slice A2 m c2, .slice A3 m3 c3] w fun e w' => ∃ v, e = .returned v ∧ OwnF 111 2 spF w' w.heap.size v (stL l fs ts) ∧ Below w.heap.size w w' := by
  obtain ⟨W, HW⟩ : ∃ W, Hid (W = w.alloc (.cells #[.slice A n c] 29)) := ⟨_, Lib.hid rfl⟩
  have hbl : Below w.heap.size w W := by rw [HW.out]; exact (Below.refl _ w).alloc (Nat.le_refl _) _
  have H0 : Hid (W.heap[w.heap.size]? = some (.cells #[.slice A n c] 29 (0, 0))) := Lib.hid (by rw [HW.out]; exact heap_new w _)
  have HBL := Lib.hid hbl
  have HA := Lib.hid (h.below hbl)
  have HF := Lib.hid (hf.below (hbl.mono hB2))
  have HT := Lib.hid (ht.below (hbl.mono hB3))
  have HB2 : Hid (B2 ≤ W.heap.size) := Lib.hid (Nat.le_trans hB2 hbl.size)
  have HB3 : Hid (B3 ≤ W.heap.size) := Lib.hid (Nat.le_trans hB3 hbl.size)
  have HLV := Lib.hid hlv
  have HSF := Lib.hid hsf
  have HST := Lib.hid hst
  have HRI := Lib.hid hri
  have HML : Hid (fs.length = m) := Lib.hid hf.len
  have hmn : m = n := by rw [← hf.len, ← h.rd.1]; exact (setB_iff.1 hsf).1
  have hm3n : m3 = n := by rw [← ht.len, ← h.rd.1]; exact (setB_iff.1 hst).1
  have hn16 := h.n16
  subst hmn
  subst hm3n
  clear h hf ht hbl hlv hsf hst hB2 hB3 hri
  obtain ⟨x0, _⟩ := row1f H0.out
  go_enter Tryz.func24, Tryz.ntmps24
  go_upto_region 1 with fail
  change Code.wp _ _ _ _ (w.alloc (.cells #[.slice A m3 c] 29))
  rw [← HW.out]
  go_wp2_with fail
  clear x0
  go_loopw [7, 8] (fun v i wr => ∃ k : Nat, k ≤ m3 ∧ i = .int .i64 (k : Int) ∧ Hid (OwnF 111 2 spF wr W.heap.size v (stK l fs ts k)) ∧ Hid (Below W.heap.size W wr)) (fun _ i _ => m3 - (intOf i).toNat)
  case atStart => exact ⟨0, Nat.zero_le _, rfl, Lib.hid (OwnF.nil_ _ _ _ _ _), Lib.hid (Below.refl _ _)⟩
  case round =>
    obtain ⟨wo, hwo⟩ : ∃ x, x = wr := ⟨_, rfl⟩
    subst hwo
    obtain ⟨k, hk, rfl, HO, HBo⟩ := hrel
    have hzo := HBo.out.size
    by_cases hkn : k < m3
    · have hd : decide ((k : Int) < (m3 : Int)) = true := by simp; omega
      have hki : (k : Int) < (m3 : Int) := by omega
      have hk0 : (0 : Int) ≤ (k : Int) := by omega
      have hadd : IntKind.i64.wrap ((k : Int) + 1) = ((k + 1 : Nat) : Int) := by rw [IntWalk.i64_in _ (by omega)]; omega
      have HSL : Hid ((stK l fs ts k).length ≤ 48) := Lib.hid (by have := stK_len l fs ts k; omega)
      obtain ⟨f1, f2⟩ := setB_iff.1 HSF.out
      obtain ⟨t1, t2⟩ := setB_iff.1 HST.out
      have hri := HRI.out k (by rw [HML.out]; exact hkn)
      obtain ⟨a0, vf, ea, evf, hal, hvf⟩ := isR_nat (f2 k (by rw [HML.out]; exact hkn))
      obtain rfl : k = a0 := by omega
      obtain ⟨a0, vt, ea2, evt, _, hvt⟩ := isR_nat (t2 k (by omega))
      obtain rfl : k = a0 := by omega
      have hA := HA.out.below HBo.out
      obtain ⟨b1, o1, Aj, nj, cj, hA1, hb1, _, k1, _, hrj⟩ := sv_at hA.rd hkn
      subst hA1
      have hnj : (svAt l k).2.length = nj := hrj.1
      obtain ⟨b2, o2, _, _, _, hA2, hb2, _, _, _, _, kf, _⟩ := rl_at hrj (i := vf) (by omega)
      subst hA2
      obtain ⟨b3, o3, _, _, _, hA3, hb3, _, _, _, _, kt, _⟩ := rl_at hrj (i := vt) (by omega)
      injection hA3 with hA3
      injection hA3 with e1 e2 _
      subst e1 e2
      obtain ⟨bf, of', hAf, hbf, cf⟩ := (HF.out.below (HBo.out.mono HB2.out)).at_ hkn
      subst hAf
      obtain ⟨bt', ot, hAt, hbt, ct⟩ := (HT.out.below (HBo.out.mono HB3.out)).at_ hkn
      subst hAt
      rw [evf] at cf
      rw [evt] at ct
      have e1 : (rlAt (svAt l k).2 vf).2.1 = levAt l k vf := rfl
      have e2 : (rlAt (svAt l k).2 vt).2.1 = levAt l k vt := rfl
      rw [e1] at kf
      rw [e2] at kt
      obtain ⟨L1, hL1⟩ : ∃ q, levAt l k vf = q := ⟨_, rfl⟩
      obtain ⟨L2, hL2⟩ : ∃ q, levAt l k vt = q := ⟨_, rfl⟩
      have hRS : rise l fs ts k = L2 - L1 := by unfold rise; rw [evf, evt, Int.toNat_natCast, Int.toNat_natCast, hL1, hL2]
      rw [hRS] at hri
      rw [hL1] at kf
      rw [hL2] at kt
      have HST2 : Hid (stAt l fs ts k = if (vf : Int) = (vt : Int) then [] else if L2 - L1 = 0 then [((k : Int), 2)] else [((k : Int), 1), ((k : Int), 2), ((k : Int), 3)]) := Lib.hid (by unfold stAt; rw [evf, evt, hRS])
      have hvfi : (vf : Int) < (nj : Int) := by omega
      have hvti : (vt : Int) < (nj : Int) := by omega
      have hvf0 : (0 : Int) ≤ (vf : Int) := by omega
      have hvt0 : (0 : Int) ≤ (vt : Int) := by omega
      obtain ⟨x0, _⟩ := row1f ((HBo.out.block w.heap.size (heapE_lt H0.out)).trans H0.out)
      clear hA hrj f2 t2 ea ea2 evf evt hL1 hL2 e1 e2 hRS
      by_cases hft : (vf : Int) = (vt : Int)
      · have e1 : ((vf : Int) == (vt : Int)) = true := by rw [beq_iff_eq]; exact hft
        have HNX : Hid (stK l fs ts (k + 1) = stK l fs ts k) := Lib.hid (by rw [stK_succ, HST2.out, if_pos hft]; simp)
        clear hft
        go_wp2_with fail
        go_quiet (fail)
        go_wp2_with fail
        go_roundw
        case rel => exact ⟨k + 1, by omega, by go_num, Lib.hid (by rw [HNX.out]; first | exact HO.out | exact HO.out.drewN _), Lib.hid (by first | exact HBo.out | exact Below.drewN' HBo.out _)⟩
        case measure => simp [intOf]; omega
      · have e1 : ((vf : Int) == (vt : Int)) = false := by rw [beq_eq_false_iff_ne]; exact hft
        by_cases hr0 : L1 < L2
        · have e2 : decide (L1 < L2) = true := decide_eq_true hr0
          have HNX : Hid (stK l fs ts (k + 1) = stK l fs ts k ++ [((k : Int), 1), ((k : Int), 2), ((k : Int), 3)]) := Lib.hid (by rw [stK_succ, HST2.out, if_neg hft, if_neg (by omega)])
          clear hft
          go_wp2_with fail
          go_quiet (fail)
          go_wp2_with fail
          go_quiet (fail)
          go_wp2_with (at_builtin; refine wplF_apps (f := spF) (fun _ => rfl) (fun x u hu => by simp [spF] at hu; rcases hu with rfl | rfl <;> rfl) Tryz.underlying39 infoRS rfl (by decide) (by decide) rfl (.tmp 51) (.tmp 58) rfl W.heap.size _ (stK l fs ts k) rfl ((HO.out.drewN _).alloc _) wo.heap.size 3 3 [((k : Int), 1), ((k : Int), 2), ((k : Int), 3)] rfl rfl (cells_of (heap_new _ _)) (by have := HSL.out; omega) (by simp; exact Nat.le_succ_of_le hzo) ?_; intro v' w2 hown2 hgr2 hat2; (have HB2' : Hid (Below W.heap.size W w2) := Lib.hid (((Below.drewN' HBo.out _).alloc hzo _).grown hgr2 (by simp; exact Nat.le_succ_of_le hzo) (HO.out.ge))); (have HO2 : Hid (OwnF 111 2 spF w2 W.heap.size v' (stK l fs ts (k + 1))) := Lib.hid (by rw [HNX.out]; exact hown2)); clear hown2 hgr2 hat2)
          go_roundw
          case rel => exact ⟨k + 1, by omega, by go_num, HO2, HB2'⟩
          case measure => simp [intOf]; omega
        · have e2 : decide (L1 < L2) = false := decide_eq_false hr0
          have HNX : Hid (stK l fs ts (k + 1) = stK l fs ts k ++ [((k : Int), 2)]) := Lib.hid (by rw [stK_succ, HST2.out, if_neg hft, if_pos (by omega)])
          clear hft
          go_wp2_with fail
          go_quiet (fail)
          go_wp2_with fail
          go_quiet (fail)
          go_wp2_with (at_builtin; refine wplF_apps (f := spF) (fun _ => rfl) (fun x u hu => by simp [spF] at hu; rcases hu with rfl | rfl <;> rfl) Tryz.underlying39 infoRS rfl (by decide) (by decide) rfl (.tmp 60) (.tmp 63) rfl W.heap.size _ (stK l fs ts k) rfl ((HO.out.drewN _).alloc _) wo.heap.size 1 1 [((k : Int), 2)] rfl rfl (cells_of (heap_new _ _)) (by have := HSL.out; omega) (by simp; exact Nat.le_succ_of_le hzo) ?_; intro v' w2 hown2 hgr2 hat2; (have HB2' : Hid (Below W.heap.size W w2) := Lib.hid (((Below.drewN' HBo.out _).alloc hzo _).grown hgr2 (by simp; exact Nat.le_succ_of_le hzo) (HO.out.ge))); (have HO2 : Hid (OwnF 111 2 spF w2 W.heap.size v' (stK l fs ts (k + 1))) := Lib.hid (by rw [HNX.out]; exact hown2)); clear hown2 hgr2 hat2)
          go_roundw
          case rel => exact ⟨k + 1, by omega, by go_num, HO2, HB2'⟩
          case measure => simp [intOf]; omega
    · have hd : decide ((k : Int) < (m3 : Int)) = false := by simp; omega
      obtain rfl : k = m3 := by omega
      go_wp2_with fail
      exact bodyPost_ret (results_tmp rfl _ _ _) rfl ⟨_, rfl, (by unfold stL; rw [HML.out]; exact HO.out.less HBL.out.size), HBL.out.trans (HBo.out.mono HBL.out.size)⟩
end Go.Proofs.YtminihiecloglaaGreat

namespace Go.Proofs.YtminihiecloglaaGreat
open Go.RowKit
open SemP FlP GaP DiP
set_option linter.unusedVariables false
set_option linter.unusedSimpArgs false
set_option maxRecDepth 10000
theorem alloc4h (w : World) (o0 o1 o2 o3 : Obj) : ((((w.alloc o0).alloc o1).alloc o2).alloc o3).heap[w.heap.size]? = some o0 ∧ ((((w.alloc o0).alloc o1).alloc o2).alloc o3).heap[w.heap.size + 1]? = some o1 ∧ ((((w.alloc o0).alloc o1).alloc o2).alloc o3).heap[w.heap.size + 1 + 1]? = some o2 ∧ ((((w.alloc o0).alloc o1).alloc o2).alloc o3).heap[w.heap.size + 1 + 1 + 1]? = some o3 ∧ Below w.heap.size w ((((w.alloc o0).alloc o1).alloc o2).alloc o3) := by
  refine ⟨?_, ?_, ?_, ?_, ?_⟩
  · rw [Below.heap_alloc _ _ _ (by simp; omega), Below.heap_alloc _ _ _ (by simp; omega), Below.heap_alloc _ _ _ (by simp)]
    exact heap_new w o0
  · rw [Below.heap_alloc _ _ _ (by simp), Below.heap_alloc _ _ _ (by simp)]
    have h := heap_new (w.alloc o0) o1
    rw [World.size_alloc] at h; exact h
  · rw [Below.heap_alloc _ _ _ (by simp)]
    have h := heap_new ((w.alloc o0).alloc o1) o2
    rw [World.size_alloc, World.size_alloc] at h; exact h
  · have h := heap_new (((w.alloc o0).alloc o1).alloc o2) o3
    rw [World.size_alloc, World.size_alloc, World.size_alloc] at h; exact h
  · exact ((((Below.refl _ w).alloc (Nat.le_refl _) _).alloc (by simp) _).alloc (by simp; omega) _).alloc (by simp; omega) _
set_option maxHeartbeats 16000000 in
theorem mustQ_any {w : World} {B BF BT n c cF cT nS cS nE cE i j : Nat} {A AF AT AS AE : Option Addr} {l : List Sv} {fs ts : List Int} {p q : Int} (h : CatAt w B A n c l) (hf : Rd w BF AF n fs) (ht : Rd w BT AT n ts) (hBF : BF ≤ w.heap.size) (hBT : BT ≤ w.heap.size) (hi : i < n) (hj : j < n) (hp : 1 ≤ p ∧ p ≤ 3) (hq : 1 ≤ q ∧ q ≤ 3) :
    Calls Tryz.prog 46 #[.agg #[.slice A n c], .agg #[.slice AF n cF, .slice AT n cT, .slice AS nS cS, .slice AE nE cE], .agg #[.int .i64 (i : Int), .int .i64 p], .agg #[.int .i64 (j : Int), .int .i64 q]] w fun e w' => e = .returned (.bool (mustR l fs ts ((i : Int), p) ((j : Int), q))) ∧ Below w.heap.size w w' := by
  obtain ⟨W, HW⟩ : ∃ W, Hid (W = (((w.alloc (.cells #[.slice A n c] 29)).alloc (.cells #[.slice AF n cF, .slice AT n cT, .slice AS nS cS, .slice AE nE cE] 41)).alloc (.cells #[.int .i64 (i : Int), .int .i64 p] 111)).alloc (.cells #[.int .i64 (j : Int), .int .i64 q] 111)) := ⟨_, Lib.hid rfl⟩
  obtain ⟨h0, h1, h2, h3, hbl⟩ := alloc4h w (.cells #[.slice A n c] 29) (.cells #[.slice AF n cF, .slice AT n cT, .slice AS nS cS, .slice AE nE cE] 41) (.cells #[.int .i64 (i : Int), .int .i64 p] 111) (.cells #[.int .i64 (j : Int), .int .i64 q] 111)
  rw [← HW.out] at h0 h1 h2 h3 hbl
  have HBL := Lib.hid hbl
  have H0 := Lib.hid h0
  have H1 := Lib.hid h1
  have H2 := Lib.hid h2
  have H3 := Lib.hid h3
  have HN16 := Lib.hid h.n16
  have HA := Lib.hid (h.below hbl)
  obtain ⟨bF, oF, rfl, hlF, kF⟩ := (hf.below (hbl.mono hBF)).at_ hi
  obtain ⟨bT, oT, rfl, hlT, kT⟩ := (ht.below (hbl.mono hBT)).at_ hj
  have hbF : bF < W.heap.size := by have := hbl.size; omega
  have hbT : bT < W.heap.size := by have := hbl.size; omega
  obtain ⟨u, HU⟩ : ∃ x, Hid (ix fs i = x) := ⟨_, Lib.hid rfl⟩
  obtain ⟨v, HV⟩ : ∃ x, Hid (ix ts j = x) := ⟨_, Lib.hid rfl⟩
  rw [HU.out] at kF
  rw [HV.out] at kT
  have hAD : CatAt (W.drewN 1) B A n c l := ⟨HA.out.rd, HA.out.cap, HA.out.le, HA.out.sm, HA.out.len, HA.out.one⟩
  have HFT := Lib.hid (fitsQ_any (i := (i : Int)) (v := u) (j := (j : Int)) (x := v) hAD)
  obtain ⟨ft, HF⟩ : ∃ x, Hid (fitsC l (i : Int) u (j : Int) v = x) := ⟨_, Lib.hid rfl⟩
  rw [HF.out] at HFT
  have HMR : Hid (mustR l fs ts ((i : Int), p) ((j : Int), q) = if (i : Int) = (j : Int) then decide (p + 1 = q) else decide (p = 2) && (decide (q = 2) && !ft)) := Lib.hid (by unfold mustR; simp only [Int.toNat_natCast]; rw [HU.out, HV.out, HF.out])
  obtain ⟨MR, HM⟩ : ∃ x, Hid (mustR l fs ts ((i : Int), p) ((j : Int), q) = x) := ⟨_, Lib.hid rfl⟩
  rw [HM.out] at HMR ⊢
  have hii : (i : Int) < (n : Int) := by omega
  have hi0 : (0 : Int) ≤ (i : Int) := by omega
  have hji : (j : Int) < (n : Int) := by omega
  have hj0 : (0 : Int) ≤ (j : Int) := by omega
  have hw1 : IntKind.i64.wrap (p + 1) = p + 1 := IntWalk.i64_in _ (by omega)
  clear h hf ht hBF hBT hbl h0 h1 h2 h3 hAD hlF hlT
  obtain ⟨a0, a1, _, _⟩ := row2 H2.out
  obtain ⟨b0, b1, _, _⟩ := row2 H3.out
  go_enter Tryz.func46, Tryz.ntmps46
  go_upto_region 1 with fail
  change Code.wp _ _ _ _ ((((w.alloc (.cells #[.slice A n c] 29)).alloc (.cells #[.slice (some ⟨bF, oF, none⟩) n cF, .slice (some ⟨bT, oT, none⟩) n cT, .slice AS nS cS, .slice AE nE cE] 41)).alloc (.cells #[.int .i64 (i : Int), .int .i64 p] 111)).alloc (.cells #[.int .i64 (j : Int), .int .i64 q] 111))
  rw [← HW.out]
  by_cases hij : (i : Int) = (j : Int)
  · have e1 : ((i : Int) == (j : Int)) = true := by rw [beq_iff_eq]; exact hij
    have HX : Hid (MR = (p + 1 == q)) := Lib.hid (by rw [HMR.out, if_pos hij]; exact (Bool.beq_eq_decide_eq _ _).symm)
    obtain ⟨X, HX2⟩ : ∃ X, Hid ((p + 1 == q) = X) := ⟨_, Lib.hid rfl⟩
    have hx := HX2.out
    clear hij
    go_wp2_with fail
    refine bodyPost_ret (results_tmp rfl _ _ _) rfl ⟨?_, HBL.out⟩
    rw [HX.out, HX2.out]; rfl
  have e1 : ((i : Int) == (j : Int)) = false := by rw [beq_eq_false_iff_ne]; exact hij
  have HM2 : Hid (MR = (decide (p = 2) && (decide (q = 2) && !ft))) := Lib.hid (by rw [HMR.out, if_neg hij])
  clear hij
  by_cases hp2 : p = 2
  rotate_left
  · have e2 : (p != 2) = true := by rw [bne_iff_ne]; exact hp2
    have HX : Hid (MR = false) := Lib.hid (by rw [HM2.out, decide_eq_false hp2]; rfl)
    clear hp2
    go_wp2_with fail
    exact bodyPost_ret (results_tmp rfl _ _ _) rfl ⟨by rw [HX.out]; rfl, HBL.out⟩
  subst hp2
  by_cases hq2 : q = 2
  rotate_left
  · have e2 : (q != 2) = true := by rw [bne_iff_ne]; exact hq2
    have HX : Hid (MR = false) := Lib.hid (by rw [HM2.out, decide_eq_false hq2]; simp)
    clear hq2
    go_wp2_with fail
    exact bodyPost_ret (results_tmp rfl _ _ _) rfl ⟨by rw [HX.out]; rfl, HBL.out⟩
  subst hq2
  have HX : Hid (MR = !ft) := Lib.hid (by rw [HM2.out]; simp)
  obtain ⟨x0, _⟩ := row1f H0.out
  obtain ⟨y0, y1, y2, y3⟩ := row4 H1.out
  go_wp2_with fail
  go_region_held3 (fun W' => W'.cell? ⟨w.heap.size, 0, none⟩ = some (.slice A n c) ∧ W'.cell? ⟨w.heap.size + 1, 0, none⟩ = some (.slice (some ⟨bF, oF, none⟩) n cF) ∧ W'.cell? ⟨w.heap.size + 1, 1, none⟩ = some (.slice (some ⟨bT, oT, none⟩) n cT) ∧ W'.cell? ⟨w.heap.size + 1 + 1, 0, none⟩ = some (.int .i64 (i : Int)) ∧ W'.cell? ⟨w.heap.size + 1 + 1 + 1, 0, none⟩ = some (.int .i64 (j : Int)) ∧ W'.cell? ⟨bF, oF + i, none⟩ = some (.int .i64 u) ∧ W'.cell? ⟨bT, oT + j, none⟩ = some (.int .i64 v)) ((first | exact ⟨x0, y0, y1, a0, b0, kF, kT⟩ | exact ⟨z0, z1, z2, z3, z4, z5, z6⟩ | go_keep)) (first
    | (go_at_call 58; refine HFT.out.mono ?_; rintro e w1 ⟨rfl, hb'⟩; (have hb : Below W.heap.size W w1 := (Below.drewN' (Below.refl _ W) 1).trans hb'); (have z0 := (row1f ((hb.block w.heap.size (heapE_lt H0.out)).trans H0.out)).1); (obtain ⟨z1, z2, _, _⟩ := row4 ((hb.block (w.heap.size + 1) (heapE_lt H1.out)).trans H1.out)); (have z3 := (row2 ((hb.block (w.heap.size + 1 + 1) (heapE_lt H2.out)).trans H2.out)).1); (have z4 := (row2 ((hb.block (w.heap.size + 1 + 1 + 1) (heapE_lt H3.out)).trans H3.out)).1); (have z5 := (hb.cell (p := ⟨bF, oF + i, none⟩) hbF).trans kF); (have z6 := (hb.cell (p := ⟨bT, oT + j, none⟩) hbT).trans kT); (have HBZ := Lib.hid hb); clear hb hb'))
  have HRES : Hid (Below w.heap.size w w1) := Lib.hid (HBL.out.trans (HBZ.out.mono HBL.out.size))
  clear z0 z1 z2 z3 z4 z5 z6 x0 y0 y1 y2 y3 a0 a1 b0 b1 kF kT
  go_wp2_with fail
  exact bodyPost_ret (results_tmp rfl _ _ _) rfl ⟨by rw [HX.out]; rfl, HRES.out⟩
end Go.Proofs.YtminihiecloglaaGreat

namespace Go.Proofs.YtminihiecloglaaGreat
open Go.RowKit
open SemP FlP GaP DiP
set_option linter.unusedVariables false
set_option linter.unusedSimpArgs false
set_option maxRecDepth 10000
theorem OwnF.rdG {E : TypeId} {w : World} {base n c : Nat} {A : Option Addr} {S : List StP} (h : OwnF E 2 spF w base (.slice A n c) S) : RdS w w.heap.size A n S := by
  obtain ⟨A', c', hA⟩ := h.shape
  injection hA with hA hn hc
  subst hA hc
  refine ⟨hn.symm, fun j hj => ?_⟩
  rw [hn] at hj
  rcases h.2 with ⟨hv, h0⟩ | ⟨g, cap, cur, hv, hbg, hh, hlc, hcm, hcs, htk⟩
  · omega
  · injection hv with hv1 hv2 hv3
    subst hv1
    have h1 := flatF_at (f := spF) (z := 2) (fun _ => rfl) S j 0 (by omega) (by omega)
    have h2 := flatF_at (f := spF) (z := 2) (fun _ => rfl) S j 1 (by omega) (by omega)
    have ht : ∀ t, t < S.length * 2 → cur.toList[t]? = (S.flatMap spF)[t]? := fun t ht => by rw [← htk, List.getElem?_take_of_lt ht]
    refine ⟨g, 0, rfl, heapE_lt hh, ?_, ?_⟩
    · rw [Nat.zero_add]
      exact cells_of hh _ _ ((ht _ (by omega)).trans h1)
    · rw [Nat.zero_add]
      exact cells_of hh _ _ ((ht _ (by omega)).trans h2)
theorem befA_len (l : List Sv) (fs ts : List Int) (S : List StP) (a : Nat) : ∀ k, (befA l fs ts S a k).length ≤ k
  | 0 => Nat.le_refl _
  | k + 1 => by
    rw [befA_succ, List.length_append]
    have := befA_len l fs ts S a k
    split <;> simp <;> omega
theorem befK_len (l : List Sv) (fs ts : List Int) (S : List StP) : ∀ k, (Go.Proofs.YtminihiecloglaaGreat.befK l fs ts S k).length ≤ k * S.length
  | 0 => by simp [Go.Proofs.YtminihiecloglaaGreat.befK]
  | k + 1 => by
    rw [befK_succ, List.length_append, Nat.succ_mul]
    have := befK_len l fs ts S k
    have := befA_len l fs ts S k S.length
    omega
theorem bef_len {l : List Sv} {fs ts : List Int} (h : fs.length ≤ 16) : (befP l fs ts (stL l fs ts)).length ≤ fs.length * (fs.length + 2) := by
  have hp : (befP l fs ts (stL l fs ts)).Perm ((ordQ l (stL l fs ts) fs ts fs.length fs.length).map (pl2 (stL l fs ts))) := by
    refine (List.perm_ext_iff_of_nodup ?_ ord_nodup).2 (fun p => (mem_ord_bef p).symm)
    unfold List.Nodup
    refine (befK_sorted l fs ts _ _).imp ?_
    intro x y h e
    subst e
    exact ltP_irrefl _ h
  rw [hp.length_eq, List.length_map]
  exact ordQ_len l _ fs ts fs.length fs.length
theorem befA_next (l : List Sv) (fs ts : List Int) (S : List StP) (a k : Nat) (b : Bool) (h : mustR l fs ts (sAt S a) (sAt S k) = b) : befA l fs ts S a (k + 1) = if b = true then befA l fs ts S a k ++ [(a, k)] else befA l fs ts S a k := by
  rw [befA_succ, h]
  cases b <;> simp
theorem befA_zero (l : List Sv) (fs ts : List Int) (S : List StP) (a : Nat) : befA l fs ts S a 0 = [] := rfl
theorem befK_zero (l : List Sv) (fs ts : List Int) (S : List StP) : Go.Proofs.YtminihiecloglaaGreat.befK l fs ts S 0 = [] := rfl
set_option maxHeartbeats 4000000 in
theorem graphD_any {w : World} {nF cF nT cT nS cS n c : Nat} {AF AT AS A : Option Addr} :
    Calls Tryz.prog 31 #[.agg #[.slice AF nF cF, .slice AT nT cT, .slice AS nS cS, .slice A n c]] w fun e w' => e = .returned (.agg #[.int .i64 (nS : Int), .slice A n c]) ∧ Below w.heap.size w w' := by
  obtain ⟨W, HW⟩ : ∃ W, Hid (W = (w.alloc (.cells #[.slice AF nF cF, .slice AT nT cT, .slice AS nS cS, .slice A n c] 41)).alloc (.cells #[.int .i64 0, .slice none 0 0] 74)) := ⟨_, Lib.hid rfl⟩
  have hbl : Below w.heap.size w W := by rw [HW.out]; exact ((Below.refl _ w).alloc (Nat.le_refl _) _).alloc (by simp) _
  have HBL := Lib.hid hbl
  have H0 : Hid (W.heap[w.heap.size]? = some (.cells #[.slice AF nF cF, .slice AT nT cT, .slice AS nS cS, .slice A n c] 41 (0, 0))) := Lib.hid (by
    rw [HW.out, Below.heap_alloc _ _ _ (by simp)]; exact heap_new w _)
  have H1 : Hid (W.heap[w.heap.size + 1]? = some (.cells #[.int .i64 0, .slice none 0 0] 74 (0, 0))) := Lib.hid (by
    rw [HW.out]
    have h := heap_new (w.alloc (.cells #[.slice AF nF cF, .slice AT nT cT, .slice AS nS cS, .slice A n c] 41)) (.cells #[.int .i64 0, .slice none 0 0] 74)
    rw [World.size_alloc] at h; exact h)
  clear hbl
  go_enter Tryz.func31, Tryz.ntmps31
  go_upto_region 1 with fail
  change Code.wp _ _ _ _ ((w.alloc (.cells #[.slice AF nF cF, .slice AT nT cT, .slice AS nS cS, .slice A n c] 41)).alloc (.cells #[.int .i64 0, .slice none 0 0] 74))
  rw [← HW.out]
  obtain ⟨_, _, y2, y3⟩ := row4 H0.out
  obtain ⟨g0, g1, gf0, gf1⟩ := row2 H1.out
  have S1 := heap_setCell_same W (w.heap.size + 1) 0 _ _ (.int .i64 (nS : Int)) H1.out
  have S2 := heap_setCell_same _ (w.heap.size + 1) 1 _ _ (.slice A n c) S1
  have S3 := Lib.hid S2
  have HBF := Lib.hid ((HBL.out.setCell (p := ⟨w.heap.size + 1, 0, none⟩) (by show w.heap.size ≤ w.heap.size + 1; omega) (.int .i64 (nS : Int))).setCell (p := ⟨w.heap.size + 1, 1, none⟩) (by show w.heap.size ≤ w.heap.size + 1; omega) (.slice A n c))
  clear S1 S2
  go_wp2_with fail
  refine bodyPost_ret (v := .agg #[.int .i64 (nS : Int), .slice A n c]) ?_ rfl ⟨rfl, HBF.out⟩
  exact results_cell_row rfl _ _ (w.heap.size + 1) _ _ _ _ rfl S3.out Tryz.underlying74 rfl (by kernel_rfl)
set_option maxHeartbeats 16000000 in
theorem makeQ_any {w : World} {B B2 B3 n c m c2 m3 c3 : Nat} {A A2 A3 : Option Addr} {l : List Sv} {fs ts : List Int} (h : CatAt w B A n c l) (hlv : LevOK l) (hf : Rd w B2 A2 m fs) (ht : Rd w B3 A3 m3 ts) (hB2 : B2 ≤ w.heap.size) (hB3 : B3 ≤ w.heap.size) (hm : m ≤ 64) (hm3 : m3 ≤ 64) :
    Calls Tryz.prog 14 #[.agg #[.slice A n c], .slice A2 m c2, .slice A3 m3 c3] w fun e w' => Below w.heap.size w w' ∧ ((makeE l fs ts ≠ 0 ∧ e = .returned (.tuple #[.agg #[.slice none 0 0, .slice none 0 0, .slice none 0 0, .slice none 0 0], .int .i64 (makeE l fs ts)])) ∨ (makeE l fs ts = 0 ∧ ∃ AS N cS AE M cE, e = .returned (.tuple #[.agg #[.slice A2 m c2, .slice A3 m3 c3, .slice AS N cS, .slice AE M cE], .int .i64 0]) ∧ OwnF 111 2 spF w' w.heap.size (.slice AS N cS) (stL l fs ts) ∧ OwnF 91 2 egF w' w.heap.size (.slice AE M cE) (befP l fs ts (stL l fs ts)))) := by
  obtain ⟨W, HW⟩ : ∃ W, Hid (W = (w.alloc (.cells #[.slice A n c] 29)).alloc (.cells #[.slice none 0 0, .slice none 0 0, .slice none 0 0, .slice none 0 0] 41)) := ⟨_, Lib.hid rfl⟩
  have hbl : Below w.heap.size w W := by rw [HW.out]; exact ((Below.refl _ w).alloc (Nat.le_refl _) _).alloc (by simp) _
  have HBL := Lib.hid hbl
  have HZ : Hid (W.heap.size = w.heap.size + 2) := Lib.hid (by rw [HW.out]; simp)
  have H0 : Hid (W.heap[w.heap.size]? = some (.cells #[.slice A n c] 29 (0, 0))) := Lib.hid (by
    rw [HW.out, Below.heap_alloc _ _ _ (by simp)]; exact heap_new w _)
  have H1 : Hid (W.heap[w.heap.size + 1]? = some (.cells #[.slice none 0 0, .slice none 0 0, .slice none 0 0, .slice none 0 0] 41 (0, 0))) := Lib.hid (by
    rw [HW.out]
    have h := heap_new (w.alloc (.cells #[.slice A n c] 29)) (.cells #[.slice none 0 0, .slice none 0 0, .slice none 0 0, .slice none 0 0] 41)
    rw [World.size_alloc] at h; exact h)
  have HN16 := Lib.hid h.n16
  have HNL : Hid (l.length = n) := Lib.hid h.rd.1
  have HML : Hid (fs.length = m) := Lib.hid hf.len
  have HM3 : Hid (ts.length = m3) := Lib.hid ht.len
  have HA := Lib.hid (h.below hbl)
  have HF := Lib.hid (hf.below (hbl.mono hB2))
  have HTS := Lib.hid (ht.below (hbl.mono hB3))
  have HB2 : Hid (B2 ≤ W.heap.size) := Lib.hid (Nat.le_trans hB2 hbl.size)
  have HB3 : Hid (B3 ≤ W.heap.size) := Lib.hid (Nat.le_trans hB3 hbl.size)
  have HLV := Lib.hid hlv
  have HCE := Lib.hid (endsQ_any (w := W) (c := c) (c2 := c2) (c3 := c3) HA.out hlv HF.out HTS.out HB2.out HB3.out (by omega) (by omega))
  obtain ⟨CE, HCV⟩ : ∃ q, Hid (chkE l fs ts = q) := ⟨_, Lib.hid rfl⟩
  rw [HCV.out] at HCE
  obtain ⟨ME, HME⟩ : ∃ q, Hid (makeE l fs ts = q) := ⟨_, Lib.hid rfl⟩
  rw [HME.out]
  clear h hf ht hbl hlv hB2 hB3
  go_enter Tryz.func14, Tryz.ntmps14
  go_upto_region 1 with fail
  change Code.wp _ _ _ _ ((w.alloc (.cells #[.slice A n c] 29)).alloc (.cells #[.slice none 0 0, .slice none 0 0, .slice none 0 0, .slice none 0 0] 41))
  rw [← HW.out]
  obtain ⟨x0, _⟩ := row1f H0.out
  go_wp2_with fail
  refine HCE.out.mono ?_
  rintro e X ⟨rfl, hb⟩
  have HWX : Hid (Below W.heap.size W X) := Lib.hid hb
  have KX : Hid (X.heap[w.heap.size]? = _) := Lib.hid ((hb.block w.heap.size (heapE_lt H0.out)).trans H0.out)
  have KR : Hid (X.heap[w.heap.size + 1]? = _) := Lib.hid ((hb.block (w.heap.size + 1) (heapE_lt H1.out)).trans H1.out)
  have KZ : Hid (w.heap.size + 2 ≤ X.heap.size) := Lib.hid (by have := hb.size; have := HZ.out; omega)
  have HBX : Hid (Below w.heap.size w X) := Lib.hid (HBL.out.trans (hb.mono HBL.out.size))
  clear hb x0 HCE
  by_cases hce : CE = 0
  rotate_left
  · have d1 : (CE != 0) = true := by rw [bne_iff_ne]; exact hce
    have HX : Hid (ME = CE) := Lib.hid (by rw [← HME.out]; unfold makeE; rw [if_neg (by rw [HCV.out]; exact hce), HCV.out])
    have HN0 : Hid (ME ≠ 0) := Lib.hid (by rw [HX.out]; exact hce)
    obtain ⟨g0, g1, g2, g3⟩ := row4 KR.out
    obtain ⟨f0, f1, f2, f3⟩ := row4f KR.out
    have S4 := Lib.hid (set4_same (a := .slice none 0 0) (b := .slice none 0 0) (c := .slice none 0 0) (d := .slice none 0 0) KR.out)
    have HB4 := Lib.hid (below_set4 (g := w.heap.size + 1) HBX.out (by omega) (.slice none 0 0) (.slice none 0 0) (.slice none 0 0) (.slice none 0 0))
    clear hce
    go_wp2_with fail
    obtain ⟨q0, q1, q2, q3⟩ := row4 S4.out
    refine bodyPost_ret (v := .tuple #[.agg #[.slice none 0 0, .slice none 0 0, .slice none 0 0, .slice none 0 0], .int .i64 CE]) ?_ rfl ⟨HB4.out, .inl ⟨HN0.out, by rw [HX.out]⟩⟩
    rw [results_cell_tmp rfl]; go_simp
  · have HC0 : Hid (chkE l fs ts = 0) := Lib.hid (by rw [HCV.out]; exact hce)
    have hmn : m = n := by rw [← HML.out, ← HNL.out]; exact (setB_iff.1 (chkE_ok HC0.out).1).1
    have hm3n : m3 = n := by rw [← HM3.out, ← HNL.out]; exact (setB_iff.1 (chkE_ok HC0.out).2.1).1
    subst hm3n
    subst hmn
    have HSF := Lib.hid (chkE_ok HC0.out).1
    have HST := Lib.hid (chkE_ok HC0.out).2.1
    have d1 : (CE != 0) = false := by rw [bne_eq_false_iff_eq]; exact hce
    have HAX := Lib.hid (HA.out.below HWX.out)
    have HFX := Lib.hid (HF.out.below (HWX.out.mono HB2.out))
    have HTX := Lib.hid (HTS.out.below (HWX.out.mono HB3.out))
    have HB2X : Hid (B2 ≤ X.heap.size) := Lib.hid (Nat.le_trans HB2.out HWX.out.size)
    have HB3X : Hid (B3 ≤ X.heap.size) := Lib.hid (Nat.le_trans HB3.out HWX.out.size)
    obtain ⟨S, HSS⟩ : ∃ S, Hid (stL l fs ts = S) := ⟨_, Lib.hid rfl⟩
    have HSR := Lib.hid (stepsR_any (w := X) (c := c) (c2 := c2) (c3 := c3) HAX.out HLV.out HFX.out HTX.out HB2X.out HB3X.out HSF.out HST.out (fun i hi => ((chkE_ok HC0.out).2.2.2.2 i hi).1))
    rw [HSS.out] at HSR
    obtain ⟨x0, _⟩ := row1f KX.out
    clear hce
    go_wp2_with fail
    refine HSR.out.mono ?_
    rintro e Y ⟨v, rfl, hown, hbY⟩
    obtain ⟨N, HNS⟩ : ∃ N, Hid (S.length = N) := ⟨_, Lib.hid rfl⟩
    obtain ⟨AS, cS, hv⟩ := hown.shape
    rw [HNS.out] at hv
    subst hv
    have HBY := Lib.hid hbY
    have HOS := Lib.hid hown
    have KY : Hid (Y.heap[w.heap.size]? = _) := Lib.hid ((hbY.block w.heap.size (heapE_lt KX.out)).trans KX.out)
    have KRY : Hid (Y.heap[w.heap.size + 1]? = _) := Lib.hid ((hbY.block (w.heap.size + 1) (heapE_lt KR.out)).trans KR.out)
    have HBWY : Hid (Below w.heap.size w Y) := Lib.hid (HBX.out.trans (hbY.mono HBX.out.size))
    have hzY : w.heap.size + 2 ≤ Y.heap.size := Nat.le_trans KZ.out hbY.size
    have HAY := Lib.hid (HAX.out.below hbY)
    have HFY := Lib.hid (HFX.out.below (hbY.mono HB2X.out))
    have HTY := Lib.hid (HTX.out.below (hbY.mono HB3X.out))
    have HB2Y : Hid (B2 ≤ Y.heap.size) := Lib.hid (Nat.le_trans HB2X.out hbY.size)
    have HB3Y : Hid (B3 ≤ Y.heap.size) := Lib.hid (Nat.le_trans HB3X.out hbY.size)
    have HL48 : Hid (N ≤ 48) := Lib.hid (by rw [← HNS.out, ← HSS.out]; have := stK_len l fs ts fs.length; have := HN16.out; have := HML.out; unfold stL; omega)
    obtain ⟨P, HP⟩ : ∃ P, Hid (P = Y.alloc (.cells #[.slice A2 m c2, .slice A3 m c3, .slice AS N cS, .slice none 0 0] 41)) := ⟨_, Lib.hid rfl⟩
    have HYP : Hid (Below Y.heap.size Y P) := Lib.hid (by rw [HP.out]; exact (Below.refl _ Y).alloc (Nat.le_refl _) _)
    have HZP : Hid (P.heap.size = Y.heap.size + 1) := Lib.hid (by rw [HP.out]; simp)
    have KP : Hid (P.heap[Y.heap.size]? = some (.cells #[.slice A2 m c2, .slice A3 m c3, .slice AS N cS, .slice none 0 0] 41 (0, 0))) := Lib.hid (by rw [HP.out]; exact heap_new Y _)
    have HRS := Lib.hid HOS.out.rdG
    clear x0 hown hbY HSR
    go_wp2_with fail
    rw [← HP.out]
    go_loopw [10, 11] (fun v _ wr => ∃ k : Nat, k ≤ N ∧ v = .int .i64 (k : Int) ∧ Hid (Below Y.heap.size Y wr) ∧ ∃ AE M cE, Hid (wr.heap[Y.heap.size]? = some (.cells #[.slice A2 m c2, .slice A3 m c3, .slice AS N cS, .slice AE M cE] 41 (0, 0))) ∧ Hid (OwnF 91 2 egF wr P.heap.size (.slice AE M cE) (Go.Proofs.YtminihiecloglaaGreat.befK l fs ts S k))) (fun v _ _ => N - (intOf v).toNat)
    case atStart => exact ⟨0, Nat.zero_le _, rfl, HYP, none, 0, 0, KP, Lib.hid (by rw [befK_zero]; exact OwnF.nil_ _ _ _ _ _)⟩
    case round =>
      obtain ⟨wo, hwo⟩ : ∃ x, x = wr := ⟨_, rfl⟩
      subst hwo
      obtain ⟨k, hk, rfl, HBo, AE, M, cE, KO, HO⟩ := hrel
      obtain ⟨y0, y1, y2, y3⟩ := row4 KO.out
      by_cases hkn : k < N
      · have hd : decide ((k : Int) < (N : Int)) = true := by simp; omega
        have hki : (k : Int) < (N : Int) := by omega
        have hk0 : (0 : Int) ≤ (k : Int) := by omega
        have hadd : IntKind.i64.wrap ((k : Int) + 1) = ((k + 1 : Nat) : Int) := by rw [IntWalk.i64_in _ (by have := HL48.out; omega)]; omega
        obtain ⟨⟨xk, pk⟩, HXK⟩ : ∃ q, Hid (sAt S k = q) := ⟨_, Lib.hid rfl⟩
        obtain ⟨ik, rfl, hikm, hpk⟩ : ∃ i : Nat, xk = (i : Int) ∧ i < m ∧ (1 ≤ pk ∧ pk ≤ 3) := by
          have hmem : sAt S k ∈ stL l fs ts := by rw [HSS.out]; exact sAt_mem (by rw [HNS.out]; exact hkn)
          rw [HXK.out] at hmem
          obtain ⟨i, hi, e, _, hp⟩ := mem_stK.1 hmem
          refine ⟨i, e, by rw [← HML.out]; exact hi, ?_⟩
          rcases hp with hp | ⟨_, hp | hp⟩ <;> (have hp' : pk = _ := hp; omega)
        clear y0 y1 y3
        go_wp2_with fail
        clear y2
        go_loopw [11] (fun v wr => ∃ j : Nat, j ≤ N ∧ v = .int .i64 (j : Int) ∧ Hid (Below Y.heap.size Y wr) ∧ ∃ AE M cE, Hid (wr.heap[Y.heap.size]? = some (.cells #[.slice A2 m c2, .slice A3 m c3, .slice AS N cS, .slice AE M cE] 41 (0, 0))) ∧ Hid (OwnF 91 2 egF wr P.heap.size (.slice AE M cE) (Go.Proofs.YtminihiecloglaaGreat.befK l fs ts S k ++ befA l fs ts S k j))) (fun v _ => N - (intOf v).toNat)
        case atStart => exact ⟨0, Nat.zero_le _, rfl, HBo, AE, M, cE, KO, Lib.hid (by rw [befA_zero, List.append_nil]; exact HO.out)⟩
        case round =>
          obtain ⟨wi, hwi⟩ : ∃ x, x = wr := ⟨_, rfl⟩
          subst hwi
          obtain ⟨j, hj, rfl, HBi, BE, M1, dE, KI, HI⟩ := hrel
          obtain ⟨y0, y1, y2, y3⟩ := row4 KI.out
          by_cases hjn : j < N
          · have hd2 : decide ((j : Int) < (N : Int)) = true := by simp; omega
            have hji : (j : Int) < (N : Int) := by omega
            have hj0 : (0 : Int) ≤ (j : Int) := by omega
            have hadd2 : IntKind.i64.wrap ((j : Int) + 1) = ((j + 1 : Nat) : Int) := by rw [IntWalk.i64_in _ (by have := HL48.out; omega)]; omega
            obtain ⟨⟨xj, pj⟩, HXJ⟩ : ∃ q, Hid (sAt S j = q) := ⟨_, Lib.hid rfl⟩
            obtain ⟨ij, rfl, hijm, hpj⟩ : ∃ i : Nat, xj = (i : Int) ∧ i < m ∧ (1 ≤ pj ∧ pj ≤ 3) := by
              have hmem : sAt S j ∈ stL l fs ts := by rw [HSS.out]; exact sAt_mem (by rw [HNS.out]; exact hjn)
              rw [HXJ.out] at hmem
              obtain ⟨i, hi, e, _, hp⟩ := mem_stK.1 hmem
              refine ⟨i, e, by rw [← HML.out]; exact hi, ?_⟩
              rcases hp with hp | ⟨_, hp | hp⟩ <;> (have hp' : pj = _ := hp; omega)
            have hRi := HRS.out.below HBi.out (Nat.le_refl _)
            obtain ⟨b, off, hAS, hlt, s0, s1⟩ := hRi.at_ k hkn
            obtain ⟨b', off', hAS', _, t0, t1⟩ := hRi.at_ j hjn
            subst hAS
            injection hAS' with hAS'
            injection hAS' with q1 q2 _
            subst q1 q2
            rw [HXK.out] at s0 s1
            rw [HXJ.out] at t0 t1
            have hltw : b < wi.heap.size := Nat.lt_of_lt_of_le hlt HBi.out.size
            have Kc : Hid (wi.heap[w.heap.size]? = _) := Lib.hid ((HBi.out.block w.heap.size (by omega)).trans KY.out)
            have hAi := HAY.out.below HBi.out
            have hAD : CatAt (wi.drewN 1) B A m c l := ⟨hAi.rd, hAi.cap, hAi.le, hAi.sm, hAi.len, hAi.one⟩
            have hFi := HFY.out.below (HBi.out.mono HB2Y.out)
            have hTi := HTY.out.below (HBi.out.mono HB3Y.out)
            have HMU := Lib.hid (mustQ_any (w := wi.drewN 1) (c := c) (cF := c2) (cT := c3) (nS := N) (cS := cS) (nE := M1) (cE := dE) (AS := some ⟨b, off, none⟩) (AE := BE) hAD hFi hTi (Nat.le_trans HB2Y.out HBi.out.size) (Nat.le_trans HB3Y.out HBi.out.size) hikm hijm hpk hpj)
            obtain ⟨mu, HMV⟩ : ∃ q, Hid (mustR l fs ts ((ik : Int), pk) ((ij : Int), pj) = q) := ⟨_, Lib.hid rfl⟩
            rw [HMV.out] at HMU
            have HNX := Lib.hid (befA_next l fs ts S k j mu (by rw [HXK.out, HXJ.out]; exact HMV.out))
            obtain ⟨x0, _⟩ := row1f Kc.out
            clear hAi hAD hRi hpk hpj hFi hTi
            go_wp2_with fail
            go_region_held3 (fun W' => W'.cell? ⟨w.heap.size, 0, none⟩ = some (.slice A m c) ∧ W'.cell? ⟨Y.heap.size, 0, none⟩ = some (.slice A2 m c2) ∧ W'.cell? ⟨Y.heap.size, 1, none⟩ = some (.slice A3 m c3) ∧ W'.cell? ⟨Y.heap.size, 2, none⟩ = some (.slice (some ⟨b, off, none⟩) N cS) ∧ W'.cell? ⟨Y.heap.size, 3, none⟩ = some (.slice BE M1 dE) ∧ W'.cell? ⟨b, off + k * 2, none⟩ = some (.int .i64 (ik : Int)) ∧ W'.cell? ⟨b, off + k * 2 + 1, none⟩ = some (.int .i64 pk) ∧ W'.cell? ⟨b, off + j * 2, none⟩ = some (.int .i64 (ij : Int)) ∧ W'.cell? ⟨b, off + j * 2 + 1, none⟩ = some (.int .i64 pj)) ((first | exact ⟨x0, y0, y1, y2, y3, s0, s1, t0, t1⟩ | exact ⟨z0, z1, z2, z3, z4, z5, z6, z7, z8⟩ | go_keep)) (first
              | (go_at_call 46; refine HMU.out.mono ?_; rintro e w1 ⟨rfl, hb'⟩; (have hb : Below wi.heap.size wi w1 := (Below.drewN' (Below.refl _ wi) 1).trans hb'); (have z0 := (row1f ((hb.block w.heap.size (heapE_lt Kc.out)).trans Kc.out)).1); (obtain ⟨z1, z2, z3, z4⟩ := row4 ((hb.block Y.heap.size (heapE_lt KI.out)).trans KI.out)); (have z5 := (hb.cell (p := ⟨b, off + k * 2, none⟩) hltw).trans s0); (have z6 := (hb.cell (p := ⟨b, off + k * 2 + 1, none⟩) hltw).trans s1); (have z7 := (hb.cell (p := ⟨b, off + j * 2, none⟩) hltw).trans t0); (have z8 := (hb.cell (p := ⟨b, off + j * 2 + 1, none⟩) hltw).trans t1); (have HBZ := Lib.hid hb); clear hb hb'))
            have HB1 : Hid (Below Y.heap.size Y w1) := Lib.hid (HBi.out.trans (HBZ.out.mono HBi.out.size))
            have K1 : Hid (w1.heap[Y.heap.size]? = some (.cells #[.slice A2 m c2, .slice A3 m c3, .slice (some ⟨b, off, none⟩) N cS, .slice BE M1 dE] 41 (0, 0))) := Lib.hid ((HBZ.out.block Y.heap.size (heapE_lt KI.out)).trans KI.out)
            have HI1 := Lib.hid (HI.out.kept HBZ.out)
            clear z0 z1 z2 z3 z4 z5 z6 z7 z8 s0 s1 t0 t1 x0 y0 y1 y2 y3
            cases mu with
            | false =>
              have HN2 : Hid (befA l fs ts S k (j + 1) = befA l fs ts S k j) := Lib.hid (by rw [HNX.out]; rfl)
              go_wp2_with fail
              go_roundw
              case rel => exact ⟨j + 1, by omega, by go_num, HB1, BE, M1, dE, K1, Lib.hid (by rw [HN2.out]; exact HI1.out)⟩
              case measure => simp [intOf]; omega
            | true =>
              obtain ⟨L1, HL1⟩ : ∃ q, Hid (Go.Proofs.YtminihiecloglaaGreat.befK l fs ts S k ++ befA l fs ts S k j = q) := ⟨_, Lib.hid rfl⟩
              rw [HL1.out] at HI1
              obtain ⟨L2, HL2⟩ : ∃ q, Hid (L1 ++ [(k, j)] = q) := ⟨_, Lib.hid rfl⟩
              obtain ⟨M2, HM2⟩ : ∃ q, Hid (L2.length = q) := ⟨_, Lib.hid rfl⟩
              have HN2 : Hid (Go.Proofs.YtminihiecloglaaGreat.befK l fs ts S k ++ befA l fs ts S k (j + 1) = L2) := Lib.hid (by rw [HNX.out, if_pos rfl, ← List.append_assoc, HL1.out, HL2.out])
              have HLL : Hid (L1.length ≤ 5000) := Lib.hid (by
                rw [← HL1.out, List.length_append]
                have h1 := befK_len l fs ts S k
                have h2 := befA_len l fs ts S k j
                rw [HNS.out] at h1
                have h3 := Nat.mul_le_mul hk HL48.out
                have := HL48.out
                have : N * 48 ≤ 48 * 48 := Nat.mul_le_mul this (Nat.le_refl _)
                omega)
              obtain ⟨y0, y1, y2, y3⟩ := row4 K1.out
              have hz1 : P.heap.size ≤ w1.heap.size := by have := heapE_lt K1.out; have := HZP.out; omega
              go_wp2_with (at_builtin; refine wplF_apps (f := egF) (fun _ => rfl) (fun x u hu => by simp [egF] at hu; rcases hu with rfl | rfl <;> rfl) Tryz.underlying33 infoPr rfl (by decide) (by decide) rfl (.tmp 55) (.tmp 59) rfl P.heap.size _ L1 rfl (HI1.out.alloc _) w1.heap.size 1 1 [(k, j)] rfl rfl (cells_of (heap_new _ _)) (by have := HLL.out; omega) (by simp; omega) ?_; intro v' w2 hown2 hgr2 hat2; rw [HL2.out] at hown2; obtain ⟨CE2, d2, hv2⟩ := hown2.shape; rw [HM2.out] at hv2; subst hv2; (have HGB : Hid (w2.heap[Y.heap.size]? = some (.cells #[.slice A2 m c2, .slice A3 m c3, .slice (some ⟨b, off, none⟩) N cS, .slice BE M1 dE] 41 (0, 0))) := Lib.hid (by rw [hgr2.block Y.heap.size (by simp; have := heapE_lt K1.out; omega) (fun h => by have := HI1.out.ge _ h.symm; have := HZP.out; omega), Below.heap_alloc _ _ _ (heapE_lt K1.out)]; exact K1.out)); (have HBB : Hid (Below Y.heap.size Y w2) := Lib.hid ((HB1.out.alloc (HB1.out.size) _).grown hgr2 (by simp; have := HB1.out.size; omega) (fun g hg => by have := HI1.out.ge g hg; have := HZP.out; omega))); (have HO2 := Lib.hid hown2); (obtain ⟨u0, u1, u2, u3⟩ := row4 HGB.out); (obtain ⟨_, _, _, f3⟩ := row4f HGB.out); clear hown2 hgr2 hat2)
              have HST : Hid ((w2.setCell ⟨Y.heap.size, 3, none⟩ (.slice CE2 M2 d2)).heap[Y.heap.size]? = some (.cells #[.slice A2 m c2, .slice A3 m c3, .slice (some ⟨b, off, none⟩) N cS, .slice CE2 M2 d2] 41 (0, 0))) := Lib.hid (heap_setCell_same w2 Y.heap.size 3 _ _ _ HGB.out)
              have HOX : Hid (OwnF 91 2 egF (w2.setCell ⟨Y.heap.size, 3, none⟩ (.slice CE2 M2 d2)) P.heap.size (.slice CE2 M2 d2) L2) := Lib.hid (HO2.out.setC (p := ⟨Y.heap.size, 3, none⟩) (by have := HZP.out; show Y.heap.size < P.heap.size; omega) _)
              have HBX2 : Hid (Below Y.heap.size Y (w2.setCell ⟨Y.heap.size, 3, none⟩ (.slice CE2 M2 d2))) := Lib.hid (HBB.out.setCell (p := ⟨Y.heap.size, 3, none⟩) (Nat.le_refl _) _)
              go_roundw
              case rel => exact ⟨j + 1, by omega, by go_num, HBX2, CE2, M2, d2, HST, Lib.hid (by rw [HN2.out]; exact HOX.out)⟩
              case measure => simp [intOf]; omega
          · have hd2 : decide ((j : Int) < (N : Int)) = false := by simp; omega
            obtain rfl : j = N := by omega
            have HN2 : Hid (Go.Proofs.YtminihiecloglaaGreat.befK l fs ts S (k + 1) = Go.Proofs.YtminihiecloglaaGreat.befK l fs ts S k ++ befA l fs ts S k j) := Lib.hid (by rw [befK_succ, HNS.out])
            clear y0 y1 y3
            go_wp2_with fail
            go_roundw
            case rel => exact ⟨k + 1, by omega, by go_num, HBi, BE, M1, dE, KI, Lib.hid (by rw [HN2.out]; exact HI.out)⟩
            case measure => simp [intOf]; omega
      · have hd : decide ((k : Int) < (N : Int)) = false := by simp; omega
        obtain rfl : k = N := by omega
        obtain ⟨G, HGD⟩ : ∃ q, Hid (Go.Proofs.YtminihiecloglaaGreat.befK l fs ts S k = q) := ⟨_, Lib.hid rfl⟩
        have HGP : Hid (befP l fs ts (stL l fs ts) = G) := Lib.hid (by rw [HSS.out]; unfold befP; rw [HNS.out]; exact HGD.out)
        rw [HGD.out] at HO
        have HIN : Hid (InN k G) := Lib.hid (by
          intro q hq
          have hmem : G.getD q default ∈ befP l fs ts (stL l fs ts) := by rw [HGP.out]; exact getD_mem hq
          obtain ⟨h1, h2, _⟩ := mem_befP.1 hmem
          rw [HSS.out, HNS.out] at h1 h2
          exact ⟨h1, h2⟩)
        have HGL : Hid (G.length ≤ 288) := Lib.hid (by rw [← HGP.out]; exact Nat.le_trans (bef_len (by rw [HML.out]; exact HN16.out)) (mul18 (Nat.le_refl _) (by rw [HML.out]; exact HN16.out)))
        have HMG : Hid (G.length = M) := Lib.hid (by obtain ⟨_, _, e⟩ := HO.out.shape; injection e with _ e _; exact e.symm)
        have HGQ := Lib.hid (graphD_any (w := wo) (nF := m) (cF := c2) (nT := m) (cT := c3) (nS := k) (cS := cS) (n := M) (c := cE) (AF := A2) (AT := A3) (AS := AS) (A := AE))
        have HWo : Hid (Below w.heap.size w wo) := Lib.hid (HBWY.out.trans (HBo.out.mono HBWY.out.size))
        go_wp2_with fail
        refine HGQ.out.mono ?_
        rintro e w1 ⟨rfl, hb1⟩
        have HB1 := Lib.hid hb1
        have HO1 := Lib.hid (HO.out.kept hb1)
        open Classical in
        have HCI := Lib.hid (circle_any (w := w1) (c := cE) (OwnF.edg HO1.out) HIN.out (by have := HL48.out; omega) (by have := HGL.out; have := HMG.out; omega) (Nat.le_refl _) (!decide (Goes (befG G) k k)) (by simp))
        open Classical in
        obtain ⟨cc, HCC⟩ : ∃ q, Hid ((!decide (Goes (befG G) k k)) = q) := ⟨_, Lib.hid rfl⟩
        rw [HCC.out] at HCI
        clear y0 y1 y2 y3 hb1 HGQ
        go_wp2_with fail
        refine HCI.out.mono ?_
        rintro e w2 ⟨rfl, hb2⟩
        have HB2' : Hid (Below wo.heap.size wo w2) := Lib.hid (HB1.out.trans (hb2.mono HB1.out.size))
        have HBW2 : Hid (Below w.heap.size w w2) := Lib.hid (HWo.out.trans (HB2'.out.mono HWo.out.size))
        have HBY2 : Hid (Below Y.heap.size Y w2) := Lib.hid (HBo.out.trans (HB2'.out.mono HBo.out.size))
        have KR2 : Hid (w2.heap[w.heap.size + 1]? = _) := Lib.hid ((HBY2.out.block (w.heap.size + 1) (by omega)).trans KRY.out)
        have KP2 : Hid (w2.heap[Y.heap.size]? = _) := Lib.hid ((HB2'.out.block Y.heap.size (heapE_lt KO.out)).trans KO.out)
        clear hb2 HCI
        obtain ⟨g0, g1, g2, g3⟩ := row4 KR2.out
        obtain ⟨f0, f1, f2, f3⟩ := row4f KR2.out
        cases cc with
        | true =>
          have HX : Hid (ME = 44) := Lib.hid (by
            rw [← HME.out]; unfold makeE
            rw [if_pos HC0.out, if_neg]
            rw [HGP.out, HSS.out, HNS.out]
            have h := HCC.out
            simpa using h)
          have S4 := Lib.hid (set4_same (a := .slice none 0 0) (b := .slice none 0 0) (c := .slice none 0 0) (d := .slice none 0 0) KR2.out)
          have HB4 := Lib.hid (below_set4 (g := w.heap.size + 1) HBW2.out (by omega) (.slice none 0 0) (.slice none 0 0) (.slice none 0 0) (.slice none 0 0))
          go_wp2_with fail
          obtain ⟨q0, q1, q2, q3⟩ := row4 S4.out
          refine bodyPost_ret (v := .tuple #[.agg #[.slice none 0 0, .slice none 0 0, .slice none 0 0, .slice none 0 0], .int .i64 44]) ?_ rfl ⟨HB4.out, .inl ⟨by rw [HX.out]; decide, by rw [HX.out]⟩⟩
          rw [results_cell_tmp rfl]; go_simp
        | false =>
          have HX : Hid (ME = 0) := Lib.hid (by
            rw [← HME.out]; unfold makeE
            rw [if_pos HC0.out, if_pos]
            rw [HGP.out, HSS.out, HNS.out]
            have h := HCC.out
            simpa using h)
          obtain ⟨y0, y1, y2, y3⟩ := row4 KP2.out
          have S4 := Lib.hid (set4_same (a := .slice A2 m c2) (b := .slice A3 m c3) (c := .slice AS k cS) (d := .slice AE M cE) KR2.out)
          have HB4 := Lib.hid (below_set4 (g := w.heap.size + 1) HBW2.out (by omega) (.slice A2 m c2) (.slice A3 m c3) (.slice AS k cS) (.slice AE M cE))
          have HR7 := Lib.hid ((HOS.out.kept HBY2.out).miss4 (a := .slice A2 m c2) (b := .slice A3 m c3) (c := .slice AS k cS) (d := .slice AE M cE) KR2.out (by decide))
          have HRE := Lib.hid ((HO.out.kept HB2'.out).miss4 (a := .slice A2 m c2) (b := .slice A3 m c3) (c := .slice AS k cS) (d := .slice AE M cE) KR2.out (by decide))
          go_wp2_with fail
          obtain ⟨q0, q1, q2, q3⟩ := row4 S4.out
          refine bodyPost_ret (v := .tuple #[.agg #[.slice A2 m c2, .slice A3 m c3, .slice AS k cS, .slice AE M cE], .int .i64 0]) ?_ rfl ⟨HB4.out, .inr ⟨HX.out, AS, k, cS, AE, M, cE, rfl, by rw [HSS.out]; exact HR7.out.less HBX.out.size, by rw [HGP.out]; exact HRE.out.less (by have := HZP.out; omega)⟩⟩
          rw [results_cell_tmp rfl]; go_simp
end Go.Proofs.YtminihiecloglaaGreat
