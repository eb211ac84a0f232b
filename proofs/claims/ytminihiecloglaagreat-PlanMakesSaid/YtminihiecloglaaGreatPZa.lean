/-
  MERGED: PPz PAk.
-/
import Derived.Test.YtminihiecloglaaGreatPMa
namespace Go.Proofs.YtminihiecloglaaGreat
open Go.RowKit
open SemP FlP GaP DiP
set_option linter.unusedVariables false
set_option linter.unusedSimpArgs false
set_option maxRecDepth 10000
theorem neS10 (a b c d : Int) (W : World) : (binOp .neq 111 (.agg #[.int .i64 a, .int .i64 b]) (.agg #[.int .i64 c, .int .i64 d])).run Tryz.prog W = .ok (.bool (!((a == c) && (b == d)))) W := by
  have u3 := Tryz.underlying3
  have a3 := Tryz.isAgg3
  have z3 := Tryz.sizeOf3
  have hS : Tryz.prog.underlying 111 = some (.struct (Tryz.prog.fieldsOf 111)) := by kernel_rfl
  have hp : Tryz.prog.stoodInHeld 111 = false := by kernel_rfl
  rw [run_neq_struct, show (10000 : Nat) = 9999 + 1 from rfl, run_equalIn_agg W 9999 111 _ _ hS hp]
  simp only [Program.fieldsOf, Tryz.underlying111]
  go_simp
  by_cases h1 : a = c <;> by_cases h2 : b = d <;> simp [h1, h2]
theorem eqPair_d (w : World) (d : Nat) (a b : Int) : (Op.equalIn (d + 2) 91 (.agg #[.int .i64 a, .int .i64 b]) (.agg #[.int .i64 a, .int .i64 b])).run Tryz.prog w = .ok true w := by
  have ht := Tryz.underlying91
  have hi3 := Tryz.underlying3
  obtain ⟨i1, hj, hj0, hj1, hj2⟩ := info_parts infoInt
  have q := fun x => run_equalIn_int (P := Tryz.prog) w d 3 .i64 .i64 x x hi3
  unfold Op.equalIn
  simp [run_underlying ht, sizeOf, typeInfo, hj, hj1, List.range', part, q]
theorem nePair (a b : Int) (W : World) : (binOp .neq 91 (.agg #[.int .i64 a, .int .i64 b]) (.agg #[.int .i64 a, .int .i64 b])).run Tryz.prog W = .ok (.bool false) W := by
  rw [run_neq_struct, show (10000 : Nat) = 9998 + 2 from rfl, eqPair_d W 9998 a b]; rfl
theorem take_sAt {S : List StP} {k : Nat} (h : k < S.length) : S.take (k + 1) = S.take k ++ [sAt S k] := by
  unfold sAt
  rw [List.take_add_one, List.getD_eq_getElem?_getD, List.getElem?_eq_getElem h]
  rfl
theorem other4 {w : World} {g k : Nat} {a b c d : Value} (h : k ≠ g) : ((((w.setCell ⟨g, 0, none⟩ a).setCell ⟨g, 1, none⟩ b).setCell ⟨g, 2, none⟩ c).setCell ⟨g, 3, none⟩ d).heap[k]? = w.heap[k]? := by
  rw [heap_setCell_other _ _ k _ h, heap_setCell_other _ _ k _ h, heap_setCell_other _ _ k _ h, heap_setCell_other _ _ k _ h]
set_option maxHeartbeats 16000000 in
theorem plain_ok {w : World} {B nF cF nT cT nS cS nE cE : Nat} {AF AT AS AE : Option Addr} {S : List StP} (hS : RdS w B AS nS S) (hB : B ≤ w.heap.size) (h1 : nF ≤ 30) (h2 : nT ≤ 30) (h3 : nS ≤ 40) (h4 : nE ≤ 200) :
    Calls Tryz.prog 16 #[.agg #[.slice AF nF cF, .slice AT nT cT, .slice AS nS cS, .slice AE nE cE]] w fun e w' => ∃ A' c', e = .returned (.tuple #[.agg #[.slice AF nF cF, .slice AT nT cT, .slice A' nS c', .slice AE nE cE], .bool true]) ∧ OwnF 111 2 spF w' w.heap.size (.slice A' nS c') S ∧ Below w.heap.size w w' := by
  obtain ⟨W, HW⟩ : ∃ W, Hid (W = (w.alloc (.cells #[.slice AF nF cF, .slice AT nT cT, .slice AS nS cS, .slice AE nE cE] 35)).alloc (.cells #[.slice none 0 0, .slice none 0 0, .slice none 0 0, .slice none 0 0] 41)) := ⟨_, Lib.hid rfl⟩
  have hbl : Below w.heap.size w W := by rw [HW.out]; exact ((Below.refl _ w).alloc (Nat.le_refl _) _).alloc (by simp) _
  have HBL := Lib.hid hbl
  have HZ : Hid (W.heap.size = w.heap.size + 2) := Lib.hid (by rw [HW.out]; simp)
  have H0 : Hid (W.heap[w.heap.size]? = some (.cells #[.slice AF nF cF, .slice AT nT cT, .slice AS nS cS, .slice AE nE cE] 35 (0, 0))) := Lib.hid (by
    rw [HW.out, Below.heap_alloc _ _ _ (by simp)]; exact heap_new w _)
  have H1 : Hid (W.heap[w.heap.size + 1]? = some (.cells #[.slice none 0 0, .slice none 0 0, .slice none 0 0, .slice none 0 0] 41 (0, 0))) := Lib.hid (by
    rw [HW.out]
    have h := heap_new (w.alloc (.cells #[.slice AF nF cF, .slice AT nT cT, .slice AS nS cS, .slice AE nE cE] 35)) (.cells #[.slice none 0 0, .slice none 0 0, .slice none 0 0, .slice none 0 0] 41)
    rw [World.size_alloc] at h; exact h)
  have HS := Lib.hid (hS.below (hbl.mono hB) hB)
  have HB : Hid (B ≤ W.heap.size) := Lib.hid (Nat.le_trans hB hbl.size)
  have HNS : Hid (S.length = nS) := Lib.hid hS.len
  obtain ⟨P, HP⟩ : ∃ P, Hid (P = W.alloc (.cells #[.slice AF nF cF, .slice AT nT cT, .slice none 0 0, .slice AE nE cE] 41)) := ⟨_, Lib.hid rfl⟩
  have HWP : Hid (Below W.heap.size W P) := Lib.hid (by rw [HP.out]; exact (Below.refl _ W).alloc (Nat.le_refl _) _)
  have HZP : Hid (P.heap.size = W.heap.size + 1) := Lib.hid (by rw [HP.out]; simp)
  have KP : Hid (P.heap[W.heap.size]? = some (.cells #[.slice AF nF cF, .slice AT nT cT, .slice none 0 0, .slice AE nE cE] 41 (0, 0))) := Lib.hid (by rw [HP.out]; exact heap_new W _)
  clear hS hB hbl
  go_enter Tryz.func16, Tryz.ntmps16
  go_upto_region 1 with fail
  change Code.wp _ _ _ _ ((w.alloc (.cells #[.slice AF nF cF, .slice AT nT cT, .slice AS nS cS, .slice AE nE cE] 35)).alloc (.cells #[.slice none 0 0, .slice none 0 0, .slice none 0 0, .slice none 0 0] 41))
  rw [← HW.out]
  obtain ⟨x0, x1, x2, x3⟩ := row4 H0.out
  go_upto_region 2 with fail
  rw [← HP.out]
  clear x0 x1 x2 x3
  obtain ⟨_, _, x2, _⟩ := row4 ((HWP.out.block w.heap.size (heapE_lt H0.out)).trans H0.out)
  go_wp2_with fail
  clear x2
  go_loopw [6, 17] (fun _ v wr => ∃ k : Nat, k ≤ nS ∧ v = .int .i64 (k : Int) ∧ Hid (Below W.heap.size W wr) ∧ ∃ A' M' c', Hid (wr.heap[W.heap.size]? = some (.cells #[.slice AF nF cF, .slice AT nT cT, .slice A' M' c', .slice AE nE cE] 41 (0, 0))) ∧ Hid (OwnF 111 2 spF wr P.heap.size (.slice A' M' c') (S.take k))) (fun _ v _ => nS - (intOf v).toNat)
  case atStart => exact ⟨0, Nat.zero_le _, rfl, HWP, none, 0, 0, KP, Lib.hid (OwnF.nil_ _ _ _ _ _)⟩
  case round =>
    obtain ⟨wo, hwo⟩ : ∃ x, x = wr := ⟨_, rfl⟩
    subst hwo
    obtain ⟨k, hk, rfl, HBo, A', M', c', KO, HO⟩ := hrel
    by_cases hkn : k < nS
    · have hd : decide ((k : Int) < (nS : Int)) = true := by simp; omega
      have hki : (k : Int) < (nS : Int) := by omega
      have hk0 : (0 : Int) ≤ (k : Int) := by omega
      have hadd : IntKind.i64.wrap ((k : Int) + 1) = ((k + 1 : Nat) : Int) := by rw [IntWalk.i64_in _ (by omega)]; omega
      obtain ⟨b, off, rfl, hlt, s0, s1⟩ := (HS.out.below (HBo.out.mono HB.out) HB.out).at_ k hkn
      obtain ⟨⟨x, p⟩, HX⟩ : ∃ q, Hid (sAt S k = q) := ⟨_, Lib.hid rfl⟩
      rw [HX.out] at s0 s1
      replace s0 : wo.cell? ⟨b, off + k * 2, none⟩ = some (.int .i64 x) := s0
      replace s1 : wo.cell? ⟨b, off + k * 2 + 1, none⟩ = some (.int .i64 p) := s1
      obtain ⟨wq, HWQ⟩ : ∃ wq, Hid (wq = wo.alloc (.cells #[.int .i64 x, .int .i64 p] 64)) := ⟨_, Lib.hid rfl⟩
      have HBQ : Hid (Below wo.heap.size wo wq) := Lib.hid (by rw [HWQ.out]; exact (Below.refl _ wo).alloc (Nat.le_refl _) _)
      have KSQ : Hid (wq.heap[wo.heap.size]? = some (.cells #[.int .i64 x, .int .i64 p] 64 (0, 0))) := Lib.hid (by rw [HWQ.out]; exact heap_new wo _)
      have KQ : Hid (wq.heap[W.heap.size]? = _) := Lib.hid ((HBQ.out.block W.heap.size (heapE_lt KO.out)).trans KO.out)
      have HB1 : Hid (Below W.heap.size W wq) := Lib.hid (HBo.out.trans (HBQ.out.mono HBo.out.size))
      have HOQ := Lib.hid (HO.out.kept HBQ.out)
      obtain ⟨L1, HL1⟩ : ∃ q, Hid (S.take k = q) := ⟨_, Lib.hid rfl⟩
      have HNX : Hid (S.take (k + 1) = L1 ++ [(x, p)]) := Lib.hid (by rw [take_sAt (by rw [HNS.out]; exact hkn), HL1.out, HX.out])
      have HLL : Hid (L1.length ≤ 40) := Lib.hid (by rw [← HL1.out, List.length_take]; omega)
      rw [HL1.out] at HOQ
      obtain ⟨L2, HL2⟩ : ∃ q, Hid (L1 ++ [(x, p)] = q) := ⟨_, Lib.hid rfl⟩
      obtain ⟨M2, HM2⟩ : ∃ q, Hid (L2.length = q) := ⟨_, Lib.hid rfl⟩
      have hzq : P.heap.size ≤ wq.heap.size := by have := heapE_lt KQ.out; have := HZP.out; omega
      go_upto_region 5 with fail
      rw [← HWQ.out]
      clear s0 s1
      obtain ⟨q0, q1, _, _⟩ := row2 KSQ.out
      obtain ⟨_, _, y2, _⟩ := row4 KQ.out
      go_wp2_with (at_builtin; refine wplF_apps (f := spF) (fun _ => rfl) (fun x u hu => by simp [spF] at hu; rcases hu with rfl | rfl <;> rfl) Tryz.underlying39 infoRS rfl (by decide) (by decide) rfl (.tmp 22) (.tmp 24) rfl P.heap.size _ L1 rfl (HOQ.out.alloc _) wq.heap.size 1 1 [(x, p)] rfl rfl (cells_of (heap_new _ _)) (by have := HLL.out; omega) (by simp; omega) ?_; intro v' w2 hown2 hgr2 hat2; rw [HL2.out] at hown2; obtain ⟨A2, d2, hv2⟩ := hown2.shape; rw [HM2.out] at hv2; subst hv2; (have HGB : Hid (w2.heap[W.heap.size]? = some (.cells #[.slice AF nF cF, .slice AT nT cT, .slice A' M' c', .slice AE nE cE] 41 (0, 0))) := Lib.hid (by rw [hgr2.block W.heap.size (by simp; have := heapE_lt KQ.out; omega) (fun h => by have := HOQ.out.ge _ h.symm; have := HZP.out; omega), Below.heap_alloc _ _ _ (heapE_lt KQ.out)]; exact KQ.out)); (have HBB : Hid (Below W.heap.size W w2) := Lib.hid ((HB1.out.alloc (HB1.out.size) _).grown hgr2 (by simp; have := HB1.out.size; omega) (fun g hg => by have := HOQ.out.ge g hg; have := HZP.out; omega))); (have HO2 := Lib.hid hown2); (obtain ⟨u0, u1, u2, u3⟩ := row4 HGB.out); (obtain ⟨_, _, f2, _⟩ := row4f HGB.out); clear hown2 hgr2 hat2)
      have HST : Hid ((w2.setCell ⟨W.heap.size, 2, none⟩ (.slice A2 M2 d2)).heap[W.heap.size]? = some (.cells #[.slice AF nF cF, .slice AT nT cT, .slice A2 M2 d2, .slice AE nE cE] 41 (0, 0))) := Lib.hid (heap_setCell_same w2 W.heap.size 2 _ _ _ HGB.out)
      have HOX : Hid (OwnF 111 2 spF (w2.setCell ⟨W.heap.size, 2, none⟩ (.slice A2 M2 d2)) P.heap.size (.slice A2 M2 d2) L2) := Lib.hid (HO2.out.setC (p := ⟨W.heap.size, 2, none⟩) (by have := HZP.out; show W.heap.size < P.heap.size; omega) _)
      have HBX2 : Hid (Below W.heap.size W (w2.setCell ⟨W.heap.size, 2, none⟩ (.slice A2 M2 d2))) := Lib.hid (HBB.out.setCell (p := ⟨W.heap.size, 2, none⟩) (Nat.le_refl _) _)
      have HN2 : Hid (S.take (k + 1) = L2) := Lib.hid (by rw [HNX.out, HL2.out])
      go_roundw
      case rel => exact ⟨k + 1, by omega, by go_num, HBX2, A2, M2, d2, HST, Lib.hid (by rw [HN2.out]; exact HOX.out)⟩
      case measure => simp [intOf]; omega
    · have hd : decide ((k : Int) < (nS : Int)) = false := by simp; omega
      obtain rfl : k = nS := by omega
      have HTK : Hid (S.take k = S) := Lib.hid (by rw [← HNS.out, List.take_length])
      rw [HTK.out] at HO
      obtain rfl : M' = k := by obtain ⟨_, _, e⟩ := HO.out.shape; injection e with _ e _; rw [e, HNS.out]
      have KR : Hid (wo.heap[w.heap.size + 1]? = _) := Lib.hid ((HBo.out.block (w.heap.size + 1) (by have := HZ.out; omega)).trans H1.out)
      obtain ⟨x0, x1, x2, x3⟩ := row4 ((HBo.out.block w.heap.size (heapE_lt H0.out)).trans H0.out)
      obtain ⟨y0, y1, y2, y3⟩ := row4 KO.out
      obtain ⟨g0, g1, g2, g3⟩ := row4 KR.out
      obtain ⟨f0, f1, f2, f3⟩ := row4f KR.out
      have p1 : (nF : Int) ≤ 30 := by omega
      have p2 : (nT : Int) ≤ 30 := by omega
      have p3 : (M' : Int) ≤ 40 := by omega
      have p4 : (nE : Int) ≤ 200 := by omega
      have d1 : decide ((nF : Int) ≤ 30) = true := decide_eq_true p1
      have d2 : decide ((nT : Int) ≤ 30) = true := decide_eq_true p2
      have d3 : decide ((M' : Int) ≤ 40) = true := decide_eq_true p3
      have d4 : decide ((nE : Int) ≤ 200) = true := decide_eq_true p4
      have S4 := Lib.hid (set4_same (a := .slice AF nF cF) (b := .slice AT nT cT) (c := .slice A' M' c') (d := .slice AE nE cE) KR.out)
      have HB4 := Lib.hid (below_set4 (g := w.heap.size + 1) (HBL.out.trans (HBo.out.mono HBL.out.size)) (by omega) (.slice AF nF cF) (.slice AT nT cT) (.slice A' M' c') (.slice AE nE cE))
      have HO4 := Lib.hid (HO.out.miss4 (a := .slice AF nF cF) (b := .slice AT nT cT) (c := .slice A' M' c') (d := .slice AE nE cE) KR.out (by decide))
      have K0 := (HBo.out.block w.heap.size (heapE_lt H0.out)).trans H0.out
      obtain ⟨z0, z1, z2, z3⟩ := row4 ((other4 (w := wo) (g := w.heap.size + 1) (k := w.heap.size) (a := .slice AF nF cF) (b := .slice AT nT cT) (c := .slice A' M' c') (d := .slice AE nE cE) (by omega)).trans K0)
      obtain ⟨z4, z5, z6, z7⟩ := row4 ((other4 (w := wo) (g := w.heap.size + 1) (k := W.heap.size) (a := .slice AF nF cF) (b := .slice AT nT cT) (c := .slice A' M' c') (d := .slice AE nE cE) (by have := HZ.out; omega)).trans KO.out)
      go_wp2_with fail
      go_region_held3 (fun W' => W'.cell? ⟨w.heap.size, 0, none⟩ = some (.slice AF nF cF) ∧ W'.cell? ⟨w.heap.size, 1, none⟩ = some (.slice AT nT cT) ∧ W'.cell? ⟨w.heap.size, 2, none⟩ = some (.slice AS M' cS) ∧ W'.cell? ⟨w.heap.size, 3, none⟩ = some (.slice AE nE cE) ∧ W'.cell? ⟨W.heap.size, 0, none⟩ = some (.slice AF nF cF) ∧ W'.cell? ⟨W.heap.size, 1, none⟩ = some (.slice AT nT cT) ∧ W'.cell? ⟨W.heap.size, 2, none⟩ = some (.slice A' M' c') ∧ W'.cell? ⟨W.heap.size, 3, none⟩ = some (.slice AE nE cE)) ((first | exact ⟨x0, x1, x2, x3, y0, y1, y2, y3⟩ | exact ⟨z0, z1, z2, z3, z4, z5, z6, z7⟩ | go_keep)) (fail)
      go_wp2_with fail
      obtain ⟨q0, q1, q2, q3⟩ := row4 S4.out
      refine bodyPost_ret (v := .tuple #[.agg #[.slice AF nF cF, .slice AT nT cT, .slice A' M' c', .slice AE nE cE], .bool true]) ?_ rfl ⟨A', c', rfl, HO4.out.less (by have := HZP.out; have := HBL.out.size; omega), HB4.out.drew⟩
      rw [results_cell_tmp rfl]; go_simp
end Go.Proofs.YtminihiecloglaaGreat

namespace Go.Proofs.YtminihiecloglaaGreat
open Go.RowKit
open SemP FlP GaP DiP
set_option linter.unusedVariables false
set_option linter.unusedSimpArgs false
set_option maxRecDepth 10000
set_option maxHeartbeats 16000000 in
theorem alike_yes {w : World} {BF BT BS BE BF2 BT2 BS2 BE2 nF cF nT cT nS cS nE cE dF dT dS dE : Nat} {AF AT AS AE DF DT DS DE : Option Addr} {fs ts : List Int} {S : List StP} {es : List (Nat × Nat)}
    (hF : Rd w BF AF nF fs) (hT : Rd w BT AT nT ts) (hS : RdS w BS AS nS S) (hE : RdEg w BE AE nE es) (hF2 : Rd w BF2 DF nF fs) (hT2 : Rd w BT2 DT nT ts) (hS2 : RdS w BS2 DS nS S) (hE2 : RdEg w BE2 DE nE es)
    (hBF : BF ≤ w.heap.size) (hBT : BT ≤ w.heap.size) (hBS : BS ≤ w.heap.size) (hBE : BE ≤ w.heap.size) (hBF2 : BF2 ≤ w.heap.size) (hBT2 : BT2 ≤ w.heap.size) (hBS2 : BS2 ≤ w.heap.size) (hBE2 : BE2 ≤ w.heap.size) (h1 : nF ≤ 30) (h2 : nT ≤ 30) (h3 : nS ≤ 40) (h4 : nE ≤ 200) :
    Calls Tryz.prog 15 #[.agg #[.slice AF nF cF, .slice AT nT cT, .slice AS nS cS, .slice AE nE cE], .agg #[.slice DF nF dF, .slice DT nT dT, .slice DS nS dS, .slice DE nE dE]] w fun e w' => e = .returned (.bool true) ∧ Below w.heap.size w w' := by
  obtain ⟨W, HW⟩ : ∃ W, Hid (W = (w.alloc (.cells #[.slice AF nF cF, .slice AT nT cT, .slice AS nS cS, .slice AE nE cE] 35)).alloc (.cells #[.slice DF nF dF, .slice DT nT dT, .slice DS nS dS, .slice DE nE dE] 41)) := ⟨_, Lib.hid rfl⟩
  have hbl : Below w.heap.size w W := by rw [HW.out]; exact ((Below.refl _ w).alloc (Nat.le_refl _) _).alloc (by simp) _
  have HBL := Lib.hid hbl
  have HZ : Hid (W.heap.size = w.heap.size + 2) := Lib.hid (by rw [HW.out]; simp)
  have H0 : Hid (W.heap[w.heap.size]? = some (.cells #[.slice AF nF cF, .slice AT nT cT, .slice AS nS cS, .slice AE nE cE] 35 (0, 0))) := Lib.hid (by
    rw [HW.out, Below.heap_alloc _ _ _ (by simp)]; exact heap_new w _)
  have H1 : Hid (W.heap[w.heap.size + 1]? = some (.cells #[.slice DF nF dF, .slice DT nT dT, .slice DS nS dS, .slice DE nE dE] 41 (0, 0))) := Lib.hid (by
    rw [HW.out]
    have h := heap_new (w.alloc (.cells #[.slice AF nF cF, .slice AT nT cT, .slice AS nS cS, .slice AE nE cE] 35)) (.cells #[.slice DF nF dF, .slice DT nT dT, .slice DS nS dS, .slice DE nE dE] 41)
    rw [World.size_alloc] at h; exact h)
  have HF := Lib.hid (hF.below (hbl.mono hBF))
  have HT := Lib.hid (hT.below (hbl.mono hBT))
  have HE := Lib.hid (hE.below (hbl.mono hBE))
  have HF2 := Lib.hid (hF2.below (hbl.mono hBF2))
  have HT2 := Lib.hid (hT2.below (hbl.mono hBT2))
  have HS2 := Lib.hid (hS2.below (hbl.mono hBS2) hBS2)
  have HE2 := Lib.hid (hE2.below (hbl.mono hBE2))
  have LF : Hid (BF ≤ W.heap.size) := Lib.hid (Nat.le_trans hBF hbl.size)
  have LT : Hid (BT ≤ W.heap.size) := Lib.hid (Nat.le_trans hBT hbl.size)
  have LE : Hid (BE ≤ W.heap.size) := Lib.hid (Nat.le_trans hBE hbl.size)
  have LF2 : Hid (BF2 ≤ W.heap.size) := Lib.hid (Nat.le_trans hBF2 hbl.size)
  have LT2 : Hid (BT2 ≤ W.heap.size) := Lib.hid (Nat.le_trans hBT2 hbl.size)
  have LS2 : Hid (BS2 ≤ W.heap.size) := Lib.hid (Nat.le_trans hBS2 hbl.size)
  have LE2 : Hid (BE2 ≤ W.heap.size) := Lib.hid (Nat.le_trans hBE2 hbl.size)
  have HPL := Lib.hid (plain_ok (w := W) (cF := cF) (cT := cT) (cS := cS) (cE := cE) (AF := AF) (AT := AT) (AE := AE) (hS.below (hbl.mono hBS) hBS) (Nat.le_trans hBS hbl.size) h1 h2 h3 h4)
  have P1 := Lib.hid h1
  have P2 := Lib.hid h2
  have P3 := Lib.hid h3
  have P4 := Lib.hid h4
  clear hF hT hS hE hF2 hT2 hS2 hE2 hBF hBT hBS hBE hBF2 hBT2 hBS2 hBE2 hbl h1 h2 h3 h4
  go_enter Tryz.func15, Tryz.ntmps15
  go_upto_region 1 with fail
  change Code.wp _ _ _ _ ((w.alloc (.cells #[.slice AF nF cF, .slice AT nT cT, .slice AS nS cS, .slice AE nE cE] 35)).alloc (.cells #[.slice DF nF dF, .slice DT nT dT, .slice DS nS dS, .slice DE nE dE] 41))
  rw [← HW.out]
  obtain ⟨x0, x1, x2, x3⟩ := row4 H0.out
  go_wp2_with fail
  refine HPL.out.mono ?_
  rintro e X ⟨CS, kS, rfl, hown, hbX⟩
  have HBX := Lib.hid hbX
  have HO := Lib.hid hown
  obtain ⟨P, HP⟩ : ∃ P, Hid (P = X.alloc (.cells #[.slice AF nF cF, .slice AT nT cT, .slice CS nS kS, .slice AE nE cE] 41)) := ⟨_, Lib.hid rfl⟩
  have HXP : Hid (Below X.heap.size X P) := Lib.hid (by rw [HP.out]; exact (Below.refl _ X).alloc (Nat.le_refl _) _)
  have KP : Hid (P.heap[X.heap.size]? = some (.cells #[.slice AF nF cF, .slice AT nT cT, .slice CS nS kS, .slice AE nE cE] 41 (0, 0))) := Lib.hid (by rw [HP.out]; exact heap_new X _)
  have HWP : Hid (Below W.heap.size W P) := Lib.hid (hbX.trans (HXP.out.mono hbX.size))
  have KQ : Hid (P.heap[w.heap.size + 1]? = _) := Lib.hid ((HWP.out.block (w.heap.size + 1) (heapE_lt H1.out)).trans H1.out)
  have HRS : Hid (RdS P P.heap.size CS nS S) := Lib.hid (HO.out.kept HXP.out).rdG
  have HI1 := Lib.hid (ints_same (w := P) (c := cF) (d := dF) (HF.out.below (HWP.out.mono LF.out)) (HF2.out.below (HWP.out.mono LF2.out)) (by have := P1.out; omega) (by have := P1.out; omega))
  clear hown hbX x0 x1 x2 x3 HPL
  go_upto_region 2 with fail
  rw [← HP.out]
  obtain ⟨y0, y1, y2, y3⟩ := row4 KP.out
  obtain ⟨z0, z1, z2, z3⟩ := row4 KQ.out
  go_wp2_with fail
  refine HI1.out.mono ?_
  rintro e Y ⟨rfl, hb⟩
  have HBY := Lib.hid hb
  have HWY : Hid (Below W.heap.size W Y) := Lib.hid (HWP.out.trans (hb.mono HWP.out.size))
  have KPY : Hid (Y.heap[X.heap.size]? = _) := Lib.hid ((hb.block X.heap.size (heapE_lt KP.out)).trans KP.out)
  have KQY : Hid (Y.heap[w.heap.size + 1]? = _) := Lib.hid ((hb.block (w.heap.size + 1) (heapE_lt KQ.out)).trans KQ.out)
  have HI2 := Lib.hid (ints_same (w := Y) (c := cT) (d := dT) (HT.out.below (HWY.out.mono LT.out)) (HT2.out.below (HWY.out.mono LT2.out)) (by have := P2.out; omega) (by have := P2.out; omega))
  clear hb y0 y1 y2 y3 z0 z1 z2 z3 HI1
  obtain ⟨y0, y1, y2, y3⟩ := row4 KPY.out
  obtain ⟨z0, z1, z2, z3⟩ := row4 KQY.out
  go_wp2_with fail
  refine HI2.out.mono ?_
  rintro e Z ⟨rfl, hb⟩
  have HPZ : Hid (Below P.heap.size P Z) := Lib.hid (HBY.out.trans (hb.mono HBY.out.size))
  have HWZ : Hid (Below W.heap.size W Z) := Lib.hid (HWY.out.trans (hb.mono HWY.out.size))
  have KPZ : Hid (Z.heap[X.heap.size]? = _) := Lib.hid ((hb.block X.heap.size (heapE_lt KPY.out)).trans KPY.out)
  have KQZ : Hid (Z.heap[w.heap.size + 1]? = _) := Lib.hid ((hb.block (w.heap.size + 1) (heapE_lt KQY.out)).trans KQY.out)
  clear hb y0 y1 y2 y3 z0 z1 z2 z3 HI2
  obtain ⟨y0, y1, y2, y3⟩ := row4 KPZ.out
  obtain ⟨z0, z1, z2, z3⟩ := row4 KQZ.out
  have hnn1 : ((nS : Int) != (nS : Int)) = false := by simp
  have hnn2 : ((nE : Int) != (nE : Int)) = false := by simp
  go_wp2_with fail
  clear y0 y1 y2 y3 z0 z1 z2 z3
  have HZ0 : Hid (Below w.heap.size w Z) := Lib.hid (HBL.out.trans (HWZ.out.mono HBL.out.size))
  go_loopw [7, 8, 55] (fun _ _ v wr => ∃ k : Nat, k ≤ nS ∧ v = .int .i64 (k : Int) ∧ Hid (Below Z.heap.size Z wr)) (fun _ _ v _ => nS - (intOf v).toNat)
  case atStart => exact ⟨0, Nat.zero_le _, rfl, Lib.hid (Below.refl _ _)⟩
  case round =>
    obtain ⟨wo, hwo⟩ : ∃ x, x = wr := ⟨_, rfl⟩
    subst hwo
    obtain ⟨k, hk, rfl, HBo⟩ := hrel
    have KPo : Hid (wo.heap[X.heap.size]? = _) := Lib.hid ((HBo.out.block X.heap.size (heapE_lt KPZ.out)).trans KPZ.out)
    have KQo : Hid (wo.heap[w.heap.size + 1]? = _) := Lib.hid ((HBo.out.block (w.heap.size + 1) (heapE_lt KQZ.out)).trans KQZ.out)
    by_cases hkn : k < nS
    · have hd : decide ((k : Int) < (nS : Int)) = true := by simp; omega
      have hki : (k : Int) < (nS : Int) := by omega
      have hk0 : (0 : Int) ≤ (k : Int) := by omega
      have hadd : IntKind.i64.wrap ((k : Int) + 1) = ((k + 1 : Nat) : Int) := by rw [IntWalk.i64_in _ (by have := P3.out; omega)]; omega
      have hPo := HPZ.out.trans (HBo.out.mono HPZ.out.size)
      have hWo := HWZ.out.trans (HBo.out.mono HWZ.out.size)
      obtain ⟨b1, o1, rfl, hl1, s0, s1⟩ := (HRS.out.below hPo (Nat.le_refl _)).at_ k hkn
      obtain ⟨b2, o2, rfl, hl2, t0, t1⟩ := (HS2.out.below (hWo.mono LS2.out) LS2.out).at_ k hkn
      obtain ⟨⟨x, p⟩, HX⟩ : ∃ q, Hid (sAt S k = q) := ⟨_, Lib.hid rfl⟩
      rw [HX.out] at s0 s1 t0 t1
      replace s0 : wo.cell? ⟨b1, o1 + k * 2, none⟩ = some (.int .i64 x) := s0
      replace s1 : wo.cell? ⟨b1, o1 + k * 2 + 1, none⟩ = some (.int .i64 p) := s1
      obtain ⟨wq, HWQ⟩ : ∃ wq, Hid (wq = wo.alloc (.cells #[.int .i64 x, .int .i64 p] 111)) := ⟨_, Lib.hid rfl⟩
      have HBQ : Hid (Below wo.heap.size wo wq) := Lib.hid (by rw [HWQ.out]; exact (Below.refl _ wo).alloc (Nat.le_refl _) _)
      have KSQ : Hid (wq.heap[wo.heap.size]? = some (.cells #[.int .i64 x, .int .i64 p] 111 (0, 0))) := Lib.hid (by rw [HWQ.out]; exact heap_new wo _)
      have HBZ : Hid (Below Z.heap.size Z wq) := Lib.hid (HBo.out.trans (HBQ.out.mono HBo.out.size))
      have hl2o : b2 < wo.heap.size := Nat.lt_of_lt_of_le hl2 (Nat.le_trans LS2.out hWo.size)
      replace t0 : wq.cell? ⟨b2, o2 + k * 2, none⟩ = some (.int .i64 x) := (HBQ.out.cell (p := ⟨b2, o2 + k * 2, none⟩) hl2o).trans t0
      replace t1 : wq.cell? ⟨b2, o2 + k * 2 + 1, none⟩ = some (.int .i64 p) := (HBQ.out.cell (p := ⟨b2, o2 + k * 2 + 1, none⟩) hl2o).trans t1
      obtain ⟨_, _, z2, _⟩ := row4 ((HBQ.out.block (w.heap.size + 1) (heapE_lt KQo.out)).trans KQo.out)
      have hEq := fun W => neS10 x p x p W
      simp only [beq_self_eq_true, Bool.and_self, Bool.not_true] at hEq
      clear hPo hWo
      go_upto_region 7 with fail
      rw [← HWQ.out]
      clear s0 s1
      obtain ⟨q0, q1, _, _⟩ := row2 KSQ.out
      go_quiet (fail)
      go_wp2_with fail
      go_roundw
      case rel => exact ⟨k + 1, by omega, by go_num, Lib.hid (by first | exact HBZ.out | exact Below.drewN' HBZ.out _)⟩
      case measure => simp [intOf]; omega
    · have hd : decide ((k : Int) < (nS : Int)) = false := by simp; omega
      obtain rfl : k = nS := by omega
      obtain ⟨_, _, _, y3⟩ := row4 KPo.out
      go_wp2_with fail
      clear y3
      have HWo : Hid (Below w.heap.size w wo) := Lib.hid (HZ0.out.trans (HBo.out.mono HZ0.out.size))
      go_loopw [9, 10, 71] (fun _ _ v wr => ∃ j : Nat, j ≤ nE ∧ v = .int .i64 (j : Int) ∧ Hid (Below wo.heap.size wo wr)) (fun _ _ v _ => nE - (intOf v).toNat)
      case atStart => exact ⟨0, Nat.zero_le _, rfl, Lib.hid (Below.refl _ _)⟩
      case round =>
        obtain ⟨wi, hwi⟩ : ∃ x, x = wr := ⟨_, rfl⟩
        subst hwi
        obtain ⟨j, hj, rfl, HBi⟩ := hrel
        have HWi : Hid (Below w.heap.size w wi) := Lib.hid (HWo.out.trans (HBi.out.mono HWo.out.size))
        have KQi : Hid (wi.heap[w.heap.size + 1]? = _) := Lib.hid ((HBi.out.block (w.heap.size + 1) (heapE_lt KQo.out)).trans KQo.out)
        by_cases hjn : j < nE
        · have hd2 : decide ((j : Int) < (nE : Int)) = true := by simp; omega
          have hji : (j : Int) < (nE : Int) := by omega
          have hj0 : (0 : Int) ≤ (j : Int) := by omega
          have hadd2 : IntKind.i64.wrap ((j : Int) + 1) = ((j + 1 : Nat) : Int) := by rw [IntWalk.i64_in _ (by have := P4.out; omega)]; omega
          have hWi := (HWZ.out.trans (HBo.out.mono HWZ.out.size)).trans (HBi.out.mono (HWZ.out.trans (HBo.out.mono HWZ.out.size)).size)
          obtain ⟨b1, o1, rfl, hl1, s0, s1⟩ := (HE.out.below (hWi.mono LE.out)).at_ hjn
          obtain ⟨b2, o2, rfl, hl2, t0, t1⟩ := (HE2.out.below (hWi.mono LE2.out)).at_ hjn
          obtain ⟨x, HX⟩ : ∃ q, Hid ((fa es j : Int) = q) := ⟨_, Lib.hid rfl⟩
          obtain ⟨p, HPP⟩ : ∃ q, Hid ((fb es j : Int) = q) := ⟨_, Lib.hid rfl⟩
          rw [HX.out] at s0 t0
          rw [HPP.out] at s1 t1
          obtain ⟨wq, HWQ⟩ : ∃ wq, Hid (wq = wi.alloc (.cells #[.int .i64 x, .int .i64 p] 91)) := ⟨_, Lib.hid rfl⟩
          have HBQ : Hid (Below wi.heap.size wi wq) := Lib.hid (by rw [HWQ.out]; exact (Below.refl _ wi).alloc (Nat.le_refl _) _)
          have KSQ : Hid (wq.heap[wi.heap.size]? = some (.cells #[.int .i64 x, .int .i64 p] 91 (0, 0))) := Lib.hid (by rw [HWQ.out]; exact heap_new wi _)
          have HBZ : Hid (Below wo.heap.size wo wq) := Lib.hid (HBi.out.trans (HBQ.out.mono HBi.out.size))
          have hl2o : b2 < wi.heap.size := Nat.lt_of_lt_of_le hl2 (Nat.le_trans LE2.out hWi.size)
          replace t0 : wq.cell? ⟨b2, o2 + j * 2, none⟩ = some (.int .i64 x) := (HBQ.out.cell (p := ⟨b2, o2 + j * 2, none⟩) hl2o).trans t0
          replace t1 : wq.cell? ⟨b2, o2 + j * 2 + 1, none⟩ = some (.int .i64 p) := (HBQ.out.cell (p := ⟨b2, o2 + j * 2 + 1, none⟩) hl2o).trans t1
          obtain ⟨_, _, _, z3⟩ := row4 ((HBQ.out.block (w.heap.size + 1) (heapE_lt KQi.out)).trans KQi.out)
          have hEq := nePair x p
          clear hWi
          go_upto_region 13 with fail
          rw [← HWQ.out]
          clear s0 s1
          obtain ⟨q0, q1, _, _⟩ := row2 KSQ.out
          go_quiet (fail)
          go_wp2_with fail
          go_roundw
          case rel => exact ⟨j + 1, by omega, by go_num, Lib.hid (by first | exact HBZ.out | exact Below.drewN' HBZ.out _)⟩
          case measure => simp [intOf]; omega
        · have hd2 : decide ((j : Int) < (nE : Int)) = false := by simp; omega
          go_wp2_with fail
          exact bodyPost_ret (results_tmp rfl _ _ _) rfl ⟨rfl, HWi.out⟩
end Go.Proofs.YtminihiecloglaaGreat
