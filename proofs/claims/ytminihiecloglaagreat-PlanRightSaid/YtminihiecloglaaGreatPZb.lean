/-
 MERGED: PRs PMb PPz.
-/
import Derived.Test.YtminihiecloglaaGreatPRi
import Derived.Test.YtminihiecloglaaGreatPMk
set_option linter.unusedVariables false
set_option linter.unusedSimpArgs false
namespace Go.Proofs.YtminihiecloglaaGreat
open Go.RowKit
open SemP FlP GaP DiP
set_option maxRecDepth 10000
theorem infoRS : (Tryz.prog.info? 111).map (fun i => (i.zero, i.size, i.bytes)) = some (some (.agg #[.int .i64 0, .int .i64 0]), 2, 16) := by kernel_rfl
end Go.Proofs.YtminihiecloglaaGreat
namespace Go.Proofs.YtminihiecloglaaGreat
open Go.RowKit
open SemP FlP GaP DiP
set_option maxRecDepth 10000
theorem OwnF.rdG {E : TypeId} {w : World} {base n c : Nat} {A : Option Addr} {S : List StP} (h : OwnF E 2 spF w base (.slice A n c) S) : RdS w w.heap.size A n S := by
 obtain ⟨A', c', hA⟩ := h.shape
 injection hA with hA hn hc
 subst hA hc
 refine ⟨hn.symm, fun j hj => ?_⟩
 rw [hn] at hj
 rcases h.2 with ⟨hv, h0⟩ | ⟨g, cap, cur, hv, hbg, hh, hlc, hcm, hcs, htk⟩
 ·omega
 ·injection hv with hv1 hv2 hv3
  subst hv1
  have h1 := flatF_at (f := spF) (z := 2) (fun _ => rfl) S j 0 (by omega) (by omega)
  have h2 := flatF_at (f := spF) (z := 2) (fun _ => rfl) S j 1 (by omega) (by omega)
  have ht : ∀ t, t < S.length * 2 → cur.toList[t]? = (S.flatMap spF)[t]? := fun t ht => by rw [← htk, List.getElem?_take_of_lt ht]
  refine ⟨g, 0, rfl, heapE_lt hh, ?_, ?_⟩
  ·rw [Nat.zero_add]
   exact cells_of hh _ _ ((ht _ (by omega)).trans h1)
  ·rw [Nat.zero_add]
   exact cells_of hh _ _ ((ht _ (by omega)).trans h2)
theorem bef_len {l : List Sv} {fs ts : List Int} (h : fs.length ≤ 16) : (befP l fs ts (stL l fs ts)).length ≤ fs.length * (fs.length + 2) := by
 have hp : (befP l fs ts (stL l fs ts)).Perm ((ordQ l (stL l fs ts) fs ts fs.length fs.length).map (pl2 (stL l fs ts))) := by
  refine (List.perm_ext_iff_of_nodup ?_ ord_nodup).2 (fun p => (mem_ord_bef p).symm)
  unfold List.Nodup
  refine (befK_sorted l fs ts _ _).imp ?_
  intro x y h e
  subst e
  exact ltP_irrefl _ h
 rw [hp.length_eq, List.length_map]
 exact ordQ_len l _ fs ts fs.length fs.length
end Go.Proofs.YtminihiecloglaaGreat
namespace Go.Proofs.YtminihiecloglaaGreat
open Go.RowKit
open SemP FlP GaP DiP
set_option maxRecDepth 10000
theorem neS10 (a b c d : Int) (W : World) : (binOp .neq 111 (.agg #[.int .i64 a, .int .i64 b]) (.agg #[.int .i64 c, .int .i64 d])).run Tryz.prog W = .ok (.bool (!((a == c) && (b == d)))) W := by
 have u3 := Tryz.underlying3
 have a3 := Tryz.isAgg3
 have z3 := Tryz.sizeOf3
 have hS : Tryz.prog.underlying 111 = some (.struct (Tryz.prog.fieldsOf 111)) := by kernel_rfl
 have hp : Tryz.prog.stoodInHeld 111 = false := by kernel_rfl
 rw [run_neq_struct, show (10000 : Nat) = 9999 + 1 from rfl, run_equalIn_agg W 9999 111 _ _ hS hp]
 simp only [Program.fieldsOf, Tryz.underlying111]
 go_simp
 by_cases h1 : a = c <;> by_cases h2 : b = d <;> simp [h1, h2]
theorem take_sAt {S : List StP} {k : Nat} (h : k < S.length) : S.take (k + 1) = S.take k ++ [sAt S k] := by
 unfold sAt
 rw [List.take_add_one, List.getD_eq_getElem?_getD, List.getElem?_eq_getElem h]
 rfl
theorem other4 {w : World} {g k : Nat} {a b c d : Value} (h : k ≠ g) : ((((w.setCell ⟨g, 0, none⟩ a).setCell ⟨g, 1, none⟩ b).setCell ⟨g, 2, none⟩ c).setCell ⟨g, 3, none⟩ d).heap[k]? = w.heap[k]? := by
 rw [heap_setCell_other _ _ k _ h, heap_setCell_other _ _ k _ h, heap_setCell_other _ _ k _ h, heap_setCell_other _ _ k _ h]
set_option maxHeartbeats 16000000 in
theorem plain_ok {w : World} {B nF cF nT cT nS cS nE cE : Nat} {AF AT AS AE : Option Addr} {S : List StP} (hS : RdS w B AS nS S) (hB : B ≤ w.heap.size) (h1 : nF ≤ 30) (h2 : nT ≤ 30) (h3 : nS ≤ 40) (h4 : nE ≤ 200) :
  Calls Tryz.prog 16 #[.agg #[.slice AF nF cF, .slice AT nT cT, .slice AS nS cS, .slice AE nE cE]] w fun e w' => ∃ A' c', e = .returned (.tuple #[.agg #[.slice AF nF cF, .slice AT nT cT, .slice A' nS c', .slice AE nE cE], .bool true]) ∧ OwnF 111 2 spF w' w.heap.size (.slice A' nS c') S ∧ Below w.heap.size w w' := by
 obtain ⟨W, HW⟩ : ∃ W, Hid (W = (w.alloc (.cells #[.slice AF nF cF, .slice AT nT cT, .slice AS nS cS, .slice AE nE cE] 35)).alloc (.cells #[.slice none 0 0, .slice none 0 0, .slice none 0 0, .slice none 0 0] 41)) := ⟨_, Lib.hid rfl⟩
 have hbl : Below w.heap.size w W := by rw [HW.out]; exact ((Below.refl _ w).alloc (Nat.le_refl _) _).alloc (by simp) _
 have HBL := Lib.hid hbl
 have HZ : Hid (W.heap.size = w.heap.size + 2) := Lib.hid (by rw [HW.out]; simp)
 have H0 : Hid (W.heap[w.heap.size]? = some (.cells #[.slice AF nF cF, .slice AT nT cT, .slice AS nS cS, .slice AE nE cE] 35 (0, 0))) := Lib.hid (by
  rw [HW.out, Below.heap_alloc _ _ _ (by simp)]; exact heap_new w _)
 have H1 : Hid (W.heap[w.heap.size + 1]? = some (.cells #[.slice none 0 0, .slice none 0 0, .slice none 0 0, .slice none 0 0] 41 (0, 0))) := Lib.hid (by
  rw [HW.out]
  have h := heap_new (w.alloc (.cells #[.slice AF nF cF, .slice AT nT cT, .slice AS nS cS, .slice AE nE cE] 35)) (.cells #[.slice none 0 0, .slice none 0 0, .slice none 0 0, .slice none 0 0] 41)
  rw [World.size_alloc] at h; exact h)
 have HS := Lib.hid (hS.below (hbl.mono hB) hB)
 have HB : Hid (B ≤ W.heap.size) := Lib.hid (Nat.le_trans hB hbl.size)
 have HNS : Hid (S.length = nS) := Lib.hid hS.len
 obtain ⟨P, HP⟩ : ∃ P, Hid (P = W.alloc (.cells #[.slice AF nF cF, .slice AT nT cT, .slice none 0 0, .slice AE nE cE] 41)) := ⟨_, Lib.hid rfl⟩
 have HWP : Hid (Below W.heap.size W P) := Lib.hid (by rw [HP.out]; exact (Below.refl _ W).alloc (Nat.le_refl _) _)
 have HZP : Hid (P.heap.size = W.heap.size + 1) := Lib.hid (by rw [HP.out]; simp)
 have KP : Hid (P.heap[W.heap.size]? = some (.cells #[.slice AF nF cF, .slice AT nT cT, .slice none 0 0, .slice AE nE cE] 41 (0, 0))) := Lib.hid (by rw [HP.out]; exact heap_new W _)
 clear hS hB hbl
 go_enter Tryz.func16, Tryz.ntmps16
 go_upto_region 1 with fail
 change Code.wp _ _ _ _ ((w.alloc (.cells #[.slice AF nF cF, .slice AT nT cT, .slice AS nS cS, .slice AE nE cE] 35)).alloc (.cells #[.slice none 0 0, .slice none 0 0, .slice none 0 0, .slice none 0 0] 41))
 rw [← HW.out]
 obtain ⟨x0, x1, x2, x3⟩ := row4 H0.out
 go_upto_region 2 with fail
 rw [← HP.out]
 clear x0 x1 x2 x3
 obtain ⟨_, _, x2, _⟩ := row4 ((HWP.out.block w.heap.size (heapE_lt H0.out)).trans H0.out)
 go_wp2_with fail
 clear x2
 go_loopw [6, 17] (fun _ v wr => ∃ k : Nat, k ≤ nS ∧ v = .int .i64 (k : Int) ∧ Hid (Below W.heap.size W wr) ∧ ∃ A' M' c', Hid (wr.heap[W.heap.size]? = some (.cells #[.slice AF nF cF, .slice AT nT cT, .slice A' M' c', .slice AE nE cE] 41 (0, 0))) ∧ Hid (OwnF 111 2 spF wr P.heap.size (.slice A' M' c') (S.take k))) (fun _ v _ => nS - (intOf v).toNat)
 case atStart => exact ⟨0, Nat.zero_le _, rfl, HWP, none, 0, 0, KP, Lib.hid (OwnF.nil_ _ _ _ _ _)⟩
 case round =>
  obtain ⟨wo, hwo⟩ : ∃ x, x = wr := ⟨_, rfl⟩
  subst hwo
  obtain ⟨k, hk, rfl, HBo, A', M', c', KO, HO⟩ := hrel
  by_cases hkn : k < nS
  ·have hd : decide ((k : Int) < (nS : Int)) = true := by simp; omega
   have hki : (k : Int) < (nS : Int) := by omega
   have hk0 : (0 : Int) ≤ (k : Int) := by omega
   have hadd : IntKind.i64.wrap ((k : Int) + 1) = ((k + 1 : Nat) : Int) := by rw [IntWalk.i64_in _ (by omega)]; omega
   obtain ⟨b, off, rfl, hlt, s0, s1⟩ := (HS.out.below (HBo.out.mono HB.out) HB.out).at_ k hkn
   obtain ⟨⟨x, p⟩, HX⟩ : ∃ q, Hid (sAt S k = q) := ⟨_, Lib.hid rfl⟩
   rw [HX.out] at s0 s1
   replace s0 : wo.cell? ⟨b, off + k * 2, none⟩ = some (.int .i64 x) := s0
   replace s1 : wo.cell? ⟨b, off + k * 2 + 1, none⟩ = some (.int .i64 p) := s1
   obtain ⟨wq, HWQ⟩ : ∃ wq, Hid (wq = wo.alloc (.cells #[.int .i64 x, .int .i64 p] 64)) := ⟨_, Lib.hid rfl⟩
   have HBQ : Hid (Below wo.heap.size wo wq) := Lib.hid (by rw [HWQ.out]; exact (Below.refl _ wo).alloc (Nat.le_refl _) _)
   have KSQ : Hid (wq.heap[wo.heap.size]? = some (.cells #[.int .i64 x, .int .i64 p] 64 (0, 0))) := Lib.hid (by rw [HWQ.out]; exact heap_new wo _)
   have KQ : Hid (wq.heap[W.heap.size]? = _) := Lib.hid ((HBQ.out.block W.heap.size (heapE_lt KO.out)).trans KO.out)
   have HB1 : Hid (Below W.heap.size W wq) := Lib.hid (HBo.out.trans (HBQ.out.mono HBo.out.size))
   have HOQ := Lib.hid (HO.out.kept HBQ.out)
   obtain ⟨L1, HL1⟩ : ∃ q, Hid (S.take k = q) := ⟨_, Lib.hid rfl⟩
   have HNX : Hid (S.take (k + 1) = L1 ++ [(x, p)]) := Lib.hid (by rw [take_sAt (by rw [HNS.out]; exact hkn), HL1.out, HX.out])
   have HLL : Hid (L1.length ≤ 40) := Lib.hid (by rw [← HL1.out, List.length_take]; omega)
   rw [HL1.out] at HOQ
   obtain ⟨L2, HL2⟩ : ∃ q, Hid (L1 ++ [(x, p)] = q) := ⟨_, Lib.hid rfl⟩
   obtain ⟨M2, HM2⟩ : ∃ q, Hid (L2.length = q) := ⟨_, Lib.hid rfl⟩
   have hzq : P.heap.size ≤ wq.heap.size := by have := heapE_lt KQ.out; have := HZP.out; omega
   go_upto_region 5 with fail
   rw [← HWQ.out]
   clear s0 s1
   obtain ⟨q0, q1, _, _⟩ := row2 KSQ.out
   obtain ⟨_, _, y2, _⟩ := row4 KQ.out
   go_wp2_with (at_builtin; refine wplF_apps (f := spF) (fun _ => rfl) (fun x u hu => by simp [spF] at hu; rcases hu with rfl | rfl <;> rfl) Tryz.underlying39 infoRS rfl (by decide) (by decide) rfl (.tmp 22) (.tmp 24) rfl P.heap.size _ L1 rfl (HOQ.out.alloc _) wq.heap.size 1 1 [(x, p)] rfl rfl (cells_of (heap_new _ _)) (by have := HLL.out; omega) (by simp; omega) ?_; intro v' w2 hown2 hgr2 hat2; rw [HL2.out] at hown2; obtain ⟨A2, d2, hv2⟩ := hown2.shape; rw [HM2.out] at hv2; subst hv2; (have HGB : Hid (w2.heap[W.heap.size]? = some (.cells #[.slice AF nF cF, .slice AT nT cT, .slice A' M' c', .slice AE nE cE] 41 (0, 0))) := Lib.hid (by rw [hgr2.block W.heap.size (by simp; have := heapE_lt KQ.out; omega) (fun h => by have := HOQ.out.ge _ h.symm; have := HZP.out; omega), Below.heap_alloc _ _ _ (heapE_lt KQ.out)]; exact KQ.out)); (have HBB : Hid (Below W.heap.size W w2) := Lib.hid ((HB1.out.alloc (HB1.out.size) _).grown hgr2 (by simp; have := HB1.out.size; omega) (fun g hg => by have := HOQ.out.ge g hg; have := HZP.out; omega))); (have HO2 := Lib.hid hown2); (obtain ⟨u0, u1, u2, u3⟩ := row4 HGB.out); (obtain ⟨_, _, f2, _⟩ := row4f HGB.out); clear hown2 hgr2 hat2)
   have HST : Hid ((w2.setCell ⟨W.heap.size, 2, none⟩ (.slice A2 M2 d2)).heap[W.heap.size]? = some (.cells #[.slice AF nF cF, .slice AT nT cT, .slice A2 M2 d2, .slice AE nE cE] 41 (0, 0))) := Lib.hid (heap_setCell_same w2 W.heap.size 2 _ _ _ HGB.out)
   have HOX : Hid (OwnF 111 2 spF (w2.setCell ⟨W.heap.size, 2, none⟩ (.slice A2 M2 d2)) P.heap.size (.slice A2 M2 d2) L2) := Lib.hid (HO2.out.setC (p := ⟨W.heap.size, 2, none⟩) (by have := HZP.out; show W.heap.size < P.heap.size; omega) _)
   have HBX2 : Hid (Below W.heap.size W (w2.setCell ⟨W.heap.size, 2, none⟩ (.slice A2 M2 d2))) := Lib.hid (HBB.out.setCell (p := ⟨W.heap.size, 2, none⟩) (Nat.le_refl _) _)
   have HN2 : Hid (S.take (k + 1) = L2) := Lib.hid (by rw [HNX.out, HL2.out])
   go_roundw
   case rel => exact ⟨k + 1, by omega, by go_num, HBX2, A2, M2, d2, HST, Lib.hid (by rw [HN2.out]; exact HOX.out)⟩
   case measure => simp [intOf]; omega
  ·have hd : decide ((k : Int) < (nS : Int)) = false := by simp; omega
   obtain rfl : k = nS := by omega
   have HTK : Hid (S.take k = S) := Lib.hid (by rw [← HNS.out, List.take_length])
   rw [HTK.out] at HO
   obtain rfl : M' = k := by obtain ⟨_, _, e⟩ := HO.out.shape; injection e with _ e _; rw [e, HNS.out]
   have KR : Hid (wo.heap[w.heap.size + 1]? = _) := Lib.hid ((HBo.out.block (w.heap.size + 1) (by have := HZ.out; omega)).trans H1.out)
   obtain ⟨x0, x1, x2, x3⟩ := row4 ((HBo.out.block w.heap.size (heapE_lt H0.out)).trans H0.out)
   obtain ⟨y0, y1, y2, y3⟩ := row4 KO.out
   obtain ⟨g0, g1, g2, g3⟩ := row4 KR.out
   obtain ⟨f0, f1, f2, f3⟩ := row4f KR.out
   have p1 : (nF : Int) ≤ 30 := by omega
   have p2 : (nT : Int) ≤ 30 := by omega
   have p3 : (M' : Int) ≤ 40 := by omega
   have p4 : (nE : Int) ≤ 200 := by omega
   have d1 : decide ((nF : Int) ≤ 30) = true := decide_eq_true p1
   have d2 : decide ((nT : Int) ≤ 30) = true := decide_eq_true p2
   have d3 : decide ((M' : Int) ≤ 40) = true := decide_eq_true p3
   have d4 : decide ((nE : Int) ≤ 200) = true := decide_eq_true p4
   have S4 := Lib.hid (set4_same (a := .slice AF nF cF) (b := .slice AT nT cT) (c := .slice A' M' c') (d := .slice AE nE cE) KR.out)
   have HB4 := Lib.hid (below_set4 (g := w.heap.size + 1) (HBL.out.trans (HBo.out.mono HBL.out.size)) (by omega) (.slice AF nF cF) (.slice AT nT cT) (.slice A' M' c') (.slice AE nE cE))
   have HO4 := Lib.hid (HO.out.miss4 (a := .slice AF nF cF) (b := .slice AT nT cT) (c := .slice A' M' c') (d := .slice AE nE cE) KR.out (by decide))
   have K0 := (HBo.out.block w.heap.size (heapE_lt H0.out)).trans H0.out
   obtain ⟨z0, z1, z2, z3⟩ := row4 ((other4 (w := wo) (g := w.heap.size + 1) (k := w.heap.size) (a := .slice AF nF cF) (b := .slice AT nT cT) (c := .slice A' M' c') (d := .slice AE nE cE) (by omega)).trans K0)
   obtain ⟨z4, z5, z6, z7⟩ := row4 ((other4 (w := wo) (g := w.heap.size + 1) (k := W.heap.size) (a := .slice AF nF cF) (b := .slice AT nT cT) (c := .slice A' M' c') (d := .slice AE nE cE) (by have := HZ.out; omega)).trans KO.out)
   go_wp2_with fail
   go_region_held3 (fun W' => W'.cell? ⟨w.heap.size, 0, none⟩ = some (.slice AF nF cF) ∧ W'.cell? ⟨w.heap.size, 1, none⟩ = some (.slice AT nT cT) ∧ W'.cell? ⟨w.heap.size, 2, none⟩ = some (.slice AS M' cS) ∧ W'.cell? ⟨w.heap.size, 3, none⟩ = some (.slice AE nE cE) ∧ W'.cell? ⟨W.heap.size, 0, none⟩ = some (.slice AF nF cF) ∧ W'.cell? ⟨W.heap.size, 1, none⟩ = some (.slice AT nT cT) ∧ W'.cell? ⟨W.heap.size, 2, none⟩ = some (.slice A' M' c') ∧ W'.cell? ⟨W.heap.size, 3, none⟩ = some (.slice AE nE cE)) ((first | exact ⟨x0, x1, x2, x3, y0, y1, y2, y3⟩ | exact ⟨z0, z1, z2, z3, z4, z5, z6, z7⟩ | go_keep)) (fail)
   go_wp2_with fail
   obtain ⟨q0, q1, q2, q3⟩ := row4 S4.out
   refine bodyPost_ret (v := .tuple #[.agg #[.slice AF nF cF, .slice AT nT cT, .slice A' M' c', .slice AE nE cE], .bool true]) ?_ rfl ⟨A', c', rfl, HO4.out.less (by have := HZP.out; have := HBL.out.size; omega), HB4.out.drew⟩
   rw [results_cell_tmp rfl]; go_simp
end Go.Proofs.YtminihiecloglaaGreat
