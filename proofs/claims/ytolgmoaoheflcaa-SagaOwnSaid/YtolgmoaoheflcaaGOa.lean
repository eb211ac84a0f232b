/-
 CONTRACTS: Ints; LikePlan of a plan and itself (printed by gengoa.py).
-/
import Derived.Test.YtolgmoaoheflcaaGRy
namespace Go.Proofs.Ytolgmoaoheflcaa.Sa
open Go.RowKit
open DiP
set_option linter.unusedVariables false
set_option linter.unusedSimpArgs false
set_option maxRecDepth 10000
theorem list_ext_getD {a b : List Int} (hl : a.length = b.length) (h : ∀ i < a.length, (ix a i) = (ix b i)) : a = b := by
 apply List.ext_getElem hl
 intro i h1 h2
 have := h i h1
 simpa [ix, List.getD, h1, h2] using this
set_option maxHeartbeats 8000000 in
theorem ints_any {w : World} {B B2 n m c d : Nat} {A D : Option Addr} {xs ys : List Int} (hx : Rd w B A n xs) (hy : Rd w B2 D m ys) (hn : n ≤ 1000000) (hm : m ≤ 1000000) :
  Calls Try.prog 28 #[.slice A n c, .slice D m d] w fun e w' => e = .returned (.bool (decide (xs = ys))) ∧ Below w.heap.size w w' := by
 have HX := Lib.hid hx
 have HY := Lib.hid hy
 have HXL := Lib.hid hx.len
 have HYL := Lib.hid hy.len
 clear hx hy
 by_cases hmn : n = m
 rotate_left
 ·have hne : ((n : Int) != (m : Int)) = true := by rw [bne_iff_ne]; omega
  have HF : Hid (decide (xs = ys) = false) := Lib.hid (decide_eq_false (fun e => hmn (by rw [← HXL.out, ← HYL.out, e])))
  go_enter Try.func28, Try.ntmps28
  go_wp2_with fail
  refine bodyPost_ret (results_tmp rfl _ _ _) rfl ⟨?_, Below.refl _ _⟩
  exact congrArg (fun b => Ending.returned (.bool b)) HF.out.symm
 subst hmn
 go_enter Try.func28, Try.ntmps28
 go_wp2_with fail
 go_loop [5, 6, 14] (fun _ _ v => ∃ k : Nat, k ≤ n ∧ v = .int .i64 (k : Int) ∧ Hid (∀ i, i < k → ix xs i = ix ys i)) (fun _ _ v => n - (intOf v).toNat)
 case atStart => exact ⟨0, Nat.zero_le _, rfl, Lib.hid (fun i h => absurd h (by omega))⟩
 case round =>
  obtain ⟨k, hk, rfl, HOK⟩ := hrel
  by_cases hkn : k < n
  ·have hd : decide ((k : Int) < (n : Int)) = true := by simp; omega
   have hki : (k : Int) < (n : Int) := by omega
   have hk0 : (0 : Int) ≤ (k : Int) := by omega
   have hadd : IntKind.i64.wrap ((k : Int) + 1) = ((k + 1 : Nat) : Int) := by rw [IntWalk.i64_in _ (by omega)]; omega
   obtain ⟨b1, o1, rfl, _, k1⟩ := HX.out.at_ hkn
   obtain ⟨b2, o2, rfl, _, k2⟩ := HY.out.at_ hkn
   obtain ⟨u, HU⟩ : ∃ u, Hid (ix xs k = u) := ⟨_, Lib.hid rfl⟩
   obtain ⟨v, HV⟩ : ∃ u, Hid (ix ys k = u) := ⟨_, Lib.hid rfl⟩
   rw [HU.out] at k1
   rw [HV.out] at k2
   by_cases he : u = v
   ·have hne : (u != v) = false := by rw [bne_eq_false_iff_eq]; exact he
    have HE : Hid (ix xs k = ix ys k) := Lib.hid (by rw [HU.out, HV.out, he])
    clear he
    go_wp2_with fail
    go_round
    case rel => exact ⟨k + 1, by omega, by go_num, Lib.hid (fun i hi => by
     by_cases e : i = k
     ·subst e; exact HE.out
     ·exact HOK.out i (by omega))⟩
    case measure => simp [intOf]; omega
   ·have hne : (u != v) = true := by rw [bne_iff_ne]; exact he
    have HF : Hid (decide (xs = ys) = false) := Lib.hid (decide_eq_false (fun e => he (by rw [← HU.out, ← HV.out, e])))
    clear he
    go_wp2_with fail
    refine bodyPost_ret (results_tmp rfl _ _ _) rfl ⟨?_, Below.refl _ _⟩
    exact congrArg (fun b => Ending.returned (.bool b)) HF.out.symm
  ·have hd : decide ((k : Int) < (n : Int)) = false := by simp; omega
   have HF : Hid (decide (xs = ys) = true) := Lib.hid (decide_eq_true (list_ext_getD (by rw [HXL.out, HYL.out]) (fun i hi => HOK.out i (by have := HXL.out; omega))))
   go_wp2_with fail
   refine bodyPost_ret (results_tmp rfl _ _ _) rfl ⟨?_, Below.refl _ _⟩
   exact congrArg (fun b => Ending.returned (.bool b)) HF.out.symm
theorem ints_same {w : World} {B B2 n m c d : Nat} {A D : Option Addr} {xs : List Int} (hx : Rd w B A n xs) (hy : Rd w B2 D m xs) (hn : n ≤ 1000000) (hm : m ≤ 1000000) :
  Calls Try.prog 28 #[.slice A n c, .slice D m d] w fun e w' => e = .returned (.bool true) ∧ Below w.heap.size w w' := by
 have h := ints_any (c := c) (d := d) hx hy hn hm
 rw [show decide (xs = xs) = true from by simp] at h
 exact h
theorem neS10 (a b c d : Int) (W : World) : (binOp .neq 76 (.agg #[.int .i64 a, .int .i64 b]) (.agg #[.int .i64 c, .int .i64 d])).run Try.prog W = .ok (.bool (!((a == c) && (b == d)))) W := by
 have u3 := Try.underlying3
 have a3 := Try.isAgg3
 have z3 := Try.sizeOf3
 have hS : Try.prog.underlying 76 = some (.struct (Try.prog.fieldsOf 76)) := by kernel_rfl
 have hp : Try.prog.stoodInHeld 76 = false := by kernel_rfl
 rw [run_neq_struct, show (10000 : Nat) = 9999 + 1 from rfl, run_equalIn_agg W 9999 76 _ _ hS hp]
 simp only [Program.fieldsOf, Try.underlying76]
 go_simp
 by_cases h1 : a = c <;> by_cases h2 : b = d <;> simp [h1, h2]
theorem eqPair_d (w : World) (d : Nat) (a b : Int) : (Op.equalIn (d + 2) 90 (.agg #[.int .i64 a, .int .i64 b]) (.agg #[.int .i64 a, .int .i64 b])).run Try.prog w = .ok true w := by
 have ht := Try.underlying90
 have hi3 := Try.underlying3
 obtain ⟨i1, hj, hj0, hj1, hj2⟩ := info_parts infoIn
 have q := fun x => run_equalIn_int (P := Try.prog) w d 3 .i64 .i64 x x hi3
 unfold Op.equalIn
 simp [run_underlying ht, sizeOf, typeInfo, hj, hj1, List.range', part, q]
theorem nePair (a b : Int) (W : World) : (binOp .neq 90 (.agg #[.int .i64 a, .int .i64 b]) (.agg #[.int .i64 a, .int .i64 b])).run Try.prog W = .ok (.bool false) W := by
 rw [run_neq_struct, show (10000 : Nat) = 9998 + 2 from rfl, eqPair_d W 9998 a b]; rfl
set_option maxHeartbeats 16000000 in
theorem likeP_yes {w : World} {BF BT BS BE BF2 BT2 BS2 BE2 nF cF nT cT nS cS nE cE dF dT dS dE : Nat} {AF AT AS AE DF DT DS DE : Option Addr} {fs ts : List Int} {S es : List Pr}
  (hF : Rd w BF AF nF fs) (hT : Rd w BT AT nT ts) (hS : RdE w BS AS nS S) (hE : RdE w BE AE nE es) (hF2 : Rd w BF2 DF nF fs) (hT2 : Rd w BT2 DT nT ts) (hS2 : RdE w BS2 DS nS S) (hE2 : RdE w BE2 DE nE es)
  (hBF : BF ≤ w.heap.size) (hBT : BT ≤ w.heap.size) (hBS : BS ≤ w.heap.size) (hBE : BE ≤ w.heap.size) (hBF2 : BF2 ≤ w.heap.size) (hBT2 : BT2 ≤ w.heap.size) (hBS2 : BS2 ≤ w.heap.size) (hBE2 : BE2 ≤ w.heap.size) (h1 : nF ≤ 50) (h2 : nT ≤ 50) (h3 : nS ≤ 100) (h4 : nE ≤ 200) :
  Calls Try.prog 29 #[.agg #[.slice AF nF cF, .slice AT nT cT, .slice AS nS cS, .slice AE nE cE], .agg #[.slice DF nF dF, .slice DT nT dT, .slice DS nS dS, .slice DE nE dE]] w fun e w' => e = .returned (.bool true) ∧ Below w.heap.size w w' := by
 obtain ⟨W, HW⟩ : ∃ W, Hid (W = (w.alloc (.cells #[.slice AF nF cF, .slice AT nT cT, .slice AS nS cS, .slice AE nE cE] 29)).alloc (.cells #[.slice DF nF dF, .slice DT nT dT, .slice DS nS dS, .slice DE nE dE] 47)) := ⟨_, Lib.hid rfl⟩
 have hbl : Below w.heap.size w W := by rw [HW.out]; exact ((Below.refl _ w).alloc (Nat.le_refl _) _).alloc (by simp) _
 have HBL := Lib.hid hbl
 have HZ : Hid (W.heap.size = w.heap.size + 2) := Lib.hid (by rw [HW.out]; simp)
 have H0 : Hid (W.heap[w.heap.size]? = some (.cells #[.slice AF nF cF, .slice AT nT cT, .slice AS nS cS, .slice AE nE cE] 29 (0, 0))) := Lib.hid (by
  rw [HW.out, Below.heap_alloc _ _ _ (by simp)]; exact heap_new w _)
 have H1 : Hid (W.heap[w.heap.size + 1]? = some (.cells #[.slice DF nF dF, .slice DT nT dT, .slice DS nS dS, .slice DE nE dE] 47 (0, 0))) := Lib.hid (by
  rw [HW.out]
  have h := heap_new (w.alloc (.cells #[.slice AF nF cF, .slice AT nT cT, .slice AS nS cS, .slice AE nE cE] 29)) (.cells #[.slice DF nF dF, .slice DT nT dT, .slice DS nS dS, .slice DE nE dE] 47)
  rw [World.size_alloc] at h; exact h)
 have HF := Lib.hid (hF.below (hbl.mono hBF))
 have HT := Lib.hid (hT.below (hbl.mono hBT))
 have HE := Lib.hid (hE.below (hbl.mono hBE))
 have HF2 := Lib.hid (hF2.below (hbl.mono hBF2))
 have HT2 := Lib.hid (hT2.below (hbl.mono hBT2))
 have HS2 := Lib.hid (hS2.below (hbl.mono hBS2))
 have HE2 := Lib.hid (hE2.below (hbl.mono hBE2))
 have LF : Hid (BF ≤ W.heap.size) := Lib.hid (Nat.le_trans hBF hbl.size)
 have LT : Hid (BT ≤ W.heap.size) := Lib.hid (Nat.le_trans hBT hbl.size)
 have LE : Hid (BE ≤ W.heap.size) := Lib.hid (Nat.le_trans hBE hbl.size)
 have LF2 : Hid (BF2 ≤ W.heap.size) := Lib.hid (Nat.le_trans hBF2 hbl.size)
 have LT2 : Hid (BT2 ≤ W.heap.size) := Lib.hid (Nat.le_trans hBT2 hbl.size)
 have LS2 : Hid (BS2 ≤ W.heap.size) := Lib.hid (Nat.le_trans hBS2 hbl.size)
 have LE2 : Hid (BE2 ≤ W.heap.size) := Lib.hid (Nat.le_trans hBE2 hbl.size)
 have HPR : Hid (PlR W W.heap.size AF nF AT nT AS nS AE nE ⟨fs, ts, S, es⟩) := Lib.hid ⟨(hF.below (hbl.mono hBF)).more (Nat.le_trans hBF hbl.size), (hT.below (hbl.mono hBT)).more (Nat.le_trans hBT hbl.size), (hS.below (hbl.mono hBS)).more (Nat.le_trans hBS hbl.size), (hE.below (hbl.mono hBE)).more (Nat.le_trans hBE hbl.size), by omega⟩
 have HVV : Hid (szB ⟨fs, ts, S, es⟩ = true) := Lib.hid (decide_eq_true (by
  have e1 := hF.len
  have e2 := hT.len
  have e3 := hS.1
  have e4 := hE.1
  show fs.length ≤ 50 ∧ ts.length ≤ 50 ∧ S.length ≤ 100 ∧ es.length ≤ 200
  omega))
 have HSL : Hid (S.length = nS) := Lib.hid hS.1
 have HPL := Lib.hid (madeP_any (w := W) (cF := cF) (cT := cT) (cS := cS) (cE := cE) HPR.out (Nat.le_refl _))
 have P1 := Lib.hid h1
 have P2 := Lib.hid h2
 have P3 := Lib.hid h3
 have P4 := Lib.hid h4
 clear hF hT hS hE hF2 hT2 hS2 hE2 hBF hBT hBS hBE hBF2 hBT2 hBS2 hBE2 hbl h1 h2 h3 h4
 go_enter Try.func29, Try.ntmps29
 go_upto_region 1 with fail
 change Code.wp _ _ _ _ ((w.alloc (.cells #[.slice AF nF cF, .slice AT nT cT, .slice AS nS cS, .slice AE nE cE] 29)).alloc (.cells #[.slice DF nF dF, .slice DT nT dT, .slice DS nS dS, .slice DE nE dE] 47))
 rw [← HW.out]
 obtain ⟨x0, x1, x2, x3⟩ := row4 H0.out
 go_wp2_with fail
 refine HPL.out.mono ?_
 rintro e X ⟨hbX, hc⟩
 rcases hc with ⟨hv, _⟩ | ⟨_, CS, nQ, kS, rfl, hown⟩
 ·rw [HVV.out] at hv; cases hv
 obtain rfl : nS = nQ := by rw [← HSL.out]; exact hown.rdE.1
 have HBX := Lib.hid hbX
 have HO := Lib.hid hown
 obtain ⟨P, HP⟩ : ∃ P, Hid (P = X.alloc (.cells #[.slice AF nF cF, .slice AT nT cT, .slice CS nS kS, .slice AE nE cE] 47)) := ⟨_, Lib.hid rfl⟩
 have HXP : Hid (Below X.heap.size X P) := Lib.hid (by rw [HP.out]; exact (Below.refl _ X).alloc (Nat.le_refl _) _)
 have KP : Hid (P.heap[X.heap.size]? = some (.cells #[.slice AF nF cF, .slice AT nT cT, .slice CS nS kS, .slice AE nE cE] 47 (0, 0))) := Lib.hid (by rw [HP.out]; exact heap_new X _)
 have HWP : Hid (Below W.heap.size W P) := Lib.hid (hbX.trans (HXP.out.mono hbX.size))
 have KQ : Hid (P.heap[w.heap.size + 1]? = _) := Lib.hid ((HWP.out.block (w.heap.size + 1) (heapE_lt H1.out)).trans H1.out)
 have HRS : Hid (RdE P P.heap.size CS nS S) := Lib.hid (HO.out.kept HXP.out).rdE
 have HI1 := Lib.hid (ints_same (w := P) (c := cF) (d := dF) (HF.out.below (HWP.out.mono LF.out)) (HF2.out.below (HWP.out.mono LF2.out)) (by have := P1.out; omega) (by have := P1.out; omega))
 clear hown hbX x0 x1 x2 x3 HPL
 go_upto_region 2 with fail
 rw [← HP.out]
 obtain ⟨y0, y1, y2, y3⟩ := row4 KP.out
 obtain ⟨z0, z1, z2, z3⟩ := row4 KQ.out
 go_wp2_with fail
 refine HI1.out.mono ?_
 rintro e Y ⟨rfl, hb⟩
 have HBY := Lib.hid hb
 have HWY : Hid (Below W.heap.size W Y) := Lib.hid (HWP.out.trans (hb.mono HWP.out.size))
 have KPY : Hid (Y.heap[X.heap.size]? = _) := Lib.hid ((hb.block X.heap.size (heapE_lt KP.out)).trans KP.out)
 have KQY : Hid (Y.heap[w.heap.size + 1]? = _) := Lib.hid ((hb.block (w.heap.size + 1) (heapE_lt KQ.out)).trans KQ.out)
 have HI2 := Lib.hid (ints_same (w := Y) (c := cT) (d := dT) (HT.out.below (HWY.out.mono LT.out)) (HT2.out.below (HWY.out.mono LT2.out)) (by have := P2.out; omega) (by have := P2.out; omega))
 clear hb y0 y1 y2 y3 z0 z1 z2 z3 HI1
 obtain ⟨y0, y1, y2, y3⟩ := row4 KPY.out
 obtain ⟨z0, z1, z2, z3⟩ := row4 KQY.out
 go_wp2_with fail
 refine HI2.out.mono ?_
 rintro e Z ⟨rfl, hb⟩
 have HPZ : Hid (Below P.heap.size P Z) := Lib.hid (HBY.out.trans (hb.mono HBY.out.size))
 have HWZ : Hid (Below W.heap.size W Z) := Lib.hid (HWY.out.trans (hb.mono HWY.out.size))
 have KPZ : Hid (Z.heap[X.heap.size]? = _) := Lib.hid ((hb.block X.heap.size (heapE_lt KPY.out)).trans KPY.out)
 have KQZ : Hid (Z.heap[w.heap.size + 1]? = _) := Lib.hid ((hb.block (w.heap.size + 1) (heapE_lt KQY.out)).trans KQY.out)
 clear hb y0 y1 y2 y3 z0 z1 z2 z3 HI2
 obtain ⟨y0, y1, y2, y3⟩ := row4 KPZ.out
 obtain ⟨z0, z1, z2, z3⟩ := row4 KQZ.out
 have hnn1 : ((nS : Int) != (nS : Int)) = false := by simp
 have hnn2 : ((nE : Int) != (nE : Int)) = false := by simp
 go_wp2_with fail
 clear y0 y1 y2 y3 z0 z1 z2 z3
 have HZ0 : Hid (Below w.heap.size w Z) := Lib.hid (HBL.out.trans (HWZ.out.mono HBL.out.size))
 go_loopw [7, 8, 55] (fun _ _ v wr => ∃ k : Nat, k ≤ nS ∧ v = .int .i64 (k : Int) ∧ Hid (Below Z.heap.size Z wr)) (fun _ _ v _ => nS - (intOf v).toNat)
 case atStart => exact ⟨0, Nat.zero_le _, rfl, Lib.hid (Below.refl _ _)⟩
 case round =>
  obtain ⟨wo, hwo⟩ : ∃ x, x = wr := ⟨_, rfl⟩
  subst hwo
  obtain ⟨k, hk, rfl, HBo⟩ := hrel
  have KPo : Hid (wo.heap[X.heap.size]? = _) := Lib.hid ((HBo.out.block X.heap.size (heapE_lt KPZ.out)).trans KPZ.out)
  have KQo : Hid (wo.heap[w.heap.size + 1]? = _) := Lib.hid ((HBo.out.block (w.heap.size + 1) (heapE_lt KQZ.out)).trans KQZ.out)
  by_cases hkn : k < nS
  ·have hd : decide ((k : Int) < (nS : Int)) = true := by simp; omega
   have hki : (k : Int) < (nS : Int) := by omega
   have hk0 : (0 : Int) ≤ (k : Int) := by omega
   have hadd : IntKind.i64.wrap ((k : Int) + 1) = ((k + 1 : Nat) : Int) := by rw [IntWalk.i64_in _ (by have := P3.out; omega)]; omega
   have hPo := HPZ.out.trans (HBo.out.mono HPZ.out.size)
   have hWo := HWZ.out.trans (HBo.out.mono HWZ.out.size)
   obtain ⟨b1, o1, rfl, hl1, s0, s1⟩ := (HRS.out.below hPo).at_ hkn
   obtain ⟨b2, o2, rfl, hl2, t0, t1⟩ := (HS2.out.below (hWo.mono LS2.out)).at_ hkn
   obtain ⟨x, HX⟩ : ∃ q, Hid (ea S k = q) := ⟨_, Lib.hid rfl⟩
   obtain ⟨p, HPP⟩ : ∃ q, Hid (eb S k = q) := ⟨_, Lib.hid rfl⟩
   rw [HX.out] at s0 t0
   rw [HPP.out] at s1 t1
   obtain ⟨wq, HWQ⟩ : ∃ wq, Hid (wq = wo.alloc (.cells #[.int .i64 x, .int .i64 p] 76)) := ⟨_, Lib.hid rfl⟩
   have HBQ : Hid (Below wo.heap.size wo wq) := Lib.hid (by rw [HWQ.out]; exact (Below.refl _ wo).alloc (Nat.le_refl _) _)
   have KSQ : Hid (wq.heap[wo.heap.size]? = some (.cells #[.int .i64 x, .int .i64 p] 76 (0, 0))) := Lib.hid (by rw [HWQ.out]; exact heap_new wo _)
   have HBZ : Hid (Below Z.heap.size Z wq) := Lib.hid (HBo.out.trans (HBQ.out.mono HBo.out.size))
   have hl2o : b2 < wo.heap.size := Nat.lt_of_lt_of_le hl2 (Nat.le_trans LS2.out hWo.size)
   replace t0 : wq.cell? ⟨b2, o2 + k * 2, none⟩ = some (.int .i64 x) := (HBQ.out.cell (p := ⟨b2, o2 + k * 2, none⟩) hl2o).trans t0
   replace t1 : wq.cell? ⟨b2, o2 + k * 2 + 1, none⟩ = some (.int .i64 p) := (HBQ.out.cell (p := ⟨b2, o2 + k * 2 + 1, none⟩) hl2o).trans t1
   obtain ⟨_, _, z2, _⟩ := row4 ((HBQ.out.block (w.heap.size + 1) (heapE_lt KQo.out)).trans KQo.out)
   have hEq := fun W => neS10 x p x p W
   simp only [beq_self_eq_true, Bool.and_self, Bool.not_true] at hEq
   clear hPo hWo
   go_upto_region 7 with fail
   rw [← HWQ.out]
   clear s0 s1
   obtain ⟨q0, q1, _, _⟩ := row2 KSQ.out
   go_quiet (fail)
   go_wp2_with fail
   go_roundw
   case rel => exact ⟨k + 1, by omega, by go_num, Lib.hid (by first | exact HBZ.out | exact Below.drewN' HBZ.out _)⟩
   case measure => simp [intOf]; omega
  ·have hd : decide ((k : Int) < (nS : Int)) = false := by simp; omega
   obtain rfl : k = nS := by omega
   obtain ⟨_, _, _, y3⟩ := row4 KPo.out
   go_wp2_with fail
   clear y3
   have HWo : Hid (Below w.heap.size w wo) := Lib.hid (HZ0.out.trans (HBo.out.mono HZ0.out.size))
   go_loopw [9, 10, 71] (fun _ _ v wr => ∃ j : Nat, j ≤ nE ∧ v = .int .i64 (j : Int) ∧ Hid (Below wo.heap.size wo wr)) (fun _ _ v _ => nE - (intOf v).toNat)
   case atStart => exact ⟨0, Nat.zero_le _, rfl, Lib.hid (Below.refl _ _)⟩
   case round =>
    obtain ⟨wi, hwi⟩ : ∃ x, x = wr := ⟨_, rfl⟩
    subst hwi
    obtain ⟨j, hj, rfl, HBi⟩ := hrel
    have HWi : Hid (Below w.heap.size w wi) := Lib.hid (HWo.out.trans (HBi.out.mono HWo.out.size))
    have KQi : Hid (wi.heap[w.heap.size + 1]? = _) := Lib.hid ((HBi.out.block (w.heap.size + 1) (heapE_lt KQo.out)).trans KQo.out)
    by_cases hjn : j < nE
    ·have hd2 : decide ((j : Int) < (nE : Int)) = true := by simp; omega
     have hji : (j : Int) < (nE : Int) := by omega
     have hj0 : (0 : Int) ≤ (j : Int) := by omega
     have hadd2 : IntKind.i64.wrap ((j : Int) + 1) = ((j + 1 : Nat) : Int) := by rw [IntWalk.i64_in _ (by have := P4.out; omega)]; omega
     have hWi := (HWZ.out.trans (HBo.out.mono HWZ.out.size)).trans (HBi.out.mono (HWZ.out.trans (HBo.out.mono HWZ.out.size)).size)
     obtain ⟨b1, o1, rfl, hl1, s0, s1⟩ := (HE.out.below (hWi.mono LE.out)).at_ hjn
     obtain ⟨b2, o2, rfl, hl2, t0, t1⟩ := (HE2.out.below (hWi.mono LE2.out)).at_ hjn
     obtain ⟨x, HX⟩ : ∃ q, Hid (ea es j = q) := ⟨_, Lib.hid rfl⟩
     obtain ⟨p, HPP⟩ : ∃ q, Hid (eb es j = q) := ⟨_, Lib.hid rfl⟩
     rw [HX.out] at s0 t0
     rw [HPP.out] at s1 t1
     obtain ⟨wq, HWQ⟩ : ∃ wq, Hid (wq = wi.alloc (.cells #[.int .i64 x, .int .i64 p] 90)) := ⟨_, Lib.hid rfl⟩
     have HBQ : Hid (Below wi.heap.size wi wq) := Lib.hid (by rw [HWQ.out]; exact (Below.refl _ wi).alloc (Nat.le_refl _) _)
     have KSQ : Hid (wq.heap[wi.heap.size]? = some (.cells #[.int .i64 x, .int .i64 p] 90 (0, 0))) := Lib.hid (by rw [HWQ.out]; exact heap_new wi _)
     have HBZ : Hid (Below wo.heap.size wo wq) := Lib.hid (HBi.out.trans (HBQ.out.mono HBi.out.size))
     have hl2o : b2 < wi.heap.size := Nat.lt_of_lt_of_le hl2 (Nat.le_trans LE2.out hWi.size)
     replace t0 : wq.cell? ⟨b2, o2 + j * 2, none⟩ = some (.int .i64 x) := (HBQ.out.cell (p := ⟨b2, o2 + j * 2, none⟩) hl2o).trans t0
     replace t1 : wq.cell? ⟨b2, o2 + j * 2 + 1, none⟩ = some (.int .i64 p) := (HBQ.out.cell (p := ⟨b2, o2 + j * 2 + 1, none⟩) hl2o).trans t1
     obtain ⟨_, _, _, z3⟩ := row4 ((HBQ.out.block (w.heap.size + 1) (heapE_lt KQi.out)).trans KQi.out)
     have hEq := nePair x p
     clear hWi
     go_upto_region 13 with fail
     rw [← HWQ.out]
     clear s0 s1
     obtain ⟨q0, q1, _, _⟩ := row2 KSQ.out
     go_quiet (fail)
     go_wp2_with fail
     go_roundw
     case rel => exact ⟨j + 1, by omega, by go_num, Lib.hid (by first | exact HBZ.out | exact Below.drewN' HBZ.out _)⟩
     case measure => simp [intOf]; omega
    ·have hd2 : decide ((j : Int) < (nE : Int)) = false := by simp; omega
     go_wp2_with fail
     exact bodyPost_ret (results_tmp rfl _ _ _) rfl ⟨rfl, HWi.out⟩
end Go.Proofs.Ytolgmoaoheflcaa.Sa
