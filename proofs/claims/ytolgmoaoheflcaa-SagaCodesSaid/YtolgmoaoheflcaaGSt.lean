/-
 WORDS FOR MEMORY: plans, states; CONTRACTS: isLast, May (printed by gengst.py).
-/
import Derived.Test.YtolgmoaoheflcaaGWi
namespace Go.Proofs.Ytolgmoaoheflcaa.Sa
open Go.RowKit
open DiP
set_option linter.unusedVariables false
set_option linter.unusedSimpArgs false
set_option maxRecDepth 10000
structure PlW (w : World) (B : Nat) (AF : Option Addr) (nF : Nat) (AT : Option Addr) (nT : Nat) (AS : Option Addr) (nS : Nat) (AE : Option Addr) (nE : Nat) (p : PlV) : Prop where
 fs : Rd w B AF nF p.fs
 ts : Rd w B AT nT p.ts
 S : RdE w B AS nS p.S
 E : RdE w B AE nE p.E
 sz : nF ≤ 50 ∧ nT ≤ 50 ∧ nS ≤ 100 ∧ nE ≤ 200
structure StW (w : World) (B : Nat) (num ph : Int) (AF : Option Addr) (nF : Nat) (AT : Option Addr) (nT : Nat) (AS : Option Addr) (nS : Nat) (AE : Option Addr) (nE : Nat) (AO : Option Addr) (nO : Nat) (AD : Option Addr) (nD : Nat) (s : StV) : Prop where
 pl : PlW w B AF nF AT nT AS nS AE nE s.pl
 op : Rd w B AO nO s.op
 dn : Rd w B AD nD s.dn
 num : s.num = num
 ph : s.ph = ph
 so : nO ≤ 100
 sd : nD ≤ 100
section
variable {w w' : World} {B B' : Nat} {num ph : Int} {AF AT AS AE AO AD : Option Addr} {nF nT nS nE nO nD : Nat} {s : StV} {p : PlV}
theorem PlW.below (h : PlW w B AF nF AT nT AS nS AE nE p) (hb : Below B w w') : PlW w' B AF nF AT nT AS nS AE nE p := ⟨h.fs.below hb, h.ts.below hb, h.S.below hb, h.E.below hb, h.sz⟩
theorem PlW.more (h : PlW w B AF nF AT nT AS nS AE nE p) (hb : B ≤ B') : PlW w B' AF nF AT nT AS nS AE nE p := ⟨h.fs.more hb, h.ts.more hb, h.S.more hb, h.E.more hb, h.sz⟩
theorem StW.below (h : StW w B num ph AF nF AT nT AS nS AE nE AO nO AD nD s) (hb : Below B w w') : StW w' B num ph AF nF AT nT AS nS AE nE AO nO AD nD s := ⟨h.pl.below hb, h.op.below hb, h.dn.below hb, h.num, h.ph, h.so, h.sd⟩
theorem StW.more (h : StW w B num ph AF nF AT nT AS nS AE nE AO nO AD nD s) (hb : B ≤ B') : StW w B' num ph AF nF AT nT AS nS AE nE AO nO AD nD s := ⟨h.pl.more hb, h.op.more hb, h.dn.more hb, h.num, h.ph, h.so, h.sd⟩
end
theorem PlW.nil_ {w : World} {B : Nat} : PlW w B none 0 none 0 none 0 none 0 pl0 := ⟨Rd.nil_, Rd.nil_, ⟨rfl, fun h => absurd h (by omega)⟩, ⟨rfl, fun h => absurd h (by omega)⟩, by omega⟩
theorem StW.nil_ {w : World} {B : Nat} : StW w B 0 0 none 0 none 0 none 0 none 0 none 0 none 0 st0 := ⟨PlW.nil_, Rd.nil_, Rd.nil_, rfl, rfl, by omega, by omega⟩
set_option maxHeartbeats 4000000 in
theorem isLast_any {w : World} {B k : Nat} {num ph : Int} {AF AT AS AE AO AD : Option Addr} {nF nT nS nE nO nD cF cT cS cE cO cD : Nat} {S : List Pr} (h : RdE w B AS nS S) (hB : B ≤ w.heap.size) (hk : k < nS) (hn : nS ≤ 100) :
 Calls Try.prog 48 #[.agg #[.int .i64 num, .int .i64 ph, .slice AF nF cF, .slice AT nT cT, .slice AS nS cS, .slice AE nE cE, .slice AO nO cO, .slice AD nD cD], .int .i64 (k : Int)] w fun e w' => e = .returned (.bool (decide (eb S k = 3))) ∧ Below w.heap.size w w' := by
 obtain ⟨W, HW⟩ : ∃ W, Hid (W = w.alloc (.cells #[.int .i64 num, .int .i64 ph, .slice AF nF cF, .slice AT nT cT, .slice AS nS cS, .slice AE nE cE, .slice AO nO cO, .slice AD nD cD] 31)) := ⟨_, Lib.hid rfl⟩
 have hbl : Below w.heap.size w W := by rw [HW.out]; exact (Below.refl _ w).alloc (Nat.le_refl _) _
 have H0 : Hid (W.heap[w.heap.size]? = some (.cells #[.int .i64 num, .int .i64 ph, .slice AF nF cF, .slice AT nT cT, .slice AS nS cS, .slice AE nE cE, .slice AO nO cO, .slice AD nD cD] 31 (0, 0))) := Lib.hid (by rw [HW.out]; exact heap_new w _)
 have HBL := Lib.hid hbl
 have HS := Lib.hid (h.below (hbl.mono hB))
 clear h hbl
 obtain ⟨_, _, _, _, x4, _, _, _⟩ := row8 H0.out
 obtain ⟨b, off, rfl, _, _, s1⟩ := HS.out.at_ hk
 have hki : (k : Int) < (nS : Int) := by omega
 have hk0 : (0 : Int) ≤ (k : Int) := by omega
 obtain ⟨u, HU⟩ : ∃ u, Hid (eb S k = u) := ⟨_, Lib.hid rfl⟩
 rw [HU.out] at s1
 go_enter Try.func48, Try.ntmps48
 go_upto_region 1 with fail
 change Code.wp _ _ _ _ (w.alloc (.cells #[.int .i64 num, .int .i64 ph, .slice AF nF cF, .slice AT nT cT, .slice (some ⟨b, off, none⟩) nS cS, .slice AE nE cE, .slice AO nO cO, .slice AD nD cD] 31))
 rw [← HW.out]
 by_cases h3 : u = 3
 ·have hb3 : (u == 3) = true := by rw [beq_iff_eq]; exact h3
  have HV : Hid (decide (eb S k = 3) = true) := Lib.hid (decide_eq_true (by rw [HU.out]; exact h3))
  clear h3
  go_wp2_with fail
  refine bodyPost_ret (results_tmp rfl _ _ _) rfl ⟨?_, HBL.out⟩
  exact congrArg (fun b => Ending.returned (.bool b)) HV.out.symm
 ·have hb3 : (u == 3) = false := by rw [beq_eq_false_iff_ne]; exact h3
  have HV : Hid (decide (eb S k = 3) = false) := Lib.hid (decide_eq_false (by rw [HU.out]; exact h3))
  clear h3
  go_wp2_with fail
  refine bodyPost_ret (results_tmp rfl _ _ _) rfl ⟨?_, HBL.out⟩
  exact congrArg (fun b => Ending.returned (.bool b)) HV.out.symm
set_option maxHeartbeats 8000000 in
theorem may_any {w : World} {B : Nat} {num ph : Int} {AF AT AS AE AO AD : Option Addr} {nF nT nS nE nO nD cF cT cS cE cO cD : Nat} {s : StV} (h : StW w B num ph AF nF AT nT AS nS AE nE AO nO AD nD s) (hB : B ≤ w.heap.size) (k : Int) :
 Calls Try.prog 24 #[.agg #[.int .i64 num, .int .i64 ph, .slice AF nF cF, .slice AT nT cT, .slice AS nS cS, .slice AE nE cE, .slice AO nO cO, .slice AD nD cD], .int .i64 k] w fun e w' => e = .returned (.bool (mayB s k)) ∧ Below w.heap.size w w' := by
 obtain ⟨W, HW⟩ : ∃ W, Hid (W = (w.alloc (.cells #[.int .i64 num, .int .i64 ph, .slice AF nF cF, .slice AT nT cT, .slice AS nS cS, .slice AE nE cE, .slice AO nO cO, .slice AD nD cD] 31)).alloc (.cells #[.int .i64 k] 3)) := ⟨_, Lib.hid rfl⟩
 have hbl : Below w.heap.size w W := by rw [HW.out]; exact ((Below.refl _ w).alloc (Nat.le_refl _) _).alloc (by simp) _
 have HZ0 : Hid (W.heap.size = w.heap.size + 2) := Lib.hid (by rw [HW.out]; simp)
 have H0 : Hid (W.heap[w.heap.size]? = some (.cells #[.int .i64 num, .int .i64 ph, .slice AF nF cF, .slice AT nT cT, .slice AS nS cS, .slice AE nE cE, .slice AO nO cO, .slice AD nD cD] 31 (0, 0))) := Lib.hid (by rw [HW.out, Below.heap_alloc _ _ _ (by simp)]; exact heap_new w _)
 have H1 : Hid (W.heap[w.heap.size + 1]? = some (.cells #[.int .i64 k] 3 (0, 0))) := Lib.hid (by
  rw [HW.out]
  have h := heap_new (w.alloc (.cells #[.int .i64 num, .int .i64 ph, .slice AF nF cF, .slice AT nT cT, .slice AS nS cS, .slice AE nE cE, .slice AO nO cO, .slice AD nD cD] 31)) (.cells #[.int .i64 k] 3)
  rw [World.size_alloc] at h; exact h)
 have HBL := Lib.hid hbl
 have HS := Lib.hid (h.below (hbl.mono hB))
 have HBB : Hid (B ≤ W.heap.size) := Lib.hid (Nat.le_trans hB hbl.size)
 have HNS : Hid (s.pl.S.length = nS) := Lib.hid h.pl.S.1
 have hn100 := h.pl.sz.2.2.1
 clear h hbl hB
 have HX : Hid (∀ Z, Below W.heap.size W Z → Z.cell? ⟨w.heap.size, 0, none⟩ = some (.int .i64 num) ∧ Z.cell? ⟨w.heap.size, 1, none⟩ = some (.int .i64 ph) ∧ Z.cell? ⟨w.heap.size, 2, none⟩ = some (.slice AF nF cF) ∧ Z.cell? ⟨w.heap.size, 3, none⟩ = some (.slice AT nT cT) ∧ Z.cell? ⟨w.heap.size, 4, none⟩ = some (.slice AS nS cS) ∧ Z.cell? ⟨w.heap.size, 5, none⟩ = some (.slice AE nE cE) ∧ Z.cell? ⟨w.heap.size, 6, none⟩ = some (.slice AO nO cO) ∧ Z.cell? ⟨w.heap.size, 7, none⟩ = some (.slice AD nD cD) ∧ Z.cell? ⟨w.heap.size + 1, 0, none⟩ = some (.int .i64 k)) := Lib.hid (fun Z hZ => by
  obtain ⟨a0, a1, a2, a3, a4, a5, a6, a7⟩ := row8 ((hZ.block w.heap.size (heapE_lt H0.out)).trans H0.out)
  exact ⟨a0, a1, a2, a3, a4, a5, a6, a7, (row1f ((hZ.block (w.heap.size + 1) (heapE_lt H1.out)).trans H1.out)).1⟩)
 obtain ⟨x0, x1, x2, x3, x4, x5, x6, x7, y0⟩ := HX.out W (Below.refl _ _)
 have hmf := fun (fn : Fn) (first cap : Array Value) (W : World) => (show (Instr.makeFunc fn first cap).run Try.prog W = .ok (.func fn first cap) W from rfl)
 go_enter Try.func24, Try.ntmps24
 go_upto_region 1 with fail
 change Code.wp _ _ _ _ ((w.alloc (.cells #[.int .i64 num, .int .i64 ph, .slice AF nF cF, .slice AT nT cT, .slice AS nS cS, .slice AE nE cE, .slice AO nO cO, .slice AD nD cD] 31)).alloc (.cells #[.int .i64 k] 3))
 rw [← HW.out]
 by_cases hk0 : k < 0
 ·have d1 : decide (k < 0) = true := decide_eq_true hk0
  have HV : Hid (mayB s k = false) := Lib.hid (by unfold mayB rangeB; rw [decide_eq_false (show ¬ 0 ≤ k by omega)]; rfl)
  go_wp2_with fail
  refine bodyPost_ret (results_tmp rfl _ _ _) rfl ⟨?_, HBL.out⟩
  exact congrArg (fun b => Ending.returned (.bool b)) HV.out.symm
 have d1 : decide (k < 0) = false := decide_eq_false hk0
 by_cases hkn : (nS : Int) ≤ k
 ·have d2 : decide ((nS : Int) ≤ k) = true := decide_eq_true hkn
  have HV : Hid (mayB s k = false) := Lib.hid (by unfold mayB rangeB; rw [decide_eq_false (show ¬ k < (s.pl.S.length : Int) by rw [HNS.out]; omega), Bool.and_false]; rfl)
  go_wp2_with fail
  refine bodyPost_ret (results_tmp rfl _ _ _) rfl ⟨?_, HBL.out⟩
  exact congrArg (fun b => Ending.returned (.bool b)) HV.out.symm
 have d2 : decide ((nS : Int) ≤ k) = false := decide_eq_false hkn
 have HR : Hid (rangeB s k = (!inB s.op k && !inB s.dn k)) := Lib.hid (by unfold rangeB; rw [decide_eq_true (show 0 ≤ k by omega), decide_eq_true (show k < (s.pl.S.length : Int) by rw [HNS.out]; omega)]; rfl)
 have HC1 := Lib.hid (contains_any (c := cO) HS.out.op (by have := HS.out.so; omega) k)
 by_cases ho : inB s.op k = true
 ·rw [ho] at HC1
  have HV : Hid (mayB s k = false) := Lib.hid (by unfold mayB; rw [HR.out, ho]; rfl)
  clear ho
  go_wp2_with fail
  refine HC1.out.mono ?_
  rintro e w1 ⟨rfl, hb⟩
  have HB1 := Lib.hid (HBL.out.trans (hb.mono HBL.out.size))
  clear hb x0 x1 x2 x3 x4 x5 x6 x7 y0
  go_wp2_with fail
  refine bodyPost_ret (results_tmp rfl _ _ _) rfl ⟨?_, HB1.out⟩
  exact congrArg (fun b => Ending.returned (.bool b)) HV.out.symm
 have ho' : inB s.op k = false := by simpa using ho
 rw [ho'] at HC1
 go_wp2_with fail
 refine HC1.out.mono ?_
 rintro e w1 ⟨rfl, hb⟩
 have HB1 := Lib.hid hb
 have HS1 := Lib.hid (HS.out.below (hb.mono HBB.out))
 clear x0 x1 x2 x3 x4 x5 x6 x7 y0
 obtain ⟨x0, x1, x2, x3, x4, x5, x6, x7, y0⟩ := HX.out w1 hb
 clear hb HC1
 have HC2 := Lib.hid (contains_any (c := cD) HS1.out.dn (by have := HS1.out.sd; omega) k)
 by_cases hd : inB s.dn k = true
 ·rw [hd] at HC2
  have HV : Hid (mayB s k = false) := Lib.hid (by unfold mayB; rw [HR.out, hd, Bool.not_true, Bool.and_false]; rfl)
  clear hd ho ho'
  go_wp2_with fail
  refine HC2.out.mono ?_
  rintro e w2 ⟨rfl, hb⟩
  have HB2 := Lib.hid (HBL.out.trans ((HB1.out.trans (hb.mono HB1.out.size)).mono HBL.out.size))
  clear hb x0 x1 x2 x3 x4 x5 x6 x7 y0
  go_wp2_with fail
  refine bodyPost_ret (results_tmp rfl _ _ _) rfl ⟨?_, HB2.out⟩
  exact congrArg (fun b => Ending.returned (.bool b)) HV.out.symm
 have hd' : inB s.dn k = false := by simpa using hd
 rw [hd'] at HC2
 go_wp2_with fail
 refine HC2.out.mono ?_
 rintro e w2 ⟨rfl, hb⟩
 have HB2 := Lib.hid (HB1.out.trans (hb.mono HB1.out.size))
 have HS2 := Lib.hid (HS.out.below (HB2.out.mono HBB.out))
 clear hb x0 x1 x2 x3 x4 x5 x6 x7 y0
 obtain ⟨x0, x1, x2, x3, x4, x5, x6, x7, y0⟩ := HX.out w2 HB2.out
 obtain ⟨q, rfl⟩ : ∃ q : Nat, k = (q : Int) := ⟨k.toNat, by omega⟩
 have HR2 : Hid (mayB s (q : Int) = (decide (s.ph = if decide (eb s.pl.S q = 3) then 3 else 1) && !missB s.pl.E s.dn (q : Int))) := Lib.hid (by
  unfold mayB; rw [HR.out, ho', hd', Int.toNat_natCast]; rfl)
 have HPH : Hid (s.ph = ph) := Lib.hid HS.out.ph
 have HL2 := Lib.hid (isLast_any (num := num) (ph := ph) (AF := AF) (nF := nF) (cF := cF) (AT := AT) (nT := nT) (cT := cT) (cS := cS) (AE := AE) (nE := nE) (cE := cE) (AO := AO) (nO := nO) (cO := cO) (AD := AD) (nD := nD) (cD := cD) HS2.out.pl.S (Nat.le_trans HBB.out HB2.out.size) (show q < nS by omega) hn100)
 clear ho ho' hd hd' HC2
 obtain ⟨la, HLA⟩ : ∃ la, Hid (decide (eb s.pl.S q = 3) = la) := ⟨_, Lib.hid rfl⟩
 rw [HLA.out] at HL2 HR2
 go_wp2_with fail
 refine HL2.out.mono ?_
 rintro e w3 ⟨rfl, hb⟩
 have HB3 := Lib.hid (HB2.out.trans (hb.mono HB2.out.size))
 have HS3 := Lib.hid (HS.out.below (HB3.out.mono HBB.out))
 clear hb x0 x1 x2 x3 x4 x5 x6 x7 y0 HL2
 obtain ⟨x0, x1, x2, x3, x4, x5, x6, x7, y0⟩ := HX.out w3 HB3.out
 have HCP := Lib.hid (conP_any (c := cE) (fun p => decide (p.2 = (q : Int)) && !inB s.dn p.1) 50 #[.pointer (some ⟨w.heap.size + 1, 0, none⟩), .pointer (some ⟨w.heap.size, 0, none⟩)] HS3.out.pl.E (Nat.le_trans HBB.out HB3.out.size) (by have := HS3.out.pl.sz; omega) enters_mayF (fun Z x _ hZ => by
  refine mayF_any (w := w3) ((HB3.out.block (w.heap.size + 1) (heapE_lt H1.out)).trans H1.out) ((HB3.out.block w.heap.size (heapE_lt H0.out)).trans H0.out) hZ (Nat.le_trans HBB.out HB3.out.size) HS3.out.dn (by have := HS3.out.sd; omega) x))
 have HMI : Hid (s.pl.E.any (fun p => decide (p.2 = (q : Int)) && !inB s.dn p.1) = missB s.pl.E s.dn (q : Int)) := Lib.hid rfl
 rw [HMI.out] at HCP
 obtain ⟨mi, HM⟩ : ∃ mi, Hid (missB s.pl.E s.dn (q : Int) = mi) := ⟨_, Lib.hid rfl⟩
 rw [HM.out] at HCP HR2
 have HB3w := Lib.hid (HBL.out.trans (HB3.out.mono HBL.out.size))
 cases la with
 | true =>
  by_cases hp : ph = 3
  ·have hpb : (ph == 3) = true := by rw [beq_iff_eq]; exact hp
   have HV : Hid (mayB s (q : Int) = !mi) := Lib.hid (by rw [HR2.out, HPH.out, if_pos rfl, decide_eq_true hp]; rfl)
   clear hp
   go_wp2_with fail
   refine HCP.out.mono ?_
   rintro e w4 ⟨rfl, hb⟩
   have HB4 := Lib.hid (HB3w.out.trans (hb.mono HB3w.out.size))
   clear hb x0 x1 x2 x3 x4 x5 x6 x7 y0
   go_wp2_with fail
   refine bodyPost_ret (results_tmp rfl _ _ _) rfl ⟨?_, HB4.out⟩
   exact congrArg (fun b => Ending.returned (.bool b)) HV.out.symm
  ·have hpb : (ph == 3) = false := by rw [beq_eq_false_iff_ne]; exact hp
   have HV : Hid (mayB s (q : Int) = false) := Lib.hid (by rw [HR2.out, HPH.out, if_pos rfl, decide_eq_false hp]; rfl)
   clear hp
   go_wp2_with fail
   refine bodyPost_ret (results_tmp rfl _ _ _) rfl ⟨?_, HB3w.out⟩
   exact congrArg (fun b => Ending.returned (.bool b)) HV.out.symm
 | false =>
  by_cases hp : ph = 1
  ·have hpb : (ph == 1) = true := by rw [beq_iff_eq]; exact hp
   have HV : Hid (mayB s (q : Int) = !mi) := Lib.hid (by rw [HR2.out, HPH.out, if_neg (by decide), decide_eq_true hp]; rfl)
   clear hp
   go_wp2_with fail
   refine HCP.out.mono ?_
   rintro e w4 ⟨rfl, hb⟩
   have HB4 := Lib.hid (HB3w.out.trans (hb.mono HB3w.out.size))
   clear hb x0 x1 x2 x3 x4 x5 x6 x7 y0
   go_wp2_with fail
   refine bodyPost_ret (results_tmp rfl _ _ _) rfl ⟨?_, HB4.out⟩
   exact congrArg (fun b => Ending.returned (.bool b)) HV.out.symm
  ·have hpb : (ph == 1) = false := by rw [beq_eq_false_iff_ne]; exact hp
   have HV : Hid (mayB s (q : Int) = false) := Lib.hid (by rw [HR2.out, HPH.out, if_neg (by decide), decide_eq_false hp]; rfl)
   clear hp
   go_wp2_with fail
   refine bodyPost_ret (results_tmp rfl _ _ _) rfl ⟨?_, HB3w.out⟩
   exact congrArg (fun b => Ending.returned (.bool b)) HV.out.symm
end Go.Proofs.Ytolgmoaoheflcaa.Sa
