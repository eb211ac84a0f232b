/-
 MERGED: CAs CQs.
-/
import Derived.Test.YtminihiecloglaaGreatCNa
set_option linter.unusedVariables false
set_option linter.unusedSimpArgs false
namespace Go.Proofs.YtminihiecloglaaGreat
open Go.RowKit
open SemP
set_option maxRecDepth 10000
set_option maxHeartbeats 4000000 in
theorem nameQ_any (s : ByteArray) (w : World) (hs : s.size ≤ 1000000) :
  Calls Tryz.prog 94 #[.string s] w fun e w' => e = .returned (.bool (nameB (bs s))) ∧ w' = w := by
 have HZ : Hid (s.size = (bs s).length) := Lib.hid (Lib.size_eq s)
 by_cases h0 : s.size < 1
 ·have d1 : decide ((s.size : Int) < 1) = true := by simp; omega
  have p1 : (s.size : Int) < 1 := by omega
  have HV : Hid (nameB (bs s) = false) := Lib.hid (by
   have h : (bs s).isEmpty = true := List.isEmpty_iff_length_eq_zero.2 (by have := HZ.out; omega)
   unfold nameB; rw [h]; rfl)
  go_enter Tryz.func94, Tryz.ntmps94
  go_wp2_with fail
  refine bodyPost_ret (results_tmp rfl _ _ _) rfl ⟨?_, rfl⟩; exact congrArg (fun b => Ending.returned (.bool b)) HV.out.symm
 have d1 : decide ((s.size : Int) < 1) = false := by simp; omega
 have p1 : ¬ (s.size : Int) < 1 := by omega
 by_cases h20 : 20 < s.size
 ·have d2 : decide ((20 : Int) < (s.size : Int)) = true := by simp; omega
  have p2 : (20 : Int) < (s.size : Int) := by omega
  have HV : Hid (nameB (bs s) = false) := Lib.hid (by
   unfold nameB; rw [decide_eq_false (by have := HZ.out; omega)]; simp)
  go_enter Tryz.func94, Tryz.ntmps94
  go_wp2_with fail
  refine bodyPost_ret (results_tmp rfl _ _ _) rfl ⟨?_, rfl⟩; exact congrArg (fun b => Ending.returned (.bool b)) HV.out.symm
 have d2 : decide ((20 : Int) < (s.size : Int)) = false := by simp; omega
 have p2 : ¬ (20 : Int) < (s.size : Int) := by omega
 go_enter Tryz.func94, Tryz.ntmps94
 go_wp2_with fail
 go_loopw [3, 4] (fun v _ wr => ∃ i : Nat, i ≤ s.size ∧ v = .int .i64 (i : Int) ∧ wr = w ∧ Hid (∀ j, j < i → nameC ((bs s).getD j 0) = true) ∧ Hid (0 < i → low ((bs s).getD 0 0) = true)) (fun v _ _ => s.size - (intOf v).toNat)
 case atStart => exact ⟨0, Nat.zero_le _, rfl, rfl, Lib.hid (fun j h => absurd h (by omega)), Lib.hid (fun h => absurd h (by omega))⟩
 case round =>
  obtain ⟨i, hi, rfl, rfl, HN, HF⟩ := hrel
  by_cases him : i < s.size
  ·have hd : decide ((i : Int) < (s.size : Int)) = true := by simp; omega
   have hii : (i : Int) < (s.size : Int) := by omega
   have hadd : IntKind.i64.wrap ((i : Int) + 1) = ((i + 1 : Nat) : Int) := by rw [IntWalk.i64_in _ (by omega)]; omega
   have HL := Lib.hid (low_at s i him)
   have HD := Lib.hid (dig_at s i him)
   have HS := Lib.hid (dash_at s i him)
   have HNE : Hid (nameC ((bs s).getD i 0) = ((decide (97 ≤ (s[i]'him).toNat) && decide ((s[i]'him).toNat ≤ 122)) || (decide (48 ≤ (s[i]'him).toNat) && decide ((s[i]'him).toNat ≤ 57)) || decide ((s[i]'him).toNat = 45))) := Lib.hid (by unfold nameC; rw [HL.out, HD.out, HS.out])
   have HIL : Hid (i < (bs s).length) := Lib.hid (by rw [← HZ.out]; exact him)
   obtain ⟨x, hx⟩ : ∃ x, (s[i]'him).toNat = x := ⟨_, rfl⟩
   have HXX : Hid (x = (s[i]'him).toNat) := Lib.hid hx.symm
   by_cases c1 : 97 ≤ x ∧ x ≤ 122
   ·have HOK : Hid (nameC ((bs s).getD i 0) = true ∧ low ((bs s).getD i 0) = true) := Lib.hid (by
     constructor
     ·rw [HNE.out]; simp; omega
     ·rw [HL.out]; simp; omega)
    have e1 : decide ((97 : Int) ≤ (((s[i]'him).toNat : Nat) : Int)) = true := by simp; omega
    have e1p : ((97 : Int) ≤ (((s[i]'him).toNat : Nat) : Int)) := by omega
    have e2 : decide ((((s[i]'him).toNat : Nat) : Int) ≤ 122) = true := by simp; omega
    have e2p : ((((s[i]'him).toNat : Nat) : Int) ≤ 122) := by omega
    clear c1 hx
    go_wp2_with fail
    go_roundw
    case rel => exact ⟨i + 1, by omega, by go_num, trivial, Lib.hid (fun j hj => by
     by_cases e : j = i
     ·subst e; exact HOK.out.1
     ·exact HN.out j (by omega)), Lib.hid (fun _ => by
     by_cases e : i = 0
     ·subst e; exact HOK.out.2
     ·exact HF.out (by omega))⟩
    case measure => simp [intOf]; omega
   ·have HE97 : Hid (97 ≤ x → ¬ x ≤ 122) := Lib.hid (fun h1 h2 => c1 ⟨h1, h2⟩)
    by_cases hi0 : i = 0
    ·have HV : Hid (nameB (bs s) = false) := Lib.hid (by
      have h : low ((bs s).getD i 0) = false := by
       rw [HL.out, ← HXX.out]
       by_cases h1 : 97 ≤ x
       ·rw [decide_eq_false (HE97.out h1)]; simp
       ·rw [decide_eq_false h1]; simp
      have h' : low ((bs s).getD 0 0) = false := by rw [← hi0]; exact h
      unfold nameB; rw [h']; simp)
     have hz0 : ((i : Int) == 0) = true := by rw [hi0]; rfl
     clear HN HF HNE HIL HL HD HS hi0
     by_cases h97 : 97 ≤ x
     ·have e1 : decide ((97 : Int) ≤ (((s[i]'him).toNat : Nat) : Int)) = true := by simp; omega
      have e1p : ((97 : Int) ≤ (((s[i]'him).toNat : Nat) : Int)) := by omega
      have e2p : ¬ ((((s[i]'him).toNat : Nat) : Int) ≤ 122) := by omega
      have e2 : decide ((((s[i]'him).toNat : Nat) : Int) ≤ 122) = false := decide_eq_false e2p
      clear c1 hx
      go_wp2_with fail
      refine bodyPost_ret (results_tmp rfl _ _ _) rfl ⟨?_, rfl⟩; exact congrArg (fun b => Ending.returned (.bool b)) HV.out.symm
     ·have e1p : ¬ ((97 : Int) ≤ (((s[i]'him).toNat : Nat) : Int)) := by omega
      have e1 : decide ((97 : Int) ≤ (((s[i]'him).toNat : Nat) : Int)) = false := decide_eq_false e1p
      clear c1 hx
      go_wp2_with fail
      refine bodyPost_ret (results_tmp rfl _ _ _) rfl ⟨?_, rfl⟩; exact congrArg (fun b => Ending.returned (.bool b)) HV.out.symm
    have hz0 : ((i : Int) == 0) = false := by rw [beq_eq_false_iff_ne]; omega
    by_cases c3 : x = 45
    ·have HOK : Hid (nameC ((bs s).getD i 0) = true) := Lib.hid (by rw [HNE.out]; simp; omega)
     have e1p : ¬ ((97 : Int) ≤ (((s[i]'him).toNat : Nat) : Int)) := by omega
     have e1 : decide ((97 : Int) ≤ (((s[i]'him).toNat : Nat) : Int)) = false := decide_eq_false e1p
     have e3 : ((((s[i]'him).toNat : Nat) : Int) != 45) = false := by simp; omega
     clear c1 c3 hx
     go_wp2_with fail
     go_roundw
     case rel => exact ⟨i + 1, by omega, by go_num, trivial, Lib.hid (fun j hj => by
      by_cases e : j = i
      ·subst e; exact HOK.out
      ·exact HN.out j (by omega)), Lib.hid (fun _ => HF.out (by omega))⟩
     case measure => simp [intOf]; omega
    have e3 : ((((s[i]'him).toNat : Nat) : Int) != 45) = true := by rw [bne_iff_ne]; omega
    by_cases h48 : x < 48
    ·have e1p : ¬ ((97 : Int) ≤ (((s[i]'him).toNat : Nat) : Int)) := by omega
     have e1 : decide ((97 : Int) ≤ (((s[i]'him).toNat : Nat) : Int)) = false := decide_eq_false e1p
     have e4p : ((((s[i]'him).toNat : Nat) : Int) < 48) := by omega
     have e4 : decide ((((s[i]'him).toNat : Nat) : Int) < 48) = true := decide_eq_true e4p
     have HNO : Hid (nameC ((bs s).getD i 0) = false) := Lib.hid (by rw [HNE.out]; simp; omega)
     have HV : Hid (nameB (bs s) = false) := Lib.hid (nameB_no HIL.out HNO.out)
     clear c1 c3 hx h48
     go_wp2_with fail
     refine bodyPost_ret (results_tmp rfl _ _ _) rfl ⟨?_, rfl⟩; exact congrArg (fun b => Ending.returned (.bool b)) HV.out.symm
    have e4p : ¬ ((((s[i]'him).toNat : Nat) : Int) < 48) := by omega
    have e4 : decide ((((s[i]'him).toNat : Nat) : Int) < 48) = false := decide_eq_false e4p
    by_cases h57 : 57 < x
    ·have e5p : ((57 : Int) < (((s[i]'him).toNat : Nat) : Int)) := by omega
     have e5 : decide ((57 : Int) < (((s[i]'him).toNat : Nat) : Int)) = true := decide_eq_true e5p
     have HNO : Hid (nameC ((bs s).getD i 0) = false) := Lib.hid (by rw [HNE.out]; simp; have := HE97.out; omega)
     have HV : Hid (nameB (bs s) = false) := Lib.hid (nameB_no HIL.out HNO.out)
     by_cases h97 : 97 ≤ x
     ·have e1p : ((97 : Int) ≤ (((s[i]'him).toNat : Nat) : Int)) := by omega
      have e1 : decide ((97 : Int) ≤ (((s[i]'him).toNat : Nat) : Int)) = true := decide_eq_true e1p
      have e2p : ¬ ((((s[i]'him).toNat : Nat) : Int) ≤ 122) := by omega
      have e2 : decide ((((s[i]'him).toNat : Nat) : Int) ≤ 122) = false := decide_eq_false e2p
      clear c1 c3 hx h57 h97
      go_wp2_with fail
      refine bodyPost_ret (results_tmp rfl _ _ _) rfl ⟨?_, rfl⟩; exact congrArg (fun b => Ending.returned (.bool b)) HV.out.symm
     ·have e1p : ¬ ((97 : Int) ≤ (((s[i]'him).toNat : Nat) : Int)) := by omega
      have e1 : decide ((97 : Int) ≤ (((s[i]'him).toNat : Nat) : Int)) = false := decide_eq_false e1p
      clear c1 c3 hx h57 h97
      go_wp2_with fail
      refine bodyPost_ret (results_tmp rfl _ _ _) rfl ⟨?_, rfl⟩; exact congrArg (fun b => Ending.returned (.bool b)) HV.out.symm
    ·have HOK : Hid (nameC ((bs s).getD i 0) = true) := Lib.hid (by rw [HNE.out]; simp; omega)
     have e1p : ¬ ((97 : Int) ≤ (((s[i]'him).toNat : Nat) : Int)) := by omega
     have e1 : decide ((97 : Int) ≤ (((s[i]'him).toNat : Nat) : Int)) = false := decide_eq_false e1p
     have e5p : ¬ ((57 : Int) < (((s[i]'him).toNat : Nat) : Int)) := by omega
     have e5 : decide ((57 : Int) < (((s[i]'him).toNat : Nat) : Int)) = false := decide_eq_false e5p
     clear c1 c3 hx h57
     go_wp2_with fail
     go_roundw
     case rel => exact ⟨i + 1, by omega, by go_num, trivial, Lib.hid (fun j hj => by
      by_cases e : j = i
      ·subst e; exact HOK.out
      ·exact HN.out j (by omega)), Lib.hid (fun _ => HF.out (by omega))⟩
     case measure => simp [intOf]; omega
  ·have hd : decide ((i : Int) < (s.size : Int)) = false := by simp; omega
   have HV : Hid (nameB (bs s) = true) := Lib.hid (nameB_yes (by rw [← HZ.out]; omega) (by rw [← HZ.out]; omega) (HF.out (by omega)) (fun j hj => HN.out j (by rw [← HZ.out] at hj; omega)))
   go_wp2_with fail
   refine bodyPost_ret (results_tmp rfl _ _ _) rfl ⟨?_, rfl⟩; exact congrArg (fun b => Ending.returned (.bool b)) HV.out.symm
set_option maxHeartbeats 8000000 in
theorem asksQ_any {w : World} {B n c i : Nat} {j : Int} {A : Option Addr} {l : List Sv} (h : CatAt w B A n c l) (hi : i < n) :
  Calls Tryz.prog 98 #[.agg #[.slice A n c], .int .i64 (i : Int), .int .i64 j] w fun e w' => e = .returned (.bool (asks l i j)) ∧ Below w.heap.size w w' := by
 have HN : Hid (l.length = n) := Lib.hid h.rd.1
 have hn16 := h.n16
 have hle := h.le
 have hii : (i : Int) < (n : Int) := by omega
 obtain ⟨W, HW⟩ : ∃ W, Hid (W = w.alloc (.cells #[.slice A n c] 29)) := ⟨_, Lib.hid rfl⟩
 have hbl : Below w.heap.size w W := by rw [HW.out]; exact (Below.refl _ w).alloc (Nat.le_refl _) _
 have hzW : W.heap.size = w.heap.size + 1 := by rw [HW.out]; simp
 have H0 : Hid (W.heap[w.heap.size]? = some (.cells #[.slice A n c] 29 (0, 0))) := Lib.hid (by rw [HW.out]; exact heap_new w _)
 have HA0 := Lib.hid h
 have HBL := Lib.hid hbl
 have HSI := Lib.hid (h.sm.2 _ (svAt_mem (i := i) (by rw [HN.out]; exact hi)))
 obtain ⟨rls, HRLS⟩ : ∃ x, Hid ((svAt l i).2 = x) := ⟨_, Lib.hid rfl⟩
 have HAS : Hid (asks l i j = rls.any (fun r => r.2.2.any (fun n => decide (n.1 = j)))) := Lib.hid (by unfold asks; rw [HRLS.out])
 have HLR : Hid (rls.length ≤ 16) := Lib.hid (by rw [← HRLS.out]; exact HSI.out.2.1)
 clear h hbl
 go_enter Tryz.func98, Tryz.ntmps98
 go_upto_region 1 with fail
 change Code.wp _ _ _ _ (w.alloc (.cells #[.slice A n c] 29))
 rw [← HW.out]
 go_wp2_with fail
 go_loopw [7, 8, 9] (fun v _ _ wr => ∃ k : Nat, k ≤ rls.length ∧ v = .int .i64 (k : Int) ∧ Hid (Below W.heap.size W wr) ∧ Hid (∀ m, m < k → (rlAt rls m).2.2.any (fun n => decide (n.1 = j)) = false)) (fun v _ _ _ => rls.length - (intOf v).toNat)
 case atStart => exact ⟨0, Nat.zero_le _, rfl, Lib.hid (Below.refl _ _), Lib.hid (fun m h => absurd h (by omega))⟩
 case round =>
  obtain ⟨wo, hwo⟩ : ∃ x, x = wr := ⟨_, rfl⟩
  subst hwo
  obtain ⟨k, hk, rfl, HR, HOK⟩ := hrel
  have hzr := HR.out.size
  have HB : Hid (Below w.heap.size w wo) := Lib.hid (HBL.out.trans (HR.out.mono (by omega)))
  obtain ⟨x0, _⟩ := row1f ((HR.out.block w.heap.size (by omega)).trans H0.out)
  have HA := Lib.hid (HA0.out.below HB.out)
  obtain ⟨b1, o1, Aj, nj, cj, hA, hb1, k0, k1, _, hrr⟩ := sv_at HA.out.rd hi
  subst hA
  rw [HRLS.out] at hrr
  have hnj := hrr.1
  have hb1w : b1 < wo.heap.size := by have := HA.out.le; omega
  by_cases hkn : k < rls.length
  ·have hd : decide ((k : Int) < (nj : Int)) = true := by simp; omega
   have hki : (k : Int) < (nj : Int) := by omega
   have hadd : IntKind.i64.wrap ((k : Int) + 1) = ((k + 1 : Nat) : Int) := by rw [IntWalk.i64_in _ (by have := HLR.out; omega)]; omega
   obtain ⟨b2, o2, A3, n3, c3, rfl, hb2, q0, q1, q2, q3, q4, q5, _, hnd⟩ := rl_at hrr (show k < nj by omega)
   have hb2w : b2 < wo.heap.size := by have := HA.out.le; omega
   have HSN := Lib.hid ((HSI.out.2.2 (rlAt rls k) (by rw [HRLS.out]; exact rlAt_mem hkn)).1)
   obtain ⟨x, HX⟩ : ∃ x, Hid (rlAt rls k = x) := ⟨_, Lib.hid rfl⟩
   rw [HX.out] at q0 q1 q2 q3 q4 hnd HSN
   obtain ⟨⟨va, vb, vc, vs⟩, lv, nds⟩ := x
   simp only at q0 q1 q2 q3 q4 hnd HSN
   have HNL : Hid (nds.length = n3) := Lib.hid hnd.1
   have hn3 : n3 ≤ 12 := by have := HSN.out; have := HNL.out; omega
   obtain ⟨X, HXX⟩ : ∃ X, Hid (X = wo.alloc (.cells #[.int .i64 va, .int .i64 vb, .int .i64 vc, .string vs, .int .i64 lv, .slice A3 n3 c3] 125)) := ⟨_, Lib.hid rfl⟩
   have hbx : Below wo.heap.size wo X := by rw [HXX.out]; exact (Below.refl _ wo).alloc (Nat.le_refl _) _
   have hX0 : X.heap[wo.heap.size]? = some (.cells #[.int .i64 va, .int .i64 vb, .int .i64 vc, .string vs, .int .i64 lv, .slice A3 n3 c3] 125 (0, 0)) := by rw [HXX.out]; exact heap_new wo _
   obtain ⟨y0, y1, y2, y3, y4, y5, _⟩ := r6_cells hX0
   have HBX : Hid (Below W.heap.size W X) := Lib.hid (HR.out.trans (hbx.mono hzr))
   have HNDX : Hid (RdJ 2 pnI X (fun b => B ≤ b) A3 n3 nds) := Lib.hid (RdJ.below' pn_turns hnd HA.out.le hbx)
   clear hnd hrr hbx hX0
   go_upto_region 5 with fail
   change Code.wp _ _ _ _ (wo.alloc (.cells #[.int .i64 va, .int .i64 vb, .int .i64 vc, .string vs, .int .i64 lv, .slice A3 n3 c3] 125))
   rw [← HXX.out]
   clear x0 k0 k1 q0 q1 q2 q3 q4 q5
   go_wp2_with fail
   go_loopw [9] (fun v wr => ∃ m : Nat, m ≤ n3 ∧ v = .int .i64 (m : Int) ∧ wr = X ∧ Hid (∀ q, q < m → decide ((pnAt nds q).1 = j) = false)) (fun v _ => n3 - (intOf v).toNat)
   case atStart => exact ⟨0, Nat.zero_le _, rfl, rfl, Lib.hid (fun m h => absurd h (by omega))⟩
   case round =>
    obtain ⟨m, hm, rfl, rfl, HOKm⟩ := hrel
    by_cases hmn : m < n3
    ·have hd2 : decide ((m : Int) < (n3 : Int)) = true := by simp; omega
     have hmi : (m : Int) < (n3 : Int) := by omega
     have hadd2 : IntKind.i64.wrap ((m : Int) + 1) = ((m + 1 : Nat) : Int) := by rw [IntWalk.i64_in _ (by omega)]; omega
     obtain ⟨b4, o4, A5, n5, c5, rfl, hb4, p0, p1, _, _⟩ := nd_at HNDX.out hmn
     have HML : Hid (m < nds.length) := Lib.hid (by rw [HNL.out]; exact hmn)
     by_cases hj : (pnAt nds m).1 = j
     ·have HV : Hid (asks l i j = true) := Lib.hid (by
       rw [HAS.out, List.any_eq_true]
       refine ⟨rlAt rls k, rlAt_mem hkn, ?_⟩
       rw [HX.out, List.any_eq_true]
       exact ⟨pnAt nds m, pnAt_mem HML.out, decide_eq_true hj⟩)
      rw [hj] at p0
      clear hj
      go_wp2_with fail
      refine bodyPost_ret (results_tmp rfl _ _ _) rfl ⟨?_, HBL.out.trans (HBX.out.mono (by omega))⟩
      exact congrArg (fun b => Ending.returned (.bool b)) HV.out.symm
     ·have HJ := Lib.hid (decide_eq_false hj)
      obtain ⟨pj, HPJ⟩ : ∃ pj, Hid ((pnAt nds m).1 = pj) := ⟨_, Lib.hid rfl⟩
      rw [HPJ.out] at p0 hj
      have h3 : (pj == j) = false := by rw [beq_eq_false_iff_ne]; exact hj
      go_wp2_with fail
      go_roundw
      case rel => exact ⟨m + 1, by omega, by go_num, trivial, Lib.hid (fun q hq => by
       by_cases e : q = m
       ·subst e; exact HJ.out
       ·exact HOKm.out q (by omega))⟩
      case measure => simp [intOf]; omega
    ·have hd2 : decide ((m : Int) < (n3 : Int)) = false := by simp; omega
     obtain rfl : m = n3 := by omega
     have HNO : Hid ((rlAt rls k).2.2.any (fun n => decide (n.1 = j)) = false) := Lib.hid (by
      rw [HX.out]
      refine List.any_eq_false.2 fun y hy => ?_
      obtain ⟨q, hq, rfl⟩ := List.getElem_of_mem hy
      have hq' : q < nds.length := hq
      have h := HOKm.out q (by have := HNL.out; omega)
      rw [show pnAt nds q = nds[q] by simp [pnAt, List.getD, hq]] at h
      rw [h]; simp)
     go_wp2_with fail
     go_roundw
     case rel => exact ⟨k + 1, by omega, by go_num, HBX, Lib.hid (fun q hq => by
      by_cases e : q = k
      ·subst e; exact HNO.out
      ·exact HOK.out q (by omega))⟩
     case measure => simp [intOf]; omega
  ·have hd : decide ((k : Int) < (nj : Int)) = false := by simp; omega
   have HV : Hid (asks l i j = false) := Lib.hid (by
    rw [HAS.out]
    refine List.any_eq_false.2 fun y hy => ?_
    obtain ⟨q, hq, rfl⟩ := List.getElem_of_mem hy
    have h := HOK.out q (by omega)
    rw [show rlAt rls q = rls[q] by simp [rlAt, List.getD, hq]] at h
    rw [h]; simp)
   have hki : ¬ (k : Int) < (nj : Int) := by omega
   clear hrr
   go_wp2_with fail
   refine bodyPost_ret (results_tmp rfl _ _ _) rfl ⟨?_, HB.out⟩
   exact congrArg (fun b => Ending.returned (.bool b)) HV.out.symm
end Go.Proofs.YtminihiecloglaaGreat
namespace Go.Proofs.YtminihiecloglaaGreat
open Go.RowKit
open SemP
set_option maxRecDepth 10000
set_option maxHeartbeats 8000000 in
theorem serviceQ_any {w : World} {B n c i : Nat} {A : Option Addr} {l : List Sv} (h : CatAt w B A n c l) (hi : i < n) :
  Calls Tryz.prog 69 #[.agg #[.slice A n c], .int .i64 (i : Int)] w fun e w' => e = .returned (.int .i64 (svcE l i)) ∧ Below w.heap.size w w' := by
 have HN : Hid (l.length = n) := Lib.hid h.rd.1
 have hn16 := h.n16
 obtain ⟨b1, o1, Aj, nj, cj, rfl, hb1, k0, k1, hcap, hrr⟩ := sv_at h.rd hi
 have hb1w : b1 < w.heap.size := by have := h.le; omega
 have hii : (i : Int) < (n : Int) := by omega
 have hsm := h.sm.2 _ (svAt_mem (i := i) (by rw [HN.out]; exact hi))
 have HNJ : Hid ((svAt l i).2.length = nj) := Lib.hid hrr.1
 have hnj : nj ≤ 16 := by have := hsm.2.1; have := HNJ.out; omega
 have HSZ : Hid ((svAt l i).1.size ≤ 100) := Lib.hid hsm.1
 obtain ⟨nm, HNM⟩ : ∃ nm, Hid ((svAt l i).1 = nm) := ⟨_, Lib.hid rfl⟩
 rw [HNM.out] at k0 HSZ
 have HV : Hid (svcE l i = if nameB (bs nm) = false then 30 else if (l.take i).any (fun o => decide (o.1 = nm)) then 31 else if nj < 1 ∨ 12 < nj then 36 else 0) := Lib.hid (by unfold svcE; rw [HNM.out, HNJ.out])
 obtain ⟨W, HW⟩ : ∃ W, Hid (W = (w.alloc (.cells #[.slice (some ⟨b1, o1, none⟩) n c] 29)).alloc (.cells #[.string nm, .slice Aj nj cj] 128)) := ⟨_, Lib.hid rfl⟩
 have hbl : Below w.heap.size w W := by rw [HW.out]; exact ((Below.refl _ w).alloc (Nat.le_refl _) _).alloc (by simp) _
 have hz : W.heap.size = w.heap.size + 2 := by rw [HW.out]; simp
 have h0 : W.heap[w.heap.size]? = some (.cells #[.slice (some ⟨b1, o1, none⟩) n c] 29 (0, 0)) := by
  rw [HW.out, Below.heap_alloc _ _ _ (by simp)]; exact heap_new w _
 have h1 : W.heap[w.heap.size + 1]? = some (.cells #[.string nm, .slice Aj nj cj] 128 (0, 0)) := by
  rw [HW.out]
  have h := heap_new (w.alloc (.cells #[.slice (some ⟨b1, o1, none⟩) n c] 29)) (.cells #[.string nm, .slice Aj nj cj] 128)
  rw [World.size_alloc] at h; exact h
 have HA := Lib.hid (h.below hbl)
 have HBL := Lib.hid hbl
 have HRN := Lib.hid (nameQ_any nm W (by have := HSZ.out; omega))
 have H0 := Lib.hid h0
 have H1 := Lib.hid h1
 clear hbl h0 h1 h hrr hsm
 go_enter Tryz.func69, Tryz.ntmps69
 go_upto_region 2 with fail
 change Code.wp _ _ _ _ ((w.alloc (.cells #[.slice (some ⟨b1, o1, none⟩) n c] 29)).alloc (.cells #[.string nm, .slice Aj nj cj] 128))
 rw [← HW.out]
 clear k0 k1
 obtain ⟨y0, y1, _, _⟩ := row2 H1.out
 go_wp2_with fail
 refine HRN.out.mono ?_
 rintro e w' ⟨rfl, hw'⟩
 subst hw'
 cases hq : nameB (bs nm) with
 | false =>
  have HX : Hid (svcE l i = 30) := Lib.hid (by rw [HV.out, hq]; rfl)
  clear hq
  go_wp2_with fail
  refine bodyPost_ret (results_tmp rfl _ _ _) rfl ⟨?_, HBL.out⟩
  exact congrArg (fun b => Ending.returned (.int .i64 b)) HX.out.symm
 | true =>
  have HQ := Lib.hid hq
  clear hq
  go_wp2_with fail
  clear y0 y1
  obtain ⟨W1, hW1⟩ : ∃ W1 : World, W1 = w' := ⟨_, rfl⟩
  subst hW1
  go_loopw [6] (fun v wr => ∃ k : Nat, k ≤ i ∧ v = .int .i64 (k : Int) ∧ Hid (Below W1.heap.size W1 wr) ∧ Hid (∀ m, m < k → (svAt l m).1 ≠ nm)) (fun v _ => i - (intOf v).toNat)
  case atStart => exact ⟨0, Nat.zero_le _, rfl, Lib.hid (Below.refl _ _), Lib.hid (fun m h => absurd h (by omega))⟩
  case round =>
   obtain ⟨wo, hwo⟩ : ∃ x, x = wr := ⟨_, rfl⟩
   subst hwo
   obtain ⟨k, hk, rfl, HR, HOK⟩ := hrel
   have hzr := HR.out.size
   have HB : Hid (Below w.heap.size w wo) := Lib.hid (HBL.out.trans (HR.out.mono (by omega)))
   obtain ⟨x0, _⟩ := row1f ((HR.out.block w.heap.size (by omega)).trans H0.out)
   obtain ⟨y0, y1, _, _⟩ := row2 ((HR.out.block (w.heap.size + 1) (by omega)).trans H1.out)
   by_cases hki : k < i
   ·have hd : decide ((k : Int) < (i : Int)) = true := by simp; omega
    have hkI : (k : Int) < (i : Int) := by omega
    have hkn : (k : Int) < (n : Int) := by omega
    have hadd : IntKind.i64.wrap ((k : Int) + 1) = ((k + 1 : Nat) : Int) := by rw [IntWalk.i64_in _ (by omega)]; omega
    obtain ⟨b2, o2, A2, n2, c2, he, hb2, k0, k1, _, _⟩ := sv_at (HA.out.below HR.out).rd (show k < n by omega)
    injection he with he
    injection he with e1 e2
    subst e1 e2
    have HKL : Hid (k < l.length) := Lib.hid (by rw [HN.out]; omega)
    by_cases hnm : (svAt l k).1 = nm
    ·have HX : Hid (svcE l i = 31) := Lib.hid (by
      have hany : (l.take i).any (fun o => decide (o.1 = nm)) = true := by
       rw [List.any_eq_true]
       refine ⟨svAt l k, ?_, decide_eq_true hnm⟩
       have hkl := HKL.out
       rw [show svAt l k = l[k] by simp [svAt, List.getD, hkl]]
       exact List.mem_take_iff_getElem.2 ⟨k, by omega, rfl⟩
      rw [HV.out, HQ.out, hany]; rfl)
     rw [hnm] at k0
     clear hnm
     go_wp2_with fail
     go_quiet (fail)
     go_wp2_with fail
     refine bodyPost_ret (results_tmp rfl _ _ _) rfl ⟨?_, Below.drewN' HB.out _⟩
     exact congrArg (fun b => Ending.returned (.int .i64 b)) HX.out.symm
    ·have HNE := Lib.hid hnm
     obtain ⟨t, HT⟩ : ∃ t, Hid ((svAt l k).1 = t) := ⟨_, Lib.hid rfl⟩
     rw [HT.out] at k0 hnm
     have h2 : ¬ t.toList = nm.toList := fun e => hnm (toL_inj e)
     have h3 : (t.toList == nm.toList) = false := by rw [beq_eq_false_iff_ne]; exact h2
     clear hnm
     go_wp2_with fail
     go_quiet (fail)
     clear x0 y0 y1 k0 k1
     go_wp2_with fail
     go_roundw
     case rel => exact ⟨k + 1, by omega, by go_num, Lib.hid (Below.drewN' HR.out _), Lib.hid (fun m hm => by
      by_cases e : m = k
      ·subst e; exact HNE.out
      ·exact HOK.out m (by omega))⟩
     case measure => simp [intOf]; omega
   ·have hd : decide ((k : Int) < (i : Int)) = false := by simp; omega
    have hkI : ¬ (k : Int) < (i : Int) := by omega
    have HQ2 : Hid ((l.take i).any (fun o => decide (o.1 = nm)) = false) := Lib.hid (by
     refine List.any_eq_false.2 fun y hy => ?_
     obtain ⟨q, hq, rfl⟩ := List.mem_take_iff_getElem.1 hy
     have h := HOK.out q (by omega)
     rw [show svAt l q = l[q] by simp [svAt, List.getD, show q < l.length by omega]] at h
     rw [decide_eq_false h]; simp)
    by_cases c1 : nj < 1
    ·have HX : Hid (svcE l i = 36) := Lib.hid (by rw [HV.out, HQ.out, HQ2.out, if_neg (by decide), if_neg (by decide), if_pos (.inl c1)])
     have d1 : decide ((nj : Int) < 1) = true := by simp; omega
     have p1 : (nj : Int) < 1 := by omega
     clear c1
     go_wp2_with fail
     refine bodyPost_ret (results_tmp rfl _ _ _) rfl ⟨?_, HB.out⟩
     exact congrArg (fun b => Ending.returned (.int .i64 b)) HX.out.symm
    ·have d1 : decide ((nj : Int) < 1) = false := by simp; omega
     have p1 : ¬ (nj : Int) < 1 := by omega
     by_cases c2 : 12 < nj
     ·have HX : Hid (svcE l i = 36) := Lib.hid (by rw [HV.out, HQ.out, HQ2.out, if_neg (by decide), if_neg (by decide), if_pos (.inr c2)])
      have d2 : decide ((12 : Int) < (nj : Int)) = true := by simp; omega
      have p2 : (12 : Int) < (nj : Int) := by omega
      clear c1 c2
      go_wp2_with fail
      refine bodyPost_ret (results_tmp rfl _ _ _) rfl ⟨?_, HB.out⟩
      exact congrArg (fun b => Ending.returned (.int .i64 b)) HX.out.symm
     ·have HX : Hid (svcE l i = 0) := Lib.hid (by rw [HV.out, HQ.out, HQ2.out, if_neg (by decide), if_neg (by decide), if_neg (by omega)])
      have d2 : decide ((12 : Int) < (nj : Int)) = false := by simp; omega
      have p2 : ¬ (12 : Int) < (nj : Int) := by omega
      clear c1 c2
      go_wp2_with fail
      refine bodyPost_ret (results_tmp rfl _ _ _) rfl ⟨?_, HB.out⟩
      exact congrArg (fun b => Ending.returned (.int .i64 b)) HX.out.symm
end Go.Proofs.YtminihiecloglaaGreat
