/-
 BASICS for the plan's texts, from the solver's.
-/
import Derived.Test.YtminihiecloglaaGreatCQm
import Derived.Test.YtminihiecloglaaGreatCPv
import Derived.Test.YtminihiecloglaaGreatCRg
set_option linter.unusedVariables false
set_option linter.unusedSimpArgs false
namespace Go.Proofs.YtminihiecloglaaGreat
open Go.RowKit
open SemP DiP FlP GaP
set_option maxRecDepth 10000
theorem ix_take {t : List Int} {k i : Nat} (h : i < k) : ix (t.take k) i = ix t i := by
 unfold ix; rw [List.getD_eq_getElem?_getD, List.getElem?_take, if_pos h, ← List.getD_eq_getElem?_getD]
theorem Rd.take {w : World} {B n k : Nat} {A : Option Addr} {xs : List Int} (h : Rd w B A n xs) (hk : k ≤ n) : Rd w B A k (xs.take k) :=
 ⟨by rw [List.length_take, h.1]; omega, fun h0 => by
  obtain ⟨b, off, e, hb, hc⟩ := h.2 (by omega)
  exact ⟨b, off, e, hb, fun j hj => by rw [ix_take hj]; exact hc j (by omega)⟩⟩
theorem isR_at {l : List Sv} {k : Nat} {v : Int} (hk : k < l.length) : isR l (k : Int) v = (decide (0 ≤ v) && decide (v < ((svAt l k).2.length : Int))) := by
 unfold isR isS
 rw [decide_eq_true (show (0 : Int) ≤ (k : Int) by omega), decide_eq_true (show (k : Int) < (l.length : Int) by omega), Int.toNat_natCast]; rfl
set_option maxHeartbeats 8000000 in
theorem relQ_any {w : World} {B B2 n c m c2 : Nat} {A A2 : Option Addr} {l : List Sv} {vs : List Int} (h : CatAt w B A n c l) (hv : Rd w B2 A2 m vs) (hB2 : B2 ≤ w.heap.size) (hm : m ≤ 1000000) :
  Calls Tryz.prog 35 #[.agg #[.slice A n c], .slice A2 m c2] w fun e w' => e = .returned (.bool (setB l vs)) ∧ Below w.heap.size w w' := by
 obtain ⟨W, HW⟩ : ∃ W, Hid (W = w.alloc (.cells #[.slice A n c] 29)) := ⟨_, Lib.hid rfl⟩
 have hbl : Below w.heap.size w W := by rw [HW.out]; exact (Below.refl _ w).alloc (Nat.le_refl _) _
 have HBL := Lib.hid hbl
 have H0 : Hid (W.heap[w.heap.size]? = some (.cells #[.slice A n c] 29 (0, 0))) := Lib.hid (by rw [HW.out]; exact heap_new w _)
 have HA := Lib.hid (h.below hbl)
 have HV := Lib.hid (hv.below (hbl.mono hB2))
 have HNL : Hid (l.length = n) := Lib.hid h.rd.1
 have HVL : Hid (vs.length = m) := Lib.hid hv.len
 have HBB : Hid (B2 ≤ W.heap.size) := Lib.hid (Nat.le_trans hB2 hbl.size)
 have hn16 := h.n16
 clear h hv hbl
 obtain ⟨x0, _⟩ := row1f H0.out
 go_enter Tryz.func35, Tryz.ntmps35
 go_upto_region 1 with fail
 change Code.wp _ _ _ _ (w.alloc (.cells #[.slice A n c] 29))
 rw [← HW.out]
 by_cases hmn : m = n
 rotate_left
 ·have hne : ((m : Int) != (n : Int)) = true := by rw [bne_iff_ne]; omega
  have HF : Hid (setB l vs = false) := Lib.hid (by
   unfold setB; rw [decide_eq_false (by rw [HVL.out, HNL.out]; exact hmn), Bool.false_and])
  go_wp2_with fail
  refine bodyPost_ret (results_tmp rfl _ _ _) rfl ⟨?_, HBL.out⟩
  exact congrArg (fun b => Ending.returned (.bool b)) HF.out.symm
 subst hmn
 go_wp2_with fail
 clear x0
 go_loopw [5] (fun v wr => ∃ k : Nat, k ≤ m ∧ v = .int .i64 (k : Int) ∧ Hid (Below W.heap.size W wr) ∧ Hid (∀ i, i < k → isR l (i : Int) (ix vs i) = true)) (fun v _ => m - (intOf v).toNat)
 case atStart => exact ⟨0, Nat.zero_le _, rfl, Lib.hid (Below.refl _ _), Lib.hid (fun i h => absurd h (by omega))⟩
 case round =>
  obtain ⟨wo, hwo⟩ : ∃ x, x = wr := ⟨_, rfl⟩
  subst hwo
  obtain ⟨k, hk, rfl, HBo, HOK⟩ := hrel
  have HWo : Hid (Below w.heap.size w wo) := Lib.hid (HBL.out.trans (HBo.out.mono HBL.out.size))
  have Ko : Hid (wo.heap[w.heap.size]? = _) := Lib.hid ((HBo.out.block w.heap.size (heapE_lt H0.out)).trans H0.out)
  by_cases hkn : k < m
  ·have hd : decide ((k : Int) < (m : Int)) = true := by simp; omega
   have hki : (k : Int) < (m : Int) := by omega
   have hk0 : (0 : Int) ≤ (k : Int) := by omega
   have hadd : IntKind.i64.wrap ((k : Int) + 1) = ((k + 1 : Nat) : Int) := by rw [IntWalk.i64_in _ (by omega)]; omega
   have HAo := Lib.hid (HA.out.below HBo.out)
   obtain ⟨bv, ov, hAv, hbv, kv⟩ := (HV.out.below (HBo.out.mono HBB.out)).at_ hkn
   obtain ⟨b1, o1, Aj, nj, cj, hAA, hb1, _, k1, _, hrj⟩ := sv_at HAo.out.rd (i := k) hkn
   subst hAv hAA
   have HNJ : Hid ((svAt l k).2.length = nj) := Lib.hid hrj.1
   have HRK := Lib.hid (isR_at (l := l) (k := k) (v := ix vs k) (by rw [HNL.out]; exact hkn))
   obtain ⟨v, HVV⟩ : ∃ v, Hid (ix vs k = v) := ⟨_, Lib.hid rfl⟩
   rw [HVV.out] at kv
   obtain ⟨x0, _⟩ := row1f Ko.out
   clear hrj
   by_cases hv0 : v < 0
   ·have d1 : decide (v < 0) = true := decide_eq_true hv0
    have HF : Hid (setB l vs = false) := Lib.hid (by
     have h1 : (List.range vs.length).all (fun i => isR l (i : Int) (ix vs i)) = false := by
      rw [List.all_eq_false]
      exact ⟨k, List.mem_range.2 (by rw [HVL.out]; exact hkn), by rw [HRK.out, HVV.out, decide_eq_false (by omega)]; simp⟩
     unfold setB; rw [h1, Bool.and_false])
    go_wp2_with fail
    go_quiet (fail)
    go_wp2_with fail
    refine bodyPost_ret (results_tmp rfl _ _ _) rfl ⟨?_, by first | exact HWo.out | exact Below.drewN' HWo.out _⟩
    exact congrArg (fun b => Ending.returned (.bool b)) HF.out.symm
   have d1 : decide (v < 0) = false := decide_eq_false hv0
   by_cases hvn : (nj : Int) ≤ v
   ·have d2 : decide ((nj : Int) ≤ v) = true := decide_eq_true hvn
    have HF : Hid (setB l vs = false) := Lib.hid (by
     have h1 : (List.range vs.length).all (fun i => isR l (i : Int) (ix vs i)) = false := by
      rw [List.all_eq_false]
      exact ⟨k, List.mem_range.2 (by rw [HVL.out]; exact hkn), by rw [HRK.out, HVV.out, HNJ.out, decide_eq_false (show ¬ v < (nj : Int) by omega)]; simp⟩
     unfold setB; rw [h1, Bool.and_false])
    go_wp2_with fail
    go_quiet (fail)
    go_wp2_with fail
    refine bodyPost_ret (results_tmp rfl _ _ _) rfl ⟨?_, by first | exact HWo.out | exact Below.drewN' HWo.out _⟩
    exact congrArg (fun b => Ending.returned (.bool b)) HF.out.symm
   have d2 : decide ((nj : Int) ≤ v) = false := decide_eq_false hvn
   have HQ : Hid (isR l (k : Int) (ix vs k) = true) := Lib.hid (by rw [HRK.out, HVV.out, HNJ.out, decide_eq_true (show 0 ≤ v by omega), decide_eq_true (show v < (nj : Int) by omega)]; rfl)
   go_wp2_with fail
   go_quiet (fail)
   go_wp2_with fail
   go_roundw
   case rel => exact ⟨k + 1, by omega, by go_num, Lib.hid (by first | exact HBo.out | exact Below.drewN' HBo.out _), Lib.hid (fun i hi => by
    by_cases e : i = k
    ·subst e; exact HQ.out
    ·exact HOK.out i (by omega))⟩
   case measure => simp [intOf]; omega
  ·have hd : decide ((k : Int) < (m : Int)) = false := by simp; omega
   have HF : Hid (setB l vs = true) := Lib.hid (setB_iff.2 ⟨by rw [HVL.out, HNL.out], fun i hi => HOK.out i (by have := HVL.out; omega)⟩)
   go_wp2_with fail
   refine bodyPost_ret (results_tmp rfl _ _ _) rfl ⟨?_, HWo.out⟩
   exact congrArg (fun b => Ending.returned (.bool b)) HF.out.symm
end Go.Proofs.YtminihiecloglaaGreat
