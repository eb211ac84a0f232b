/-
 CONTRACTS: small, Replay (printed by gengrp.py).
-/
import Derived.Test.YtolgmoaoheflcaaGRc
import Derived.OwnWalk
namespace Go.Proofs.Ytolgmoaoheflcaa.Sa
open Go.RowKit
open DiP
set_option linter.unusedVariables false
set_option linter.unusedSimpArgs false
set_option maxRecDepth 10000
theorem results_cell_tmp3 {fn : Func} {p u v : Tmp} {ty : TypeId} (h : fn.results = #[.cell p ty, .tmp u, .tmp v]) (tmps : Array Value) (P : Program) (w : World) :
  (results fn tmps).run P w =
   ((asAddr (tmps.getD p undef)).run P w).andThen fun a w₁ => ((loadVar ty a).run P w₁).andThen fun x w₂ => .ok (.tuple #[x, tmps.getD u undef, tmps.getD v undef]) w₂ := by
 simp only [results, h]
 simp [Sem.run_bind, Result.andThen]
def smallB (l : List RcV) (most : Int) : Bool := l.all (fun r => szB r.pl) && decide ((l.length : Int) ≤ most)
theorem smallB_sz {l : List RcV} {most : Int} (h : smallB l most = true) : (∀ j, j < l.length → szB (rcAt l j).pl = true) ∧ (l.length : Int) ≤ most := by
 unfold smallB at h
 simp only [Bool.and_eq_true, decide_eq_true_eq, List.all_eq_true] at h
 refine ⟨fun j hj => h.1 _ ?_, h.2⟩
 unfold rcAt
 simp [List.getD, hj]
set_option maxHeartbeats 4000000 in
theorem small_any {w : World} {B n c : Nat} {A : Option Addr} {l : List RcV} (h : RdL w B A n l) (hB : B ≤ w.heap.size) (most : Int) :
 Calls Try.prog 10 #[.slice A n c, .int .i64 most] w fun e w' => e = .returned (.bool (smallB l most)) ∧ Below w.heap.size w w' := by
 have HL := Lib.hid h
 have HBW := Lib.hid hB
 have HLN : Hid (l.length = n) := Lib.hid h.len
 have hmx := h.mx
 clear h hB
 go_enter Try.func10, Try.ntmps10
 go_wp2_with fail
 go_loopw [6, 7, 8, 11] (fun _ _ _ v wr => ∃ k : Nat, k ≤ n ∧ v = .int .i64 (k : Int) ∧ Hid (Below w.heap.size w wr) ∧ Hid (∀ i, i < k → szB (rcAt l i).pl = true)) (fun _ _ _ v _ => n - (intOf v).toNat)
 case atStart => exact ⟨0, Nat.zero_le _, rfl, Lib.hid (Below.refl _ _), Lib.hid (fun i h => absurd h (by omega))⟩
 case round =>
  obtain ⟨wo, hwo⟩ : ∃ x, x = wr := ⟨_, rfl⟩
  subst hwo
  obtain ⟨k, hk, rfl, HBo, HOK⟩ := hrel
  by_cases hkn : k < n
  ·have hd : decide ((k : Int) < (n : Int)) = true := by simp; omega
   have hki : (k : Int) < (n : Int) := by omega
   have hadd : IntKind.i64.wrap ((k : Int) + 1) = ((k + 1 : Nat) : Int) := by rw [IntWalk.i64_in _ (by omega)]; omega
   obtain ⟨b, off, BF, mF, dF, BT, mT, dT, BS, mS, dS, BE, mE, dE, hA, hbB, kc0, kc1, kc2, kc3, kc4, kc5, hp⟩ := HL.out.at_ k hkn
   subst hA
   have kc0 := (HBo.out.cell (p := ⟨b, off + k * 6, none⟩) (by exact Nat.lt_of_lt_of_le hbB HBW.out)).trans kc0
   have kc1 := (HBo.out.cell (p := ⟨b, off + k * 6 + 1, none⟩) (by exact Nat.lt_of_lt_of_le hbB HBW.out)).trans kc1
   have kc2 := (HBo.out.cell (p := ⟨b, off + k * 6 + 2, none⟩) (by exact Nat.lt_of_lt_of_le hbB HBW.out)).trans kc2
   have kc3 := (HBo.out.cell (p := ⟨b, off + k * 6 + 3, none⟩) (by exact Nat.lt_of_lt_of_le hbB HBW.out)).trans kc3
   have kc4 := (HBo.out.cell (p := ⟨b, off + k * 6 + 4, none⟩) (by exact Nat.lt_of_lt_of_le hbB HBW.out)).trans kc4
   have kc5 := (HBo.out.cell (p := ⟨b, off + k * 6 + 5, none⟩) (by exact Nat.lt_of_lt_of_le hbB HBW.out)).trans kc5
   have HPR := Lib.hid hp
   obtain ⟨kd, HKD⟩ : ∃ q, Hid ((rcAt l k).kind = q) := ⟨_, Lib.hid rfl⟩
   obtain ⟨sp, HSP⟩ : ∃ q, Hid ((rcAt l k).step = q) := ⟨_, Lib.hid rfl⟩
   rw [HKD.out] at kc0
   rw [HSP.out] at kc1
   clear hp
   obtain ⟨X, HXE⟩ : ∃ X, Hid (X = wo.alloc (.cells #[.int .i64 kd, .int .i64 sp, .slice BF mF dF, .slice BT mT dT, .slice BS mS dS, .slice BE mE dE] 33)) := ⟨_, Lib.hid rfl⟩
   have hxb : Below wo.heap.size wo X := by rw [HXE.out]; exact (Below.refl _ wo).alloc (Nat.le_refl _) _
   have HBX : Hid (Below w.heap.size w X) := Lib.hid (HBo.out.trans (hxb.mono HBo.out.size))
   have HN : Hid (X.heap[wo.heap.size]? = some (.cells #[.int .i64 kd, .int .i64 sp, .slice BF mF dF, .slice BT mT dT, .slice BS mS dS, .slice BE mE dE] 33 (0, 0))) := Lib.hid (by rw [HXE.out]; exact heap_new wo _)
   obtain ⟨_, _, q2, q3, q4, q5⟩ := row6 HN.out
   have HC := Lib.hid (madeP_any (w := X) (cF := dF) (cT := dT) (cS := dS) (cE := dE) (HPR.out.below (HBX.out.mono HBW.out)) (Nat.le_trans HBW.out HBX.out.size))
   clear hxb
   go_upto_region 4 with fail
   change Code.wp _ _ _ _ (wo.alloc (.cells #[.int .i64 kd, .int .i64 sp, .slice BF mF dF, .slice BT mT dT, .slice BS mS dS, .slice BE mE dE] 33))
   rw [← HXE.out]
   clear kc0 kc1 kc2 kc3 kc4 kc5
   go_wp2_with fail
   refine HC.out.mono ?_
   rintro e w1 ⟨hb, hc⟩
   have HB1 := Lib.hid (HBX.out.trans (hb.mono HBX.out.size))
   clear hb q2 q3 q4 q5 HC
   rcases hc with ⟨hs, rfl⟩ | ⟨hs, A', n', c', rfl, ho⟩
   ·have HV : Hid (smallB l most = false) := Lib.hid (by
     unfold smallB
     have : l.all (fun r => szB r.pl) = false := by
      rw [List.all_eq_false]
      have hkl : k < l.length := by rw [HLN.out]; exact hkn
      refine ⟨rcAt l k, by unfold rcAt; simp [List.getD, hkl], by rw [hs]; decide⟩
     rw [this]; rfl)
    have HBZ := Lib.hid (fun (o : Obj) => HB1.out.alloc HB1.out.size o)
    clear hs
    go_wp2_with fail
    refine bodyPost_ret (results_tmp rfl _ _ _) rfl ⟨?_, HBZ.out _⟩
    exact congrArg (fun b => Ending.returned (.bool b)) HV.out.symm
   ·have HBZ := Lib.hid (HB1.out.alloc HB1.out.size (.cells #[.slice BF mF dF, .slice BT mT dT, .slice A' n' c', .slice BE mE dE] 47))
    have HSK := Lib.hid hs
    clear hs ho
    go_wp2_with fail
    go_roundw
    case rel => exact ⟨k + 1, by omega, by go_num, HBZ, Lib.hid (fun i hi => by
     by_cases e : i = k
     ·subst e; exact HSK.out
     ·exact HOK.out i (by omega))⟩
    case measure => simp [intOf]; omega
  ·have hd : decide ((k : Int) < (n : Int)) = false := by simp; omega
   have HAL : Hid (l.all (fun r => szB r.pl) = true) := Lib.hid (by
    rw [List.all_eq_true]
    intro x hx
    obtain ⟨i, hi, rfl⟩ := List.getElem_of_mem hx
    have := HOK.out i (by have := HLN.out; omega)
    rw [show rcAt l i = l[i] by unfold rcAt; simp [List.getD, hi]] at this
    exact this)
   have HV : Hid (smallB l most = decide ((n : Int) ≤ most)) := Lib.hid (by unfold smallB; rw [HAL.out, HLN.out, Bool.true_and])
   by_cases hm : (n : Int) ≤ most
   ·have hd2 : decide ((n : Int) ≤ most) = true := decide_eq_true hm
    rw [hd2] at HV
    go_wp2_with fail
    refine bodyPost_ret (results_tmp rfl _ _ _) rfl ⟨?_, HBo.out⟩
    exact congrArg (fun b => Ending.returned (.bool b)) HV.out.symm
   ·have hd2 : decide ((n : Int) ≤ most) = false := decide_eq_false hm
    rw [hd2] at HV
    go_wp2_with fail
    refine bodyPost_ret (results_tmp rfl _ _ _) rfl ⟨?_, HBo.out⟩
    exact congrArg (fun b => Ending.returned (.bool b)) HV.out.symm
end Go.Proofs.Ytolgmoaoheflcaa.Sa
