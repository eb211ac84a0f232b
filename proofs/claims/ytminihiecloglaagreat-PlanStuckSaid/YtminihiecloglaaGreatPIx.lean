/-
 CONTRACTS: slices.Index at Step, place.
-/
import Derived.Test.YtminihiecloglaaGreatPRi
set_option linter.unusedVariables false
set_option linter.unusedSimpArgs false
namespace Go.Proofs.YtminihiecloglaaGreat
open Go.RowKit
open SemP FlP GaP DiP
set_option maxRecDepth 10000
structure RdS (w : World) (B : Nat) (A : Option Addr) (n : Nat) (S : List StP) : Prop where
 len : S.length = n
 at_ : ∀ j, j < n → ∃ b off, A = some ⟨b, off, none⟩ ∧ b < B ∧ w.cell? ⟨b, off + j * 2, none⟩ = some (.int .i64 (sAt S j).1) ∧ w.cell? ⟨b, off + j * 2 + 1, none⟩ = some (.int .i64 (sAt S j).2)
theorem RdS.below {w w' : World} {B n : Nat} {A : Option Addr} {S : List StP} (h : RdS w B A n S) (hb : Below B w w') (hB : B ≤ w.heap.size) : RdS w' B A n S :=
 ⟨h.len, fun j hj => by
  obtain ⟨b, off, e, hlt, c0, c1⟩ := h.at_ j hj
  exact ⟨b, off, e, hlt, (hb.cell (p := ⟨b, off + j * 2, none⟩) (by exact hlt)).trans c0, (hb.cell (p := ⟨b, off + j * 2 + 1, none⟩) (by exact hlt)).trans c1⟩⟩
theorem RdS.mono {w : World} {B B' n : Nat} {A : Option Addr} {S : List StP} (h : RdS w B A n S) (hB : B ≤ B') : RdS w B' A n S :=
 ⟨h.len, fun j hj => by
  obtain ⟨b, off, e, hlt, c⟩ := h.at_ j hj
  exact ⟨b, off, e, Nat.lt_of_lt_of_le hlt hB, c⟩⟩
theorem OwnF.rdS {w : World} {base n c : Nat} {A : Option Addr} {S : List StP} (h : OwnF 64 2 spF w base (.slice A n c) S) : RdS w w.heap.size A n S := by
 obtain ⟨A', c', hA⟩ := h.shape
 injection hA with hA hn hc
 subst hA hc
 refine ⟨hn.symm, fun j hj => ?_⟩
 rw [hn] at hj
 rcases h.2 with ⟨hv, h0⟩ | ⟨g, cap, cur, hv, hbg, hh, hlc, hcm, hcs, htk⟩
 ·omega
 ·injection hv with hv1 hv2 hv3
  subst hv1
  have h1 := flatF_at (f := spF) (z := 2) (fun _ => rfl) S j 0 (by omega) (by omega)
  have h2 := flatF_at (f := spF) (z := 2) (fun _ => rfl) S j 1 (by omega) (by omega)
  have ht : ∀ t, t < S.length * 2 → cur.toList[t]? = (S.flatMap spF)[t]? := fun t ht => by rw [← htk, List.getElem?_take_of_lt ht]
  refine ⟨g, 0, rfl, heapE_lt hh, ?_, ?_⟩
  ·rw [Nat.zero_add]
   exact cells_of hh _ _ ((ht _ (by omega)).trans h1)
  ·rw [Nat.zero_add]
   exact cells_of hh _ _ ((ht _ (by omega)).trans h2)
theorem eqSt (a b c d : Int) (W : World) : (binOp .eql 64 (.agg #[.int .i64 a, .int .i64 b]) (.agg #[.int .i64 c, .int .i64 d])).run Tryz.prog W = .ok (.bool ((a == c) && (b == d))) W := by
 have u3 := Tryz.underlying3
 have a3 := Tryz.isAgg3
 have z3 := Tryz.sizeOf3
 have hS : Tryz.prog.underlying 64 = some (.struct (Tryz.prog.fieldsOf 64)) := by kernel_rfl
 have hp : Tryz.prog.stoodInHeld 64 = false := by kernel_rfl
 rw [run_eql_struct, show (10000 : Nat) = 9999 + 1 from rfl, run_equalIn_agg W 9999 64 _ _ hS hp]
 simp only [Program.fieldsOf, Tryz.underlying64]
 go_simp
 by_cases h1 : a = c <;> by_cases h2 : b = d <;> simp [h1, h2]
set_option maxHeartbeats 4000000 in
theorem indexS_any {w : World} {B n c : Nat} {A : Option Addr} {S : List StP} (h : RdS w B A n S) (hB : B ≤ w.heap.size) (hn : n ≤ 1000000) (p : StP) :
  Calls Tryz.prog 102 #[.slice A n c, .agg #[.int .i64 p.1, .int .i64 p.2]] w fun e w' => e = .returned (.int .i64 (plc S p)) ∧ Below w.heap.size w w' := by
 obtain ⟨W, HW⟩ : ∃ W, Hid (W = w.alloc (.cells #[.int .i64 p.1, .int .i64 p.2] 64)) := ⟨_, Lib.hid rfl⟩
 have hbl : Below w.heap.size w W := by rw [HW.out]; exact (Below.refl _ w).alloc (Nat.le_refl _) _
 have H0 : Hid (W.heap[w.heap.size]? = some (.cells #[.int .i64 p.1, .int .i64 p.2] 64 (0, 0))) := Lib.hid (by rw [HW.out]; exact heap_new w _)
 have HBL := Lib.hid hbl
 have HS := Lib.hid (h.below (hbl.mono hB) hB)
 have HBB : Hid (B ≤ W.heap.size) := Lib.hid (Nat.le_trans hB hbl.size)
 have HL : Hid (S.length = n) := Lib.hid h.len
 clear h hbl hB
 obtain ⟨p1, p2⟩ := p
 go_enter Tryz.func102, Tryz.ntmps102
 go_upto_region 1 with fail
 change Code.wp _ _ _ _ (w.alloc (.cells #[.int .i64 p1, .int .i64 p2] 64))
 rw [← HW.out]
 go_wp2_with fail
 go_loopw [5, 8] (fun _ v wr => ∃ k : Nat, k ≤ n ∧ v = .int .i64 (k : Int) ∧ Hid (Below W.heap.size W wr) ∧ Hid (∀ i, i < k → sAt S i ≠ (p1, p2))) (fun _ v _ => n - (intOf v).toNat)
 case atStart => exact ⟨0, Nat.zero_le _, rfl, Lib.hid (Below.refl _ _), Lib.hid (fun i h => absurd h (by omega))⟩
 case round =>
  obtain ⟨wo, hwo⟩ : ∃ x, x = wr := ⟨_, rfl⟩
  subst hwo
  obtain ⟨k, hk, rfl, HBo, HOK⟩ := hrel
  have HWo : Hid (Below w.heap.size w wo) := Lib.hid (HBL.out.trans (HBo.out.mono HBL.out.size))
  by_cases hkn : k < n
  ·have hd : decide ((k : Int) < (n : Int)) = true := by simp; omega
   have hki : (k : Int) < (n : Int) := by omega
   have hk0 : (0 : Int) ≤ (k : Int) := by omega
   have hadd : IntKind.i64.wrap ((k : Int) + 1) = ((k + 1 : Nat) : Int) := by rw [IntWalk.i64_in _ (by omega)]; omega
   have hc2 := cells_of ((HBo.out.block w.heap.size (heapE_lt H0.out)).trans H0.out)
   have x0 := hc2 0 _ rfl
   have x1 := hc2 1 _ rfl
   obtain ⟨b, off, rfl, hlt, s0, s1⟩ := (HS.out.below (HBo.out.mono HBB.out) HBB.out).at_ k hkn
   obtain ⟨q1, q2, HQ⟩ : ∃ q1 q2, Hid (sAt S k = (q1, q2)) := ⟨_, _, Lib.hid rfl⟩
   rw [HQ.out] at s0 s1
   clear hc2
   by_cases he : p1 = q1 ∧ p2 = q2
   ·obtain ⟨rfl, rfl⟩ := he
    have HF : Hid (plc S (p1, p2) = (k : Int)) := Lib.hid (plc_first (by have := HL.out; omega) HOK.out HQ.out)
    go_wp2_with fail
    go_quiet (fail)
    go_wp2_with fail
    refine bodyPost_ret (results_tmp rfl _ _ _) rfl ⟨?_, by first | exact HWo.out | exact Below.drewN' HWo.out _⟩
    exact congrArg (fun b => Ending.returned (.int .i64 b)) HF.out.symm
   ·have hne : ((p1 == q1) && (p2 == q2)) = false := by rw [← Bool.not_eq_true, Bool.and_eq_true, beq_iff_eq, beq_iff_eq]; exact he
    have hEq := fun W => eqSt p1 p2 q1 q2 W
    simp only [hne] at hEq
    have HNE : Hid (sAt S k ≠ (p1, p2)) := Lib.hid (by rw [HQ.out]; intro e; injection e with e1 e2; exact he ⟨e1.symm, e2.symm⟩)
    clear he
    go_wp2_with fail
    go_quiet (fail)
    go_wp2_with fail
    go_roundw
    case rel => exact ⟨k + 1, by omega, by go_num, Lib.hid (by first | exact HBo.out | exact Below.drewN' HBo.out _), Lib.hid (fun i hi => by
     by_cases e : i = k
     ·subst e; exact HNE.out
     ·exact HOK.out i (by omega))⟩
    case measure => simp [intOf]; omega
  ·have hd : decide ((k : Int) < (n : Int)) = false := by simp; omega
   have HF : Hid (plc S (p1, p2) = -1) := Lib.hid (plc_none (fun i hi => HOK.out i (by have := HL.out; omega)))
   go_wp2_with fail
   refine bodyPost_ret (results_tmp rfl _ _ _) rfl ⟨?_, HWo.out⟩
   exact congrArg (fun b => Ending.returned (.int .i64 b)) HF.out.symm
end Go.Proofs.YtminihiecloglaaGreat
