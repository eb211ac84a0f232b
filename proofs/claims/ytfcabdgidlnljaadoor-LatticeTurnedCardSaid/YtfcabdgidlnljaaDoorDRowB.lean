/-
  CONTRACT of after of package digraph, over this translation.
-/
import Derived.Test.YtfcabdgidlnljaaDoorDRow
namespace Go.Proofs.YtfcabdgidlnljaaDoor
open Go.RowKit
open DiP
set_option linter.unusedVariables false

set_option maxRecDepth 100000 in
set_option maxHeartbeats 1000000 in
theorem after_any {w : World} {B m c n : Nat} {A : Option Addr} {g : List (Nat × Nat)} (hx : RdG w B A m g) (hB : B ≤ w.heap.size) (hi : InN n g) (hn : n ≤ 64) (hm : m ≤ 4096) :
    Calls Tryd.prog 46 #[.agg #[.int .i64 n, .slice A m c]] w fun e w' => e = .returned (.agg (cellsU (aftG g))) ∧ Below w.heap.size w w' := by
  have HX := Lib.hid hx
  have HI := Lib.hid hi
  have HL := Lib.hid hx.len
  clear hx hi
  go_enter Tryd.func46, Tryd.ntmps46
  go_wp2_with fail
  have HW : ∃ W0 : World, W0 = (((w.alloc (.cells #[.int .i64 (n : Int), .slice A m c] 24)).alloc (.cells (cellsU zeros) 72)).alloc (.cells (cellsU zeros) 72)) := ⟨_, rfl⟩
  obtain ⟨W0, hW⟩ := HW
  have hsz : W0.heap.size = w.heap.size + 3 := by rw [hW]; simp
  have HR1 : Hid (RowU W0 (w.heap.size + 1) zeros) := Lib.hid (by
    rw [hW]
    have := (rowU_new (w.alloc (.cells #[.int .i64 (n : Int), .slice A m c] 24)) zeros).alloc (.cells (cellsU zeros) 72)
    simpa using this)
  have HR2 : Hid (RowU W0 (w.heap.size + 2) zeros) := Lib.hid (by
    rw [hW]
    have := rowU_new ((w.alloc (.cells #[.int .i64 (n : Int), .slice A m c] 24)).alloc (.cells (cellsU zeros) 72)) zeros
    simpa using this)
  have HBW : Hid (Below w.heap.size w W0) := Lib.hid (by
    rw [hW]
    exact (((Below.refl _ _).alloc (Nat.le_refl _) _).alloc (by simp) _).alloc (by simp; omega) _)
  rw [zeros_cells] at hW
  simp only [Array.replicate, List.replicate] at hW
  rw [← hW]
  clear hW
  clear hsz
  go_loopw [9] (fun i wr => ∃ k : Nat, k ≤ m ∧ i = .int .i64 (k : Int) ∧ Hid (RowU wr (w.heap.size + 1) zeros ∧ RowU wr (w.heap.size + 2) (aftK g k) ∧ Below w.heap.size w wr)) (fun i _ => m - (intOf i).toNat)
  case atStart => exact ⟨0, by omega, rfl, Lib.hid ⟨HR1.out, HR2.out, HBW.out⟩⟩
  case round =>
    obtain ⟨k, hk, rfl, HV⟩ := hrel
    by_cases hlt : k < m
    · obtain ⟨b, off, rfl, hbb, hca, hcb⟩ := (HX.out.below (HV.out.2.2.mono hB)).at_ hlt
      obtain ⟨hfa, hfb⟩ := HI.out k (by rw [HL.out]; exact hlt)
      have hsm := aftK_small HI.out hn k (by rw [HL.out]; omega) (fa g k)
      have HO := Lib.hid (or_spell hsm (show fb g k < 64 by omega))
      have HS := Lib.hid hsm
      clear hsm
      have hi0 : fa g k < 64 := by omega
      have hi1 : (fa g k : Int) < 64 := by omega
      go_wp2_with fail
      obtain ⟨w2, HW2⟩ : ∃ w2, Hid (w2 = (wr.alloc (.cells #[.int .i64 (fa g k), .int .i64 (fb g k)] 43)).drew) := ⟨_, Lib.hid rfl⟩
      have hcr : w2.cell? ⟨w.heap.size + 1 + 1, fa g k, none⟩ = some (.int .u64 (aftK g k (fa g k) : Int)) := by
        rw [HW2.out]; exact (HV.out.2.1.alloc (.cells #[.int .i64 (fa g k), .int .i64 (fb g k)] 43)).cell (i := fa g k) (by omega)
      have hfr : w2.frozen? ⟨w.heap.size + 1 + 1, fa g k, none⟩ = false := by
        rw [HW2.out]; exact (HV.out.2.1.alloc (.cells #[.int .i64 (fa g k), .int .i64 (fb g k)] 43)).frozen (fa g k)
      have he0 : w2.cell? ⟨wr.heap.size, 0, none⟩ = some (.int .i64 (fa g k : Int)) := by rw [HW2.out]; simp
      have he1 : w2.cell? ⟨wr.heap.size, 1, none⟩ = some (.int .i64 (fb g k : Int)) := by rw [HW2.out]; simp
      refine wp_region_still_tail 10 (by kernel_rfl) (by kernel_rfl) ?_
      have e2 : { (wr.alloc (.cells #[.int .i64 (fa g k), .int .i64 (fb g k)] 43)) with drawn := (wr.alloc (.cells #[.int .i64 (fa g k), .int .i64 (fb g k)] 43)).drawn + 1 } = w2 := HW2.out.symm
      rw [e2]
      clear e2
      simp only [List.take_succ_cons, List.take_zero, List.drop_succ_cons, List.drop_zero]
      repeat still_step
      refine wpStill_nil ?_
      go_wp2_with fail
      go_roundw
      case rel => exact ⟨k + 1, by omega, by go_num, Lib.hid (by
        rw [HO.out, HW2.out]
        refine ⟨((HV.out.1.alloc _).drew).other (by simp) _, ((HV.out.2.1.alloc _).drew).set _ _, ?_⟩
        exact (below_drewN (HV.out.2.2.alloc HV.out.2.2.size _) 1).setCell (by simp; omega) _)⟩
      case measure => simp [intOf]; omega
    · have HZ := Lib.hid (sets_size (aftK g k))
      have hlt' : ¬ k < m := hlt
      go_wp2_with (first
        | (refine wpList_load_row rfl 72 _ rfl (w.heap.size + 1 + 1) rfl 72 (cellsU (aftK g k)) (0, 0) _ HV.out.2.1.heap Tryd.underlying72 rfl HZ.out ?_)
        | (refine wpList_store_mid rfl 72 _ _ rfl (w.heap.size + 1) 0 (cellsU (aftK g k)) rfl rfl (HV.out.1.there _ (cellsU_size _)) HZ.out (cellsU_one _) ?_))
      have e : k = m := by omega
      have e2 : aftG g = aftK g k := by unfold aftG; rw [HL.out, e]
      rw [e2]
      refine bodyPost_ret (v := .agg (cellsU (aftK g k))) (results_cell_row rfl _ _ (w.heap.size + 1) 72 (cellsU (aftK g k)) (0, 0) _ rfl (RowU.heap HV.out.1.stored) Tryd.underlying72 rfl HZ.out) rfl ⟨rfl, ?_⟩
      exact below_setCells (by omega) _ _ _ HV.out.2.2
end Go.Proofs.YtfcabdgidlnljaaDoor
