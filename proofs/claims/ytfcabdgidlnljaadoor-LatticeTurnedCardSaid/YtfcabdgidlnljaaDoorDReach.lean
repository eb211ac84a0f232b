/-
  CONTRACT of reach of package digraph, over this translation.
-/
import Derived.Test.YtfcabdgidlnljaaDoorDOrder
namespace Go.Proofs.YtfcabdgidlnljaaDoor
open Go.RowKit
open DiP
set_option linter.unusedVariables false

/-- Where the loops of reach stand. -/
structure RchAt (wr : World) (gb bb : Nat) (w : World) (n : Nat) (f : Nat → Nat) : Prop where
  row : RowU wr bb f
  ret : RowU wr (gb + 1) zeros
  cell : wr.cell? ⟨gb, 0, none⟩ = some (.int .i64 (n : Int))
  bel : Below w.heap.size w wr
  ge : gb + 1 < bb
  gb : w.heap.size ≤ gb
theorem RchAt.set {wr w : World} {gb bb n : Nat} {f : Nat → Nat} (h : RchAt wr gb bb w n f) (i x : Nat) : RchAt (wr.drew.setCell ⟨bb, i, none⟩ (.int .u64 (x : Int))) gb bb w n (upd f i x) :=
  ⟨h.row.drew.set i x, h.ret.drew.other (by have := h.ge; simp; omega) _,
    by rw [World.cell?_setCell_other _ _ _ _ (fun e => by injection e; have := h.ge; omega)]; exact h.cell,
    (below_drewN h.bel 1).setCell (by have := h.ge; have := h.gb; simp; omega) _, h.ge, h.gb⟩

set_option maxRecDepth 100000 in
set_option maxHeartbeats 1000000 in
theorem reach_any {w : World} {B m c n : Nat} {A : Option Addr} {g : List (Nat × Nat)} (hx : RdG w B A m g) (hB : B ≤ w.heap.size) (hi : InN n g) (hn : n ≤ 64) (hm : m ≤ 4096) :
    Calls Tryd.prog 37 #[.agg #[.int .i64 n, .slice A m c]] w fun e w' => e = .returned (.agg (cellsU (rchG n g))) ∧ Below w.heap.size w w' := by
  have HX := Lib.hid hx
  have HI := Lib.hid hi
  have HL := Lib.hid hx.len
  have HSM := Lib.hid (fun k => rchK_small hi hn k)
  clear hx hi
  go_enter Tryd.func37, Tryd.ntmps37
  go_wp2_with fail
  obtain ⟨W0, hW⟩ : ∃ W0 : World, W0 = ((w.alloc (.cells #[.int .i64 (n : Int), .slice A m c] 24)).alloc (.cells (cellsU zeros) 72)) := ⟨_, rfl⟩
  have HR1 : Hid (RowU W0 (w.heap.size + 1) zeros) := Lib.hid (by
    rw [hW]
    have := rowU_new (w.alloc (.cells #[.int .i64 (n : Int), .slice A m c] 24)) zeros
    simpa using this)
  have hcn : W0.cell? ⟨w.heap.size, 0, none⟩ = some (.int .i64 (n : Int)) := by rw [hW]; simp
  have HBW : Hid (Below w.heap.size w W0) := Lib.hid (by
    rw [hW]
    exact ((Below.refl _ _).alloc (Nat.le_refl _) _).alloc (by simp) _)
  have hsz : W0.heap.size = w.heap.size + 2 := by rw [hW]; simp
  have hsz0 : w.heap.size + 1 < W0.heap.size := by omega
  rw [zeros_cells] at hW
  simp only [Array.replicate, List.replicate] at hW
  rw [← hW]
  clear hW hsz
  refine (after_any (HX.out.below (HBW.out.mono hB)) (by omega) HI.out hn hm).mono ?_
  rintro e w2 ⟨rfl, hb⟩
  have hcn2 := (hb.cell (p := ⟨w.heap.size, 0, none⟩) (by simp; omega)).trans hcn
  have HR2 : Hid (RowU w2 (w.heap.size + 1) zeros) := Lib.hid (HR1.out.below hb hsz0)
  have HB2 : Hid (Below w.heap.size w w2) := Lib.hid (HBW.out.trans (hb.mono (by omega)))
  have hsz2 : w.heap.size + 1 < w2.heap.size := by have := hb.size; omega
  clear hb hcn
  have HZ := Lib.hid (sets_size (aftG g))
  have HT : Hid ((w2.alloc (.cells (cellsU zeros) 72)).there w2.heap.size 0 (cellsU (aftG g)).size) := Lib.hid ((rowU_new w2 zeros).there _ (cellsU_size _))
  obtain ⟨w3, hw3, HO⟩ : ∃ w3, (w2.alloc (.cells (cellsU zeros) 72)).setCells w2.heap.size 0 (cellsU (aftG g)).toList = w3 ∧ Hid (RchAt w3 w.heap.size w2.heap.size w n (aftG g)) := by
    have hr := (rowU_new w2 zeros).stored (f := aftG g)
    have hb : Below w2.heap.size w2 ((w2.alloc (.cells (cellsU zeros) 72)).setCells w2.heap.size 0 (cellsU (aftG g)).toList) := below_setCells (Nat.le_refl _) _ _ _ ((Below.refl _ _).alloc (Nat.le_refl _) _)
    refine ⟨_, rfl, Lib.hid ⟨hr, HR2.out.below hb hsz2, ?_, HB2.out.trans (hb.mono (by omega)), hsz2, Nat.le_refl _⟩⟩
    rw [hb.cell (p := ⟨w.heap.size, 0, none⟩) (by simp; omega)]; exact hcn2
  rw [zeros_cells] at hw3 HT
  simp only [Array.replicate, List.replicate] at hw3 HT
  have HE := Lib.hid hw3
  have hcn := HO.out.cell
  clear hw3 hcn2
  go_wp2_with (refine wpList_store_mid rfl 72 _ _ rfl w2.heap.size 0 (cellsU (aftG g)) rfl rfl HT.out HZ.out (cellsU_one _) ?_; rw [HE.out])
  clear hcn
  generalize w2.heap.size = bb at HO ⊢
  clear HE HT HB2 HR2 hsz2 HBW HR1 hsz0
  clear HZ
  go_loopw [10] (fun i wr => ∃ k : Nat, k ≤ n ∧ i = .int .i64 (k : Int) ∧ Hid (RchAt wr w.heap.size bb w n (rchK n g k))) (fun i _ => n - (intOf i).toNat)
  case atStart => exact ⟨0, by omega, rfl, HO⟩
  case round =>
    clear HO
    obtain ⟨k, hk, rfl, HO⟩ := hrel
    have hcn := HO.out.cell
    by_cases hlt : k < n
    · go_wp2_with fail
      go_hide hQ
      obtain ⟨wo, HWo⟩ : ∃ wo : World, Hid (wo = wr) := ⟨_, Lib.hid rfl⟩
      go_loopw [15] (fun i wr => ∃ j : Nat, j ≤ n ∧ i = .int .i64 (j : Int) ∧ Hid (RchAt wr w.heap.size bb w n (thrJ (rchK n g k) k j))) (fun i _ => n - (intOf i).toNat)
      case atStart => exact ⟨0, by omega, rfl, Lib.hid (by rw [thrJ_zero]; exact HO.out)⟩
      case round =>
        obtain ⟨j, hj, rfl, HI2⟩ := hrel
        by_cases hlj : j < n
        · have hj64 : j < 64 := by omega
          have hj65 : (j : Int) < 64 := by omega
          have hk64 : k < 64 := by omega
          have hk65 : (k : Int) < 64 := by omega
          have hcj := HI2.out.row.cell hj64
          have hck := HI2.out.row.cell hk64
          have hfj := HI2.out.row.frozen j
          have HS := Lib.hid (thrJ_small (HSM.out k) k j)
          have HTJ := Lib.hid (thrJ_at (rchK n g k) k j)
          cases hb : bt (thrJ (rchK n g k) k j j) k with
          | false =>
            have HB := Lib.hid hb
            have HN := Lib.hid (thrJ_no (rchK n g k) k j (by rw [← thrJ_at (rchK n g k) k j]; exact hb))
            clear hb
            go_wp2_with (go_at_call 42; refine (has_any (HS.out j) hk64).mono ?_; rintro e w' ⟨rfl, rfl⟩; rw [HB.out])
            go_roundw
            case rel => exact ⟨j + 1, by omega, by go_num, Lib.hid (by rw [HN.out]; exact HI2.out)⟩
            case measure => simp [intOf]; omega
          | true =>
            have HB := Lib.hid hb
            have HN := Lib.hid (thrJ_yes (rchK n g k) k j (by rw [← thrJ_at (rchK n g k) k j]; exact hb))
            have HOR := Lib.hid (or_bits (HS.out j) (HS.out k))
            clear hb
            go_wp2_with (go_at_call 42; refine (has_any (HS.out j) hk64).mono ?_; rintro e w' ⟨rfl, rfl⟩; rw [HB.out])
            obtain ⟨w5, HW5⟩ : ∃ w5, Hid (w5 = wr.drew) := ⟨_, Lib.hid rfl⟩
            have hcj5 : w5.cell? ⟨bb, j, none⟩ = some (.int .u64 (thrJ (rchK n g k) k j j : Int)) := by rw [HW5.out]; exact hcj
            have hck5 : w5.cell? ⟨bb, k, none⟩ = some (.int .u64 (thrJ (rchK n g k) k j k : Int)) := by rw [HW5.out]; exact hck
            have hfj5 : w5.frozen? ⟨bb, j, none⟩ = false := by rw [HW5.out]; exact hfj
            refine wp_region_still_tail 8 (by kernel_rfl) (by kernel_rfl) ?_
            have e2 : { wr with drawn := wr.drawn + 1 } = w5 := HW5.out.symm
            rw [e2]
            clear e2
            simp only [List.take_succ_cons, List.take_zero, List.drop_succ_cons, List.drop_zero]
            repeat still_step
            refine wpStill_nil ?_
            go_wp2_with fail
            go_roundw
            case rel => exact ⟨j + 1, by omega, by go_num, Lib.hid (by
              rw [HOR.out, HW5.out, HN.out]
              exact HI2.out.set _ _)⟩
            case measure => simp [intOf]; omega
        · subst hQ
          obtain rfl : j = n := by omega
          go_wp2
          go_roundw
          case rel => exact ⟨k + 1, by omega, by go_num, HI2⟩
          case measure => simp [intOf]; omega
    · obtain rfl : k = n := by omega
      have HZ := Lib.hid (sets_size (rchG k g))
      go_wp2_with (first
        | (refine wpList_load_row rfl 72 _ rfl bb rfl 72 (cellsU (rchG k g)) (0, 0) _ HO.out.row.heap Tryd.underlying72 rfl HZ.out ?_)
        | (refine wpList_store_mid rfl 72 _ _ rfl (w.heap.size + 1) 0 (cellsU (rchG k g)) rfl rfl (HO.out.ret.there _ (cellsU_size _)) HZ.out (cellsU_one _) ?_))
      refine bodyPost_ret (v := .agg (cellsU (rchG k g))) (results_cell_row rfl _ _ (w.heap.size + 1) 72 (cellsU (rchG k g)) (0, 0) _ rfl (RowU.heap HO.out.ret.stored) Tryd.underlying72 rfl HZ.out) rfl ⟨rfl, ?_⟩
      exact below_setCells (by omega) _ _ _ HO.out.bel
end Go.Proofs.YtfcabdgidlnljaaDoor
