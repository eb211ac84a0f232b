/-
 DIGRAPH: what each node reaches (contracts of after, reach, Reach).
-/
import Derived.Test.YtminihiecloglaaGreatDCirc
import Derived.Test.YtminihiecloglaaGreatDLev
import Derived.WalkSpells
import Derived.BigRegion
set_option linter.unusedVariables false
set_option linter.unusedSimpArgs false
namespace Go.Proofs.YtminihiecloglaaGreat
open Go.RowKit
open DiP
theorem orn_self (s : Nat) : orn s s = s := by simp [orn]
theorem thrJ_mid (r : Nat → Nat) (mid j : Nat) : thrJ r mid j mid = r mid := by
 unfold thrJ
 split
 ·exact orn_self _
 ·rfl
theorem or_bits {s t : Nat} (hs : s < lim) (ht : t < lim) : bits BinOp.or IntKind.u64 (s : Int) (t : Int) = ((orn s t : Nat) : Int) := u64_or_nat s t hs ht
theorem thrJ_at (r : Nat → Nat) (mid j : Nat) : thrJ r mid j j = r j := by simp [thrJ]
theorem thrJ_yes (r : Nat → Nat) (mid j : Nat) (h : bt (r j) mid = true) : thrJ r mid (j + 1) = upd (thrJ r mid j) j (orn (thrJ r mid j j) (thrJ r mid j mid)) := by
 rw [thrJ_at, thrJ_mid]
 funext v
 unfold upd
 by_cases hv : v = j
 ·subst hv; simp [thrJ, h]
 ·rw [if_neg hv]
  unfold thrJ
  by_cases h2 : v < j
  ·simp [h2, Nat.lt_succ_of_lt h2]
  ·have : ¬ v < j + 1 := by omega
   simp [h2, this]
theorem thrJ_no (r : Nat → Nat) (mid j : Nat) (h : bt (r j) mid = false) : thrJ r mid (j + 1) = thrJ r mid j := by
 funext v
 by_cases hv : v = j
 ·subst hv; simp [thrJ, h]
 ·unfold thrJ
  by_cases h2 : v < j
  ·simp [h2, Nat.lt_succ_of_lt h2]
  ·have : ¬ v < j + 1 := by omega
   simp [h2, this]
theorem aftK_small {n : Nat} {g : List (Nat × Nat)} (h : InN n g) (hn : n ≤ 64) : ∀ k, k ≤ g.length → SmallD (aftK g k) := by
 intro k
 induction k with
 | zero => intro _ v; show 0 < lim; decide
 | succ k ih => intro hk; exact (ih (by omega)).upd (add_lt (ih (by omega) _) (by have := h k (by omega); omega))
theorem aftG_small {n : Nat} {g : List (Nat × Nat)} (h : InN n g) (hn : n ≤ 64) : SmallD (aftG g) := aftK_small h hn _ (Nat.le_refl _)
theorem thrJ_small {r : Nat → Nat} (h : SmallD r) (mid j : Nat) : SmallD (thrJ r mid j) := by
 intro v
 unfold thrJ
 split
 ·exact orn_lt (h v) (h mid)
 ·exact h v
theorem thrJ_zero (r : Nat → Nat) (mid : Nat) : thrJ r mid 0 = r := by funext v; simp [thrJ]
theorem rchK_small {n : Nat} {g : List (Nat × Nat)} (h : InN n g) (hn : n ≤ 64) : ∀ k, SmallD (rchK n g k) := by
 intro k
 induction k with
 | zero => exact aftG_small h hn
 | succ k ih => exact thrJ_small ih _ _
set_option maxRecDepth 100000 in
set_option maxHeartbeats 1000000 in
theorem after_any {w : World} {B m c n : Nat} {A : Option Addr} {g : List (Nat × Nat)} (hx : RdEg w B A m g) (hB : B ≤ w.heap.size) (hi : InN n g) (hn : n ≤ 64) (hm : m ≤ 4096) :
  Calls Tryz.prog 131 #[.agg #[.int .i64 n, .slice A m c]] w fun e w' => e = .returned (.agg (cellsU (aftG g))) ∧ Below w.heap.size w w' := by
 have HX := Lib.hid hx
 have HI := Lib.hid hi
 have HL := Lib.hid hx.len
 clear hx hi
 go_enter Tryz.func131, Tryz.ntmps131
 go_wp2_with fail
 have HW : ∃ W0 : World, W0 = (((w.alloc (.cells #[.int .i64 (n : Int), .slice A m c] 107)).alloc (.cells (cellsU zeros) 159)).alloc (.cells (cellsU zeros) 159)) := ⟨_, rfl⟩
 obtain ⟨W0, hW⟩ := HW
 have hsz : W0.heap.size = w.heap.size + 3 := by rw [hW]; simp
 have HR1 : Hid (RowU W0 (w.heap.size + 1) zeros) := Lib.hid (by
  rw [hW]
  have := (rowU_new (w.alloc (.cells #[.int .i64 (n : Int), .slice A m c] 107)) zeros).alloc (.cells (cellsU zeros) 159)
  simpa using this)
 have HR2 : Hid (RowU W0 (w.heap.size + 2) zeros) := Lib.hid (by
  rw [hW]
  have := rowU_new ((w.alloc (.cells #[.int .i64 (n : Int), .slice A m c] 107)).alloc (.cells (cellsU zeros) 159)) zeros
  simpa using this)
 have HBW : Hid (Below w.heap.size w W0) := Lib.hid (by
  rw [hW]
  exact (((Below.refl _ _).alloc (Nat.le_refl _) _).alloc (by simp) _).alloc (by simp; omega) _)
 rw [zeros_cells] at hW
 simp only [Array.replicate, List.replicate] at hW
 rw [← hW]
 clear hW
 clear hsz
 go_loopw [9] (fun i wr => ∃ k : Nat, k ≤ m ∧ i = .int .i64 (k : Int) ∧ Hid (RowU wr (w.heap.size + 1) zeros ∧ RowU wr (w.heap.size + 2) (aftK g k) ∧ Below w.heap.size w wr)) (fun i _ => m - (intOf i).toNat)
 case atStart => exact ⟨0, by omega, rfl, Lib.hid ⟨HR1.out, HR2.out, HBW.out⟩⟩
 case round =>
  obtain ⟨k, hk, rfl, HV⟩ := hrel
  by_cases hlt : k < m
  ·obtain ⟨b, off, rfl, hbb, hca, hcb⟩ := (HX.out.below (HV.out.2.2.mono hB)).at_ hlt
   obtain ⟨hfa, hfb⟩ := HI.out k (by rw [HL.out]; exact hlt)
   have hsm := aftK_small HI.out hn k (by rw [HL.out]; omega) (fa g k)
   have HO := Lib.hid (or_spell hsm (show fb g k < 64 by omega))
   have HS := Lib.hid hsm
   clear hsm
   have hi0 : fa g k < 64 := by omega
   have hi1 : (fa g k : Int) < 64 := by omega
   go_wp2_with fail
   obtain ⟨w2, HW2⟩ : ∃ w2, Hid (w2 = (wr.alloc (.cells #[.int .i64 (fa g k), .int .i64 (fb g k)] 91)).drew) := ⟨_, Lib.hid rfl⟩
   have hcr : w2.cell? ⟨w.heap.size + 1 + 1, fa g k, none⟩ = some (.int .u64 (aftK g k (fa g k) : Int)) := by
    rw [HW2.out]; exact (HV.out.2.1.alloc (.cells #[.int .i64 (fa g k), .int .i64 (fb g k)] 91)).cell (i := fa g k) (by omega)
   have hfr : w2.frozen? ⟨w.heap.size + 1 + 1, fa g k, none⟩ = false := by
    rw [HW2.out]; exact (HV.out.2.1.alloc (.cells #[.int .i64 (fa g k), .int .i64 (fb g k)] 91)).frozen (fa g k)
   have he0 : w2.cell? ⟨wr.heap.size, 0, none⟩ = some (.int .i64 (fa g k : Int)) := by rw [HW2.out]; simp
   have he1 : w2.cell? ⟨wr.heap.size, 1, none⟩ = some (.int .i64 (fb g k : Int)) := by rw [HW2.out]; simp
   refine wp_region_still_tail 10 (by kernel_rfl) (by kernel_rfl) ?_
   have e2 : { (wr.alloc (.cells #[.int .i64 (fa g k), .int .i64 (fb g k)] 91)) with drawn := (wr.alloc (.cells #[.int .i64 (fa g k), .int .i64 (fb g k)] 91)).drawn + 1 } = w2 := HW2.out.symm
   rw [e2]
   clear e2
   simp only [List.take_succ_cons, List.take_zero, List.drop_succ_cons, List.drop_zero]
   repeat still_step
   refine wpStill_nil ?_
   go_wp2_with fail
   go_roundw
   case rel => exact ⟨k + 1, by omega, by go_num, Lib.hid (by
    rw [HO.out, HW2.out]
    refine ⟨((HV.out.1.alloc _).drew).other (by simp) _, ((HV.out.2.1.alloc _).drew).set _ _, ?_⟩
    exact (below_drewN (HV.out.2.2.alloc HV.out.2.2.size _) 1).setCell (by simp; omega) _)⟩
   case measure => simp [intOf]; omega
  ·have HZ := Lib.hid (sets_size (aftK g k))
   have hlt' : ¬ k < m := hlt
   go_wp2_with (first
    | (refine wpList_load_row rfl 159 _ rfl (w.heap.size + 1 + 1) rfl 159 (cellsU (aftK g k)) (0, 0) _ HV.out.2.1.heap Tryz.underlying159 rfl HZ.out ?_)
    | (refine wpList_store_mid rfl 159 _ _ rfl (w.heap.size + 1) 0 (cellsU (aftK g k)) rfl rfl (HV.out.1.there _ (cellsU_size _)) HZ.out (cellsU_one _) ?_))
   have e : k = m := by omega
   have e2 : aftG g = aftK g k := by unfold aftG; rw [HL.out, e]
   rw [e2]
   refine bodyPost_ret (v := .agg (cellsU (aftK g k))) (results_cell_row rfl _ _ (w.heap.size + 1) 159 (cellsU (aftK g k)) (0, 0) _ rfl (RowU.heap HV.out.1.stored) Tryz.underlying159 rfl HZ.out) rfl ⟨rfl, ?_⟩
   exact below_setCells (by omega) _ _ _ HV.out.2.2
set_option maxRecDepth 100000 in
set_option maxHeartbeats 1000000 in
theorem reach_any {w : World} {B m c n : Nat} {A : Option Addr} {g : List (Nat × Nat)} (hx : RdEg w B A m g) (hB : B ≤ w.heap.size) (hi : InN n g) (hn : n ≤ 64) (hm : m ≤ 4096) :
  Calls Tryz.prog 106 #[.agg #[.int .i64 n, .slice A m c]] w fun e w' => e = .returned (.agg (cellsU (rchG n g))) ∧ Below w.heap.size w w' := by
 have HX := Lib.hid hx
 have HI := Lib.hid hi
 have HL := Lib.hid hx.len
 have HSM := Lib.hid (fun k => rchK_small hi hn k)
 clear hx hi
 go_enter Tryz.func106, Tryz.ntmps106
 go_wp2_with fail
 obtain ⟨W0, hW⟩ : ∃ W0 : World, W0 = ((w.alloc (.cells #[.int .i64 (n : Int), .slice A m c] 107)).alloc (.cells (cellsU zeros) 159)) := ⟨_, rfl⟩
 have HR1 : Hid (RowU W0 (w.heap.size + 1) zeros) := Lib.hid (by
  rw [hW]
  have := rowU_new (w.alloc (.cells #[.int .i64 (n : Int), .slice A m c] 107)) zeros
  simpa using this)
 have hcn : W0.cell? ⟨w.heap.size, 0, none⟩ = some (.int .i64 (n : Int)) := by rw [hW]; simp
 have HBW : Hid (Below w.heap.size w W0) := Lib.hid (by
  rw [hW]
  exact ((Below.refl _ _).alloc (Nat.le_refl _) _).alloc (by simp) _)
 have hsz : W0.heap.size = w.heap.size + 2 := by rw [hW]; simp
 have hsz0 : w.heap.size + 1 < W0.heap.size := by omega
 rw [zeros_cells] at hW
 simp only [Array.replicate, List.replicate] at hW
 rw [← hW]
 clear hW hsz
 refine (after_any (HX.out.below (HBW.out.mono hB)) (by omega) HI.out hn hm).mono ?_
 rintro e w2 ⟨rfl, hb⟩
 have hcn2 := (hb.cell (p := ⟨w.heap.size, 0, none⟩) (by simp; omega)).trans hcn
 have HR2 : Hid (RowU w2 (w.heap.size + 1) zeros) := Lib.hid (HR1.out.below hb hsz0)
 have HB2 : Hid (Below w.heap.size w w2) := Lib.hid (HBW.out.trans (hb.mono (by omega)))
 have hsz2 : w.heap.size + 1 < w2.heap.size := by have := hb.size; omega
 clear hb hcn
 have HZ := Lib.hid (sets_size (aftG g))
 have HT : Hid ((w2.alloc (.cells (cellsU zeros) 159)).there w2.heap.size 0 (cellsU (aftG g)).size) := Lib.hid ((rowU_new w2 zeros).there _ (cellsU_size _))
 obtain ⟨w3, hw3, HO⟩ : ∃ w3, (w2.alloc (.cells (cellsU zeros) 159)).setCells w2.heap.size 0 (cellsU (aftG g)).toList = w3 ∧ Hid (RchAt w3 w.heap.size w2.heap.size w n (aftG g)) := by
  have hr := (rowU_new w2 zeros).stored (f := aftG g)
  have hb : Below w2.heap.size w2 ((w2.alloc (.cells (cellsU zeros) 159)).setCells w2.heap.size 0 (cellsU (aftG g)).toList) := below_setCells (Nat.le_refl _) _ _ _ ((Below.refl _ _).alloc (Nat.le_refl _) _)
  refine ⟨_, rfl, Lib.hid ⟨hr, HR2.out.below hb hsz2, ?_, HB2.out.trans (hb.mono (by omega)), hsz2, Nat.le_refl _⟩⟩
  rw [hb.cell (p := ⟨w.heap.size, 0, none⟩) (by simp; omega)]; exact hcn2
 rw [zeros_cells] at hw3 HT
 simp only [Array.replicate, List.replicate] at hw3 HT
 have HE := Lib.hid hw3
 have hcn := HO.out.cell
 clear hw3 hcn2
 go_wp2_with (refine wpList_store_mid rfl 159 _ _ rfl w2.heap.size 0 (cellsU (aftG g)) rfl rfl HT.out HZ.out (cellsU_one _) ?_; rw [HE.out])
 clear hcn
 generalize w2.heap.size = bb at HO ⊢
 clear HE HT HB2 HR2 hsz2 HBW HR1 hsz0
 clear HZ
 go_loopw [10] (fun i wr => ∃ k : Nat, k ≤ n ∧ i = .int .i64 (k : Int) ∧ Hid (RchAt wr w.heap.size bb w n (rchK n g k))) (fun i _ => n - (intOf i).toNat)
 case atStart => exact ⟨0, by omega, rfl, HO⟩
 case round =>
  clear HO
  obtain ⟨k, hk, rfl, HO⟩ := hrel
  have hcn := HO.out.cell
  by_cases hlt : k < n
  ·go_wp2_with fail
   go_hide hQ
   obtain ⟨wo, HWo⟩ : ∃ wo : World, Hid (wo = wr) := ⟨_, Lib.hid rfl⟩
   go_loopw [15] (fun i wr => ∃ j : Nat, j ≤ n ∧ i = .int .i64 (j : Int) ∧ Hid (RchAt wr w.heap.size bb w n (thrJ (rchK n g k) k j))) (fun i _ => n - (intOf i).toNat)
   case atStart => exact ⟨0, by omega, rfl, Lib.hid (by rw [thrJ_zero]; exact HO.out)⟩
   case round =>
    obtain ⟨j, hj, rfl, HI2⟩ := hrel
    by_cases hlj : j < n
    ·have hj64 : j < 64 := by omega
     have hj65 : (j : Int) < 64 := by omega
     have hk64 : k < 64 := by omega
     have hk65 : (k : Int) < 64 := by omega
     have hcj := HI2.out.row.cell hj64
     have hck := HI2.out.row.cell hk64
     have hfj := HI2.out.row.frozen j
     have HS := Lib.hid (thrJ_small (HSM.out k) k j)
     have HTJ := Lib.hid (thrJ_at (rchK n g k) k j)
     cases hb : bt (thrJ (rchK n g k) k j j) k with
     | false =>
      have HB := Lib.hid hb
      have HN := Lib.hid (thrJ_no (rchK n g k) k j (by rw [← thrJ_at (rchK n g k) k j]; exact hb))
      clear hb
      go_wp2_with (go_at_call 81; refine (hasD_any (HS.out j) hk64).mono ?_; rintro e w' ⟨rfl, rfl⟩; rw [HB.out])
      go_roundw
      case rel => exact ⟨j + 1, by omega, by go_num, Lib.hid (by rw [HN.out]; exact HI2.out)⟩
      case measure => simp [intOf]; omega
     | true =>
      have HB := Lib.hid hb
      have HN := Lib.hid (thrJ_yes (rchK n g k) k j (by rw [← thrJ_at (rchK n g k) k j]; exact hb))
      have HOR := Lib.hid (or_bits (HS.out j) (HS.out k))
      clear hb
      go_wp2_with (go_at_call 81; refine (hasD_any (HS.out j) hk64).mono ?_; rintro e w' ⟨rfl, rfl⟩; rw [HB.out])
      obtain ⟨w5, HW5⟩ : ∃ w5, Hid (w5 = wr.drew) := ⟨_, Lib.hid rfl⟩
      have hcj5 : w5.cell? ⟨bb, j, none⟩ = some (.int .u64 (thrJ (rchK n g k) k j j : Int)) := by rw [HW5.out]; exact hcj
      have hck5 : w5.cell? ⟨bb, k, none⟩ = some (.int .u64 (thrJ (rchK n g k) k j k : Int)) := by rw [HW5.out]; exact hck
      have hfj5 : w5.frozen? ⟨bb, j, none⟩ = false := by rw [HW5.out]; exact hfj
      refine wp_region_still_tail 8 (by kernel_rfl) (by kernel_rfl) ?_
      have e2 : { wr with drawn := wr.drawn + 1 } = w5 := HW5.out.symm
      rw [e2]
      clear e2
      simp only [List.take_succ_cons, List.take_zero, List.drop_succ_cons, List.drop_zero]
      repeat still_step
      refine wpStill_nil ?_
      go_wp2_with fail
      go_roundw
      case rel => exact ⟨j + 1, by omega, by go_num, Lib.hid (by
       rw [HOR.out, HW5.out, HN.out]
       exact HI2.out.set _ _)⟩
      case measure => simp [intOf]; omega
    ·subst hQ
     obtain rfl : j = n := by omega
     go_wp2
     go_roundw
     case rel => exact ⟨k + 1, by omega, by go_num, HI2⟩
     case measure => simp [intOf]; omega
  ·obtain rfl : k = n := by omega
   have HZ := Lib.hid (sets_size (rchG k g))
   go_wp2_with (first
    | (refine wpList_load_row rfl 159 _ rfl bb rfl 159 (cellsU (rchG k g)) (0, 0) _ HO.out.row.heap Tryz.underlying159 rfl HZ.out ?_)
    | (refine wpList_store_mid rfl 159 _ _ rfl (w.heap.size + 1) 0 (cellsU (rchG k g)) rfl rfl (HO.out.ret.there _ (cellsU_size _)) HZ.out (cellsU_one _) ?_))
   refine bodyPost_ret (v := .agg (cellsU (rchG k g))) (results_cell_row rfl _ _ (w.heap.size + 1) 159 (cellsU (rchG k g)) (0, 0) _ rfl (RowU.heap HO.out.ret.stored) Tryz.underlying159 rfl HZ.out) rfl ⟨rfl, ?_⟩
   exact below_setCells (by omega) _ _ _ HO.out.bel
theorem infoU : (Tryz.prog.info? 53).map (fun i => (i.zero, i.size, i.bytes)) = some (some (.int .u64 0), 1, 8) := by kernel_rfl
def ucells (n : Nat) (f : Nat → Nat) : List Value := (List.range n).map fun i => .int .u64 (f i : Int)
def RdU (w : World) (A : Option Addr) (n : Nat) (f : Nat → Nat) : Prop := 0 < n → ∃ b off, A = some ⟨b, off, none⟩ ∧ b < w.heap.size ∧ ∀ j, j < n → w.cell? ⟨b, off + j, none⟩ = some (.int .u64 (f j : Int))
theorem RdU.below {w w' : World} {A : Option Addr} {n : Nat} {f : Nat → Nat} (h : RdU w A n f) (hb : Below w.heap.size w w') : RdU w' A n f := fun hn => by
 obtain ⟨b, off, e, hlt, hc⟩ := h hn
 exact ⟨b, off, e, Nat.lt_of_lt_of_le hlt hb.size, fun j hj => (hb.cell (p := ⟨b, off + j, none⟩) hlt).trans (hc j hj)⟩
set_option maxHeartbeats 800000 in
theorem cloneU_any {w : World} {b n c : Nat} {f : Nat → Nat} (hb : b < w.heap.size) (hc : ∀ j, j < n → w.cell? ⟨b, j, none⟩ = some (.int .u64 (f j : Int))) (hn : n ≤ 64) :
  Calls Tryz.prog 107 #[.slice (some ⟨b, 0, none⟩) n c] w fun e w' => ∃ A c', e = .returned (.slice A n c') ∧ RdU w' A n f ∧ Below w.heap.size w w' := by
 have HC := Lib.hid hc
 clear hc
 have hnil := fun (W : World) (A : Option Addr) (n c : Nat) => Lib.run_eql_slice_nil (P := Tryz.prog) W 161 53 A n c 0 0 Tryz.underlying161
 obtain ⟨i0, hi, hz0, hz1, hz2⟩ := info_parts infoU
 have HI := Lib.hid hi
 have HI0 := Lib.hid hz0
 have HI1 := Lib.hid hz1
 have HI2 := Lib.hid hz2
 clear hi hz0 hz1 hz2
 have HO : Hid ((w.alloc (.cells #[] 53)).ownsRow w.heap.size 53 1 (.slice (some ⟨w.heap.size, 0, none⟩) 0 0) 0 []) := Lib.hid ⟨rfl, .inr ⟨w.heap.size, 0, #[], rfl, Nat.le_refl _, heap_alloc_new _ _, Nat.le_refl _, by unfold maxLen; omega, rfl, rfl⟩⟩
 have HN : Hid (∀ (j : Nat) (u : Value), (ucells n f)[j]? = some u → (w.alloc (.cells #[] 53)).cell? ((⟨b, 0, none⟩ : Addr).add j) = some u) := Lib.hid (fun j u hj => by
  have hjn : j < n := by
   have := (List.getElem?_eq_some_iff.1 hj).1
   simpa [ucells] using this
  have e : (Addr.add ⟨b, 0, none⟩ j) = ⟨b, j, none⟩ := by unfold Addr.add; by_cases h0 : j = 0 <;> simp [h0]
  rw [e, World.cell?_alloc_lt w _ _ (by exact hb), HC.out j hjn]
  simp [ucells, hjn] at hj
  rw [hj])
 have H1 : Hid (∀ u ∈ ucells n f, u.oneCell' = true) := Lib.hid (fun u hu => by
  obtain ⟨i, _, rfl⟩ := List.mem_map.1 hu
  rfl)
 have HLN : Hid ((ucells n f).length = n * 1) := Lib.hid (by simp [ucells])
 go_enter Tryz.func107, Tryz.ntmps107
 go_wp2_with (at_builtin; refine wpList_append_own_at _ rfl _ _ 161 rfl w.heap.size 53 i0 (.int .u64 0) 1 8 Tryz.underlying161 HI.out HI0.out HI1.out HI2.out rfl (by decide) _ 0 [] rfl HO.out ⟨b, 0, none⟩ n c (ucells n f) rfl HLN.out HN.out H1.out (by unfold maxLen; omega) (by omega) (by simp) ?_; intro v' w1 hown hg _ hat)
 have HB1 : Hid (Below w.heap.size w w1) := Lib.hid (((Below.refl _ w).alloc (Nat.le_refl _) _).grown hg (by simp) (fun k h => by have h' : some w.heap.size = some k := h; cases h'; exact Nat.le_refl _))
 have HV : ∃ A c', v' = .slice A n c' ∧ Hid (RdU w1 A n f) := by
  rw [List.nil_append, Nat.zero_add] at hown
  rcases hown.2 with ⟨rfl, h0⟩ | ⟨g, cap, cur, rfl, hbg, hh, _⟩
  ·exact ⟨none, 0, by rw [h0], Lib.hid (fun hn0 => by omega)⟩
  ·refine ⟨some ⟨g, 0, none⟩, cap, rfl, Lib.hid (fun _ => ⟨g, 0, rfl, ?_, fun j hj => ?_⟩)⟩
   ·rcases Nat.lt_or_ge g w1.heap.size with h | h
    ·exact h
    ·rw [Array.getElem?_eq_none h] at hh; cases hh
   ·have := World.ownsRow.cells hown (g := g) rfl j (.int .u64 (f j : Int)) (by simp [ucells, hj])
    have e : (Addr.add ⟨g, 0, none⟩ j) = ⟨g, 0 + j, none⟩ := by unfold Addr.add; by_cases h0 : j = 0 <;> simp [h0]
    rwa [e] at this
 clear hown hg hat
 obtain ⟨A, c', rfl, HV⟩ := HV
 go_wp2
 go_ret
 exact ⟨A, c', rfl, HV.out, HB1.out⟩
set_option maxRecDepth 100000 in
set_option maxHeartbeats 1000000 in
theorem reachM_any {w : World} {B m c n : Nat} {A : Option Addr} {g : List (Nat × Nat)} (hx : RdEg w B A m g) (hi : InN n g) (hn : n ≤ 64) (hm : m ≤ 4096) (hB : B ≤ w.heap.size) :
  Calls Tryz.prog 82 #[.agg #[.int .i64 (n : Int), .slice A m c]] w fun e w' => ∃ A' c', e = .returned (.tuple #[.slice A' n c', .int .i64 0]) ∧ RdU w' A' n (rchG n g) ∧ Below w.heap.size w w' := by
 have HX := Lib.hid hx
 have HI := Lib.hid hi
 have HR := Lib.hid (graphR_cast hi hn (by rw [hx.len]; exact hm))
 clear hx hi
 have hn64 : (n : Int) ≤ 64 := by omega
 go_enter Tryz.func82, Tryz.ntmps82
 go_wp2_with fail
 refine (check_yes (RdE.alloc HX.out hB _) HR.out (by simp; omega)).mono ?_
 rintro e w1 ⟨rfl, hb⟩
 obtain ⟨hcn, hcs⟩ := (boxed_alloc w (n : Int) A m c 107).below hb (by simp)
 have HB1 : Hid (Below w.heap.size w w1) := Lib.hid (((Below.refl _ _).alloc (Nat.le_refl _) _).trans (hb.mono (by simp)))
 have hsz1 : w.heap.size < w1.heap.size := by have := hb.size; simp at this; omega
 clear hb
 go_wp2_with fail
 refine (reach_any (HX.out.below (HB1.out.mono hB)) (by omega) HI.out hn hm).mono ?_
 rintro e w4 ⟨rfl, hb⟩
 have hcn4 := (hb.cell (p := ⟨w.heap.size, 0, none⟩) hsz1).trans hcn
 have HB4 : Hid (Below w.heap.size w w4) := Lib.hid (HB1.out.trans (hb.mono (by omega)))
 have hsz4 : w.heap.size < w4.heap.size := Nat.lt_of_lt_of_le hsz1 hb.size
 clear hb hcn hcs
 have HZ := Lib.hid (sets_size (rchG n g))
 have HT : Hid ((w4.alloc (.cells (cellsU zeros) 159)).there w4.heap.size 0 (cellsU (rchG n g)).size) := Lib.hid ((rowU_new w4 zeros).there _ (cellsU_size _))
 obtain ⟨w5, hw5, HR5, hcn5, HB5, hsz5⟩ : ∃ w5, (w4.alloc (.cells (cellsU zeros) 159)).setCells w4.heap.size 0 (cellsU (rchG n g)).toList = w5 ∧ Hid (RowU w5 w4.heap.size (rchG n g)) ∧ w5.cell? ⟨w.heap.size, 0, none⟩ = some (.int .i64 (n : Int)) ∧ Hid (Below w.heap.size w w5) ∧ w4.heap.size < w5.heap.size := by
  have hr := (rowU_new w4 zeros).stored (f := rchG n g)
  have hb : Below w4.heap.size w4 ((w4.alloc (.cells (cellsU zeros) 159)).setCells w4.heap.size 0 (cellsU (rchG n g)).toList) := below_setCells (Nat.le_refl _) _ _ _ ((Below.refl _ _).alloc (Nat.le_refl _) _)
  refine ⟨_, rfl, Lib.hid hr, ?_, Lib.hid (HB4.out.trans (hb.mono (by omega))), World.rowIs.lt hr⟩
  rw [hb.cell (p := ⟨w.heap.size, 0, none⟩) (by simp; omega)]; exact hcn4
 rw [zeros_cells] at hw5 HT
 simp only [Array.replicate, List.replicate] at hw5 HT
 have HE := Lib.hid hw5
 clear hw5 hcn4
 go_wp2_with (first
  | (refine wpList_store_mid rfl 159 _ _ rfl w4.heap.size 0 (cellsU (rchG n g)) rfl rfl HT.out HZ.out (cellsU_one _) ?_; rw [HE.out])
  | (go_at_call 107; refine (cloneU_any hsz5 (fun j hj => HR5.out.cell (by omega)) hn).mono ?_; rintro e w6 ⟨A', c', rfl, hrd, hb6⟩))
 have HB6 : Hid (Below w.heap.size w w6) := Lib.hid (HB5.out.trans (hb6.mono (by omega)))
 have HRD := Lib.hid hrd
 go_wp2
 go_ret2
 exact ⟨A', c', rfl, HRD.out, HB6.out⟩
end Go.Proofs.YtminihiecloglaaGreat
