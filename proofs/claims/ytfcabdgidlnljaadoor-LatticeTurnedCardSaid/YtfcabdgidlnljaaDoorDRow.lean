/-
  CONTRACTS of has, before and after of package digraph, over this translation.
-/
import Derived.Test.YtfcabdgidlnljaaDoorDCheck
import Derived.Test.YtfcabdgidlnljaaDoorDPa
import Derived.Deep.OwnRows
import Derived.Deep.MidRow
import Derived.Laws.BitsAllLaws
import Derived.Laws.Rows
import Derived.StillTailTactics
import Derived.Lib.LazyBuf
namespace Go.Proofs.YtfcabdgidlnljaaDoor
open Go.RowKit
open DiP
set_option linter.unusedVariables false

theorem has_bits {s v : Nat} (hs : s < lim) : (bits BinOp.and IntKind.u64 ((s : Int) / 2 ^ v) 1 == 1) = bt s v := by
  have e : ((s : Int) / 2 ^ v) = ((s / 2 ^ v : Nat) : Int) := by simp
  have h1 : s / 2 ^ v < 18446744073709551616 := Nat.lt_of_le_of_lt (Nat.div_le_self _ _) hs
  rw [e, show (1 : Int) = ((1 : Nat) : Int) from rfl, u64_and_nat _ _ h1 (by decide), nat_mask1, bt_div]
  have : s / 2 ^ v % 2 < 2 := Nat.mod_lt _ (by decide)
  by_cases h : s / 2 ^ v % 2 = 1
  · rw [h]; rfl
  · have h0 : s / 2 ^ v % 2 = 0 := by omega
    rw [h0]; rfl
theorem has_any {s v : Nat} {w : World} (hs : s < lim) (hv : v < 64) : Calls Tryd.prog 42 #[.int .u64 (s : Int), .int .i64 (v : Int)] w fun e w' => e = .returned (.bool (bt s v)) ∧ w = w' := by
  have HS := Lib.hid (has_bits (v := v) hs)
  go_enter Tryd.func42, Tryd.ntmps42
  go_wp2
  go_ret
  exact ⟨by rw [← HS.out]; rfl, rfl⟩

/-- Edges, their ends as numbers. -/
def castE (g : List (Nat × Nat)) : List (Int × Int) := g.map fun e => ((e.1 : Int), (e.2 : Int))
theorem castE_len (g : List (Nat × Nat)) : (castE g).length = g.length := by simp [castE]
theorem ea_cast (g : List (Nat × Nat)) (k : Nat) : ea (castE g) k = (fa g k : Int) := by
  unfold ea fa castE
  simp only [List.getD, List.getElem?_map]
  cases g[k]? <;> rfl
theorem eb_cast (g : List (Nat × Nat)) (k : Nat) : eb (castE g) k = (fb g k : Int) := by
  unfold eb fb castE
  simp only [List.getD, List.getElem?_map]
  cases g[k]? <;> rfl
/-- A slice of m pairs reads, in w, as the edges g. -/
def RdG (w : World) (B : Nat) (A : Option Addr) (m : Nat) (g : List (Nat × Nat)) : Prop := RdE w B A m (castE g)
section
variable {w w' : World} {B B' m : Nat} {A : Option Addr} {g : List (Nat × Nat)}
theorem RdG.len (h : RdG w B A m g) : g.length = m := by have := h.1; rwa [castE_len] at this
theorem RdG.at_ {k : Nat} (h : RdG w B A m g) (hk : k < m) :
    ∃ b off, A = some ⟨b, off, none⟩ ∧ b < B ∧ w.cell? ⟨b, off + k * 2, none⟩ = some (.int .i64 (fa g k : Int)) ∧ w.cell? ⟨b, off + k * 2 + 1, none⟩ = some (.int .i64 (fb g k : Int)) := by
  have := RdE.at_ h hk
  rwa [ea_cast, eb_cast] at this
theorem RdG.below (h : RdG w B A m g) (hb : Below B w w') : RdG w' B A m g := RdE.below h hb
end

/-- A block that holds a row of 64 sets. -/
def RowU (w : World) (b : Nat) (f : Nat → Nat) : Prop := w.rowIs b 72 64 (fun i => .int .u64 (f i : Int))
section
variable {w w' : World} {b : Nat} {f : Nat → Nat}
theorem RowU.cell (h : RowU w b f) {i : Nat} (hi : i < 64) : w.cell? ⟨b, i, none⟩ = some (.int .u64 (f i : Int)) := World.rowIs.cell h hi
theorem RowU.frozen (h : RowU w b f) (i : Nat) : w.frozen? ⟨b, i, none⟩ = false := World.rowIs.frozen h i
theorem RowU.below (h : RowU w b f) {B : Nat} (hb : Below B w w') (hB : b < B) : RowU w' b f := World.rowIs.of_block h (hb.block b hB)
theorem RowU.set (h : RowU w b f) (i x : Nat) : RowU (w.setCell ⟨b, i, none⟩ (.int .u64 (x : Int))) b (upd f i x) := by
  refine World.rowIs.congr (World.rowIs.set h i _) (fun j _ => ?_)
  unfold upd
  split <;> rfl
theorem RowU.alloc (h : RowU w b f) (o : Obj) : RowU (w.alloc o) b f := World.rowIs.alloc h o
theorem RowU.drew (h : RowU w b f) : RowU w.drew b f := h
theorem RowU.drewN (h : RowU w b f) (k : Nat) : RowU (w.drewN k) b f := h
theorem RowU.other (h : RowU w b f) {a : Addr} (ha : b ≠ a.block) (v : Value) : RowU (w.setCell a v) b f := World.rowIs.setOther h ha v
end
/-- The cells of a new row. -/
def cellsU (f : Nat → Nat) : Array Value := Array.ofFn (n := 64) fun i => .int .u64 (f i : Int)
theorem cellsU_size (f : Nat → Nat) : (cellsU f).size = 64 := by simp [cellsU]
theorem cellsU_get (f : Nat → Nat) (i : Nat) (hi : i < 64) : (cellsU f)[i]? = some (.int .u64 (f i : Int)) := by simp [cellsU, hi]
theorem rowU_new (w : World) (f : Nat → Nat) : RowU (w.alloc (.cells (cellsU f) 72)) w.heap.size f := by
  have := World.rowIs_alloc w (cellsU f) 72 (fun i => .int .u64 (f i : Int)) (fun i hi => by rw [cellsU_size] at hi; exact cellsU_get f i hi)
  rwa [cellsU_size] at this
/-- What is in the block is the row's cells. -/
theorem RowU.heap {w : World} {b : Nat} {f : Nat → Nat} (h : RowU w b f) : w.heap[b]? = some (.cells (cellsU f) 72 (0, 0)) := by
  obtain ⟨c, hb, hn, hc⟩ := h
  have e : c = cellsU f := by
    apply Array.ext_getElem?
    intro i
    by_cases hi : i < 64
    · rw [hc i hi, cellsU_get f i hi]
    · rw [Array.getElem?_eq_none (by omega), Array.getElem?_eq_none (by rw [cellsU_size]; omega)]
  rw [hb, e]
theorem cellsU_one (f : Nat → Nat) : (cellsU f).all (·.oneCell') = true := by
  rw [Array.all_eq_true_iff_forall_mem]
  intro v hv
  obtain ⟨i, hi, rfl⟩ := Array.mem_iff_getElem.1 hv
  simp [cellsU]; rfl
theorem RowU.there {w : World} {b : Nat} {f : Nat → Nat} (h : RowU w b f) (n : Nat) (hn : n = 64) : w.there b 0 n := fun j hj => by
  subst hn
  rw [Nat.zero_add, h.cell hj]
  exact ⟨rfl, h.frozen j⟩
/-- A whole row stored over another one. -/
theorem RowU.stored {w : World} {b : Nat} {f f' : Nat → Nat} (h : RowU w b f') : RowU (w.setCells b 0 (cellsU f).toList) b f := by
  refine World.rowIs.congr (rowIs_setCells (cellsU f).toList 0 w _ h) (fun j hj => ?_)
  rw [if_pos ⟨Nat.zero_le _, by rw [Array.length_toList, cellsU_size]; omega⟩, Nat.sub_zero, Array.getElem?_toList, cellsU_get f j hj]
  rfl
theorem sets_size (f : Nat → Nat) : (Tryd.prog.info? 72).map (·.size) = some (cellsU f).size := by rw [cellsU_size]; kernel_rfl
def zeros : Nat → Nat := fun _ => 0
theorem zeros_cells : cellsU zeros = Array.replicate 64 (.int .u64 0) := by
  apply Array.ext_getElem?
  intro i
  by_cases hi : i < 64
  · rw [cellsU_get _ i hi]; simp [zeros, hi]
  · rw [Array.getElem?_eq_none (by rw [cellsU_size]; omega), Array.getElem?_eq_none (by simp; omega)]

theorem shl_one (v : Nat) : (2 : Int) ^ v = ((one v : Nat) : Int) := by simp [one]
theorem or_spell {s v : Nat} (hs : s < lim) (hv : v < 64) : bits BinOp.or IntKind.u64 (s : Int) (IntKind.u64.wrap (2 ^ min v 64)) = ((add s v : Nat) : Int) := by
  have h1 := one_lt v hv
  have e : IntKind.u64.wrap (2 ^ min v 64) = ((one v : Nat) : Int) := by
    rw [IntKind.wrap_u64, Nat.min_eq_left (by omega), shl_one]
    unfold lim at h1
    omega
  rw [e]; exact u64_or_nat s (one v) hs h1
theorem or_bits {s t : Nat} (hs : s < lim) (ht : t < lim) : bits BinOp.or IntKind.u64 (s : Int) (t : Int) = ((orn s t : Nat) : Int) := u64_or_nat s t hs ht

set_option maxRecDepth 100000 in
set_option maxHeartbeats 1000000 in
theorem before_any {w : World} {B m c n : Nat} {A : Option Addr} {g : List (Nat × Nat)} (hx : RdG w B A m g) (hB : B ≤ w.heap.size) (hi : InN n g) (hn : n ≤ 64) (hm : m ≤ 4096) :
    Calls Tryd.prog 41 #[.agg #[.int .i64 n, .slice A m c]] w fun e w' => e = .returned (.agg (cellsU (befG g))) ∧ Below w.heap.size w w' := by
  have HX := Lib.hid hx
  have HI := Lib.hid hi
  have HL := Lib.hid hx.len
  clear hx hi
  go_enter Tryd.func41, Tryd.ntmps41
  go_wp2_with fail
  have HW : ∃ W0 : World, W0 = (((w.alloc (.cells #[.int .i64 (n : Int), .slice A m c] 24)).alloc (.cells (cellsU zeros) 72)).alloc (.cells (cellsU zeros) 72)) := ⟨_, rfl⟩
  obtain ⟨W0, hW⟩ := HW
  have hsz : W0.heap.size = w.heap.size + 3 := by rw [hW]; simp
  have HR1 : Hid (RowU W0 (w.heap.size + 1) zeros) := Lib.hid (by
    rw [hW]
    have := (rowU_new (w.alloc (.cells #[.int .i64 (n : Int), .slice A m c] 24)) zeros).alloc (.cells (cellsU zeros) 72)
    simpa using this)
  have HR2 : Hid (RowU W0 (w.heap.size + 2) zeros) := Lib.hid (by
    rw [hW]
    have := rowU_new ((w.alloc (.cells #[.int .i64 (n : Int), .slice A m c] 24)).alloc (.cells (cellsU zeros) 72)) zeros
    simpa using this)
  have HBW : Hid (Below w.heap.size w W0) := Lib.hid (by
    rw [hW]
    exact (((Below.refl _ _).alloc (Nat.le_refl _) _).alloc (by simp) _).alloc (by simp; omega) _)
  rw [zeros_cells] at hW
  simp only [Array.replicate, List.replicate] at hW
  rw [← hW]
  clear hW
  clear hsz
  go_loopw [9] (fun i wr => ∃ k : Nat, k ≤ m ∧ i = .int .i64 (k : Int) ∧ Hid (RowU wr (w.heap.size + 1) zeros ∧ RowU wr (w.heap.size + 2) (befK g k) ∧ Below w.heap.size w wr)) (fun i _ => m - (intOf i).toNat)
  case atStart => exact ⟨0, by omega, rfl, Lib.hid ⟨HR1.out, HR2.out, HBW.out⟩⟩
  case round =>
    obtain ⟨k, hk, rfl, HV⟩ := hrel
    by_cases hlt : k < m
    · obtain ⟨b, off, rfl, hbb, hca, hcb⟩ := (HX.out.below (HV.out.2.2.mono hB)).at_ hlt
      obtain ⟨hfa, hfb⟩ := HI.out k (by rw [HL.out]; exact hlt)
      have hsm := befK_small HI.out hn k (by rw [HL.out]; omega) (fb g k)
      have HO := Lib.hid (or_spell hsm (show fa g k < 64 by omega))
      have HS := Lib.hid hsm
      clear hsm
      have hi0 : fb g k < 64 := by omega
      have hi1 : (fb g k : Int) < 64 := by omega
      go_wp2_with fail
      obtain ⟨w2, HW2⟩ : ∃ w2, Hid (w2 = (wr.alloc (.cells #[.int .i64 (fa g k), .int .i64 (fb g k)] 43)).drew) := ⟨_, Lib.hid rfl⟩
      have hcr : w2.cell? ⟨w.heap.size + 1 + 1, fb g k, none⟩ = some (.int .u64 (befK g k (fb g k) : Int)) := by
        rw [HW2.out]; exact (HV.out.2.1.alloc (.cells #[.int .i64 (fa g k), .int .i64 (fb g k)] 43)).cell (i := fb g k) (by omega)
      have hfr : w2.frozen? ⟨w.heap.size + 1 + 1, fb g k, none⟩ = false := by
        rw [HW2.out]; exact (HV.out.2.1.alloc (.cells #[.int .i64 (fa g k), .int .i64 (fb g k)] 43)).frozen (fb g k)
      have he0 : w2.cell? ⟨wr.heap.size, 0, none⟩ = some (.int .i64 (fa g k : Int)) := by rw [HW2.out]; simp
      have he1 : w2.cell? ⟨wr.heap.size, 1, none⟩ = some (.int .i64 (fb g k : Int)) := by rw [HW2.out]; simp
      refine wp_region_still_tail 10 (by kernel_rfl) (by kernel_rfl) ?_
      have e2 : { (wr.alloc (.cells #[.int .i64 (fa g k), .int .i64 (fb g k)] 43)) with drawn := (wr.alloc (.cells #[.int .i64 (fa g k), .int .i64 (fb g k)] 43)).drawn + 1 } = w2 := HW2.out.symm
      rw [e2]
      clear e2
      simp only [List.take_succ_cons, List.take_zero, List.drop_succ_cons, List.drop_zero]
      repeat still_step
      refine wpStill_nil ?_
      go_wp2_with fail
      go_roundw
      case rel => exact ⟨k + 1, by omega, by go_num, Lib.hid (by
        rw [HO.out, HW2.out]
        refine ⟨((HV.out.1.alloc _).drew).other (by simp) _, ((HV.out.2.1.alloc _).drew).set _ _, ?_⟩
        exact (below_drewN (HV.out.2.2.alloc HV.out.2.2.size _) 1).setCell (by simp; omega) _)⟩
      case measure => simp [intOf]; omega
    · have HZ := Lib.hid (sets_size (befK g k))
      have hlt' : ¬ k < m := hlt
      go_wp2_with (first
        | (refine wpList_load_row rfl 72 _ rfl (w.heap.size + 1 + 1) rfl 72 (cellsU (befK g k)) (0, 0) _ HV.out.2.1.heap Tryd.underlying72 rfl HZ.out ?_)
        | (refine wpList_store_mid rfl 72 _ _ rfl (w.heap.size + 1) 0 (cellsU (befK g k)) rfl rfl (HV.out.1.there _ (cellsU_size _)) HZ.out (cellsU_one _) ?_))
      have e : k = m := by omega
      have e2 : befG g = befK g k := by unfold befG; rw [HL.out, e]
      rw [e2]
      refine bodyPost_ret (v := .agg (cellsU (befK g k))) (results_cell_row rfl _ _ (w.heap.size + 1) 72 (cellsU (befK g k)) (0, 0) _ rfl (RowU.heap HV.out.1.stored) Tryd.underlying72 rfl HZ.out) rfl ⟨rfl, ?_⟩
      exact below_setCells (by omega) _ _ _ HV.out.2.2
end Go.Proofs.YtfcabdgidlnljaaDoor
