/-
  CONTRACTS of slices.Clone on sets and of Reach of package digraph, over this translation.
-/
import Derived.Test.YtfcabdgidlnljaaDoorDThin
import Derived.WalkSpells
namespace Go.Proofs.YtfcabdgidlnljaaDoor
open Go.RowKit
open DiP
set_option linter.unusedVariables false

theorem infoU : (Tryd.prog.info? 35).map (fun i => (i.zero, i.size, i.bytes)) = some (some (.int .u64 0), 1, 8) := by kernel_rfl
def ucells (n : Nat) (f : Nat → Nat) : List Value := (List.range n).map fun i => .int .u64 (f i : Int)
/-- A slice value of n sets reads, in w, as f. -/
def RdU (w : World) (A : Option Addr) (n : Nat) (f : Nat → Nat) : Prop := 0 < n → ∃ b off, A = some ⟨b, off, none⟩ ∧ b < w.heap.size ∧ ∀ j, j < n → w.cell? ⟨b, off + j, none⟩ = some (.int .u64 (f j : Int))
theorem RdU.below {w w' : World} {A : Option Addr} {n : Nat} {f : Nat → Nat} (h : RdU w A n f) (hb : Below w.heap.size w w') : RdU w' A n f := fun hn => by
  obtain ⟨b, off, e, hlt, hc⟩ := h hn
  exact ⟨b, off, e, Nat.lt_of_lt_of_le hlt hb.size, fun j hj => (hb.cell (p := ⟨b, off + j, none⟩) hlt).trans (hc j hj)⟩

set_option maxHeartbeats 800000 in
theorem cloneU_any {w : World} {b n c : Nat} {f : Nat → Nat} (hb : b < w.heap.size) (hc : ∀ j, j < n → w.cell? ⟨b, j, none⟩ = some (.int .u64 (f j : Int))) (hn : n ≤ 64) :
    Calls Tryd.prog 38 #[.slice (some ⟨b, 0, none⟩) n c] w fun e w' => ∃ A c', e = .returned (.slice A n c') ∧ RdU w' A n f ∧ Below w.heap.size w w' := by
  have HC := Lib.hid hc
  clear hc
  have hnil := fun (W : World) (A : Option Addr) (n c : Nat) => Lib.run_eql_slice_nil (P := Tryd.prog) W 29 35 A n c 0 0 Tryd.underlying29
  obtain ⟨i0, hi, hz0, hz1, hz2⟩ := info_parts infoU
  have HI := Lib.hid hi
  have HI0 := Lib.hid hz0
  have HI1 := Lib.hid hz1
  have HI2 := Lib.hid hz2
  clear hi hz0 hz1 hz2
  have HO : Hid ((w.alloc (.cells #[] 35)).ownsRow w.heap.size 35 1 (.slice (some ⟨w.heap.size, 0, none⟩) 0 0) 0 []) := Lib.hid ⟨rfl, .inr ⟨w.heap.size, 0, #[], rfl, Nat.le_refl _, heap_alloc_new _ _, Nat.le_refl _, by unfold maxLen; omega, rfl, rfl⟩⟩
  have HN : Hid (∀ (j : Nat) (u : Value), (ucells n f)[j]? = some u → (w.alloc (.cells #[] 35)).cell? ((⟨b, 0, none⟩ : Addr).add j) = some u) := Lib.hid (fun j u hj => by
    have hjn : j < n := by
      have := (List.getElem?_eq_some_iff.1 hj).1
      simpa [ucells] using this
    have e : (Addr.add ⟨b, 0, none⟩ j) = ⟨b, j, none⟩ := by unfold Addr.add; by_cases h0 : j = 0 <;> simp [h0]
    rw [e, World.cell?_alloc_lt w _ _ (by exact hb), HC.out j hjn]
    simp [ucells, hjn] at hj
    rw [hj])
  have H1 : Hid (∀ u ∈ ucells n f, u.oneCell' = true) := Lib.hid (fun u hu => by
    obtain ⟨i, _, rfl⟩ := List.mem_map.1 hu
    rfl)
  have HLN : Hid ((ucells n f).length = n * 1) := Lib.hid (by simp [ucells])
  go_enter Tryd.func38, Tryd.ntmps38
  go_wp2_with (at_builtin; refine wpList_append_own_at _ rfl _ _ 29 rfl w.heap.size 35 i0 (.int .u64 0) 1 8 Tryd.underlying29 HI.out HI0.out HI1.out HI2.out rfl (by decide) _ 0 [] rfl HO.out ⟨b, 0, none⟩ n c (ucells n f) rfl HLN.out HN.out H1.out (by unfold maxLen; omega) (by omega) (by simp) ?_; intro v' w1 hown hg _ hat)
  have HB1 : Hid (Below w.heap.size w w1) := Lib.hid (((Below.refl _ w).alloc (Nat.le_refl _) _).grown hg (by simp) (fun k h => by have h' : some w.heap.size = some k := h; cases h'; exact Nat.le_refl _))
  have HV : ∃ A c', v' = .slice A n c' ∧ Hid (RdU w1 A n f) := by
    rw [List.nil_append, Nat.zero_add] at hown
    rcases hown.2 with ⟨rfl, h0⟩ | ⟨g, cap, cur, rfl, hbg, hh, _⟩
    · exact ⟨none, 0, by rw [h0], Lib.hid (fun hn0 => by omega)⟩
    · refine ⟨some ⟨g, 0, none⟩, cap, rfl, Lib.hid (fun _ => ⟨g, 0, rfl, ?_, fun j hj => ?_⟩)⟩
      · rcases Nat.lt_or_ge g w1.heap.size with h | h
        · exact h
        · rw [Array.getElem?_eq_none h] at hh; cases hh
      · have := World.ownsRow.cells hown (g := g) rfl j (.int .u64 (f j : Int)) (by simp [ucells, hj])
        have e : (Addr.add ⟨g, 0, none⟩ j) = ⟨g, 0 + j, none⟩ := by unfold Addr.add; by_cases h0 : j = 0 <;> simp [h0]
        rwa [e] at this
  clear hown hg hat
  obtain ⟨A, c', rfl, HV⟩ := HV
  go_wp2
  go_ret
  exact ⟨A, c', rfl, HV.out, HB1.out⟩

set_option maxRecDepth 100000 in
set_option maxHeartbeats 1000000 in
theorem reachM_any {w : World} {B m c n : Nat} {A : Option Addr} {g : List (Nat × Nat)} (hx : RdG w B A m g) (hi : InN n g) (hn : n ≤ 64) (hm : m ≤ 4096) (hB : B ≤ w.heap.size) :
    Calls Tryd.prog 27 #[.agg #[.int .i64 (n : Int), .slice A m c]] w fun e w' => ∃ A' c', e = .returned (.tuple #[.slice A' n c', .int .i64 0]) ∧ RdU w' A' n (rchG n g) ∧ Below w.heap.size w w' := by
  have HX := Lib.hid hx
  have HI := Lib.hid hi
  have HR := Lib.hid (graphR_cast hi hn (by rw [hx.len]; exact hm))
  clear hx hi
  have hn64 : (n : Int) ≤ 64 := by omega
  go_enter Tryd.func27, Tryd.ntmps27
  go_wp2_with fail
  refine (check_yes (RdE.alloc HX.out hB _) HR.out (by simp; omega)).mono ?_
  rintro e w1 ⟨rfl, hb⟩
  obtain ⟨hcn, hcs⟩ := (boxed_alloc w (n : Int) A m c 24).below hb (by simp)
  have HB1 : Hid (Below w.heap.size w w1) := Lib.hid (((Below.refl _ _).alloc (Nat.le_refl _) _).trans (hb.mono (by simp)))
  have hsz1 : w.heap.size < w1.heap.size := by have := hb.size; simp at this; omega
  clear hb
  go_wp2_with fail
  refine (reach_any (HX.out.below (HB1.out.mono hB)) (by omega) HI.out hn hm).mono ?_
  rintro e w4 ⟨rfl, hb⟩
  have hcn4 := (hb.cell (p := ⟨w.heap.size, 0, none⟩) hsz1).trans hcn
  have HB4 : Hid (Below w.heap.size w w4) := Lib.hid (HB1.out.trans (hb.mono (by omega)))
  have hsz4 : w.heap.size < w4.heap.size := Nat.lt_of_lt_of_le hsz1 hb.size
  clear hb hcn hcs
  have HZ := Lib.hid (sets_size (rchG n g))
  have HT : Hid ((w4.alloc (.cells (cellsU zeros) 72)).there w4.heap.size 0 (cellsU (rchG n g)).size) := Lib.hid ((rowU_new w4 zeros).there _ (cellsU_size _))
  obtain ⟨w5, hw5, HR5, hcn5, HB5, hsz5⟩ : ∃ w5, (w4.alloc (.cells (cellsU zeros) 72)).setCells w4.heap.size 0 (cellsU (rchG n g)).toList = w5 ∧ Hid (RowU w5 w4.heap.size (rchG n g)) ∧ w5.cell? ⟨w.heap.size, 0, none⟩ = some (.int .i64 (n : Int)) ∧ Hid (Below w.heap.size w w5) ∧ w4.heap.size < w5.heap.size := by
    have hr := (rowU_new w4 zeros).stored (f := rchG n g)
    have hb : Below w4.heap.size w4 ((w4.alloc (.cells (cellsU zeros) 72)).setCells w4.heap.size 0 (cellsU (rchG n g)).toList) := below_setCells (Nat.le_refl _) _ _ _ ((Below.refl _ _).alloc (Nat.le_refl _) _)
    refine ⟨_, rfl, Lib.hid hr, ?_, Lib.hid (HB4.out.trans (hb.mono (by omega))), World.rowIs.lt hr⟩
    rw [hb.cell (p := ⟨w.heap.size, 0, none⟩) (by simp; omega)]; exact hcn4
  rw [zeros_cells] at hw5 HT
  simp only [Array.replicate, List.replicate] at hw5 HT
  have HE := Lib.hid hw5
  clear hw5 hcn4
  go_wp2_with (first
    | (refine wpList_store_mid rfl 72 _ _ rfl w4.heap.size 0 (cellsU (rchG n g)) rfl rfl HT.out HZ.out (cellsU_one _) ?_; rw [HE.out])
    | (go_at_call 38; refine (cloneU_any hsz5 (fun j hj => HR5.out.cell (by omega)) hn).mono ?_; rintro e w6 ⟨A', c', rfl, hrd, hb6⟩))
  have HB6 : Hid (Below w.heap.size w w6) := Lib.hid (HB5.out.trans (hb6.mono (by omega)))
  have HRD := Lib.hid hrd
  go_wp2
  go_ret2
  exact ⟨A', c', rfl, HRD.out, HB6.out⟩

/-- With all edges turned round. -/
def turnG (g : List (Nat × Nat)) : List (Nat × Nat) := g.map fun e => (e.2, e.1)
theorem turn_len (g : List (Nat × Nat)) : (turnG g).length = g.length := by simp [turnG]
theorem fa_turn (g : List (Nat × Nat)) (k : Nat) : fa (turnG g) k = fb g k := by
  unfold fa fb turnG
  simp only [List.getD, List.getElem?_map]
  cases g[k]? <;> rfl
theorem fb_turn (g : List (Nat × Nat)) (k : Nat) : fb (turnG g) k = fa g k := by
  unfold fa fb turnG
  simp only [List.getD, List.getElem?_map]
  cases g[k]? <;> rfl
theorem inN_turn {n : Nat} {g : List (Nat × Nat)} (h : InN n g) : InN n (turnG g) := fun k hk => by
  rw [fa_turn, fb_turn]
  have := h k (by rwa [turn_len] at hk)
  exact ⟨this.2, this.1⟩
theorem E_turn (g : List (Nat × Nat)) (u v : Nat) : E (turnG g) u v ↔ E g v u := by
  unfold E
  constructor
  · rintro ⟨k, hk, h1, h2⟩
    rw [fa_turn] at h1; rw [fb_turn] at h2; rw [turn_len] at hk
    exact ⟨k, hk, h2, h1⟩
  · rintro ⟨k, hk, h1, h2⟩
    exact ⟨k, by rw [turn_len]; exact hk, by rw [fa_turn]; exact h2, by rw [fb_turn]; exact h1⟩
theorem bt_thrJ (r : Nat → Nat) {mid n v : Nat} (hv : v < n) (u : Nat) : bt (thrJ r mid n v) u = (bt (r v) u || (bt (r v) mid && bt (r mid) u)) := by
  unfold thrJ
  by_cases h : bt (r v) mid = true
  · rw [if_pos ⟨hv, h⟩, bt_orn, h]; simp
  · rw [if_neg (fun e => h e.2)]
    simp at h
    rw [h]; simp
theorem rch_turn {n : Nat} (g : List (Nat × Nat)) : ∀ k, k ≤ n → ∀ u v, u < n → v < n → bt (rchK n g k v) u = bt (rchK n (turnG g) k u) v := by
  intro k
  induction k with
  | zero =>
    intro _ u v _ _
    show bt (aftG g v) u = bt (aftG (turnG g) u) v
    rw [Bool.eq_iff_iff, bt_aftG, bt_aftG, E_turn]
  | succ k ih =>
    intro hk u v hu hv
    show bt (thrJ (rchK n g k) k n v) u = bt (thrJ (rchK n (turnG g) k) k n u) v
    rw [bt_thrJ _ hv, bt_thrJ _ hu, ih (by omega) u v hu hv, ih (by omega) k v (by omega) hv, ih (by omega) u k hu (by omega)]
    rw [Bool.and_comm (bt (rchK n (turnG g) k k) v)]
end Go.Proofs.YtfcabdgidlnljaaDoor
