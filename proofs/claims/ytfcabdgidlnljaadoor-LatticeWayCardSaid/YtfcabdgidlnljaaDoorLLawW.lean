/-
  THE WALK of the statement LatticeWay (printed by genlawlw.py): whatever the graph and the picks, the call returns true and writes nothing that was there.
-/
import Derived.Test.YtfcabdgidlnljaaDoorLWay
import Derived.Test.YtfcabdgidlnljaaDoorDCirc
import Derived.Test.YtfcabdgidlnljaaDoorOpenI
namespace Go.Proofs.YtfcabdgidlnljaaDoor
open Go.RowKit
open DiP
set_option linter.unusedVariables false
set_option linter.unusedSimpArgs false
set_option maxRecDepth 100000
/-- The nodes below y that may come next. -/
def avl (g : List (Nat × Nat)) (d y : Nat) : List Nat := (List.range y).filter (fun i => rdy (befG g) d i)
theorem avl_succ (g : List (Nat × Nat)) (d y : Nat) : avl g d (y + 1) = if rdy (befG g) d y = true then avl g d y ++ [y] else avl g d y := by
  unfold avl
  rw [List.range_succ, List.filter_append]
  by_cases h : rdy (befG g) d y = true
  · rw [if_pos h]; simp [h]
  · rw [if_neg h]; simp [h]
theorem avl_all {g : List (Nat × Nat)} {n d : Nat} (hn : n ≤ 64) : (List.range n).filter (fun i => rdy (befG g) d i) = nxtL g n d := by
  refine pw_ext (List.Pairwise.filter _ List.pairwise_lt_range) (memL_pw _) fun u => ?_
  rw [List.mem_filter, List.mem_range]
  exact (nxtL_mem (g := g) (d := d) hn).symm
theorem tmod_plc {n : Nat} (hn : 1 ≤ n) (p : Int) : p.tmod (n : Int) = ((plc n p : Nat) : Int) ∨ p.tmod (n : Int) = -((plc n p : Nat) : Int) := by
  unfold plc
  by_cases h : 0 ≤ p
  · left
    obtain ⟨q, rfl⟩ : ∃ q : Nat, p = (q : Int) := ⟨p.natAbs, by omega⟩
    rw [Int.natAbs_natCast, ← Int.ofNat_tmod]
  · right
    obtain ⟨q, rfl⟩ : ∃ q : Nat, p = -(q : Int) := ⟨p.natAbs, by omega⟩
    rw [Int.neg_tmod, Int.natAbs_neg, Int.natAbs_natCast, ← Int.ofNat_tmod]
set_option maxHeartbeats 8000000 in
theorem law_way_skip {w : World} {m c mp cp : Nat} {P : Option Addr} {ps : List Int} {n : Int} {A : Option Addr} {es : List (Int × Int)} (hx : RdE w w.heap.size A m es) (hm0 : m ≤ 9223372036854775807) (hok : ¬ (m ≤ 60 ∧ (n ≤ 10 ∨ ¬ GraphR n es))) (hp : RdZ w w.heap.size P mp ps) (hT : Tz w) (h0 : 0 < w.heap.size) :
    Calls Tryd.prog 8 #[.agg #[.int .i64 n, .slice A m c], .slice P mp cp] w fun e w' => e = .returned (.bool true) ∧ Below w.heap.size w w' := by
  obtain ⟨k, hk⟩ : ∃ k, w.heap.size = k := ⟨_, rfl⟩
  have Hk := Lib.hid hk
  obtain ⟨W0, hW0⟩ : ∃ W0, w.alloc (.cells #[.int .i64 n, .slice A m c] 24) = W0 := ⟨_, rfl⟩
  have hb0 : Below k w W0 := by rw [← hW0, ← hk]; exact (Below.refl _ w).alloc (Nat.le_refl _) _
  have hz0 : W0.heap.size = k + 1 := by rw [← hW0, World.size_alloc, hk]
  have hh0 : W0.heap[k]? = some (.cells #[.int .i64 n, .slice A m c] 24 (0, 0)) := by rw [← hW0, ← hk]; exact World.alloc_heap_new _ _
  have HB0 := Lib.hid hb0
  have HZ0 := Lib.hid hz0
  have HH0 := Lib.hid hh0
  have HX := Lib.hid hx
  have HAN := Lib.hid (anchor_any W0 (hT.below hb0 (by omega)) (by omega))
  have HW0 := Lib.hid hW0
  have HT0 : Hid (Tz w) := Lib.hid hT
  clear hx hT hb0 hz0 hh0 hW0
  go_enter Tryd.func8, Tryd.ntmps8
  go_wp2_with fail
  rw [HW0.out]
  refine HAN.out.mono ?_
  rintro e W1 ⟨rfl, hb⟩
  clear HAN
  have HB1 : Hid (Below k w W1) := Lib.hid (HB0.out.trans (hb.mono (by rw [HZ0.out]; omega)))
  have HZ1 : Hid (k + 1 ≤ W1.heap.size) := Lib.hid (by have := hb.size; rw [HZ0.out] at this; exact this)
  have HH1 : Hid (W1.heap[k]? = some (.cells #[.int .i64 n, .slice A m c] 24 (0, 0))) := Lib.hid ((hb.block k (by rw [HZ0.out]; omega)).trans HH0.out)
  have hg := HH1.out
  have hc0 : W1.cell? ⟨k, 0, none⟩ = some (.int .i64 n) := by simp [World.cell?, hg]
  have hc1 : W1.cell? ⟨k, 1, none⟩ = some (.slice A m c) := by simp [World.cell?, hg]
  have HPL := Lib.hid (plain_any (c := c) (z := n) (HX.out.below (B := w.heap.size) (by rw [Hk.out]; exact HB1.out)) (by rw [Hk.out]; have := HZ1.out; omega) hm0 false ⟨nofun, fun h => (hok h).elim⟩)
  clear hb hg
  go_wp2_with fail
  refine HPL.out.mono ?_
  rintro e W2 ⟨rfl, hb⟩
  clear HPL hc0 hc1
  obtain ⟨p2, hp2⟩ : ∃ p2, W2.heap.size = p2 := ⟨_, rfl⟩
  obtain ⟨W3, hW3⟩ : ∃ W3, W2.alloc (.cells #[.int .i64 n, .slice A m c] 26) = W3 := ⟨_, rfl⟩
  have hkp : k < p2 := by rw [← hp2]; exact Nat.lt_of_lt_of_le (show k < W1.heap.size by have := HZ1.out; omega) hb.size
  have HKP := Lib.hid hkp
  have HB3 : Hid (Below k w W3) := Lib.hid (by rw [← hW3]; exact (HB1.out.trans (hb.mono (by have := HZ1.out; omega))).alloc (by omega) _)
  have HZ3 : Hid (p2 + 1 ≤ W3.heap.size) := Lib.hid (by rw [← hW3, World.size_alloc, hp2]; omega)
  have HG3 : Hid (W3.heap[k]? = some (.cells #[.int .i64 n, .slice A m c] 24 (0, 0))) := Lib.hid (by rw [← hW3, Below.heap_alloc _ _ _ (by omega)]; exact (hb.block k (by have := HZ1.out; omega)).trans HH1.out)
  have HP3 : Hid (W3.heap[p2]? = some (.cells #[.int .i64 n, .slice A m c] 26 (0, 0))) := Lib.hid (by rw [← hW3, ← hp2]; exact World.alloc_heap_new _ _)
  have HW3 := Lib.hid hW3
  clear hb hW3 hkp
  go_wp2
  rw [HW3.out]
  go_ret
  exact ⟨rfl, by rw [Hk.out]; exact HB3.out⟩
set_option maxHeartbeats 8000000 in
theorem law_way_long {w : World} {m c mp cp : Nat} {P : Option Addr} {ps : List Int} {n : Int} {A : Option Addr} {es : List (Int × Int)} (hx : RdE w w.heap.size A m es) (hm0 : m ≤ 9223372036854775807) (hok : m ≤ 60 ∧ (n ≤ 10 ∨ ¬ GraphR n es)) (hmp : 100 < mp) (hp : RdZ w w.heap.size P mp ps) (hT : Tz w) (h0 : 0 < w.heap.size) :
    Calls Tryd.prog 8 #[.agg #[.int .i64 n, .slice A m c], .slice P mp cp] w fun e w' => e = .returned (.bool true) ∧ Below w.heap.size w w' := by
  obtain ⟨k, hk⟩ : ∃ k, w.heap.size = k := ⟨_, rfl⟩
  have Hk := Lib.hid hk
  obtain ⟨W0, hW0⟩ : ∃ W0, w.alloc (.cells #[.int .i64 n, .slice A m c] 24) = W0 := ⟨_, rfl⟩
  have hb0 : Below k w W0 := by rw [← hW0, ← hk]; exact (Below.refl _ w).alloc (Nat.le_refl _) _
  have hz0 : W0.heap.size = k + 1 := by rw [← hW0, World.size_alloc, hk]
  have hh0 : W0.heap[k]? = some (.cells #[.int .i64 n, .slice A m c] 24 (0, 0)) := by rw [← hW0, ← hk]; exact World.alloc_heap_new _ _
  have HB0 := Lib.hid hb0
  have HZ0 := Lib.hid hz0
  have HH0 := Lib.hid hh0
  have HX := Lib.hid hx
  have HAN := Lib.hid (anchor_any W0 (hT.below hb0 (by omega)) (by omega))
  have HW0 := Lib.hid hW0
  have HT0 : Hid (Tz w) := Lib.hid hT
  clear hx hT hb0 hz0 hh0 hW0
  go_enter Tryd.func8, Tryd.ntmps8
  go_wp2_with fail
  rw [HW0.out]
  refine HAN.out.mono ?_
  rintro e W1 ⟨rfl, hb⟩
  clear HAN
  have HB1 : Hid (Below k w W1) := Lib.hid (HB0.out.trans (hb.mono (by rw [HZ0.out]; omega)))
  have HZ1 : Hid (k + 1 ≤ W1.heap.size) := Lib.hid (by have := hb.size; rw [HZ0.out] at this; exact this)
  have HH1 : Hid (W1.heap[k]? = some (.cells #[.int .i64 n, .slice A m c] 24 (0, 0))) := Lib.hid ((hb.block k (by rw [HZ0.out]; omega)).trans HH0.out)
  have hg := HH1.out
  have hc0 : W1.cell? ⟨k, 0, none⟩ = some (.int .i64 n) := by simp [World.cell?, hg]
  have hc1 : W1.cell? ⟨k, 1, none⟩ = some (.slice A m c) := by simp [World.cell?, hg]
  have HPL := Lib.hid (plain_any (c := c) (z := n) (HX.out.below (B := w.heap.size) (by rw [Hk.out]; exact HB1.out)) (by rw [Hk.out]; have := HZ1.out; omega) hm0 true ⟨fun _ => hok, fun _ => rfl⟩)
  clear hb hg
  go_wp2_with fail
  refine HPL.out.mono ?_
  rintro e W2 ⟨rfl, hb⟩
  clear HPL hc0 hc1
  obtain ⟨p2, hp2⟩ : ∃ p2, W2.heap.size = p2 := ⟨_, rfl⟩
  obtain ⟨W3, hW3⟩ : ∃ W3, W2.alloc (.cells #[.int .i64 n, .slice A m c] 26) = W3 := ⟨_, rfl⟩
  have hkp : k < p2 := by rw [← hp2]; exact Nat.lt_of_lt_of_le (show k < W1.heap.size by have := HZ1.out; omega) hb.size
  have HKP := Lib.hid hkp
  have HB3 : Hid (Below k w W3) := Lib.hid (by rw [← hW3]; exact (HB1.out.trans (hb.mono (by have := HZ1.out; omega))).alloc (by omega) _)
  have HZ3 : Hid (p2 + 1 ≤ W3.heap.size) := Lib.hid (by rw [← hW3, World.size_alloc, hp2]; omega)
  have HG3 : Hid (W3.heap[k]? = some (.cells #[.int .i64 n, .slice A m c] 24 (0, 0))) := Lib.hid (by rw [← hW3, Below.heap_alloc _ _ _ (by omega)]; exact (hb.block k (by have := HZ1.out; omega)).trans HH1.out)
  have HP3 : Hid (W3.heap[p2]? = some (.cells #[.int .i64 n, .slice A m c] 26 (0, 0))) := Lib.hid (by rw [← hW3, ← hp2]; exact World.alloc_heap_new _ _)
  have HW3 := Lib.hid hW3
  clear hb hW3 hkp
  have hd : decide ((100 : Int) < (mp : Int)) = true := decide_eq_true (by omega)
  go_wp2
  rw [HW3.out]
  go_ret
  exact ⟨rfl, by rw [Hk.out]; exact HB3.out⟩
set_option maxHeartbeats 8000000 in
theorem law_way_wrong {w : World} {m c mp cp : Nat} {P : Option Addr} {ps : List Int} {n : Int} {A : Option Addr} {es : List (Int × Int)} (hx : RdE w w.heap.size A m es) (hm0 : m ≤ 9223372036854775807) (hm : m ≤ 60) (hr : ¬ GraphR n es) (hmp : mp ≤ 100) (hp : RdZ w w.heap.size P mp ps) (hT : Tz w) (h0 : 0 < w.heap.size) :
    Calls Tryd.prog 8 #[.agg #[.int .i64 n, .slice A m c], .slice P mp cp] w fun e w' => e = .returned (.bool true) ∧ Below w.heap.size w w' := by
  obtain ⟨k, hk⟩ : ∃ k, w.heap.size = k := ⟨_, rfl⟩
  have Hk := Lib.hid hk
  obtain ⟨W0, hW0⟩ : ∃ W0, w.alloc (.cells #[.int .i64 n, .slice A m c] 24) = W0 := ⟨_, rfl⟩
  have hb0 : Below k w W0 := by rw [← hW0, ← hk]; exact (Below.refl _ w).alloc (Nat.le_refl _) _
  have hz0 : W0.heap.size = k + 1 := by rw [← hW0, World.size_alloc, hk]
  have hh0 : W0.heap[k]? = some (.cells #[.int .i64 n, .slice A m c] 24 (0, 0)) := by rw [← hW0, ← hk]; exact World.alloc_heap_new _ _
  have HB0 := Lib.hid hb0
  have HZ0 := Lib.hid hz0
  have HH0 := Lib.hid hh0
  have HX := Lib.hid hx
  have HAN := Lib.hid (anchor_any W0 (hT.below hb0 (by omega)) (by omega))
  have HW0 := Lib.hid hW0
  have HT0 : Hid (Tz w) := Lib.hid hT
  clear hx hT hb0 hz0 hh0 hW0
  go_enter Tryd.func8, Tryd.ntmps8
  go_wp2_with fail
  rw [HW0.out]
  refine HAN.out.mono ?_
  rintro e W1 ⟨rfl, hb⟩
  clear HAN
  have HB1 : Hid (Below k w W1) := Lib.hid (HB0.out.trans (hb.mono (by rw [HZ0.out]; omega)))
  have HZ1 : Hid (k + 1 ≤ W1.heap.size) := Lib.hid (by have := hb.size; rw [HZ0.out] at this; exact this)
  have HH1 : Hid (W1.heap[k]? = some (.cells #[.int .i64 n, .slice A m c] 24 (0, 0))) := Lib.hid ((hb.block k (by rw [HZ0.out]; omega)).trans HH0.out)
  have hg := HH1.out
  have hc0 : W1.cell? ⟨k, 0, none⟩ = some (.int .i64 n) := by simp [World.cell?, hg]
  have hc1 : W1.cell? ⟨k, 1, none⟩ = some (.slice A m c) := by simp [World.cell?, hg]
  have HPL := Lib.hid (plain_any (c := c) (z := n) (HX.out.below (B := w.heap.size) (by rw [Hk.out]; exact HB1.out)) (by rw [Hk.out]; have := HZ1.out; omega) hm0 true ⟨fun _ => ⟨hm, .inr hr⟩, fun _ => rfl⟩)
  clear hb hg
  go_wp2_with fail
  refine HPL.out.mono ?_
  rintro e W2 ⟨rfl, hb⟩
  clear HPL hc0 hc1
  obtain ⟨p2, hp2⟩ : ∃ p2, W2.heap.size = p2 := ⟨_, rfl⟩
  obtain ⟨W3, hW3⟩ : ∃ W3, W2.alloc (.cells #[.int .i64 n, .slice A m c] 26) = W3 := ⟨_, rfl⟩
  have hkp : k < p2 := by rw [← hp2]; exact Nat.lt_of_lt_of_le (show k < W1.heap.size by have := HZ1.out; omega) hb.size
  have HKP := Lib.hid hkp
  have HB3 : Hid (Below k w W3) := Lib.hid (by rw [← hW3]; exact (HB1.out.trans (hb.mono (by have := HZ1.out; omega))).alloc (by omega) _)
  have HZ3 : Hid (p2 + 1 ≤ W3.heap.size) := Lib.hid (by rw [← hW3, World.size_alloc, hp2]; omega)
  have HG3 : Hid (W3.heap[k]? = some (.cells #[.int .i64 n, .slice A m c] 24 (0, 0))) := Lib.hid (by rw [← hW3, Below.heap_alloc _ _ _ (by omega)]; exact (hb.block k (by have := HZ1.out; omega)).trans HH1.out)
  have HP3 : Hid (W3.heap[p2]? = some (.cells #[.int .i64 n, .slice A m c] 26 (0, 0))) := Lib.hid (by rw [← hW3, ← hp2]; exact World.alloc_heap_new _ _)
  have HW3 := Lib.hid hW3
  clear hb hW3 hkp
  have hg := HG3.out
  have g0 : W3.cell? ⟨k, 0, none⟩ = some (.int .i64 n) := by simp [World.cell?, hg]
  have g1 : W3.cell? ⟨k, 1, none⟩ = some (.slice A m c) := by simp [World.cell?, hg]
  clear hg
  have hd : decide ((100 : Int) < (mp : Int)) = false := decide_eq_false (by omega)
  have HDN := Lib.hid (way_bad (c := c) (P := P) (mp := mp) (cp := cp) (HX.out.below (B := w.heap.size) (by rw [Hk.out]; exact HB3.out)) hr hm0 (by rw [Hk.out]; have := HZ3.out; have := HKP.out; omega))
  have hW3 := HW3.out
  rw [← hW3] at g0 g1
  clear hW3
  go_wp2_with fail
  rw [HW3.out]
  refine HDN.out.mono ?_
  rintro e W4 ⟨rfl, hb⟩
  clear HDN g0 g1
  have HB4 : Hid (Below k w W4) := Lib.hid (HB3.out.trans (hb.mono (by have := HZ3.out; have := HKP.out; omega)))
  have HZ4 : Hid (p2 + 1 ≤ W4.heap.size) := Lib.hid (Nat.le_trans HZ3.out hb.size)
  have HG4 : Hid (W4.heap[k]? = some (.cells #[.int .i64 n, .slice A m c] 24 (0, 0))) := Lib.hid ((hb.block k (by have := HZ3.out; have := HKP.out; omega)).trans HG3.out)
  have HP4 : Hid (W4.heap[p2]? = some (.cells #[.int .i64 n, .slice A m c] 26 (0, 0))) := Lib.hid ((hb.block p2 (by have := HZ3.out; omega)).trans HP3.out)
  clear hb
  have hg := HP4.out
  have q0 : W4.cell? ⟨p2, 0, none⟩ = some (.int .i64 n) := by simp [World.cell?, hg]
  have q1 : W4.cell? ⟨p2, 1, none⟩ = some (.slice A m c) := by simp [World.cell?, hg]
  clear hg
  have HRT := Lib.hid (right_no (c := c) (HX.out.below (B := w.heap.size) (by rw [Hk.out]; exact HB4.out)) hr hm0 (by rw [Hk.out]; have := HZ4.out; have := HKP.out; omega))
  go_wp2_with fail
  refine HRT.out.mono ?_
  rintro e W5 ⟨rfl, hb⟩
  clear HRT q0 q1
  have HB5 : Hid (Below k w W5) := Lib.hid (HB4.out.trans (hb.mono (by have := HZ4.out; have := HKP.out; omega)))
  have HZ5 : Hid (p2 + 1 ≤ W5.heap.size) := Lib.hid (Nat.le_trans HZ4.out hb.size)
  have HG5 : Hid (W5.heap[k]? = some (.cells #[.int .i64 n, .slice A m c] 24 (0, 0))) := Lib.hid ((hb.block k (by have := HZ4.out; have := HKP.out; omega)).trans HG4.out)
  have HP5 : Hid (W5.heap[p2]? = some (.cells #[.int .i64 n, .slice A m c] 26 (0, 0))) := Lib.hid ((hb.block p2 (by have := HZ4.out; omega)).trans HP4.out)
  clear hb
  go_wp2
  go_ret
  exact ⟨rfl, by rw [Hk.out]; exact HB5.out⟩
set_option maxHeartbeats 8000000 in
theorem law_way_circ {w : World} {m c mp cp : Nat} {P : Option Addr} {ps : List Int} {N : Nat} {A : Option Addr} {g : List (Nat × Nat)} (hx : RdG w w.heap.size A m g) (hi : InN N g) (hn : N ≤ 10) (hm : m ≤ 60) (hmp : mp ≤ 100) (hG : ¬ Goes (befG g) N N) (hp : RdZ w w.heap.size P mp ps) (hT : Tz w) (h0 : 0 < w.heap.size) :
    Calls Tryd.prog 8 #[.agg #[.int .i64 (N : Int), .slice A m c], .slice P mp cp] w fun e w' => e = .returned (.bool true) ∧ Below w.heap.size w w' := by
  have hr : GraphR (N : Int) (castE g) := graphR_cast hi (show N ≤ 64 by omega) (by rw [hx.len]; omega)
  have hm0 : m ≤ 9223372036854775807 := by omega
  have HI := Lib.hid hi
  obtain ⟨k, hk⟩ : ∃ k, w.heap.size = k := ⟨_, rfl⟩
  have Hk := Lib.hid hk
  obtain ⟨W0, hW0⟩ : ∃ W0, w.alloc (.cells #[.int .i64 (N : Int), .slice A m c] 24) = W0 := ⟨_, rfl⟩
  have hb0 : Below k w W0 := by rw [← hW0, ← hk]; exact (Below.refl _ w).alloc (Nat.le_refl _) _
  have hz0 : W0.heap.size = k + 1 := by rw [← hW0, World.size_alloc, hk]
  have hh0 : W0.heap[k]? = some (.cells #[.int .i64 (N : Int), .slice A m c] 24 (0, 0)) := by rw [← hW0, ← hk]; exact World.alloc_heap_new _ _
  have HB0 := Lib.hid hb0
  have HZ0 := Lib.hid hz0
  have HH0 := Lib.hid hh0
  have HX := Lib.hid hx
  have HAN := Lib.hid (anchor_any W0 (hT.below hb0 (by omega)) (by omega))
  have HW0 := Lib.hid hW0
  have HT0 : Hid (Tz w) := Lib.hid hT
  clear hx hT hb0 hz0 hh0 hW0
  go_enter Tryd.func8, Tryd.ntmps8
  go_wp2_with fail
  rw [HW0.out]
  refine HAN.out.mono ?_
  rintro e W1 ⟨rfl, hb⟩
  clear HAN
  have HB1 : Hid (Below k w W1) := Lib.hid (HB0.out.trans (hb.mono (by rw [HZ0.out]; omega)))
  have HZ1 : Hid (k + 1 ≤ W1.heap.size) := Lib.hid (by have := hb.size; rw [HZ0.out] at this; exact this)
  have HH1 : Hid (W1.heap[k]? = some (.cells #[.int .i64 (N : Int), .slice A m c] 24 (0, 0))) := Lib.hid ((hb.block k (by rw [HZ0.out]; omega)).trans HH0.out)
  have hg := HH1.out
  have hc0 : W1.cell? ⟨k, 0, none⟩ = some (.int .i64 (N : Int)) := by simp [World.cell?, hg]
  have hc1 : W1.cell? ⟨k, 1, none⟩ = some (.slice A m c) := by simp [World.cell?, hg]
  have HPL := Lib.hid (plain_any (c := c) (z := (N : Int)) (HX.out.below (B := w.heap.size) (by rw [Hk.out]; exact HB1.out)) (by rw [Hk.out]; have := HZ1.out; omega) hm0 true ⟨fun _ => ⟨hm, .inl (by omega)⟩, fun _ => rfl⟩)
  clear hb hg
  go_wp2_with fail
  refine HPL.out.mono ?_
  rintro e W2 ⟨rfl, hb⟩
  clear HPL hc0 hc1
  obtain ⟨p2, hp2⟩ : ∃ p2, W2.heap.size = p2 := ⟨_, rfl⟩
  obtain ⟨W3, hW3⟩ : ∃ W3, W2.alloc (.cells #[.int .i64 (N : Int), .slice A m c] 26) = W3 := ⟨_, rfl⟩
  have hkp : k < p2 := by rw [← hp2]; exact Nat.lt_of_lt_of_le (show k < W1.heap.size by have := HZ1.out; omega) hb.size
  have HKP := Lib.hid hkp
  have HB3 : Hid (Below k w W3) := Lib.hid (by rw [← hW3]; exact (HB1.out.trans (hb.mono (by have := HZ1.out; omega))).alloc (by omega) _)
  have HZ3 : Hid (p2 + 1 ≤ W3.heap.size) := Lib.hid (by rw [← hW3, World.size_alloc, hp2]; omega)
  have HG3 : Hid (W3.heap[k]? = some (.cells #[.int .i64 (N : Int), .slice A m c] 24 (0, 0))) := Lib.hid (by rw [← hW3, Below.heap_alloc _ _ _ (by omega)]; exact (hb.block k (by have := HZ1.out; omega)).trans HH1.out)
  have HP3 : Hid (W3.heap[p2]? = some (.cells #[.int .i64 (N : Int), .slice A m c] 26 (0, 0))) := Lib.hid (by rw [← hW3, ← hp2]; exact World.alloc_heap_new _ _)
  have HW3 := Lib.hid hW3
  clear hb hW3 hkp
  have hg := HG3.out
  have g0 : W3.cell? ⟨k, 0, none⟩ = some (.int .i64 (N : Int)) := by simp [World.cell?, hg]
  have g1 : W3.cell? ⟨k, 1, none⟩ = some (.slice A m c) := by simp [World.cell?, hg]
  clear hg
  have hd : decide ((100 : Int) < (mp : Int)) = false := decide_eq_false (by omega)
  have HDN := Lib.hid (way_no (c := c) (P := P) (mp := mp) (cp := cp) (HX.out.below (B := w.heap.size) (by rw [Hk.out]; exact HB3.out)) hi (show N ≤ 64 by omega) (show m ≤ 4096 by omega) (by rw [Hk.out]; have := HZ3.out; have := HKP.out; omega) hG)
  have hW3 := HW3.out
  rw [← hW3] at g0 g1
  clear hW3
  go_wp2_with fail
  rw [HW3.out]
  refine HDN.out.mono ?_
  rintro e W4 ⟨rfl, hb⟩
  clear HDN g0 g1
  have HB4 : Hid (Below k w W4) := Lib.hid (HB3.out.trans (hb.mono (by have := HZ3.out; have := HKP.out; omega)))
  have HZ4 : Hid (p2 + 1 ≤ W4.heap.size) := Lib.hid (Nat.le_trans HZ3.out hb.size)
  have HG4 : Hid (W4.heap[k]? = some (.cells #[.int .i64 (N : Int), .slice A m c] 24 (0, 0))) := Lib.hid ((hb.block k (by have := HZ3.out; have := HKP.out; omega)).trans HG3.out)
  have HP4 : Hid (W4.heap[p2]? = some (.cells #[.int .i64 (N : Int), .slice A m c] 26 (0, 0))) := Lib.hid ((hb.block p2 (by have := HZ3.out; omega)).trans HP3.out)
  clear hb
  have hg := HP4.out
  have q0 : W4.cell? ⟨p2, 0, none⟩ = some (.int .i64 (N : Int)) := by simp [World.cell?, hg]
  have q1 : W4.cell? ⟨p2, 1, none⟩ = some (.slice A m c) := by simp [World.cell?, hg]
  clear hg
  have HRT := Lib.hid (right_yes (c := c) (HX.out.below (B := w.heap.size) (by rw [Hk.out]; exact HB4.out)) hr (by rw [Hk.out]; have := HZ4.out; have := HKP.out; omega))
  go_wp2_with fail
  refine HRT.out.mono ?_
  rintro e W5 ⟨rfl, hb⟩
  clear HRT q0 q1
  have HW45 := Lib.hid hb
  have HB5 : Hid (Below k w W5) := Lib.hid (HB4.out.trans (hb.mono (by have := HZ4.out; have := HKP.out; omega)))
  have HZ5 : Hid (p2 + 1 ≤ W5.heap.size) := Lib.hid (Nat.le_trans HZ4.out hb.size)
  have HG5 : Hid (W5.heap[k]? = some (.cells #[.int .i64 (N : Int), .slice A m c] 24 (0, 0))) := Lib.hid ((hb.block k (by have := HZ4.out; have := HKP.out; omega)).trans HG4.out)
  have HP5 : Hid (W5.heap[p2]? = some (.cells #[.int .i64 (N : Int), .slice A m c] 26 (0, 0))) := Lib.hid ((hb.block p2 (by have := HZ4.out; omega)).trans HP4.out)
  clear hb
  have hg := HP5.out
  have q0 : W5.cell? ⟨p2, 0, none⟩ = some (.int .i64 (N : Int)) := by simp [World.cell?, hg]
  have q1 : W5.cell? ⟨p2, 1, none⟩ = some (.slice A m c) := by simp [World.cell?, hg]
  clear hg
  have HCI := Lib.hid (circle_any (c := c) (HX.out.below (B := w.heap.size) (by rw [Hk.out]; exact HB5.out)) HI.out (show N ≤ 64 by omega) (show m ≤ 4096 by omega) (by rw [Hk.out]; have := HZ5.out; have := HKP.out; omega) true ⟨fun _ => hG, fun _ => rfl⟩)
  go_wp2_with fail
  refine HCI.out.mono ?_
  rintro e W6 ⟨rfl, hb⟩
  clear HCI q0 q1
  have HW56 := Lib.hid hb
  have HB6 : Hid (Below k w W6) := Lib.hid (HB5.out.trans (hb.mono (by have := HZ5.out; have := HKP.out; omega)))
  have HZ6 : Hid (p2 + 1 ≤ W6.heap.size) := Lib.hid (Nat.le_trans HZ5.out hb.size)
  have HG6 : Hid (W6.heap[k]? = some (.cells #[.int .i64 (N : Int), .slice A m c] 24 (0, 0))) := Lib.hid ((hb.block k (by have := HZ5.out; have := HKP.out; omega)).trans HG5.out)
  have HP6 : Hid (W6.heap[p2]? = some (.cells #[.int .i64 (N : Int), .slice A m c] 26 (0, 0))) := Lib.hid ((hb.block p2 (by have := HZ5.out; omega)).trans HP5.out)
  clear hb
  go_wp2
  go_ret
  exact ⟨rfl, by rw [Hk.out]; exact HB6.out⟩
set_option maxHeartbeats 8000000 in
theorem law_way_go {w : World} {m c mp cp : Nat} {P : Option Addr} {ps : List Int} {N : Nat} {A : Option Addr} {g : List (Nat × Nat)} (hx : RdG w w.heap.size A m g) (hi : InN N g) (hn : N ≤ 10) (hm : m ≤ 60) (hmp : mp ≤ 100) (hG : Goes (befG g) N N) (hp : RdZ w w.heap.size P mp ps) (hT : Tz w) (h0 : 0 < w.heap.size) :
    Calls Tryd.prog 8 #[.agg #[.int .i64 (N : Int), .slice A m c], .slice P mp cp] w fun e w' => e = .returned (.bool true) ∧ Below w.heap.size w w' := by
  have hr : GraphR (N : Int) (castE g) := graphR_cast hi (show N ≤ 64 by omega) (by rw [hx.len]; omega)
  have hm0 : m ≤ 9223372036854775807 := by omega
  have HI := Lib.hid hi
  have HPZ := Lib.hid hp
  have HG := Lib.hid hG
  have HWS := Lib.hid (fun k hk => wayS_ok hi (show N ≤ 64 by omega) hG ps k hk)
  obtain ⟨k, hk⟩ : ∃ k, w.heap.size = k := ⟨_, rfl⟩
  have Hk := Lib.hid hk
  obtain ⟨W0, hW0⟩ : ∃ W0, w.alloc (.cells #[.int .i64 (N : Int), .slice A m c] 24) = W0 := ⟨_, rfl⟩
  have hb0 : Below k w W0 := by rw [← hW0, ← hk]; exact (Below.refl _ w).alloc (Nat.le_refl _) _
  have hz0 : W0.heap.size = k + 1 := by rw [← hW0, World.size_alloc, hk]
  have hh0 : W0.heap[k]? = some (.cells #[.int .i64 (N : Int), .slice A m c] 24 (0, 0)) := by rw [← hW0, ← hk]; exact World.alloc_heap_new _ _
  have HB0 := Lib.hid hb0
  have HZ0 := Lib.hid hz0
  have HH0 := Lib.hid hh0
  have HX := Lib.hid hx
  have HAN := Lib.hid (anchor_any W0 (hT.below hb0 (by omega)) (by omega))
  have HW0 := Lib.hid hW0
  have HT0 : Hid (Tz w) := Lib.hid hT
  clear hx hT hb0 hz0 hh0 hW0
  go_enter Tryd.func8, Tryd.ntmps8
  go_wp2_with fail
  rw [HW0.out]
  refine HAN.out.mono ?_
  rintro e W1 ⟨rfl, hb⟩
  clear HAN
  have HB1 : Hid (Below k w W1) := Lib.hid (HB0.out.trans (hb.mono (by rw [HZ0.out]; omega)))
  have HZ1 : Hid (k + 1 ≤ W1.heap.size) := Lib.hid (by have := hb.size; rw [HZ0.out] at this; exact this)
  have HH1 : Hid (W1.heap[k]? = some (.cells #[.int .i64 (N : Int), .slice A m c] 24 (0, 0))) := Lib.hid ((hb.block k (by rw [HZ0.out]; omega)).trans HH0.out)
  have hg := HH1.out
  have hc0 : W1.cell? ⟨k, 0, none⟩ = some (.int .i64 (N : Int)) := by simp [World.cell?, hg]
  have hc1 : W1.cell? ⟨k, 1, none⟩ = some (.slice A m c) := by simp [World.cell?, hg]
  have HPL := Lib.hid (plain_any (c := c) (z := (N : Int)) (HX.out.below (B := w.heap.size) (by rw [Hk.out]; exact HB1.out)) (by rw [Hk.out]; have := HZ1.out; omega) hm0 true ⟨fun _ => ⟨hm, .inl (by omega)⟩, fun _ => rfl⟩)
  clear hb hg
  go_wp2_with fail
  refine HPL.out.mono ?_
  rintro e W2 ⟨rfl, hb⟩
  clear HPL hc0 hc1
  obtain ⟨p2, hp2⟩ : ∃ p2, W2.heap.size = p2 := ⟨_, rfl⟩
  obtain ⟨W3, hW3⟩ : ∃ W3, W2.alloc (.cells #[.int .i64 (N : Int), .slice A m c] 26) = W3 := ⟨_, rfl⟩
  have hkp : k < p2 := by rw [← hp2]; exact Nat.lt_of_lt_of_le (show k < W1.heap.size by have := HZ1.out; omega) hb.size
  have HKP := Lib.hid hkp
  have HB3 : Hid (Below k w W3) := Lib.hid (by rw [← hW3]; exact (HB1.out.trans (hb.mono (by have := HZ1.out; omega))).alloc (by omega) _)
  have HZ3 : Hid (p2 + 1 ≤ W3.heap.size) := Lib.hid (by rw [← hW3, World.size_alloc, hp2]; omega)
  have HG3 : Hid (W3.heap[k]? = some (.cells #[.int .i64 (N : Int), .slice A m c] 24 (0, 0))) := Lib.hid (by rw [← hW3, Below.heap_alloc _ _ _ (by omega)]; exact (hb.block k (by have := HZ1.out; omega)).trans HH1.out)
  have HP3 : Hid (W3.heap[p2]? = some (.cells #[.int .i64 (N : Int), .slice A m c] 26 (0, 0))) := Lib.hid (by rw [← hW3, ← hp2]; exact World.alloc_heap_new _ _)
  have HW3 := Lib.hid hW3
  clear hb hW3 hkp
  have hg := HG3.out
  have g0 : W3.cell? ⟨k, 0, none⟩ = some (.int .i64 (N : Int)) := by simp [World.cell?, hg]
  have g1 : W3.cell? ⟨k, 1, none⟩ = some (.slice A m c) := by simp [World.cell?, hg]
  clear hg
  have hd : decide ((100 : Int) < (mp : Int)) = false := decide_eq_false (by omega)
  have HDN := Lib.hid (way_any (c := c) (P := P) (mp := mp) (cp := cp) (ps := ps) (HX.out.below (B := w.heap.size) (by rw [Hk.out]; exact HB3.out)) hi (show N ≤ 64 by omega) (show m ≤ 4096 by omega) (by rw [Hk.out]; have := HZ3.out; have := HKP.out; omega) hG (hp.1.below (B := w.heap.size) (by rw [Hk.out]; exact HB3.out)) hp.2.1 hp.2.2 (HT0.out.below (B := k) HB3.out (by rw [← Hk.out]; exact h0)) (by have := HZ3.out; omega))
  have hW3 := HW3.out
  rw [← hW3] at g0 g1
  clear hW3 hi hG hp
  go_wp2_with fail
  rw [HW3.out]
  refine HDN.out.mono ?_
  rintro e W4 ⟨v4, rfl, hown, hb⟩
  obtain ⟨Aw, cw, rfl, hrdw⟩ := hown.shape
  have HRW := Lib.hid hrdw
  clear HDN g0 g1 hown hrdw
  have HB4 : Hid (Below k w W4) := Lib.hid (HB3.out.trans (hb.mono (by have := HZ3.out; have := HKP.out; omega)))
  have HZ4 : Hid (p2 + 1 ≤ W4.heap.size) := Lib.hid (Nat.le_trans HZ3.out hb.size)
  have HG4 : Hid (W4.heap[k]? = some (.cells #[.int .i64 (N : Int), .slice A m c] 24 (0, 0))) := Lib.hid ((hb.block k (by have := HZ3.out; have := HKP.out; omega)).trans HG3.out)
  have HP4 : Hid (W4.heap[p2]? = some (.cells #[.int .i64 (N : Int), .slice A m c] 26 (0, 0))) := Lib.hid ((hb.block p2 (by have := HZ3.out; omega)).trans HP3.out)
  clear hb
  have hg := HP4.out
  have q0 : W4.cell? ⟨p2, 0, none⟩ = some (.int .i64 (N : Int)) := by simp [World.cell?, hg]
  have q1 : W4.cell? ⟨p2, 1, none⟩ = some (.slice A m c) := by simp [World.cell?, hg]
  clear hg
  have HRT := Lib.hid (right_yes (c := c) (HX.out.below (B := w.heap.size) (by rw [Hk.out]; exact HB4.out)) hr (by rw [Hk.out]; have := HZ4.out; have := HKP.out; omega))
  go_wp2_with fail
  refine HRT.out.mono ?_
  rintro e W5 ⟨rfl, hb⟩
  clear HRT q0 q1
  have HW45 := Lib.hid hb
  have HB5 : Hid (Below k w W5) := Lib.hid (HB4.out.trans (hb.mono (by have := HZ4.out; have := HKP.out; omega)))
  have HZ5 : Hid (p2 + 1 ≤ W5.heap.size) := Lib.hid (Nat.le_trans HZ4.out hb.size)
  have HG5 : Hid (W5.heap[k]? = some (.cells #[.int .i64 (N : Int), .slice A m c] 24 (0, 0))) := Lib.hid ((hb.block k (by have := HZ4.out; have := HKP.out; omega)).trans HG4.out)
  have HP5 : Hid (W5.heap[p2]? = some (.cells #[.int .i64 (N : Int), .slice A m c] 26 (0, 0))) := Lib.hid ((hb.block p2 (by have := HZ4.out; omega)).trans HP4.out)
  clear hb
  have hg := HP5.out
  have q0 : W5.cell? ⟨p2, 0, none⟩ = some (.int .i64 (N : Int)) := by simp [World.cell?, hg]
  have q1 : W5.cell? ⟨p2, 1, none⟩ = some (.slice A m c) := by simp [World.cell?, hg]
  clear hg
  have HCI := Lib.hid (circle_any (c := c) (HX.out.below (B := w.heap.size) (by rw [Hk.out]; exact HB5.out)) HI.out (show N ≤ 64 by omega) (show m ≤ 4096 by omega) (by rw [Hk.out]; have := HZ5.out; have := HKP.out; omega) false ⟨nofun, fun h => (h HG.out).elim⟩)
  go_wp2_with fail
  refine HCI.out.mono ?_
  rintro e W6 ⟨rfl, hb⟩
  clear HCI q0 q1
  have HW56 := Lib.hid hb
  have HB6 : Hid (Below k w W6) := Lib.hid (HB5.out.trans (hb.mono (by have := HZ5.out; have := HKP.out; omega)))
  have HZ6 : Hid (p2 + 1 ≤ W6.heap.size) := Lib.hid (Nat.le_trans HZ5.out hb.size)
  have HG6 : Hid (W6.heap[k]? = some (.cells #[.int .i64 (N : Int), .slice A m c] 24 (0, 0))) := Lib.hid ((hb.block k (by have := HZ5.out; have := HKP.out; omega)).trans HG5.out)
  have HP6 : Hid (W6.heap[p2]? = some (.cells #[.int .i64 (N : Int), .slice A m c] 26 (0, 0))) := Lib.hid ((hb.block p2 (by have := HZ5.out; omega)).trans HP5.out)
  clear hb
  have HB46 : Hid (Below W4.heap.size W4 W6) := Lib.hid (by
    have h1 := HW45.out
    exact h1.trans (HW56.out.mono h1.size))
  have HRW6 : Hid (Rd W6 W4.heap.size Aw N (ints (wayS g N ps N).2)) := Lib.hid (HRW.out.below HB46.out)
  have hg := HG6.out
  have g0 : W6.cell? ⟨k, 0, none⟩ = some (.int .i64 (N : Int)) := by simp [World.cell?, hg]
  have hnn : ((N : Int) != (N : Int)) = false := by simp
  have HS46 : Hid (W4.heap.size ≤ W6.heap.size) := Lib.hid HB46.out.size
  clear hg
  go_wp2_with fail
  clear g0 hnn hd HG5 HP5 HG4 HP4 HG3 HP3 HH1 HH0 HB3 HB4 HB1 HB0 HZ5 HZ4 HZ3 HZ1 HZ0 HW3 HW0
  obtain ⟨p6, hp6⟩ : ∃ p6, W6.heap.size = p6 := ⟨_, rfl⟩
  have Hp6 := Lib.hid hp6
  have HKP6 : Hid (k < p6 ∧ p2 < p6 ∧ W4.heap.size ≤ p6) := Lib.hid (by have := HZ6.out; have := HKP.out; have := HS46.out; omega)
  go_loopw [9, 60] (fun dd ii wr => ∃ x : Nat, x ≤ N ∧ ii = .int .i64 (x : Int) ∧ dd = .int .u64 (((wayS g N ps x).1 : Nat) : Int) ∧ Hid (Below p6 W6 wr)) (fun _ ii _ => N - (intOf ii).toNat)
  case atStart => exact ⟨0, by omega, rfl, rfl, Lib.hid (Below.refl _ _)⟩
  case round =>
    obtain ⟨x, hx, rfl, rfl, HR⟩ := hrel
    obtain ⟨wo, hwo⟩ : ∃ wo, wo = wr := ⟨_, rfl⟩
    subst hwo
    have HBR : Hid (Below k w wo) := Lib.hid (HB6.out.trans (HR.out.mono (by have := HKP6.out; omega)))
    by_cases hlt : x < N
    · have hdk : decide ((x : Int) < (N : Int)) = true := decide_eq_true (by omega)
      obtain ⟨d, hd⟩ : ∃ d, (wayS g N ps x).1 = d := ⟨_, rfl⟩
      obtain ⟨L, hL⟩ : ∃ L, nxtL g N d = L := ⟨_, rfl⟩
      have hwi : WayI g N x d (wayS g N ps x).2 := by rw [← hd]; exact HWS.out x hx
      have HWI := Lib.hid hwi
      have HLN : Hid (L ≠ []) := Lib.hid (by rw [← hL]; exact hwi.some HI.out (show N ≤ 64 by omega) HG.out hlt)
      have HL1 : Hid (1 ≤ L.length) := Lib.hid (List.length_pos_iff.2 HLN.out)
      have HL2 : Hid (L.length ≤ 64) := Lib.hid (by rw [← hL]; exact nxtL_len)
      obtain ⟨v, hv⟩ : ∃ v, nxt g N d (ix ps x) = v := ⟨_, rfl⟩
      have HVL : Hid (L.getD (plc L.length (ix ps x)) 0 = v) := Lib.hid (by rw [← hv, ← hL]; rfl)
      have HVN : Hid (v < N) := Lib.hid (by rw [← hv]; exact ((nxtL_mem (show N ≤ 64 by omega)).1 (nxt_mem (by rw [hL]; exact HLN.out) _)).1)
      have HS1 : Hid ((wayS g N ps (x + 1)).1 = add d v) := Lib.hid (by rw [← hv, ← hd]; rfl)
      have HCD : Hid (closedB g d = true) := Lib.hid ((closedB_iff g d).2 hwi.cl)
      have HAV : Hid ((List.range N).filter (fun i => rdy (befG g) d i) = L) := Lib.hid ((avl_all (show N ≤ 64 by omega)).trans hL)
      obtain ⟨bw, ow, hAw, hbw, hcw⟩ := HRW6.out.at_ hlt
      have HBW : Hid (Aw = some ⟨bw, ow, none⟩) := Lib.hid hAw
      have hxv : ix (ints (wayS g N ps N).2) x = (v : Int) := by
        rw [ix_mints]
        have h := wayS_get (g := g) (n := N) (ps := ps) hlt (fun i hi => (HWS.out i hi).len)
        rw [hd, hv] at h
        rw [List.getD_eq_getElem?_getD, h]; rfl
      rw [hxv] at hcw
      have hcx := (HR.out.cell (p := ⟨bw, ow + x, none⟩) (show bw < p6 by have := HKP6.out; omega)).trans hcw
      have hds : (((wayS g N ps x).1 : Nat) : Int) = (d : Int) := by rw [hd]
      rw [hd]
      subst hAw
      clear hd hL hv hwi hxv hcw hbw hds
      go_wp2_with fail
      clear hcx hdk
      obtain ⟨pB, hpB⟩ : ∃ pB, wo.heap.size = pB := ⟨_, rfl⟩
      have HpB := Lib.hid hpB
      have HPB6 : Hid (p6 ≤ pB) := Lib.hid (by rw [← hpB, ← Hp6.out]; exact HR.out.size)
      go_hide hQ
      go_loopw [12, 13] (fun a ii wr => ∃ (y : Nat) (Aa : Option Addr) (ca : Nat), y ≤ N ∧ ii = .int .i64 (y : Int) ∧ a = .slice Aa (avl g d y).length ca ∧ Hid (Own wr pB (.slice Aa (avl g d y).length ca) (avl g d y).length (ints (avl g d y))) ∧ Hid (Below pB wo wr)) (fun _ ii _ => N - (intOf ii).toNat)
      case atStart => exact ⟨0, none, 0, by omega, rfl, rfl, Lib.hid (Own.nil_ _ _), Lib.hid (Below.refl _ _)⟩
      case round =>
        obtain ⟨y, Aa, ca, hy, rfl, rfl, HO, HU⟩ := hrel
        have HBU : Hid (Below k w wr) := Lib.hid (HBR.out.trans (HU.out.mono (by have := HKP6.out; have := HPB6.out; omega)))
        have hg := (HU.out.block k (by have := HKP6.out; have := HPB6.out; omega)).trans ((HR.out.block k (by have := HKP6.out; omega)).trans HG6.out)
        have g0 : wr.cell? ⟨k, 0, none⟩ = some (.int .i64 (N : Int)) := by simp [World.cell?, hg]
        clear hg
        have hg := (HU.out.block p2 (by have := HKP6.out; have := HPB6.out; omega)).trans ((HR.out.block p2 (by have := HKP6.out; omega)).trans HP6.out)
        have q0 : wr.cell? ⟨p2, 0, none⟩ = some (.int .i64 (N : Int)) := by simp [World.cell?, hg]
        have q1 : wr.cell? ⟨p2, 1, none⟩ = some (.slice A m c) := by simp [World.cell?, hg]
        clear hg
        have HPW : Hid (pB ≤ wr.heap.size) := Lib.hid (by rw [← HpB.out]; exact HU.out.size)
        by_cases hly : y < N
        · have hdy : decide ((y : Int) < (N : Int)) = true := decide_eq_true (by omega)
          have HRY := Lib.hid (refReady_any (w := wr) (c := c) (s := d) (v := y) (HX.out.below (B := w.heap.size) (by rw [Hk.out]; exact HBU.out)) HI.out (show N ≤ 64 by omega) (show m ≤ 4096 by omega) (by have := HBU.out.size; have := Hk.out; omega) HWI.out.ins.1 (show y < 64 by omega))
          obtain ⟨l0, hl0⟩ : ∃ l0, avl g d y = l0 := ⟨_, rfl⟩
          have HSU := Lib.hid (avl_succ g d y)
          have HL0 : Hid (l0.length ≤ 64) := Lib.hid (by rw [← hl0]; have := List.length_filter_le (fun i => rdy (befG g) d i) (List.range y); rw [List.length_range] at this; unfold avl; omega)
          rw [hl0] at HO HSU ⊢
          clear hl0
          go_wp2_with fail
          refine HRY.out.mono ?_
          rintro e w3 ⟨rfl, hb⟩
          have HB3 : Hid (Below wr.heap.size wr w3) := Lib.hid hb
          clear HRY hb g0 q0 q1
          have HU3 : Hid (Below pB wo w3) := Lib.hid (HU.out.trans (HB3.out.mono HPW.out))
          have HO3 : Hid (Own w3 pB (.slice Aa l0.length ca) l0.length (ints l0)) := Lib.hid (HO.out.kept HB3.out)
          cases hrd : rdy (befG g) d y with
          | false =>
            rw [hrd] at HSU
            have HS2 : Hid (avl g d (y + 1) = l0) := HSU
            go_wp2
            go_roundw
            case rel => exact ⟨y + 1, Aa, ca, by omega, by go_num, by rw [HS2.out], Lib.hid (by rw [HS2.out]; exact HO3.out), HU3⟩
            case measure => simp [intOf]; omega
          | true =>
            rw [hrd] at HSU
            have HS2 : Hid (avl g d (y + 1) = l0 ++ [y]) := HSU
            have HS3 : Hid (ints (l0 ++ [y]) = ints l0 ++ [(y : Int)]) := Lib.hid (ints_snoc _ _)
            have hll : l0.length ≤ 64 := HL0.out
            go_wp2_with (at_builtin; refine wpl_app rfl (.tmp 75) (.tmp 77) rfl pB (.slice Aa l0.length ca) l0.length (ints l0) rfl (HO3.out.alloc _) w3.heap.size (y : Int) rfl (by simp) (by omega) (by have := HB3.out.size; have := HPW.out; simp; omega) ?_; intro g' c' w6 hown6 hbg6 hgr6 hwh6; (have HO6 := Lib.hid hown6); (have HR6 : Hid (Below pB wo w6) := Lib.hid ((HU3.out.alloc (by have := HB3.out.size; have := HPW.out; omega) _).grown hgr6 (by have := HB3.out.size; have := HPW.out; simp; omega) (fun x hx => HO3.out.ge x hx))); clear hown6 hbg6 hgr6 hwh6)
            go_roundw
            case rel => exact ⟨y + 1, _, _, by omega, by go_num, by rw [HS2.out, List.length_append]; rfl, Lib.hid (by rw [HS2.out, HS3.out, List.length_append]; exact HO6.out), HR6⟩
            case measure => simp [intOf]; omega
        · subst hQ
          have hdy : decide ((y : Int) < (N : Int)) = false := decide_eq_false (by omega)
          obtain rfl : y = N := by omega
          have hal : avl g d y = L := HAV.out
          rw [hal] at HO ⊢
          clear hal
          have HRC := Lib.hid (refClosed_any (w := wr) (c := c) (s := d) (HX.out.below (B := w.heap.size) (by rw [Hk.out]; exact HBU.out)) HI.out (show y ≤ 64 by omega) (show m ≤ 4096 by omega) (by have := HBU.out.size; have := Hk.out; omega) HWI.out.ins.1)
          rw [HCD.out] at HRC
          obtain ⟨ga, ca', hsa, hga1, hga2⟩ := HO.out.form (by have := HL1.out; omega)
          injection hsa with ha1 ha2 ha3
          subst ha1
          have HCA : Hid (∀ p, L.getD (plc L.length p) 0 = v → wr.cell? ⟨ga, plc L.length p, none⟩ = some (.int .i64 (v : Int))) := Lib.hid (fun p hp => by
            have h := Own.cell HO.out (j := plc L.length p) (plc_lt (by have := HL1.out; omega) _)
            rw [h, ix_mints, hp])
          have ho : bits BinOp.or IntKind.u64 (d : Int) (IntKind.u64.wrap (2 ^ v)) = ((add d v : Nat) : Int) := or_spell2 HWI.out.ins.1 (by have := HVN.out; omega)
          have hv0 : (0 : Int) ≤ (v : Int) := by omega
          have hv1 : (v : Int) < 64 := by have := HVN.out; omega
          have hvv : ((v : Int) != (v : Int)) = false := by simp
          have HR9 : Hid (Below p6 W6 wr) := Lib.hid (HR.out.trans (HU.out.mono HPB6.out))
          clear hga1 hga2
          by_cases hxp : x < mp
          · have hdp : decide ((x : Int) < (mp : Int)) = true := decide_eq_true (by omega)
            obtain ⟨bp, op, hPe, hbp, hcp⟩ := (HPZ.out.1.below (B := w.heap.size) (by rw [Hk.out]; exact HBU.out)).at_ hxp
            have HPe := Lib.hid hPe
            obtain ⟨pk, hpk⟩ : ∃ pk, ix ps x = pk := ⟨_, rfl⟩
            rw [hpk] at HVL hcp
            subst hPe
            have hcv := HCA.out pk HVL.out
            obtain ⟨pl, hpl⟩ : ∃ pl, plc L.length pk = pl := ⟨_, rfl⟩
            have hpll : pl < L.length := by rw [← hpl]; exact plc_lt (by have := HL1.out; omega) _
            have hp1 : ((pl : Nat) : Int) < (L.length : Int) := by omega
            have hp0 : (0 : Int) ≤ ((pl : Nat) : Int) := by omega
            have hl0 : ¬ L.length = 0 := by have := HL1.out; omega
            have HPLL : Hid (pl < 64) := Lib.hid (by have := HL2.out; omega)
            rw [hpl] at hcv
            rcases tmod_plc (n := L.length) HL1.out pk with ht | ht
            · rw [hpl] at ht
              have hng : IntKind.i64.wrap (-((pl : Nat) : Int)) = -((pl : Nat) : Int) := IntWalk.i64_in _ (by have := HPLL.out; omega)
              have hwr : IntKind.i64.wrap ((pl : Nat) : Int) = ((pl : Nat) : Int) := IntWalk.i64_in _ (by have := HPLL.out; omega)
              have hmx : max ((pl : Nat) : Int) (-((pl : Nat) : Int)) = ((pl : Nat) : Int) := by omega
              clear hpk hpl hpll hbp
              go_wp2_with fail
              refine HRC.out.mono ?_
              rintro e w9 ⟨rfl, hb⟩
              have HR10 : Hid (Below p6 W6 w9) := Lib.hid (HR9.out.trans (hb.mono (by have := HPW.out; have := HPB6.out; omega)))
              clear HRC hb
              go_wp2
              go_roundw
              case rel => exact ⟨x + 1, by omega, by go_num, by rw [HS1.out], HR10⟩
              case measure => simp [intOf]; omega
            · rw [hpl] at ht
              have hng : IntKind.i64.wrap (-((pl : Nat) : Int)) = -((pl : Nat) : Int) := IntWalk.i64_in _ (by have := HPLL.out; omega)
              have hwr : IntKind.i64.wrap ((pl : Nat) : Int) = ((pl : Nat) : Int) := IntWalk.i64_in _ (by have := HPLL.out; omega)
              have hmx : max (-((pl : Nat) : Int)) ((pl : Nat) : Int) = ((pl : Nat) : Int) := by omega
              clear hpk hpl hpll hbp
              go_wp2_with fail
              refine HRC.out.mono ?_
              rintro e w9 ⟨rfl, hb⟩
              have HR10 : Hid (Below p6 W6 w9) := Lib.hid (HR9.out.trans (hb.mono (by have := HPW.out; have := HPB6.out; omega)))
              clear HRC hb
              go_wp2
              go_roundw
              case rel => exact ⟨x + 1, by omega, by go_num, by rw [HS1.out], HR10⟩
              case measure => simp [intOf]; omega
          · have hdp : decide ((x : Int) < (mp : Int)) = false := decide_eq_false (by omega)
            rw [ix_past (by rw [HPZ.out.1.len]; omega)] at HVL
            have hcv := HCA.out 0 HVL.out
            rw [show plc L.length 0 = 0 from Nat.zero_mod _] at hcv
            have hp1 : (0 : Int) < (L.length : Int) := by have := HL1.out; omega
            have hp2' : 0 < L.length := HL1.out
            go_wp2_with fail
            refine HRC.out.mono ?_
            rintro e w9 ⟨rfl, hb⟩
            have HR10 : Hid (Below p6 W6 w9) := Lib.hid (HR9.out.trans (hb.mono (by have := HPW.out; have := HPB6.out; omega)))
            clear HRC hb
            go_wp2
            go_roundw
            case rel => exact ⟨x + 1, by omega, by go_num, by rw [HS1.out], HR10⟩
            case measure => simp [intOf]; omega
    · have hdk : decide ((x : Int) < (N : Int)) = false := decide_eq_false (by omega)
      go_wp2
      go_ret
      exact ⟨rfl, by rw [Hk.out]; exact HBR.out⟩
theorem law_way {w : World} {m c mp cp : Nat} {P : Option Addr} {ps : List Int} {n : Int} {A : Option Addr} {es : List (Int × Int)} (hx : RdE w w.heap.size A m es) (hm0 : m ≤ 9223372036854775807) (hp : RdZ w w.heap.size P mp ps) (hT : Tz w) (h0 : 0 < w.heap.size) :
    Calls Tryd.prog 8 #[.agg #[.int .i64 n, .slice A m c], .slice P mp cp] w fun e w' => e = .returned (.bool true) ∧ Below w.heap.size w w' := by
  by_cases hok : m ≤ 60 ∧ (n ≤ 10 ∨ ¬ GraphR n es)
  · by_cases hmp : mp ≤ 100
    · by_cases hr : GraphR n es
      · have hn : n ≤ 10 := hok.2.elim id (fun h => (h hr).elim)
        obtain ⟨N, g, rfl, rfl, hi, _, _⟩ := graph_nat hr
        by_cases hG : Goes (befG g) N N
        · exact law_way_go hx hi (by omega) hok.1 hmp hG hp hT h0
        · exact law_way_circ hx hi (by omega) hok.1 hmp hG hp hT h0
      · exact law_way_wrong hx hm0 hok.1 hr hmp hp hT h0
    · exact law_way_long hx hm0 hok (by omega) hp hT h0
  · exact law_way_skip hx hm0 hok hp hT h0
end Go.Proofs.YtfcabdgidlnljaaDoor
