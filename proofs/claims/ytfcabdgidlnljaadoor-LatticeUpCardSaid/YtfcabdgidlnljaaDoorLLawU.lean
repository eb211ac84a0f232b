/-
  THE WALK of the statement LatticeUp (printed by genlawlu.py): whatever the graph, the set and the nodes, the call returns true and writes nothing that was there.
-/
import Derived.Test.YtfcabdgidlnljaaDoorLTurn
namespace Go.Proofs.YtfcabdgidlnljaaDoor
open Go.RowKit
open DiP
set_option linter.unusedVariables false
set_option linter.unusedSimpArgs false
set_option maxRecDepth 100000
set_option maxHeartbeats 4000000 in
theorem law_up_skip {w : World} {m c : Nat} {n a i j : Int} {A : Option Addr} {es : List (Int × Int)} (hx : RdE w w.heap.size A m es) (hm0 : m ≤ 9223372036854775807) (hok : ¬ (m ≤ 60 ∧ (n ≤ 10 ∨ ¬ GraphR n es))) (hT : Tz w) (h0 : 0 < w.heap.size) :
    Calls Tryd.prog 6 #[.agg #[.int .i64 n, .slice A m c], .int .u64 a, .int .i64 i, .int .i64 j] w fun e w' => e = .returned (.bool true) ∧ Below w.heap.size w w' := by
  obtain ⟨k, hk⟩ : ∃ k, w.heap.size = k := ⟨_, rfl⟩
  have Hk := Lib.hid hk
  obtain ⟨W0, hW0⟩ : ∃ W0, w.alloc (.cells #[.int .i64 n, .slice A m c] 24) = W0 := ⟨_, rfl⟩
  have hb0 : Below k w W0 := by rw [← hW0, ← hk]; exact (Below.refl _ w).alloc (Nat.le_refl _) _
  have hz0 : W0.heap.size = k + 1 := by rw [← hW0, World.size_alloc, hk]
  have hh0 : W0.heap[k]? = some (.cells #[.int .i64 n, .slice A m c] 24 (0, 0)) := by rw [← hW0, ← hk]; exact World.alloc_heap_new _ _
  have HB0 := Lib.hid hb0
  have HZ0 := Lib.hid hz0
  have HH0 := Lib.hid hh0
  have HX := Lib.hid hx
  have HAN := Lib.hid (anchor_any W0 (hT.below hb0 (by omega)) (by omega))
  have HW0 := Lib.hid hW0
  have HT0 : Hid (Tz w) := Lib.hid hT
  clear hx hT hb0 hz0 hh0 hW0
  go_enter Tryd.func6, Tryd.ntmps6
  go_wp2_with fail
  rw [HW0.out]
  refine HAN.out.mono ?_
  rintro e W1 ⟨rfl, hb⟩
  clear HAN
  have HB1 : Hid (Below k w W1) := Lib.hid (HB0.out.trans (hb.mono (by rw [HZ0.out]; omega)))
  have HZ1 : Hid (k + 1 ≤ W1.heap.size) := Lib.hid (by have := hb.size; rw [HZ0.out] at this; exact this)
  have HH1 : Hid (W1.heap[k]? = some (.cells #[.int .i64 n, .slice A m c] 24 (0, 0))) := Lib.hid ((hb.block k (by rw [HZ0.out]; omega)).trans HH0.out)
  have hg := HH1.out
  have hc0 : W1.cell? ⟨k, 0, none⟩ = some (.int .i64 n) := by simp [World.cell?, hg]
  have hc1 : W1.cell? ⟨k, 1, none⟩ = some (.slice A m c) := by simp [World.cell?, hg]
  have HPL := Lib.hid (plain_any (c := c) (z := n) (HX.out.below (B := w.heap.size) (by rw [Hk.out]; exact HB1.out)) (by rw [Hk.out]; have := HZ1.out; omega) hm0 false ⟨nofun, fun h => (hok h).elim⟩)
  clear hb hg
  go_wp2_with fail
  refine HPL.out.mono ?_
  rintro e W2 ⟨rfl, hb⟩
  clear HPL hc0 hc1
  obtain ⟨p2, hp2⟩ : ∃ p2, W2.heap.size = p2 := ⟨_, rfl⟩
  obtain ⟨W3, hW3⟩ : ∃ W3, W2.alloc (.cells #[.int .i64 n, .slice A m c] 26) = W3 := ⟨_, rfl⟩
  have hkp : k < p2 := by rw [← hp2]; exact Nat.lt_of_lt_of_le (show k < W1.heap.size by have := HZ1.out; omega) hb.size
  have HKP := Lib.hid hkp
  have HB3 : Hid (Below k w W3) := Lib.hid (by rw [← hW3]; exact (HB1.out.trans (hb.mono (by have := HZ1.out; omega))).alloc (by omega) _)
  have HZ3 : Hid (p2 + 1 ≤ W3.heap.size) := Lib.hid (by rw [← hW3, World.size_alloc, hp2]; omega)
  have HG3 : Hid (W3.heap[k]? = some (.cells #[.int .i64 n, .slice A m c] 24 (0, 0))) := Lib.hid (by rw [← hW3, Below.heap_alloc _ _ _ (by omega)]; exact (hb.block k (by have := HZ1.out; omega)).trans HH1.out)
  have HP3 : Hid (W3.heap[p2]? = some (.cells #[.int .i64 n, .slice A m c] 26 (0, 0))) := Lib.hid (by rw [← hW3, ← hp2]; exact World.alloc_heap_new _ _)
  have HW3 := Lib.hid hW3
  clear hb hW3 hkp
  go_wp2
  rw [HW3.out]
  go_ret
  exact ⟨rfl, by rw [Hk.out]; exact HB3.out⟩
set_option maxHeartbeats 4000000 in
theorem law_up_wrong {w : World} {m c : Nat} {n a i j : Int} {A : Option Addr} {es : List (Int × Int)} (hx : RdE w w.heap.size A m es) (hm0 : m ≤ 9223372036854775807) (hm : m ≤ 60) (hr : ¬ GraphR n es) (hT : Tz w) (h0 : 0 < w.heap.size) :
    Calls Tryd.prog 6 #[.agg #[.int .i64 n, .slice A m c], .int .u64 a, .int .i64 i, .int .i64 j] w fun e w' => e = .returned (.bool true) ∧ Below w.heap.size w w' := by
  obtain ⟨k, hk⟩ : ∃ k, w.heap.size = k := ⟨_, rfl⟩
  have Hk := Lib.hid hk
  obtain ⟨W0, hW0⟩ : ∃ W0, w.alloc (.cells #[.int .i64 n, .slice A m c] 24) = W0 := ⟨_, rfl⟩
  have hb0 : Below k w W0 := by rw [← hW0, ← hk]; exact (Below.refl _ w).alloc (Nat.le_refl _) _
  have hz0 : W0.heap.size = k + 1 := by rw [← hW0, World.size_alloc, hk]
  have hh0 : W0.heap[k]? = some (.cells #[.int .i64 n, .slice A m c] 24 (0, 0)) := by rw [← hW0, ← hk]; exact World.alloc_heap_new _ _
  have HB0 := Lib.hid hb0
  have HZ0 := Lib.hid hz0
  have HH0 := Lib.hid hh0
  have HX := Lib.hid hx
  have HAN := Lib.hid (anchor_any W0 (hT.below hb0 (by omega)) (by omega))
  have HW0 := Lib.hid hW0
  have HT0 : Hid (Tz w) := Lib.hid hT
  clear hx hT hb0 hz0 hh0 hW0
  go_enter Tryd.func6, Tryd.ntmps6
  go_wp2_with fail
  rw [HW0.out]
  refine HAN.out.mono ?_
  rintro e W1 ⟨rfl, hb⟩
  clear HAN
  have HB1 : Hid (Below k w W1) := Lib.hid (HB0.out.trans (hb.mono (by rw [HZ0.out]; omega)))
  have HZ1 : Hid (k + 1 ≤ W1.heap.size) := Lib.hid (by have := hb.size; rw [HZ0.out] at this; exact this)
  have HH1 : Hid (W1.heap[k]? = some (.cells #[.int .i64 n, .slice A m c] 24 (0, 0))) := Lib.hid ((hb.block k (by rw [HZ0.out]; omega)).trans HH0.out)
  have hg := HH1.out
  have hc0 : W1.cell? ⟨k, 0, none⟩ = some (.int .i64 n) := by simp [World.cell?, hg]
  have hc1 : W1.cell? ⟨k, 1, none⟩ = some (.slice A m c) := by simp [World.cell?, hg]
  have HPL := Lib.hid (plain_any (c := c) (z := n) (HX.out.below (B := w.heap.size) (by rw [Hk.out]; exact HB1.out)) (by rw [Hk.out]; have := HZ1.out; omega) hm0 true ⟨fun _ => ⟨hm, .inr hr⟩, fun _ => rfl⟩)
  clear hb hg
  go_wp2_with fail
  refine HPL.out.mono ?_
  rintro e W2 ⟨rfl, hb⟩
  clear HPL hc0 hc1
  obtain ⟨p2, hp2⟩ : ∃ p2, W2.heap.size = p2 := ⟨_, rfl⟩
  obtain ⟨W3, hW3⟩ : ∃ W3, W2.alloc (.cells #[.int .i64 n, .slice A m c] 26) = W3 := ⟨_, rfl⟩
  have hkp : k < p2 := by rw [← hp2]; exact Nat.lt_of_lt_of_le (show k < W1.heap.size by have := HZ1.out; omega) hb.size
  have HKP := Lib.hid hkp
  have HB3 : Hid (Below k w W3) := Lib.hid (by rw [← hW3]; exact (HB1.out.trans (hb.mono (by have := HZ1.out; omega))).alloc (by omega) _)
  have HZ3 : Hid (p2 + 1 ≤ W3.heap.size) := Lib.hid (by rw [← hW3, World.size_alloc, hp2]; omega)
  have HG3 : Hid (W3.heap[k]? = some (.cells #[.int .i64 n, .slice A m c] 24 (0, 0))) := Lib.hid (by rw [← hW3, Below.heap_alloc _ _ _ (by omega)]; exact (hb.block k (by have := HZ1.out; omega)).trans HH1.out)
  have HP3 : Hid (W3.heap[p2]? = some (.cells #[.int .i64 n, .slice A m c] 26 (0, 0))) := Lib.hid (by rw [← hW3, ← hp2]; exact World.alloc_heap_new _ _)
  have HW3 := Lib.hid hW3
  clear hb hW3 hkp
  have hg := HG3.out
  have g0 : W3.cell? ⟨k, 0, none⟩ = some (.int .i64 n) := by simp [World.cell?, hg]
  have g1 : W3.cell? ⟨k, 1, none⟩ = some (.slice A m c) := by simp [World.cell?, hg]
  clear hg
  have HDN := Lib.hid (((up_bad (c := c) (z := a) (HX.out.below (B := w.heap.size) (by rw [Hk.out]; exact HB3.out)) hr hm0 (by rw [Hk.out]; have := HZ3.out; have := HKP.out; omega))))
  have hW3 := HW3.out
  rw [← hW3] at g0 g1
  clear hW3
  go_wp2_with fail
  rw [HW3.out]
  refine HDN.out.mono ?_
  rintro e W4 ⟨rfl, hb⟩
  clear HDN g0 g1
  have HB4 : Hid (Below k w W4) := Lib.hid (HB3.out.trans (hb.mono (by have := HZ3.out; have := HKP.out; omega)))
  have HZ4 : Hid (p2 + 1 ≤ W4.heap.size) := Lib.hid (Nat.le_trans HZ3.out hb.size)
  have HG4 : Hid (W4.heap[k]? = some (.cells #[.int .i64 n, .slice A m c] 24 (0, 0))) := Lib.hid ((hb.block k (by have := HZ3.out; have := HKP.out; omega)).trans HG3.out)
  have HP4 : Hid (W4.heap[p2]? = some (.cells #[.int .i64 n, .slice A m c] 26 (0, 0))) := Lib.hid ((hb.block p2 (by have := HZ3.out; omega)).trans HP3.out)
  clear hb
  have hg := HP4.out
  have q0 : W4.cell? ⟨p2, 0, none⟩ = some (.int .i64 n) := by simp [World.cell?, hg]
  have q1 : W4.cell? ⟨p2, 1, none⟩ = some (.slice A m c) := by simp [World.cell?, hg]
  clear hg
  have HRT := Lib.hid (right_no (c := c) (HX.out.below (B := w.heap.size) (by rw [Hk.out]; exact HB4.out)) hr hm0 (by rw [Hk.out]; have := HZ4.out; have := HKP.out; omega))
  go_wp2_with fail
  refine HRT.out.mono ?_
  rintro e W5 ⟨rfl, hb⟩
  clear HRT q0 q1
  have HB5 : Hid (Below k w W5) := Lib.hid (HB4.out.trans (hb.mono (by have := HZ4.out; have := HKP.out; omega)))
  have HZ5 : Hid (p2 + 1 ≤ W5.heap.size) := Lib.hid (Nat.le_trans HZ4.out hb.size)
  have HG5 : Hid (W5.heap[k]? = some (.cells #[.int .i64 n, .slice A m c] 24 (0, 0))) := Lib.hid ((hb.block k (by have := HZ4.out; have := HKP.out; omega)).trans HG4.out)
  have HP5 : Hid (W5.heap[p2]? = some (.cells #[.int .i64 n, .slice A m c] 26 (0, 0))) := Lib.hid ((hb.block p2 (by have := HZ4.out; omega)).trans HP4.out)
  clear hb
  go_wp2
  go_ret
  exact ⟨rfl, by rw [Hk.out]; exact HB5.out⟩
set_option maxHeartbeats 4000000 in
theorem law_up_out {w : World} {m c : Nat} {N s : Nat} {i j : Int} {A : Option Addr} {g : List (Nat × Nat)} (hx : RdG w w.heap.size A m g) (hi : InN N g) (hn : N ≤ 10) (hm : m ≤ 60) (hs : s < lim) (hf : fitsB s N = false) (hT : Tz w) (h0 : 0 < w.heap.size) :
    Calls Tryd.prog 6 #[.agg #[.int .i64 (N : Int), .slice A m c], .int .u64 (s : Int), .int .i64 i, .int .i64 j] w fun e w' => e = .returned (.bool true) ∧ Below w.heap.size w w' := by
  have hr : GraphR (N : Int) (castE g) := graphR_cast hi (show N ≤ 64 by omega) (by rw [hx.len]; omega)
  have hm0 : m ≤ 9223372036854775807 := by omega
  obtain ⟨k, hk⟩ : ∃ k, w.heap.size = k := ⟨_, rfl⟩
  have Hk := Lib.hid hk
  obtain ⟨W0, hW0⟩ : ∃ W0, w.alloc (.cells #[.int .i64 (N : Int), .slice A m c] 24) = W0 := ⟨_, rfl⟩
  have hb0 : Below k w W0 := by rw [← hW0, ← hk]; exact (Below.refl _ w).alloc (Nat.le_refl _) _
  have hz0 : W0.heap.size = k + 1 := by rw [← hW0, World.size_alloc, hk]
  have hh0 : W0.heap[k]? = some (.cells #[.int .i64 (N : Int), .slice A m c] 24 (0, 0)) := by rw [← hW0, ← hk]; exact World.alloc_heap_new _ _
  have HB0 := Lib.hid hb0
  have HZ0 := Lib.hid hz0
  have HH0 := Lib.hid hh0
  have HX := Lib.hid hx
  have HAN := Lib.hid (anchor_any W0 (hT.below hb0 (by omega)) (by omega))
  have HW0 := Lib.hid hW0
  have HT0 : Hid (Tz w) := Lib.hid hT
  clear hx hT hb0 hz0 hh0 hW0
  go_enter Tryd.func6, Tryd.ntmps6
  go_wp2_with fail
  rw [HW0.out]
  refine HAN.out.mono ?_
  rintro e W1 ⟨rfl, hb⟩
  clear HAN
  have HB1 : Hid (Below k w W1) := Lib.hid (HB0.out.trans (hb.mono (by rw [HZ0.out]; omega)))
  have HZ1 : Hid (k + 1 ≤ W1.heap.size) := Lib.hid (by have := hb.size; rw [HZ0.out] at this; exact this)
  have HH1 : Hid (W1.heap[k]? = some (.cells #[.int .i64 (N : Int), .slice A m c] 24 (0, 0))) := Lib.hid ((hb.block k (by rw [HZ0.out]; omega)).trans HH0.out)
  have hg := HH1.out
  have hc0 : W1.cell? ⟨k, 0, none⟩ = some (.int .i64 (N : Int)) := by simp [World.cell?, hg]
  have hc1 : W1.cell? ⟨k, 1, none⟩ = some (.slice A m c) := by simp [World.cell?, hg]
  have HPL := Lib.hid (plain_any (c := c) (z := (N : Int)) (HX.out.below (B := w.heap.size) (by rw [Hk.out]; exact HB1.out)) (by rw [Hk.out]; have := HZ1.out; omega) hm0 true ⟨fun _ => ⟨hm, .inl (by omega)⟩, fun _ => rfl⟩)
  clear hb hg
  go_wp2_with fail
  refine HPL.out.mono ?_
  rintro e W2 ⟨rfl, hb⟩
  clear HPL hc0 hc1
  obtain ⟨p2, hp2⟩ : ∃ p2, W2.heap.size = p2 := ⟨_, rfl⟩
  obtain ⟨W3, hW3⟩ : ∃ W3, W2.alloc (.cells #[.int .i64 (N : Int), .slice A m c] 26) = W3 := ⟨_, rfl⟩
  have hkp : k < p2 := by rw [← hp2]; exact Nat.lt_of_lt_of_le (show k < W1.heap.size by have := HZ1.out; omega) hb.size
  have HKP := Lib.hid hkp
  have HB3 : Hid (Below k w W3) := Lib.hid (by rw [← hW3]; exact (HB1.out.trans (hb.mono (by have := HZ1.out; omega))).alloc (by omega) _)
  have HZ3 : Hid (p2 + 1 ≤ W3.heap.size) := Lib.hid (by rw [← hW3, World.size_alloc, hp2]; omega)
  have HG3 : Hid (W3.heap[k]? = some (.cells #[.int .i64 (N : Int), .slice A m c] 24 (0, 0))) := Lib.hid (by rw [← hW3, Below.heap_alloc _ _ _ (by omega)]; exact (hb.block k (by have := HZ1.out; omega)).trans HH1.out)
  have HP3 : Hid (W3.heap[p2]? = some (.cells #[.int .i64 (N : Int), .slice A m c] 26 (0, 0))) := Lib.hid (by rw [← hW3, ← hp2]; exact World.alloc_heap_new _ _)
  have HW3 := Lib.hid hW3
  clear hb hW3 hkp
  have hg := HG3.out
  have g0 : W3.cell? ⟨k, 0, none⟩ = some (.int .i64 (N : Int)) := by simp [World.cell?, hg]
  have g1 : W3.cell? ⟨k, 1, none⟩ = some (.slice A m c) := by simp [World.cell?, hg]
  clear hg
  have HDN := Lib.hid (up_out (c := c) (s := s) (HX.out.below (B := w.heap.size) (by rw [Hk.out]; exact HB3.out)) hi (show N ≤ 64 by omega) (show m ≤ 4096 by omega) (by rw [Hk.out]; have := HZ3.out; have := HKP.out; omega) hf)
  have hW3 := HW3.out
  rw [← hW3] at g0 g1
  have hnq : ((s : Int) / 2 ^ N != 0) = true := by rw [fits_neq, hf]; rfl
  clear hW3
  go_wp2_with fail
  rw [HW3.out]
  refine HDN.out.mono ?_
  rintro e W4 ⟨rfl, hb⟩
  clear HDN g0 g1
  have HB4 : Hid (Below k w W4) := Lib.hid (HB3.out.trans (hb.mono (by have := HZ3.out; have := HKP.out; omega)))
  have HZ4 : Hid (p2 + 1 ≤ W4.heap.size) := Lib.hid (Nat.le_trans HZ3.out hb.size)
  have HG4 : Hid (W4.heap[k]? = some (.cells #[.int .i64 (N : Int), .slice A m c] 24 (0, 0))) := Lib.hid ((hb.block k (by have := HZ3.out; have := HKP.out; omega)).trans HG3.out)
  have HP4 : Hid (W4.heap[p2]? = some (.cells #[.int .i64 (N : Int), .slice A m c] 26 (0, 0))) := Lib.hid ((hb.block p2 (by have := HZ3.out; omega)).trans HP3.out)
  clear hb
  have hg := HG4.out
  have g0 : W4.cell? ⟨k, 0, none⟩ = some (.int .i64 (N : Int)) := by simp [World.cell?, hg]
  have g1 : W4.cell? ⟨k, 1, none⟩ = some (.slice A m c) := by simp [World.cell?, hg]
  clear hg
  have hg := HP4.out
  have q0 : W4.cell? ⟨p2, 0, none⟩ = some (.int .i64 (N : Int)) := by simp [World.cell?, hg]
  have q1 : W4.cell? ⟨p2, 1, none⟩ = some (.slice A m c) := by simp [World.cell?, hg]
  clear hg
  have HRT := Lib.hid (right_yes (c := c) (HX.out.below (B := w.heap.size) (by rw [Hk.out]; exact HB4.out)) hr (by rw [Hk.out]; have := HZ4.out; have := HKP.out; omega))
  go_wp2_with fail
  refine HRT.out.mono ?_
  rintro e W5 ⟨rfl, hb⟩
  clear HRT g0 g1 q0 q1
  have HB5 : Hid (Below k w W5) := Lib.hid (HB4.out.trans (hb.mono (by have := HZ4.out; have := HKP.out; omega)))
  have HZ5 : Hid (p2 + 1 ≤ W5.heap.size) := Lib.hid (Nat.le_trans HZ4.out hb.size)
  have HG5 : Hid (W5.heap[k]? = some (.cells #[.int .i64 (N : Int), .slice A m c] 24 (0, 0))) := Lib.hid ((hb.block k (by have := HZ4.out; have := HKP.out; omega)).trans HG4.out)
  have HP5 : Hid (W5.heap[p2]? = some (.cells #[.int .i64 (N : Int), .slice A m c] 26 (0, 0))) := Lib.hid ((hb.block p2 (by have := HZ4.out; omega)).trans HP4.out)
  clear hb
  have hg := HG5.out
  have g0 : W5.cell? ⟨k, 0, none⟩ = some (.int .i64 (N : Int)) := by simp [World.cell?, hg]
  have g1 : W5.cell? ⟨k, 1, none⟩ = some (.slice A m c) := by simp [World.cell?, hg]
  clear hg
  go_wp2
  go_ret
  exact ⟨rfl, by rw [Hk.out]; exact HB5.out⟩
set_option maxHeartbeats 4000000 in
theorem law_up_go {w : World} {m c : Nat} {N s : Nat} {i j : Int} {A : Option Addr} {g : List (Nat × Nat)} (hx : RdG w w.heap.size A m g) (hi : InN N g) (hn : N ≤ 10) (hm : m ≤ 60) (hs : s < lim) (hf : fitsB s N = true) (hT : Tz w) (h0 : 0 < w.heap.size) :
    Calls Tryd.prog 6 #[.agg #[.int .i64 (N : Int), .slice A m c], .int .u64 (s : Int), .int .i64 i, .int .i64 j] w fun e w' => e = .returned (.bool true) ∧ Below w.heap.size w w' := by
  have hr : GraphR (N : Int) (castE g) := graphR_cast hi (show N ≤ 64 by omega) (by rw [hx.len]; omega)
  have hm0 : m ≤ 9223372036854775807 := by omega
  have hin := inS_fits (show N ≤ 64 by omega) hf
  obtain ⟨d, hd⟩ : ∃ d, upG N g s = d := ⟨_, rfl⟩
  have htd : dwnG N (turnG g) s = d := (up_down hi (show N ≤ 64 by omega) hin).trans hd
  have HTD := Lib.hid htd
  have HIN := Lib.hid hin
  have HD := Lib.hid hd
  have HS := Lib.hid hs
  have HI := Lib.hid hi
  have HFT := Lib.hid hf
  have HL := Lib.hid hx.len
  have hnq : ((s : Int) / 2 ^ N != 0) = false := by rw [fits_neq, hf]; rfl
  have HNQ := Lib.hid hnq
  clear hin htd hnq hd
  obtain ⟨k, hk⟩ : ∃ k, w.heap.size = k := ⟨_, rfl⟩
  have Hk := Lib.hid hk
  obtain ⟨W0, hW0⟩ : ∃ W0, w.alloc (.cells #[.int .i64 (N : Int), .slice A m c] 24) = W0 := ⟨_, rfl⟩
  have hb0 : Below k w W0 := by rw [← hW0, ← hk]; exact (Below.refl _ w).alloc (Nat.le_refl _) _
  have hz0 : W0.heap.size = k + 1 := by rw [← hW0, World.size_alloc, hk]
  have hh0 : W0.heap[k]? = some (.cells #[.int .i64 (N : Int), .slice A m c] 24 (0, 0)) := by rw [← hW0, ← hk]; exact World.alloc_heap_new _ _
  have HB0 := Lib.hid hb0
  have HZ0 := Lib.hid hz0
  have HH0 := Lib.hid hh0
  have HX := Lib.hid hx
  have HAN := Lib.hid (anchor_any W0 (hT.below hb0 (by omega)) (by omega))
  have HW0 := Lib.hid hW0
  have HT0 : Hid (Tz w) := Lib.hid hT
  clear hx hT hb0 hz0 hh0 hW0
  go_enter Tryd.func6, Tryd.ntmps6
  go_wp2_with fail
  rw [HW0.out]
  refine HAN.out.mono ?_
  rintro e W1 ⟨rfl, hb⟩
  clear HAN
  have HB1 : Hid (Below k w W1) := Lib.hid (HB0.out.trans (hb.mono (by rw [HZ0.out]; omega)))
  have HZ1 : Hid (k + 1 ≤ W1.heap.size) := Lib.hid (by have := hb.size; rw [HZ0.out] at this; exact this)
  have HH1 : Hid (W1.heap[k]? = some (.cells #[.int .i64 (N : Int), .slice A m c] 24 (0, 0))) := Lib.hid ((hb.block k (by rw [HZ0.out]; omega)).trans HH0.out)
  have hg := HH1.out
  have hc0 : W1.cell? ⟨k, 0, none⟩ = some (.int .i64 (N : Int)) := by simp [World.cell?, hg]
  have hc1 : W1.cell? ⟨k, 1, none⟩ = some (.slice A m c) := by simp [World.cell?, hg]
  have HPL := Lib.hid (plain_any (c := c) (z := (N : Int)) (HX.out.below (B := w.heap.size) (by rw [Hk.out]; exact HB1.out)) (by rw [Hk.out]; have := HZ1.out; omega) hm0 true ⟨fun _ => ⟨hm, .inl (by omega)⟩, fun _ => rfl⟩)
  clear hb hg
  go_wp2_with fail
  refine HPL.out.mono ?_
  rintro e W2 ⟨rfl, hb⟩
  clear HPL hc0 hc1
  obtain ⟨p2, hp2⟩ : ∃ p2, W2.heap.size = p2 := ⟨_, rfl⟩
  obtain ⟨W3, hW3⟩ : ∃ W3, W2.alloc (.cells #[.int .i64 (N : Int), .slice A m c] 26) = W3 := ⟨_, rfl⟩
  have hkp : k < p2 := by rw [← hp2]; exact Nat.lt_of_lt_of_le (show k < W1.heap.size by have := HZ1.out; omega) hb.size
  have HKP := Lib.hid hkp
  have HB3 : Hid (Below k w W3) := Lib.hid (by rw [← hW3]; exact (HB1.out.trans (hb.mono (by have := HZ1.out; omega))).alloc (by omega) _)
  have HZ3 : Hid (p2 + 1 ≤ W3.heap.size) := Lib.hid (by rw [← hW3, World.size_alloc, hp2]; omega)
  have HG3 : Hid (W3.heap[k]? = some (.cells #[.int .i64 (N : Int), .slice A m c] 24 (0, 0))) := Lib.hid (by rw [← hW3, Below.heap_alloc _ _ _ (by omega)]; exact (hb.block k (by have := HZ1.out; omega)).trans HH1.out)
  have HP3 : Hid (W3.heap[p2]? = some (.cells #[.int .i64 (N : Int), .slice A m c] 26 (0, 0))) := Lib.hid (by rw [← hW3, ← hp2]; exact World.alloc_heap_new _ _)
  have HW3 := Lib.hid hW3
  clear hb hW3 hkp
  have hg := HG3.out
  have g0 : W3.cell? ⟨k, 0, none⟩ = some (.int .i64 (N : Int)) := by simp [World.cell?, hg]
  have g1 : W3.cell? ⟨k, 1, none⟩ = some (.slice A m c) := by simp [World.cell?, hg]
  clear hg
  have HDN := Lib.hid (up_any (c := c) (s := s) (HX.out.below (B := w.heap.size) (by rw [Hk.out]; exact HB3.out)) hi (show N ≤ 64 by omega) (show m ≤ 4096 by omega) (by rw [Hk.out]; have := HZ3.out; have := HKP.out; omega) hs hf (HT0.out.below (B := k) HB3.out (by rw [← Hk.out]; exact h0)) (by have := HZ3.out; omega))
  rw [HD.out] at HDN
  have hW3 := HW3.out
  rw [← hW3] at g0 g1
  clear hW3 hi hs hf
  go_wp2_with fail
  rw [HW3.out]
  refine HDN.out.mono ?_
  rintro e W4 ⟨rfl, hb⟩
  clear HDN g0 g1
  have HB4 : Hid (Below k w W4) := Lib.hid (HB3.out.trans (hb.mono (by have := HZ3.out; have := HKP.out; omega)))
  have HZ4 : Hid (p2 + 1 ≤ W4.heap.size) := Lib.hid (Nat.le_trans HZ3.out hb.size)
  have HG4 : Hid (W4.heap[k]? = some (.cells #[.int .i64 (N : Int), .slice A m c] 24 (0, 0))) := Lib.hid ((hb.block k (by have := HZ3.out; have := HKP.out; omega)).trans HG3.out)
  have HP4 : Hid (W4.heap[p2]? = some (.cells #[.int .i64 (N : Int), .slice A m c] 26 (0, 0))) := Lib.hid ((hb.block p2 (by have := HZ3.out; omega)).trans HP3.out)
  clear hb
  have hg := HG4.out
  have g0 : W4.cell? ⟨k, 0, none⟩ = some (.int .i64 (N : Int)) := by simp [World.cell?, hg]
  have g1 : W4.cell? ⟨k, 1, none⟩ = some (.slice A m c) := by simp [World.cell?, hg]
  clear hg
  have hg := HP4.out
  have q0 : W4.cell? ⟨p2, 0, none⟩ = some (.int .i64 (N : Int)) := by simp [World.cell?, hg]
  have q1 : W4.cell? ⟨p2, 1, none⟩ = some (.slice A m c) := by simp [World.cell?, hg]
  clear hg
  have HRT := Lib.hid (right_yes (c := c) (HX.out.below (B := w.heap.size) (by rw [Hk.out]; exact HB4.out)) hr (by rw [Hk.out]; have := HZ4.out; have := HKP.out; omega))
  have hnq := HNQ.out
  go_wp2_with fail
  refine HRT.out.mono ?_
  rintro e W5 ⟨rfl, hb⟩
  clear HRT g0 g1 q0 q1
  have HB5 : Hid (Below k w W5) := Lib.hid (HB4.out.trans (hb.mono (by have := HZ4.out; have := HKP.out; omega)))
  have HZ5 : Hid (p2 + 1 ≤ W5.heap.size) := Lib.hid (Nat.le_trans HZ4.out hb.size)
  have HG5 : Hid (W5.heap[k]? = some (.cells #[.int .i64 (N : Int), .slice A m c] 24 (0, 0))) := Lib.hid ((hb.block k (by have := HZ4.out; have := HKP.out; omega)).trans HG4.out)
  have HP5 : Hid (W5.heap[p2]? = some (.cells #[.int .i64 (N : Int), .slice A m c] 26 (0, 0))) := Lib.hid ((hb.block p2 (by have := HZ4.out; omega)).trans HP4.out)
  clear hb
  have hg := HG5.out
  have g0 : W5.cell? ⟨k, 0, none⟩ = some (.int .i64 (N : Int)) := by simp [World.cell?, hg]
  have g1 : W5.cell? ⟨k, 1, none⟩ = some (.slice A m c) := by simp [World.cell?, hg]
  clear hg
  obtain ⟨tb, htb⟩ : ∃ tb, W5.heap.size = tb := ⟨_, rfl⟩
  obtain ⟨W6, hW6⟩ : ∃ W6, W5.alloc (.cells #[.int .i64 (N : Int), .slice none 0 0] 24) = W6 := ⟨_, rfl⟩
  have hkt : k < tb := by rw [← htb]; have := HZ5.out; have := HKP.out; omega
  have HTN : Hid (TnAt W6 w w.heap.size tb N m c A g 0 (.slice none 0 0)) := Lib.hid (by
    rw [← hW6, ← htb]
    exact ⟨OwnP.nil_ _ _, by simp, by simp, by simp, (World.cell?_alloc_lt W5 _ ⟨w.heap.size, 0, none⟩ (by rw [Hk.out, htb]; exact hkt)).trans (by rw [Hk.out]; exact g0), (World.cell?_alloc_lt W5 _ ⟨w.heap.size, 1, none⟩ (by rw [Hk.out, htb]; exact hkt)).trans (by rw [Hk.out]; exact g1), RdE.alloc (HX.out.below (B := w.heap.size) (by rw [Hk.out]; exact HB5.out)) (by rw [Hk.out]; have := HZ5.out; have := HKP.out; omega) _, by rw [Hk.out]; exact HB5.out.alloc (by rw [htb]; omega) _, by rw [Hk.out, htb]; exact hkt, Nat.le_refl _, by simp⟩)
  have HW6 := Lib.hid hW6
  have Htb := Lib.hid htb
  have g6 := HTN.out.o1
  rw [Hk.out, ← hW6] at g6
  clear hW6 hkt htb
  go_wp2_with fail
  rw [HW6.out, Htb.out]
  clear g6 HG5 HP5 HG4 HP4 HG3 HP3 HH1 HH0 HB3 HB4 HB1 HB0 HZ5 HZ4 HZ3 HZ1 HZ0 HW3 HW0 g0 g1 hnq
  go_loopw [59] (fun i wr => ∃ q : Nat, q ≤ m ∧ i = .int .i64 (q : Int) ∧ Hid (∃ v, TnAt wr w w.heap.size tb N m c A g q v)) (fun i _ => m - (intOf i).toNat)
  case atStart => exact ⟨0, by omega, rfl, Lib.hid ⟨_, HTN.out⟩⟩
  case round =>
    clear HTN
    obtain ⟨q, hq, rfl, HV⟩ := hrel
    obtain ⟨v, htn⟩ := HV.out
    clear HV
    have HTN := Lib.hid htn
    clear htn
    have hb0 := HTN.out.b0
    have hb1 := HTN.out.b1
    have hbf := HTN.out.fz
    have hlt := HTN.out.lt
    have hlw := HTN.out.lw
    by_cases hlk : q < m
    · obtain ⟨b, off, rfl, hbb, hca, hcb⟩ := HTN.out.rd.at_ hlk
      have HLN : Hid ((tkG g q).length ≤ 100) := Lib.hid (by unfold tkG; rw [List.length_take]; omega)
      go_wp2_with (at_builtin; refine wpl_appP rfl (.tmp 64) (.tmp 70) rfl (tb + 1) v (tkG g q) rfl ((HTN.out.own.alloc _).alloc _) (wr.heap.size + 1) (fb g q) (fa g q) rfl (by simp) (by simp) (by have := HLN.out; omega) (by simp; omega) ?_; intro g' c' w6 hown6 hgr6; obtain ⟨⟨hq1, hq2⟩, hq3⟩ := HTN.out.step (by rw [HL.out]; exact hlk) hown6 hgr6; (have HQ3 := Lib.hid hq3); clear hown6 hgr6 hq3 hb1 hbf)
      go_roundw
      case rel => exact ⟨q + 1, by omega, by go_num, Lib.hid ⟨_, HQ3.out⟩⟩
      case measure => simp [intOf]; omega
    · obtain rfl : q = m := by omega
      obtain ⟨Av, cv, rfl⟩ := HTN.out.own.shape
      have HLT : Hid (tkG g q = turnG g) := Lib.hid (List.take_of_length_le (by rw [turn_len, HL.out]; omega))
      have HTL : Hid ((turnG g).length = q) := Lib.hid (by rw [turn_len, HL.out])
      have hlen : (tkG g q).length ≤ 100 := by rw [HLT.out, HTL.out]; omega
      have HRT : Hid (RdG wr wr.heap.size Av (tkG g q).length (turnG g)) := Lib.hid (by
        have h := HTN.out.own.rd (m := (tkG g q).length) rfl
        rw [← HLT.out]; exact h)
      have HIT := Lib.hid (inN_turn HI.out)
      have g0 := HTN.out.o0
      have g1 := HTN.out.o1
      rw [Hk.out] at g0 g1
      have HDT := Lib.hid (down_any (c := cv) (s := s) HRT.out HIT.out (show N ≤ 64 by omega) (show (tkG g q).length ≤ 4096 by omega) (Nat.le_refl _) HS.out HFT.out)
      rw [HTD.out] at HDT
      go_wp2_with fail
      refine HDT.out.mono ?_
      rintro e W7 ⟨rfl, hb⟩
      have HB7 : Hid (Below k w W7) := Lib.hid (by rw [← Hk.out]; exact HTN.out.bel.trans (hb.mono HTN.out.bel.size))
      have HZ7 : Hid (k < W7.heap.size) := Lib.hid (by rw [← Hk.out]; exact Nat.lt_of_lt_of_le (Nat.lt_trans HTN.out.lw HTN.out.lt) hb.size)
      have hkw : k < wr.heap.size := by rw [← Hk.out]; exact Nat.lt_trans HTN.out.lw HTN.out.lt
      have gg0 := (hb.cell (p := ⟨k, 0, none⟩) hkw).trans g0
      have gg1 := (hb.cell (p := ⟨k, 1, none⟩) hkw).trans g1
      have HX7 : Hid (RdG W7 w.heap.size A q g) := Lib.hid (HX.out.below (B := w.heap.size) (by rw [Hk.out]; exact HB7.out))
      have hUU : ((d : Int) != (d : Int)) = false := by simp
      clear hb g0 g1 hb0 hb1 hbf HDT HRT HTN hlt hlw hkw hlen
      by_cases hi0 : i < 0
      · go_wp2
        go_ret
        exact ⟨rfl, by rw [Hk.out]; exact HB7.out⟩
      · by_cases hj0 : j < 0
        · go_wp2
          go_ret
          exact ⟨rfl, by rw [Hk.out]; exact HB7.out⟩
        · obtain ⟨x, rfl⟩ := Int.eq_ofNat_of_zero_le (Int.not_lt.1 hi0)
          obtain ⟨y, rfl⟩ := Int.eq_ofNat_of_zero_le (Int.not_lt.1 hj0)
          by_cases hi1 : N ≤ x
          · go_wp2
            go_ret
            exact ⟨rfl, by rw [Hk.out]; exact HB7.out⟩
          · by_cases hj1 : N ≤ y
            · go_wp2
              go_ret
              exact ⟨rfl, by rw [Hk.out]; exact HB7.out⟩
            · have hx64 : x < N := by omega
              have hy64 : y < N := by omega
              have HXN := Lib.hid hx64
              have HYN := Lib.hid hy64
              have HB7z : Hid (k < W7.heap.size) := HZ7
              have HSX : ∀ {x : Nat}, x < N → IntKind.u64.wrap ((2 : Int) ^ min x 64) = ((one x : Nat) : Int) := fun {x} hx => by
                have h := one_lt x (show x < 64 by omega)
                rw [Nat.min_eq_left (by omega), shl_one, IntKind.wrap_u64]
                have h2 : one x < 18446744073709551616 := h
                omega
              have H1 := Lib.hid (HSX hx64)
              have H2 := Lib.hid (HSX hy64)
              obtain ⟨da, hda⟩ : ∃ da, dwnG N g (one x) = da := ⟨_, rfl⟩
              obtain ⟨ub, hub⟩ : ∃ ub, upG N g (one y) = ub := ⟨_, rfl⟩
              have HDL : Hid (da < lim) := Lib.hid (by rw [← hda]; exact (down_is HI.out (show N ≤ 64 by omega) (one_lt x (by omega))).1)
              have HUL : Hid (ub < lim) := Lib.hid (by rw [← hub]; exact upG_lt HI.out (show N ≤ 64 by omega) (one_lt y (by omega)))
              have HDU : Hid (bt da y = bt ub x) := Lib.hid (by rw [← hda, ← hub]; exact down_up_one HI.out (show N ≤ 64 by omega) hx64 hy64)
              have HDA := Lib.hid hda
              have HUB := Lib.hid hub
              go_wp2_with fail
              clear hi0 hj0 hi1 hj1 hx64 hy64 hUU HSX hda hub
              go_region_held3 (fun w' => w'.cell? ⟨k, 0, none⟩ = some (.int .i64 (N : Int)) ∧ w'.cell? ⟨k, 1, none⟩ = some (.slice A q c)) ((first | exact ⟨h80, h81⟩ | go_keep))
                (first | (go_at_call 19; rw [H1.out]; refine (down_any (c := c) (s := one x) (RdE.drewN HX7.out 1) HI.out (show N ≤ 64 by omega) (show q ≤ 4096 by omega) (by show w.heap.size ≤ W7.heap.size; have := HZ7.out; have := Hk.out; omega) (one_lt x (by have := HXN.out; omega)) (one_fits HXN.out)).mono ?_; rintro e W8 ⟨rfl, hb8⟩; rw [HDA.out]; have h80 := (hb8.cell (p := ⟨k, 0, none⟩) (show k < W7.heap.size from HZ7.out)).trans gg0; have h81 := (hb8.cell (p := ⟨k, 1, none⟩) (show k < W7.heap.size from HZ7.out)).trans gg1; have HB8 : Hid (Below k w W8) := Lib.hid ((below_drewN HB7.out 1).trans (hb8.mono (by show k ≤ W7.heap.size; have := HZ7.out; omega))); have HZ8 : Hid (k < W8.heap.size) := Lib.hid (Nat.lt_of_lt_of_le (show k < W7.heap.size from HZ7.out) hb8.size); clear hb8))
              have HX8 : Hid (RdG W8 w.heap.size A q g) := Lib.hid (HX.out.below (B := w.heap.size) (by rw [Hk.out]; exact HB8.out))
              have HT8 : Hid (Tz W8) := Lib.hid (HT0.out.below (B := k) HB8.out (by rw [← Hk.out]; exact h0))
              go_wp2_with fail
              go_region_held3 (fun w' => w'.cell? ⟨k, 0, none⟩ = some (.int .i64 (N : Int)) ∧ w'.cell? ⟨k, 1, none⟩ = some (.slice A q c)) ((first | exact ⟨h90, h91⟩ | go_keep))
                (first | (go_at_call 20; rw [H2.out]; refine (up_any (c := c) (s := one y) (RdE.drewN HX8.out 1) HI.out (show N ≤ 64 by omega) (show q ≤ 4096 by omega) (by show w.heap.size ≤ W8.heap.size; have := HZ8.out; have := Hk.out; omega) (one_lt y (by have := HYN.out; omega)) (one_fits HYN.out) HT8.out (show 0 < W8.heap.size by have := HZ8.out; omega)).mono ?_; rintro e W9 ⟨rfl, hb9⟩; rw [HUB.out]; have h90 := (hb9.cell (p := ⟨k, 0, none⟩) (show k < W8.heap.size from HZ8.out)).trans h80; have h91 := (hb9.cell (p := ⟨k, 1, none⟩) (show k < W8.heap.size from HZ8.out)).trans h81; have HB9 : Hid (Below k w W9) := Lib.hid ((below_drewN HB8.out 1).trans (hb9.mono (by show k ≤ W8.heap.size; have := HZ8.out; omega))); clear hb9))
              go_wp2_with fail
              refine (in_any HDL.out (show y < 64 by have := HYN.out; omega)).mono ?_
              rintro e w' ⟨rfl, rfl⟩
              rw [HDU.out]
              go_wp2_with fail
              refine (in_any HUL.out (show x < 64 by have := HXN.out; omega)).mono ?_
              rintro e w' ⟨rfl, rfl⟩
              go_wp2
              go_ret
              exact ⟨rfl, by rw [Hk.out]; exact HB9.out⟩
theorem law_up {w : World} {m c : Nat} {n a i j : Int} {A : Option Addr} {es : List (Int × Int)} (hx : RdE w w.heap.size A m es) (hm0 : m ≤ 9223372036854775807) (ha : 0 ≤ a ∧ a ≤ 18446744073709551615) (hT : Tz w) (h0 : 0 < w.heap.size) :
    Calls Tryd.prog 6 #[.agg #[.int .i64 n, .slice A m c], .int .u64 a, .int .i64 i, .int .i64 j] w fun e w' => e = .returned (.bool true) ∧ Below w.heap.size w w' := by
  by_cases hok : m ≤ 60 ∧ (n ≤ 10 ∨ ¬ GraphR n es)
  · by_cases hr : GraphR n es
    · have hn : n ≤ 10 := hok.2.elim id (fun h => (h hr).elim)
      obtain ⟨N, g, rfl, rfl, hi, _, _⟩ := graph_nat hr
      obtain ⟨s, rfl⟩ := Int.eq_ofNat_of_zero_le ha.1
      have hs : s < lim := show s < 18446744073709551616 by omega
      cases hf : fitsB s N with
      | true => exact law_up_go hx hi (by omega) hok.1 hs hf hT h0
      | false => exact law_up_out hx hi (by omega) hok.1 hs hf hT h0
    · exact law_up_wrong hx hm0 hok.1 hr hT h0
  · exact law_up_skip hx hm0 hok hT h0
end Go.Proofs.YtfcabdgidlnljaaDoor
