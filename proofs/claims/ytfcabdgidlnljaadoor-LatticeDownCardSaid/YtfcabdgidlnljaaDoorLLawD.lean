/-
  THE WALK of the statement LatticeDown (printed by genlawld.py): whatever the graph and the sets, the call returns true and writes nothing that was there.
-/
import Derived.Test.YtfcabdgidlnljaaDoorLLaw0
namespace Go.Proofs.YtfcabdgidlnljaaDoor
open Go.RowKit
open DiP
set_option linter.unusedVariables false
set_option linter.unusedSimpArgs false
set_option maxRecDepth 100000
set_option maxHeartbeats 4000000 in
theorem law_down_skip {w : World} {m c : Nat} {n a b : Int} {A : Option Addr} {es : List (Int × Int)} (hx : RdE w w.heap.size A m es) (hm0 : m ≤ 9223372036854775807) (hok : ¬ (m ≤ 60 ∧ (n ≤ 10 ∨ ¬ GraphR n es))) (hT : Tz w) (h0 : 0 < w.heap.size) :
    Calls Tryd.prog 5 #[.agg #[.int .i64 n, .slice A m c], .int .u64 a, .int .u64 b] w fun e w' => e = .returned (.bool true) ∧ Below w.heap.size w w' := by
  obtain ⟨k, hk⟩ : ∃ k, w.heap.size = k := ⟨_, rfl⟩
  have Hk := Lib.hid hk
  obtain ⟨W0, hW0⟩ : ∃ W0, w.alloc (.cells #[.int .i64 n, .slice A m c] 24) = W0 := ⟨_, rfl⟩
  have hb0 : Below k w W0 := by rw [← hW0, ← hk]; exact (Below.refl _ w).alloc (Nat.le_refl _) _
  have hz0 : W0.heap.size = k + 1 := by rw [← hW0, World.size_alloc, hk]
  have hh0 : W0.heap[k]? = some (.cells #[.int .i64 n, .slice A m c] 24 (0, 0)) := by rw [← hW0, ← hk]; exact World.alloc_heap_new _ _
  have HB0 := Lib.hid hb0
  have HZ0 := Lib.hid hz0
  have HH0 := Lib.hid hh0
  have HX := Lib.hid hx
  have HAN := Lib.hid (anchor_any W0 (hT.below hb0 (by omega)) (by omega))
  have HW0 := Lib.hid hW0
  have HT0 : Hid (Tz w) := Lib.hid hT
  clear hx hT hb0 hz0 hh0 hW0
  go_enter Tryd.func5, Tryd.ntmps5
  go_wp2_with fail
  rw [HW0.out]
  refine HAN.out.mono ?_
  rintro e W1 ⟨rfl, hb⟩
  clear HAN
  have HB1 : Hid (Below k w W1) := Lib.hid (HB0.out.trans (hb.mono (by rw [HZ0.out]; omega)))
  have HZ1 : Hid (k + 1 ≤ W1.heap.size) := Lib.hid (by have := hb.size; rw [HZ0.out] at this; exact this)
  have HH1 : Hid (W1.heap[k]? = some (.cells #[.int .i64 n, .slice A m c] 24 (0, 0))) := Lib.hid ((hb.block k (by rw [HZ0.out]; omega)).trans HH0.out)
  have hg := HH1.out
  have hc0 : W1.cell? ⟨k, 0, none⟩ = some (.int .i64 n) := by simp [World.cell?, hg]
  have hc1 : W1.cell? ⟨k, 1, none⟩ = some (.slice A m c) := by simp [World.cell?, hg]
  have HPL := Lib.hid (plain_any (c := c) (z := n) (HX.out.below (B := w.heap.size) (by rw [Hk.out]; exact HB1.out)) (by rw [Hk.out]; have := HZ1.out; omega) hm0 false ⟨nofun, fun h => (hok h).elim⟩)
  clear hb hg
  go_wp2_with fail
  refine HPL.out.mono ?_
  rintro e W2 ⟨rfl, hb⟩
  clear HPL hc0 hc1
  obtain ⟨p2, hp2⟩ : ∃ p2, W2.heap.size = p2 := ⟨_, rfl⟩
  obtain ⟨W3, hW3⟩ : ∃ W3, W2.alloc (.cells #[.int .i64 n, .slice A m c] 26) = W3 := ⟨_, rfl⟩
  have hkp : k < p2 := by rw [← hp2]; exact Nat.lt_of_lt_of_le (show k < W1.heap.size by have := HZ1.out; omega) hb.size
  have HKP := Lib.hid hkp
  have HB3 : Hid (Below k w W3) := Lib.hid (by rw [← hW3]; exact (HB1.out.trans (hb.mono (by have := HZ1.out; omega))).alloc (by omega) _)
  have HZ3 : Hid (p2 + 1 ≤ W3.heap.size) := Lib.hid (by rw [← hW3, World.size_alloc, hp2]; omega)
  have HG3 : Hid (W3.heap[k]? = some (.cells #[.int .i64 n, .slice A m c] 24 (0, 0))) := Lib.hid (by rw [← hW3, Below.heap_alloc _ _ _ (by omega)]; exact (hb.block k (by have := HZ1.out; omega)).trans HH1.out)
  have HP3 : Hid (W3.heap[p2]? = some (.cells #[.int .i64 n, .slice A m c] 26 (0, 0))) := Lib.hid (by rw [← hW3, ← hp2]; exact World.alloc_heap_new _ _)
  have HW3 := Lib.hid hW3
  clear hb hW3 hkp
  go_wp2
  rw [HW3.out]
  go_ret
  exact ⟨rfl, by rw [Hk.out]; exact HB3.out⟩
set_option maxHeartbeats 4000000 in
theorem law_down_wrong {w : World} {m c : Nat} {n a b : Int} {A : Option Addr} {es : List (Int × Int)} (hx : RdE w w.heap.size A m es) (hm0 : m ≤ 9223372036854775807) (hm : m ≤ 60) (hr : ¬ GraphR n es) (hT : Tz w) (h0 : 0 < w.heap.size) :
    Calls Tryd.prog 5 #[.agg #[.int .i64 n, .slice A m c], .int .u64 a, .int .u64 b] w fun e w' => e = .returned (.bool true) ∧ Below w.heap.size w w' := by
  obtain ⟨k, hk⟩ : ∃ k, w.heap.size = k := ⟨_, rfl⟩
  have Hk := Lib.hid hk
  obtain ⟨W0, hW0⟩ : ∃ W0, w.alloc (.cells #[.int .i64 n, .slice A m c] 24) = W0 := ⟨_, rfl⟩
  have hb0 : Below k w W0 := by rw [← hW0, ← hk]; exact (Below.refl _ w).alloc (Nat.le_refl _) _
  have hz0 : W0.heap.size = k + 1 := by rw [← hW0, World.size_alloc, hk]
  have hh0 : W0.heap[k]? = some (.cells #[.int .i64 n, .slice A m c] 24 (0, 0)) := by rw [← hW0, ← hk]; exact World.alloc_heap_new _ _
  have HB0 := Lib.hid hb0
  have HZ0 := Lib.hid hz0
  have HH0 := Lib.hid hh0
  have HX := Lib.hid hx
  have HAN := Lib.hid (anchor_any W0 (hT.below hb0 (by omega)) (by omega))
  have HW0 := Lib.hid hW0
  have HT0 : Hid (Tz w) := Lib.hid hT
  clear hx hT hb0 hz0 hh0 hW0
  go_enter Tryd.func5, Tryd.ntmps5
  go_wp2_with fail
  rw [HW0.out]
  refine HAN.out.mono ?_
  rintro e W1 ⟨rfl, hb⟩
  clear HAN
  have HB1 : Hid (Below k w W1) := Lib.hid (HB0.out.trans (hb.mono (by rw [HZ0.out]; omega)))
  have HZ1 : Hid (k + 1 ≤ W1.heap.size) := Lib.hid (by have := hb.size; rw [HZ0.out] at this; exact this)
  have HH1 : Hid (W1.heap[k]? = some (.cells #[.int .i64 n, .slice A m c] 24 (0, 0))) := Lib.hid ((hb.block k (by rw [HZ0.out]; omega)).trans HH0.out)
  have hg := HH1.out
  have hc0 : W1.cell? ⟨k, 0, none⟩ = some (.int .i64 n) := by simp [World.cell?, hg]
  have hc1 : W1.cell? ⟨k, 1, none⟩ = some (.slice A m c) := by simp [World.cell?, hg]
  have HPL := Lib.hid (plain_any (c := c) (z := n) (HX.out.below (B := w.heap.size) (by rw [Hk.out]; exact HB1.out)) (by rw [Hk.out]; have := HZ1.out; omega) hm0 true ⟨fun _ => ⟨hm, .inr hr⟩, fun _ => rfl⟩)
  clear hb hg
  go_wp2_with fail
  refine HPL.out.mono ?_
  rintro e W2 ⟨rfl, hb⟩
  clear HPL hc0 hc1
  obtain ⟨p2, hp2⟩ : ∃ p2, W2.heap.size = p2 := ⟨_, rfl⟩
  obtain ⟨W3, hW3⟩ : ∃ W3, W2.alloc (.cells #[.int .i64 n, .slice A m c] 26) = W3 := ⟨_, rfl⟩
  have hkp : k < p2 := by rw [← hp2]; exact Nat.lt_of_lt_of_le (show k < W1.heap.size by have := HZ1.out; omega) hb.size
  have HKP := Lib.hid hkp
  have HB3 : Hid (Below k w W3) := Lib.hid (by rw [← hW3]; exact (HB1.out.trans (hb.mono (by have := HZ1.out; omega))).alloc (by omega) _)
  have HZ3 : Hid (p2 + 1 ≤ W3.heap.size) := Lib.hid (by rw [← hW3, World.size_alloc, hp2]; omega)
  have HG3 : Hid (W3.heap[k]? = some (.cells #[.int .i64 n, .slice A m c] 24 (0, 0))) := Lib.hid (by rw [← hW3, Below.heap_alloc _ _ _ (by omega)]; exact (hb.block k (by have := HZ1.out; omega)).trans HH1.out)
  have HP3 : Hid (W3.heap[p2]? = some (.cells #[.int .i64 n, .slice A m c] 26 (0, 0))) := Lib.hid (by rw [← hW3, ← hp2]; exact World.alloc_heap_new _ _)
  have HW3 := Lib.hid hW3
  clear hb hW3 hkp
  have hg := HG3.out
  have g0 : W3.cell? ⟨k, 0, none⟩ = some (.int .i64 n) := by simp [World.cell?, hg]
  have g1 : W3.cell? ⟨k, 1, none⟩ = some (.slice A m c) := by simp [World.cell?, hg]
  clear hg
  have HDN := Lib.hid (down_bad (c := c) (z := a) (HX.out.below (B := w.heap.size) (by rw [Hk.out]; exact HB3.out)) hr hm0 (by rw [Hk.out]; have := HZ3.out; have := HKP.out; omega))
  have hW3 := HW3.out
  rw [← hW3] at g0 g1
  clear hW3
  go_wp2_with fail
  rw [HW3.out]
  refine HDN.out.mono ?_
  rintro e W4 ⟨rfl, hb⟩
  clear HDN g0 g1
  have HB4 : Hid (Below k w W4) := Lib.hid (HB3.out.trans (hb.mono (by have := HZ3.out; have := HKP.out; omega)))
  have HZ4 : Hid (p2 + 1 ≤ W4.heap.size) := Lib.hid (Nat.le_trans HZ3.out hb.size)
  have HG4 : Hid (W4.heap[k]? = some (.cells #[.int .i64 n, .slice A m c] 24 (0, 0))) := Lib.hid ((hb.block k (by have := HZ3.out; have := HKP.out; omega)).trans HG3.out)
  have HP4 : Hid (W4.heap[p2]? = some (.cells #[.int .i64 n, .slice A m c] 26 (0, 0))) := Lib.hid ((hb.block p2 (by have := HZ3.out; omega)).trans HP3.out)
  clear hb
  have hg := HP4.out
  have q0 : W4.cell? ⟨p2, 0, none⟩ = some (.int .i64 n) := by simp [World.cell?, hg]
  have q1 : W4.cell? ⟨p2, 1, none⟩ = some (.slice A m c) := by simp [World.cell?, hg]
  clear hg
  have HRT := Lib.hid (right_no (c := c) (HX.out.below (B := w.heap.size) (by rw [Hk.out]; exact HB4.out)) hr hm0 (by rw [Hk.out]; have := HZ4.out; have := HKP.out; omega))
  go_wp2_with fail
  refine HRT.out.mono ?_
  rintro e W5 ⟨rfl, hb⟩
  clear HRT q0 q1
  have HB5 : Hid (Below k w W5) := Lib.hid (HB4.out.trans (hb.mono (by have := HZ4.out; have := HKP.out; omega)))
  have HZ5 : Hid (p2 + 1 ≤ W5.heap.size) := Lib.hid (Nat.le_trans HZ4.out hb.size)
  have HG5 : Hid (W5.heap[k]? = some (.cells #[.int .i64 n, .slice A m c] 24 (0, 0))) := Lib.hid ((hb.block k (by have := HZ4.out; have := HKP.out; omega)).trans HG4.out)
  have HP5 : Hid (W5.heap[p2]? = some (.cells #[.int .i64 n, .slice A m c] 26 (0, 0))) := Lib.hid ((hb.block p2 (by have := HZ4.out; omega)).trans HP4.out)
  clear hb
  go_wp2
  go_ret
  exact ⟨rfl, by rw [Hk.out]; exact HB5.out⟩
set_option maxHeartbeats 4000000 in
theorem law_down_out {w : World} {m c : Nat} {N s o : Nat} {A : Option Addr} {g : List (Nat × Nat)} (hx : RdG w w.heap.size A m g) (hi : InN N g) (hn : N ≤ 10) (hm : m ≤ 60) (hs : s < lim) (ho : o < lim) (hf : fitsB s N = false) (hT : Tz w) (h0 : 0 < w.heap.size) :
    Calls Tryd.prog 5 #[.agg #[.int .i64 (N : Int), .slice A m c], .int .u64 (s : Int), .int .u64 (o : Int)] w fun e w' => e = .returned (.bool true) ∧ Below w.heap.size w w' := by
  have hr : GraphR (N : Int) (castE g) := graphR_cast hi (show N ≤ 64 by omega) (by rw [hx.len]; omega)
  have hm0 : m ≤ 9223372036854775807 := by omega
  obtain ⟨k, hk⟩ : ∃ k, w.heap.size = k := ⟨_, rfl⟩
  have Hk := Lib.hid hk
  obtain ⟨W0, hW0⟩ : ∃ W0, w.alloc (.cells #[.int .i64 (N : Int), .slice A m c] 24) = W0 := ⟨_, rfl⟩
  have hb0 : Below k w W0 := by rw [← hW0, ← hk]; exact (Below.refl _ w).alloc (Nat.le_refl _) _
  have hz0 : W0.heap.size = k + 1 := by rw [← hW0, World.size_alloc, hk]
  have hh0 : W0.heap[k]? = some (.cells #[.int .i64 (N : Int), .slice A m c] 24 (0, 0)) := by rw [← hW0, ← hk]; exact World.alloc_heap_new _ _
  have HB0 := Lib.hid hb0
  have HZ0 := Lib.hid hz0
  have HH0 := Lib.hid hh0
  have HX := Lib.hid hx
  have HAN := Lib.hid (anchor_any W0 (hT.below hb0 (by omega)) (by omega))
  have HW0 := Lib.hid hW0
  have HT0 : Hid (Tz w) := Lib.hid hT
  clear hx hT hb0 hz0 hh0 hW0
  go_enter Tryd.func5, Tryd.ntmps5
  go_wp2_with fail
  rw [HW0.out]
  refine HAN.out.mono ?_
  rintro e W1 ⟨rfl, hb⟩
  clear HAN
  have HB1 : Hid (Below k w W1) := Lib.hid (HB0.out.trans (hb.mono (by rw [HZ0.out]; omega)))
  have HZ1 : Hid (k + 1 ≤ W1.heap.size) := Lib.hid (by have := hb.size; rw [HZ0.out] at this; exact this)
  have HH1 : Hid (W1.heap[k]? = some (.cells #[.int .i64 (N : Int), .slice A m c] 24 (0, 0))) := Lib.hid ((hb.block k (by rw [HZ0.out]; omega)).trans HH0.out)
  have hg := HH1.out
  have hc0 : W1.cell? ⟨k, 0, none⟩ = some (.int .i64 (N : Int)) := by simp [World.cell?, hg]
  have hc1 : W1.cell? ⟨k, 1, none⟩ = some (.slice A m c) := by simp [World.cell?, hg]
  have HPL := Lib.hid (plain_any (c := c) (z := (N : Int)) (HX.out.below (B := w.heap.size) (by rw [Hk.out]; exact HB1.out)) (by rw [Hk.out]; have := HZ1.out; omega) hm0 true ⟨fun _ => ⟨hm, .inl (by omega)⟩, fun _ => rfl⟩)
  clear hb hg
  go_wp2_with fail
  refine HPL.out.mono ?_
  rintro e W2 ⟨rfl, hb⟩
  clear HPL hc0 hc1
  obtain ⟨p2, hp2⟩ : ∃ p2, W2.heap.size = p2 := ⟨_, rfl⟩
  obtain ⟨W3, hW3⟩ : ∃ W3, W2.alloc (.cells #[.int .i64 (N : Int), .slice A m c] 26) = W3 := ⟨_, rfl⟩
  have hkp : k < p2 := by rw [← hp2]; exact Nat.lt_of_lt_of_le (show k < W1.heap.size by have := HZ1.out; omega) hb.size
  have HKP := Lib.hid hkp
  have HB3 : Hid (Below k w W3) := Lib.hid (by rw [← hW3]; exact (HB1.out.trans (hb.mono (by have := HZ1.out; omega))).alloc (by omega) _)
  have HZ3 : Hid (p2 + 1 ≤ W3.heap.size) := Lib.hid (by rw [← hW3, World.size_alloc, hp2]; omega)
  have HG3 : Hid (W3.heap[k]? = some (.cells #[.int .i64 (N : Int), .slice A m c] 24 (0, 0))) := Lib.hid (by rw [← hW3, Below.heap_alloc _ _ _ (by omega)]; exact (hb.block k (by have := HZ1.out; omega)).trans HH1.out)
  have HP3 : Hid (W3.heap[p2]? = some (.cells #[.int .i64 (N : Int), .slice A m c] 26 (0, 0))) := Lib.hid (by rw [← hW3, ← hp2]; exact World.alloc_heap_new _ _)
  have HW3 := Lib.hid hW3
  clear hb hW3 hkp
  have hg := HG3.out
  have g0 : W3.cell? ⟨k, 0, none⟩ = some (.int .i64 (N : Int)) := by simp [World.cell?, hg]
  have g1 : W3.cell? ⟨k, 1, none⟩ = some (.slice A m c) := by simp [World.cell?, hg]
  clear hg
  have HDN := Lib.hid (down_out (c := c) (s := s) (HX.out.below (B := w.heap.size) (by rw [Hk.out]; exact HB3.out)) hi (show N ≤ 64 by omega) (show m ≤ 4096 by omega) (by rw [Hk.out]; have := HZ3.out; have := HKP.out; omega) hf)
  have hW3 := HW3.out
  rw [← hW3] at g0 g1
  have hnq : ((s : Int) / 2 ^ N != 0) = true := by rw [fits_neq, hf]; rfl
  clear hW3
  go_wp2_with fail
  rw [HW3.out]
  refine HDN.out.mono ?_
  rintro e W4 ⟨rfl, hb⟩
  clear HDN g0 g1
  have HB4 : Hid (Below k w W4) := Lib.hid (HB3.out.trans (hb.mono (by have := HZ3.out; have := HKP.out; omega)))
  have HZ4 : Hid (p2 + 1 ≤ W4.heap.size) := Lib.hid (Nat.le_trans HZ3.out hb.size)
  have HG4 : Hid (W4.heap[k]? = some (.cells #[.int .i64 (N : Int), .slice A m c] 24 (0, 0))) := Lib.hid ((hb.block k (by have := HZ3.out; have := HKP.out; omega)).trans HG3.out)
  have HP4 : Hid (W4.heap[p2]? = some (.cells #[.int .i64 (N : Int), .slice A m c] 26 (0, 0))) := Lib.hid ((hb.block p2 (by have := HZ3.out; omega)).trans HP3.out)
  clear hb
  have hg := HG4.out
  have g0 : W4.cell? ⟨k, 0, none⟩ = some (.int .i64 (N : Int)) := by simp [World.cell?, hg]
  have g1 : W4.cell? ⟨k, 1, none⟩ = some (.slice A m c) := by simp [World.cell?, hg]
  clear hg
  have hg := HP4.out
  have q0 : W4.cell? ⟨p2, 0, none⟩ = some (.int .i64 (N : Int)) := by simp [World.cell?, hg]
  have q1 : W4.cell? ⟨p2, 1, none⟩ = some (.slice A m c) := by simp [World.cell?, hg]
  clear hg
  have HRT := Lib.hid (right_yes (c := c) (HX.out.below (B := w.heap.size) (by rw [Hk.out]; exact HB4.out)) hr (by rw [Hk.out]; have := HZ4.out; have := HKP.out; omega))
  go_wp2_with fail
  refine HRT.out.mono ?_
  rintro e W5 ⟨rfl, hb⟩
  clear HRT g0 g1 q0 q1
  have HB5 : Hid (Below k w W5) := Lib.hid (HB4.out.trans (hb.mono (by have := HZ4.out; have := HKP.out; omega)))
  have HZ5 : Hid (p2 + 1 ≤ W5.heap.size) := Lib.hid (Nat.le_trans HZ4.out hb.size)
  have HG5 : Hid (W5.heap[k]? = some (.cells #[.int .i64 (N : Int), .slice A m c] 24 (0, 0))) := Lib.hid ((hb.block k (by have := HZ4.out; have := HKP.out; omega)).trans HG4.out)
  have HP5 : Hid (W5.heap[p2]? = some (.cells #[.int .i64 (N : Int), .slice A m c] 26 (0, 0))) := Lib.hid ((hb.block p2 (by have := HZ4.out; omega)).trans HP4.out)
  clear hb
  have hg := HG5.out
  have g0 : W5.cell? ⟨k, 0, none⟩ = some (.int .i64 (N : Int)) := by simp [World.cell?, hg]
  have g1 : W5.cell? ⟨k, 1, none⟩ = some (.slice A m c) := by simp [World.cell?, hg]
  clear hg
  go_wp2
  go_ret
  exact ⟨rfl, by rw [Hk.out]; exact HB5.out⟩
set_option maxHeartbeats 4000000 in
theorem law_down_go {w : World} {m c : Nat} {N s o : Nat} {A : Option Addr} {g : List (Nat × Nat)} (hx : RdG w w.heap.size A m g) (hi : InN N g) (hn : N ≤ 10) (hm : m ≤ 60) (hs : s < lim) (ho : o < lim) (hf : fitsB s N = true) (hT : Tz w) (h0 : 0 < w.heap.size) :
    Calls Tryd.prog 5 #[.agg #[.int .i64 (N : Int), .slice A m c], .int .u64 (s : Int), .int .u64 (o : Int)] w fun e w' => e = .returned (.bool true) ∧ Below w.heap.size w w' := by
  have hr : GraphR (N : Int) (castE g) := graphR_cast hi (show N ≤ 64 by omega) (by rw [hx.len]; omega)
  have hm0 : m ≤ 9223372036854775807 := by omega
  have hdn := down_is hi (show N ≤ 64 by omega) hs
  have hin := inS_fits (show N ≤ 64 by omega) hf
  obtain ⟨d, hd⟩ : ∃ d, dwnG N g s = d := ⟨_, rfl⟩
  rw [hd] at hdn
  have hcl : closedB g d = true := (closedB_iff g d).2 (hdn.closed hi)
  have hdl := hdn.1
  have had : andn s d = 0 := hdn.has hs
  have hdf : fitsB d N = true := fits_of (fun u hu => (hdn.inS hin).2 u hu)
  have HDF := Lib.hid hdf
  have HDN0 := Lib.hid hdn
  have HIN := Lib.hid hin
  have HDL := Lib.hid hdl
  have HCL := Lib.hid hcl
  have HAD := Lib.hid had
  have HD := Lib.hid hd
  have HS := Lib.hid hs
  have HO := Lib.hid ho
  have HI := Lib.hid hi
  have hnq : ((s : Int) / 2 ^ N != 0) = false := by rw [fits_neq, hf]; rfl
  have HNQ := Lib.hid hnq
  clear hdn hin hcl hdl had hdf hnq hd
  obtain ⟨k, hk⟩ : ∃ k, w.heap.size = k := ⟨_, rfl⟩
  have Hk := Lib.hid hk
  obtain ⟨W0, hW0⟩ : ∃ W0, w.alloc (.cells #[.int .i64 (N : Int), .slice A m c] 24) = W0 := ⟨_, rfl⟩
  have hb0 : Below k w W0 := by rw [← hW0, ← hk]; exact (Below.refl _ w).alloc (Nat.le_refl _) _
  have hz0 : W0.heap.size = k + 1 := by rw [← hW0, World.size_alloc, hk]
  have hh0 : W0.heap[k]? = some (.cells #[.int .i64 (N : Int), .slice A m c] 24 (0, 0)) := by rw [← hW0, ← hk]; exact World.alloc_heap_new _ _
  have HB0 := Lib.hid hb0
  have HZ0 := Lib.hid hz0
  have HH0 := Lib.hid hh0
  have HX := Lib.hid hx
  have HAN := Lib.hid (anchor_any W0 (hT.below hb0 (by omega)) (by omega))
  have HW0 := Lib.hid hW0
  have HT0 : Hid (Tz w) := Lib.hid hT
  clear hx hT hb0 hz0 hh0 hW0
  go_enter Tryd.func5, Tryd.ntmps5
  go_wp2_with fail
  rw [HW0.out]
  refine HAN.out.mono ?_
  rintro e W1 ⟨rfl, hb⟩
  clear HAN
  have HB1 : Hid (Below k w W1) := Lib.hid (HB0.out.trans (hb.mono (by rw [HZ0.out]; omega)))
  have HZ1 : Hid (k + 1 ≤ W1.heap.size) := Lib.hid (by have := hb.size; rw [HZ0.out] at this; exact this)
  have HH1 : Hid (W1.heap[k]? = some (.cells #[.int .i64 (N : Int), .slice A m c] 24 (0, 0))) := Lib.hid ((hb.block k (by rw [HZ0.out]; omega)).trans HH0.out)
  have hg := HH1.out
  have hc0 : W1.cell? ⟨k, 0, none⟩ = some (.int .i64 (N : Int)) := by simp [World.cell?, hg]
  have hc1 : W1.cell? ⟨k, 1, none⟩ = some (.slice A m c) := by simp [World.cell?, hg]
  have HPL := Lib.hid (plain_any (c := c) (z := (N : Int)) (HX.out.below (B := w.heap.size) (by rw [Hk.out]; exact HB1.out)) (by rw [Hk.out]; have := HZ1.out; omega) hm0 true ⟨fun _ => ⟨hm, .inl (by omega)⟩, fun _ => rfl⟩)
  clear hb hg
  go_wp2_with fail
  refine HPL.out.mono ?_
  rintro e W2 ⟨rfl, hb⟩
  clear HPL hc0 hc1
  obtain ⟨p2, hp2⟩ : ∃ p2, W2.heap.size = p2 := ⟨_, rfl⟩
  obtain ⟨W3, hW3⟩ : ∃ W3, W2.alloc (.cells #[.int .i64 (N : Int), .slice A m c] 26) = W3 := ⟨_, rfl⟩
  have hkp : k < p2 := by rw [← hp2]; exact Nat.lt_of_lt_of_le (show k < W1.heap.size by have := HZ1.out; omega) hb.size
  have HKP := Lib.hid hkp
  have HB3 : Hid (Below k w W3) := Lib.hid (by rw [← hW3]; exact (HB1.out.trans (hb.mono (by have := HZ1.out; omega))).alloc (by omega) _)
  have HZ3 : Hid (p2 + 1 ≤ W3.heap.size) := Lib.hid (by rw [← hW3, World.size_alloc, hp2]; omega)
  have HG3 : Hid (W3.heap[k]? = some (.cells #[.int .i64 (N : Int), .slice A m c] 24 (0, 0))) := Lib.hid (by rw [← hW3, Below.heap_alloc _ _ _ (by omega)]; exact (hb.block k (by have := HZ1.out; omega)).trans HH1.out)
  have HP3 : Hid (W3.heap[p2]? = some (.cells #[.int .i64 (N : Int), .slice A m c] 26 (0, 0))) := Lib.hid (by rw [← hW3, ← hp2]; exact World.alloc_heap_new _ _)
  have HW3 := Lib.hid hW3
  clear hb hW3 hkp
  have hg := HG3.out
  have g0 : W3.cell? ⟨k, 0, none⟩ = some (.int .i64 (N : Int)) := by simp [World.cell?, hg]
  have g1 : W3.cell? ⟨k, 1, none⟩ = some (.slice A m c) := by simp [World.cell?, hg]
  clear hg
  have HDN := Lib.hid (down_any (c := c) (s := s) (HX.out.below (B := w.heap.size) (by rw [Hk.out]; exact HB3.out)) hi (show N ≤ 64 by omega) (show m ≤ 4096 by omega) (by rw [Hk.out]; have := HZ3.out; have := HKP.out; omega) hs hf)
  rw [HD.out] at HDN
  have hW3 := HW3.out
  rw [← hW3] at g0 g1
  clear hW3 hi hs ho hf
  go_wp2_with fail
  rw [HW3.out]
  refine HDN.out.mono ?_
  rintro e W4 ⟨rfl, hb⟩
  clear HDN g0 g1
  have HB4 : Hid (Below k w W4) := Lib.hid (HB3.out.trans (hb.mono (by have := HZ3.out; have := HKP.out; omega)))
  have HZ4 : Hid (p2 + 1 ≤ W4.heap.size) := Lib.hid (Nat.le_trans HZ3.out hb.size)
  have HG4 : Hid (W4.heap[k]? = some (.cells #[.int .i64 (N : Int), .slice A m c] 24 (0, 0))) := Lib.hid ((hb.block k (by have := HZ3.out; have := HKP.out; omega)).trans HG3.out)
  have HP4 : Hid (W4.heap[p2]? = some (.cells #[.int .i64 (N : Int), .slice A m c] 26 (0, 0))) := Lib.hid ((hb.block p2 (by have := HZ3.out; omega)).trans HP3.out)
  clear hb
  have hg := HG4.out
  have g0 : W4.cell? ⟨k, 0, none⟩ = some (.int .i64 (N : Int)) := by simp [World.cell?, hg]
  have g1 : W4.cell? ⟨k, 1, none⟩ = some (.slice A m c) := by simp [World.cell?, hg]
  clear hg
  have hg := HP4.out
  have q0 : W4.cell? ⟨p2, 0, none⟩ = some (.int .i64 (N : Int)) := by simp [World.cell?, hg]
  have q1 : W4.cell? ⟨p2, 1, none⟩ = some (.slice A m c) := by simp [World.cell?, hg]
  clear hg
  have HRT := Lib.hid (right_yes (c := c) (HX.out.below (B := w.heap.size) (by rw [Hk.out]; exact HB4.out)) hr (by rw [Hk.out]; have := HZ4.out; have := HKP.out; omega))
  have hnq := HNQ.out
  go_wp2_with fail
  refine HRT.out.mono ?_
  rintro e W5 ⟨rfl, hb⟩
  clear HRT g0 g1 q0 q1
  have HB5 : Hid (Below k w W5) := Lib.hid (HB4.out.trans (hb.mono (by have := HZ4.out; have := HKP.out; omega)))
  have HZ5 : Hid (p2 + 1 ≤ W5.heap.size) := Lib.hid (Nat.le_trans HZ4.out hb.size)
  have HG5 : Hid (W5.heap[k]? = some (.cells #[.int .i64 (N : Int), .slice A m c] 24 (0, 0))) := Lib.hid ((hb.block k (by have := HZ4.out; have := HKP.out; omega)).trans HG4.out)
  have HP5 : Hid (W5.heap[p2]? = some (.cells #[.int .i64 (N : Int), .slice A m c] 26 (0, 0))) := Lib.hid ((hb.block p2 (by have := HZ4.out; omega)).trans HP4.out)
  clear hb
  have hg := HG5.out
  have g0 : W5.cell? ⟨k, 0, none⟩ = some (.int .i64 (N : Int)) := by simp [World.cell?, hg]
  have g1 : W5.cell? ⟨k, 1, none⟩ = some (.slice A m c) := by simp [World.cell?, hg]
  clear hg
  have hg := HP5.out
  have q0 : W5.cell? ⟨p2, 0, none⟩ = some (.int .i64 (N : Int)) := by simp [World.cell?, hg]
  have q1 : W5.cell? ⟨p2, 1, none⟩ = some (.slice A m c) := by simp [World.cell?, hg]
  clear hg
  have HC1 := Lib.hid (refClosed_any (c := c) (s := d) (HX.out.below (B := w.heap.size) (by rw [Hk.out]; exact HB5.out)) HI.out (show N ≤ 64 by omega) (show m ≤ 4096 by omega) (by rw [Hk.out]; have := HZ5.out; have := HKP.out; omega) HDL.out)
  rw [HCL.out] at HC1
  have hn1 : bits BinOp.andNot IntKind.u64 (s : Int) (d : Int) = 0 := by rw [andn_spell HS.out HDL.out, HAD.out]; rfl
  have hdq : ((d : Int) / 2 ^ N != 0) = false := by rw [fits_neq, HDF.out]; rfl
  go_wp2_with fail
  refine HC1.out.mono ?_
  rintro e W6 ⟨rfl, hb⟩
  clear HC1 g0 g1 q0 q1
  have HB6 : Hid (Below k w W6) := Lib.hid (HB5.out.trans (hb.mono (by have := HZ5.out; have := HKP.out; omega)))
  have HZ6 : Hid (p2 + 1 ≤ W6.heap.size) := Lib.hid (Nat.le_trans HZ5.out hb.size)
  have HG6 : Hid (W6.heap[k]? = some (.cells #[.int .i64 (N : Int), .slice A m c] 24 (0, 0))) := Lib.hid ((hb.block k (by have := HZ5.out; have := HKP.out; omega)).trans HG5.out)
  have HP6 : Hid (W6.heap[p2]? = some (.cells #[.int .i64 (N : Int), .slice A m c] 26 (0, 0))) := Lib.hid ((hb.block p2 (by have := HZ5.out; omega)).trans HP5.out)
  clear hb
  have hg := HG6.out
  have g0 : W6.cell? ⟨k, 0, none⟩ = some (.int .i64 (N : Int)) := by simp [World.cell?, hg]
  have g1 : W6.cell? ⟨k, 1, none⟩ = some (.slice A m c) := by simp [World.cell?, hg]
  clear hg
  have hg := HP6.out
  have q0 : W6.cell? ⟨p2, 0, none⟩ = some (.int .i64 (N : Int)) := by simp [World.cell?, hg]
  have q1 : W6.cell? ⟨p2, 1, none⟩ = some (.slice A m c) := by simp [World.cell?, hg]
  clear hg
  obtain ⟨X, hX0⟩ : ∃ X, (o ||| s) &&& (2 ^ N - 1) = X := ⟨_, rfl⟩
  have hbx : ∀ u, bt X u = ((bt o u || bt s u) && decide (u < N)) := fun u => by
    rw [← hX0, ← bt_full N u]
    unfold bt
    rw [Nat.testBit_and, Nat.testBit_or]
  have hP1 : (2 : Nat) ^ N ≤ 1024 := by
    have h2 : (2 : Nat) ^ N ≤ 2 ^ 10 := Nat.pow_le_pow_right (by omega) hn
    omega
  have hP0 := Nat.two_pow_pos N
  have hXl : X < lim := by
    have h1 : X ≤ 2 ^ N - 1 := by rw [← hX0]; exact Nat.and_le_right
    exact (show X < 18446744073709551616 by omega)
  have hX : bits BinOp.and IntKind.u64 (bits BinOp.or IntKind.u64 (o : Int) (s : Int)) (IntKind.u64.wrap (IntKind.u64.wrap (2 ^ N) - 1)) = (X : Int) := by
    have e1 : bits BinOp.or IntKind.u64 (o : Int) (s : Int) = ((o ||| s : Nat) : Int) := bits_or_u64_nat o s HO.out HS.out
    have e2 : ((2 : Int) ^ N) = ((2 ^ N : Nat) : Int) := by simp
    have e3 : IntKind.u64.wrap (IntKind.u64.wrap (2 ^ N) - 1) = ((2 ^ N - 1 : Nat) : Int) := by
      rw [e2]
      generalize 2 ^ N = P at hP0 hP1
      rw [IntKind.wrap_u64, IntKind.wrap_u64]
      omega
    rw [e1, e3, bits_and_u64_nat (o ||| s) (2 ^ N - 1) (orn_lt HO.out HS.out) (by omega), hX0]
  have hle : ∀ u, bt s u = true → bt X u = true := fun u hu => by
    rw [hbx, hu, Bool.or_true, Bool.true_and]
    refine decide_eq_true (Nat.lt_of_not_le fun h => ?_)
    rw [HIN.out.2 u h] at hu; cases hu
  have HXC : Hid (closedB g X = true → andn d X = 0) := Lib.hid (fun h => HDN0.out.least hXl ((closedB_iff g X).1 h) hle)
  have HSC : Hid (closedB g s = true → d = s) := Lib.hid (fun h => HDN0.out.same HS.out ((closedB_iff g s).1 h))
  have HCX := Lib.hid (refClosed_any (c := c) (s := X) (HX.out.below (B := w.heap.size) (by rw [Hk.out]; exact HB6.out)) HI.out (show N ≤ 64 by omega) (show m ≤ 4096 by omega) (by rw [Hk.out]; have := HZ6.out; have := HKP.out; omega) hXl)
  obtain ⟨cx, hcx⟩ : ∃ cx, closedB g X = cx := ⟨_, rfl⟩
  obtain ⟨cs, hcs⟩ : ∃ cs, closedB g s = cs := ⟨_, rfl⟩
  rw [hcx] at HXC HCX
  rw [hcs] at HSC
  have HCS := Lib.hid hcs
  have HXL := Lib.hid hXl
  clear hbx hP1 hP0 hX0 hle hcx hcs hXl
  go_wp2_with fail
  refine HCX.out.mono ?_
  rintro e W7 ⟨rfl, hb⟩
  clear HCX g0 g1 q0 q1 hX hn1 hdq
  have HB7 : Hid (Below k w W7) := Lib.hid (HB6.out.trans (hb.mono (by have := HZ6.out; have := HKP.out; omega)))
  have HZ7 : Hid (p2 + 1 ≤ W7.heap.size) := Lib.hid (Nat.le_trans HZ6.out hb.size)
  have HG7 : Hid (W7.heap[k]? = some (.cells #[.int .i64 (N : Int), .slice A m c] 24 (0, 0))) := Lib.hid ((hb.block k (by have := HZ6.out; have := HKP.out; omega)).trans HG6.out)
  have HP7 : Hid (W7.heap[p2]? = some (.cells #[.int .i64 (N : Int), .slice A m c] 26 (0, 0))) := Lib.hid ((hb.block p2 (by have := HZ6.out; omega)).trans HP6.out)
  clear hb
  have hg := HP7.out
  have q0 : W7.cell? ⟨p2, 0, none⟩ = some (.int .i64 (N : Int)) := by simp [World.cell?, hg]
  have q1 : W7.cell? ⟨p2, 1, none⟩ = some (.slice A m c) := by simp [World.cell?, hg]
  clear hg
  have HC2 := Lib.hid (refClosed_any (c := c) (s := s) (HX.out.below (B := w.heap.size) (by rw [Hk.out]; exact HB7.out)) HI.out (show N ≤ 64 by omega) (show m ≤ 4096 by omega) (by rw [Hk.out]; have := HZ7.out; have := HKP.out; omega) HS.out)
  rw [HCS.out] at HC2
  cases cx with
  | true =>
    have hn2 : bits BinOp.andNot IntKind.u64 (d : Int) (X : Int) = 0 := by rw [andn_spell HDL.out HXL.out, HXC.out rfl]; rfl
    go_wp2_with fail
    refine HC2.out.mono ?_
    rintro e W8 ⟨rfl, hb⟩
    have HB8 : Hid (Below w.heap.size w W8) := Lib.hid (by rw [Hk.out]; exact HB7.out.trans (hb.mono (by have := HZ7.out; have := HKP.out; omega)))
    clear HC2 hb
    cases cs with
    | true =>
      have hds : d = s := HSC.out rfl
      have heq : ((d : Int) == (s : Int)) = true := by rw [hds]; exact beq_self_eq_true _
      clear hds
      go_wp2
      go_ret
      exact ⟨rfl, HB8.out⟩
    | false =>
      go_wp2
      go_ret
      exact ⟨rfl, HB8.out⟩
  | false =>
    go_wp2_with fail
    refine HC2.out.mono ?_
    rintro e W8 ⟨rfl, hb⟩
    have HB8 : Hid (Below w.heap.size w W8) := Lib.hid (by rw [Hk.out]; exact HB7.out.trans (hb.mono (by have := HZ7.out; have := HKP.out; omega)))
    clear HC2 hb
    cases cs with
    | true =>
      have hds : d = s := HSC.out rfl
      have heq : ((d : Int) == (s : Int)) = true := by rw [hds]; exact beq_self_eq_true _
      clear hds
      go_wp2
      go_ret
      exact ⟨rfl, HB8.out⟩
    | false =>
      go_wp2
      go_ret
      exact ⟨rfl, HB8.out⟩
theorem law_down {w : World} {m c : Nat} {n a b : Int} {A : Option Addr} {es : List (Int × Int)} (hx : RdE w w.heap.size A m es) (hm0 : m ≤ 9223372036854775807) (ha : 0 ≤ a ∧ a ≤ 18446744073709551615) (hb : 0 ≤ b ∧ b ≤ 18446744073709551615) (hT : Tz w) (h0 : 0 < w.heap.size) :
    Calls Tryd.prog 5 #[.agg #[.int .i64 n, .slice A m c], .int .u64 a, .int .u64 b] w fun e w' => e = .returned (.bool true) ∧ Below w.heap.size w w' := by
  by_cases hok : m ≤ 60 ∧ (n ≤ 10 ∨ ¬ GraphR n es)
  · by_cases hr : GraphR n es
    · have hn : n ≤ 10 := hok.2.elim id (fun h => (h hr).elim)
      obtain ⟨N, g, rfl, rfl, hi, _, _⟩ := graph_nat hr
      obtain ⟨s, rfl⟩ := Int.eq_ofNat_of_zero_le ha.1
      obtain ⟨o, rfl⟩ := Int.eq_ofNat_of_zero_le hb.1
      have hs : s < lim := show s < 18446744073709551616 by omega
      have ho : o < lim := show o < 18446744073709551616 by omega
      cases hf : fitsB s N with
      | true => exact law_down_go hx hi (by omega) hok.1 hs ho hf hT h0
      | false => exact law_down_out hx hi (by omega) hok.1 hs ho hf hT h0
    · exact law_down_wrong hx hm0 hok.1 hr hT h0
  · exact law_down_skip hx hm0 hok hT h0
end Go.Proofs.YtfcabdgidlnljaaDoor
