/-
  THE WALK of the statement LatticeAll (printed by genlawla.py), once a sort of 1024 sets is there (hS).
-/
import Derived.Test.YtfcabdgidlnljaaDoorLLaw0
import Derived.Test.YtfcabdgidlnljaaDoorLClErr
import Derived.Test.YtfcabdgidlnljaaDoorDCirc
namespace Go.Proofs.YtfcabdgidlnljaaDoor
open Go.RowKit
open DiP
set_option linter.unusedVariables false
set_option linter.unusedSimpArgs false
set_option maxRecDepth 100000
/-- How many closed sets are below y. -/
def cntC (p : Nat → Bool) (y : Nat) : Nat := ((List.range y).filter p).length
theorem cntC_succ (p : Nat → Bool) (y : Nat) : cntC p (y + 1) = cntC p y + (if p y = true then 1 else 0) := by
  unfold cntC
  rw [List.range_succ, List.filter_append, List.length_append]
  by_cases h : p y = true
  · rw [if_pos h]; simp [h]
  · rw [if_neg h]; simp [h]
theorem cntC_le (p : Nat → Bool) (y : Nat) : cntC p y ≤ y := by
  unfold cntC
  have := List.length_filter_le p (List.range y)
  rwa [List.length_range] at this
theorem cntC_at {p : Nat → Bool} {y : Nat} (h : p y = true) : ∀ M, y < M → ((List.range M).filter p)[cntC p y]? = some y
  | 0, hm => by omega
  | M + 1, hm => by
    rw [List.range_succ, List.filter_append]
    by_cases e : y = M
    · subst e
      rw [List.getElem?_append_right (show ((List.range y).filter p).length ≤ cntC p y from Nat.le_refl _), show cntC p y - ((List.range y).filter p).length = 0 from Nat.sub_self _]
      simp [h]
    · have ih := cntC_at h M (by omega)
      obtain ⟨hl, _⟩ := List.getElem?_eq_some_iff.1 ih
      rw [List.getElem?_append_left hl]; exact ih
set_option maxHeartbeats 8000000 in
theorem law_all_skip {w : World} {m c : Nat} {n : Int} {A : Option Addr} {es : List (Int × Int)} (hx : RdE w w.heap.size A m es) (hm0 : m ≤ 9223372036854775807) (hok : ¬ (m ≤ 60 ∧ (n ≤ 10 ∨ ¬ GraphR n es))) (hT : Tz w) (h0 : 0 < w.heap.size) :
    Calls Tryd.prog 3 #[.agg #[.int .i64 n, .slice A m c]] w fun e w' => e = .returned (.bool true) ∧ Below w.heap.size w w' := by
  obtain ⟨k, hk⟩ : ∃ k, w.heap.size = k := ⟨_, rfl⟩
  have Hk := Lib.hid hk
  obtain ⟨W0, hW0⟩ : ∃ W0, w.alloc (.cells #[.int .i64 n, .slice A m c] 24) = W0 := ⟨_, rfl⟩
  have hb0 : Below k w W0 := by rw [← hW0, ← hk]; exact (Below.refl _ w).alloc (Nat.le_refl _) _
  have hz0 : W0.heap.size = k + 1 := by rw [← hW0, World.size_alloc, hk]
  have hh0 : W0.heap[k]? = some (.cells #[.int .i64 n, .slice A m c] 24 (0, 0)) := by rw [← hW0, ← hk]; exact World.alloc_heap_new _ _
  have HB0 := Lib.hid hb0
  have HZ0 := Lib.hid hz0
  have HH0 := Lib.hid hh0
  have HX := Lib.hid hx
  have HAN := Lib.hid (anchor_any W0 (hT.below hb0 (by omega)) (by omega))
  have HW0 := Lib.hid hW0
  have HT0 : Hid (Tz w) := Lib.hid hT
  clear hx hT hb0 hz0 hh0 hW0
  go_enter Tryd.func3, Tryd.ntmps3
  go_wp2_with fail
  rw [HW0.out]
  refine HAN.out.mono ?_
  rintro e W1 ⟨rfl, hb⟩
  clear HAN
  have HB1 : Hid (Below k w W1) := Lib.hid (HB0.out.trans (hb.mono (by rw [HZ0.out]; omega)))
  have HZ1 : Hid (k + 1 ≤ W1.heap.size) := Lib.hid (by have := hb.size; rw [HZ0.out] at this; exact this)
  have HH1 : Hid (W1.heap[k]? = some (.cells #[.int .i64 n, .slice A m c] 24 (0, 0))) := Lib.hid ((hb.block k (by rw [HZ0.out]; omega)).trans HH0.out)
  have hg := HH1.out
  have hc0 : W1.cell? ⟨k, 0, none⟩ = some (.int .i64 n) := by simp [World.cell?, hg]
  have hc1 : W1.cell? ⟨k, 1, none⟩ = some (.slice A m c) := by simp [World.cell?, hg]
  have HPL := Lib.hid (plain_any (c := c) (z := n) (HX.out.below (B := w.heap.size) (by rw [Hk.out]; exact HB1.out)) (by rw [Hk.out]; have := HZ1.out; omega) hm0 false ⟨nofun, fun h => (hok h).elim⟩)
  clear hb hg
  go_wp2_with fail
  refine HPL.out.mono ?_
  rintro e W2 ⟨rfl, hb⟩
  clear HPL hc0 hc1
  obtain ⟨p2, hp2⟩ : ∃ p2, W2.heap.size = p2 := ⟨_, rfl⟩
  obtain ⟨W3, hW3⟩ : ∃ W3, W2.alloc (.cells #[.int .i64 n, .slice A m c] 26) = W3 := ⟨_, rfl⟩
  have hkp : k < p2 := by rw [← hp2]; exact Nat.lt_of_lt_of_le (show k < W1.heap.size by have := HZ1.out; omega) hb.size
  have HKP := Lib.hid hkp
  have HB3 : Hid (Below k w W3) := Lib.hid (by rw [← hW3]; exact (HB1.out.trans (hb.mono (by have := HZ1.out; omega))).alloc (by omega) _)
  have HZ3 : Hid (p2 + 1 ≤ W3.heap.size) := Lib.hid (by rw [← hW3, World.size_alloc, hp2]; omega)
  have HG3 : Hid (W3.heap[k]? = some (.cells #[.int .i64 n, .slice A m c] 24 (0, 0))) := Lib.hid (by rw [← hW3, Below.heap_alloc _ _ _ (by omega)]; exact (hb.block k (by have := HZ1.out; omega)).trans HH1.out)
  have HP3 : Hid (W3.heap[p2]? = some (.cells #[.int .i64 n, .slice A m c] 26 (0, 0))) := Lib.hid (by rw [← hW3, ← hp2]; exact World.alloc_heap_new _ _)
  have HW3 := Lib.hid hW3
  clear hb hW3 hkp
  go_wp2
  rw [HW3.out]
  go_ret
  exact ⟨rfl, by rw [Hk.out]; exact HB3.out⟩
set_option maxHeartbeats 8000000 in
theorem law_all_wrong {w : World} {m c : Nat} {n : Int} {A : Option Addr} {es : List (Int × Int)} (hx : RdE w w.heap.size A m es) (hm0 : m ≤ 9223372036854775807) (hm : m ≤ 60) (hr : ¬ GraphR n es) (hT : Tz w) (h0 : 0 < w.heap.size) :
    Calls Tryd.prog 3 #[.agg #[.int .i64 n, .slice A m c]] w fun e w' => e = .returned (.bool true) ∧ Below w.heap.size w w' := by
  obtain ⟨k, hk⟩ : ∃ k, w.heap.size = k := ⟨_, rfl⟩
  have Hk := Lib.hid hk
  obtain ⟨W0, hW0⟩ : ∃ W0, w.alloc (.cells #[.int .i64 n, .slice A m c] 24) = W0 := ⟨_, rfl⟩
  have hb0 : Below k w W0 := by rw [← hW0, ← hk]; exact (Below.refl _ w).alloc (Nat.le_refl _) _
  have hz0 : W0.heap.size = k + 1 := by rw [← hW0, World.size_alloc, hk]
  have hh0 : W0.heap[k]? = some (.cells #[.int .i64 n, .slice A m c] 24 (0, 0)) := by rw [← hW0, ← hk]; exact World.alloc_heap_new _ _
  have HB0 := Lib.hid hb0
  have HZ0 := Lib.hid hz0
  have HH0 := Lib.hid hh0
  have HX := Lib.hid hx
  have HAN := Lib.hid (anchor_any W0 (hT.below hb0 (by omega)) (by omega))
  have HW0 := Lib.hid hW0
  have HT0 : Hid (Tz w) := Lib.hid hT
  clear hx hT hb0 hz0 hh0 hW0
  go_enter Tryd.func3, Tryd.ntmps3
  go_wp2_with fail
  rw [HW0.out]
  refine HAN.out.mono ?_
  rintro e W1 ⟨rfl, hb⟩
  clear HAN
  have HB1 : Hid (Below k w W1) := Lib.hid (HB0.out.trans (hb.mono (by rw [HZ0.out]; omega)))
  have HZ1 : Hid (k + 1 ≤ W1.heap.size) := Lib.hid (by have := hb.size; rw [HZ0.out] at this; exact this)
  have HH1 : Hid (W1.heap[k]? = some (.cells #[.int .i64 n, .slice A m c] 24 (0, 0))) := Lib.hid ((hb.block k (by rw [HZ0.out]; omega)).trans HH0.out)
  have hg := HH1.out
  have hc0 : W1.cell? ⟨k, 0, none⟩ = some (.int .i64 n) := by simp [World.cell?, hg]
  have hc1 : W1.cell? ⟨k, 1, none⟩ = some (.slice A m c) := by simp [World.cell?, hg]
  have HPL := Lib.hid (plain_any (c := c) (z := n) (HX.out.below (B := w.heap.size) (by rw [Hk.out]; exact HB1.out)) (by rw [Hk.out]; have := HZ1.out; omega) hm0 true ⟨fun _ => ⟨hm, .inr hr⟩, fun _ => rfl⟩)
  clear hb hg
  go_wp2_with fail
  refine HPL.out.mono ?_
  rintro e W2 ⟨rfl, hb⟩
  clear HPL hc0 hc1
  obtain ⟨p2, hp2⟩ : ∃ p2, W2.heap.size = p2 := ⟨_, rfl⟩
  obtain ⟨W3, hW3⟩ : ∃ W3, W2.alloc (.cells #[.int .i64 n, .slice A m c] 26) = W3 := ⟨_, rfl⟩
  have hkp : k < p2 := by rw [← hp2]; exact Nat.lt_of_lt_of_le (show k < W1.heap.size by have := HZ1.out; omega) hb.size
  have HKP := Lib.hid hkp
  have HB3 : Hid (Below k w W3) := Lib.hid (by rw [← hW3]; exact (HB1.out.trans (hb.mono (by have := HZ1.out; omega))).alloc (by omega) _)
  have HZ3 : Hid (p2 + 1 ≤ W3.heap.size) := Lib.hid (by rw [← hW3, World.size_alloc, hp2]; omega)
  have HG3 : Hid (W3.heap[k]? = some (.cells #[.int .i64 n, .slice A m c] 24 (0, 0))) := Lib.hid (by rw [← hW3, Below.heap_alloc _ _ _ (by omega)]; exact (hb.block k (by have := HZ1.out; omega)).trans HH1.out)
  have HP3 : Hid (W3.heap[p2]? = some (.cells #[.int .i64 n, .slice A m c] 26 (0, 0))) := Lib.hid (by rw [← hW3, ← hp2]; exact World.alloc_heap_new _ _)
  have HW3 := Lib.hid hW3
  clear hb hW3 hkp
  have hg := HG3.out
  have g0 : W3.cell? ⟨k, 0, none⟩ = some (.int .i64 n) := by simp [World.cell?, hg]
  have g1 : W3.cell? ⟨k, 1, none⟩ = some (.slice A m c) := by simp [World.cell?, hg]
  clear hg
  have HAL := Lib.hid (all_bad (c := c) (HX.out.below (B := w.heap.size) (by rw [Hk.out]; exact HB3.out)) hr hm0 (by rw [Hk.out]; have := HZ3.out; have := HKP.out; omega))
  have hW3 := HW3.out
  rw [← hW3] at g0 g1
  clear hW3
  go_wp2_with fail
  rw [HW3.out]
  refine HAL.out.mono ?_
  rintro e W4 ⟨rfl, hb⟩
  clear HAL g0 g1
  have HW34 := Lib.hid hb
  have HB4 : Hid (Below k w W4) := Lib.hid (HB3.out.trans (hb.mono (by have := HZ3.out; have := HKP.out; omega)))
  have HZ4 : Hid (p2 + 1 ≤ W4.heap.size) := Lib.hid (Nat.le_trans HZ3.out hb.size)
  have HG4 : Hid (W4.heap[k]? = some (.cells #[.int .i64 n, .slice A m c] 24 (0, 0))) := Lib.hid ((hb.block k (by have := HZ3.out; have := HKP.out; omega)).trans HG3.out)
  have HP4 : Hid (W4.heap[p2]? = some (.cells #[.int .i64 n, .slice A m c] 26 (0, 0))) := Lib.hid ((hb.block p2 (by have := HZ3.out; omega)).trans HP3.out)
  clear hb
  have hg := HG4.out
  have g0 : W4.cell? ⟨k, 0, none⟩ = some (.int .i64 n) := by simp [World.cell?, hg]
  have g1 : W4.cell? ⟨k, 1, none⟩ = some (.slice A m c) := by simp [World.cell?, hg]
  clear hg
  have HWY := Lib.hid (ways_bad (c := c) (HX.out.below (B := w.heap.size) (by rw [Hk.out]; exact HB4.out)) hr hm0 (by rw [Hk.out]; have := HZ4.out; have := HKP.out; omega))
  go_wp2_with fail
  refine HWY.out.mono ?_
  rintro e W5 ⟨rfl, hb⟩
  clear HWY g0 g1
  have HW45 := Lib.hid hb
  have HB5 : Hid (Below k w W5) := Lib.hid (HB4.out.trans (hb.mono (by have := HZ4.out; have := HKP.out; omega)))
  have HZ5 : Hid (p2 + 1 ≤ W5.heap.size) := Lib.hid (Nat.le_trans HZ4.out hb.size)
  have HG5 : Hid (W5.heap[k]? = some (.cells #[.int .i64 n, .slice A m c] 24 (0, 0))) := Lib.hid ((hb.block k (by have := HZ4.out; have := HKP.out; omega)).trans HG4.out)
  have HP5 : Hid (W5.heap[p2]? = some (.cells #[.int .i64 n, .slice A m c] 26 (0, 0))) := Lib.hid ((hb.block p2 (by have := HZ4.out; omega)).trans HP4.out)
  clear hb
  have hg := HP5.out
  have q0 : W5.cell? ⟨p2, 0, none⟩ = some (.int .i64 n) := by simp [World.cell?, hg]
  have q1 : W5.cell? ⟨p2, 1, none⟩ = some (.slice A m c) := by simp [World.cell?, hg]
  clear hg
  have HRT := Lib.hid (right_no (c := c) (HX.out.below (B := w.heap.size) (by rw [Hk.out]; exact HB5.out)) hr hm0 (by rw [Hk.out]; have := HZ5.out; have := HKP.out; omega))
  go_wp2_with fail
  refine HRT.out.mono ?_
  rintro e W6 ⟨rfl, hb⟩
  clear HRT q0 q1
  have HW56 := Lib.hid hb
  have HB6 : Hid (Below k w W6) := Lib.hid (HB5.out.trans (hb.mono (by have := HZ5.out; have := HKP.out; omega)))
  have HZ6 : Hid (p2 + 1 ≤ W6.heap.size) := Lib.hid (Nat.le_trans HZ5.out hb.size)
  have HG6 : Hid (W6.heap[k]? = some (.cells #[.int .i64 n, .slice A m c] 24 (0, 0))) := Lib.hid ((hb.block k (by have := HZ5.out; have := HKP.out; omega)).trans HG5.out)
  have HP6 : Hid (W6.heap[p2]? = some (.cells #[.int .i64 n, .slice A m c] 26 (0, 0))) := Lib.hid ((hb.block p2 (by have := HZ5.out; omega)).trans HP5.out)
  clear hb
  go_wp2
  go_ret
  exact ⟨rfl, by rw [Hk.out]; exact HB6.out⟩
set_option maxHeartbeats 8000000 in
theorem law_all_circ {w : World} {m c : Nat} {N : Nat} {A : Option Addr} {g : List (Nat × Nat)} (hx : RdG w w.heap.size A m g) (hi : InN N g) (hn : N ≤ 10) (hm : m ≤ 60) (hG : ¬ Goes (befG g) N N) (hT : Tz w) (h0 : 0 < w.heap.size) :
    Calls Tryd.prog 3 #[.agg #[.int .i64 (N : Int), .slice A m c]] w fun e w' => e = .returned (.bool true) ∧ Below w.heap.size w w' := by
  have hr : GraphR (N : Int) (castE g) := graphR_cast hi (show N ≤ 64 by omega) (by rw [hx.len]; omega)
  have hm0 : m ≤ 9223372036854775807 := by omega
  have HI := Lib.hid hi
  obtain ⟨k, hk⟩ : ∃ k, w.heap.size = k := ⟨_, rfl⟩
  have Hk := Lib.hid hk
  obtain ⟨W0, hW0⟩ : ∃ W0, w.alloc (.cells #[.int .i64 (N : Int), .slice A m c] 24) = W0 := ⟨_, rfl⟩
  have hb0 : Below k w W0 := by rw [← hW0, ← hk]; exact (Below.refl _ w).alloc (Nat.le_refl _) _
  have hz0 : W0.heap.size = k + 1 := by rw [← hW0, World.size_alloc, hk]
  have hh0 : W0.heap[k]? = some (.cells #[.int .i64 (N : Int), .slice A m c] 24 (0, 0)) := by rw [← hW0, ← hk]; exact World.alloc_heap_new _ _
  have HB0 := Lib.hid hb0
  have HZ0 := Lib.hid hz0
  have HH0 := Lib.hid hh0
  have HX := Lib.hid hx
  have HAN := Lib.hid (anchor_any W0 (hT.below hb0 (by omega)) (by omega))
  have HW0 := Lib.hid hW0
  have HT0 : Hid (Tz w) := Lib.hid hT
  clear hx hT hb0 hz0 hh0 hW0
  go_enter Tryd.func3, Tryd.ntmps3
  go_wp2_with fail
  rw [HW0.out]
  refine HAN.out.mono ?_
  rintro e W1 ⟨rfl, hb⟩
  clear HAN
  have HB1 : Hid (Below k w W1) := Lib.hid (HB0.out.trans (hb.mono (by rw [HZ0.out]; omega)))
  have HZ1 : Hid (k + 1 ≤ W1.heap.size) := Lib.hid (by have := hb.size; rw [HZ0.out] at this; exact this)
  have HH1 : Hid (W1.heap[k]? = some (.cells #[.int .i64 (N : Int), .slice A m c] 24 (0, 0))) := Lib.hid ((hb.block k (by rw [HZ0.out]; omega)).trans HH0.out)
  have hg := HH1.out
  have hc0 : W1.cell? ⟨k, 0, none⟩ = some (.int .i64 (N : Int)) := by simp [World.cell?, hg]
  have hc1 : W1.cell? ⟨k, 1, none⟩ = some (.slice A m c) := by simp [World.cell?, hg]
  have HPL := Lib.hid (plain_any (c := c) (z := (N : Int)) (HX.out.below (B := w.heap.size) (by rw [Hk.out]; exact HB1.out)) (by rw [Hk.out]; have := HZ1.out; omega) hm0 true ⟨fun _ => ⟨hm, .inl (by omega)⟩, fun _ => rfl⟩)
  clear hb hg
  go_wp2_with fail
  refine HPL.out.mono ?_
  rintro e W2 ⟨rfl, hb⟩
  clear HPL hc0 hc1
  obtain ⟨p2, hp2⟩ : ∃ p2, W2.heap.size = p2 := ⟨_, rfl⟩
  obtain ⟨W3, hW3⟩ : ∃ W3, W2.alloc (.cells #[.int .i64 (N : Int), .slice A m c] 26) = W3 := ⟨_, rfl⟩
  have hkp : k < p2 := by rw [← hp2]; exact Nat.lt_of_lt_of_le (show k < W1.heap.size by have := HZ1.out; omega) hb.size
  have HKP := Lib.hid hkp
  have HB3 : Hid (Below k w W3) := Lib.hid (by rw [← hW3]; exact (HB1.out.trans (hb.mono (by have := HZ1.out; omega))).alloc (by omega) _)
  have HZ3 : Hid (p2 + 1 ≤ W3.heap.size) := Lib.hid (by rw [← hW3, World.size_alloc, hp2]; omega)
  have HG3 : Hid (W3.heap[k]? = some (.cells #[.int .i64 (N : Int), .slice A m c] 24 (0, 0))) := Lib.hid (by rw [← hW3, Below.heap_alloc _ _ _ (by omega)]; exact (hb.block k (by have := HZ1.out; omega)).trans HH1.out)
  have HP3 : Hid (W3.heap[p2]? = some (.cells #[.int .i64 (N : Int), .slice A m c] 26 (0, 0))) := Lib.hid (by rw [← hW3, ← hp2]; exact World.alloc_heap_new _ _)
  have HW3 := Lib.hid hW3
  clear hb hW3 hkp
  have hg := HG3.out
  have g0 : W3.cell? ⟨k, 0, none⟩ = some (.int .i64 (N : Int)) := by simp [World.cell?, hg]
  have g1 : W3.cell? ⟨k, 1, none⟩ = some (.slice A m c) := by simp [World.cell?, hg]
  clear hg
  have HAL := Lib.hid (all_no (c := c) (HX.out.below (B := w.heap.size) (by rw [Hk.out]; exact HB3.out)) hi (show N ≤ 64 by omega) (show m ≤ 4096 by omega) hG (by rw [Hk.out]; have := HZ3.out; have := HKP.out; omega))
  have hW3 := HW3.out
  rw [← hW3] at g0 g1
  clear hW3
  go_wp2_with fail
  rw [HW3.out]
  refine HAL.out.mono ?_
  rintro e W4 ⟨rfl, hb⟩
  clear HAL g0 g1
  have HW34 := Lib.hid hb
  have HB4 : Hid (Below k w W4) := Lib.hid (HB3.out.trans (hb.mono (by have := HZ3.out; have := HKP.out; omega)))
  have HZ4 : Hid (p2 + 1 ≤ W4.heap.size) := Lib.hid (Nat.le_trans HZ3.out hb.size)
  have HG4 : Hid (W4.heap[k]? = some (.cells #[.int .i64 (N : Int), .slice A m c] 24 (0, 0))) := Lib.hid ((hb.block k (by have := HZ3.out; have := HKP.out; omega)).trans HG3.out)
  have HP4 : Hid (W4.heap[p2]? = some (.cells #[.int .i64 (N : Int), .slice A m c] 26 (0, 0))) := Lib.hid ((hb.block p2 (by have := HZ3.out; omega)).trans HP3.out)
  clear hb
  have hg := HG4.out
  have g0 : W4.cell? ⟨k, 0, none⟩ = some (.int .i64 (N : Int)) := by simp [World.cell?, hg]
  have g1 : W4.cell? ⟨k, 1, none⟩ = some (.slice A m c) := by simp [World.cell?, hg]
  clear hg
  have HWY := Lib.hid (ways_no (c := c) (HX.out.below (B := w.heap.size) (by rw [Hk.out]; exact HB4.out)) hi (show N ≤ 64 by omega) (show m ≤ 4096 by omega) hG (by rw [Hk.out]; have := HZ4.out; have := HKP.out; omega))
  go_wp2_with fail
  refine HWY.out.mono ?_
  rintro e W5 ⟨rfl, hb⟩
  clear HWY g0 g1
  have HW45 := Lib.hid hb
  have HB5 : Hid (Below k w W5) := Lib.hid (HB4.out.trans (hb.mono (by have := HZ4.out; have := HKP.out; omega)))
  have HZ5 : Hid (p2 + 1 ≤ W5.heap.size) := Lib.hid (Nat.le_trans HZ4.out hb.size)
  have HG5 : Hid (W5.heap[k]? = some (.cells #[.int .i64 (N : Int), .slice A m c] 24 (0, 0))) := Lib.hid ((hb.block k (by have := HZ4.out; have := HKP.out; omega)).trans HG4.out)
  have HP5 : Hid (W5.heap[p2]? = some (.cells #[.int .i64 (N : Int), .slice A m c] 26 (0, 0))) := Lib.hid ((hb.block p2 (by have := HZ4.out; omega)).trans HP4.out)
  clear hb
  have hg := HP5.out
  have q0 : W5.cell? ⟨p2, 0, none⟩ = some (.int .i64 (N : Int)) := by simp [World.cell?, hg]
  have q1 : W5.cell? ⟨p2, 1, none⟩ = some (.slice A m c) := by simp [World.cell?, hg]
  clear hg
  have HRT := Lib.hid (right_yes (c := c) (HX.out.below (B := w.heap.size) (by rw [Hk.out]; exact HB5.out)) hr (by rw [Hk.out]; have := HZ5.out; have := HKP.out; omega))
  go_wp2_with fail
  refine HRT.out.mono ?_
  rintro e W6 ⟨rfl, hb⟩
  clear HRT q0 q1
  have HW56 := Lib.hid hb
  have HB6 : Hid (Below k w W6) := Lib.hid (HB5.out.trans (hb.mono (by have := HZ5.out; have := HKP.out; omega)))
  have HZ6 : Hid (p2 + 1 ≤ W6.heap.size) := Lib.hid (Nat.le_trans HZ5.out hb.size)
  have HG6 : Hid (W6.heap[k]? = some (.cells #[.int .i64 (N : Int), .slice A m c] 24 (0, 0))) := Lib.hid ((hb.block k (by have := HZ5.out; have := HKP.out; omega)).trans HG5.out)
  have HP6 : Hid (W6.heap[p2]? = some (.cells #[.int .i64 (N : Int), .slice A m c] 26 (0, 0))) := Lib.hid ((hb.block p2 (by have := HZ5.out; omega)).trans HP5.out)
  clear hb
  have hg := HP6.out
  have q0 : W6.cell? ⟨p2, 0, none⟩ = some (.int .i64 (N : Int)) := by simp [World.cell?, hg]
  have q1 : W6.cell? ⟨p2, 1, none⟩ = some (.slice A m c) := by simp [World.cell?, hg]
  clear hg
  have HCI := Lib.hid (circle_any (c := c) (HX.out.below (B := w.heap.size) (by rw [Hk.out]; exact HB6.out)) HI.out (show N ≤ 64 by omega) (show m ≤ 4096 by omega) (by rw [Hk.out]; have := HZ6.out; have := HKP.out; omega) true ⟨fun _ => hG, fun _ => rfl⟩)
  go_wp2_with fail
  refine HCI.out.mono ?_
  rintro e W7 ⟨rfl, hb⟩
  clear HCI q0 q1
  have HW67 := Lib.hid hb
  have HB7 : Hid (Below k w W7) := Lib.hid (HB6.out.trans (hb.mono (by have := HZ6.out; have := HKP.out; omega)))
  have HZ7 : Hid (p2 + 1 ≤ W7.heap.size) := Lib.hid (Nat.le_trans HZ6.out hb.size)
  have HG7 : Hid (W7.heap[k]? = some (.cells #[.int .i64 (N : Int), .slice A m c] 24 (0, 0))) := Lib.hid ((hb.block k (by have := HZ6.out; have := HKP.out; omega)).trans HG6.out)
  have HP7 : Hid (W7.heap[p2]? = some (.cells #[.int .i64 (N : Int), .slice A m c] 26 (0, 0))) := Lib.hid ((hb.block p2 (by have := HZ6.out; omega)).trans HP6.out)
  clear hb
  go_wp2
  go_ret
  exact ⟨rfl, by rw [Hk.out]; exact HB7.out⟩
set_option maxHeartbeats 8000000 in
theorem law_all_go {w : World} {m c : Nat} {N : Nat} {A : Option Addr} {g : List (Nat × Nat)} (hS : SortOK 1024) (hx : RdG w w.heap.size A m g) (hi : InN N g) (hn : N ≤ 10) (hm : m ≤ 60) (hG : Goes (befG g) N N) (hT : Tz w) (h0 : 0 < w.heap.size) :
    Calls Tryd.prog 3 #[.agg #[.int .i64 (N : Int), .slice A m c]] w fun e w' => e = .returned (.bool true) ∧ Below w.heap.size w w' := by
  have hr : GraphR (N : Int) (castE g) := graphR_cast hi (show N ≤ 64 by omega) (by rw [hx.len]; omega)
  have hm0 : m ≤ 9223372036854775807 := by omega
  have HI := Lib.hid hi
  have HG := Lib.hid hG
  have hP1 : (2 : Nat) ^ N ≤ 1024 := by
    have h2 : (2 : Nat) ^ N ≤ 2 ^ 10 := Nat.pow_le_pow_right (by omega) hn
    omega
  have hLL : (clN N (closedB g)).length ≤ 1024 := Nat.le_trans (cntC_le _ _) hP1
  obtain ⟨k, hk⟩ : ∃ k, w.heap.size = k := ⟨_, rfl⟩
  have Hk := Lib.hid hk
  obtain ⟨W0, hW0⟩ : ∃ W0, w.alloc (.cells #[.int .i64 (N : Int), .slice A m c] 24) = W0 := ⟨_, rfl⟩
  have hb0 : Below k w W0 := by rw [← hW0, ← hk]; exact (Below.refl _ w).alloc (Nat.le_refl _) _
  have hz0 : W0.heap.size = k + 1 := by rw [← hW0, World.size_alloc, hk]
  have hh0 : W0.heap[k]? = some (.cells #[.int .i64 (N : Int), .slice A m c] 24 (0, 0)) := by rw [← hW0, ← hk]; exact World.alloc_heap_new _ _
  have HB0 := Lib.hid hb0
  have HZ0 := Lib.hid hz0
  have HH0 := Lib.hid hh0
  have HX := Lib.hid hx
  have HAN := Lib.hid (anchor_any W0 (hT.below hb0 (by omega)) (by omega))
  have HW0 := Lib.hid hW0
  have HT0 : Hid (Tz w) := Lib.hid hT
  clear hx hT hb0 hz0 hh0 hW0
  go_enter Tryd.func3, Tryd.ntmps3
  go_wp2_with fail
  rw [HW0.out]
  refine HAN.out.mono ?_
  rintro e W1 ⟨rfl, hb⟩
  clear HAN
  have HB1 : Hid (Below k w W1) := Lib.hid (HB0.out.trans (hb.mono (by rw [HZ0.out]; omega)))
  have HZ1 : Hid (k + 1 ≤ W1.heap.size) := Lib.hid (by have := hb.size; rw [HZ0.out] at this; exact this)
  have HH1 : Hid (W1.heap[k]? = some (.cells #[.int .i64 (N : Int), .slice A m c] 24 (0, 0))) := Lib.hid ((hb.block k (by rw [HZ0.out]; omega)).trans HH0.out)
  have hg := HH1.out
  have hc0 : W1.cell? ⟨k, 0, none⟩ = some (.int .i64 (N : Int)) := by simp [World.cell?, hg]
  have hc1 : W1.cell? ⟨k, 1, none⟩ = some (.slice A m c) := by simp [World.cell?, hg]
  have HPL := Lib.hid (plain_any (c := c) (z := (N : Int)) (HX.out.below (B := w.heap.size) (by rw [Hk.out]; exact HB1.out)) (by rw [Hk.out]; have := HZ1.out; omega) hm0 true ⟨fun _ => ⟨hm, .inl (by omega)⟩, fun _ => rfl⟩)
  clear hb hg
  go_wp2_with fail
  refine HPL.out.mono ?_
  rintro e W2 ⟨rfl, hb⟩
  clear HPL hc0 hc1
  obtain ⟨p2, hp2⟩ : ∃ p2, W2.heap.size = p2 := ⟨_, rfl⟩
  obtain ⟨W3, hW3⟩ : ∃ W3, W2.alloc (.cells #[.int .i64 (N : Int), .slice A m c] 26) = W3 := ⟨_, rfl⟩
  have hkp : k < p2 := by rw [← hp2]; exact Nat.lt_of_lt_of_le (show k < W1.heap.size by have := HZ1.out; omega) hb.size
  have HKP := Lib.hid hkp
  have HB3 : Hid (Below k w W3) := Lib.hid (by rw [← hW3]; exact (HB1.out.trans (hb.mono (by have := HZ1.out; omega))).alloc (by omega) _)
  have HZ3 : Hid (p2 + 1 ≤ W3.heap.size) := Lib.hid (by rw [← hW3, World.size_alloc, hp2]; omega)
  have HG3 : Hid (W3.heap[k]? = some (.cells #[.int .i64 (N : Int), .slice A m c] 24 (0, 0))) := Lib.hid (by rw [← hW3, Below.heap_alloc _ _ _ (by omega)]; exact (hb.block k (by have := HZ1.out; omega)).trans HH1.out)
  have HP3 : Hid (W3.heap[p2]? = some (.cells #[.int .i64 (N : Int), .slice A m c] 26 (0, 0))) := Lib.hid (by rw [← hW3, ← hp2]; exact World.alloc_heap_new _ _)
  have HW3 := Lib.hid hW3
  clear hb hW3 hkp
  have hg := HG3.out
  have g0 : W3.cell? ⟨k, 0, none⟩ = some (.int .i64 (N : Int)) := by simp [World.cell?, hg]
  have g1 : W3.cell? ⟨k, 1, none⟩ = some (.slice A m c) := by simp [World.cell?, hg]
  clear hg
  have HAL := Lib.hid (all_any hS (c := c) (HX.out.below (B := w.heap.size) (by rw [Hk.out]; exact HB3.out)) hi hn (show m ≤ 4096 by omega) (by rw [Hk.out]; have := HZ3.out; have := HKP.out; omega) (HT0.out.below (B := k) HB3.out (by rw [← Hk.out]; exact h0)) (by have := HZ3.out; omega) hG hLL)
  obtain ⟨LN, hLN⟩ : ∃ LN, (clN N (closedB g)).length = LN := ⟨_, rfl⟩
  rw [hLN] at HAL
  have hW3 := HW3.out
  rw [← hW3] at g0 g1
  clear hW3
  go_wp2_with fail
  rw [HW3.out]
  refine HAL.out.mono ?_
  rintro e W4 ⟨⟨blk, cap, rfl, hle, hcl⟩, hb⟩
  have HCL4 := Lib.hid hcl
  clear hle hcl
  clear HAL g0 g1
  have HW34 := Lib.hid hb
  have HB4 : Hid (Below k w W4) := Lib.hid (HB3.out.trans (hb.mono (by have := HZ3.out; have := HKP.out; omega)))
  have HZ4 : Hid (p2 + 1 ≤ W4.heap.size) := Lib.hid (Nat.le_trans HZ3.out hb.size)
  have HG4 : Hid (W4.heap[k]? = some (.cells #[.int .i64 (N : Int), .slice A m c] 24 (0, 0))) := Lib.hid ((hb.block k (by have := HZ3.out; have := HKP.out; omega)).trans HG3.out)
  have HP4 : Hid (W4.heap[p2]? = some (.cells #[.int .i64 (N : Int), .slice A m c] 26 (0, 0))) := Lib.hid ((hb.block p2 (by have := HZ3.out; omega)).trans HP3.out)
  clear hb
  have hg := HG4.out
  have g0 : W4.cell? ⟨k, 0, none⟩ = some (.int .i64 (N : Int)) := by simp [World.cell?, hg]
  have g1 : W4.cell? ⟨k, 1, none⟩ = some (.slice A m c) := by simp [World.cell?, hg]
  clear hg
  have HWY := Lib.hid (ways_any hS (c := c) (HX.out.below (B := w.heap.size) (by rw [Hk.out]; exact HB4.out)) hi hn (show m ≤ 4096 by omega) (by rw [Hk.out]; have := HZ4.out; have := HKP.out; omega) (HT0.out.below (B := k) HB4.out (by rw [← Hk.out]; exact h0)) (by have := HZ4.out; omega) hG hLL)
  go_wp2_with fail
  refine HWY.out.mono ?_
  rintro e W5 ⟨rfl, hb⟩
  clear HWY g0 g1
  have HW45 := Lib.hid hb
  have HB5 : Hid (Below k w W5) := Lib.hid (HB4.out.trans (hb.mono (by have := HZ4.out; have := HKP.out; omega)))
  have HZ5 : Hid (p2 + 1 ≤ W5.heap.size) := Lib.hid (Nat.le_trans HZ4.out hb.size)
  have HG5 : Hid (W5.heap[k]? = some (.cells #[.int .i64 (N : Int), .slice A m c] 24 (0, 0))) := Lib.hid ((hb.block k (by have := HZ4.out; have := HKP.out; omega)).trans HG4.out)
  have HP5 : Hid (W5.heap[p2]? = some (.cells #[.int .i64 (N : Int), .slice A m c] 26 (0, 0))) := Lib.hid ((hb.block p2 (by have := HZ4.out; omega)).trans HP4.out)
  clear hb
  clear hi
  have hg := HP5.out
  have q0 : W5.cell? ⟨p2, 0, none⟩ = some (.int .i64 (N : Int)) := by simp [World.cell?, hg]
  have q1 : W5.cell? ⟨p2, 1, none⟩ = some (.slice A m c) := by simp [World.cell?, hg]
  clear hg
  have HRT := Lib.hid (right_yes (c := c) (HX.out.below (B := w.heap.size) (by rw [Hk.out]; exact HB5.out)) hr (by rw [Hk.out]; have := HZ5.out; have := HKP.out; omega))
  go_wp2_with fail
  refine HRT.out.mono ?_
  rintro e W6 ⟨rfl, hb⟩
  clear HRT q0 q1
  have HW56 := Lib.hid hb
  have HB6 : Hid (Below k w W6) := Lib.hid (HB5.out.trans (hb.mono (by have := HZ5.out; have := HKP.out; omega)))
  have HZ6 : Hid (p2 + 1 ≤ W6.heap.size) := Lib.hid (Nat.le_trans HZ5.out hb.size)
  have HG6 : Hid (W6.heap[k]? = some (.cells #[.int .i64 (N : Int), .slice A m c] 24 (0, 0))) := Lib.hid ((hb.block k (by have := HZ5.out; have := HKP.out; omega)).trans HG5.out)
  have HP6 : Hid (W6.heap[p2]? = some (.cells #[.int .i64 (N : Int), .slice A m c] 26 (0, 0))) := Lib.hid ((hb.block p2 (by have := HZ5.out; omega)).trans HP5.out)
  clear hb
  have hg := HP6.out
  have q0 : W6.cell? ⟨p2, 0, none⟩ = some (.int .i64 (N : Int)) := by simp [World.cell?, hg]
  have q1 : W6.cell? ⟨p2, 1, none⟩ = some (.slice A m c) := by simp [World.cell?, hg]
  clear hg
  have HCI := Lib.hid (circle_any (c := c) (HX.out.below (B := w.heap.size) (by rw [Hk.out]; exact HB6.out)) HI.out (show N ≤ 64 by omega) (show m ≤ 4096 by omega) (by rw [Hk.out]; have := HZ6.out; have := HKP.out; omega) false ⟨nofun, fun h => (h HG.out).elim⟩)
  go_wp2_with fail
  refine HCI.out.mono ?_
  rintro e W7 ⟨rfl, hb⟩
  clear HCI q0 q1
  have HW67 := Lib.hid hb
  have HB7 : Hid (Below k w W7) := Lib.hid (HB6.out.trans (hb.mono (by have := HZ6.out; have := HKP.out; omega)))
  have HZ7 : Hid (p2 + 1 ≤ W7.heap.size) := Lib.hid (Nat.le_trans HZ6.out hb.size)
  have HG7 : Hid (W7.heap[k]? = some (.cells #[.int .i64 (N : Int), .slice A m c] 24 (0, 0))) := Lib.hid ((hb.block k (by have := HZ6.out; have := HKP.out; omega)).trans HG6.out)
  have HP7 : Hid (W7.heap[p2]? = some (.cells #[.int .i64 (N : Int), .slice A m c] 26 (0, 0))) := Lib.hid ((hb.block p2 (by have := HZ6.out; omega)).trans HP6.out)
  clear hb
  have HB47 : Hid (Below W4.heap.size W4 W7) := Lib.hid (by
    have h1 := HW45.out
    have h2 := h1.trans (HW56.out.mono h1.size)
    exact h2.trans (HW67.out.mono h2.size))
  have HCL : Hid (∀ y, y < 2 ^ N → closedB g y = true → (cntC (closedB g) y < LN ∧ W4.cell? ⟨blk, cntC (closedB g) y, none⟩ = some (.int .u64 (y : Int)))) := Lib.hid (fun y h1 h2 => by
    have h3 := cntC_at h2 _ h1
    obtain ⟨h4, _⟩ := List.getElem?_eq_some_iff.1 h3
    have h5 : cntC (closedB g) y < LN := by rw [← hLN]; exact h4
    refine ⟨h5, ?_⟩
    rw [HCL4.out _ h5, List.getD_eq_getElem?_getD, show (clN N (closedB g))[cntC (closedB g) y]? = some y from h3]; rfl)
  have HLN : Hid (cntC (closedB g) (2 ^ N) = LN) := Lib.hid hLN
  obtain ⟨M, hM⟩ : ∃ M, (2 : Nat) ^ N = M := ⟨_, rfl⟩
  have hMw : IntKind.u64.wrap ((2 : Int) ^ N) = (M : Int) := by
    have e2 : ((2 : Int) ^ N) = ((2 ^ N : Nat) : Int) := by simp
    rw [e2, hM, IntKind.wrap_u64]
    omega
  have HMW := Lib.hid hMw
  have HM1 : Hid (M ≤ 1024) := Lib.hid (by omega)
  rw [hM] at HCL HLN
  clear hM hMw hLN hLL hP1 hG hS
  obtain ⟨p7, hp7⟩ : ∃ p7, W7.heap.size = p7 := ⟨_, rfl⟩
  have Hp7 := Lib.hid hp7
  have H47 : Hid (W4.heap.size ≤ p7 ∧ k < p7 ∧ p2 < p7) := Lib.hid (by have := HB47.out.size; have := HZ7.out; have := HKP.out; omega)
  go_wp2_with fail
  clear HG6 HP6 HG5 HP5 HG4 HP4 HG3 HP3 HH1 HH0 HB3 HB4 HB1 HB0 HB5 HB6 HZ5 HZ4 HZ3 HZ1 HZ0 HZ6 HW3 HW0
  go_loopw [9, 10] (fun aa ss wr => ∃ y : Nat, y ≤ M ∧ ss = .int .u64 (y : Int) ∧ aa = .int .i64 ((cntC (closedB g) y : Nat) : Int) ∧ Hid (Below p7 W7 wr)) (fun _ ss _ => M - (intOf ss).toNat)
  case atStart => exact ⟨0, by omega, rfl, rfl, Lib.hid (Below.refl _ _)⟩
  case round =>
    obtain ⟨y, hy, rfl, rfl, HR⟩ := hrel
    have HBR : Hid (Below k w wr) := Lib.hid (HB7.out.trans (HR.out.mono (by have := H47.out; omega)))
    have hg := (HR.out.block k (by have := H47.out; omega)).trans HG7.out
    have g0 : wr.cell? ⟨k, 0, none⟩ = some (.int .i64 (N : Int)) := by simp [World.cell?, hg]
    clear hg
    have hg := (HR.out.block p2 (by have := H47.out; omega)).trans HP7.out
    have q0 : wr.cell? ⟨p2, 0, none⟩ = some (.int .i64 (N : Int)) := by simp [World.cell?, hg]
    have q1 : wr.cell? ⟨p2, 1, none⟩ = some (.slice A m c) := by simp [World.cell?, hg]
    clear hg
    have hMw := HMW.out
    obtain ⟨at_, hat⟩ : ∃ at_, cntC (closedB g) y = at_ := ⟨_, rfl⟩
    have HAT := Lib.hid hat
    have HSU := Lib.hid (cntC_succ (closedB g) y)
    have HAL : Hid (at_ ≤ 1024) := Lib.hid (by rw [← hat]; have := cntC_le (closedB g) y; have := HM1.out; omega)
    rw [hat] at HSU ⊢
    clear hat
    by_cases hlt : y < M
    · have hdy : decide ((y : Int) < (M : Int)) = true := decide_eq_true (by omega)
      have hyl : y < lim := show y < 18446744073709551616 by have := HM1.out; omega
      have HRC := Lib.hid (refClosed_any (w := wr) (c := c) (s := y) (HX.out.below (B := w.heap.size) (by rw [Hk.out]; exact HBR.out)) HI.out (show N ≤ 64 by omega) (show m ≤ 4096 by omega) (by have := HBR.out.size; have := Hk.out; omega) hyl)
      have hw1 : IntKind.u64.wrap ((y : Int) + 1) = ((y + 1 : Nat) : Int) := by rw [IntKind.wrap_u64]; have := HM1.out; omega
      have hcc := HCL.out y hlt
      rw [HAT.out] at hcc
      have HCC := Lib.hid hcc
      clear hcc hyl
      go_wp2_with fail
      refine HRC.out.mono ?_
      rintro e w9 ⟨rfl, hb⟩
      have HR9 : Hid (Below p7 W7 w9) := Lib.hid (HR.out.trans (hb.mono (by have := HR.out.size; have := Hp7.out; omega)))
      clear HRC hb q0 q1 g0
      cases hcb : closedB g y with
      | false =>
        have HS2 : Hid (cntC (closedB g) (y + 1) = at_) := Lib.hid (by rw [HSU.out, hcb]; rfl)
        clear hcb
        go_wp2
        go_roundw
        case rel => exact ⟨y + 1, by omega, by go_num, by rw [HS2.out], HR9⟩
        case measure => simp [intOf]; omega
      | true =>
        have HS2 : Hid (cntC (closedB g) (y + 1) = at_ + 1) := Lib.hid (by rw [HSU.out, hcb]; rfl)
        obtain ⟨hc1, hc2⟩ := HCC.out hcb
        have hcx := ((HB47.out.trans (HR9.out.mono (H47.out.1))).cell (p := ⟨blk, at_, none⟩) (block_lt_of_cell hc2)).trans hc2
        have hd1 : decide ((LN : Int) ≤ (at_ : Int)) = false := decide_eq_false (by omega)
        have hd2 : ((at_ : Nat) : Int) < (LN : Int) := by omega
        have hd0 : (0 : Int) ≤ ((at_ : Nat) : Int) := by omega
        have hyy : ((y : Int) != (y : Int)) = false := by simp
        have hw2 : IntKind.i64.wrap ((at_ : Int) + 1) = ((at_ + 1 : Nat) : Int) := by rw [IntWalk.i64_in _ (by have := HAL.out; omega)]; omega
        clear hcb hc1 hc2
        go_wp2
        go_roundw
        case rel => exact ⟨y + 1, by omega, by go_num, by rw [HS2.out]; go_num, HR9⟩
        case measure => simp [intOf]; omega
    · have hdy : decide ((y : Int) < (M : Int)) = false := decide_eq_false (by omega)
      obtain rfl : y = M := by omega
      have hal : at_ = LN := HAT.out.symm.trans HLN.out
      subst hal
      go_wp2
      go_ret
      exact ⟨rfl, by rw [Hk.out]; exact HBR.out⟩
theorem law_all (hS : SortOK 1024) {w : World} {m c : Nat} {n : Int} {A : Option Addr} {es : List (Int × Int)} (hx : RdE w w.heap.size A m es) (hm0 : m ≤ 9223372036854775807) (hT : Tz w) (h0 : 0 < w.heap.size) :
    Calls Tryd.prog 3 #[.agg #[.int .i64 n, .slice A m c]] w fun e w' => e = .returned (.bool true) ∧ Below w.heap.size w w' := by
  by_cases hok : m ≤ 60 ∧ (n ≤ 10 ∨ ¬ GraphR n es)
  · by_cases hr : GraphR n es
    · have hn : n ≤ 10 := hok.2.elim id (fun h => (h hr).elim)
      obtain ⟨N, g, rfl, rfl, hi, _, _⟩ := graph_nat hr
      by_cases hG : Goes (befG g) N N
      · exact law_all_go hS hx hi (by omega) hok.1 hG hT h0
      · exact law_all_circ hx hi (by omega) hok.1 hG hT h0
    · exact law_all_wrong hx hm0 hok.1 hr hT h0
  · exact law_all_skip hx hm0 hok hT h0
end Go.Proofs.YtfcabdgidlnljaaDoor
