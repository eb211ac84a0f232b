/-
  THE WALK of the statement LatticeMeets (printed by genlawlm.py), once a sort of 1024 sets is there (hS).
-/
import Derived.Test.YtfcabdgidlnljaaDoorLLaw0
import Derived.Test.YtfcabdgidlnljaaDoorLClErr
import Derived.Deep.QuietTactic
import Derived.BigQuiet
namespace Go.Proofs.YtfcabdgidlnljaaDoor
open Go.RowKit
open DiP
set_option linter.unusedVariables false
set_option linter.unusedSimpArgs false
set_option maxRecDepth 100000
/-- Is v one of the first k of l? -/
def seenL (l : List Nat) (v k : Nat) : Bool := (List.range k).any (fun j => l.getD j 0 == v)
theorem seenL_succ (l : List Nat) (v k : Nat) : seenL l v (k + 1) = (seenL l v k || (l.getD k 0 == v)) := by
  unfold seenL
  rw [List.range_succ, List.any_append]
  simp
theorem seenL_mem {l : List Nat} {v : Nat} (h : v ∈ l) : seenL l v l.length = true := by
  unfold seenL
  rw [List.any_eq_true]
  obtain ⟨j, hj, e⟩ := List.getElem_of_mem h
  refine ⟨j, List.mem_range.2 hj, ?_⟩
  rw [List.getD_eq_getElem?_getD, List.getElem?_eq_getElem hj, e]
  exact beq_self_eq_true v
theorem getD_mem {l : List Nat} {j : Nat} (h : j < l.length) : l.getD j 0 ∈ l := by
  rw [List.getD_eq_getElem?_getD, List.getElem?_eq_getElem h]
  exact List.getElem_mem h
theorem cl_and {g : List (Nat × Nat)} {a b : Nat} (ha : Cl g a) (hb : Cl g b) : Cl g (a &&& b) := fun k hk h => by
  unfold bt at h ⊢
  rw [Nat.testBit_and, Bool.and_eq_true] at h ⊢
  exact ⟨ha k hk h.1, hb k hk h.2⟩
theorem cl_or {g : List (Nat × Nat)} {a b : Nat} (ha : Cl g a) (hb : Cl g b) : Cl g (a ||| b) := fun k hk h => by
  unfold bt at h ⊢
  rw [Nat.testBit_or, Bool.or_eq_true] at h ⊢
  exact h.imp (ha k hk) (hb k hk)
theorem cl_none (g : List (Nat × Nat)) : closedB g 0 = true := (closedB_iff g 0).2 fun k _ h => by rw [bt_zero] at h; cases h
theorem cl_full {g : List (Nat × Nat)} {n : Nat} (hi : InN n g) : closedB g (2 ^ n - 1) = true := (closedB_iff g _).2 fun k hk _ => by rw [bt_full]; exact decide_eq_true (hi k hk).1
set_option maxHeartbeats 8000000 in
theorem law_meets_skip {w : World} {m c : Nat} {n i j : Int} {A : Option Addr} {es : List (Int × Int)} (hx : RdE w w.heap.size A m es) (hm0 : m ≤ 9223372036854775807) (hok : ¬ (m ≤ 60 ∧ (n ≤ 10 ∨ ¬ GraphR n es))) (hT : Tz w) (h0 : 0 < w.heap.size) :
    Calls Tryd.prog 9 #[.agg #[.int .i64 n, .slice A m c], .int .i64 i, .int .i64 j] w fun e w' => e = .returned (.bool true) ∧ Below w.heap.size w w' := by
  obtain ⟨k, hk⟩ : ∃ k, w.heap.size = k := ⟨_, rfl⟩
  have Hk := Lib.hid hk
  obtain ⟨W0, hW0⟩ : ∃ W0, w.alloc (.cells #[.int .i64 n, .slice A m c] 24) = W0 := ⟨_, rfl⟩
  have hb0 : Below k w W0 := by rw [← hW0, ← hk]; exact (Below.refl _ w).alloc (Nat.le_refl _) _
  have hz0 : W0.heap.size = k + 1 := by rw [← hW0, World.size_alloc, hk]
  have hh0 : W0.heap[k]? = some (.cells #[.int .i64 n, .slice A m c] 24 (0, 0)) := by rw [← hW0, ← hk]; exact World.alloc_heap_new _ _
  have HB0 := Lib.hid hb0
  have HZ0 := Lib.hid hz0
  have HH0 := Lib.hid hh0
  have HX := Lib.hid hx
  have HAN := Lib.hid (anchor_any W0 (hT.below hb0 (by omega)) (by omega))
  have HW0 := Lib.hid hW0
  have HT0 : Hid (Tz w) := Lib.hid hT
  clear hx hT hb0 hz0 hh0 hW0
  go_enter Tryd.func9, Tryd.ntmps9
  go_wp2_with fail
  rw [HW0.out]
  refine HAN.out.mono ?_
  rintro e W1 ⟨rfl, hb⟩
  clear HAN
  have HB1 : Hid (Below k w W1) := Lib.hid (HB0.out.trans (hb.mono (by rw [HZ0.out]; omega)))
  have HZ1 : Hid (k + 1 ≤ W1.heap.size) := Lib.hid (by have := hb.size; rw [HZ0.out] at this; exact this)
  have HH1 : Hid (W1.heap[k]? = some (.cells #[.int .i64 n, .slice A m c] 24 (0, 0))) := Lib.hid ((hb.block k (by rw [HZ0.out]; omega)).trans HH0.out)
  have hg := HH1.out
  have hc0 : W1.cell? ⟨k, 0, none⟩ = some (.int .i64 n) := by simp [World.cell?, hg]
  have hc1 : W1.cell? ⟨k, 1, none⟩ = some (.slice A m c) := by simp [World.cell?, hg]
  have HPL := Lib.hid (plain_any (c := c) (z := n) (HX.out.below (B := w.heap.size) (by rw [Hk.out]; exact HB1.out)) (by rw [Hk.out]; have := HZ1.out; omega) hm0 false ⟨nofun, fun h => (hok h).elim⟩)
  clear hb hg
  go_wp2_with fail
  refine HPL.out.mono ?_
  rintro e W2 ⟨rfl, hb⟩
  clear HPL hc0 hc1
  obtain ⟨p2, hp2⟩ : ∃ p2, W2.heap.size = p2 := ⟨_, rfl⟩
  obtain ⟨W3, hW3⟩ : ∃ W3, W2.alloc (.cells #[.int .i64 n, .slice A m c] 26) = W3 := ⟨_, rfl⟩
  have hkp : k < p2 := by rw [← hp2]; exact Nat.lt_of_lt_of_le (show k < W1.heap.size by have := HZ1.out; omega) hb.size
  have HKP := Lib.hid hkp
  have HB3 : Hid (Below k w W3) := Lib.hid (by rw [← hW3]; exact (HB1.out.trans (hb.mono (by have := HZ1.out; omega))).alloc (by omega) _)
  have HZ3 : Hid (p2 + 1 ≤ W3.heap.size) := Lib.hid (by rw [← hW3, World.size_alloc, hp2]; omega)
  have HG3 : Hid (W3.heap[k]? = some (.cells #[.int .i64 n, .slice A m c] 24 (0, 0))) := Lib.hid (by rw [← hW3, Below.heap_alloc _ _ _ (by omega)]; exact (hb.block k (by have := HZ1.out; omega)).trans HH1.out)
  have HP3 : Hid (W3.heap[p2]? = some (.cells #[.int .i64 n, .slice A m c] 26 (0, 0))) := Lib.hid (by rw [← hW3, ← hp2]; exact World.alloc_heap_new _ _)
  have HW3 := Lib.hid hW3
  clear hb hW3 hkp
  go_wp2
  rw [HW3.out]
  go_ret
  exact ⟨rfl, by rw [Hk.out]; exact HB3.out⟩
set_option maxHeartbeats 8000000 in
theorem law_meets_neg {w : World} {m c : Nat} {n i j : Int} {A : Option Addr} {es : List (Int × Int)} (hx : RdE w w.heap.size A m es) (hm0 : m ≤ 9223372036854775807) (hok : m ≤ 60 ∧ (n ≤ 10 ∨ ¬ GraphR n es)) (hij : i < 0 ∨ j < 0) (hT : Tz w) (h0 : 0 < w.heap.size) :
    Calls Tryd.prog 9 #[.agg #[.int .i64 n, .slice A m c], .int .i64 i, .int .i64 j] w fun e w' => e = .returned (.bool true) ∧ Below w.heap.size w w' := by
  obtain ⟨k, hk⟩ : ∃ k, w.heap.size = k := ⟨_, rfl⟩
  have Hk := Lib.hid hk
  obtain ⟨W0, hW0⟩ : ∃ W0, w.alloc (.cells #[.int .i64 n, .slice A m c] 24) = W0 := ⟨_, rfl⟩
  have hb0 : Below k w W0 := by rw [← hW0, ← hk]; exact (Below.refl _ w).alloc (Nat.le_refl _) _
  have hz0 : W0.heap.size = k + 1 := by rw [← hW0, World.size_alloc, hk]
  have hh0 : W0.heap[k]? = some (.cells #[.int .i64 n, .slice A m c] 24 (0, 0)) := by rw [← hW0, ← hk]; exact World.alloc_heap_new _ _
  have HB0 := Lib.hid hb0
  have HZ0 := Lib.hid hz0
  have HH0 := Lib.hid hh0
  have HX := Lib.hid hx
  have HAN := Lib.hid (anchor_any W0 (hT.below hb0 (by omega)) (by omega))
  have HW0 := Lib.hid hW0
  have HT0 : Hid (Tz w) := Lib.hid hT
  clear hx hT hb0 hz0 hh0 hW0
  go_enter Tryd.func9, Tryd.ntmps9
  go_wp2_with fail
  rw [HW0.out]
  refine HAN.out.mono ?_
  rintro e W1 ⟨rfl, hb⟩
  clear HAN
  have HB1 : Hid (Below k w W1) := Lib.hid (HB0.out.trans (hb.mono (by rw [HZ0.out]; omega)))
  have HZ1 : Hid (k + 1 ≤ W1.heap.size) := Lib.hid (by have := hb.size; rw [HZ0.out] at this; exact this)
  have HH1 : Hid (W1.heap[k]? = some (.cells #[.int .i64 n, .slice A m c] 24 (0, 0))) := Lib.hid ((hb.block k (by rw [HZ0.out]; omega)).trans HH0.out)
  have hg := HH1.out
  have hc0 : W1.cell? ⟨k, 0, none⟩ = some (.int .i64 n) := by simp [World.cell?, hg]
  have hc1 : W1.cell? ⟨k, 1, none⟩ = some (.slice A m c) := by simp [World.cell?, hg]
  have HPL := Lib.hid (plain_any (c := c) (z := n) (HX.out.below (B := w.heap.size) (by rw [Hk.out]; exact HB1.out)) (by rw [Hk.out]; have := HZ1.out; omega) hm0 true ⟨fun _ => hok, fun _ => rfl⟩)
  clear hb hg
  go_wp2_with fail
  refine HPL.out.mono ?_
  rintro e W2 ⟨rfl, hb⟩
  clear HPL hc0 hc1
  obtain ⟨p2, hp2⟩ : ∃ p2, W2.heap.size = p2 := ⟨_, rfl⟩
  obtain ⟨W3, hW3⟩ : ∃ W3, W2.alloc (.cells #[.int .i64 n, .slice A m c] 26) = W3 := ⟨_, rfl⟩
  have hkp : k < p2 := by rw [← hp2]; exact Nat.lt_of_lt_of_le (show k < W1.heap.size by have := HZ1.out; omega) hb.size
  have HKP := Lib.hid hkp
  have HB3 : Hid (Below k w W3) := Lib.hid (by rw [← hW3]; exact (HB1.out.trans (hb.mono (by have := HZ1.out; omega))).alloc (by omega) _)
  have HZ3 : Hid (p2 + 1 ≤ W3.heap.size) := Lib.hid (by rw [← hW3, World.size_alloc, hp2]; omega)
  have HG3 : Hid (W3.heap[k]? = some (.cells #[.int .i64 n, .slice A m c] 24 (0, 0))) := Lib.hid (by rw [← hW3, Below.heap_alloc _ _ _ (by omega)]; exact (hb.block k (by have := HZ1.out; omega)).trans HH1.out)
  have HP3 : Hid (W3.heap[p2]? = some (.cells #[.int .i64 n, .slice A m c] 26 (0, 0))) := Lib.hid (by rw [← hW3, ← hp2]; exact World.alloc_heap_new _ _)
  have HW3 := Lib.hid hW3
  clear hb hW3 hkp
  by_cases h1 : i < 0
  · have hd1 : decide (i < 0) = true := decide_eq_true h1
    go_wp2
    rw [HW3.out]
    go_ret
    exact ⟨rfl, by rw [Hk.out]; exact HB3.out⟩
  · have hd1 : decide (i < 0) = false := decide_eq_false h1
    have hd2 : decide (j < 0) = true := decide_eq_true (hij.resolve_left h1)
    go_wp2
    rw [HW3.out]
    go_ret
    exact ⟨rfl, by rw [Hk.out]; exact HB3.out⟩
set_option maxHeartbeats 8000000 in
theorem law_meets_wrong {w : World} {m c : Nat} {n : Int} {x y : Nat} {A : Option Addr} {es : List (Int × Int)} (hx : RdE w w.heap.size A m es) (hm0 : m ≤ 9223372036854775807) (hm : m ≤ 60) (hr : ¬ GraphR n es) (hT : Tz w) (h0 : 0 < w.heap.size) :
    Calls Tryd.prog 9 #[.agg #[.int .i64 n, .slice A m c], .int .i64 (x : Int), .int .i64 (y : Int)] w fun e w' => e = .returned (.bool true) ∧ Below w.heap.size w w' := by
  obtain ⟨k, hk⟩ : ∃ k, w.heap.size = k := ⟨_, rfl⟩
  have Hk := Lib.hid hk
  obtain ⟨W0, hW0⟩ : ∃ W0, w.alloc (.cells #[.int .i64 n, .slice A m c] 24) = W0 := ⟨_, rfl⟩
  have hb0 : Below k w W0 := by rw [← hW0, ← hk]; exact (Below.refl _ w).alloc (Nat.le_refl _) _
  have hz0 : W0.heap.size = k + 1 := by rw [← hW0, World.size_alloc, hk]
  have hh0 : W0.heap[k]? = some (.cells #[.int .i64 n, .slice A m c] 24 (0, 0)) := by rw [← hW0, ← hk]; exact World.alloc_heap_new _ _
  have HB0 := Lib.hid hb0
  have HZ0 := Lib.hid hz0
  have HH0 := Lib.hid hh0
  have HX := Lib.hid hx
  have HAN := Lib.hid (anchor_any W0 (hT.below hb0 (by omega)) (by omega))
  have HW0 := Lib.hid hW0
  have HT0 : Hid (Tz w) := Lib.hid hT
  clear hx hT hb0 hz0 hh0 hW0
  go_enter Tryd.func9, Tryd.ntmps9
  go_wp2_with fail
  rw [HW0.out]
  refine HAN.out.mono ?_
  rintro e W1 ⟨rfl, hb⟩
  clear HAN
  have HB1 : Hid (Below k w W1) := Lib.hid (HB0.out.trans (hb.mono (by rw [HZ0.out]; omega)))
  have HZ1 : Hid (k + 1 ≤ W1.heap.size) := Lib.hid (by have := hb.size; rw [HZ0.out] at this; exact this)
  have HH1 : Hid (W1.heap[k]? = some (.cells #[.int .i64 n, .slice A m c] 24 (0, 0))) := Lib.hid ((hb.block k (by rw [HZ0.out]; omega)).trans HH0.out)
  have hg := HH1.out
  have hc0 : W1.cell? ⟨k, 0, none⟩ = some (.int .i64 n) := by simp [World.cell?, hg]
  have hc1 : W1.cell? ⟨k, 1, none⟩ = some (.slice A m c) := by simp [World.cell?, hg]
  have HPL := Lib.hid (plain_any (c := c) (z := n) (HX.out.below (B := w.heap.size) (by rw [Hk.out]; exact HB1.out)) (by rw [Hk.out]; have := HZ1.out; omega) hm0 true ⟨fun _ => ⟨hm, .inr hr⟩, fun _ => rfl⟩)
  clear hb hg
  go_wp2_with fail
  refine HPL.out.mono ?_
  rintro e W2 ⟨rfl, hb⟩
  clear HPL hc0 hc1
  obtain ⟨p2, hp2⟩ : ∃ p2, W2.heap.size = p2 := ⟨_, rfl⟩
  obtain ⟨W3, hW3⟩ : ∃ W3, W2.alloc (.cells #[.int .i64 n, .slice A m c] 26) = W3 := ⟨_, rfl⟩
  have hkp : k < p2 := by rw [← hp2]; exact Nat.lt_of_lt_of_le (show k < W1.heap.size by have := HZ1.out; omega) hb.size
  have HKP := Lib.hid hkp
  have HB3 : Hid (Below k w W3) := Lib.hid (by rw [← hW3]; exact (HB1.out.trans (hb.mono (by have := HZ1.out; omega))).alloc (by omega) _)
  have HZ3 : Hid (p2 + 1 ≤ W3.heap.size) := Lib.hid (by rw [← hW3, World.size_alloc, hp2]; omega)
  have HG3 : Hid (W3.heap[k]? = some (.cells #[.int .i64 n, .slice A m c] 24 (0, 0))) := Lib.hid (by rw [← hW3, Below.heap_alloc _ _ _ (by omega)]; exact (hb.block k (by have := HZ1.out; omega)).trans HH1.out)
  have HP3 : Hid (W3.heap[p2]? = some (.cells #[.int .i64 n, .slice A m c] 26 (0, 0))) := Lib.hid (by rw [← hW3, ← hp2]; exact World.alloc_heap_new _ _)
  have HW3 := Lib.hid hW3
  clear hb hW3 hkp
  have hg := HG3.out
  have g0 : W3.cell? ⟨k, 0, none⟩ = some (.int .i64 n) := by simp [World.cell?, hg]
  have g1 : W3.cell? ⟨k, 1, none⟩ = some (.slice A m c) := by simp [World.cell?, hg]
  clear hg
  have HAL := Lib.hid (all_bad (c := c) (HX.out.below (B := w.heap.size) (by rw [Hk.out]; exact HB3.out)) hr hm0 (by rw [Hk.out]; have := HZ3.out; have := HKP.out; omega))
  have hd1 : decide ((x : Int) < 0) = false := decide_eq_false (by omega)
  have hd2 : decide ((y : Int) < 0) = false := decide_eq_false (by omega)
  have hx0 : (0 : Int) ≤ (x : Int) := by omega
  have hy0 : (0 : Int) ≤ (y : Int) := by omega
  have hW3 := HW3.out
  rw [← hW3] at g0 g1
  clear hW3
  go_wp2_with fail
  rw [HW3.out]
  refine HAL.out.mono ?_
  rintro e W4 ⟨rfl, hb⟩
  clear HAL g0 g1
  have HW34 := Lib.hid hb
  have HB4 : Hid (Below k w W4) := Lib.hid (HB3.out.trans (hb.mono (by have := HZ3.out; have := HKP.out; omega)))
  have HZ4 : Hid (p2 + 1 ≤ W4.heap.size) := Lib.hid (Nat.le_trans HZ3.out hb.size)
  have HG4 : Hid (W4.heap[k]? = some (.cells #[.int .i64 n, .slice A m c] 24 (0, 0))) := Lib.hid ((hb.block k (by have := HZ3.out; have := HKP.out; omega)).trans HG3.out)
  have HP4 : Hid (W4.heap[p2]? = some (.cells #[.int .i64 n, .slice A m c] 26 (0, 0))) := Lib.hid ((hb.block p2 (by have := HZ3.out; omega)).trans HP3.out)
  clear hb
  go_wp2
  go_ret
  exact ⟨rfl, by rw [Hk.out]; exact HB4.out⟩
set_option maxHeartbeats 8000000 in
theorem law_meets_circ {w : World} {m c : Nat} {N x y : Nat} {A : Option Addr} {g : List (Nat × Nat)} (hx : RdG w w.heap.size A m g) (hi : InN N g) (hn : N ≤ 10) (hm : m ≤ 60) (hG : ¬ Goes (befG g) N N) (hT : Tz w) (h0 : 0 < w.heap.size) :
    Calls Tryd.prog 9 #[.agg #[.int .i64 (N : Int), .slice A m c], .int .i64 (x : Int), .int .i64 (y : Int)] w fun e w' => e = .returned (.bool true) ∧ Below w.heap.size w w' := by
  have hm0 : m ≤ 9223372036854775807 := by omega
  obtain ⟨k, hk⟩ : ∃ k, w.heap.size = k := ⟨_, rfl⟩
  have Hk := Lib.hid hk
  obtain ⟨W0, hW0⟩ : ∃ W0, w.alloc (.cells #[.int .i64 (N : Int), .slice A m c] 24) = W0 := ⟨_, rfl⟩
  have hb0 : Below k w W0 := by rw [← hW0, ← hk]; exact (Below.refl _ w).alloc (Nat.le_refl _) _
  have hz0 : W0.heap.size = k + 1 := by rw [← hW0, World.size_alloc, hk]
  have hh0 : W0.heap[k]? = some (.cells #[.int .i64 (N : Int), .slice A m c] 24 (0, 0)) := by rw [← hW0, ← hk]; exact World.alloc_heap_new _ _
  have HB0 := Lib.hid hb0
  have HZ0 := Lib.hid hz0
  have HH0 := Lib.hid hh0
  have HX := Lib.hid hx
  have HAN := Lib.hid (anchor_any W0 (hT.below hb0 (by omega)) (by omega))
  have HW0 := Lib.hid hW0
  have HT0 : Hid (Tz w) := Lib.hid hT
  clear hx hT hb0 hz0 hh0 hW0
  go_enter Tryd.func9, Tryd.ntmps9
  go_wp2_with fail
  rw [HW0.out]
  refine HAN.out.mono ?_
  rintro e W1 ⟨rfl, hb⟩
  clear HAN
  have HB1 : Hid (Below k w W1) := Lib.hid (HB0.out.trans (hb.mono (by rw [HZ0.out]; omega)))
  have HZ1 : Hid (k + 1 ≤ W1.heap.size) := Lib.hid (by have := hb.size; rw [HZ0.out] at this; exact this)
  have HH1 : Hid (W1.heap[k]? = some (.cells #[.int .i64 (N : Int), .slice A m c] 24 (0, 0))) := Lib.hid ((hb.block k (by rw [HZ0.out]; omega)).trans HH0.out)
  have hg := HH1.out
  have hc0 : W1.cell? ⟨k, 0, none⟩ = some (.int .i64 (N : Int)) := by simp [World.cell?, hg]
  have hc1 : W1.cell? ⟨k, 1, none⟩ = some (.slice A m c) := by simp [World.cell?, hg]
  have HPL := Lib.hid (plain_any (c := c) (z := (N : Int)) (HX.out.below (B := w.heap.size) (by rw [Hk.out]; exact HB1.out)) (by rw [Hk.out]; have := HZ1.out; omega) hm0 true ⟨fun _ => ⟨hm, .inl (by omega)⟩, fun _ => rfl⟩)
  clear hb hg
  go_wp2_with fail
  refine HPL.out.mono ?_
  rintro e W2 ⟨rfl, hb⟩
  clear HPL hc0 hc1
  obtain ⟨p2, hp2⟩ : ∃ p2, W2.heap.size = p2 := ⟨_, rfl⟩
  obtain ⟨W3, hW3⟩ : ∃ W3, W2.alloc (.cells #[.int .i64 (N : Int), .slice A m c] 26) = W3 := ⟨_, rfl⟩
  have hkp : k < p2 := by rw [← hp2]; exact Nat.lt_of_lt_of_le (show k < W1.heap.size by have := HZ1.out; omega) hb.size
  have HKP := Lib.hid hkp
  have HB3 : Hid (Below k w W3) := Lib.hid (by rw [← hW3]; exact (HB1.out.trans (hb.mono (by have := HZ1.out; omega))).alloc (by omega) _)
  have HZ3 : Hid (p2 + 1 ≤ W3.heap.size) := Lib.hid (by rw [← hW3, World.size_alloc, hp2]; omega)
  have HG3 : Hid (W3.heap[k]? = some (.cells #[.int .i64 (N : Int), .slice A m c] 24 (0, 0))) := Lib.hid (by rw [← hW3, Below.heap_alloc _ _ _ (by omega)]; exact (hb.block k (by have := HZ1.out; omega)).trans HH1.out)
  have HP3 : Hid (W3.heap[p2]? = some (.cells #[.int .i64 (N : Int), .slice A m c] 26 (0, 0))) := Lib.hid (by rw [← hW3, ← hp2]; exact World.alloc_heap_new _ _)
  have HW3 := Lib.hid hW3
  clear hb hW3 hkp
  have hg := HG3.out
  have g0 : W3.cell? ⟨k, 0, none⟩ = some (.int .i64 (N : Int)) := by simp [World.cell?, hg]
  have g1 : W3.cell? ⟨k, 1, none⟩ = some (.slice A m c) := by simp [World.cell?, hg]
  clear hg
  have HAL := Lib.hid (all_no (c := c) (HX.out.below (B := w.heap.size) (by rw [Hk.out]; exact HB3.out)) hi (show N ≤ 64 by omega) (show m ≤ 4096 by omega) hG (by rw [Hk.out]; have := HZ3.out; have := HKP.out; omega))
  have hd1 : decide ((x : Int) < 0) = false := decide_eq_false (by omega)
  have hd2 : decide ((y : Int) < 0) = false := decide_eq_false (by omega)
  have hx0 : (0 : Int) ≤ (x : Int) := by omega
  have hy0 : (0 : Int) ≤ (y : Int) := by omega
  have hW3 := HW3.out
  rw [← hW3] at g0 g1
  clear hW3
  go_wp2_with fail
  rw [HW3.out]
  refine HAL.out.mono ?_
  rintro e W4 ⟨rfl, hb⟩
  clear HAL g0 g1
  have HW34 := Lib.hid hb
  have HB4 : Hid (Below k w W4) := Lib.hid (HB3.out.trans (hb.mono (by have := HZ3.out; have := HKP.out; omega)))
  have HZ4 : Hid (p2 + 1 ≤ W4.heap.size) := Lib.hid (Nat.le_trans HZ3.out hb.size)
  have HG4 : Hid (W4.heap[k]? = some (.cells #[.int .i64 (N : Int), .slice A m c] 24 (0, 0))) := Lib.hid ((hb.block k (by have := HZ3.out; have := HKP.out; omega)).trans HG3.out)
  have HP4 : Hid (W4.heap[p2]? = some (.cells #[.int .i64 (N : Int), .slice A m c] 26 (0, 0))) := Lib.hid ((hb.block p2 (by have := HZ3.out; omega)).trans HP3.out)
  clear hb
  go_wp2
  go_ret
  exact ⟨rfl, by rw [Hk.out]; exact HB4.out⟩
set_option maxHeartbeats 8000000 in
theorem law_meets_go {w : World} {m c : Nat} {N x y : Nat} {A : Option Addr} {g : List (Nat × Nat)} (hS : SortOK 1024) (hx : RdG w w.heap.size A m g) (hi : InN N g) (hn : N ≤ 10) (hm : m ≤ 60) (hG : Goes (befG g) N N) (hT : Tz w) (h0 : 0 < w.heap.size) :
    Calls Tryd.prog 9 #[.agg #[.int .i64 (N : Int), .slice A m c], .int .i64 (x : Int), .int .i64 (y : Int)] w fun e w' => e = .returned (.bool true) ∧ Below w.heap.size w w' := by
  have hm0 : m ≤ 9223372036854775807 := by omega
  have hP1 : (2 : Nat) ^ N ≤ 1024 := by
    have h2 : (2 : Nat) ^ N ≤ 2 ^ 10 := Nat.pow_le_pow_right (by omega) hn
    omega
  have hP0 := Nat.two_pow_pos N
  have hLL : (clN N (closedB g)).length ≤ 1024 := by
    have := List.length_filter_le (closedB g) (List.range (2 ^ N))
    rw [List.length_range] at this
    exact Nat.le_trans this hP1
  have hfirst := clN_first (n := N) (cl_none g)
  have hlast := clN_last (cl_full hi)
  obtain ⟨k, hk⟩ : ∃ k, w.heap.size = k := ⟨_, rfl⟩
  have Hk := Lib.hid hk
  obtain ⟨W0, hW0⟩ : ∃ W0, w.alloc (.cells #[.int .i64 (N : Int), .slice A m c] 24) = W0 := ⟨_, rfl⟩
  have hb0 : Below k w W0 := by rw [← hW0, ← hk]; exact (Below.refl _ w).alloc (Nat.le_refl _) _
  have hz0 : W0.heap.size = k + 1 := by rw [← hW0, World.size_alloc, hk]
  have hh0 : W0.heap[k]? = some (.cells #[.int .i64 (N : Int), .slice A m c] 24 (0, 0)) := by rw [← hW0, ← hk]; exact World.alloc_heap_new _ _
  have HB0 := Lib.hid hb0
  have HZ0 := Lib.hid hz0
  have HH0 := Lib.hid hh0
  have HX := Lib.hid hx
  have HAN := Lib.hid (anchor_any W0 (hT.below hb0 (by omega)) (by omega))
  have HW0 := Lib.hid hW0
  have HT0 : Hid (Tz w) := Lib.hid hT
  clear hx hT hb0 hz0 hh0 hW0
  go_enter Tryd.func9, Tryd.ntmps9
  go_wp2_with fail
  rw [HW0.out]
  refine HAN.out.mono ?_
  rintro e W1 ⟨rfl, hb⟩
  clear HAN
  have HB1 : Hid (Below k w W1) := Lib.hid (HB0.out.trans (hb.mono (by rw [HZ0.out]; omega)))
  have HZ1 : Hid (k + 1 ≤ W1.heap.size) := Lib.hid (by have := hb.size; rw [HZ0.out] at this; exact this)
  have HH1 : Hid (W1.heap[k]? = some (.cells #[.int .i64 (N : Int), .slice A m c] 24 (0, 0))) := Lib.hid ((hb.block k (by rw [HZ0.out]; omega)).trans HH0.out)
  have hg := HH1.out
  have hc0 : W1.cell? ⟨k, 0, none⟩ = some (.int .i64 (N : Int)) := by simp [World.cell?, hg]
  have hc1 : W1.cell? ⟨k, 1, none⟩ = some (.slice A m c) := by simp [World.cell?, hg]
  have HPL := Lib.hid (plain_any (c := c) (z := (N : Int)) (HX.out.below (B := w.heap.size) (by rw [Hk.out]; exact HB1.out)) (by rw [Hk.out]; have := HZ1.out; omega) hm0 true ⟨fun _ => ⟨hm, .inl (by omega)⟩, fun _ => rfl⟩)
  clear hb hg
  go_wp2_with fail
  refine HPL.out.mono ?_
  rintro e W2 ⟨rfl, hb⟩
  clear HPL hc0 hc1
  obtain ⟨p2, hp2⟩ : ∃ p2, W2.heap.size = p2 := ⟨_, rfl⟩
  obtain ⟨W3, hW3⟩ : ∃ W3, W2.alloc (.cells #[.int .i64 (N : Int), .slice A m c] 26) = W3 := ⟨_, rfl⟩
  have hkp : k < p2 := by rw [← hp2]; exact Nat.lt_of_lt_of_le (show k < W1.heap.size by have := HZ1.out; omega) hb.size
  have HKP := Lib.hid hkp
  have HB3 : Hid (Below k w W3) := Lib.hid (by rw [← hW3]; exact (HB1.out.trans (hb.mono (by have := HZ1.out; omega))).alloc (by omega) _)
  have HZ3 : Hid (p2 + 1 ≤ W3.heap.size) := Lib.hid (by rw [← hW3, World.size_alloc, hp2]; omega)
  have HG3 : Hid (W3.heap[k]? = some (.cells #[.int .i64 (N : Int), .slice A m c] 24 (0, 0))) := Lib.hid (by rw [← hW3, Below.heap_alloc _ _ _ (by omega)]; exact (hb.block k (by have := HZ1.out; omega)).trans HH1.out)
  have HP3 : Hid (W3.heap[p2]? = some (.cells #[.int .i64 (N : Int), .slice A m c] 26 (0, 0))) := Lib.hid (by rw [← hW3, ← hp2]; exact World.alloc_heap_new _ _)
  have HW3 := Lib.hid hW3
  clear hb hW3 hkp
  have hg := HG3.out
  have g0 : W3.cell? ⟨k, 0, none⟩ = some (.int .i64 (N : Int)) := by simp [World.cell?, hg]
  have g1 : W3.cell? ⟨k, 1, none⟩ = some (.slice A m c) := by simp [World.cell?, hg]
  clear hg
  have HAL := Lib.hid (all_any hS (c := c) (HX.out.below (B := w.heap.size) (by rw [Hk.out]; exact HB3.out)) hi hn (show m ≤ 4096 by omega) (by rw [Hk.out]; have := HZ3.out; have := HKP.out; omega) (HT0.out.below (B := k) HB3.out (by rw [← Hk.out]; exact h0)) (by have := HZ3.out; omega) hG hLL)
  have hd1 : decide ((x : Int) < 0) = false := decide_eq_false (by omega)
  have hd2 : decide ((y : Int) < 0) = false := decide_eq_false (by omega)
  have hx0 : (0 : Int) ≤ (x : Int) := by omega
  have hy0 : (0 : Int) ≤ (y : Int) := by omega
  obtain ⟨L, hL⟩ : ∃ L, clN N (closedB g) = L := ⟨_, rfl⟩
  obtain ⟨LN, hLN⟩ : ∃ LN, L.length = LN := ⟨_, rfl⟩
  have HME : Hid (∀ s, s ∈ L ↔ s < 2 ^ N ∧ closedB g s = true) := Lib.hid (fun s => by rw [← hL]; exact clN_mem)
  rw [hL] at HAL hfirst hlast hLL
  rw [hLN] at HAL hlast hLL
  have HLN := Lib.hid hLN
  clear hL
  have hW3 := HW3.out
  rw [← hW3] at g0 g1
  clear hW3
  go_wp2_with fail
  rw [HW3.out]
  refine HAL.out.mono ?_
  rintro e W4 ⟨⟨blk, cap, rfl, hle, hcl⟩, hb⟩
  have HCL := Lib.hid hcl
  clear hle hcl
  clear HAL g0 g1
  have HW34 := Lib.hid hb
  have HB4 : Hid (Below k w W4) := Lib.hid (HB3.out.trans (hb.mono (by have := HZ3.out; have := HKP.out; omega)))
  have HZ4 : Hid (p2 + 1 ≤ W4.heap.size) := Lib.hid (Nat.le_trans HZ3.out hb.size)
  have HG4 : Hid (W4.heap[k]? = some (.cells #[.int .i64 (N : Int), .slice A m c] 24 (0, 0))) := Lib.hid ((hb.block k (by have := HZ3.out; have := HKP.out; omega)).trans HG3.out)
  have HP4 : Hid (W4.heap[p2]? = some (.cells #[.int .i64 (N : Int), .slice A m c] 26 (0, 0))) := Lib.hid ((hb.block p2 (by have := HZ3.out; omega)).trans HP3.out)
  clear hb
  have hg := HG4.out
  have g0 : W4.cell? ⟨k, 0, none⟩ = some (.int .i64 (N : Int)) := by simp [World.cell?, hg]
  have g1 : W4.cell? ⟨k, 1, none⟩ = some (.slice A m c) := by simp [World.cell?, hg]
  clear hg
  have hc0 : W4.cell? ⟨blk, 0, none⟩ = some (.int .u64 0) := by
    rw [HCL.out 0 (by omega), List.getD_eq_getElem?_getD, hfirst]; rfl
  have hc9 : W4.cell? ⟨blk, LN - 1, none⟩ = some (.int .u64 ((2 ^ N - 1 : Nat) : Int)) := by
    rw [HCL.out (LN - 1) (by omega), List.getD_eq_getElem?_getD, hlast.2]; rfl
  obtain ⟨M, hM⟩ : ∃ M, (2 : Nat) ^ N = M := ⟨_, rfl⟩
  have hMw : IntKind.u64.wrap ((2 : Int) ^ N) = (M : Int) := by
    have e2 : ((2 : Int) ^ N) = ((2 ^ N : Nat) : Int) := by simp
    rw [e2, hM, IntKind.wrap_u64]
    omega
  have HMP := Lib.hid hM
  rw [hM] at hP0 hP1 HME hc9
  have hM1 : IntKind.u64.wrap ((M : Int) - 1) = ((M - 1 : Nat) : Int) := by rw [IntKind.wrap_u64]; omega
  have hl0 : ((LN : Int) == 0) = false := beq_eq_false_iff_ne.2 (by omega)
  have hl1 : IntKind.i64.wrap ((LN : Int) - 1) = ((LN - 1 : Nat) : Int) := by rw [IntWalk.i64_in _ (by omega)]; omega
  have hl2 : ((LN - 1 : Nat) : Int) < (LN : Int) := by omega
  have hl3 : (0 : Int) < (LN : Int) := by omega
  have hl4 : (0 : Int) ≤ ((LN - 1 : Nat) : Int) := by omega
  have hln0 : ¬ LN = 0 := hlast.1
  have hmm : (((M - 1 : Nat) : Int) != ((M - 1 : Nat) : Int)) = false := by simp
  have HNZ : Hid (0 < LN) := Lib.hid (by omega)
  have HLL : Hid (LN ≤ 1024) := Lib.hid hLL
  have HPM : Hid (M ≤ 1024 ∧ 0 < M) := Lib.hid ⟨hP1, hP0⟩
  clear hfirst hlast hP0 hP1 hLL hM
  go_wp2_with fail
  go_quiet (fail)
  clear hc0 hc9 hl0 hl1 hl2 hl3 hl4 hmm hMw hM1 hd1 hd2
  have hxl : x % LN < LN := Nat.mod_lt _ HNZ.out
  have hyl : y % LN < LN := Nat.mod_lt _ HNZ.out
  obtain ⟨xi, hxi⟩ : ∃ xi, x % LN = xi := ⟨_, rfl⟩
  obtain ⟨yi, hyi⟩ : ∃ yi, y % LN = yi := ⟨_, rfl⟩
  have htx : (x : Int).tmod (LN : Int) = (xi : Int) := by rw [← hxi, ← Int.ofNat_tmod]
  have hty : (y : Int).tmod (LN : Int) = (yi : Int) := by rw [← hyi, ← Int.ofNat_tmod]
  have hux : (x : Int) % (LN : Int) = (xi : Int) := by rw [← hxi]; omega
  have huy : (y : Int) % (LN : Int) = (yi : Int) := by rw [← hyi]; omega
  rw [hxi] at hxl
  rw [hyi] at hyl
  obtain ⟨a, ha⟩ : ∃ a, L.getD xi 0 = a := ⟨_, rfl⟩
  obtain ⟨b, hb⟩ : ∃ b, L.getD yi 0 = b := ⟨_, rfl⟩
  have hca : W4.cell? ⟨blk, xi, none⟩ = some (.int .u64 (a : Int)) := by rw [HCL.out xi hxl, ha]
  have hcb : W4.cell? ⟨blk, yi, none⟩ = some (.int .u64 (b : Int)) := by rw [HCL.out yi hyl, hb]
  have hMa := (HME.out a).1 (by rw [← ha]; exact getD_mem (by rw [HLN.out]; exact hxl))
  have hMb := (HME.out b).1 (by rw [← hb]; exact getD_mem (by rw [HLN.out]; exact hyl))
  have hal : a < lim := show a < 18446744073709551616 by have := hMa.1; have := HPM.out; omega
  have hbl : b < lim := show b < 18446744073709551616 by have := hMb.1; have := HPM.out; omega
  have hMp : M = 2 ^ N := HMP.out.symm
  have HAM : Hid (a &&& b ∈ L) := Lib.hid ((HME.out _).2 ⟨by have h := @Nat.and_le_left a b; omega, (closedB_iff g _).2 (cl_and ((closedB_iff g a).1 hMa.2) ((closedB_iff g b).1 hMb.2))⟩)
  have HOM : Hid (a ||| b ∈ L) := Lib.hid ((HME.out _).2 ⟨by rw [hMp]; exact Nat.or_lt_two_pow (by rw [← hMp]; exact hMa.1) (by rw [← hMp]; exact hMb.1), (closedB_iff g _).2 (cl_or ((closedB_iff g a).1 hMa.2) ((closedB_iff g b).1 hMb.2))⟩)
  have hx1 : ((xi : Nat) : Int) < (LN : Int) := by omega
  have hy1 : ((yi : Nat) : Int) < (LN : Int) := by omega
  have hx9 : (0 : Int) ≤ ((xi : Nat) : Int) := by omega
  have hy9 : (0 : Int) ≤ ((yi : Nat) : Int) := by omega
  have HBA : Hid (bits BinOp.and IntKind.u64 (a : Int) (b : Int) = ((a &&& b : Nat) : Int)) := Lib.hid (bits_and_u64_nat a b hal hbl)
  have HBO : Hid (bits BinOp.or IntKind.u64 (a : Int) (b : Int) = ((a ||| b : Nat) : Int)) := Lib.hid (bits_or_u64_nat a b hal hbl)
  clear hMa hMb hal hbl ha hb hxi hyi hxl hyl hMp
  go_wp2_with fail
  go_quiet (fail)
  clear hca hcb htx hty hux huy hx1 hy1 hx9 hy9
  obtain ⟨ab, hab⟩ : ∃ ab, a &&& b = ab := ⟨_, rfl⟩
  obtain ⟨ob, hob⟩ : ∃ ob, a ||| b = ob := ⟨_, rfl⟩
  rw [hab] at HAM HBA
  rw [hob] at HOM HBO
  clear hab hob
  go_wp2_with fail
  go_loop [13, 14, 82] (fun xx yy ii => ∃ q : Nat, q ≤ LN ∧ ii = .int .i64 (q : Int) ∧ xx = .bool (seenL L ab q) ∧ yy = .bool (seenL L ob q)) (fun _ _ ii => LN - (intOf ii).toNat)
  case atStart => exact ⟨0, by omega, rfl, rfl, rfl⟩
  case round =>
    obtain ⟨q, hq, rfl, rfl, rfl⟩ := hrel
    by_cases hlq : q < LN
    · have hdk : decide ((q : Int) < (LN : Int)) = true := decide_eq_true (by omega)
      have hadd : IntKind.i64.wrap ((q : Int) + 1) = ((q + 1 : Nat) : Int) := by rw [IntWalk.i64_in _ (by have := HLL.out; omega)]; omega
      have hcq := HCL.out q hlq
      obtain ⟨s, hs⟩ : ∃ s, L.getD q 0 = s := ⟨_, rfl⟩
      have HSA := Lib.hid (seenL_succ L ab q)
      have HSO := Lib.hid (seenL_succ L ob q)
      rw [hs] at hcq HSA HSO
      have hba := HBA.out
      have hbo := HBO.out
      obtain ⟨fa, hfa⟩ : ∃ fa, seenL L ab q = fa := ⟨_, rfl⟩
      obtain ⟨fo, hfo⟩ : ∃ fo, seenL L ob q = fo := ⟨_, rfl⟩
      rw [hfa] at HSA ⊢
      rw [hfo] at HSO ⊢
      clear hfa hfo hs
      have hea : ((s : Int) == (ab : Int)) = (s == ab) := by
        rw [Bool.eq_iff_iff, beq_iff_eq, beq_iff_eq]; omega
      have heo : ((s : Int) == (ob : Int)) = (s == ob) := by
        rw [Bool.eq_iff_iff, beq_iff_eq, beq_iff_eq]; omega
      obtain ⟨ea, hea2⟩ : ∃ ea, (s == ab) = ea := ⟨_, rfl⟩
      obtain ⟨eo, heo2⟩ : ∃ eo, (s == ob) = eo := ⟨_, rfl⟩
      rw [hea2] at hea HSA
      rw [heo2] at heo HSO
      clear hea2 heo2
      cases fa with
      | true =>
        cases fo with
        | true =>
          cases ea with
          | true =>
            cases eo with
            | true =>
              go_wp2
              go_round
              case rel => exact ⟨q + 1, by omega, by go_num, by rw [HSA.out]; rfl, by rw [HSO.out]; rfl⟩
              case measure => simp [intOf]; omega
            | false =>
              go_wp2
              go_round
              case rel => exact ⟨q + 1, by omega, by go_num, by rw [HSA.out]; rfl, by rw [HSO.out]; rfl⟩
              case measure => simp [intOf]; omega
          | false =>
            cases eo with
            | true =>
              go_wp2
              go_round
              case rel => exact ⟨q + 1, by omega, by go_num, by rw [HSA.out]; rfl, by rw [HSO.out]; rfl⟩
              case measure => simp [intOf]; omega
            | false =>
              go_wp2
              go_round
              case rel => exact ⟨q + 1, by omega, by go_num, by rw [HSA.out]; rfl, by rw [HSO.out]; rfl⟩
              case measure => simp [intOf]; omega
        | false =>
          cases ea with
          | true =>
            cases eo with
            | true =>
              go_wp2
              go_round
              case rel => exact ⟨q + 1, by omega, by go_num, by rw [HSA.out]; rfl, by rw [HSO.out]; rfl⟩
              case measure => simp [intOf]; omega
            | false =>
              go_wp2
              go_round
              case rel => exact ⟨q + 1, by omega, by go_num, by rw [HSA.out]; rfl, by rw [HSO.out]; rfl⟩
              case measure => simp [intOf]; omega
          | false =>
            cases eo with
            | true =>
              go_wp2
              go_round
              case rel => exact ⟨q + 1, by omega, by go_num, by rw [HSA.out]; rfl, by rw [HSO.out]; rfl⟩
              case measure => simp [intOf]; omega
            | false =>
              go_wp2
              go_round
              case rel => exact ⟨q + 1, by omega, by go_num, by rw [HSA.out]; rfl, by rw [HSO.out]; rfl⟩
              case measure => simp [intOf]; omega
      | false =>
        cases fo with
        | true =>
          cases ea with
          | true =>
            cases eo with
            | true =>
              go_wp2
              go_round
              case rel => exact ⟨q + 1, by omega, by go_num, by rw [HSA.out]; rfl, by rw [HSO.out]; rfl⟩
              case measure => simp [intOf]; omega
            | false =>
              go_wp2
              go_round
              case rel => exact ⟨q + 1, by omega, by go_num, by rw [HSA.out]; rfl, by rw [HSO.out]; rfl⟩
              case measure => simp [intOf]; omega
          | false =>
            cases eo with
            | true =>
              go_wp2
              go_round
              case rel => exact ⟨q + 1, by omega, by go_num, by rw [HSA.out]; rfl, by rw [HSO.out]; rfl⟩
              case measure => simp [intOf]; omega
            | false =>
              go_wp2
              go_round
              case rel => exact ⟨q + 1, by omega, by go_num, by rw [HSA.out]; rfl, by rw [HSO.out]; rfl⟩
              case measure => simp [intOf]; omega
        | false =>
          cases ea with
          | true =>
            cases eo with
            | true =>
              go_wp2
              go_round
              case rel => exact ⟨q + 1, by omega, by go_num, by rw [HSA.out]; rfl, by rw [HSO.out]; rfl⟩
              case measure => simp [intOf]; omega
            | false =>
              go_wp2
              go_round
              case rel => exact ⟨q + 1, by omega, by go_num, by rw [HSA.out]; rfl, by rw [HSO.out]; rfl⟩
              case measure => simp [intOf]; omega
          | false =>
            cases eo with
            | true =>
              go_wp2
              go_round
              case rel => exact ⟨q + 1, by omega, by go_num, by rw [HSA.out]; rfl, by rw [HSO.out]; rfl⟩
              case measure => simp [intOf]; omega
            | false =>
              go_wp2
              go_round
              case rel => exact ⟨q + 1, by omega, by go_num, by rw [HSA.out]; rfl, by rw [HSO.out]; rfl⟩
              case measure => simp [intOf]; omega
    · have hdk : decide ((q : Int) < (LN : Int)) = false := decide_eq_false (by omega)
      obtain rfl : q = LN := by omega
      have h1 : seenL L ab q = true := by rw [← HLN.out]; exact seenL_mem HAM.out
      have h2 : seenL L ob q = true := by rw [← HLN.out]; exact seenL_mem HOM.out
      rw [h1, h2]
      clear h1 h2
      go_wp2
      go_ret
      exact ⟨rfl, below_drewN HB4.out _⟩
theorem law_meets (hS : SortOK 1024) {w : World} {m c : Nat} {n i j : Int} {A : Option Addr} {es : List (Int × Int)} (hx : RdE w w.heap.size A m es) (hm0 : m ≤ 9223372036854775807) (hT : Tz w) (h0 : 0 < w.heap.size) :
    Calls Tryd.prog 9 #[.agg #[.int .i64 n, .slice A m c], .int .i64 i, .int .i64 j] w fun e w' => e = .returned (.bool true) ∧ Below w.heap.size w w' := by
  by_cases hok : m ≤ 60 ∧ (n ≤ 10 ∨ ¬ GraphR n es)
  · by_cases hij : i < 0 ∨ j < 0
    · exact law_meets_neg hx hm0 hok hij hT h0
    · obtain ⟨x, rfl⟩ := Int.eq_ofNat_of_zero_le (Int.not_lt.1 fun h => hij (.inl h))
      obtain ⟨y, rfl⟩ := Int.eq_ofNat_of_zero_le (Int.not_lt.1 fun h => hij (.inr h))
      by_cases hr : GraphR n es
      · have hn : n ≤ 10 := hok.2.elim id (fun h => (h hr).elim)
        obtain ⟨N, g, rfl, rfl, hi, _, _⟩ := graph_nat hr
        by_cases hG : Goes (befG g) N N
        · exact law_meets_go hS hx hi (by omega) hok.1 hG hT h0
        · exact law_meets_circ hx hi (by omega) hok.1 hG hT h0
      · exact law_meets_wrong hx hm0 hok.1 hr hT h0
  · exact law_meets_skip hx hm0 hok hT h0
end Go.Proofs.YtfcabdgidlnljaaDoor
