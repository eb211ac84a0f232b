/-
  THE WALK of the statement LatticeWays (printed by genlawlv.py), once a sort of 1024 sets is there (hS).
-/
import Derived.Test.YtfcabdgidlnljaaDoorLLaw0
import Derived.Test.YtfcabdgidlnljaaDoorLClErr
import Derived.Test.YtfcabdgidlnljaaDoorDCirc
import Derived.Test.YtfcabdgidlnljaaDoorDRef
import Derived.Test.YtfcabdgidlnljaaDoorLWysP
import Derived.Test.YtfcabdgidlnljaaDoorLOwnB
import Derived.OwnWalk
namespace Go.Proofs.YtfcabdgidlnljaaDoor
open Go.RowKit
open DiP
set_option linter.unusedVariables false
set_option linter.unusedSimpArgs false
set_option maxRecDepth 100000
/-- The table in memory. -/
def TabAt (wr W5 : World) (p5 M : Nat) (f : Nat → Nat) : Prop :=
  ∃ xs : List Int, Own wr p5 (.slice (some ⟨p5, 0, none⟩) M M) M xs ∧ (∀ x, x < M → ix xs x = ((f x : Nat) : Int)) ∧ Below p5 W5 wr ∧ p5 < wr.heap.size
theorem TabAt.store {wr W5 : World} {p5 M : Nat} {f f' : Nat → Nat} (h : TabAt wr W5 p5 M f) {z : Nat} {u : Int} (hz : z < M) (hu : u = ((f' z : Nat) : Int)) (ho : ∀ x, x < M → x ≠ z → f' x = f x) (n : Nat) :
    TabAt ((wr.drewN n).setCell ⟨p5, z, none⟩ (.int .i64 u)) W5 p5 M f' := by
  obtain ⟨xs, h1, h2, h3, h4⟩ := h
  have hl : xs.length = M := h1.len
  refine ⟨xs.set z u, (h1.drewN n).store z u, fun x hx => ?_, ?_, ?_⟩
  · rw [ix_set xs z x u (by omega)]
    by_cases e : z = x
    · subst e; rw [if_pos rfl, hu]
    · rw [if_neg e, h2 x hx, ho x hx (fun e2 => e e2.symm)]
  · have h5 : Below p5 W5 (wr.drewN n) := ⟨h3.os, h3.tape, h3.output, h3.size, h3.block⟩
    exact h5.setCell (Nat.le_refl _) _
  · simpa [World.setCell, World.drewN] using h4
theorem TabAt.same {wr W5 : World} {p5 M : Nat} {f f' : Nat → Nat} (h : TabAt wr W5 p5 M f) (ho : ∀ x, x < M → f' x = f x) : TabAt wr W5 p5 M f' := by
  obtain ⟨xs, h1, h2, h3, h4⟩ := h
  exact ⟨xs, h1, fun x hx => by rw [h2 x hx, ho x hx], h3, h4⟩
theorem TabAt.kept {wr w9 W5 : World} {p5 M : Nat} {f : Nat → Nat} (h : TabAt wr W5 p5 M f) (hb : Below wr.heap.size wr w9) : TabAt w9 W5 p5 M f := by
  obtain ⟨xs, h1, h2, h3, h4⟩ := h
  exact ⟨xs, h1.kept hb, h2, h3.trans (hb.mono (by omega)), Nat.lt_of_lt_of_le h4 hb.size⟩
theorem TabAt.cell {wr W5 : World} {p5 M : Nat} {f : Nat → Nat} (h : TabAt wr W5 p5 M f) {x : Nat} (hx : x < M) : wr.cell? ⟨p5, x, none⟩ = some (.int .i64 ((f x : Nat) : Int)) ∧ wr.frozen? ⟨p5, x, none⟩ = false := by
  obtain ⟨xs, h1, h2, h3, h4⟩ := h
  exact ⟨by rw [h1.cell hx, h2 x hx], h1.free x⟩
set_option maxHeartbeats 8000000 in
theorem law_ways_skip {w : World} {m c : Nat} {n : Int} {A : Option Addr} {es : List (Int × Int)} (hx : RdE w w.heap.size A m es) (hm0 : m ≤ 9223372036854775807) (hok : ¬ (m ≤ 60 ∧ (n ≤ 10 ∨ ¬ GraphR n es))) (hT : Tz w) (h0 : 0 < w.heap.size) :
    Calls Tryd.prog 4 #[.agg #[.int .i64 n, .slice A m c]] w fun e w' => e = .returned (.bool true) ∧ Below w.heap.size w w' := by
  obtain ⟨k, hk⟩ : ∃ k, w.heap.size = k := ⟨_, rfl⟩
  have Hk := Lib.hid hk
  obtain ⟨W0, hW0⟩ : ∃ W0, w.alloc (.cells #[.int .i64 n, .slice A m c] 24) = W0 := ⟨_, rfl⟩
  have hb0 : Below k w W0 := by rw [← hW0, ← hk]; exact (Below.refl _ w).alloc (Nat.le_refl _) _
  have hz0 : W0.heap.size = k + 1 := by rw [← hW0, World.size_alloc, hk]
  have hh0 : W0.heap[k]? = some (.cells #[.int .i64 n, .slice A m c] 24 (0, 0)) := by rw [← hW0, ← hk]; exact World.alloc_heap_new _ _
  have HB0 := Lib.hid hb0
  have HZ0 := Lib.hid hz0
  have HH0 := Lib.hid hh0
  have HX := Lib.hid hx
  have HAN := Lib.hid (anchor_any W0 (hT.below hb0 (by omega)) (by omega))
  have HW0 := Lib.hid hW0
  have HT0 : Hid (Tz w) := Lib.hid hT
  clear hx hT hb0 hz0 hh0 hW0
  go_enter Tryd.func4, Tryd.ntmps4
  go_wp2_with fail
  rw [HW0.out]
  refine HAN.out.mono ?_
  rintro e W1 ⟨rfl, hb⟩
  clear HAN
  have HB1 : Hid (Below k w W1) := Lib.hid (HB0.out.trans (hb.mono (by rw [HZ0.out]; omega)))
  have HZ1 : Hid (k + 1 ≤ W1.heap.size) := Lib.hid (by have := hb.size; rw [HZ0.out] at this; exact this)
  have HH1 : Hid (W1.heap[k]? = some (.cells #[.int .i64 n, .slice A m c] 24 (0, 0))) := Lib.hid ((hb.block k (by rw [HZ0.out]; omega)).trans HH0.out)
  have hg := HH1.out
  have hc0 : W1.cell? ⟨k, 0, none⟩ = some (.int .i64 n) := by simp [World.cell?, hg]
  have hc1 : W1.cell? ⟨k, 1, none⟩ = some (.slice A m c) := by simp [World.cell?, hg]
  have HPL := Lib.hid (plain_any (c := c) (z := n) (HX.out.below (B := w.heap.size) (by rw [Hk.out]; exact HB1.out)) (by rw [Hk.out]; have := HZ1.out; omega) hm0 false ⟨nofun, fun h => (hok h).elim⟩)
  clear hb hg
  go_wp2_with fail
  refine HPL.out.mono ?_
  rintro e W2 ⟨rfl, hb⟩
  clear HPL hc0 hc1
  obtain ⟨p2, hp2⟩ : ∃ p2, W2.heap.size = p2 := ⟨_, rfl⟩
  obtain ⟨W3, hW3⟩ : ∃ W3, W2.alloc (.cells #[.int .i64 n, .slice A m c] 26) = W3 := ⟨_, rfl⟩
  have hkp : k < p2 := by rw [← hp2]; exact Nat.lt_of_lt_of_le (show k < W1.heap.size by have := HZ1.out; omega) hb.size
  have HKP := Lib.hid hkp
  have HB3 : Hid (Below k w W3) := Lib.hid (by rw [← hW3]; exact (HB1.out.trans (hb.mono (by have := HZ1.out; omega))).alloc (by omega) _)
  have HZ3 : Hid (p2 + 1 ≤ W3.heap.size) := Lib.hid (by rw [← hW3, World.size_alloc, hp2]; omega)
  have HG3 : Hid (W3.heap[k]? = some (.cells #[.int .i64 n, .slice A m c] 24 (0, 0))) := Lib.hid (by rw [← hW3, Below.heap_alloc _ _ _ (by omega)]; exact (hb.block k (by have := HZ1.out; omega)).trans HH1.out)
  have HP3 : Hid (W3.heap[p2]? = some (.cells #[.int .i64 n, .slice A m c] 26 (0, 0))) := Lib.hid (by rw [← hW3, ← hp2]; exact World.alloc_heap_new _ _)
  have HW3 := Lib.hid hW3
  clear hb hW3 hkp
  go_wp2
  rw [HW3.out]
  go_ret
  exact ⟨rfl, by rw [Hk.out]; exact HB3.out⟩
set_option maxHeartbeats 8000000 in
theorem law_ways_wrong {w : World} {m c : Nat} {n : Int} {A : Option Addr} {es : List (Int × Int)} (hx : RdE w w.heap.size A m es) (hm0 : m ≤ 9223372036854775807) (hm : m ≤ 60) (hr : ¬ GraphR n es) (hT : Tz w) (h0 : 0 < w.heap.size) :
    Calls Tryd.prog 4 #[.agg #[.int .i64 n, .slice A m c]] w fun e w' => e = .returned (.bool true) ∧ Below w.heap.size w w' := by
  obtain ⟨k, hk⟩ : ∃ k, w.heap.size = k := ⟨_, rfl⟩
  have Hk := Lib.hid hk
  obtain ⟨W0, hW0⟩ : ∃ W0, w.alloc (.cells #[.int .i64 n, .slice A m c] 24) = W0 := ⟨_, rfl⟩
  have hb0 : Below k w W0 := by rw [← hW0, ← hk]; exact (Below.refl _ w).alloc (Nat.le_refl _) _
  have hz0 : W0.heap.size = k + 1 := by rw [← hW0, World.size_alloc, hk]
  have hh0 : W0.heap[k]? = some (.cells #[.int .i64 n, .slice A m c] 24 (0, 0)) := by rw [← hW0, ← hk]; exact World.alloc_heap_new _ _
  have HB0 := Lib.hid hb0
  have HZ0 := Lib.hid hz0
  have HH0 := Lib.hid hh0
  have HX := Lib.hid hx
  have HAN := Lib.hid (anchor_any W0 (hT.below hb0 (by omega)) (by omega))
  have HW0 := Lib.hid hW0
  have HT0 : Hid (Tz w) := Lib.hid hT
  clear hx hT hb0 hz0 hh0 hW0
  go_enter Tryd.func4, Tryd.ntmps4
  go_wp2_with fail
  rw [HW0.out]
  refine HAN.out.mono ?_
  rintro e W1 ⟨rfl, hb⟩
  clear HAN
  have HB1 : Hid (Below k w W1) := Lib.hid (HB0.out.trans (hb.mono (by rw [HZ0.out]; omega)))
  have HZ1 : Hid (k + 1 ≤ W1.heap.size) := Lib.hid (by have := hb.size; rw [HZ0.out] at this; exact this)
  have HH1 : Hid (W1.heap[k]? = some (.cells #[.int .i64 n, .slice A m c] 24 (0, 0))) := Lib.hid ((hb.block k (by rw [HZ0.out]; omega)).trans HH0.out)
  have hg := HH1.out
  have hc0 : W1.cell? ⟨k, 0, none⟩ = some (.int .i64 n) := by simp [World.cell?, hg]
  have hc1 : W1.cell? ⟨k, 1, none⟩ = some (.slice A m c) := by simp [World.cell?, hg]
  have HPL := Lib.hid (plain_any (c := c) (z := n) (HX.out.below (B := w.heap.size) (by rw [Hk.out]; exact HB1.out)) (by rw [Hk.out]; have := HZ1.out; omega) hm0 true ⟨fun _ => ⟨hm, .inr hr⟩, fun _ => rfl⟩)
  clear hb hg
  go_wp2_with fail
  refine HPL.out.mono ?_
  rintro e W2 ⟨rfl, hb⟩
  clear HPL hc0 hc1
  obtain ⟨p2, hp2⟩ : ∃ p2, W2.heap.size = p2 := ⟨_, rfl⟩
  obtain ⟨W3, hW3⟩ : ∃ W3, W2.alloc (.cells #[.int .i64 n, .slice A m c] 26) = W3 := ⟨_, rfl⟩
  have hkp : k < p2 := by rw [← hp2]; exact Nat.lt_of_lt_of_le (show k < W1.heap.size by have := HZ1.out; omega) hb.size
  have HKP := Lib.hid hkp
  have HB3 : Hid (Below k w W3) := Lib.hid (by rw [← hW3]; exact (HB1.out.trans (hb.mono (by have := HZ1.out; omega))).alloc (by omega) _)
  have HZ3 : Hid (p2 + 1 ≤ W3.heap.size) := Lib.hid (by rw [← hW3, World.size_alloc, hp2]; omega)
  have HG3 : Hid (W3.heap[k]? = some (.cells #[.int .i64 n, .slice A m c] 24 (0, 0))) := Lib.hid (by rw [← hW3, Below.heap_alloc _ _ _ (by omega)]; exact (hb.block k (by have := HZ1.out; omega)).trans HH1.out)
  have HP3 : Hid (W3.heap[p2]? = some (.cells #[.int .i64 n, .slice A m c] 26 (0, 0))) := Lib.hid (by rw [← hW3, ← hp2]; exact World.alloc_heap_new _ _)
  have HW3 := Lib.hid hW3
  clear hb hW3 hkp
  have hg := HP3.out
  have q0 : W3.cell? ⟨p2, 0, none⟩ = some (.int .i64 n) := by simp [World.cell?, hg]
  have q1 : W3.cell? ⟨p2, 1, none⟩ = some (.slice A m c) := by simp [World.cell?, hg]
  clear hg
  have HRT := Lib.hid (right_no (c := c) (HX.out.below (B := w.heap.size) (by rw [Hk.out]; exact HB3.out)) hr hm0 (by rw [Hk.out]; have := HZ3.out; have := HKP.out; omega))
  have hW3 := HW3.out
  rw [← hW3] at q0 q1
  clear hW3
  go_wp2_with fail
  rw [HW3.out]
  refine HRT.out.mono ?_
  rintro e W4 ⟨rfl, hb⟩
  clear HRT q0 q1
  have HW34 := Lib.hid hb
  have HB4 : Hid (Below k w W4) := Lib.hid (HB3.out.trans (hb.mono (by have := HZ3.out; have := HKP.out; omega)))
  have HZ4 : Hid (p2 + 1 ≤ W4.heap.size) := Lib.hid (Nat.le_trans HZ3.out hb.size)
  have HG4 : Hid (W4.heap[k]? = some (.cells #[.int .i64 n, .slice A m c] 24 (0, 0))) := Lib.hid ((hb.block k (by have := HZ3.out; have := HKP.out; omega)).trans HG3.out)
  have HP4 : Hid (W4.heap[p2]? = some (.cells #[.int .i64 n, .slice A m c] 26 (0, 0))) := Lib.hid ((hb.block p2 (by have := HZ3.out; omega)).trans HP3.out)
  clear hb
  go_wp2
  go_ret
  exact ⟨rfl, by rw [Hk.out]; exact HB4.out⟩
set_option maxHeartbeats 8000000 in
theorem law_ways_circ {w : World} {m c : Nat} {N : Nat} {A : Option Addr} {g : List (Nat × Nat)} (hx : RdG w w.heap.size A m g) (hi : InN N g) (hn : N ≤ 10) (hm : m ≤ 60) (hG : ¬ Goes (befG g) N N) (hT : Tz w) (h0 : 0 < w.heap.size) :
    Calls Tryd.prog 4 #[.agg #[.int .i64 (N : Int), .slice A m c]] w fun e w' => e = .returned (.bool true) ∧ Below w.heap.size w w' := by
  have hr : GraphR (N : Int) (castE g) := graphR_cast hi (show N ≤ 64 by omega) (by rw [hx.len]; omega)
  have hm0 : m ≤ 9223372036854775807 := by omega
  have HI := Lib.hid hi
  obtain ⟨k, hk⟩ : ∃ k, w.heap.size = k := ⟨_, rfl⟩
  have Hk := Lib.hid hk
  obtain ⟨W0, hW0⟩ : ∃ W0, w.alloc (.cells #[.int .i64 (N : Int), .slice A m c] 24) = W0 := ⟨_, rfl⟩
  have hb0 : Below k w W0 := by rw [← hW0, ← hk]; exact (Below.refl _ w).alloc (Nat.le_refl _) _
  have hz0 : W0.heap.size = k + 1 := by rw [← hW0, World.size_alloc, hk]
  have hh0 : W0.heap[k]? = some (.cells #[.int .i64 (N : Int), .slice A m c] 24 (0, 0)) := by rw [← hW0, ← hk]; exact World.alloc_heap_new _ _
  have HB0 := Lib.hid hb0
  have HZ0 := Lib.hid hz0
  have HH0 := Lib.hid hh0
  have HX := Lib.hid hx
  have HAN := Lib.hid (anchor_any W0 (hT.below hb0 (by omega)) (by omega))
  have HW0 := Lib.hid hW0
  have HT0 : Hid (Tz w) := Lib.hid hT
  clear hx hT hb0 hz0 hh0 hW0
  go_enter Tryd.func4, Tryd.ntmps4
  go_wp2_with fail
  rw [HW0.out]
  refine HAN.out.mono ?_
  rintro e W1 ⟨rfl, hb⟩
  clear HAN
  have HB1 : Hid (Below k w W1) := Lib.hid (HB0.out.trans (hb.mono (by rw [HZ0.out]; omega)))
  have HZ1 : Hid (k + 1 ≤ W1.heap.size) := Lib.hid (by have := hb.size; rw [HZ0.out] at this; exact this)
  have HH1 : Hid (W1.heap[k]? = some (.cells #[.int .i64 (N : Int), .slice A m c] 24 (0, 0))) := Lib.hid ((hb.block k (by rw [HZ0.out]; omega)).trans HH0.out)
  have hg := HH1.out
  have hc0 : W1.cell? ⟨k, 0, none⟩ = some (.int .i64 (N : Int)) := by simp [World.cell?, hg]
  have hc1 : W1.cell? ⟨k, 1, none⟩ = some (.slice A m c) := by simp [World.cell?, hg]
  have HPL := Lib.hid (plain_any (c := c) (z := (N : Int)) (HX.out.below (B := w.heap.size) (by rw [Hk.out]; exact HB1.out)) (by rw [Hk.out]; have := HZ1.out; omega) hm0 true ⟨fun _ => ⟨hm, .inl (by omega)⟩, fun _ => rfl⟩)
  clear hb hg
  go_wp2_with fail
  refine HPL.out.mono ?_
  rintro e W2 ⟨rfl, hb⟩
  clear HPL hc0 hc1
  obtain ⟨p2, hp2⟩ : ∃ p2, W2.heap.size = p2 := ⟨_, rfl⟩
  obtain ⟨W3, hW3⟩ : ∃ W3, W2.alloc (.cells #[.int .i64 (N : Int), .slice A m c] 26) = W3 := ⟨_, rfl⟩
  have hkp : k < p2 := by rw [← hp2]; exact Nat.lt_of_lt_of_le (show k < W1.heap.size by have := HZ1.out; omega) hb.size
  have HKP := Lib.hid hkp
  have HB3 : Hid (Below k w W3) := Lib.hid (by rw [← hW3]; exact (HB1.out.trans (hb.mono (by have := HZ1.out; omega))).alloc (by omega) _)
  have HZ3 : Hid (p2 + 1 ≤ W3.heap.size) := Lib.hid (by rw [← hW3, World.size_alloc, hp2]; omega)
  have HG3 : Hid (W3.heap[k]? = some (.cells #[.int .i64 (N : Int), .slice A m c] 24 (0, 0))) := Lib.hid (by rw [← hW3, Below.heap_alloc _ _ _ (by omega)]; exact (hb.block k (by have := HZ1.out; omega)).trans HH1.out)
  have HP3 : Hid (W3.heap[p2]? = some (.cells #[.int .i64 (N : Int), .slice A m c] 26 (0, 0))) := Lib.hid (by rw [← hW3, ← hp2]; exact World.alloc_heap_new _ _)
  have HW3 := Lib.hid hW3
  clear hb hW3 hkp
  have hg := HP3.out
  have q0 : W3.cell? ⟨p2, 0, none⟩ = some (.int .i64 (N : Int)) := by simp [World.cell?, hg]
  have q1 : W3.cell? ⟨p2, 1, none⟩ = some (.slice A m c) := by simp [World.cell?, hg]
  clear hg
  have HRT := Lib.hid (right_yes (c := c) (HX.out.below (B := w.heap.size) (by rw [Hk.out]; exact HB3.out)) hr (by rw [Hk.out]; have := HZ3.out; have := HKP.out; omega))
  have hW3 := HW3.out
  rw [← hW3] at q0 q1
  clear hW3
  go_wp2_with fail
  rw [HW3.out]
  refine HRT.out.mono ?_
  rintro e W4 ⟨rfl, hb⟩
  clear HRT q0 q1
  have HW34 := Lib.hid hb
  have HB4 : Hid (Below k w W4) := Lib.hid (HB3.out.trans (hb.mono (by have := HZ3.out; have := HKP.out; omega)))
  have HZ4 : Hid (p2 + 1 ≤ W4.heap.size) := Lib.hid (Nat.le_trans HZ3.out hb.size)
  have HG4 : Hid (W4.heap[k]? = some (.cells #[.int .i64 (N : Int), .slice A m c] 24 (0, 0))) := Lib.hid ((hb.block k (by have := HZ3.out; have := HKP.out; omega)).trans HG3.out)
  have HP4 : Hid (W4.heap[p2]? = some (.cells #[.int .i64 (N : Int), .slice A m c] 26 (0, 0))) := Lib.hid ((hb.block p2 (by have := HZ3.out; omega)).trans HP3.out)
  clear hb
  have hg := HP4.out
  have q0 : W4.cell? ⟨p2, 0, none⟩ = some (.int .i64 (N : Int)) := by simp [World.cell?, hg]
  have q1 : W4.cell? ⟨p2, 1, none⟩ = some (.slice A m c) := by simp [World.cell?, hg]
  clear hg
  have HCI := Lib.hid (circle_any (c := c) (HX.out.below (B := w.heap.size) (by rw [Hk.out]; exact HB4.out)) HI.out (show N ≤ 64 by omega) (show m ≤ 4096 by omega) (by rw [Hk.out]; have := HZ4.out; have := HKP.out; omega) true ⟨fun _ => hG, fun _ => rfl⟩)
  go_wp2_with fail
  refine HCI.out.mono ?_
  rintro e W5 ⟨rfl, hb⟩
  clear HCI q0 q1
  have HW45 := Lib.hid hb
  have HB5 : Hid (Below k w W5) := Lib.hid (HB4.out.trans (hb.mono (by have := HZ4.out; have := HKP.out; omega)))
  have HZ5 : Hid (p2 + 1 ≤ W5.heap.size) := Lib.hid (Nat.le_trans HZ4.out hb.size)
  have HG5 : Hid (W5.heap[k]? = some (.cells #[.int .i64 (N : Int), .slice A m c] 24 (0, 0))) := Lib.hid ((hb.block k (by have := HZ4.out; have := HKP.out; omega)).trans HG4.out)
  have HP5 : Hid (W5.heap[p2]? = some (.cells #[.int .i64 (N : Int), .slice A m c] 26 (0, 0))) := Lib.hid ((hb.block p2 (by have := HZ4.out; omega)).trans HP4.out)
  clear hb
  go_wp2
  go_ret
  exact ⟨rfl, by rw [Hk.out]; exact HB5.out⟩
set_option maxHeartbeats 8000000 in
theorem law_ways_go {w : World} {m c : Nat} {N : Nat} {A : Option Addr} {g : List (Nat × Nat)} (hS : SortOK 1024) (hx : RdG w w.heap.size A m g) (hi : InN N g) (hn : N ≤ 10) (hm : m ≤ 60) (hG : Goes (befG g) N N) (hT : Tz w) (h0 : 0 < w.heap.size) :
    Calls Tryd.prog 4 #[.agg #[.int .i64 (N : Int), .slice A m c]] w fun e w' => e = .returned (.bool true) ∧ Below w.heap.size w w' := by
  have hr : GraphR (N : Int) (castE g) := graphR_cast hi (show N ≤ 64 by omega) (by rw [hx.len]; omega)
  have hm0 : m ≤ 9223372036854775807 := by omega
  have HI := Lib.hid hi
  have HG := Lib.hid hG
  have hP1 : (2 : Nat) ^ N ≤ 1024 := by
    have h2 : (2 : Nat) ^ N ≤ 2 ^ 10 := Nat.pow_le_pow_right (by omega) hn
    omega
  have hP0 := Nat.two_pow_pos N
  have HLL : Hid ((clN N (closedB g)).length ≤ 1024) := Lib.hid (by
    have := List.length_filter_le (closedB g) (List.range (2 ^ N))
    rw [List.length_range] at this
    exact Nat.le_trans this hP1)
  have HSO := Lib.hid hS
  obtain ⟨k, hk⟩ : ∃ k, w.heap.size = k := ⟨_, rfl⟩
  have Hk := Lib.hid hk
  obtain ⟨W0, hW0⟩ : ∃ W0, w.alloc (.cells #[.int .i64 (N : Int), .slice A m c] 24) = W0 := ⟨_, rfl⟩
  have hb0 : Below k w W0 := by rw [← hW0, ← hk]; exact (Below.refl _ w).alloc (Nat.le_refl _) _
  have hz0 : W0.heap.size = k + 1 := by rw [← hW0, World.size_alloc, hk]
  have hh0 : W0.heap[k]? = some (.cells #[.int .i64 (N : Int), .slice A m c] 24 (0, 0)) := by rw [← hW0, ← hk]; exact World.alloc_heap_new _ _
  have HB0 := Lib.hid hb0
  have HZ0 := Lib.hid hz0
  have HH0 := Lib.hid hh0
  have HX := Lib.hid hx
  have HAN := Lib.hid (anchor_any W0 (hT.below hb0 (by omega)) (by omega))
  have HW0 := Lib.hid hW0
  have HT0 : Hid (Tz w) := Lib.hid hT
  clear hx hT hb0 hz0 hh0 hW0
  go_enter Tryd.func4, Tryd.ntmps4
  go_wp2_with fail
  rw [HW0.out]
  refine HAN.out.mono ?_
  rintro e W1 ⟨rfl, hb⟩
  clear HAN
  have HB1 : Hid (Below k w W1) := Lib.hid (HB0.out.trans (hb.mono (by rw [HZ0.out]; omega)))
  have HZ1 : Hid (k + 1 ≤ W1.heap.size) := Lib.hid (by have := hb.size; rw [HZ0.out] at this; exact this)
  have HH1 : Hid (W1.heap[k]? = some (.cells #[.int .i64 (N : Int), .slice A m c] 24 (0, 0))) := Lib.hid ((hb.block k (by rw [HZ0.out]; omega)).trans HH0.out)
  have hg := HH1.out
  have hc0 : W1.cell? ⟨k, 0, none⟩ = some (.int .i64 (N : Int)) := by simp [World.cell?, hg]
  have hc1 : W1.cell? ⟨k, 1, none⟩ = some (.slice A m c) := by simp [World.cell?, hg]
  have HPL := Lib.hid (plain_any (c := c) (z := (N : Int)) (HX.out.below (B := w.heap.size) (by rw [Hk.out]; exact HB1.out)) (by rw [Hk.out]; have := HZ1.out; omega) hm0 true ⟨fun _ => ⟨hm, .inl (by omega)⟩, fun _ => rfl⟩)
  clear hb hg
  go_wp2_with fail
  refine HPL.out.mono ?_
  rintro e W2 ⟨rfl, hb⟩
  clear HPL hc0 hc1
  obtain ⟨p2, hp2⟩ : ∃ p2, W2.heap.size = p2 := ⟨_, rfl⟩
  obtain ⟨W3, hW3⟩ : ∃ W3, W2.alloc (.cells #[.int .i64 (N : Int), .slice A m c] 26) = W3 := ⟨_, rfl⟩
  have hkp : k < p2 := by rw [← hp2]; exact Nat.lt_of_lt_of_le (show k < W1.heap.size by have := HZ1.out; omega) hb.size
  have HKP := Lib.hid hkp
  have HB3 : Hid (Below k w W3) := Lib.hid (by rw [← hW3]; exact (HB1.out.trans (hb.mono (by have := HZ1.out; omega))).alloc (by omega) _)
  have HZ3 : Hid (p2 + 1 ≤ W3.heap.size) := Lib.hid (by rw [← hW3, World.size_alloc, hp2]; omega)
  have HG3 : Hid (W3.heap[k]? = some (.cells #[.int .i64 (N : Int), .slice A m c] 24 (0, 0))) := Lib.hid (by rw [← hW3, Below.heap_alloc _ _ _ (by omega)]; exact (hb.block k (by have := HZ1.out; omega)).trans HH1.out)
  have HP3 : Hid (W3.heap[p2]? = some (.cells #[.int .i64 (N : Int), .slice A m c] 26 (0, 0))) := Lib.hid (by rw [← hW3, ← hp2]; exact World.alloc_heap_new _ _)
  have HW3 := Lib.hid hW3
  clear hb hW3 hkp
  have hg := HP3.out
  have q0 : W3.cell? ⟨p2, 0, none⟩ = some (.int .i64 (N : Int)) := by simp [World.cell?, hg]
  have q1 : W3.cell? ⟨p2, 1, none⟩ = some (.slice A m c) := by simp [World.cell?, hg]
  clear hg
  have HRT := Lib.hid (right_yes (c := c) (HX.out.below (B := w.heap.size) (by rw [Hk.out]; exact HB3.out)) hr (by rw [Hk.out]; have := HZ3.out; have := HKP.out; omega))
  have hW3 := HW3.out
  rw [← hW3] at q0 q1
  clear hW3
  go_wp2_with fail
  rw [HW3.out]
  refine HRT.out.mono ?_
  rintro e W4 ⟨rfl, hb⟩
  clear HRT q0 q1
  have HW34 := Lib.hid hb
  have HB4 : Hid (Below k w W4) := Lib.hid (HB3.out.trans (hb.mono (by have := HZ3.out; have := HKP.out; omega)))
  have HZ4 : Hid (p2 + 1 ≤ W4.heap.size) := Lib.hid (Nat.le_trans HZ3.out hb.size)
  have HG4 : Hid (W4.heap[k]? = some (.cells #[.int .i64 (N : Int), .slice A m c] 24 (0, 0))) := Lib.hid ((hb.block k (by have := HZ3.out; have := HKP.out; omega)).trans HG3.out)
  have HP4 : Hid (W4.heap[p2]? = some (.cells #[.int .i64 (N : Int), .slice A m c] 26 (0, 0))) := Lib.hid ((hb.block p2 (by have := HZ3.out; omega)).trans HP3.out)
  clear hb
  have hg := HP4.out
  have q0 : W4.cell? ⟨p2, 0, none⟩ = some (.int .i64 (N : Int)) := by simp [World.cell?, hg]
  have q1 : W4.cell? ⟨p2, 1, none⟩ = some (.slice A m c) := by simp [World.cell?, hg]
  clear hg
  have HCI := Lib.hid (circle_any (c := c) (HX.out.below (B := w.heap.size) (by rw [Hk.out]; exact HB4.out)) HI.out (show N ≤ 64 by omega) (show m ≤ 4096 by omega) (by rw [Hk.out]; have := HZ4.out; have := HKP.out; omega) false ⟨nofun, fun h => (h HG.out).elim⟩)
  go_wp2_with fail
  refine HCI.out.mono ?_
  rintro e W5 ⟨rfl, hb⟩
  clear HCI q0 q1
  have HW45 := Lib.hid hb
  have HB5 : Hid (Below k w W5) := Lib.hid (HB4.out.trans (hb.mono (by have := HZ4.out; have := HKP.out; omega)))
  have HZ5 : Hid (p2 + 1 ≤ W5.heap.size) := Lib.hid (Nat.le_trans HZ4.out hb.size)
  have HG5 : Hid (W5.heap[k]? = some (.cells #[.int .i64 (N : Int), .slice A m c] 24 (0, 0))) := Lib.hid ((hb.block k (by have := HZ4.out; have := HKP.out; omega)).trans HG4.out)
  have HP5 : Hid (W5.heap[p2]? = some (.cells #[.int .i64 (N : Int), .slice A m c] 26 (0, 0))) := Lib.hid ((hb.block p2 (by have := HZ4.out; omega)).trans HP4.out)
  clear hb
  obtain ⟨M, hM⟩ : ∃ M, (2 : Nat) ^ N = M := ⟨_, rfl⟩
  have hMi : IntKind.i64.wrap ((2 : Int) ^ N) = (M : Int) := by
    have e2 : ((2 : Int) ^ N) = ((2 ^ N : Nat) : Int) := by simp
    rw [e2, hM, IntWalk.i64_in _ (by omega)]
  have hMj : IntKind.i64.wrap ((2 : Int) ^ min N 64) = (M : Int) := by rw [show min N 64 = N by omega]; exact hMi
  have hMw : IntKind.u64.wrap ((2 : Int) ^ N) = (M : Int) := by
    have e2 : ((2 : Int) ^ N) = ((2 ^ N : Nat) : Int) := by simp
    rw [e2, hM, IntKind.wrap_u64]
    omega
  have HMW := Lib.hid hMw
  have HM1 : Hid (M ≤ 1024 ∧ 0 < M ∧ 2 ^ N = M) := Lib.hid ⟨by omega, by omega, hM⟩
  clear hM hMw hP1 hP0 hS
  obtain ⟨p5, hp5⟩ : ∃ p5, W5.heap.size = p5 := ⟨_, rfl⟩
  have Hp5 := Lib.hid hp5
  have H5 : Hid (k < p5 ∧ p2 < p5 ∧ 0 < p5) := Lib.hid (by have := HZ5.out; have := HKP.out; omega)
  have hN64 : N < 64 := by omega
  have HNN : Hid (N ≤ 10 ∧ N < 64) := Lib.hid ⟨hn, hN64⟩
  have hg := HG5.out
  have g0 : W5.cell? ⟨k, 0, none⟩ = some (.int .i64 (N : Int)) := by simp [World.cell?, hg]
  have g1 : W5.cell? ⟨k, 1, none⟩ = some (.slice A m c) := by simp [World.cell?, hg]
  clear hg
  have l0 : (0 : Int) < (M : Int) := by have := HM1.out; omega
  go_wp2_with (at_make; refine wpl_make rfl (.tmp 30) (.tmp 30) rfl p5 M rfl rfl (by have := HM1.out; omega) (by rw [Hp5.out]; exact Nat.le_refl _) ?_; intro W6 hown hgr; rw [Hp5.out] at hown ⊢; have HT6 : Hid (TabAt W6 W5 p5 M (fun _ => 0)) := Lib.hid ⟨List.replicate M 0, hown, fun x hx => (by simp [ix, hx]), ((Below.refl p5 W5).grown hgr (by rw [Hp5.out]; exact Nat.le_refl _) (fun k h => by cases h)), Own.home hown⟩; clear hown hgr; obtain ⟨c60, f60⟩ := HT6.out.cell (x := 0) (by have := HM1.out; omega))
  have HT7 : Hid (TabAt (W6.setCell ⟨p5, 0, none⟩ (.int .i64 1)) W5 p5 M (tabW (befG g) N 0 0)) := Lib.hid (HT6.out.store (z := 0) (u := 1) (by have := HM1.out; omega) (by rw [tabW_start, if_pos rfl]; rfl) (fun x hx hne => by rw [tabW_start, if_neg hne]) 0)
  generalize W6.setCell ⟨p5, 0, none⟩ (.int .i64 1) = W7 at HT7 ⊢
  clear c60 f60 HT6 g0 g1 l0
  clear HG4 HP4 HG3 HP3 HH1 HH0 HB3 HB4 HB1 HB0 HZ4 HZ3 HZ1 HZ0 HW3 HW0
  have HW : Hid (∀ wr f, TabAt wr W5 p5 M f → Below k w wr ∧ wr.cell? ⟨k, 0, none⟩ = some (.int .i64 (N : Int)) ∧ wr.cell? ⟨k, 1, none⟩ = some (.slice A m c) ∧ wr.cell? ⟨p2, 0, none⟩ = some (.int .i64 (N : Int)) ∧ wr.cell? ⟨p2, 1, none⟩ = some (.slice A m c)) := Lib.hid (fun wr f h => by
    obtain ⟨xs, h1, h2, h3, h4⟩ := h
    have hg := (h3.block k (by have := H5.out; omega)).trans HG5.out
    have hq := (h3.block p2 (by have := H5.out; omega)).trans HP5.out
    exact ⟨HB5.out.trans (h3.mono (by have := H5.out; omega)), by simp [World.cell?, hg], by simp [World.cell?, hg], by simp [World.cell?, hq], by simp [World.cell?, hq]⟩)
  have HINS : Hid (∀ x, x < M → inS N x) := Lib.hid (fun x hx => (inS_iff (by have := HNN.out; omega)).2 (by rw [HM1.out.2.2]; exact hx))
  have HSM : Hid (∀ y i x, x < M → tabW (befG g) N y i x ≤ 10000000000) := Lib.hid (fun y i x hx => Nat.le_trans (tabW_le (by have := HNN.out; omega) (HINS.out x hx)) (wayN_small HNN.out.1))
  go_loopw [6] (fun ss wr => ∃ y : Nat, y ≤ M ∧ ss = .int .u64 (y : Int) ∧ Hid (TabAt wr W5 p5 M (tabW (befG g) N y 0))) (fun ss _ => M - (intOf ss).toNat)
  case atStart => exact ⟨0, by omega, rfl, HT7⟩
  case round =>
    obtain ⟨y, hy, rfl, HR⟩ := hrel
    obtain ⟨hbr, g0, g1, q0, q1⟩ := HW.out _ _ HR.out
    have HBR := Lib.hid hbr
    clear hbr
    have hMw := HMW.out
    by_cases hlt : y < M
    · have hdy : decide ((y : Int) < (M : Int)) = true := decide_eq_true (by omega)
      have hw1 : IntKind.u64.wrap ((y : Int) + 1) = ((y + 1 : Nat) : Int) := by rw [IntKind.wrap_u64]; have := HM1.out; omega
      obtain ⟨X, hX⟩ : ∃ X, wayN (befG g) N y = X := ⟨_, rfl⟩
      have HX1 : Hid (∀ i, tabW (befG g) N y i y = X) := Lib.hid (fun i => by rw [← hX]; exact tabW_at (by have := HNN.out; omega) (HINS.out y hlt) (Nat.le_refl _))
      have HX2 : Hid (X = wayN (befG g) N y) := Lib.hid hX.symm
      have hXs : X ≤ 10000000000 := by rw [← hX]; exact wayN_small HNN.out.1
      have hyl : y < lim := show y < 18446744073709551616 by have := HM1.out; omega
      have HYL := Lib.hid hyl
      clear hX q0 q1 g1 hyl
      go_wp2_with fail
      obtain ⟨wo, hwo⟩ : ∃ x, x = wr := ⟨_, rfl⟩
      subst hwo
      clear g0
      go_loopw [7] (fun ii wr => ∃ i : Nat, i ≤ N ∧ ii = .int .i64 (i : Int) ∧ Hid (TabAt wr W5 p5 M (tabW (befG g) N y i))) (fun ii _ => N - (intOf ii).toNat)
      case atStart => exact ⟨0, by omega, rfl, HR⟩
      case round =>
        obtain ⟨i, hi2, rfl, HI2⟩ := hrel
        obtain ⟨hbr, g0, g1, q0, q1⟩ := HW.out _ _ HI2.out
        have HBI := Lib.hid hbr
        clear hbr
        by_cases hiN : i < N
        · have hdi : decide ((i : Int) < (N : Int)) = true := decide_eq_true (by omega)
          have hw2 : IntKind.i64.wrap ((i : Int) + 1) = ((i + 1 : Nat) : Int) := by rw [IntWalk.i64_in _ (by omega)]; omega
          obtain ⟨cy, fy⟩ := HI2.out.cell (x := y) hlt
          rw [HX1.out i] at cy
          have ly : (y : Int) < (M : Int) := by omega
          have HSTEP : Hid (∀ x, x < M → tabW (befG g) N y (i + 1) x = tabW (befG g) N y i x + (if x = add y i ∧ rdy (befG g) y i = true then X else 0)) := Lib.hid (fun x hx => by rw [HX2.out]; exact tabW_step (by have := HNN.out; omega) HYL.out hiN (show x < 18446744073709551616 by have := HM1.out; omega))
          by_cases hX0 : 0 < X
          · have hdX : decide ((0 : Int) < (X : Int)) = true := decide_eq_true (by omega)
            have hdX2 : decide (0 < X) = true := decide_eq_true hX0
            have HRD := Lib.hid (refReady_any (w := wr) (c := c) (s := y) (v := i) (HX.out.below (B := w.heap.size) (by rw [Hk.out]; exact HBI.out)) HI.out (show N ≤ 64 by omega) (show m ≤ 4096 by omega) (by have := HBI.out.size; exact this) HYL.out (by omega))
            clear g1
            go_wp2_with fail
            refine HRD.out.mono ?_
            rintro e w9 ⟨rfl, hb⟩
            have HT9 : Hid (TabAt w9 W5 p5 M (tabW (befG g) N y i)) := Lib.hid (HI2.out.kept hb)
            clear HRD hb q0 q1 g0 cy fy
            cases hrd : rdy (befG g) y i with
            | true =>
              have hzM : add y i < M := by
                have h1 := inS_add (HINS.out y hlt) hiN (by omega)
                have := (inS_iff (show N ≤ 64 by omega)).1 h1
                rw [HM1.out.2.2] at this
                exact this
              obtain ⟨z, hz⟩ : ∃ z, add y i = z := ⟨_, rfl⟩
              rw [hz] at hzM
              have ho1 : bits BinOp.or IntKind.u64 (y : Int) (IntKind.u64.wrap (2 ^ i)) = (z : Int) := by rw [← hz]; exact or_spell2 HYL.out (by omega)
              have ho2 : bits BinOp.or IntKind.u64 (y : Int) (IntKind.u64.wrap (2 ^ min i 64)) = (z : Int) := by rw [← hz]; exact or_spell HYL.out (by omega)
              obtain ⟨Y, hY⟩ : ∃ Y, tabW (befG g) N y i z = Y := ⟨_, rfl⟩
              obtain ⟨cz, fz⟩ := HT9.out.cell (x := z) hzM
              obtain ⟨cy, fy⟩ := HT9.out.cell (x := y) hlt
              rw [HX1.out i] at cy
              rw [hY] at cz
              have hYs : Y ≤ 10000000000 := by rw [← hY]; exact HSM.out y i z hzM
              have hsum : IntKind.i64.wrap ((Y : Int) + (X : Int)) = ((Y + X : Nat) : Int) := by rw [IntWalk.i64_in _ (by omega)]; omega
              have lz : (z : Int) < (M : Int) := by omega
              have hi64 : i < 64 := by omega
              have HT10 : Hid (TabAt ((w9.drewN 1).setCell ⟨p5, z, none⟩ (.int .i64 ((Y + X : Nat) : Int))) W5 p5 M (tabW (befG g) N y (i + 1))) := Lib.hid (HT9.out.store hzM (by rw [HSTEP.out z hzM, hrd, hz, hY, if_pos ⟨rfl, rfl⟩]) (fun x hx hne => by rw [HSTEP.out x hx, if_neg (fun h => hne (h.1.trans hz)), Nat.add_zero]) 1)
              clear hrd hz hY hYs hzM
              go_wp2_with fail
              go_region
              all_goals go_wp2
              go_roundw
              case rel => exact ⟨i + 1, by omega, by go_num, HT10⟩
              case measure => simp [intOf]; omega
            | false =>
              have HT10 : Hid (TabAt w9 W5 p5 M (tabW (befG g) N y (i + 1))) := Lib.hid (HT9.out.same (fun x hx => by rw [HSTEP.out x hx, hrd, if_neg (by simp), Nat.add_zero]))
              clear hrd
              go_wp2
              go_roundw
              case rel => exact ⟨i + 1, by omega, by go_num, HT10⟩
              case measure => simp [intOf]; omega
          · have hdX : decide ((0 : Int) < (X : Int)) = false := decide_eq_false (by omega)
            have hdX2 : decide (0 < X) = false := decide_eq_false hX0
            have HT10 : Hid (TabAt wr W5 p5 M (tabW (befG g) N y (i + 1))) := Lib.hid (HI2.out.same (fun x hx => by rw [HSTEP.out x hx, show X = 0 by omega]; split <;> rfl))
            go_wp2
            go_roundw
            case rel => exact ⟨i + 1, by omega, by go_num, HT10⟩
            case measure => simp [intOf]; omega
        · have hdi : decide ((i : Int) < (N : Int)) = false := decide_eq_false (by omega)
          obtain rfl : i = N := by omega
          have HT10 : Hid (TabAt wr W5 p5 M (tabW (befG g) i (y + 1) 0)) := Lib.hid (HI2.out.same (fun x hx => (tabW_next _ _ _ _).symm))
          go_wp2
          go_roundw
          case rel => exact ⟨y + 1, by omega, by go_num, HT10⟩
          case measure => simp [intOf]; omega
    · have hdy : decide ((y : Int) < (M : Int)) = false := decide_eq_false (by omega)
      obtain rfl : y = M := by omega
      obtain ⟨M1, hM1⟩ : ∃ M1, y - 1 = M1 := ⟨_, rfl⟩
      have hm1 : IntKind.i64.wrap ((y : Int) - 1) = (M1 : Int) := by rw [IntWalk.i64_in _ (by have := HM1.out; omega)]; have := HM1.out; omega
      have HWY := Lib.hid (ways_any HSO.out (w := wr) (c := c) (HX.out.below (B := w.heap.size) (by rw [Hk.out]; exact HBR.out)) HI.out HNN.out.1 (show m ≤ 4096 by omega) (by exact HBR.out.size) (HT0.out.below (B := k) HBR.out (by rw [← Hk.out]; exact h0)) (by have := HBR.out.size; omega) HG.out HLL.out)
      rw [HM1.out.2.2, hM1] at HWY
      obtain ⟨V, hV⟩ : ∃ V, wayN (befG g) N M1 = V := ⟨_, rfl⟩
      have HVV : Hid (tabW (befG g) N y 0 M1 = V) := Lib.hid (by rw [← hV]; exact tabW_at (by have := HNN.out; omega) (HINS.out M1 (by have := HM1.out; omega)) (by omega))
      rw [hV] at HWY
      have lm : (M1 : Int) < (y : Int) := by have := HM1.out; omega
      have lmn : M1 < y := by have := HM1.out; omega
      have hVV : ((V : Int) == (V : Int)) = true := by simp
      clear hM1 hV q0 q1
      go_wp2_with fail
      refine HWY.out.mono ?_
      rintro e w9 ⟨rfl, hb⟩
      have HT9 : Hid (TabAt w9 W5 p5 y (tabW (befG g) N y 0)) := Lib.hid (HR.out.kept hb)
      obtain ⟨cm, fm⟩ := HT9.out.cell (x := M1) lmn
      rw [HVV.out] at cm
      have HB9 := Lib.hid (HW.out _ _ HT9.out).1
      clear HWY hb g0 g1
      go_wp2
      go_ret
      exact ⟨by simp, by rw [Hk.out]; exact HB9.out⟩
theorem law_ways (hS : SortOK 1024) {w : World} {m c : Nat} {n : Int} {A : Option Addr} {es : List (Int × Int)} (hx : RdE w w.heap.size A m es) (hm0 : m ≤ 9223372036854775807) (hT : Tz w) (h0 : 0 < w.heap.size) :
    Calls Tryd.prog 4 #[.agg #[.int .i64 n, .slice A m c]] w fun e w' => e = .returned (.bool true) ∧ Below w.heap.size w w' := by
  by_cases hok : m ≤ 60 ∧ (n ≤ 10 ∨ ¬ GraphR n es)
  · by_cases hr : GraphR n es
    · have hn : n ≤ 10 := hok.2.elim id (fun h => (h hr).elim)
      obtain ⟨N, g, rfl, rfl, hi, _, _⟩ := graph_nat hr
      by_cases hG : Goes (befG g) N N
      · exact law_ways_go hS hx hi (by omega) hok.1 hG hT h0
      · exact law_ways_circ hx hi (by omega) hok.1 hG hT h0
    · exact law_ways_wrong hx hm0 hok.1 hr hT h0
  · exact law_ways_skip hx hm0 hok hT h0
end Go.Proofs.YtfcabdgidlnljaaDoor
