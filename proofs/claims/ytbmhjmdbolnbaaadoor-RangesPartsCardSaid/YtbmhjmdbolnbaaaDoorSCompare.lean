/-
  CONTRACT of package semver: Compare.
-/
import Derived.Test.YtbmhjmdbolnbaaaDoorSCmp
import Derived.StillTailTactics
import Derived.Deep.QuietTactic
import Derived.BigQuiet
namespace Go.Proofs.YtbmhjmdbolnbaaaDoor
open Go.RowKit
open SemP
set_option linter.unusedVariables false
set_option linter.unusedSimpArgs false
set_option maxRecDepth 100000

/-- A version as a value. -/
abbrev verV (a b c : Int) (s : ByteArray) : Value := .agg #[.int .i64 a, .int .i64 b, .int .i64 c, .string s]
abbrev verC (a b c : Int) (s : ByteArray) : Obj := .cells #[.int .i64 a, .int .i64 b, .int .i64 c, .string s] 25
theorem cells4 {w : World} {g : Nat} {x y z u : Value} {T : TypeId} (h : w.heap[g]? = some (.cells #[x, y, z, u] T (0, 0))) : w.cell? ⟨g, 0, none⟩ = some x ∧ w.cell? ⟨g, 1, none⟩ = some y ∧ w.cell? ⟨g, 2, none⟩ = some z ∧ w.cell? ⟨g, 3, none⟩ = some u :=
  ⟨by simp only [World.cell?, h]; rfl, by simp only [World.cell?, h]; rfl, by simp only [World.cell?, h]; rfl, by simp only [World.cell?, h]; rfl⟩
set_option maxHeartbeats 4000000 in
theorem Compare_any (a b c : Int) (s : ByteArray) (a' b' c' : Int) (t : ByteArray) (w : World) (hs : s.size < 4294967281) (ht : t.size < 4294967281) (hm : LenAt w) (h1 : 1 < w.heap.size) :
    Calls Tryd.prog 27 #[verV a b c s, verV a' b' c' t] w fun e w' => e = .returned (.int .i64 (cmpV ⟨a, b, c, bs s⟩ ⟨a', b', c', bs t⟩)) ∧ Below w.heap.size w w' := by
  have hb0 : Below w.heap.size w ((w.alloc (verC a b c s)).alloc (verC a' b' c' t)) := ((Below.refl _ w).alloc (Nat.le_refl _) _).alloc (by simp) _
  have hA : ((w.alloc (verC a b c s)).alloc (verC a' b' c' t)).heap[w.heap.size]? = some (verC a b c s) := by
    rw [Below.heap_alloc _ _ _ (by simp)]; exact World.alloc_heap_new _ _
  have hB : ((w.alloc (verC a b c s)).alloc (verC a' b' c' t)).heap[w.heap.size + 1]? = some (verC a' b' c' t) := by
    have := World.alloc_heap_new (w.alloc (verC a b c s)) (verC a' b' c' t)
    rw [World.size_alloc] at this; exact this
  obtain ⟨x0, x1, x2, x3⟩ := cells4 hA
  obtain ⟨y0, y1, y2, y3⟩ := cells4 hB
  have HB0 := Lib.hid hb0
  have hm1 : LenAt ((w.alloc (verC a b c s)).alloc (verC a' b' c' t)) := by
    obtain ⟨m, hm⟩ := hm
    exact ⟨m, (hb0.cell (show 1 < _ from h1)).trans hm⟩
  have HM := Lib.hid hm1
  clear hA hB hb0 hm1 hm
  go_enter Tryd.func27, Tryd.ntmps27
  go_wp2_with fail
  have hz0 : ((w.alloc (verC a b c s)).alloc (verC a' b' c' t)).heap.size = w.heap.size + 2 := by simp
  generalize hW0 : (w.alloc (verC a b c s)).alloc (verC a' b' c' t) = W0 at x0 x1 x2 x3 y0 y1 y2 y3 HB0 HM hz0
  try rw [show ((w.alloc (.cells #[.int .i64 a, .int .i64 b, .int .i64 c, .string s] 25)).alloc (.cells #[.int .i64 a', .int .i64 b', .int .i64 c', .string t] 25)) = W0 from hW0]
  clear hW0
  refine wp_region_still_tail 19 (by kernel_rfl) (by kernel_rfl) ?_
  simp only [List.take_succ_cons, List.take_zero, List.drop_succ_cons, List.drop_zero]
  repeat still_step
  still_call (Tryd.cmp_Compare_int a a' _)
  repeat still_step
  still_call (Tryd.cmp_Compare_int b b' _)
  repeat still_step
  still_call (Tryd.cmp_Compare_int c c' _)
  repeat still_step
  try refine wpStill_nil ?_
  obtain ⟨W1, HW1⟩ : ∃ W1, Hid (W1 = W0.drewN 1) := ⟨_, Lib.hid rfl⟩
  have e1 : ({ heap := W0.heap, tape := W0.tape, drawn := W0.drawn + 1, os := W0.os, output := W0.output } : World) = W1 := HW1.out.symm
  rw [e1]
  have HB1 : Hid (Below w.heap.size w W1) := Lib.hid (HB0.out.trans (by rw [HW1.out]; exact ⟨rfl, rfl, rfl, Nat.le_refl _, fun _ _ => rfl⟩))
  have hz1 : W1.heap.size = w.heap.size + 2 := by rw [HW1.out]; exact hz0
  have HCP := Lib.hid (comparePres_any s t W1 hs ht (by rw [HW1.out]; exact HM.out) (by omega))
  clear e1 x0 x1 x2 x3 y0 y1 y2 y3 HW1 HM HB0
  go_wp2_with fail
  refine HCP.out.mono ?_
  rintro e W2 ⟨rfl, h2⟩
  have HB2 : Hid (Below w.heap.size w W2) := Lib.hid (HB1.out.trans (h2.mono (by omega)))
  clear h2 HCP HB1
  have hb := World.alloc_heap_new W2 (.cells #[.int .i64 (Lib.compareInt a a'), .int .i64 (Lib.compareInt b b'), .int .i64 (Lib.compareInt c c'), .int .i64 (cmpPre (bs s) (bs t))] 3)
  obtain ⟨c0, c1, c2, c3⟩ := cells4 hb
  have HOR := Lib.hid (or4_any c0 c1 c2 c3)
  clear hb c0 c1 c2 c3
  go_wp2_with fail
  refine HOR.out.mono ?_
  rintro e W3 ⟨rfl, rfl⟩
  go_wp2
  go_ret
  exact ⟨rfl, HB2.out.alloc (by have := HB2.out.size; omega) _⟩
end Go.Proofs.YtbmhjmdbolnbaaaDoor
