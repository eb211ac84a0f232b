/-
  RANGES: contract: the law's 'of'.
-/
import Derived.Test.YtbmhjmdbolnbaaaDoorRRHas
namespace Go.Proofs.YtbmhjmdbolnbaaaDoor
open Go.RowKit
open SemP
set_option linter.unusedVariables false
set_option linter.unusedSimpArgs false
set_option maxRecDepth 100000

theorem cell1 {w : World} {g : Nat} {x : Value} {T : TypeId} (h : w.heap[g]? = some (.cells #[x] T (0, 0))) : w.cell? ⟨g, 0, none⟩ = some x := by simp [World.cell?, h]
theorem rdr_one {w' : World} {g1 g2 : Nat} {op a b c : Int} {s : ByteArray} {T : TypeId} (h1 : w'.heap[g1]? = some (.cells #[.int .i64 op, .int .i64 a, .int .i64 b, .int .i64 c, .string s] T (0, 0))) (h2 : w'.cell? ⟨g2, 0, none⟩ = some (.slice (some ⟨g1, 0, none⟩) 1 1)) : RdR w' w'.heap.size (some ⟨g2, 0, none⟩) 1 [[⟨op, a, b, c, s⟩]] := by
  refine ⟨rfl, fun j hj => ?_⟩
  have hj0 : j = 0 := by omega
  subst hj0
  refine ⟨g2, 0, some ⟨g1, 0, none⟩, 1, 1, rfl, block_lt_of_cell h2, h2, rfl, fun k hk => ?_⟩
  have hk0 : k = 0 := by omega
  subst hk0
  obtain ⟨x0, x1, x2, x3, x4⟩ := cells5 h1
  exact ⟨g1, 0, rfl, block_lt_of_cell x0, x0, x1, x2, x3, x4⟩
set_option maxHeartbeats 4000000 in
theorem of_any (op a b c : Int) (s : ByteArray) (w : World) :
    Calls Tryd.prog 43 #[.int .i64 op, verV a b c s] w fun e w' => ∃ g, e = .returned (.agg #[.slice (some ⟨g, 0, none⟩) 1 1]) ∧ RdR w' w'.heap.size (some ⟨g, 0, none⟩) 1 [[⟨op, a, b, c, s⟩]] ∧ Below w.heap.size w w' := by
  have HALL : Hid (∀ o1 o2 : Obj, let W := ((((w.alloc o1).alloc o2).alloc (compC op a b c s)).alloc (.cells #[.slice (some ⟨w.heap.size + 1 + 1, 0, none⟩) 1 1] 69)); RdR W W.heap.size (some ⟨w.heap.size + 1 + 1 + 1, 0, none⟩) 1 [[⟨op, a, b, c, s⟩]] ∧ Below w.heap.size w W) := Lib.hid (fun o1 o2 => by
    refine ⟨rdr_one (g1 := w.heap.size + 1 + 1) (T := 68) ?_ ?_, ?_⟩
    · rw [Below.heap_alloc _ _ _ (by simp)]
      have := World.alloc_heap_new ((w.alloc o1).alloc o2) (compC op a b c s)
      rw [World.size_alloc, World.size_alloc] at this
      exact this
    · have := World.alloc_heap_new (((w.alloc o1).alloc o2).alloc (compC op a b c s)) (.cells #[.slice (some ⟨w.heap.size + 1 + 1, 0, none⟩) 1 1] 69)
      rw [World.size_alloc, World.size_alloc, World.size_alloc] at this
      exact cell1 this
    · exact ((((Below.refl _ w).alloc (Nat.le_refl _) _).alloc (by simp) _).alloc (by simp; omega) _).alloc (by simp; omega) _)
  go_enter Tryd.func43, Tryd.ntmps43
  go_wp2
  refine bodyPost_ret (v := .agg #[.slice (some ⟨w.heap.size + 1 + 1 + 1, 0, none⟩) 1 1]) (by simp [results, Tryd.results43, go_sem]) rfl ⟨_, rfl, (HALL.out _ _).1, (HALL.out _ _).2⟩
end Go.Proofs.YtbmhjmdbolnbaaaDoor
