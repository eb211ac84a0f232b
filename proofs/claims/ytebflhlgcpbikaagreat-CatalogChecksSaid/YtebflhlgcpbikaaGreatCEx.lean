/-
  The statements' example: its needs.
-/
import Derived.Test.YtebflhlgcpbikaaGreatCSe
namespace Go.Proofs.YtebflhlgcpbikaaGreat
open Go.RowKit
open SemP
set_option linter.unusedVariables false
set_option linter.unusedSimpArgs false
set_option maxRecDepth 10000
/-- A block of a slice that was written out. -/
theorem SlI.of_block {α : Type} [Inhabited α] {z : Nat} {I : ItT α} {w : World} {M : Nat → Prop} {g n : Nat} {vs : Array Value} {E : TypeId} {l : List α} (hg : w.heap[g]? = some (.cells vs E (0, 0))) (hM : ¬ M g) (hl : l.length = n) (hn : n ≤ 1000000)
    (h : ∀ j, j < n → ∃ us, us.length = z ∧ (∀ i u, us[i]? = some u → vs.toList[j * z + i]? = some u) ∧ I w M us (l.getD j default)) : SlI z I w M [.slice (some ⟨g, 0, none⟩) n n] l :=
  ⟨_, n, n, rfl, .inr ⟨_, rfl, Nat.le_refl _, by omega⟩, hl, fun j hj => by
    obtain ⟨us, h1, h2, h3⟩ := h j hj
    refine ⟨g, 0, us, rfl, heapE_lt hg, hM, h1, fun i u hu => ?_, h3⟩
    have := cells_of hg _ _ (h2 i u hu)
    rw [show 0 + j * z + i = j * z + i by omega]; exact this⟩
def cv1 (op : Int) : CV := if op = 6 then ⟨6, 1, 0, 0, ⟨#[]⟩⟩ else ⟨0, 0, 0, 0, ⟨#[]⟩⟩
def nd1 (op : Int) : List Nd := [(0, [[cv1 op]])]
theorem nd_blocks {w : World} {M : Nat → Prop} {a b c : Nat} {op : Int} {E1 E2 E3 : TypeId} (h1 : w.heap[a]? = some (.cells (c5 (cv1 op)).toArray E1 (0, 0))) (h2 : w.heap[b]? = some (.cells #[.slice (some ⟨a, 0, none⟩) 1 1] E2 (0, 0))) (h3 : w.heap[c]? = some (.cells #[.int .i64 0, .slice (some ⟨b, 0, none⟩) 1 1] E3 (0, 0)))
    (ha : ¬ M a) (hb : ¬ M b) (hc : ¬ M c) : psI w M [.slice (some ⟨c, 0, none⟩) 1 1] (nd1 op) := by
  have g1 : liI w M [.slice (some ⟨a, 0, none⟩) 1 1] [cv1 op] := SlI.of_block h1 ha rfl (by omega) (fun j hj => by
    obtain rfl : j = 0 := by omega
    exact ⟨c5 (cv1 op), rfl, fun i u hu => by rw [Nat.zero_mul, Nat.zero_add]; simpa using hu, rfl⟩)
  have g2 : rgI w M [.slice (some ⟨b, 0, none⟩) 1 1] [[cv1 op]] := SlI.of_block h2 hb rfl (by omega) (fun j hj => by
    obtain rfl : j = 0 := by omega
    exact ⟨[.slice (some ⟨a, 0, none⟩) 1 1], rfl, fun i u hu => by rw [Nat.zero_mul, Nat.zero_add]; simpa using hu, g1⟩)
  exact SlI.of_block h3 hc rfl (by omega) (fun j hj => by
    obtain rfl : j = 0 := by omega
    exact ⟨[.int .i64 0, .slice (some ⟨b, 0, none⟩) 1 1], rfl, fun i u hu => by rw [Nat.zero_mul, Nat.zero_add]; simpa using hu, [.int .i64 0], [.slice (some ⟨b, 0, none⟩) 1 1], rfl, rfl, g2⟩)
theorem alloc4 (w : World) (o0 o1 o2 o3 : Obj) : ((((w.alloc o0).alloc o1).alloc o2).alloc o3).heap[w.heap.size + 1]? = some o1 ∧ ((((w.alloc o0).alloc o1).alloc o2).alloc o3).heap[w.heap.size + 1 + 1]? = some o2 ∧ ((((w.alloc o0).alloc o1).alloc o2).alloc o3).heap[w.heap.size + 1 + 1 + 1]? = some o3 ∧ Below w.heap.size w ((((w.alloc o0).alloc o1).alloc o2).alloc o3) := by
  refine ⟨?_, ?_, ?_, ?_⟩
  · rw [Below.heap_alloc _ _ _ (by simp), Below.heap_alloc _ _ _ (by simp)]
    have h := heap_new (w.alloc o0) o1
    rw [World.size_alloc] at h; exact h
  · rw [Below.heap_alloc _ _ _ (by simp)]
    have h := heap_new ((w.alloc o0).alloc o1) o2
    rw [World.size_alloc, World.size_alloc] at h; exact h
  · have h := heap_new (((w.alloc o0).alloc o1).alloc o2) o3
    rw [World.size_alloc, World.size_alloc, World.size_alloc] at h; exact h
  · exact ((((Below.refl _ w).alloc (Nat.le_refl _) _).alloc (by simp) _).alloc (by simp; omega) _).alloc (by simp; omega) _
set_option maxHeartbeats 8000000 in
theorem exNeeds6_any {w : World} {g : Nat} (k0 : w.cell? ⟨g, 0, none⟩ = some (.int .i64 1)) (k1 : w.cell? ⟨g, 1, none⟩ = some (.int .i64 0)) (k2 : w.cell? ⟨g, 2, none⟩ = some (.int .i64 0)) (k3 : w.cell? ⟨g, 3, none⟩ = some (.string ⟨#[]⟩)) :
    Calls Tryz.prog 48 #[.int .i64 6, .pointer (some ⟨g, 0, none⟩)] w fun e w' => ∃ c, e = .returned (.slice (some ⟨c, 0, none⟩) 1 1) ∧ psI w' (fun b => b < w.heap.size) [.slice (some ⟨c, 0, none⟩) 1 1] (nd1 6) ∧ Below w.heap.size w w' := by
  have hgw : g < w.heap.size := block_lt_of_cell k0
  have hne : g ≠ w.heap.size := by omega
  go_enter Tryz.func48, Tryz.ntmps48
  go_wp2_with fail
  go_ret
  refine ⟨_, rfl, nd_blocks (alloc4 w _ _ _ _).1 (alloc4 w _ _ _ _).2.1 (alloc4 w _ _ _ _).2.2.1 (by omega) (by omega) (by omega), (alloc4 w _ _ _ _).2.2.2⟩
set_option maxHeartbeats 8000000 in
theorem exNeeds0_any {w : World} {g : Nat} :
    Calls Tryz.prog 48 #[.int .i64 0, .pointer (some ⟨g, 0, none⟩)] w fun e w' => ∃ c, e = .returned (.slice (some ⟨c, 0, none⟩) 1 1) ∧ psI w' (fun b => b < w.heap.size) [.slice (some ⟨c, 0, none⟩) 1 1] (nd1 0) ∧ Below w.heap.size w w' := by
  go_enter Tryz.func48, Tryz.ntmps48
  go_wp2_with fail
  go_ret
  refine ⟨_, rfl, nd_blocks (alloc4 w _ _ _ _).1 (alloc4 w _ _ _ _).2.1 (alloc4 w _ _ _ _).2.2.1 (by omega) (by omega) (by omega), (alloc4 w _ _ _ _).2.2.2⟩
theorem enters_ex1 : ∀ args w, (callFunc 48 args).run Tryz.prog w = .ok (.enter 48 args) w := enters_of Tryz.func48 (by kernel_rfl) rfl
end Go.Proofs.YtebflhlgcpbikaaGreat
