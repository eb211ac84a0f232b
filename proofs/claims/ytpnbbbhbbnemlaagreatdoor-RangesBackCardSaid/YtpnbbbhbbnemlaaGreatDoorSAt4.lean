/-
  A version in a block of its own.
-/
import Derived.Test.YtpnbbbhbbnemlaaGreatDoorSBump
import Derived.Test.YtpnbbbhbbnemlaaGreatDoorInv
import Derived.Test.YtpnbbbhbbnemlaaGreatDoorSRefK
namespace Go.Proofs.YtpnbbbhbbnemlaaGreatDoor
open Go.RowKit
open SemP
set_option linter.unusedVariables false
set_option linter.unusedSimpArgs false
set_option maxRecDepth 100000

/-- A version's four cells, in a block that may be written. -/
structure At4 (w : World) (g : Nat) (a b c : Int) (s : ByteArray) : Prop where
  c0 : w.cell? ⟨g, 0, none⟩ = some (.int .i64 a)
  c1 : w.cell? ⟨g, 1, none⟩ = some (.int .i64 b)
  c2 : w.cell? ⟨g, 2, none⟩ = some (.int .i64 c)
  c3 : w.cell? ⟨g, 3, none⟩ = some (.string s)
  f0 : w.frozen? ⟨g, 0, none⟩ = false
  f1 : w.frozen? ⟨g, 1, none⟩ = false
  f2 : w.frozen? ⟨g, 2, none⟩ = false
  f3 : w.frozen? ⟨g, 3, none⟩ = false
def set4 (w : World) (g : Nat) (a b c : Int) (s : ByteArray) : World := (((w.setCell ⟨g, 0, none⟩ (.int .i64 a)).setCell ⟨g, 1, none⟩ (.int .i64 b)).setCell ⟨g, 2, none⟩ (.int .i64 c)).setCell ⟨g, 3, none⟩ (.string s)
theorem At4.of_heap {w : World} {g : Nat} {a b c : Int} {s : ByteArray} {T : TypeId} (h : w.heap[g]? = some (.cells #[.int .i64 a, .int .i64 b, .int .i64 c, .string s] T (0, 0))) : At4 w g a b c s := by
  obtain ⟨x0, x1, x2, x3⟩ := cells4 h
  obtain ⟨f0, f1, f2, f3⟩ := froz4 h
  exact ⟨x0, x1, x2, x3, f0, f1, f2, f3⟩
theorem At4.block {w w' : World} {g : Nat} {a b c : Int} {s : ByteArray} (h : At4 w g a b c s) (hb : w'.heap[g]? = w.heap[g]?) : At4 w' g a b c s :=
  ⟨(World.cell?_of_block hb).trans h.c0, (World.cell?_of_block hb).trans h.c1, (World.cell?_of_block hb).trans h.c2, (World.cell?_of_block hb).trans h.c3,
   (World.frozen?_of_block hb).trans h.f0, (World.frozen?_of_block hb).trans h.f1, (World.frozen?_of_block hb).trans h.f2, (World.frozen?_of_block hb).trans h.f3⟩
theorem At4.lt {w : World} {g : Nat} {a b c : Int} {s : ByteArray} (h : At4 w g a b c s) : g < w.heap.size := block_lt_of_cell (a := ⟨g, 0, none⟩) h.c0
theorem set4_block (w : World) (g : Nat) (a b c : Int) (s : ByteArray) (k : Nat) (h : k ≠ g) : (set4 w g a b c s).heap[k]? = w.heap[k]? := by
  unfold set4
  rw [Below.heap_setCell _ _ _ _ h, Below.heap_setCell _ _ _ _ h, Below.heap_setCell _ _ _ _ h, Below.heap_setCell _ _ _ _ h]
theorem At4.set {w : World} {g : Nat} {a b c a' b' c' : Int} {s s' : ByteArray} (h : At4 w g a b c s) : At4 (set4 w g a' b' c' s') g a' b' c' s' := by
  unfold set4
  have n01 : (⟨g, 0, none⟩ : Addr) ≠ ⟨g, 1, none⟩ := by simp
  have n02 : (⟨g, 0, none⟩ : Addr) ≠ ⟨g, 2, none⟩ := by simp
  have n03 : (⟨g, 0, none⟩ : Addr) ≠ ⟨g, 3, none⟩ := by simp
  have n12 : (⟨g, 1, none⟩ : Addr) ≠ ⟨g, 2, none⟩ := by simp
  have n13 : (⟨g, 1, none⟩ : Addr) ≠ ⟨g, 3, none⟩ := by simp
  have n23 : (⟨g, 2, none⟩ : Addr) ≠ ⟨g, 3, none⟩ := by simp
  refine ⟨?_, ?_, ?_, ?_, ?_, ?_, ?_, ?_⟩
  · rw [World.cell?_setCell_other _ _ _ _ n03.symm, World.cell?_setCell_other _ _ _ _ n02.symm, World.cell?_setCell_other _ _ _ _ n01.symm]
    exact World.cell?_setCell_same _ _ _ h.c0
  · rw [World.cell?_setCell_other _ _ _ _ n13.symm, World.cell?_setCell_other _ _ _ _ n12.symm]
    have e := h.c1
    rw [← World.cell?_setCell_other w _ _ (.int .i64 a') n01] at e
    exact World.cell?_setCell_same _ _ _ e
  · rw [World.cell?_setCell_other _ _ _ _ n23.symm]
    have e := h.c2
    rw [← World.cell?_setCell_other w _ _ (.int .i64 a') n02, ← World.cell?_setCell_other (w.setCell _ _) _ _ (.int .i64 b') n12] at e
    exact World.cell?_setCell_same _ _ _ e
  · have e := h.c3
    rw [← World.cell?_setCell_other w _ _ (.int .i64 a') n03, ← World.cell?_setCell_other (w.setCell _ _) _ _ (.int .i64 b') n13, ← World.cell?_setCell_other ((w.setCell _ _).setCell _ _) _ _ (.int .i64 c') n23] at e
    exact World.cell?_setCell_same _ _ _ e
  · simp [h.f0]
  · simp [h.f1]
  · simp [h.f2]
  · simp [h.f3]
theorem set4_size (w : World) (g : Nat) (a b c : Int) (s : ByteArray) : (set4 w g a b c s).heap.size = w.heap.size := by unfold set4; simp
theorem set4_below {B : Nat} {w0 w : World} (h : Below B w0 w) {g : Nat} (hg : B ≤ g) (a b c : Int) (s : ByteArray) : Below B w0 (set4 w g a b c s) :=
  (((h.setCell (p := ⟨g, 0, none⟩) hg _).setCell (p := ⟨g, 1, none⟩) hg _).setCell (p := ⟨g, 2, none⟩) hg _).setCell (p := ⟨g, 3, none⟩) hg _
end Go.Proofs.YtpnbbbhbbnemlaaGreatDoor
