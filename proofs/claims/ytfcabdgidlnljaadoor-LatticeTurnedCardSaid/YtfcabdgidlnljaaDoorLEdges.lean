/-
  WORDS FOR MEMORY: what Thin left is read as a graph's edges.
-/
import Derived.Test.YtfcabdgidlnljaaDoorDThin
namespace Go.Proofs.YtfcabdgidlnljaaDoor
open Go.RowKit
open DiP
set_option linter.unusedVariables false
set_option linter.unusedSimpArgs false
theorem pcells_get {l : List (Nat × Nat)} : ∀ {j : Nat}, j < l.length → (pcells l)[j * 2]? = some (.int .i64 (fa l j : Int)) ∧ (pcells l)[j * 2 + 1]? = some (.int .i64 (fb l j : Int)) := by
  induction l with
  | nil => intro j h; simp at h
  | cons e r ih =>
    intro j h
    match j with
    | 0 => exact ⟨rfl, rfl⟩
    | j + 1 =>
      have := ih (j := j) (by simpa using h)
      rw [show (j + 1) * 2 = j * 2 + 1 + 1 by omega]
      exact this
theorem OwnP.rd {w : World} {base : Nat} {A : Option Addr} {m c : Nat} {l : List (Nat × Nat)} (h : OwnP w base (.slice A m c) l) (hm : l.length = m) : RdG w w.heap.size A m l := by
  refine ⟨by rw [castE_len]; exact hm, fun hn => ?_⟩
  obtain ⟨g, cap, hv, _, hlt⟩ := World.ownsRow.form h (by omega)
  injection hv with h1 h2 h3
  subst h1
  refine ⟨g, 0, rfl, hlt, fun j hj => ?_⟩
  obtain ⟨c0, c1⟩ := pcells_get (l := l) (j := j) (by omega)
  have e : ∀ x, (Addr.add ⟨g, 0, none⟩ x) = ⟨g, 0 + x, none⟩ := fun x => by unfold Addr.add; by_cases h0 : x = 0 <;> simp [h0]
  have k0 := World.ownsRow.cells h (g := g) rfl _ _ c0
  have k1 := World.ownsRow.cells h (g := g) rfl _ _ c1
  rw [e] at k0 k1
  rw [ea_cast, eb_cast]
  exact ⟨k0, by rw [Nat.add_assoc]; exact k1⟩
end Go.Proofs.YtfcabdgidlnljaaDoor
