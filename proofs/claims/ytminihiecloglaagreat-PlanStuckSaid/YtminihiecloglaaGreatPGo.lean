/-
 PURE: of every closed set of a plan's steps the fleet is good.
-/
import Derived.Test.YtminihiecloglaaGreatPPu
set_option linter.unusedVariables false
set_option linter.unusedSimpArgs false
namespace Go.Proofs.YtminihiecloglaaGreat
open Go.RowKit
open SemP FlP GaP DiP
section
variable {l : List Sv} {fs ts : List Int} {s : Nat}
theorem mem_stL {x : StP} : x ∈ stL l fs ts ↔ ∃ i, i < fs.length ∧ x.1 = (i : Int) ∧ ix fs i ≠ ix ts i ∧ (x.2 = 2 ∨ (rise l fs ts i ≠ 0 ∧ (x.2 = 1 ∨ x.2 = 3))) := mem_stK
theorem mem_at {i : Nat} {k : Int} (hi : i < fs.length) : ((i : Int), k) ∈ stL l fs ts ↔ ix fs i ≠ ix ts i ∧ (k = 2 ∨ (rise l fs ts i ≠ 0 ∧ (k = 1 ∨ k = 3))) := by
 rw [mem_stL]
 constructor
 ·rintro ⟨j, hj, e, h⟩
  obtain rfl : i = j := by have : (i : Int) = j := e; omega
  exact h
 ·intro h; exact ⟨i, hi, rfl, h⟩
end
end Go.Proofs.YtminihiecloglaaGreat
