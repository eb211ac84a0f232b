/-
  CodeReads, over this translation.
-/
import Derived.Test.YtmfoammkcokcoaaELaw
namespace Go.Proofs.Ytmfoammkcokcoaa
open Go.RowKit
open ByteP CodeP
set_option linter.unusedVariables false
set_option maxRecDepth 10000

theorem capA_of_row {w : World} {a : Option Addr} {len cap : Nat} {zs : List Int}
    (h : (a = none ∧ len = 0 ∧ cap = 0 ∧ zs = []) ∨ ∃ x, a = some x ∧ len ≤ cap ∧ cap ≤ maxLen ∧ zs.length = cap ∧ (∀ i, i < zs.length → w.cell? (x.add i) = some (.int .u8 (zs.getD i 0))) ∧ ∀ n ∈ zs, (Lit.int .u8 n).wf = true) : CapA a len cap := by
  rcases h with ⟨rfl, rfl, rfl, rfl⟩ | ⟨x, rfl, hl, hm, hz, hcell, hwz⟩
  · exact .inl ⟨rfl, rfl, rfl⟩
  · exact .inr ⟨x, rfl, hl, by unfold maxLen at hm; omega⟩
theorem all_of_lst {bs : List Int} {l : List Nat} (h : lst bs = .inr (l, [])) : all bs = .inr l := by unfold all; rw [h]; simp
theorem all_left {bs r : List Int} {l : List Nat} (h : lst bs = .inr (l, r)) (hr : r ≠ []) : all bs = .inl 12 := by unfold all; rw [h]; simp only; rw [if_neg hr]
theorem all_lst_err {bs : List Int} {e : Int} (h : lst bs = .inl e) : all bs = .inl e := by unfold all; rw [h]
end Go.Proofs.Ytmfoammkcokcoaa
