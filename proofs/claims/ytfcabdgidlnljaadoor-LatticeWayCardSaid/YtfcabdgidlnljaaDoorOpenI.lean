/-
  A LIST OF NUMBERS THAT CAME IN, opened.
-/
import Derived.Test.YtfcabdgidlnljaaDoorDInts
import Derived.ChangeSlices
import Derived.ChangeSame
import Derived.WideShapes
import Derived.OpenShut
namespace Go.Proofs.YtfcabdgidlnljaaDoor
open Go.RowKit
open Go.ChangeShapes Go.WideShapes
open DiP
set_option linter.unusedVariables false
/-- A list of numbers in memory, each one of Go's. -/
def RdZ (w : World) (B : Nat) (A : Option Addr) (m : Nat) (xs : List Int) : Prop :=
  Rd w B A m xs ∧ m ≤ 9223372036854775807 ∧ ∀ k, k < m → -9223372036854775808 ≤ ix xs k ∧ ix xs k ≤ 9223372036854775807
section
variable {H : Type} {enc : TypeId × Value → H} {w : World} {held : Bool}
theorem open_intsL {r : Reach} {base : Nat} {v : Value} {d : DataW H} {ps : List MemPlace} (hval : Value.okWide Tryd.prog w r base 38 v) (h : DataW.Trod enc Tryd.prog w 0 (fun _ => true) held 38 v d ps) :
    ∃ (A : Option Addr) (m c : Nat) (xs : List Int), v = .slice A m c ∧ RdZ w w.heap.size A m xs := by
  obtain ⟨a, len, cap, rfl⟩ := okWide_slice Tryd.underlying38 hval
  obtain ⟨fuel, hf⟩ := h
  rcases open_ints Tryd.underlying38 Tryd.underlying3 (by kernel_rfl) hf with ⟨hcs, _⟩ | ⟨x, l, c, zs, hcs, _, hl, hm, hz, _, hcell, hwz⟩
  · simp [Value.cells] at hcs
    obtain ⟨rfl, rfl, rfl⟩ := hcs
    exact ⟨_, _, _, [], rfl, Rd.nil_, by omega, fun k hk => by omega⟩
  · simp [Value.cells] at hcs
    obtain ⟨rfl, rfl, rfl⟩ := hcs
    obtain ⟨h1, h2⟩ := rd_of_row (w := w) (a := some x) (len := len) (cap := cap) (zs := zs) (.inr ⟨x, rfl, hl, hm, by simpa using hz, hcell, hwz⟩)
    refine ⟨_, _, _, zs.take len, rfl, h1, h2, fun k hk => ?_⟩
    have hlz : zs.length = cap := by simpa using hz
    have hkz : k < (zs.take len).length := by rw [List.length_take]; omega
    have e : ix (zs.take len) k = (zs.take len)[k] := by unfold ix; rw [List.getD_eq_getElem?_getD, List.getElem?_eq_getElem hkz]; rfl
    rw [e]
    exact bounds_i64 (hwz _ (List.mem_of_mem_take (List.getElem_mem hkz)))
end
end Go.Proofs.YtfcabdgidlnljaaDoor
