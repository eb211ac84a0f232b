/-
  The document's example of layer 1, and 'short'.
-/
import Derived.Test.YtpnbbbhbbnemlaaGreatDoorSParse
import Derived.Test.YtpnbbbhbbnemlaaGreatDoorSGd
namespace Go.Proofs.YtpnbbbhbbnemlaaGreatDoor
open Go.RowKit
open SemP
set_option linter.unusedVariables false
set_option linter.unusedSimpArgs false
set_option maxRecDepth 100000

theorem parse_a : parseV [49, 46, 48, 46, 48, 45, 97, 46, 50] = some ⟨1, 0, 0, [97, 46, 50]⟩ := by rfl
theorem parse_b : parseV [49, 46, 48, 46, 48] = some ⟨1, 0, 0, []⟩ := by rfl
theorem parse_c : parseV [48, 49, 46, 48, 46, 48] = none := by rfl
theorem cmp_ab : cmpV ⟨1, 0, 0, [97, 46, 50]⟩ ⟨1, 0, 0, []⟩ = -1 := by rfl
theorem cmp_ba : cmpV ⟨1, 0, 0, []⟩ ⟨1, 0, 0, [97, 46, 50]⟩ = 1 := by rfl
theorem LenAt.below {w w' : World} (h : LenAt w) (h1 : 1 < w.heap.size) (hb : Below w.heap.size w w') : LenAt w' ∧ 1 < w'.heap.size := by
  obtain ⟨m, hm⟩ := h
  exact ⟨⟨m, (hb.cell (show 1 < _ from h1)).trans hm⟩, by have := hb.size; omega⟩
end Go.Proofs.YtpnbbbhbbnemlaaGreatDoor
