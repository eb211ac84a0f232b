/-
  A VERSION THAT CAME IN, opened: three ints and a string.
-/
import Derived.Test.YtpnbbbhbbnemlaaGreatDoorSGd
import Derived.Deep.Slices
import Derived.ChangeSame
import Derived.ChangeMaps5
import Derived.OpenShut
namespace Go.Proofs.YtpnbbbhbbnemlaaGreatDoor
open Go.RowKit
open SemP
open Go.ChangeShapes Go.WideShapes Go.Deep
set_option linter.unusedVariables false

theorem len_four {α : Type} {l : List α} (h : l.length = 4) : ∃ a b c d, l = [a, b, c, d] := by
  match l, h with
  | [a, b, c, d], _ => exact ⟨a, b, c, d, rfl⟩
section
variable {H : Type} {enc : TypeId × Value → H} {w : World} {held : Bool}
theorem cells_version : Tryz.prog.cellsOf 69 = 4 := by kernel_rfl
set_option maxRecDepth 20000 in
theorem open_version {r : Reach} {base : Nat} {v : Value} {d : DataW H} {ps : List MemPlace} (hval : Value.okWide Tryz.prog w r base 69 v) (h : DataW.Trod enc Tryz.prog w 0 (fun _ => true) held 69 v d ps) :
    ∃ (a b c : Int) (s : ByteArray), v = verV a b c s ∧ (Lit.int .i64 a).wf = true ∧ (Lit.int .i64 b).wf = true ∧ (Lit.int .i64 c).wf = true ∧ s.size ≤ maxLen := by
  obtain ⟨cs, rfl, hsz⟩ := okWide_struct Tryz.underlying69 hval
  obtain ⟨fuel, hf0⟩ := h
  rw [cells_version] at hsz
  obtain ⟨xs, n, _, _, hl, hlen, hf⟩ := DataW.trod_struct Tryz.underlying69 hf0
  obtain ⟨l, rfl⟩ : ∃ l : List Value, cs = l.toArray := ⟨cs.toList, by simp⟩
  have hl2 : l.length = 4 := by simpa using hsz
  obtain ⟨v0, v1, v2, v3, rfl⟩ := len_four hl2
  obtain ⟨y0, y1, y2, y3, rfl⟩ := len_four hlen
  have g0 := hf 0 _ rfl
  have g1 := hf 1 _ rfl
  have g2 := hf 2 _ rfl
  have g3 := hf 3 _ rfl
  have g0' : DataW.trod enc Tryz.prog w 0 (fun _ => true) held n 3 [v0] = some y0 := by rw [show some y0 = [y0, y1, y2, y3][0]? from rfl, ← g0]; congr 1
  have g1' : DataW.trod enc Tryz.prog w 0 (fun _ => true) held n 3 [v1] = some y1 := by rw [show some y1 = [y0, y1, y2, y3][1]? from rfl, ← g1]; congr 1
  have g2' : DataW.trod enc Tryz.prog w 0 (fun _ => true) held n 3 [v2] = some y2 := by rw [show some y2 = [y0, y1, y2, y3][2]? from rfl, ← g2]; congr 1
  have g3' : DataW.trod enc Tryz.prog w 0 (fun _ => true) held n 9 [v3] = some y3 := by rw [show some y3 = [y0, y1, y2, y3][3]? from rfl, ← g3]; congr 1
  obtain ⟨a, ha, _, wa⟩ := DataW.trod_int Tryz.underlying3 g0'
  obtain ⟨b, hb, _, wb⟩ := DataW.trod_int Tryz.underlying3 g1'
  obtain ⟨c, hc, _, wc⟩ := DataW.trod_int Tryz.underlying3 g2'
  obtain ⟨s, hs, _, ws⟩ := DataW.trod_string Tryz.underlying9 g3'
  injection ha with ha
  injection hb with hb
  injection hc with hc
  injection hs with hs
  exact ⟨a, b, c, s, by rw [ha, hb, hc, hs], wa, wb, wc, ws⟩
end
end Go.Proofs.YtpnbbbhbbnemlaaGreatDoor
