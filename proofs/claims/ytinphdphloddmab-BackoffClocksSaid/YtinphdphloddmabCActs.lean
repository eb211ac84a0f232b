/-
  A SLICE OF ACTS (three numbers each) THAT CAME IN, read and opened.
-/
import Derived.Test.YtinphdphloddmabCLex
import Derived.Deep.Slices
import Derived.ChangeSame
import Derived.OpenShut
namespace Go.Proofs.Ytinphdphloddmab
open Go.RowKit
open ByteP
open Go.ChangeShapes Go.WideShapes Go.Deep
set_option linter.unusedVariables false

def RdA (w : World) (B : Nat) (A : Option Addr) (m : Nat) (o : Nat → Int × Int × Int) : Prop := ∀ j, j < m → ∃ b off, A = some ⟨b, off, none⟩ ∧ b < B ∧
  w.cell? ⟨b, off + j * 3, none⟩ = some (.int .i64 (o j).1) ∧ w.cell? ⟨b, off + j * 3 + 1, none⟩ = some (.int .i64 (o j).2.1) ∧ w.cell? ⟨b, off + j * 3 + 2, none⟩ = some (.int .i64 (o j).2.2) ∧
  (-9223372036854775808 ≤ (o j).2.1 ∧ (o j).2.1 ≤ 9223372036854775807) ∧ (-9223372036854775808 ≤ (o j).2.2 ∧ (o j).2.2 ≤ 9223372036854775807)
theorem RdA.below {w w' : World} {B m : Nat} {A : Option Addr} {o : Nat → Int × Int × Int} (h : RdA w B A m o) (hb : Below B w w') : RdA w' B A m o := fun j hj => by
  obtain ⟨b, off, e, hlt, h0, h1, h2, h3, h4⟩ := h j hj
  exact ⟨b, off, e, hlt, (hb.cell hlt).trans h0, (hb.cell hlt).trans h1, (hb.cell hlt).trans h2, h3, h4⟩
theorem len_three {α : Type} {l : List α} (h : l.length = 3) : ∃ a b c, l = [a, b, c] := by
  match l, h with
  | [a, b, c], _ => exact ⟨a, b, c, rfl⟩
section
variable {H : Type} {enc : TypeId × Value → H} {w : World} {held : Bool}
theorem cells_act : Try.prog.cellsOf 61 = 3 := by kernel_rfl
set_option maxRecDepth 20000 in
theorem open_act {fuel : Nat} {cs : List Value} {x : DataW H × List MemPlace} (h : DataW.trod enc Try.prog w 0 (fun _ => true) held fuel 61 cs = some x) :
    ∃ kd nm k : Int, cs = [.int .i64 kd, .int .i64 nm, .int .i64 k] ∧ (Lit.int .i64 nm).wf = true ∧ (Lit.int .i64 k).wf = true := by
  obtain ⟨xs, n, _, _, hl, hlen, hf⟩ := DataW.trod_struct Try.underlying61 h
  rw [cells_act] at hl
  obtain ⟨v0, v1, v2, rfl⟩ := len_three hl
  obtain ⟨y0, y1, y2, rfl⟩ := len_three hlen
  have g0 := hf 0 _ rfl
  have g1 := hf 1 _ rfl
  have g2 := hf 2 _ rfl
  have g0' : DataW.trod enc Try.prog w 0 (fun _ => true) held n 3 [v0] = some y0 := by rw [show some y0 = [y0, y1, y2][0]? from rfl, ← g0]; congr 1
  have g1' : DataW.trod enc Try.prog w 0 (fun _ => true) held n 3 [v1] = some y1 := by rw [show some y1 = [y0, y1, y2][1]? from rfl, ← g1]; congr 1
  have g2' : DataW.trod enc Try.prog w 0 (fun _ => true) held n 3 [v2] = some y2 := by rw [show some y2 = [y0, y1, y2][2]? from rfl, ← g2]; congr 1
  obtain ⟨a, ha, _, _⟩ := DataW.trod_int Try.underlying3 g0'
  obtain ⟨b, hb, _, wb⟩ := DataW.trod_int Try.underlying3 g1'
  obtain ⟨c, hc, _, wc⟩ := DataW.trod_int Try.underlying3 g2'
  injection ha with ha
  injection hb with hb
  injection hc with hc
  exact ⟨a, b, c, by rw [ha, hb, hc], wb, wc⟩
theorem add_add3 (a : Addr) (i j : Nat) : (a.add i).add j = a.add (i + j) := by
  unfold Addr.add
  by_cases h0 : i = 0 <;> by_cases h1 : j = 0 <;> simp [h0, h1, Nat.add_assoc]
set_option maxRecDepth 20000 in
theorem open_acts {fuel : Nat} {v : Value} {x : DataW H × List MemPlace} (h : DataW.trod enc Try.prog w 0 (fun _ => true) held fuel 57 [v] = some x) :
    ∃ (A : Option Addr) (m c : Nat) (o : Nat → Int × Int × Int), v = .slice A m c ∧ RdA w w.heap.size A m o ∧ m ≤ 9223372036854775807 := by
  rcases open_slice Try.underlying57 h with ⟨h0, _⟩ | ⟨a, len, cap, m, n, D, Pl, h0, hb, hl, hm, hmm, _, hx⟩
  · simp at h0
    exact ⟨none, 0, 0, fun _ => (0, 0, 0), h0, fun j hj => absurd hj (by omega), by omega⟩
  · simp at h0
    have hlm : len ≤ m := by rw [hmm]; split <;> omega
    have each : ∀ i, i < len → ∃ v : Int × Int × Int, w.cell? (a.add (i * 3)) = some (.int .i64 v.1) ∧ w.cell? (a.add (i * 3 + 1)) = some (.int .i64 v.2.1) ∧ w.cell? (a.add (i * 3 + 2)) = some (.int .i64 v.2.2) ∧
        (-9223372036854775808 ≤ v.2.1 ∧ v.2.1 ≤ 9223372036854775807) ∧ (-9223372036854775808 ≤ v.2.2 ∧ v.2.2 ≤ 9223372036854775807) := by
      intro i hi
      obtain ⟨cs', h1, h2⟩ := hx i (by omega)
      rw [cells_act] at h1
      obtain ⟨_, hlen, hcell⟩ := World.cells?_some h1
      obtain ⟨kd, nm, k, rfl, wn, wk⟩ := open_act h2
      have e0 := hcell 0 (by omega)
      have e1 := hcell 1 (by omega)
      have e2 := hcell 2 (by omega)
      rw [add_add3] at e0 e1 e2
      exact ⟨(kd, nm, k), by simpa using e0, by simpa using e1, by simpa using e2, bounds_i64 wn, bounds_i64 wk⟩
    obtain ⟨q, hq⟩ := choose_lt each
    refine ⟨some a, len, cap, q, h0, fun j hj => ?_, by unfold maxLen at hm; omega⟩
    obtain ⟨c0, c1, c2, h5, h6⟩ := hq j hj
    have c00 := (hq 0 (by omega)).1
    obtain ⟨b, off, spot⟩ := a
    have hspot : spot = none := by simpa [Addr.add] using World.cell?_spot c00
    subst hspot
    have hbl : b < w.heap.size := by
      have := block_lt_of_cell c00
      simpa [Addr.add] using this
    have e : ∀ k, (Addr.add ⟨b, off, none⟩ k) = ⟨b, off + k, none⟩ := by
      intro k
      unfold Addr.add
      by_cases h0 : k = 0 <;> simp [h0]
    rw [e] at c0 c1 c2
    exact ⟨b, off, rfl, hbl, c0, by rw [Nat.add_assoc]; exact c1, by rw [Nat.add_assoc]; exact c2, h5, h6⟩
end
end Go.Proofs.Ytinphdphloddmab
