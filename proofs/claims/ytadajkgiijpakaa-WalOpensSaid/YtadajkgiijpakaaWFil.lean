/-
  A SLICE OF FILES THAT CAME IN, read and opened.
-/
import Derived.Test.YtadajkgiijpakaaWRow
import Derived.Test.YtadajkgiijpakaaKInts
import Derived.Test.YtadajkgiijpakaaKWords
import Derived.Deep.Slices
import Derived.Deep.Matrix
import Derived.ChangeSame
import Derived.OpenShut
namespace Go.Proofs.Ytadajkgiijpakaa
open Go.RowKit
open ByteP
open Go.ChangeShapes Go.WideShapes Go.Deep
set_option linter.unusedVariables false

/-- A file of the input. -/
structure FlV where
  name : Int
  dA : Option Addr
  dn : Nat
  dc : Nat
  ds : List Int
def RdL (w : World) (B : Nat) (A : Option Addr) (m : Nat) (o : Nat → FlV) : Prop := ∀ j, j < m → ∃ b off, A = some ⟨b, off, none⟩ ∧ b < B ∧
  w.cell? ⟨b, off + j * 2, none⟩ = some (.int .i64 (o j).name) ∧ w.cell? ⟨b, off + j * 2 + 1, none⟩ = some (.slice (o j).dA (o j).dn (o j).dc) ∧
  RdY w B (o j).dA (o j).dn (o j).ds ∧ Bytes (o j).ds
theorem RdL.below {w w' : World} {B m : Nat} {A : Option Addr} {o : Nat → FlV} (h : RdL w B A m o) (hb : Below B w w') : RdL w' B A m o := fun j hj => by
  obtain ⟨b, off, e, hlt, h0, h1, h7, h8⟩ := h j hj
  exact ⟨b, off, e, hlt, (hb.cell hlt).trans h0, (hb.cell hlt).trans h1, h7.below hb, h8⟩
theorem len_two {α : Type} {l : List α} (h : l.length = 2) : ∃ a b, l = [a, b] := by
  match l, h with
  | [a, b], _ => exact ⟨a, b, rfl⟩
section
variable {H : Type} {enc : TypeId × Value → H} {w : World} {held : Bool}
theorem cells_file : Try.prog.cellsOf 28 = 2 := by kernel_rfl

set_option maxRecDepth 20000 in
theorem open_file {fuel : Nat} {cs : List Value} {x : DataW H × List MemPlace} (h : DataW.trod enc Try.prog w 0 (fun _ => true) held fuel 28 cs = some x) :
    ∃ (n : Nat) (kd : Int) (v3 : Value) (y3 : DataW H × List MemPlace), cs = [.int .i64 kd, v3] ∧
      DataW.trod enc Try.prog w 0 (fun _ => true) held n 26 [v3] = some y3 ∧ (Lit.int .i64 kd).wf = true := by
  obtain ⟨xs, n, _, _, hl, hlen, hf⟩ := DataW.trod_struct Try.underlying28 h
  rw [cells_file] at hl
  obtain ⟨v0, v3, rfl⟩ := len_two hl
  obtain ⟨y0, y3, rfl⟩ := len_two hlen
  have g0 := hf 0 _ rfl
  have g3 := hf 1 _ rfl
  have g0' : DataW.trod enc Try.prog w 0 (fun _ => true) held n 3 [v0] = some y0 := by rw [show some y0 = [y0, y3][0]? from rfl, ← g0]; congr 1
  have g3' : DataW.trod enc Try.prog w 0 (fun _ => true) held n 26 [v3] = some y3 := by rw [show some y3 = [y0, y3][1]? from rfl, ← g3]; congr 1
  obtain ⟨a, ha, _, hw⟩ := DataW.trod_int Try.underlying3 g0'
  injection ha with ha
  exact ⟨n, a, v3, y3, by rw [ha], g3', hw⟩
theorem open_bytesL {fuel : Nat} {v : Value} {x : DataW H × List MemPlace} (h : DataW.trod enc Try.prog w 0 (fun _ => true) held fuel 26 [v] = some x) :
    ∃ (A : Option Addr) (n c : Nat) (zs : List Int), v = .slice A n c ∧ RdY w w.heap.size A n zs ∧ Bytes zs := by
  rcases open_ints Try.underlying26 Try.underlying5 (by kernel_rfl) h with ⟨hcs, _⟩ | ⟨x, l, c, zs, hcs, _, hl, hm, hz, _, hcell, hwz⟩
  · simp at hcs
    exact ⟨none, 0, 0, [], hcs, RdY.nil_, fun i => by simp [ix]⟩
  · simp at hcs
    have hr := rdY_of_row (w := w) (a := some x) (len := l) (cap := c) (zs := zs) (.inr ⟨x, rfl, hl, hm, by simpa using hz, hcell, hwz⟩)
    exact ⟨some x, l, c, zs.take l, hcs, hr.1, hr.2.1⟩
theorem add_addL (a : Addr) (i j : Nat) : (a.add i).add j = a.add (i + j) := by
  unfold Addr.add
  by_cases h0 : i = 0 <;> by_cases h1 : j = 0 <;> simp [h0, h1, Nat.add_assoc]

set_option maxRecDepth 20000 in
theorem open_files {fuel : Nat} {v : Value} {x : DataW H × List MemPlace} (h : DataW.trod enc Try.prog w 0 (fun _ => true) held fuel 22 [v] = some x) :
    ∃ (A : Option Addr) (m c : Nat) (o : Nat → FlV), v = .slice A m c ∧ RdL w w.heap.size A m o ∧ m ≤ 9223372036854775807 := by
  rcases open_slice Try.underlying22 h with ⟨h0, _⟩ | ⟨a, len, cap, m, n, D, Pl, h0, hb, hl, hm, hmm, _, hx⟩
  · simp at h0
    exact ⟨none, 0, 0, fun _ => ⟨0, none, 0, 0, []⟩, h0, fun j hj => absurd hj (by omega), by omega⟩
  · simp at h0
    have hlm : len ≤ m := by rw [hmm]; split <;> omega
    have each : ∀ i, i < len → ∃ v : FlV, w.cell? (a.add (i * 2)) = some (.int .i64 v.name) ∧ w.cell? (a.add (i * 2 + 1)) = some (.slice v.dA v.dn v.dc) ∧
        RdY w w.heap.size v.dA v.dn v.ds ∧ Bytes v.ds := by
      intro i hi
      obtain ⟨cs', h1, h2⟩ := hx i (by omega)
      rw [cells_file] at h1
      obtain ⟨_, hlen, hcell⟩ := World.cells?_some h1
      obtain ⟨n', kd, v3, y3, rfl, t3, _⟩ := open_file h2
      obtain ⟨dA, dn, dc, ds, rfl, hdy, hdb⟩ := open_bytesL t3
      have e0 := hcell 0 (by omega)
      have e3 := hcell 1 (by omega)
      rw [add_addL] at e0 e3
      exact ⟨⟨kd, dA, dn, dc, ds⟩, by simpa using e0, by simpa using e3, hdy, hdb⟩
    have inh : Inhabited FlV := ⟨⟨0, none, 0, 0, []⟩⟩
    obtain ⟨q, hq⟩ := choose_lt each
    refine ⟨some a, len, cap, q, h0, fun j hj => ?_, by unfold maxLen at hm; omega⟩
    obtain ⟨c0, c3, h7, h8⟩ := hq j hj
    have c00 := (hq 0 (by omega)).1
    obtain ⟨b, off, spot⟩ := a
    have hspot : spot = none := by simpa [Addr.add] using World.cell?_spot c00
    subst hspot
    have hbl : b < w.heap.size := by
      have := block_lt_of_cell c00
      simpa [Addr.add] using this
    have e : ∀ k, (Addr.add ⟨b, off, none⟩ k) = ⟨b, off + k, none⟩ := by
      intro k
      unfold Addr.add
      by_cases h0 : k = 0 <;> simp [h0]
    rw [e] at c0 c3
    exact ⟨b, off, rfl, hbl, c0, by rw [Nat.add_assoc]; exact c3, h7, h8⟩
end
end Go.Proofs.Ytadajkgiijpakaa
