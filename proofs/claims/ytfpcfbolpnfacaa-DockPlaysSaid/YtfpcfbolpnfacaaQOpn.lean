/-
  A SLICE OF STEPS THAT CAME IN, opened.
-/
import Derived.Test.YtfpcfbolpnfacaaQLike
import Derived.Test.YtfpcfbolpnfacaaYRow
import Derived.Deep.Slices
import Derived.Deep.Matrix
import Derived.ChangeSame
import Derived.OpenShut
namespace Go.Proofs.Ytfpcfbolpnfacaa
open Go.RowKit
open ByteP
open Go.ChangeShapes Go.WideShapes Go.Deep
set_option linter.unusedVariables false

/-- A step of a play. -/
structure OpV where
  kind : Int
  name : Int
  n : Int
  dA : Option Addr
  dn : Nat
  dc : Nat
  ds : List Int
  kA : Option Addr
  kn : Nat
  kc : Nat
  ks : List Int
def RdO (w : World) (B : Nat) (A : Option Addr) (m : Nat) (o : Nat → OpV) : Prop := ∀ j, j < m → ∃ b off, A = some ⟨b, off, none⟩ ∧ b < B ∧
  w.cell? ⟨b, off + j * 5, none⟩ = some (.int .i64 (o j).kind) ∧ w.cell? ⟨b, off + j * 5 + 1, none⟩ = some (.int .i64 (o j).name) ∧ w.cell? ⟨b, off + j * 5 + 2, none⟩ = some (.int .i64 (o j).n) ∧
  w.cell? ⟨b, off + j * 5 + 3, none⟩ = some (.slice (o j).dA (o j).dn (o j).dc) ∧ w.cell? ⟨b, off + j * 5 + 4, none⟩ = some (.slice (o j).kA (o j).kn (o j).kc) ∧
  (-9223372036854775808 ≤ (o j).name ∧ (o j).name ≤ 9223372036854775807) ∧ ((o j).n ≤ 9223372036854775807) ∧
  RdY w B (o j).dA (o j).dn (o j).ds ∧ Bytes (o j).ds ∧ Rd w B (o j).kA (o j).kn (o j).ks
theorem RdO.below {w w' : World} {B m : Nat} {A : Option Addr} {o : Nat → OpV} (h : RdO w B A m o) (hb : Below B w w') : RdO w' B A m o := fun j hj => by
  obtain ⟨b, off, e, hlt, h0, h1, h2, h3, h4, h5, h6, h7, h8, h9⟩ := h j hj
  exact ⟨b, off, e, hlt, (hb.cell hlt).trans h0, (hb.cell hlt).trans h1, (hb.cell hlt).trans h2, (hb.cell hlt).trans h3, (hb.cell hlt).trans h4, h5, h6, h7.below hb, h8, h9.below hb⟩

theorem RdO.data {w : World} {B m : Nat} {A : Option Addr} {o : Nat → OpV} (h : RdO w B A m o) {j : Nat} (hj : j < m) : RdY w B (o j).dA (o j).dn (o j).ds := by
  obtain ⟨b, off, e, hlt, h0, h1, h2, h3, h4, h5, h6, h7, h8, h9⟩ := h j hj
  exact h7
theorem RdO.keeps {w : World} {B m : Nat} {A : Option Addr} {o : Nat → OpV} (h : RdO w B A m o) {j : Nat} (hj : j < m) : Rd w B (o j).kA (o j).kn (o j).ks := by
  obtain ⟨b, off, e, hlt, h0, h1, h2, h3, h4, h5, h6, h7, h8, h9⟩ := h j hj
  exact h9

theorem len_five {α : Type} {l : List α} (h : l.length = 5) : ∃ a b c d e, l = [a, b, c, d, e] := by
  match l, h with
  | [a, b, c, d, e], _ => exact ⟨a, b, c, d, e, rfl⟩
section
variable {H : Type} {enc : TypeId × Value → H} {w : World} {held : Bool}
theorem cells_op : Try.prog.cellsOf 33 = 5 := by kernel_rfl

set_option maxRecDepth 20000 in
theorem open_op {fuel : Nat} {cs : List Value} {x : DataW H × List MemPlace} (h : DataW.trod enc Try.prog w 0 (fun _ => true) held fuel 33 cs = some x) :
    ∃ (n : Nat) (kd nm k : Int) (v3 v4 : Value) (y3 y4 : DataW H × List MemPlace), cs = [.int .i64 kd, .int .i64 nm, .int .i64 k, v3, v4] ∧ (Lit.int .i64 nm).wf = true ∧ (Lit.int .i64 k).wf = true ∧
      DataW.trod enc Try.prog w 0 (fun _ => true) held n 30 [v3] = some y3 ∧ DataW.trod enc Try.prog w 0 (fun _ => true) held n 31 [v4] = some y4 := by
  obtain ⟨xs, n, _, _, hl, hlen, hf⟩ := DataW.trod_struct Try.underlying33 h
  rw [cells_op] at hl
  obtain ⟨v0, v1, v2, v3, v4, rfl⟩ := len_five hl
  obtain ⟨y0, y1, y2, y3, y4, rfl⟩ := len_five hlen
  have g0 := hf 0 _ rfl
  have g1 := hf 1 _ rfl
  have g2 := hf 2 _ rfl
  have g3 := hf 3 _ rfl
  have g4 := hf 4 _ rfl
  have g0' : DataW.trod enc Try.prog w 0 (fun _ => true) held n 3 [v0] = some y0 := by rw [show some y0 = [y0, y1, y2, y3, y4][0]? from rfl, ← g0]; congr 1
  have g1' : DataW.trod enc Try.prog w 0 (fun _ => true) held n 3 [v1] = some y1 := by rw [show some y1 = [y0, y1, y2, y3, y4][1]? from rfl, ← g1]; congr 1
  have g2' : DataW.trod enc Try.prog w 0 (fun _ => true) held n 3 [v2] = some y2 := by rw [show some y2 = [y0, y1, y2, y3, y4][2]? from rfl, ← g2]; congr 1
  have g3' : DataW.trod enc Try.prog w 0 (fun _ => true) held n 30 [v3] = some y3 := by rw [show some y3 = [y0, y1, y2, y3, y4][3]? from rfl, ← g3]; congr 1
  have g4' : DataW.trod enc Try.prog w 0 (fun _ => true) held n 31 [v4] = some y4 := by rw [show some y4 = [y0, y1, y2, y3, y4][4]? from rfl, ← g4]; congr 1
  obtain ⟨a, ha, _, _⟩ := DataW.trod_int Try.underlying3 g0'
  obtain ⟨b, hb, _, wb⟩ := DataW.trod_int Try.underlying3 g1'
  obtain ⟨c, hc, _, wc⟩ := DataW.trod_int Try.underlying3 g2'
  injection ha with ha
  injection hb with hb
  injection hc with hc
  exact ⟨n, a, b, c, v3, v4, y3, y4, by rw [ha, hb, hc], wb, wc, g3', g4'⟩

theorem open_bytes {fuel : Nat} {v : Value} {x : DataW H × List MemPlace} (h : DataW.trod enc Try.prog w 0 (fun _ => true) held fuel 30 [v] = some x) :
    ∃ (A : Option Addr) (n c : Nat) (zs : List Int), v = .slice A n c ∧ RdY w w.heap.size A n zs ∧ Bytes zs := by
  rcases open_ints Try.underlying30 Try.underlying5 (by kernel_rfl) h with ⟨hcs, _⟩ | ⟨x, l, c, zs, hcs, _, hl, hm, hz, _, hcell, hwz⟩
  · simp at hcs
    exact ⟨none, 0, 0, [], hcs, RdY.nil_, fun i => by simp [ix]⟩
  · simp at hcs
    have hr := rdY_of_row (w := w) (a := some x) (len := l) (cap := c) (zs := zs) (.inr ⟨x, rfl, hl, hm, by simpa using hz, hcell, hwz⟩)
    exact ⟨some x, l, c, zs.take l, hcs, hr.1, hr.2.1⟩
theorem open_nums {fuel : Nat} {v : Value} {x : DataW H × List MemPlace} (h : DataW.trod enc Try.prog w 0 (fun _ => true) held fuel 31 [v] = some x) :
    ∃ (A : Option Addr) (n c : Nat) (zs : List Int), v = .slice A n c ∧ Rd w w.heap.size A n zs := by
  rcases open_ints Try.underlying31 Try.underlying3 (by kernel_rfl) h with ⟨hcs, _⟩ | ⟨x, l, c, zs, hcs, _, hl, hm, hz, _, hcell, hwz⟩
  · simp at hcs
    exact ⟨none, 0, 0, [], hcs, Rd.nil_⟩
  · simp at hcs
    have hr := rd_of_row (w := w) (a := some x) (len := l) (cap := c) (zs := zs) (.inr ⟨x, rfl, hl, hm, by simpa using hz, hcell, hwz⟩)
    exact ⟨some x, l, c, zs.take l, hcs, hr.1⟩

theorem add_add5 (a : Addr) (i j : Nat) : (a.add i).add j = a.add (i + j) := by
  unfold Addr.add
  by_cases h0 : i = 0 <;> by_cases h1 : j = 0 <;> simp [h0, h1, Nat.add_assoc]

set_option maxRecDepth 20000 in
theorem open_ops {fuel : Nat} {v : Value} {x : DataW H × List MemPlace} (h : DataW.trod enc Try.prog w 0 (fun _ => true) held fuel 22 [v] = some x) :
    ∃ (A : Option Addr) (m c : Nat) (o : Nat → OpV), v = .slice A m c ∧ RdO w w.heap.size A m o ∧ m ≤ 9223372036854775807 := by
  rcases open_slice Try.underlying22 h with ⟨h0, _⟩ | ⟨a, len, cap, m, n, D, Pl, h0, hb, hl, hm, hmm, _, hx⟩
  · simp at h0
    exact ⟨none, 0, 0, fun _ => ⟨0, 0, 0, none, 0, 0, [], none, 0, 0, []⟩, h0, fun j hj => absurd hj (by omega), by omega⟩
  · simp at h0
    have hlm : len ≤ m := by rw [hmm]; split <;> omega
    have each : ∀ i, i < len → ∃ v : OpV, w.cell? (a.add (i * 5)) = some (.int .i64 v.kind) ∧ w.cell? (a.add (i * 5 + 1)) = some (.int .i64 v.name) ∧ w.cell? (a.add (i * 5 + 2)) = some (.int .i64 v.n) ∧
        w.cell? (a.add (i * 5 + 3)) = some (.slice v.dA v.dn v.dc) ∧ w.cell? (a.add (i * 5 + 4)) = some (.slice v.kA v.kn v.kc) ∧ (-9223372036854775808 ≤ v.name ∧ v.name ≤ 9223372036854775807) ∧ (v.n ≤ 9223372036854775807) ∧
        RdY w w.heap.size v.dA v.dn v.ds ∧ Bytes v.ds ∧ Rd w w.heap.size v.kA v.kn v.ks := by
      intro i hi
      obtain ⟨cs', h1, h2⟩ := hx i (by omega)
      rw [cells_op] at h1
      obtain ⟨_, hlen, hcell⟩ := World.cells?_some h1
      obtain ⟨n', kd, nm, k, v3, v4, y3, y4, rfl, wn, wk, t3, t4⟩ := open_op h2
      obtain ⟨dA, dn, dc, ds, rfl, hdy, hdb⟩ := open_bytes t3
      obtain ⟨kA, kn, kc, ks, rfl, hks⟩ := open_nums t4
      have e0 := hcell 0 (by omega)
      have e1 := hcell 1 (by omega)
      have e2 := hcell 2 (by omega)
      have e3 := hcell 3 (by omega)
      have e4 := hcell 4 (by omega)
      rw [add_add5] at e0 e1 e2 e3 e4
      exact ⟨⟨kd, nm, k, dA, dn, dc, ds, kA, kn, kc, ks⟩, by simpa using e0, by simpa using e1, by simpa using e2, by simpa using e3, by simpa using e4, bounds_i64 wn, (bounds_i64 wk).2, hdy, hdb, hks⟩
    have inh : Inhabited OpV := ⟨⟨0, 0, 0, none, 0, 0, [], none, 0, 0, []⟩⟩
    obtain ⟨q, hq⟩ := choose_lt each
    refine ⟨some a, len, cap, q, h0, fun j hj => ?_, by unfold maxLen at hm; omega⟩
    obtain ⟨c0, c1, c2, c3, c4, h5, h6, h7, h8, h9⟩ := hq j hj
    have c00 := (hq 0 (by omega)).1
    obtain ⟨b, off, spot⟩ := a
    have hspot : spot = none := by simpa [Addr.add] using World.cell?_spot c00
    subst hspot
    have hbl : b < w.heap.size := by
      have := block_lt_of_cell c00
      simpa [Addr.add] using this
    have e : ∀ k, (Addr.add ⟨b, off, none⟩ k) = ⟨b, off + k, none⟩ := by
      intro k
      unfold Addr.add
      by_cases h0 : k = 0 <;> simp [h0]
    rw [e] at c0 c1 c2 c3 c4
    exact ⟨b, off, rfl, hbl, c0, by rw [Nat.add_assoc]; exact c1, by rw [Nat.add_assoc]; exact c2, by rw [Nat.add_assoc]; exact c3, by rw [Nat.add_assoc]; exact c4, h5, h6, h7, h8, h9⟩
end
end Go.Proofs.Ytfpcfbolpnfacaa
