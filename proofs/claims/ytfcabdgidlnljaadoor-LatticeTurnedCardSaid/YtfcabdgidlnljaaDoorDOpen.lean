/-
  A GRAPH THAT CAME IN, opened: its number of nodes, and its edges in memory.
-/
import Derived.Test.YtfcabdgidlnljaaDoorDCheck
import Derived.Deep.Slices
import Derived.ChangeSame
import Derived.OpenShut
namespace Go.Proofs.YtfcabdgidlnljaaDoor
open Go.RowKit
open Go.ChangeShapes Go.WideShapes Go.Deep
set_option linter.unusedVariables false

theorem len_two {α : Type} {l : List α} (h : l.length = 2) : ∃ a b, l = [a, b] := by
  match l, h with
  | [a, b], _ => exact ⟨a, b, rfl⟩
section
variable {H : Type} {enc : TypeId × Value → H} {w : World} {held : Bool}
theorem cells_int : Tryd.prog.cellsOf 3 = 1 := by kernel_rfl
theorem cells_edges : Tryd.prog.cellsOf 22 = 1 := by kernel_rfl
theorem cells_edge : Tryd.prog.cellsOf 43 = 2 := by kernel_rfl
theorem cells_graph : Tryd.prog.cellsOf 24 = 2 := by kernel_rfl

set_option maxRecDepth 20000 in
theorem open_edge {fuel : Nat} {cs : List Value} {x : DataW H × List MemPlace} (h : DataW.trod enc Tryd.prog w 0 (fun _ => true) held fuel 43 cs = some x) : ∃ a b : Int, cs = [.int .i64 a, .int .i64 b] := by
  obtain ⟨xs, n, _, _, hl, hlen, hf⟩ := DataW.trod_array Tryd.underlying43 h
  rw [cells_edge] at hl
  obtain ⟨v0, v1, rfl⟩ := len_two hl
  obtain ⟨y0, y1, rfl⟩ := len_two hlen
  have g0 := hf 0 (by omega)
  have g1 := hf 1 (by omega)
  rw [cells_int] at g0 g1
  simp only [List.drop_zero, List.take_succ_cons, List.take_zero, Nat.zero_mul, Nat.one_mul, List.drop_succ_cons, List.getElem?_cons_zero, List.getElem?_cons_succ] at g0 g1
  obtain ⟨a, ha, _⟩ := DataW.trod_int Tryd.underlying3 g0
  obtain ⟨b, hb, _⟩ := DataW.trod_int Tryd.underlying3 g1
  injection ha with ha
  injection hb with hb
  exact ⟨a, b, by rw [ha, hb]⟩

theorem cell_block {a : Addr} {v : Value} (h : w.cell? a = some v) : a.block < w.heap.size := block_lt_of_cell h

theorem open_edges {fuel : Nat} {c1 : Value} {x : DataW H × List MemPlace} (h : DataW.trod enc Tryd.prog w 0 (fun _ => true) held fuel 22 [c1] = some x) :
    ∃ (A : Option Addr) (m c : Nat) (es : List (Int × Int)), c1 = .slice A m c ∧ RdE w w.heap.size A m es ∧ m ≤ 9223372036854775807 := by
  rcases open_slice Tryd.underlying22 h with ⟨h0, _⟩ | ⟨a, len, cap, m, n, D, Pl, h0, hb, hl, hm, hmm, _, hx⟩
  · simp at h0
    exact ⟨none, 0, 0, [], h0, ⟨rfl, fun h => absurd h (by omega)⟩, by omega⟩
  · simp at h0
    have hlm : len ≤ m := by rw [hmm]; split <;> omega
    have each : ∀ i, i < len → ∃ q : Int × Int, w.cell? (a.add (i * 2)) = some (.int .i64 q.1) ∧ w.cell? (a.add (i * 2 + 1)) = some (.int .i64 q.2) := by
      intro i hi
      obtain ⟨cs', h1, h2⟩ := hx i (by omega)
      rw [cells_edge] at h1
      obtain ⟨_, hlen, hcell⟩ := World.cells?_some h1
      obtain ⟨p, q, rfl⟩ := open_edge h2
      have e0 := hcell 0 (by omega)
      have e1 := hcell 1 (by omega)
      rw [add_add] at e0 e1
      exact ⟨(p, q), by simpa using e0, by simpa using e1⟩
    obtain ⟨q, hq⟩ := choose_lt each
    refine ⟨some a, len, cap, (List.range len).map q, h0, ⟨by simp, fun hn => ?_⟩, by unfold maxLen at hm; omega⟩
    have h00 := (hq 0 hn).1
    obtain ⟨b, off, spot⟩ := a
    have hspot : spot = none := by simpa [Addr.add] using World.cell?_spot h00
    subst hspot
    have hbl : b < w.heap.size := by
      have := block_lt_of_cell h00
      simpa [Addr.add] using this
    refine ⟨b, off, rfl, hbl, fun j hj => ?_⟩
    have e : ∀ k, (Addr.add ⟨b, off, none⟩ k) = ⟨b, off + k, none⟩ := by
      intro k
      unfold Addr.add
      by_cases h0 : k = 0 <;> simp [h0]
    have hj0 := (hq j hj).1
    have hj1 := (hq j hj).2
    rw [e] at hj0 hj1
    have hea : ea ((List.range len).map q) j = (q j).1 := by simp [ea, List.getD, hj]
    have heb : eb ((List.range len).map q) j = (q j).2 := by simp [eb, List.getD, hj]
    rw [hea, heb, hj0, Nat.add_assoc, hj1]
    exact ⟨rfl, rfl⟩

set_option maxRecDepth 20000 in
theorem open_graph {r : Reach} {base : Nat} {v : Value} {d : DataW H} {ps : List MemPlace} (hval : Value.okWide Tryd.prog w r base 24 v) (h : DataW.Trod enc Tryd.prog w 0 (fun _ => true) held 24 v d ps) :
    ∃ (n : Int) (A : Option Addr) (m c : Nat) (es : List (Int × Int)), v = .agg #[.int .i64 n, .slice A m c] ∧ (Lit.int .i64 n).wf = true ∧ RdE w w.heap.size A m es ∧ m ≤ 9223372036854775807 := by
  obtain ⟨cs, rfl, hsz⟩ := okWide_struct Tryd.underlying24 hval
  obtain ⟨fuel, hf⟩ := h
  rw [cells_graph] at hsz
  obtain ⟨y0, y1, n, _, _, g0, g1⟩ := trod_struct2 Tryd.underlying24 hf
  obtain ⟨l, rfl⟩ : ∃ l : List Value, cs = l.toArray := ⟨cs.toList, by simp⟩
  have hl2 : l.length = 2 := by simpa using hsz
  obtain ⟨v0, v1, rfl⟩ := len_two hl2
  have g0' : DataW.trod enc Tryd.prog w 0 (fun _ => true) held n 3 [v0] = some y0 := by rw [← g0]; congr 1
  have g1' : DataW.trod enc Tryd.prog w 0 (fun _ => true) held n 22 [v1] = some y1 := by rw [← g1]; congr 1
  obtain ⟨a, ha, _, hwf⟩ := DataW.trod_int Tryd.underlying3 g0'
  obtain ⟨A, m, c, es, he, hx, hm⟩ := open_edges g1'
  injection ha with ha
  subst ha he
  exact ⟨a, A, m, c, es, rfl, hwf, hx, hm⟩
end
end Go.Proofs.YtfcabdgidlnljaaDoor
