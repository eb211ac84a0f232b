/-
  A PLAN THAT CAME IN, opened: its four lists, in memory.
-/
import Derived.Test.YtmfoammkcokcoaaPLaw
import Derived.Test.YtmfoammkcokcoaaYRow
import Derived.Deep.Slices
import Derived.ChangeSame
import Derived.OpenShut
namespace Go.Proofs.Ytmfoammkcokcoaa
open Go.RowKit
open ByteP CodeP
open Go.ChangeShapes Go.WideShapes Go.Deep
set_option linter.unusedVariables false

theorem len_two {α : Type} {l : List α} (h : l.length = 2) : ∃ a b, l = [a, b] := by
  match l, h with
  | [a, b], _ => exact ⟨a, b, rfl⟩
theorem len_four {α : Type} {l : List α} (h : l.length = 4) : ∃ a b c d, l = [a, b, c, d] := by
  match l, h with
  | [a, b, c, d], _ => exact ⟨a, b, c, d, rfl⟩
theorem add_add (a : Addr) (i j : Nat) : (a.add i).add j = a.add (i + j) := by
  unfold Addr.add
  by_cases h0 : i = 0 <;> by_cases h1 : j = 0 <;> simp [h0, h1, Nat.add_assoc]
section
variable {H : Type} {enc : TypeId × Value → H} {w : World} {held : Bool}
theorem cells_int : Try.prog.cellsOf 3 = 1 := by kernel_rfl
theorem cells_edge : Try.prog.cellsOf 143 = 2 := by kernel_rfl
theorem cells_step : Try.prog.cellsOf 74 = 2 := by kernel_rfl
theorem cells_plan : Try.prog.cellsOf 69 = 4 := by kernel_rfl

set_option maxRecDepth 20000 in
theorem open_edge {fuel : Nat} {cs : List Value} {x : DataW H × List MemPlace} (h : DataW.trod enc Try.prog w 0 (fun _ => true) held fuel 143 cs = some x) : ∃ a b : Int, cs = [.int .i64 a, .int .i64 b] := by
  obtain ⟨xs, n, _, _, hl, hlen, hf⟩ := DataW.trod_array Try.underlying143 h
  rw [cells_edge] at hl
  obtain ⟨v0, v1, rfl⟩ := len_two hl
  obtain ⟨y0, y1, rfl⟩ := len_two hlen
  have g0 := hf 0 (by omega)
  have g1 := hf 1 (by omega)
  rw [cells_int] at g0 g1
  simp only [List.drop_zero, List.take_succ_cons, List.take_zero, Nat.zero_mul, Nat.one_mul, List.drop_succ_cons, List.getElem?_cons_zero, List.getElem?_cons_succ] at g0 g1
  obtain ⟨a, ha, _⟩ := DataW.trod_int Try.underlying3 g0
  obtain ⟨b, hb, _⟩ := DataW.trod_int Try.underlying3 g1
  injection ha with ha
  injection hb with hb
  exact ⟨a, b, by rw [ha, hb]⟩

set_option maxRecDepth 20000 in
theorem open_step {fuel : Nat} {cs : List Value} {x : DataW H × List MemPlace} (h : DataW.trod enc Try.prog w 0 (fun _ => true) held fuel 74 cs = some x) : ∃ a b : Int, cs = [.int .i64 a, .int .i64 b] := by
  obtain ⟨xs, n, _, _, hl, hlen, hf⟩ := DataW.trod_struct Try.underlying74 h
  rw [cells_step] at hl
  obtain ⟨v0, v1, rfl⟩ := len_two hl
  obtain ⟨y0, y1, rfl⟩ := len_two hlen
  have g0 := hf 0 _ rfl
  have g1 := hf 1 _ rfl
  have g0' : DataW.trod enc Try.prog w 0 (fun _ => true) held n 3 [v0] = some y0 := by rw [show some y0 = [y0, y1][0]? from rfl, ← g0]; congr 1
  have g1' : DataW.trod enc Try.prog w 0 (fun _ => true) held n 3 [v1] = some y1 := by rw [show some y1 = [y0, y1][1]? from rfl, ← g1]; congr 1
  obtain ⟨a, ha, _, _⟩ := DataW.trod_int Try.underlying3 g0'
  obtain ⟨b, hb, _, _⟩ := DataW.trod_int Try.underlying3 g1'
  injection ha with ha
  injection hb with hb
  exact ⟨a, b, by rw [ha, hb]⟩

theorem cell_block {a : Addr} {v : Value} (h : w.cell? a = some v) : a.block < w.heap.size := block_lt_of_cell h

theorem open_pairsE {fuel : Nat} {c1 : Value} {x : DataW H × List MemPlace} (h : DataW.trod enc Try.prog w 0 (fun _ => true) held fuel 67 [c1] = some x) :
    ∃ (A : Option Addr) (m c : Nat) (es : List (Int × Int)), c1 = .slice A m c ∧ RdP w w.heap.size A m es ∧ m ≤ 9223372036854775807 := by
  rcases open_slice Try.underlying67 h with ⟨h0, _⟩ | ⟨a, len, cap, m, n, D, Pl, h0, hb, hl, hm, hmm, _, hx⟩
  · simp at h0
    exact ⟨none, 0, 0, [], h0, ⟨rfl, fun h => absurd h (by omega)⟩, by omega⟩
  · simp at h0
    have hlm : len ≤ m := by rw [hmm]; split <;> omega
    have each : ∀ i, i < len → ∃ q : Int × Int, w.cell? (a.add (i * 2)) = some (.int .i64 q.1) ∧ w.cell? (a.add (i * 2 + 1)) = some (.int .i64 q.2) := by
      intro i hi
      obtain ⟨cs', h1, h2⟩ := hx i (by omega)
      rw [cells_edge] at h1
      obtain ⟨_, hlen, hcell⟩ := World.cells?_some h1
      obtain ⟨p, q, rfl⟩ := open_edge h2
      have e0 := hcell 0 (by omega)
      have e1 := hcell 1 (by omega)
      rw [add_add] at e0 e1
      exact ⟨(p, q), by simpa using e0, by simpa using e1⟩
    obtain ⟨q, hq⟩ := choose_lt each
    refine ⟨some a, len, cap, (List.range len).map q, h0, ⟨by simp, fun hn => ?_⟩, by unfold maxLen at hm; omega⟩
    have h00 := (hq 0 hn).1
    obtain ⟨b, off, spot⟩ := a
    have hspot : spot = none := by simpa [Addr.add] using World.cell?_spot h00
    subst hspot
    have hbl : b < w.heap.size := by
      have := block_lt_of_cell h00
      simpa [Addr.add] using this
    refine ⟨b, off, rfl, hbl, fun j hj => ?_⟩
    have e : ∀ k, (Addr.add ⟨b, off, none⟩ k) = ⟨b, off + k, none⟩ := by
      intro k
      unfold Addr.add
      by_cases h0 : k = 0 <;> simp [h0]
    have hj0 := (hq j hj).1
    have hj1 := (hq j hj).2
    rw [e] at hj0 hj1
    have hea : px ((List.range len).map q) j = (q j).1 := by simp [px, List.getD, hj]
    have heb : py ((List.range len).map q) j = (q j).2 := by simp [py, List.getD, hj]
    rw [hea, heb, hj0, Nat.add_assoc, hj1]
    exact ⟨rfl, rfl⟩

theorem open_pairsS {fuel : Nat} {c1 : Value} {x : DataW H × List MemPlace} (h : DataW.trod enc Try.prog w 0 (fun _ => true) held fuel 66 [c1] = some x) :
    ∃ (A : Option Addr) (m c : Nat) (es : List (Int × Int)), c1 = .slice A m c ∧ RdP w w.heap.size A m es ∧ m ≤ 9223372036854775807 := by
  rcases open_slice Try.underlying66 h with ⟨h0, _⟩ | ⟨a, len, cap, m, n, D, Pl, h0, hb, hl, hm, hmm, _, hx⟩
  · simp at h0
    exact ⟨none, 0, 0, [], h0, ⟨rfl, fun h => absurd h (by omega)⟩, by omega⟩
  · simp at h0
    have hlm : len ≤ m := by rw [hmm]; split <;> omega
    have each : ∀ i, i < len → ∃ q : Int × Int, w.cell? (a.add (i * 2)) = some (.int .i64 q.1) ∧ w.cell? (a.add (i * 2 + 1)) = some (.int .i64 q.2) := by
      intro i hi
      obtain ⟨cs', h1, h2⟩ := hx i (by omega)
      rw [cells_step] at h1
      obtain ⟨_, hlen, hcell⟩ := World.cells?_some h1
      obtain ⟨p, q, rfl⟩ := open_step h2
      have e0 := hcell 0 (by omega)
      have e1 := hcell 1 (by omega)
      rw [add_add] at e0 e1
      exact ⟨(p, q), by simpa using e0, by simpa using e1⟩
    obtain ⟨q, hq⟩ := choose_lt each
    refine ⟨some a, len, cap, (List.range len).map q, h0, ⟨by simp, fun hn => ?_⟩, by unfold maxLen at hm; omega⟩
    have h00 := (hq 0 hn).1
    obtain ⟨b, off, spot⟩ := a
    have hspot : spot = none := by simpa [Addr.add] using World.cell?_spot h00
    subst hspot
    have hbl : b < w.heap.size := by
      have := block_lt_of_cell h00
      simpa [Addr.add] using this
    refine ⟨b, off, rfl, hbl, fun j hj => ?_⟩
    have e : ∀ k, (Addr.add ⟨b, off, none⟩ k) = ⟨b, off + k, none⟩ := by
      intro k
      unfold Addr.add
      by_cases h0 : k = 0 <;> simp [h0]
    have hj0 := (hq j hj).1
    have hj1 := (hq j hj).2
    rw [e] at hj0 hj1
    have hea : px ((List.range len).map q) j = (q j).1 := by simp [px, List.getD, hj]
    have heb : py ((List.range len).map q) j = (q j).2 := by simp [py, List.getD, hj]
    rw [hea, heb, hj0, Nat.add_assoc, hj1]
    exact ⟨rfl, rfl⟩

theorem open_nums {fuel : Nat} {v : Value} {x : DataW H × List MemPlace} (h : DataW.trod enc Try.prog w 0 (fun _ => true) held fuel 51 [v] = some x) :
    ∃ (A : Option Addr) (n c : Nat) (zs : List Int), v = .slice A n c ∧ Rd w w.heap.size A n zs := by
  rcases open_ints Try.underlying51 Try.underlying3 (by kernel_rfl) h with ⟨hcs, _⟩ | ⟨x, l, c, zs, hcs, _, hl, hm, hz, _, hcell, hwz⟩
  · simp at hcs
    exact ⟨none, 0, 0, [], hcs, Rd.nil_⟩
  · simp at hcs
    have hr := rd_of_row (w := w) (a := some x) (len := l) (cap := c) (zs := zs) (.inr ⟨x, rfl, hl, hm, by simpa using hz, hcell, hwz⟩)
    exact ⟨some x, l, c, zs.take l, hcs, hr.1⟩

set_option maxRecDepth 20000 in
theorem open_plan {r : Reach} {base : Nat} {v : Value} {d : DataW H} {ps : List MemPlace} (hval : Value.okWide Try.prog w r base 69 v) (h : DataW.Trod enc Try.prog w 0 (fun _ => true) held 69 v d ps) :
    ∃ (A1 A2 A3 A4 : Option Addr) (n1 n2 n3 n4 c1 c2 c3 c4 : Nat) (fs ts : List Int) (ss bs : List (Int × Int)), v = .agg #[.slice A1 n1 c1, .slice A2 n2 c2, .slice A3 n3 c3, .slice A4 n4 c4] ∧
      Rd w w.heap.size A1 n1 fs ∧ Rd w w.heap.size A2 n2 ts ∧ RdP w w.heap.size A3 n3 ss ∧ RdP w w.heap.size A4 n4 bs := by
  obtain ⟨cs, rfl, hsz⟩ := okWide_struct Try.underlying69 hval
  obtain ⟨fuel, hf⟩ := h
  rw [cells_plan] at hsz
  obtain ⟨xs, n, _, _, hl, hlen, hf⟩ := DataW.trod_struct Try.underlying69 hf
  obtain ⟨l, rfl⟩ : ∃ l : List Value, cs = l.toArray := ⟨cs.toList, by simp⟩
  have hl4 : l.length = 4 := by simpa using hsz
  obtain ⟨v0, v1, v2, v3, rfl⟩ := len_four hl4
  obtain ⟨y0, y1, y2, y3, rfl⟩ := len_four hlen
  have g0 := hf 0 _ rfl
  have g1 := hf 1 _ rfl
  have g2 := hf 2 _ rfl
  have g3 := hf 3 _ rfl
  have g0' : DataW.trod enc Try.prog w 0 (fun _ => true) held n 51 [v0] = some y0 := by rw [show some y0 = [y0, y1, y2, y3][0]? from rfl, ← g0]; congr 1
  have g1' : DataW.trod enc Try.prog w 0 (fun _ => true) held n 51 [v1] = some y1 := by rw [show some y1 = [y0, y1, y2, y3][1]? from rfl, ← g1]; congr 1
  have g2' : DataW.trod enc Try.prog w 0 (fun _ => true) held n 66 [v2] = some y2 := by rw [show some y2 = [y0, y1, y2, y3][2]? from rfl, ← g2]; congr 1
  have g3' : DataW.trod enc Try.prog w 0 (fun _ => true) held n 67 [v3] = some y3 := by rw [show some y3 = [y0, y1, y2, y3][3]? from rfl, ← g3]; congr 1
  obtain ⟨A1, n1, c1, fs, rfl, h1⟩ := open_nums g0'
  obtain ⟨A2, n2, c2, ts, rfl, h2⟩ := open_nums g1'
  obtain ⟨A3, n3, c3, ss, rfl, h3, _⟩ := open_pairsS g2'
  obtain ⟨A4, n4, c4, bs, rfl, h4, _⟩ := open_pairsE g3'
  exact ⟨A1, A2, A3, A4, n1, n2, n3, n4, c1, c2, c3, c4, fs, ts, ss, bs, rfl, h1, h2, h3, h4⟩
end
end Go.Proofs.Ytmfoammkcokcoaa
