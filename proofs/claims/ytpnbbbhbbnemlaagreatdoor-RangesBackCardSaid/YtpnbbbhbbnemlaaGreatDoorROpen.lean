/-
  A RANGE THAT CAME IN, opened: lists of comparisons in memory.
-/
import Derived.Test.YtpnbbbhbbnemlaaGreatDoorSOpen
import Derived.Test.YtpnbbbhbbnemlaaGreatDoorRRight
import Derived.Deep.Slices
namespace Go.Proofs.YtpnbbbhbbnemlaaGreatDoor
open Go.RowKit
open SemP
open Go.ChangeShapes Go.WideShapes Go.Deep
set_option linter.unusedVariables false

theorem len_1 {α : Type} {l : List α} (h : l.length = 1) : ∃ a, l = [a] := by
  match l, h with
  | [a], _ => exact ⟨a, rfl⟩
theorem len_2 {α : Type} {l : List α} (h : l.length = 2) : ∃ a b, l = [a, b] := by
  match l, h with
  | [a, b], _ => exact ⟨a, b, rfl⟩
theorem len_5 {α : Type} {l : List α} (h : l.length = 5) : ∃ a b c d e, l = [a, b, c, d, e] := by
  match l, h with
  | [a, b, c, d, e], _ => exact ⟨a, b, c, d, e, rfl⟩
theorem cell_blockR {w : World} {a : Addr} {v : Value} (h : w.cell? a = some v) : a.block < w.heap.size := block_lt_of_cell h
theorem add_addR (a : Addr) (i j : Nat) : (a.add i).add j = a.add (i + j) := by
  unfold Addr.add
  by_cases h0 : i = 0 <;> by_cases h1 : j = 0 <;> simp [h0, h1, Nat.add_assoc]
section
variable {H : Type} {enc : TypeId × Value → H} {w : World} {held : Bool}
theorem cells_comp : Tryz.prog.cellsOf 73 = 5 := by kernel_rfl
theorem cells_list : Tryz.prog.cellsOf 70 = 1 := by kernel_rfl
theorem cells_range : Tryz.prog.cellsOf 24 = 1 := by kernel_rfl
set_option maxRecDepth 20000 in
theorem open_ver {fuel : Nat} {cs : List Value} {x : DataW H × List MemPlace} (h : DataW.trod enc Tryz.prog w 0 (fun _ => true) held fuel 69 cs = some x) :
    ∃ (a b c : Int) (s : ByteArray), cs = [.int .i64 a, .int .i64 b, .int .i64 c, .string s] ∧ s.size ≤ maxLen := by
  obtain ⟨xs, n, _, _, hl, hlen, hf⟩ := DataW.trod_struct Tryz.underlying69 h
  rw [cells_version] at hl
  obtain ⟨v0, v1, v2, v3, rfl⟩ := len_four hl
  obtain ⟨y0, y1, y2, y3, rfl⟩ := len_four hlen
  have g0 := hf 0 _ rfl
  have g1 := hf 1 _ rfl
  have g2 := hf 2 _ rfl
  have g3 := hf 3 _ rfl
  have g0' : DataW.trod enc Tryz.prog w 0 (fun _ => true) held n 3 [v0] = some y0 := by rw [show some y0 = [y0, y1, y2, y3][0]? from rfl, ← g0]; congr 1
  have g1' : DataW.trod enc Tryz.prog w 0 (fun _ => true) held n 3 [v1] = some y1 := by rw [show some y1 = [y0, y1, y2, y3][1]? from rfl, ← g1]; congr 1
  have g2' : DataW.trod enc Tryz.prog w 0 (fun _ => true) held n 3 [v2] = some y2 := by rw [show some y2 = [y0, y1, y2, y3][2]? from rfl, ← g2]; congr 1
  have g3' : DataW.trod enc Tryz.prog w 0 (fun _ => true) held n 9 [v3] = some y3 := by rw [show some y3 = [y0, y1, y2, y3][3]? from rfl, ← g3]; congr 1
  obtain ⟨a, ha, _, wa⟩ := DataW.trod_int Tryz.underlying3 g0'
  obtain ⟨b, hb, _, wb⟩ := DataW.trod_int Tryz.underlying3 g1'
  obtain ⟨c, hc, _, wc⟩ := DataW.trod_int Tryz.underlying3 g2'
  obtain ⟨s, hs, _, ws⟩ := DataW.trod_string Tryz.underlying9 g3'
  injection ha with ha
  injection hb with hb
  injection hc with hc
  injection hs with hs
  exact ⟨a, b, c, s, by rw [ha, hb, hc, hs], ws⟩
set_option maxRecDepth 20000 in
theorem open_comp {fuel : Nat} {cs : List Value} {x : DataW H × List MemPlace} (h : DataW.trod enc Tryz.prog w 0 (fun _ => true) held fuel 73 cs = some x) :
    ∃ q : CV, cs = [.int .i64 q.op, .int .i64 q.a, .int .i64 q.b, .int .i64 q.c, .string q.s] ∧ q.s.size ≤ maxLen := by
  obtain ⟨xs, n, _, _, hl, hlen, hf⟩ := DataW.trod_struct Tryz.underlying73 h
  rw [cells_comp] at hl
  obtain ⟨v0, v1, v2, v3, v4, rfl⟩ := len_5 hl
  obtain ⟨y0, y1, rfl⟩ := len_2 hlen
  have g0 := hf 0 _ rfl
  have g1 := hf 1 _ rfl
  have g0' : DataW.trod enc Tryz.prog w 0 (fun _ => true) held n 3 [v0] = some y0 := by rw [show some y0 = [y0, y1][0]? from rfl, ← g0]; congr 1
  have g1' : DataW.trod enc Tryz.prog w 0 (fun _ => true) held n 69 [v1, v2, v3, v4] = some y1 := by rw [show some y1 = [y0, y1][1]? from rfl, ← g1]; congr 1
  obtain ⟨o, ho, _, wo⟩ := DataW.trod_int Tryz.underlying3 g0'
  obtain ⟨a, b, c, s, he, ws⟩ := open_ver g1'
  injection ho with ho
  injection he with e1 he
  injection he with e2 he
  injection he with e3 he
  injection he with e4 he
  exact ⟨⟨o, a, b, c, s⟩, by rw [ho, e1, e2, e3, e4], ws⟩
theorem open_comps {fuel : Nat} {c1 : Value} {x : DataW H × List MemPlace} (h : DataW.trod enc Tryz.prog w 0 (fun _ => true) held fuel 70 [c1] = some x) :
    ∃ (A : Option Addr) (m c : Nat) (l : List CV), c1 = .slice A m c ∧ RdC w w.heap.size A m l := by
  rcases open_slice Tryz.underlying70 h with ⟨h0, _⟩ | ⟨a, len, cap, m, n, D, Pl, h0, hb, hl, hm, hmm, _, hx⟩
  · simp at h0
    exact ⟨none, 0, 0, [], h0, rfl, fun j hj => absurd hj (by omega)⟩
  · simp at h0
    have hlm : len ≤ m := by rw [hmm]; split <;> omega
    have each : ∀ i, i < len → ∃ q : CV, w.cell? (a.add (i * 5)) = some (.int .i64 q.op) ∧ w.cell? (a.add (i * 5 + 1)) = some (.int .i64 q.a) ∧ w.cell? (a.add (i * 5 + 2)) = some (.int .i64 q.b) ∧ w.cell? (a.add (i * 5 + 3)) = some (.int .i64 q.c) ∧ w.cell? (a.add (i * 5 + 4)) = some (.string q.s) := by
      intro i hi
      obtain ⟨cs', h1, h2⟩ := hx i (by omega)
      rw [cells_comp] at h1
      obtain ⟨_, hlen, hcell⟩ := World.cells?_some h1
      obtain ⟨q, rfl, _⟩ := open_comp h2
      have e0 := hcell 0 (by omega)
      have e1 := hcell 1 (by omega)
      have e2 := hcell 2 (by omega)
      have e3 := hcell 3 (by omega)
      have e4 := hcell 4 (by omega)
      rw [add_addR] at e0 e1 e2 e3 e4
      exact ⟨q, by simpa using e0, by simpa using e1, by simpa using e2, by simpa using e3, by simpa using e4⟩
    obtain ⟨q, hq⟩ := choose_lt each
    refine ⟨some a, len, cap, (List.range len).map q, h0, by simp, fun j hj => ?_⟩
    obtain ⟨k0, k1, k2, k3, k4⟩ := hq j hj
    have z0 := (hq 0 (by omega)).1
    obtain ⟨b, off, spot⟩ := a
    have hspot : spot = none := by simpa [Addr.add] using World.cell?_spot z0
    subst hspot
    have hbl : b < w.heap.size := by
      have h := block_lt_of_cell k0
      unfold Addr.add at h
      split at h <;> simpa using h
    have e : ∀ k, (Addr.add ⟨b, off, none⟩ k) = ⟨b, off + k, none⟩ := by
      intro k
      unfold Addr.add
      by_cases h0 : k = 0 <;> simp [h0]
    rw [e] at k0 k1 k2 k3 k4
    have hea : cvAt ((List.range len).map q) j = q j := by simp [cvAt, List.getD, hj]
    refine ⟨b, off, rfl, hbl, ?_⟩
    rw [hea]
    exact ⟨k0, by rw [Nat.add_assoc]; exact k1, by rw [Nat.add_assoc]; exact k2, by rw [Nat.add_assoc]; exact k3, by rw [Nat.add_assoc]; exact k4⟩
theorem open_lists {fuel : Nat} {c1 : Value} {x : DataW H × List MemPlace} (h : DataW.trod enc Tryz.prog w 0 (fun _ => true) held fuel 22 [c1] = some x) :
    ∃ (A : Option Addr) (m c : Nat) (r : List (List CV)), c1 = .slice A m c ∧ RdR w w.heap.size A m r := by
  rcases open_slice Tryz.underlying22 h with ⟨h0, _⟩ | ⟨a, len, cap, m, n, D, Pl, h0, hb, hl, hm, hmm, _, hx⟩
  · simp at h0
    exact ⟨none, 0, 0, [], h0, rfl, fun j hj => absurd hj (by omega)⟩
  · simp at h0
    have hlm : len ≤ m := by rw [hmm]; split <;> omega
    have each : ∀ i, i < len → ∃ q : Option Addr × Nat × Nat × List CV, w.cell? (a.add i) = some (.slice q.1 q.2.1 q.2.2.1) ∧ RdC w w.heap.size q.1 q.2.1 q.2.2.2 := by
      intro i hi
      obtain ⟨cs', h1, h2⟩ := hx i (by omega)
      rw [cells_list] at h1
      obtain ⟨_, hlen, hcell⟩ := World.cells?_some h1
      obtain ⟨c0, rfl⟩ := len_1 hlen
      obtain ⟨Aj, nj, cj, l, rfl, hl'⟩ := open_comps h2
      have e0 := hcell 0 (by omega)
      rw [add_addR] at e0
      exact ⟨(Aj, nj, cj, l), by simpa using e0, hl'⟩
    obtain ⟨q, hq⟩ := choose_lt each
    refine ⟨some a, len, cap, (List.range len).map (fun j => (q j).2.2.2), h0, by simp, fun j hj => ?_⟩
    obtain ⟨k0, kr⟩ := hq j hj
    have z0 := (hq 0 (by omega)).1
    obtain ⟨b, off, spot⟩ := a
    have hspot : spot = none := by simpa [Addr.add] using World.cell?_spot z0
    subst hspot
    have hbl : b < w.heap.size := by
      have h := block_lt_of_cell k0
      unfold Addr.add at h
      split at h <;> simpa using h
    have e : ∀ k, (Addr.add ⟨b, off, none⟩ k) = ⟨b, off + k, none⟩ := by
      intro k
      unfold Addr.add
      by_cases h0 : k = 0 <;> simp [h0]
    rw [e] at k0
    have hea : lsAt ((List.range len).map (fun j => (q j).2.2.2)) j = (q j).2.2.2 := by simp [lsAt, List.getD, hj]
    refine ⟨b, off, (q j).1, (q j).2.1, (q j).2.2.1, rfl, hbl, k0, ?_⟩
    rw [hea]; exact kr
set_option maxRecDepth 20000 in
theorem open_range {r : Reach} {base : Nat} {v : Value} {d : DataW H} {ps : List MemPlace} (hval : Value.okWide Tryz.prog w r base 24 v) (h : DataW.Trod enc Tryz.prog w 0 (fun _ => true) held 24 v d ps) :
    ∃ (A : Option Addr) (m c : Nat) (g : List (List CV)), v = .agg #[.slice A m c] ∧ RdR w w.heap.size A m g := by
  obtain ⟨cs, rfl, hsz⟩ := okWide_struct Tryz.underlying24 hval
  obtain ⟨fuel, hf0⟩ := h
  rw [cells_range] at hsz
  obtain ⟨xs, n, _, _, hl, hlen, hf⟩ := DataW.trod_struct Tryz.underlying24 hf0
  obtain ⟨l, rfl⟩ : ∃ l : List Value, cs = l.toArray := ⟨cs.toList, by simp⟩
  have hl2 : l.length = 1 := by simpa using hsz
  obtain ⟨v0, rfl⟩ := len_1 hl2
  obtain ⟨y0, rfl⟩ := len_1 hlen
  have g0 := hf 0 _ rfl
  have g0' : DataW.trod enc Tryz.prog w 0 (fun _ => true) held n 22 [v0] = some y0 := by rw [show some y0 = [y0][0]? from rfl, ← g0]; congr 1
  obtain ⟨A, m, c, g, rfl, hr⟩ := open_lists g0'
  exact ⟨A, m, c, g, rfl, hr⟩
end
end Go.Proofs.YtpnbbbhbbnemlaaGreatDoor
