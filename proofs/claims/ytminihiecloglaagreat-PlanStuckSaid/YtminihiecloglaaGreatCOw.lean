/-
 ROWS THAT A CALL MADE ITSELF: each block bears its element's type.
-/
import Derived.Test.YtminihiecloglaaGreatCMe
set_option linter.unusedVariables false
set_option linter.unusedSimpArgs false
namespace Go.Proofs.YtminihiecloglaaGreat
open Go.RowKit
open SemP
set_option maxRecDepth 10000
def OwI {α : Type} [Inhabited α] (E : TypeId) (z : Nat) (I : ItT α) : ItT (List α) := fun w M vs l =>
 ∃ v, vs = [v] ∧ (∀ g, v.ownBlock = some g → ¬ M g) ∧ ∃ vals, w.ownsRow 0 E z v l.length vals ∧ ∀ j, j < l.length → ∃ us, us.length = z ∧ (∀ i x, us[i]? = some x → vals[j * z + i]? = some x) ∧ I w M us (l.getD j default)
theorem own_any {w : World} {base : Nat} {E : TypeId} {z n : Nat} {v : Value} {vals : List Value} (h : w.ownsRow base E z v n vals) : w.ownsRow 0 E z v n vals := by
 refine ⟨h.1, ?_⟩
 rcases h.2 with h | ⟨g, cap, cur, hv, _, r⟩
 ·exact .inl h
 ·exact .inr ⟨g, cap, cur, hv, Nat.zero_le _, r⟩
theorem own_frm {w w' : World} {base : Nat} {E : TypeId} {z n : Nat} {v : Value} {vals : List Value} {M : Nat → Prop} (h : w.ownsRow base E z v n vals) (hf : FrM w w' M) (hv : ∀ g, v.ownBlock = some g → ¬ M g) : w'.ownsRow base E z v n vals := by
 refine ⟨h.1, ?_⟩
 rcases h.2 with h | ⟨g, cap, cur, e, hb, hh, r⟩
 ·exact .inl h
 ·subst e
  exact .inr ⟨g, cap, cur, rfl, hb, (hf.block g (heapE_lt hh) (hv g rfl)).trans hh, r⟩
theorem own_lt {w : World} {base : Nat} {E : TypeId} {z n : Nat} {v : Value} {vals : List Value} (h : w.ownsRow base E z v n vals) : ∀ g, v.ownBlock = some g → g < w.heap.size := by
 intro g hg
 rcases h.2 with ⟨rfl, _⟩ | ⟨g', cap, cur, rfl, _, hh, _⟩
 ·cases hg
 ·have : g' = g := by simpa [Value.ownBlock] using hg
  subst this; exact heapE_lt hh
theorem OwI.turns {α : Type} [Inhabited α] {E : TypeId} {z : Nat} {I : ItT α} (hI : Turns I) : Turns (OwI E z I) := ⟨fun {w w' M M' vs l} ⟨v, e, hv, vals, ho, hj⟩ hf hM => ⟨v, e, fun g hg hm => (hM g hm).elim (hv g hg) (fun h => by have := own_lt ho g hg; omega), vals, own_frm ho hf hv, fun j hl => by
 obtain ⟨us, h1, h2, h3⟩ := hj j hl
 exact ⟨us, h1, h2, hI.go h3 hf hM⟩⟩⟩
section
variable {α : Type} [Inhabited α] {E : TypeId} {z base : Nat} {w w' : World}
theorem row_cell {g n c : Nat} {vals : List Value} (ho : w.ownsRow base E z (.slice (some ⟨g, 0, none⟩) n c) n vals) {q : Nat} {x : Value} (h : vals[q]? = some x) : w.cell? ⟨g, q, none⟩ = some x := by
 have r := World.ownsRow.cells ho (g := g) rfl _ _ h
 have ha : (Addr.add ⟨g, 0, none⟩ q) = ⟨g, q, none⟩ := by
  unfold Addr.add
  by_cases h0 : q = 0
  ·rw [if_pos h0, h0]
  ·rw [if_neg h0]; simp
 rw [ha] at r; exact r
end
section
variable {w : World} {g q : Nat} {u : Value} {T : TypeId} {cur : Array Value}
theorem own_miss {base z n : Nat} {E : TypeId} {v : Value} {vals : List Value} (hg : w.heap[g]? = some (.cells cur T (0, 0))) (hE : E ≠ T) (h : w.ownsRow base E z v n vals) : (w.setCell ⟨g, q, none⟩ u).ownsRow base E z v n vals := by
 refine ⟨h.1, ?_⟩
 rcases h.2 with h | ⟨g', cap, cur', e, hb, hh, r⟩
 ·exact .inl h
 ·have hne : g' ≠ g := by
   intro e2; subst e2
   rw [hg] at hh; injection hh with hh; injection hh with _ h2
   exact hE h2.symm
  exact .inr ⟨g', cap, cur', e, hb, (Below.heap_setCell w _ _ g' (fun e3 => hne e3)).trans hh, r⟩
theorem OwI.miss {α : Type} [Inhabited α] {E : TypeId} {z : Nat} {I : ItT α} {M : Nat → Prop} {vs : List Value} {l : List α} (hg : w.heap[g]? = some (.cells cur T (0, 0))) (hE : E ≠ T) (hI : ∀ {us x}, I w M us x → I (w.setCell ⟨g, q, none⟩ u) M us x) (h : OwI E z I w M vs l) : OwI E z I (w.setCell ⟨g, q, none⟩ u) M vs l := by
 obtain ⟨v, e, hv, vals, ho, hj⟩ := h
 refine ⟨v, e, hv, vals, own_miss hg hE ho, fun j hl => ?_⟩
 obtain ⟨us, h1, h2, h3⟩ := hj j hl
 exact ⟨us, h1, h2, hI h3⟩
end
theorem OwI.sl {α : Type} [Inhabited α] {E : TypeId} {z : Nat} {I I0 : ItT α} {w : World} {M : Nat → Prop} {vs : List Value} {l : List α} (hI : ∀ {us x}, I w M us x → I0 w M us x) (h : OwI E z I w M vs l) : SlI z I0 w M vs l := by
 obtain ⟨v, rfl, hv, vals, ho, hj⟩ := h
 rcases ho.2 with ⟨rfl, h0⟩ | ⟨g, cap, cur, rfl, _, hh, hnc, hcm, _⟩
 ·exact ⟨none, 0, 0, rfl, .inl ⟨rfl, rfl, rfl⟩, h0, fun j hj => absurd hj (by omega)⟩
 ·refine ⟨some ⟨g, 0, none⟩, l.length, cap, rfl, .inr ⟨_, rfl, hnc, by unfold maxLen at hcm; omega⟩, rfl, fun j hl => ?_⟩
  obtain ⟨us, h1, h2, h3⟩ := hj j hl
  refine ⟨g, 0, us, rfl, heapE_lt hh, hv g rfl, h1, fun i x hx => ?_, hI h3⟩
  have := row_cell ho (h2 i x hx)
  rw [show 0 + j * z + i = j * z + i by omega]; exact this
structure Off (T : TypeId) (w w' : World) : Prop where
 size : w.heap.size ≤ w'.heap.size
 block : ∀ (b : Nat) (cur : Array Value) (E : TypeId), w.heap[b]? = some (.cells cur E (0, 0)) → E ≠ T → w'.heap[b]? = w.heap[b]?
theorem Off.of_grown {T : TypeId} {w w' : World} {row : Option Nat} (h : w.grownBy w' row) (hr : ∀ g, row = some g → ∃ cur, w.heap[g]? = some (.cells cur T (0, 0))) : Off T w w' := ⟨h.size, fun b cur E hb hE => h.block b (heapE_lt hb) (fun e => by
 obtain ⟨c2, h2⟩ := hr b e.symm
 rw [hb] at h2
 injection h2 with h2
 injection h2 with _ h3
 exact hE h3)⟩
theorem Off.of_below {T : TypeId} {w w' : World} (h : Below w.heap.size w w') : Off T w w' := ⟨h.size, fun b cur E hb _ => h.block b (heapE_lt hb)⟩
structure Typ {α : Type} (T : TypeId) (I : ItT α) : Prop where
 go : ∀ {w w' : World} {M M' : Nat → Prop} {vs : List Value} {x : α}, I w M vs x → Off T w w' → (∀ b, M' b → M b ∨ w.heap.size ≤ b) → I w' M' vs x
theorem own_off {w w' : World} {base : Nat} {E T : TypeId} {z n : Nat} {v : Value} {vals : List Value} (hE : E ≠ T) (h : w.ownsRow base E z v n vals) (hf : Off T w w') : w'.ownsRow base E z v n vals := by
 refine ⟨h.1, ?_⟩
 rcases h.2 with h | ⟨g, cap, cur, e, hb, hh, r⟩
 ·exact .inl h
 ·exact .inr ⟨g, cap, cur, e, hb, (hf.block g _ E hh hE).trans hh, r⟩
theorem OwnJ.off {α : Type} [Inhabited α] {E T : TypeId} {z : Nat} {I : ItT α} {w w' : World} {base : Nat} {v : Value} {l : List α} (hE : E ≠ T) (hI : Typ T I) (h : OwnJ E z I w base v l) (hf : Off T w w') : OwnJ E z I w' base v l := by
 obtain ⟨vals, ho, hj⟩ := h
 exact ⟨vals, own_off hE ho hf, fun j hl => by
  obtain ⟨us, h1, h2, h3⟩ := hj j hl
  exact ⟨us, h1, h2, hI.go h3 hf (fun b h => .inl h)⟩⟩
theorem OwnJ.bears {α : Type} [Inhabited α] {E : TypeId} {z : Nat} {I : ItT α} {w : World} {base : Nat} {v : Value} {l : List α} (h : OwnJ E z I w base v l) : ∀ g, v.ownBlock = some g → ∃ cur, w.heap[g]? = some (.cells cur E (0, 0)) := by
 obtain ⟨vals, h, _⟩ := h
 intro g hg
 rcases h.2 with ⟨rfl, _⟩ | ⟨g', cap, cur, rfl, _, hh, _⟩
 ·cases hg
 ·have : g' = g := by simpa [Value.ownBlock] using hg
  subst this
  exact ⟨_, hh⟩
theorem OwnJ.less {α : Type} [Inhabited α] {E : TypeId} {z : Nat} {I : ItT α} (hI : Turns I) {w : World} {base base' : Nat} {v : Value} {l : List α} (h : OwnJ E z I w base v l) (hb : base' ≤ base) : OwnJ E z I w base' v l := by
 obtain ⟨vals, ho, hj⟩ := h
 refine ⟨vals, ⟨ho.1, ?_⟩, fun j hl => ?_⟩
 ·rcases ho.2 with h | ⟨g, cap, cur, hv, hbg, r⟩
  ·exact .inl h
  ·exact .inr ⟨g, cap, cur, hv, Nat.le_trans hb hbg, r⟩
 ·obtain ⟨us, h1, h2, h3⟩ := hj j hl
  exact ⟨us, h1, h2, hI.go h3 (FrM.refl w _) (fun b hb2 => .inl (hb2.elim .inl (fun h => .inr (Nat.lt_of_lt_of_le h hb))))⟩
theorem opJ_app {α : Type} [Inhabited α] {S E : TypeId} {z bytes : Nat} {zero : Value} {I : ItT α} (hI : Turns I) (hu : Tryz.prog.underlying S = some (.slice E)) (hinfo : (Tryz.prog.info? E).map (fun i => (i.zero, i.size, i.bytes)) = some (some zero, z, bytes)) (hzs : zero.cells.size = z) (hz0 : 0 < z) (hby : bytes ≤ 100000)
  {w : World} {o : Oper} {a : Act} {K : Act → World → Prop} {Q : Exit → Act → World → Prop} (s x : Operand)
  (ho : o.op = .call { callee := .builtin .append, args := #[s, x], argTypes := #[S, S] })
  (base : Nat) (v : Value) (l : List α) (hs : a.eval s = v) (hown : OwnJ E z I w base v l)
  (b : Nat) (vs : List Value) (y : α) (hx : a.eval x = .slice (some ⟨b, 0, none⟩) 1 1) (hvz : vs.length = z) (hc : ∀ i u, vs[i]? = some u → w.cell? ⟨b, i, none⟩ = some u) (h1 : ∀ u ∈ vs, u.oneCell' = true) (hy : I w (Ap base v) vs y) (hn : l.length ≤ 1000000000) (hbase : base ≤ w.heap.size)
  (h : ∀ g c w', OwnJ E z I w' base (.slice (some ⟨g, 0, none⟩) (l.length + 1) c) (l ++ [y]) → w.grownBy w' v.ownBlock → K (a.put o.dst (.slice (some ⟨g, 0, none⟩) (l.length + 1) c)) w') :
  o.wp Tryz.prog a w K Q := by
 obtain ⟨i0, hi, hz0', hz1, hz2⟩ := info_parts hinfo
 obtain ⟨vals, hrow, hj⟩ := hown
 obtain ⟨v', w', hr, hown', hg, _, hat⟩ := run_append_own_at (P := Tryz.prog) w base S o.type E i0 zero z bytes hu hi hz0' hz1 hz2 hzs hz0 v l.length _ hrow ⟨b, 0, none⟩ 1 1 vs (by omega) (by
  intro j u hju
  have ha : (Addr.add ⟨b, 0, none⟩ j) = ⟨b, j, none⟩ := by
   unfold Addr.add
   by_cases h0 : j = 0 <;> simp [h0]
  rw [ha]; exact hc j u hju) h1 (by unfold maxLen; omega) (by have := Nat.mul_le_mul (show l.length + 1 ≤ 1000000001 by omega) hby; omega) hbase
 unfold Oper.wp execOp
 simp only [ho, resolve, invoke, builtin, Sem.run_bind, Sem.run_pure, Result.andThen_ok, List.map_toArray, List.map_cons, List.map_nil, hs, hx, hr]
 have ho' := OwnJ.push hI hrow hj hvz hy hbase hown' hg hat
 obtain ⟨g, c, hv, _, _⟩ := World.ownsRow.form hown' (by omega)
 subst hv
 exact h g c w' ho' hg
end Go.Proofs.YtminihiecloglaaGreat
