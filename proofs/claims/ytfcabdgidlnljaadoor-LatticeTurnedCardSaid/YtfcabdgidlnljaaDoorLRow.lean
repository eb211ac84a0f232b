/-
  WORDS FOR MEMORY: a row of sets that the call owns.
-/
import Derived.Test.YtfcabdgidlnljaaDoorDReachM
namespace Go.Proofs.YtfcabdgidlnljaaDoor
open Go.RowKit
open DiP
set_option linter.unusedVariables false
set_option linter.unusedSimpArgs false
def uvals (l : List Nat) : List Value := l.map fun (s : Nat) => Value.int .u64 (s : Int)
/-- The slice value v is the call's own (its block is numbered from base on), and reads as l. -/
def OwnS (w : World) (base : Nat) (v : Value) (l : List Nat) : Prop := w.ownsRow base 35 1 v l.length (uvals l)
theorem OwnS.shape {w : World} {base : Nat} {v : Value} {l : List Nat} (h : OwnS w base v l) : ∃ A c, v = .slice A l.length c := by
  rcases h.2 with ⟨rfl, h0⟩ | ⟨g, cap, cur, rfl, _⟩
  · exact ⟨none, 0, by rw [h0]⟩
  · exact ⟨_, cap, rfl⟩
theorem OwnS.len {w : World} {base : Nat} {v : Value} {l : List Nat} {A : Option Addr} {m c : Nat} (h : OwnS w base v l) (e : v = .slice A m c) : m = l.length := by
  obtain ⟨A', c', e'⟩ := h.shape
  rw [e] at e'
  injection e'
/-- A row's cells. -/
theorem OwnS.cells {w : World} {base : Nat} {v : Value} {l : List Nat} (h : OwnS w base v l) (h0 : 0 < l.length) : ∃ g c, v = .slice (some ⟨g, 0, none⟩) l.length c ∧ base ≤ g ∧ g < w.heap.size ∧ ∀ j, j < l.length → w.cell? ⟨g, j, none⟩ = some (.int .u64 ((l.getD j 0 : Nat) : Int)) ∧ w.frozen? ⟨g, j, none⟩ = false := by
  rcases h.2 with ⟨rfl, h1⟩ | ⟨g, cap, cur, rfl, hb, hg, hnc, hcm, hcs, ht⟩
  · omega
  · refine ⟨g, cap, rfl, hb, (Array.getElem?_eq_some_iff.1 hg).1, fun j hj => ⟨?_, by simp [World.frozen?, hg]⟩⟩
    have h1 : (cur.toList.take (l.length * 1))[j]? = some (.int .u64 ((l.getD j 0 : Nat) : Int)) := by
      rw [ht]
      unfold uvals
      simp [List.getD, hj]
    rw [List.getElem?_take_of_lt (by omega)] at h1
    have h2 : cur[j]? = some (.int .u64 ((l.getD j 0 : Nat) : Int)) := by rw [← Array.getElem?_toList]; exact h1
    simp [World.cell?, hg, h2]
theorem OwnS.kept {w w' : World} {base : Nat} {v : Value} {l : List Nat} {row : Option Nat} (h : OwnS w base v l) (hg : w.grownBy w' row) (hr : ∀ k, row = some k → v.ownBlock ≠ some k) : OwnS w' base v l := by
  refine ⟨h.1, ?_⟩
  rcases h.2 with h' | ⟨g, cap, cur, hv, hb, hh, r⟩
  · exact .inl h'
  · refine .inr ⟨g, cap, cur, hv, hb, ?_, r⟩
    rw [hg.block g (Array.getElem?_eq_some_iff.1 hh).1 (fun e => hr g e.symm (by rw [hv]; rfl))]
    exact hh
theorem OwnS.block {w : World} {base : Nat} {v : Value} {l : List Nat} (h : OwnS w base v l) {g : Nat} (hg : v.ownBlock = some g) : base ≤ g ∧ ∃ cur, w.heap[g]? = some (.cells cur 35 (0, 0)) := by
  rcases h.2 with ⟨hv, _⟩ | ⟨g', cap, cur, hv, hb, hh, _⟩
  · rw [hv] at hg; cases hg
  · rw [hv] at hg
    have : g' = g := by simpa [Value.ownBlock] using hg
    subst this
    exact ⟨hb, cur, hh⟩
/-- 'append(s, x)' to a row of one's own: where the value appended lies in a block of one cell. -/
theorem wpl_appU {w : World} {ops : Array Oper} {rest : List Oper} {o : Oper} {a : Act} {Q : Exit → Act → World → Prop} (hgd : o.guard = none) (s x : Operand)
    (ho : o.op = .call { callee := .builtin .append, args := #[s, x], argTypes := #[29, 29] })
    (base : Nat) (v : Value) (l : List Nat) (hs : a.eval s = v) (hown : OwnS w base v l) (B : Nat) (u : Nat) (hx : a.eval x = .slice (some ⟨B, 0, none⟩) 1 1) (hc : w.cell? ⟨B, 0, none⟩ = some (.int .u64 (u : Int))) (hn : l.length ≤ 1000000) (hbase : base ≤ w.heap.size)
    (h : ∀ v' w', OwnS w' base v' (l ++ [u]) → w.grownBy w' v.ownBlock → wpList Tryd.prog ops Q rest (a.put o.dst v') w') :
    wpList Tryd.prog ops Q (o :: rest) a w := by
  obtain ⟨i0, hi, hz0, hz1, hz2⟩ := info_parts infoU
  refine wpList_append_own_at w hgd s x 29 ho base 35 i0 (.int .u64 0) 1 8 Tryd.underlying29 hi hz0 hz1 hz2 rfl (by decide) v l.length _ hs hown ⟨B, 0, none⟩ 1 1 [.int .u64 (u : Int)] hx (by simp) ?_ ?_ (by unfold maxLen; omega) (by omega) hbase ?_
  · intro j z hj
    match j, hj with
    | 0, hj => have e : some (Value.int .u64 (u : Int)) = some z := hj; injection e with e; subst e; exact hc
  · intro z hz
    simp only [List.mem_singleton] at hz
    subst hz
    rfl
  · intro v' w' hown' hg _ hat
    refine h v' w' ?_ hg
    unfold OwnS uvals
    rw [List.length_append, List.map_append]
    exact hown'
end Go.Proofs.YtfcabdgidlnljaaDoor
