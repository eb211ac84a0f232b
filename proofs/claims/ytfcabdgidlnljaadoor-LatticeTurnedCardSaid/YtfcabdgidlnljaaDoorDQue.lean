/-
  WORDS FOR MEMORY: a list of numbers that the call made, of which the first ones were cut off: it may begin within its row.
-/
import Derived.Test.YtfcabdgidlnljaaDoorDReachM
import Derived.ArgAppend
namespace Go.Proofs.YtfcabdgidlnljaaDoor
open Go.RowKit
open DiP
set_option linter.unusedVariables false

/-- The slice value v, cut out of a row of the call's own (its block is numbered from base on), reads as l. -/
def OwnQ (w : World) (base : Nat) (v : Value) (l : List Int) : Prop :=
  ∃ g off c cur, v = .slice (some ⟨g, off, none⟩) l.length c ∧ base ≤ g ∧ w.heap[g]? = some (.cells cur 3 (0, 0)) ∧ l.length ≤ c ∧ c ≤ maxLen ∧ off + c ≤ cur.size ∧ ∀ j, j < l.length → cur[off + j]? = some (.int .i64 (ix l j))

section
variable {w w' : World} {base g off c : Nat} {v : Value} {l : List Int}
theorem cell_of_heap {cur : Array Value} {T : TypeId} {i : Nat} {x : Value} (h : w.heap[g]? = some (.cells cur T (0, 0))) (hc : cur[i]? = some x) : w.cell? ⟨g, i, none⟩ = some x := by
  simp [World.cell?, h, hc]
theorem free_of_heap {cur : Array Value} {T : TypeId} {i : Nat} (h : w.heap[g]? = some (.cells cur T (0, 0))) : w.frozen? ⟨g, i, none⟩ = false := by
  simp [World.frozen?, h]
theorem heap_lt {o : Obj} (h : w.heap[g]? = some o) : g < w.heap.size := by
  rcases Nat.lt_or_ge g w.heap.size with h' | h'
  · exact h'
  · rw [Array.getElem?_eq_none h'] at h; cases h
theorem OwnQ.of_own {n : Nat} (h : Own w base v n l) (hn : 0 < n) : OwnQ w base v l := by
  have hl := h.len
  rcases h.2 with ⟨_, h0⟩ | ⟨g, cap, cur, rfl, hb, hg, hnc, hcm, hcs, ht⟩
  · omega
  · refine ⟨g, 0, cap, cur, by rw [hl], hb, hg, by omega, hcm, by omega, fun j hj => ?_⟩
    have h1 : (cur.toList.take (n * 1))[j]? = some (.int .i64 (ix l j)) := by rw [ht]; exact ix_map l j hj
    rw [List.getElem?_take] at h1
    split at h1
    · rw [Nat.zero_add, ← Array.getElem?_toList]; exact h1
    · cases h1
theorem OwnQ.alloc (h : OwnQ w base v l) (o : Obj) : OwnQ (w.alloc o) base v l := by
  obtain ⟨g, off, c, cur, hv, hb, hg, r⟩ := h
  refine ⟨g, off, c, cur, hv, hb, ?_, r⟩
  have := heap_lt hg
  rw [← hg]
  first | exact heap_alloc_old w o this | exact Go.heap_alloc_old w o g this
theorem OwnQ.drewN (h : OwnQ w base v l) (k : Nat) : OwnQ (w.drewN k) base v l := h
theorem OwnQ.far (h : OwnQ w base v l) {p : Addr} (hp : p.block < base) (u : Value) : OwnQ (w.setCell p u) base v l := by
  obtain ⟨g, off, c, cur, hv, hb, hg, r⟩ := h
  refine ⟨g, off, c, cur, hv, hb, ?_, r⟩
  rw [heap_setCell_other w p g u (by omega)]
  exact hg
theorem OwnQ.below {B : Nat} (h : OwnQ w base v l) (hb : Below B w w') (hg : ∀ g, v.ownBlock = some g → g < B) : OwnQ w' base v l := by
  obtain ⟨g, off, c, cur, rfl, hbb, hh, r⟩ := h
  refine ⟨g, off, c, cur, rfl, hbb, ?_, r⟩
  rw [hb.block g (hg g rfl)]; exact hh
theorem OwnQ.pop {x : Int} (h : OwnQ w base (.slice (some ⟨g, off, none⟩) (l.length + 1) c) (x :: l)) : OwnQ w base (.slice (some ⟨g, if c = 1 then off else off + 1, none⟩) l.length (c - 1)) l := by
  obtain ⟨g', off', c', cur, hv, hb, hg, hnc, hcm, hs, hc⟩ := h
  injection hv with e1 e2 e3
  injection e1 with e1
  injection e1 with e1 e4
  subst e1 e3 e4
  simp only [List.length_cons] at hnc hc
  by_cases h1 : c = 1
  · have hl : l = [] := List.eq_nil_of_length_eq_zero (by omega)
    subst hl
    rw [if_pos h1]
    exact ⟨g, off, c - 1, cur, rfl, hb, hg, by simp, by omega, by omega, fun j hj => absurd hj (Nat.not_lt_zero _)⟩
  · rw [if_neg h1]
    refine ⟨g, off + 1, c - 1, cur, rfl, hb, hg, by omega, by omega, by omega, fun j hj => ?_⟩
    have := hc (j + 1) (by omega)
    rw [show off + 1 + j = off + (j + 1) by omega, this]
    rfl
theorem ix_snoc_lt {u : Int} {j : Nat} (h : j < l.length) : ix (l ++ [u]) j = ix l j := ix_append_lt h
end

theorem setCells_one (w : World) (b o : Nat) (u : Value) : w.setCells b o [u] = w.setCell ⟨b, o, none⟩ u := rfl

/-- 'append(q, x)'. -/
theorem wpl_appQ {w : World} {ops : Array Oper} {rest : List Oper} {o : Oper} {a : Act} {Q : Exit → Act → World → Prop} (hgd : o.guard = none) (s x : Operand)
    (ho : o.op = .call { callee := .builtin .append, args := #[s, x], argTypes := #[38, 38] })
    (base : Nat) (v : Value) (l : List Int) (hs : a.eval s = v) (hown : OwnQ w base v l)
    (b : Nat) (u : Int) (hx : a.eval x = .slice (some ⟨b, 0, none⟩) 1 1) (hc : w.cell? ⟨b, 0, none⟩ = some (.int .i64 u)) (hn : l.length ≤ 1099511627776) (hbase : base ≤ w.heap.size)
    (h : ∀ v' w', OwnQ w' base v' (l ++ [u]) → w.grownBy w' v.ownBlock → wpList Tryd.prog ops Q rest (a.put o.dst v') w') :
    wpList Tryd.prog ops Q (o :: rest) a w := by
  obtain ⟨i0, hi, hz0, hz1, hz2⟩ := info_parts infoInt
  obtain ⟨g, off, c, cur, rfl, hb, hg, hnc, hcm, hsz, hcc⟩ := hown
  refine wpList_append_arg w hgd s x 38 ho 3 i0 (.int .i64 0) 1 8 Tryd.underlying38 hi hz0 hz1 hz2 rfl (by decide) g off l.length c (l.map (Value.int .i64)) hs (by simp) ?_ ⟨b, 0, none⟩ 1 1 [.int .i64 u] hx rfl ?_ ?_ ?_ (by unfold maxLen; omega) (by omega) ?_ ?_
  · intro j z hj
    have hjl : j < l.length := by
      rcases Nat.lt_or_ge j l.length with h' | h'
      · exact h'
      · rw [List.getElem?_eq_none (by simpa using h')] at hj; cases hj
    rw [ix_map l j hjl] at hj
    cases hj
    exact cell_of_heap hg (hcc j hjl)
  · intro j z hj
    match j, hj with
    | 0, hj => simp at hj; subst hj; simpa [Addr.add] using hc
  · intro z hz; simp at hz; subst hz; rfl
  · intro hr j hj
    have hj0 : j = 0 := by simpa using hj
    subst hj0
    refine ⟨?_, free_of_heap hg⟩
    have hlt : off + l.length * 1 + 0 < cur.size := by omega
    rw [cell_of_heap (x := cur[off + l.length * 1 + 0]) hg (Array.getElem?_eq_getElem hlt)]
    rfl
  · intro hr
    rw [setCells_one]
    refine h _ _ ⟨g, off, c, cur.setIfInBounds (off + l.length * 1) (.int .i64 u), by simp, hb, heap_setCell_same w g _ cur 3 _ hg, by simpa using hr, hcm, by simpa using hsz, fun j hj => ?_⟩ ⟨rfl, rfl, rfl, by simp, fun k _ hk => heap_setCell_other w ⟨g, off + l.length * 1, none⟩ k _ (fun e => hk (by simp [e, Value.ownBlock]))⟩
    simp only [List.length_append, List.length_singleton] at hj
    by_cases e : j = l.length
    · subst e
      rw [ix_snoc, Nat.mul_one, Array.getElem?_setIfInBounds, if_pos rfl, if_pos (by omega)]
    · rw [ix_snoc_lt (by omega), Nat.mul_one, Array.getElem?_setIfInBounds, if_neg (by omega)]
      exact hcc j (by omega)
  · intro hr v' w' hown' hgr
    have ho' : Own w' w.heap.size v' (l.length + 1) (l ++ [u]) := by unfold Own; rw [List.map_append]; exact hown'
    have := OwnQ.of_own (ho'.less hbase) (by omega)
    exact h v' w' this ⟨hgr.os, hgr.tape, hgr.output, hgr.size, fun k hk _ => hgr.block k hk nofun⟩
end Go.Proofs.YtfcabdgidlnljaaDoor
