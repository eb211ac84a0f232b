/-
  THE EDGE MORE of the statement DigraphEdges: 'append' of edges, as an operation of a region that draws.
-/
import Derived.Test.YtinphdphloddmaaDTurned
import Derived.Test.YtinphdphloddmaaInv
namespace Go.Proofs.Ytinphdphloddmaa
open Go.RowKit
open DiP
set_option linter.unusedVariables false
set_option maxRecDepth 10000

theorem add_off (b off j : Nat) : (Addr.add ⟨b, off, none⟩ j) = ⟨b, off + j, none⟩ := by
  unfold Addr.add; by_cases h0 : j = 0 <;> simp [h0]
theorem pcells_at {l : List (Nat × Nat)} {j : Nat} {u : Value} (h : (pcells l)[j]? = some u) : ∃ k, k < l.length ∧ ((j = k * 2 ∧ u = .int .i64 (fa l k : Int)) ∨ (j = k * 2 + 1 ∧ u = .int .i64 (fb l k : Int))) := by
  have hj : j < l.length * 2 := by
    obtain ⟨hlt, _⟩ := List.getElem?_eq_some_iff.1 h
    rw [pcells_len] at hlt; exact hlt
  have hk : j / 2 < l.length := by omega
  obtain ⟨c0, c1⟩ := pcells_get hk
  refine ⟨j / 2, hk, ?_⟩
  by_cases hz : j = j / 2 * 2
  · left
    rw [← hz, h] at c0
    injection c0 with c0
    exact ⟨hz, c0⟩
  · right
    have hz' : j = j / 2 * 2 + 1 := by omega
    rw [← hz', h] at c1
    injection c1 with c1
    exact ⟨hz', c1⟩
theorem pcells_one (l : List (Nat × Nat)) : ∀ u ∈ pcells l, u.oneCell' = true := by
  intro u hu
  obtain ⟨j, hj, he⟩ := List.getElem_of_mem hu
  obtain ⟨k, _, ⟨_, rfl⟩ | ⟨_, rfl⟩⟩ := pcells_at (l := l) (j := j) (u := u) (by rw [List.getElem?_eq_getElem hj, he])
  · rfl
  · rfl
/-- 'append(s, x...)', s the call's own: s grows by all the pairs of x. -/
theorem wp_appG {w : World} {o : Oper} {a : Act} {K : Act → World → Prop} {Q : Exit → Act → World → Prop} (s x : Operand)
    (ho : o.op = .call { callee := .builtin .append, args := #[s, x], argTypes := #[22, 22] })
    (base : Nat) (v : Value) (l : List (Nat × Nat)) (hs : a.eval s = v) (hown : OwnP w base v l)
    (B m c : Nat) (A : Option Addr) (g : List (Nat × Nat)) (hx : a.eval x = .slice A m c) (hrd : RdG w B A m g) (hlen : g.length = m) (hn : l.length + m ≤ 1099511627776) (hbase : base ≤ w.heap.size)
    (h : ∀ v' w', OwnP w' base v' (l ++ g) → w.grownBy w' v.ownBlock → (v'.ownBlock = v.ownBlock ∨ v'.ownBlock = some w.heap.size) → K (a.put o.dst v') w') : o.wp Try.prog a w K Q := by
  obtain ⟨i0, hi, hz0, hz1, hz2⟩ := info_parts infoPair
  have key : ∃ v' w', (Builtin.append_ #[22, 22] o.type #[v, .slice A m c]).run Try.prog w = .ok v' w' ∧ OwnP w' base v' (l ++ g) ∧ w.grownBy w' v.ownBlock ∧ (v'.ownBlock = v.ownBlock ∨ v'.ownBlock = some w.heap.size) := by
    cases A with
    | none =>
      have hm : m = 0 := by
        by_cases h0 : 0 < m
        · obtain ⟨b, off, e, _⟩ := hrd.at_ h0; cases e
        · omega
      subst hm
      have hg : g = [] := List.eq_nil_of_length_eq_zero hlen
      subst hg
      refine ⟨v, w, ?_, by rw [List.append_nil]; exact hown, ⟨rfl, rfl, rfl, Nat.le_refl _, fun _ _ _ => rfl⟩, Or.inl rfl⟩
      have ht := Try.underlying22
      rcases hown.2 with ⟨rfl, h0⟩ | ⟨g, cap, cur, rfl, _, _, hnc, _⟩
      · simp [Builtin.append_, run_underlying ht, sizeOf, typeInfo, hi, Builtin.lenOf, Builtin.firstCells]
      · simp [Builtin.append_, run_underlying ht, sizeOf, typeInfo, hi, Builtin.lenOf, Builtin.firstCells, hnc, storeCells]
    | some ad =>
      obtain ⟨v', w', hr, h2, h3, _, h5⟩ := run_append_own_at (P := Try.prog) w base 22 o.type 52 i0 (.agg #[.int .i64 0, .int .i64 0]) 2 16 Try.underlying22 hi hz0 hz1 hz2 rfl (by decide) v l.length _ hown ad m c (pcells g) (by rw [pcells_len, hlen]) (by
        intro j u hj
        obtain ⟨k, hk, hh⟩ := pcells_at hj
        obtain ⟨b, off, e, _, hca, hcb⟩ := hrd.at_ (show k < m by omega)
        injection e with e
        subst e
        rw [add_off]
        rcases hh with ⟨rfl, rfl⟩ | ⟨rfl, rfl⟩
        · exact hca
        · rw [← Nat.add_assoc]; exact hcb) (pcells_one g) (by unfold maxLen; omega) (by omega) hbase
      have h2' : OwnP w' base v' (l ++ g) := by
        have e1 : (l ++ g).length = l.length + m := by rw [List.length_append, hlen]
        show World.ownsRow w' base 52 2 v' (l ++ g).length (pcells (l ++ g))
        rw [e1, pcells_append]
        exact h2
      exact ⟨v', w', hr, h2', h3, h5⟩
  obtain ⟨v', w', hr, h2, h3, h5⟩ := key
  unfold Oper.wp execOp
  simp only [ho, resolve, invoke, builtin, Sem.run_bind, Sem.run_pure, Result.andThen_ok, List.map_toArray, List.map_cons, List.map_nil, hs, hx, hr]
  exact h v' w' h2 h3 h5
end Go.Proofs.Ytinphdphloddmaa
