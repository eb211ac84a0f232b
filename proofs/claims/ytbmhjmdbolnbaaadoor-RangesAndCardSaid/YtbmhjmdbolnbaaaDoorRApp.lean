/-
  APPEND as one operation of a region that draws; rows of slices, their values.
-/
import Derived.Test.YtbmhjmdbolnbaaaDoorRLawH
import Derived.Deep.Slices
namespace Go.Proofs.YtbmhjmdbolnbaaaDoor
open Go.RowKit
open SemP
set_option linter.unusedVariables false
set_option linter.unusedSimpArgs false
set_option maxRecDepth 100000
/-- 'append(s, xs...)' on a row that the call itself made, for rows of slices of comparisons. -/
theorem oper_appL {o : Oper} {a : Act} {w : World} {K : Act → World → Prop} {Q : Exit → Act → World → Prop} (s x : Operand)
    (ho : o.op = .call { callee := .builtin .append, args := #[s, x], argTypes := #[46, 46] })
    (base : Nat) (v : Value) (l : List Value) (hs : a.eval s = v) (hown : OwnV w base v l)
    (ad : Addr) (m c : Nat) (news : List Value) (hx : a.eval x = .slice (some ad) m c) (hl : news.length = m) (hnews : ∀ j u, news[j]? = some u → w.cell? (ad.add j) = some u) (h1 : ∀ u ∈ news, u.oneCell' = true)
    (hn : l.length + m ≤ 1099511627) (hbase : base ≤ w.heap.size)
    (h : ∀ v' w', OwnV w' base v' (l ++ news) → w.grownBy w' v.ownBlock → (v'.ownBlock = v.ownBlock ∨ v'.ownBlock = some w.heap.size) → K (a.put o.dst v') w') : o.wp Tryd.prog a w K Q := by
  obtain ⟨i0, hi, hz0, hz1, hz2⟩ := info_parts infoList
  obtain ⟨v', w', hr, h2, h3, _, h5⟩ := run_append_own_at (P := Tryd.prog) w base 46 o.type 69 i0 _ 1 24 Tryd.underlying46 hi hz0 hz1 hz2 rfl (by decide) v l.length l hown ad m c news (by omega) hnews h1 (by unfold maxLen; omega) (by omega) hbase
  unfold Oper.wp execOp
  simp only [ho, resolve, invoke, builtin, Sem.run_bind, Sem.run_pure, Result.andThen_ok, List.map_toArray, List.map_cons, List.map_nil, hs, hx, hr]
  refine h v' w' ?_ h3 h5
  have e : (l ++ news).length = l.length + m := by rw [List.length_append, hl]
  unfold OwnV
  rw [e]; exact h2
/-- The values of the outer row. -/
theorem vals_of {w : World} {B m : Nat} {A : Option Addr} {r : List (List CV)} (h : RdR w B A m r) (hm : 1 ≤ m) : ∃ (b off : Nat) (vals : List Value), A = some ⟨b, off, none⟩ ∧ b < B ∧ vals.length = m ∧ (∀ j, j < m → w.cell? ⟨b, off + j, none⟩ = vals[j]?) ∧
    ∀ j, j < m → ∃ Aj nj cj, vals[j]? = some (.slice Aj nj cj) ∧ RdC w B Aj nj (lsAt r j) := by
  obtain ⟨b, off, _, _, _, hA, hb, _, _⟩ := h.2 0 (by omega)
  subst hA
  have each : ∀ j, j < m → ∃ q : Option Addr × Nat × Nat, w.cell? ⟨b, off + j, none⟩ = some (.slice q.1 q.2.1 q.2.2) ∧ RdC w B q.1 q.2.1 (lsAt r j) := fun j hj => by
    obtain ⟨b', off', Aj, nj, cj, e, _, hc, hr⟩ := h.2 j hj
    injection e with e
    injection e with e1 e2 e3
    subst e1 e2
    exact ⟨(Aj, nj, cj), hc, hr⟩
  obtain ⟨q, hq⟩ := Go.Deep.choose_lt each
  refine ⟨b, off, (List.range m).map (fun j => .slice (q j).1 (q j).2.1 (q j).2.2), rfl, hb, by simp, fun j hj => ?_, fun j hj => ⟨(q j).1, (q j).2.1, (q j).2.2, by simp [hj], (hq j hj).2⟩⟩
  rw [(hq j hj).1]; simp [hj]
theorem OwnV.alloc {w : World} {base : Nat} {v : Value} {l : List Value} (h : OwnV w base v l) (o : Obj) : OwnV (w.alloc o) base v l := World.ownsRow.alloc h o
/-- An empty row, made by the call itself. -/
theorem OwnV.empty {w : World} {base g : Nat} (hb : base ≤ g) (h : w.heap[g]? = some (.cells #[] 69 (0, 0))) : OwnV w base (.slice (some ⟨g, 0, none⟩) 0 0) [] :=
  ⟨rfl, .inr ⟨g, 0, #[], rfl, hb, h, Nat.le_refl _, by unfold maxLen; omega, rfl, rfl⟩⟩
end Go.Proofs.YtbmhjmdbolnbaaaDoor
