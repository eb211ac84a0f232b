/-
 ROWS OF THINGS WITHOUT MEMORY: appends of whole literals, sorted rows.
-/
import Derived.Test.YtminihiecloglaaGreatPBa
import Derived.Test.YtminihiecloglaaGreatPGo
import Derived.Test.YtminihiecloglaaGreatCOw
set_option linter.unusedVariables false
set_option linter.unusedSimpArgs false
namespace Go.Proofs.YtminihiecloglaaGreat
open Go.RowKit
open SemP FlP GaP DiP
set_option maxRecDepth 10000
def spF (p : StP) : List Value := [.int .i64 p.1, .int .i64 p.2]
def egF (p : Nat × Nat) : List Value := [.int .i64 (p.1 : Int), .int .i64 (p.2 : Int)]
def OwnF {α : Type} (E : TypeId) (z : Nat) (f : α → List Value) (w : World) (base : Nat) (v : Value) (l : List α) : Prop := w.ownsRow base E z v l.length (l.flatMap f)
section
variable {α : Type} {E : TypeId} {z : Nat} {f : α → List Value} {w w' : World} {base : Nat} {v : Value} {l : List α}
theorem OwnF.nil_ (E : TypeId) (z : Nat) (f : α → List Value) (w : World) (base : Nat) : OwnF E z f w base (.slice none 0 0) ([] : List α) := World.ownsRow_nil _ _ _ _
theorem flatF_len (hz : ∀ x, (f x).length = z) : ∀ l : List α, (l.flatMap f).length = l.length * z
 | [] => by simp
 | x :: l => by rw [List.flatMap_cons, List.length_append, hz, flatF_len hz l, List.length_cons, Nat.succ_mul]; omega
theorem flatF_at [Inhabited α] (hz : ∀ x, (f x).length = z) : ∀ (l : List α) (j i : Nat), j < l.length → i < z → (l.flatMap f)[j * z + i]? = (f (l.getD j default))[i]?
 | [], j, i, hj, _ => absurd hj (by simp)
 | x :: l, 0, i, _, hi => by
  rw [List.flatMap_cons, Nat.zero_mul, Nat.zero_add, List.getElem?_append_left (by rw [hz]; exact hi)]; rfl
 | x :: l, j + 1, i, hj, hi => by
  rw [List.flatMap_cons, List.getElem?_append_right (by rw [hz, Nat.succ_mul]; omega), hz]
  have e : (j + 1) * z + i - z = j * z + i := by rw [Nat.succ_mul]; omega
  rw [e, flatF_at hz l j i (by simpa using hj) hi]; rfl
theorem OwnF.own [Inhabited α] (hz : ∀ x, (f x).length = z) (h : OwnF E z f w base v l) : OwnJ E z (FlI f) w base v l :=
 ⟨_, h, fun j hj => ⟨f (l.getD j default), hz _, fun i x hx => by
  rw [flatF_at hz l j i hj (by rw [← hz (l.getD j default)]; exact (List.getElem?_eq_some_iff.1 hx).1)]; exact hx, rfl⟩⟩
theorem OwnF.kept (h : OwnF E z f w base v l) (hb : Below w.heap.size w w') : OwnF E z f w' base v l := by
 refine ⟨h.1, ?_⟩
 rcases h.2 with h | ⟨g, cap, cur, hv, hbg, hh, r⟩
 ·exact .inl h
 ·exact .inr ⟨g, cap, cur, hv, hbg, (hb.block g (heapE_lt hh)).trans hh, r⟩
theorem OwnF.less {base' : Nat} (h : OwnF E z f w base v l) (hb : base' ≤ base) : OwnF E z f w base' v l := by
 refine ⟨h.1, ?_⟩
 rcases h.2 with h | ⟨g, cap, cur, hv, hbg, r⟩
 ·exact .inl h
 ·exact .inr ⟨g, cap, cur, hv, Nat.le_trans hb hbg, r⟩
theorem OwnF.shape (h : OwnF E z f w base v l) : ∃ A c, v = .slice A l.length c := by
 rcases h.2 with ⟨rfl, h0⟩ | ⟨g, cap, cur, rfl, _⟩
 ·exact ⟨none, 0, by rw [h0]⟩
 ·exact ⟨some ⟨g, 0, none⟩, cap, rfl⟩
theorem OwnF.ge (h : OwnF E z f w base v l) : ∀ g, v.ownBlock = some g → base ≤ g := by
 intro g hg
 rcases h.2 with ⟨rfl, _⟩ | ⟨g', cap, cur, rfl, hb, _⟩
 ·cases hg
 ·have : g' = g := by simpa [Value.ownBlock] using hg
  omega
theorem OwnF.lt (h : OwnF E z f w base v l) : ∀ g, v.ownBlock = some g → g < w.heap.size := own_lt (own_any h)
theorem OwnF.alloc (h : OwnF E z f w base v l) (o : Obj) : OwnF E z f (w.alloc o) base v l := World.ownsRow.alloc h o
theorem OwnF.drewN (h : OwnF E z f w base v l) (k : Nat) : OwnF E z f (w.drewN k) base v l := h
theorem wplF_apps {S : TypeId} {bytes : Nat} {zero : Value} (hz : ∀ x, (f x).length = z) (h1c : ∀ x, ∀ u ∈ f x, u.oneCell' = true) (hu : Tryz.prog.underlying S = some (.slice E)) (hinfo : (Tryz.prog.info? E).map (fun i => (i.zero, i.size, i.bytes)) = some (some zero, z, bytes)) (hzs : zero.cells.size = z) (hz0 : 0 < z) (hby : bytes ≤ 100000)
  {ops : Array Oper} {rest : List Oper} {o : Oper} {a : Act} {Q : Exit → Act → World → Prop} (hgd : o.guard = none) (s x : Operand)
  (ho : o.op = .call { callee := .builtin .append, args := #[s, x], argTypes := #[S, S] })
  (base : Nat) (v : Value) (l : List α) (hs : a.eval s = v) (hown : OwnF E z f w base v l)
  (b m d : Nat) (ys : List α) (hx : a.eval x = .slice (some ⟨b, 0, none⟩) m d) (hm : ys.length = m) (hc : ∀ j u, (ys.flatMap f)[j]? = some u → w.cell? ⟨b, j, none⟩ = some u) (hn : l.length + m ≤ 1000000000) (hbase : base ≤ w.heap.size)
  (h : ∀ v' w', OwnF E z f w' base v' (l ++ ys) → w.grownBy w' v.ownBlock → (v'.ownBlock = v.ownBlock ∨ v'.ownBlock = some w.heap.size) → wpList Tryz.prog ops Q rest (a.put o.dst v') w') :
  wpList Tryz.prog ops Q (o :: rest) a w := by
 obtain ⟨i0, hi, hz0', hz1, hz2⟩ := info_parts hinfo
 refine wpList_append_own_at w hgd s x S ho base E i0 zero z bytes hu hi hz0' hz1 hz2 hzs hz0 v l.length _ hs hown ⟨b, 0, none⟩ m d (ys.flatMap f) hx (by rw [flatF_len hz, hm]) ?_ ?_ (by unfold maxLen; omega) (by have := Nat.mul_le_mul (show l.length + m ≤ 1000000000 from hn) hby; omega) hbase ?_
 ·intro j u hj
  have ha : (Addr.add ⟨b, 0, none⟩ j) = ⟨b, j, none⟩ := by
   unfold Addr.add
   by_cases h0 : j = 0 <;> simp [h0]
  rw [ha]; exact hc j u hj
 ·intro u hu
  obtain ⟨x, _, hx⟩ := List.mem_flatMap.1 hu
  exact h1c x u hx
 ·intro v' w' hown' hg _ hat
  exact h v' w' (by unfold OwnF; rw [List.length_append, List.flatMap_append, hm]; exact hown') hg hat
theorem opF_apps {S : TypeId} {bytes : Nat} {zero : Value} (hz : ∀ x, (f x).length = z) (h1c : ∀ x, ∀ u ∈ f x, u.oneCell' = true) (hu : Tryz.prog.underlying S = some (.slice E)) (hinfo : (Tryz.prog.info? E).map (fun i => (i.zero, i.size, i.bytes)) = some (some zero, z, bytes)) (hzs : zero.cells.size = z) (hz0 : 0 < z) (hby : bytes ≤ 100000)
  {o : Oper} {a : Act} {K : Act → World → Prop} {Q : Exit → Act → World → Prop} (s x : Operand)
  (ho : o.op = .call { callee := .builtin .append, args := #[s, x], argTypes := #[S, S] })
  (base : Nat) (v : Value) (l : List α) (hs : a.eval s = v) (hown : OwnF E z f w base v l)
  (b m d : Nat) (ys : List α) (hx : a.eval x = .slice (some ⟨b, 0, none⟩) m d) (hm : ys.length = m) (hm0 : 0 < m) (hc : ∀ j u, (ys.flatMap f)[j]? = some u → w.cell? ⟨b, j, none⟩ = some u) (hn : l.length + m ≤ 1000000000) (hbase : base ≤ w.heap.size)
  (h : ∀ g c w', OwnF E z f w' base (.slice (some ⟨g, 0, none⟩) (l.length + m) c) (l ++ ys) → w.grownBy w' v.ownBlock → K (a.put o.dst (.slice (some ⟨g, 0, none⟩) (l.length + m) c)) w') :
  o.wp Tryz.prog a w K Q := by
 obtain ⟨i0, hi, hz0', hz1, hz2⟩ := info_parts hinfo
 obtain ⟨v', w', hr, hown', hg, _, hat⟩ := run_append_own_at (P := Tryz.prog) w base S o.type E i0 zero z bytes hu hi hz0' hz1 hz2 hzs hz0 v l.length _ hown ⟨b, 0, none⟩ m d (ys.flatMap f) (by rw [flatF_len hz, hm]) (by
  intro j u hju
  have ha : (Addr.add ⟨b, 0, none⟩ j) = ⟨b, j, none⟩ := by
   unfold Addr.add
   by_cases h0 : j = 0 <;> simp [h0]
  rw [ha]; exact hc j u hju) (fun u hu => by obtain ⟨x, _, hx⟩ := List.mem_flatMap.1 hu; exact h1c x u hx) (by unfold maxLen; omega) (by have := Nat.mul_le_mul (show l.length + m ≤ 1000000000 from hn) hby; omega) hbase
 unfold Oper.wp execOp
 simp only [ho, resolve, invoke, builtin, Sem.run_bind, Sem.run_pure, Result.andThen_ok, List.map_toArray, List.map_cons, List.map_nil, hs, hx, hr]
 have ho' : OwnF E z f w' base v' (l ++ ys) := by unfold OwnF; rw [List.length_append, List.flatMap_append, hm]; exact hown'
 obtain ⟨g, c, hv, _, _⟩ := World.ownsRow.form hown' (by omega)
 subst hv
 exact h g c w' ho' hg
end
end Go.Proofs.YtminihiecloglaaGreat
