/-
  A REGION THAT DRAWS ITS ORDER and makes slices: what its operations hold, whatever came first.
-/
import Derived.Test.YtinphdphloddmabInv
import Derived.Test.YtinphdphloddmabChecked
import Derived.Maps.AppendAt
import Derived.Laws.OwnMore
import Derived.Laws.Rows
import Derived.WalkKit
import Derived.Below
import Derived.Lib.Hide
namespace Go.Proofs.Ytinphdphloddmab
open Go.RowKit
set_option linter.unusedVariables false

/-- Only the blocks of M, and new ones, have turned. -/
structure FrP (w w' : World) (M : Nat → Prop) : Prop where
  os : w'.os = w.os
  tape : w'.tape = w.tape
  output : w'.output = w.output
  size : w.heap.size ≤ w'.heap.size
  block : ∀ b, b < w.heap.size → ¬ M b → w'.heap[b]? = w.heap[b]?
/-- A slice that is the head of a row of its own. -/
structure Ent where
  v : Value
  e : TypeId
  sz : Nat
  n : Nat
  cs : List Value
/-- What the operations hold together. -/
structure Par (w0 : World) (M : Nat → Prop) (base : Nat) (w : World) (l : List (Option Ent)) : Prop where
  fr : FrP w0 w M
  le : base ≤ w0.heap.size
  own : ∀ (i : Nat) (x : Ent), l[i]? = some (some x) → w.ownsRow base x.e x.sz x.v x.n x.cs
  new : ∀ (i : Nat) (x : Ent), l[i]? = some (some x) → ∀ g, x.v.ownBlock = some g → M g ∨ w0.heap.size ≤ g
  apart : ∀ (i j : Nat) (x y : Ent), i ≠ j → l[i]? = some (some x) → l[j]? = some (some y) → ∀ g, x.v.ownBlock = some g → y.v.ownBlock ≠ some g
section
variable {w0 w w' : World} {M : Nat → Prop} {base : Nat} {l : List (Option Ent)}
theorem FrP.refl (w : World) (M : Nat → Prop) : FrP w w M := ⟨rfl, rfl, rfl, Nat.le_refl _, fun _ _ _ => rfl⟩
theorem FrP.drew1 (w : World) (M : Nat → Prop) : FrP w { w with drawn := w.drawn + 1 } M := ⟨rfl, rfl, rfl, Nat.le_refl _, fun _ _ _ => rfl⟩
theorem FrP.alloc (h : FrP w0 w M) (o : Obj) : FrP w0 (w.alloc o) M :=
  ⟨h.os, h.tape, h.output, Nat.le_trans h.size (by simp), fun b hb hn => (Below.heap_alloc w o b (Nat.lt_of_lt_of_le hb h.size)).trans (h.block b hb hn)⟩
theorem FrP.grown {row : Option Nat} (h : FrP w0 w M) (hg : w.grownBy w' row) (hr : ∀ g, row = some g → M g ∨ w0.heap.size ≤ g) : FrP w0 w' M :=
  ⟨hg.os.trans h.os, hg.tape.trans h.tape, hg.output.trans h.output, Nat.le_trans h.size hg.size, fun b hb hn => by
    rw [hg.block b (Nat.lt_of_lt_of_le hb h.size) (fun e => by
      rcases hr b e.symm with hm | hm
      · exact hn hm
      · omega)]
    exact h.block b hb hn⟩
theorem FrP.cell (h : FrP w0 w M) {p : Addr} (hp : p.block < w0.heap.size) (hm : ¬ M p.block) : w.cell? p = w0.cell? p := World.cell?_of_block (h.block p.block hp hm)
theorem FrP.below (h : FrP w0 w (fun _ => False)) : Below w0.heap.size w0 w := ⟨h.os, h.tape, h.output, h.size, fun b hb => h.block b hb (fun h => h)⟩
theorem FrP.under (h : FrP w0 w M) {B : Nat} (hB : B ≤ w0.heap.size) (hm : ∀ b, M b → B ≤ b) : Below B w0 w := ⟨h.os, h.tape, h.output, h.size, fun b hb => h.block b (by omega) (fun h => by have := hm b h; omega)⟩
theorem ent_lt {x : Ent} (h : w.ownsRow base x.e x.sz x.v x.n x.cs) : ∀ g, x.v.ownBlock = some g → g < w.heap.size := by
  intro g hg
  rcases h.2 with ⟨h, _⟩ | ⟨g', cap, cur, hv, _, hh, _⟩
  · rw [h] at hg; cases hg
  · rw [hv] at hg
    have : g' = g := by simpa [Value.ownBlock] using hg
    subst this
    rcases Nat.lt_or_ge g' w.heap.size with hlt | hge
    · exact hlt
    · rw [Array.getElem?_eq_none hge] at hh; cases hh
theorem ent_ge {x : Ent} (h : w.ownsRow base x.e x.sz x.v x.n x.cs) : ∀ g, x.v.ownBlock = some g → base ≤ g := by
  intro g hg
  rcases h.2 with ⟨h, _⟩ | ⟨g', cap, cur, hv, hb, hh, _⟩
  · rw [h] at hg; cases hg
  · rw [hv] at hg
    have : g' = g := by simpa [Value.ownBlock] using hg
    subst this
    exact hb
theorem Par.none_ (w : World) (M : Nat → Prop) (hb : base ≤ w.heap.size) (n : Nat) : Par w M base w (List.replicate n none) :=
  ⟨FrP.refl _ _, hb, fun i x h => (by rw [List.getElem?_replicate] at h; split at h <;> simp at h), fun i x h => (by rw [List.getElem?_replicate] at h; split at h <;> simp at h), fun i j x y _ h => (by rw [List.getElem?_replicate] at h; split at h <;> simp at h)⟩
theorem Par.drew1 (h : Par w0 M base w l) : Par w0 M base { w with drawn := w.drawn + 1 } l :=
  ⟨⟨h.fr.os, h.fr.tape, h.fr.output, h.fr.size, h.fr.block⟩, h.le, h.own, h.new, h.apart⟩
theorem Par.alloc (h : Par w0 M base w l) (o : Obj) : Par w0 M base (w.alloc o) l :=
  ⟨h.fr.alloc o, h.le, fun i x hx => World.ownsRow.alloc (h.own i x hx) o, h.new, h.apart⟩
/-- A thing more, at place i. -/
theorem Par.put (h : Par w0 M base w l) (i : Nat) {x : Ent} (hg : w.grownBy w' x.v.ownBlock ∨ ∃ row, w.grownBy w' row ∧ (∀ j y, j ≠ i → l[j]? = some (some y) → ∀ g, y.v.ownBlock = some g → row ≠ some g) ∧ (∀ g, row = some g → M g ∨ w0.heap.size ≤ g))
    (hx : w'.ownsRow base x.e x.sz x.v x.n x.cs) (hn : ∀ g, x.v.ownBlock = some g → M g ∨ w0.heap.size ≤ g) (ha : ∀ j y, j ≠ i → l[j]? = some (some y) → ∀ g, y.v.ownBlock = some g → x.v.ownBlock ≠ some g) :
    Par w0 M base w' (l.set i (some x)) := by
  obtain ⟨row, hg, hr, hm⟩ : ∃ row, w.grownBy w' row ∧ (∀ j y, j ≠ i → l[j]? = some (some y) → ∀ g, y.v.ownBlock = some g → row ≠ some g) ∧ (∀ g, row = some g → M g ∨ w0.heap.size ≤ g) := by
    rcases hg with hg | hg
    · exact ⟨_, hg, ha, hn⟩
    · exact hg
  have hcase : ∀ j y, (l.set i (some x))[j]? = some (some y) → (j = i ∧ y = x) ∨ (j ≠ i ∧ l[j]? = some (some y)) := by
    intro j y hj
    rw [List.getElem?_set] at hj
    by_cases e : i = j
    · rw [if_pos e] at hj
      by_cases hlt : i < l.length
      · rw [if_pos hlt] at hj
        injection hj with hj
        injection hj with hj
        exact .inl ⟨e.symm, hj.symm⟩
      · rw [if_neg hlt] at hj; cases hj
    · rw [if_neg e] at hj
      exact .inr ⟨fun h => e h.symm, hj⟩
  refine ⟨h.fr.grown hg hm, h.le, ?_, ?_, ?_⟩
  · intro j y hj
    rcases hcase j y hj with ⟨rfl, rfl⟩ | ⟨hne, hj⟩
    · exact hx
    · refine World.ownsRow.kept (h.own j y hj) hg ?_
      cases hb : y.v.ownBlock with
      | none => exact .inl rfl
      | some g => exact .inr (fun e => hr j y hne hj g hb e.symm)
  · intro j y hj
    rcases hcase j y hj with ⟨rfl, rfl⟩ | ⟨hne, hj⟩
    · exact hn
    · exact h.new j y hj
  · intro a b y z hab hy hz g hyg
    rcases hcase a y hy with ⟨e1, e2⟩ | ⟨hne1, hy2⟩
    · rcases hcase b z hz with ⟨e3, e4⟩ | ⟨hne2, hz2⟩
      · exact absurd (e1.trans e3.symm) hab
      · intro hzg; exact ha b z hne2 hz2 g hzg (e2 ▸ hyg)
    · rcases hcase b z hz with ⟨e3, e4⟩ | ⟨hne2, hz2⟩
      · rw [e4]; exact ha a y hne1 hy2 g hyg
      · exact h.apart a b y z hab hy2 hz2 g hyg
/-- A literal, in a block of its own. -/
theorem Par.lit (h : Par w0 M base w l) (i : Nat) (cs : Array Value) (e : TypeId) (sz n : Nat) (hs : cs.size = n * sz) (hm : n ≤ maxLen) :
    Par w0 M base (w.alloc (.cells cs e)) (l.set i (some ⟨.slice (some ⟨w.heap.size, 0, none⟩) n n, e, sz, n, cs.toList⟩)) := by
  refine h.put i (.inr ⟨none, ⟨rfl, rfl, rfl, by simp, fun k hk _ => Below.heap_alloc w _ k hk⟩, (fun j y _ _ g _ e => by cases e), (fun g e => by cases e)⟩) (World.ownsRow_lit w cs n (Nat.le_trans h.le h.fr.size) hm hs) ?_ ?_
  · intro g hg
    right
    have : w.heap.size = g := by simpa [Value.ownBlock] using hg
    have := h.fr.size
    omega
  · intro j y hne hj g hg e2
    have : w.heap.size = g := by simpa [Value.ownBlock] using e2
    have := ent_lt (h.own j y hj) g hg
    omega
/-- What an append leaves of the thing at place i. -/
theorem Par.app (h : Par w0 M base w l) (i : Nat) {x : Ent} (hi : l[i]? = some (some x)) {v' : Value} {n' : Nat} {cs' : List Value} (ho : w'.ownsRow base x.e x.sz v' n' cs') (hg : w.grownBy w' x.v.ownBlock)
    (hb : v'.ownBlock = x.v.ownBlock ∨ v'.ownBlock = some w.heap.size) : Par w0 M base w' (l.set i (some ⟨v', x.e, x.sz, n', cs'⟩)) := by
  refine h.put i (.inr ⟨x.v.ownBlock, hg, fun j y hne hj g hyg e => h.apart j i y x hne hj hi g hyg e, h.new i x hi⟩) ho ?_ ?_
  · intro g hg2
    rcases hb with hb | hb
    · exact h.new i x hi g (hb ▸ hg2)
    · right
      have h1 : v'.ownBlock = some g := hg2
      rw [hb] at h1
      injection h1 with h1
      have := h.fr.size
      omega
  · intro j y hne hj g hyg e
    have e' : v'.ownBlock = some g := e
    rcases hb with hb | hb
    · rw [hb] at e'
      exact h.apart j i y x hne hj hi g hyg e'
    · rw [hb] at e'
      injection e' with e'
      have := ent_lt (h.own j y hj) g hyg
      omega
end

/-- A slice that is appended: nothing, or cells that can be read. -/
def Src (w : World) (D : Option Addr) (m sz : Nat) (news : List Value) : Prop :=
  news.length = m * sz ∧ (∀ u ∈ news, u.oneCell' = true) ∧ ((D = none ∧ m = 0) ∨ ∃ ad, D = some ad ∧ ∀ (j : Nat) (u : Value), news[j]? = some u → w.cell? (ad.add j) = some u)
/-- The slice type t of elements e, sz cells and 'bytes' bytes each. -/
def ElemT (P : Program) (t e : TypeId) (sz bytes : Nat) : Prop := ∃ i z, P.underlying t = some (.slice e) ∧ P.info? e = some i ∧ i.zero = some z ∧ i.size = sz ∧ i.bytes = bytes ∧ z.cells.size = sz ∧ 0 < sz
section
variable {P : Program} {w : World}
theorem run_app_src {t ty e : TypeId} {sz bytes : Nat} (hE : ElemT P t e sz bytes) {base : Nat} {v : Value} {n : Nat} {xs : List Value} (hown : w.ownsRow base e sz v n xs) {D : Option Addr} {m c : Nat} {news : List Value} (hs : Src w D m sz news)
    (h63 : n + m ≤ maxLen) (hbytes : (n + m) * bytes ≤ 140737488355328) (hbase : base ≤ w.heap.size) :
    ∃ v' w', (Builtin.append_ #[t, t] ty #[v, .slice D m c]).run P w = .ok v' w' ∧ w'.ownsRow base e sz v' (n + m) (xs ++ news) ∧ w.grownBy w' v.ownBlock ∧ (v'.ownBlock = v.ownBlock ∨ v'.ownBlock = some w.heap.size) := by
  obtain ⟨i, z, ht, hi, hz, hsize, hby, hzs, hsz⟩ := hE
  obtain ⟨hl, h1, hD⟩ := hs
  rcases hD with ⟨rfl, rfl⟩ | ⟨ad, rfl, hnews⟩
  · have hy : news = [] := List.eq_nil_of_length_eq_zero (by simpa using hl)
    subst hy
    refine ⟨v, w, ?_, by simpa using hown, ⟨rfl, rfl, rfl, Nat.le_refl _, fun _ _ _ => rfl⟩, .inl rfl⟩
    rcases hown.2 with ⟨rfl, rfl⟩ | ⟨g, cap, cur, rfl, _, _, hnc, _⟩
    · simp [Builtin.append_, run_underlying ht, sizeOf, typeInfo, hi, Builtin.lenOf, Builtin.firstCells]
    · simp [Builtin.append_, run_underlying ht, sizeOf, typeInfo, hi, Builtin.lenOf, Builtin.firstCells, hnc, storeCells]
  · obtain ⟨v', w', hr, h2, h3, _, h5⟩ := run_append_own_at (P := P) w base t ty e i z sz bytes ht hi hz hsize hby hzs hsz v n xs hown ad m c news hl hnews h1 h63 hbytes hbase
    exact ⟨v', w', hr, h2, h3, h5⟩
theorem wp_app_src {o : Oper} {a : Act} {K : Act → World → Prop} {Q : Exit → Act → World → Prop} (s x : Operand) {t e : TypeId} {sz bytes : Nat} (hE : ElemT P t e sz bytes)
    (ho : o.op = .call { callee := .builtin .append, args := #[s, x], argTypes := #[t, t] }) {base : Nat} {v : Value} {n : Nat} {xs : List Value} (hs : a.eval s = v) (hown : w.ownsRow base e sz v n xs)
    {D : Option Addr} {m c : Nat} {news : List Value} (hx : a.eval x = .slice D m c) (hr : Src w D m sz news) (h63 : n + m ≤ maxLen) (hbytes : (n + m) * bytes ≤ 140737488355328) (hbase : base ≤ w.heap.size)
    (h : ∀ v' w', w'.ownsRow base e sz v' (n + m) (xs ++ news) → w.grownBy w' v.ownBlock → (v'.ownBlock = v.ownBlock ∨ v'.ownBlock = some w.heap.size) → K (a.put o.dst v') w') : o.wp P a w K Q := by
  obtain ⟨v', w', hrun, h2, h3, h5⟩ := run_app_src (ty := o.type) (c := c) hE hown hr h63 hbytes hbase
  unfold Oper.wp execOp
  simp only [ho, resolve, invoke, builtin, Sem.run_bind, Sem.run_pure, Result.andThen_ok, List.map_toArray, List.map_cons, List.map_nil, hs, hx, hrun]
  exact h v' w' h2 h3 h5
theorem wpList_app_src {ops : Array Oper} {rest : List Oper} {o : Oper} {a : Act} {Q : Exit → Act → World → Prop} (hgd : o.guard = none) (s x : Operand) {t e : TypeId} {sz bytes : Nat} (hE : ElemT P t e sz bytes)
    (ho : o.op = .call { callee := .builtin .append, args := #[s, x], argTypes := #[t, t] }) {base : Nat} {v : Value} {n : Nat} {xs : List Value} (hs : a.eval s = v) (hown : w.ownsRow base e sz v n xs)
    {D : Option Addr} {m c : Nat} {news : List Value} (hx : a.eval x = .slice D m c) (hr : Src w D m sz news) (h63 : n + m ≤ maxLen) (hbytes : (n + m) * bytes ≤ 140737488355328) (hbase : base ≤ w.heap.size)
    (h : ∀ v' w', w'.ownsRow base e sz v' (n + m) (xs ++ news) → w.grownBy w' v.ownBlock → (v'.ownBlock = v.ownBlock ∨ v'.ownBlock = some w.heap.size) → wpList P ops Q rest (a.put o.dst v') w') : wpList P ops Q (o :: rest) a w :=
  wpList_plain hgd fun _ hK => wp_app_src s x hE ho hs hown hx hr h63 hbytes hbase fun v' w' h2 h3 h4 => hK _ _ (h v' w' h2 h3 h4)
theorem addp_add (b off j : Nat) : (Addr.add ⟨b, off, none⟩ j) = ⟨b, off + j, none⟩ := by
  unfold Addr.add
  by_cases h0 : j = 0 <;> simp [h0]
/-- What a thing owns can be appended. -/
theorem src_own {base n c : Nat} {e : TypeId} {sz : Nat} {A : Option Addr} {cs : List Value} (h : w.ownsRow base e sz (.slice A n c) n cs) (h1 : ∀ u ∈ cs, u.oneCell' = true) : Src w A n sz cs := by
  refine ⟨h.1, h1, ?_⟩
  rcases h.2 with ⟨h0, h00⟩ | ⟨g, cap, cur, hv, _, hh, _, _, _, ht⟩
  · injection h0 with e1 e2 e3
    exact .inl ⟨e1, h00⟩
  · injection hv with e1 e2 e3
    refine .inr ⟨_, e1, fun j u hj => ?_⟩
    rw [addp_add, Nat.zero_add, cell_of_row w g j _ _ _ hh]
    rw [← ht, List.getElem?_take] at hj
    split at hj
    · simpa using hj
    · cases hj

theorem run_sizeOf {e : TypeId} {i : TypeInfo} (hi : P.info? e = some i) (w : World) : (sizeOf e).run P w = .ok i.size w := by simp [sizeOf, typeInfo, hi]
theorem elem_of {t e : TypeId} (ht : P.underlying t = some (.slice e)) : P.elem t = e := by simp [Program.elem, ht]
/-- s[:k]. -/
theorem cut_low {t e : TypeId} {sz bytes : Nat} (hE : ElemT P t e sz bytes) {base n c k : Nat} {A : Option Addr} {cs : List Value} (h : w.ownsRow base e sz (.slice A n c) n cs) (h1 : ∀ u ∈ cs, u.oneCell' = true) (hk : k ≤ n) :
    (∀ W, (Instr.slice t (.slice A n c) none (some (.int .i64 (k : Int))) none).run P W = .ok (.slice A k c) W) ∧ Src w A k sz (cs.take (k * sz)) := by
  obtain ⟨i, z, ht, hi, hz, hsize, hby, hzs, hsz⟩ := hE
  have hs := src_own h h1
  have hkn : k * sz ≤ n * sz := Nat.mul_le_mul_right _ hk
  have hc : (k : Int) ≤ (c : Int) := by
    rcases h.2 with ⟨h0, h00⟩ | ⟨g, cap, cur, hv, _, _, hnc, _⟩
    · injection h0 with e1 e2 e3; omega
    · injection hv with e1 e2 e3; omega
  refine ⟨fun W => ?_, ⟨by rw [List.length_take, h.1]; omega, fun u hu => h1 u (List.mem_of_mem_take hu), ?_⟩⟩
  · have hr := run_slice_h (P := P) W t A n c (by rw [elem_of ht]; exact ht) .i64 (k : Int) (by omega) hc
    rw [hr, elem_of ht, run_sizeOf hi]
    rcases A with _ | ⟨b, o, s⟩
    · simp [sliced, go_sem]
    · by_cases e0 : c = 0 <;> simp [sliced, go_sem, e0, Addr.add]
  · rcases hs.2.2 with ⟨e1, e2⟩ | ⟨ad, e1, hc⟩
    · exact .inl ⟨e1, by omega⟩
    · refine .inr ⟨ad, e1, fun j u hj => hc j u ?_⟩
      rw [List.getElem?_take] at hj
      split at hj
      · exact hj
      · cases hj
/-- s[k:]. -/
theorem cut_high {t e : TypeId} {sz bytes : Nat} (hE : ElemT P t e sz bytes) {base n c k : Nat} {A : Option Addr} {cs : List Value} (h : w.ownsRow base e sz (.slice A n c) n cs) (h1 : ∀ u ∈ cs, u.oneCell' = true) (hk : k ≤ n) :
    ∃ D, (∀ W, (Instr.slice t (.slice A n c) (some (.int .i64 (k : Int))) none none).run P W = .ok (.slice D (n - k) (c - k)) W) ∧ Src w D (n - k) sz (cs.drop (k * sz)) ∧ ∀ ad, D = some ad → ∃ ad0, A = some ad0 ∧ ad.block = ad0.block := by
  obtain ⟨i, z, ht, hi, hz, hsize, hby, hzs, hsz⟩ := hE
  have hs := src_own h h1
  have hkn : k * sz ≤ n * sz := Nat.mul_le_mul_right _ hk
  refine ⟨if c = k then A else A.map (·.add (k * sz)), fun W => ?_, ⟨by rw [List.length_drop, h.1, Nat.sub_mul], fun u hu => h1 u (List.mem_of_mem_drop hu), ?_⟩, ?_⟩
  · have hr := run_slice_l (P := P) W t A n c (by rw [elem_of ht]; exact ht) .i64 (k : Int) (by omega) (by omega)
    rw [hr, elem_of ht, run_sizeOf hi, hsize]
    rfl
  · rcases h.2 with ⟨h0, h00⟩ | ⟨g, cap, cur, hv, _, hh, hnc, _, _, htk⟩
    · injection h0 with e1 e2 e3
      left
      refine ⟨by rw [e1]; split <;> rfl, by omega⟩
    · injection hv with e1 e2 e3
      by_cases e0 : c = k
      · rw [if_pos e0]
        have : cs.drop (k * sz) = [] := List.drop_eq_nil_of_le (by rw [h.1]; exact Nat.mul_le_mul_right _ (by omega))
        rw [this]
        exact .inr ⟨_, e1, fun j u hj => by simp at hj⟩
      · rw [if_neg e0]
        refine .inr ⟨⟨g, k * sz, none⟩, ?_, fun j u hj => ?_⟩
        · rw [e1]
          simp [addp_add]
        · rw [addp_add, cell_of_row w g _ _ _ _ hh]
          rw [List.getElem?_drop, ← htk, List.getElem?_take] at hj
          split at hj
          · simpa using hj
          · cases hj
  · intro ad e
    split at e
    · exact ⟨ad, e, rfl⟩
    · cases A with
      | none => cases e
      | some ad0 =>
        simp only [Option.map_some, Option.some.injEq] at e
        subst e
        exact ⟨ad0, rfl, by unfold Addr.add; split <;> rfl⟩
end
end Go.Proofs.Ytinphdphloddmab
