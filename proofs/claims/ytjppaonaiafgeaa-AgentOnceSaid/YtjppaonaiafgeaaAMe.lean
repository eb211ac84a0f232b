/-
  WORDS FOR MEMORY: orders, entries, a fleet (printed by genagme.py).
-/
import Derived.Test.YtjppaonaiafgeaaGPts
import Derived.Maps.RangeWalk
import Derived.Maps.OwnSet
import Derived.Laws.Rows
import Derived.CallAlone
import Derived.Shelf.Abstract
import Derived.Deep.RegionHeld3
import Derived.Deep.DeepCutAuto
import Derived.Deep.QuietTactic
import Derived.BigQuiet
import Derived.Deep.RegionLaw
namespace Go.Proofs.Ytjppaonaiafgeaa
open Go.RowKit
open FlP GaP
set_option linter.unusedVariables false
set_option linter.unusedSimpArgs false
set_option maxRecDepth 10000
theorem heapE_lt {w : World} {g : Nat} {o : Obj} (h : w.heap[g]? = some o) : g < w.heap.size := by
 rcases Nat.lt_or_ge g w.heap.size with hlt | hge
 ·exact hlt
 ·rw [Array.getElem?_eq_none hge] at h; cases h
theorem grown_set (w : World) (rb i : Nat) (u : Value) : w.grownBy (w.setCell ⟨rb, i, none⟩ u) (some rb) :=
 ⟨rfl, rfl, rfl, by simp, fun k hk hne => Below.heap_setCell w _ _ k (fun e => hne (by rw [e]))⟩
theorem grown_add {w w1 w2 : World} {row : Option Nat} (h : w.grownBy w1 row) (k : w1.grownBy w2 row) : w.grownBy w2 row :=
 ⟨k.os.trans h.os, k.tape.trans h.tape, k.output.trans h.output, Nat.le_trans h.size k.size, fun i hi hne => (k.block i (Nat.lt_of_lt_of_le hi h.size) hne).trans (h.block i hi hne)⟩
theorem grown_alloc1 (w : World) (o : Obj) (row : Option Nat) : w.grownBy (w.alloc o) row := ⟨rfl, rfl, rfl, by simp, fun k hk _ => Below.heap_alloc w o k hk⟩
theorem heap_new (w : World) (o : Obj) : (w.alloc o).heap[w.heap.size]? = some o := by
 unfold World.alloc
 exact Array.getElem?_push_size
theorem row2 {w : World} {g : Nat} {x y : Value} {t : TypeId} (h : w.heap[g]? = some (.cells #[x, y] t (0, 0))) : w.cell? ⟨g, 0, none⟩ = some x ∧ w.cell? ⟨g, 1, none⟩ = some y ∧ w.frozen? ⟨g, 0, none⟩ = false ∧ w.frozen? ⟨g, 1, none⟩ = false :=
 ⟨by rw [cell_of_row w g 0 _ _ _ h]; rfl, by rw [cell_of_row w g 1 _ _ _ h]; rfl, frozen_of_row w g 0 _ _ h, frozen_of_row w g 1 _ _ h⟩
/-- Cells of a thing that was stored. -/
theorem cells_of {w : World} {g : Nat} {vs : Array Value} {T : TypeId} (h : w.heap[g]? = some (.cells vs T (0, 0))) : ∀ i u, vs.toList[i]? = some u → w.cell? ⟨g, i, none⟩ = some u := by
 intro i u hu
 rw [Array.getElem?_toList] at hu
 simp [World.cell?, h, hu]
theorem row4 {w : World} {g : Nat} {x y z u : Value} {t : TypeId} (h : w.heap[g]? = some (.cells #[x, y, z, u] t (0, 0))) : w.cell? ⟨g, 0, none⟩ = some x ∧ w.cell? ⟨g, 1, none⟩ = some y ∧ w.cell? ⟨g, 2, none⟩ = some z ∧ w.cell? ⟨g, 3, none⟩ = some u := by
 have h2 := cells_of h
 exact ⟨h2 0 _ rfl, h2 1 _ rfl, h2 2 _ rfl, h2 3 _ rfl⟩
theorem own_any {w : World} {base : Nat} {E : TypeId} {z n : Nat} {v : Value} {vals : List Value} (h : w.ownsRow base E z v n vals) : w.ownsRow 0 E z v n vals := by
 refine ⟨h.1, ?_⟩
 rcases h.2 with h | ⟨g, cap, cur, hv, _, r⟩
 ·exact .inl h
 ·exact .inr ⟨g, cap, cur, hv, Nat.zero_le _, r⟩
theorem own_lt {w : World} {base : Nat} {E : TypeId} {z n : Nat} {v : Value} {vals : List Value} (h : w.ownsRow base E z v n vals) : ∀ g, v.ownBlock = some g → g < w.heap.size := by
 intro g hg
 rcases h.2 with ⟨rfl, _⟩ | ⟨g', cap, cur, rfl, _, hh, _⟩
 ·cases hg
 ·have : g' = g := by simpa [Value.ownBlock] using hg
  subst this; exact heapE_lt hh
theorem free_row {w : World} {g : Nat} {cs : Array Value} {t : TypeId} (h : w.heap[g]? = some (.cells cs t (0, 0))) (i : Nat) : w.frozen? ⟨g, i, none⟩ = false := by simp [World.frozen?, h]
def OwnF {α : Type} (E : TypeId) (z : Nat) (f : α → List Value) (w : World) (base : Nat) (v : Value) (l : List α) : Prop := w.ownsRow base E z v l.length (l.flatMap f)
section
variable {α : Type} {E : TypeId} {z : Nat} {f : α → List Value} {w w' : World} {base : Nat} {v : Value} {l : List α}
theorem OwnF.nil_ (E : TypeId) (z : Nat) (f : α → List Value) (w : World) (base : Nat) : OwnF E z f w base (.slice none 0 0) ([] : List α) := World.ownsRow_nil _ _ _ _
theorem flatF_len (hz : ∀ x, (f x).length = z) : ∀ l : List α, (l.flatMap f).length = l.length * z
 | [] => by simp
 | x :: l => by rw [List.flatMap_cons, List.length_append, hz, flatF_len hz l, List.length_cons, Nat.succ_mul]; omega
theorem flatF_at [Inhabited α] (hz : ∀ x, (f x).length = z) : ∀ (l : List α) (j i : Nat), j < l.length → i < z → (l.flatMap f)[j * z + i]? = (f (l.getD j default))[i]?
 | [], j, i, hj, _ => absurd hj (by simp)
 | x :: l, 0, i, _, hi => by
  rw [List.flatMap_cons, Nat.zero_mul, Nat.zero_add, List.getElem?_append_left (by rw [hz]; exact hi)]; rfl
 | x :: l, j + 1, i, hj, hi => by
  rw [List.flatMap_cons, List.getElem?_append_right (by rw [hz, Nat.succ_mul]; omega), hz]
  have e : (j + 1) * z + i - z = j * z + i := by rw [Nat.succ_mul]; omega
  rw [e, flatF_at hz l j i (by simpa using hj) hi]; rfl
theorem OwnF.kept (h : OwnF E z f w base v l) (hb : Below w.heap.size w w') : OwnF E z f w' base v l := by
 refine ⟨h.1, ?_⟩
 rcases h.2 with h | ⟨g, cap, cur, hv, hbg, hh, r⟩
 ·exact .inl h
 ·exact .inr ⟨g, cap, cur, hv, hbg, (hb.block g (heapE_lt hh)).trans hh, r⟩
theorem OwnF.less {base' : Nat} (h : OwnF E z f w base v l) (hb : base' ≤ base) : OwnF E z f w base' v l := by
 refine ⟨h.1, ?_⟩
 rcases h.2 with h | ⟨g, cap, cur, hv, hbg, r⟩
 ·exact .inl h
 ·exact .inr ⟨g, cap, cur, hv, Nat.le_trans hb hbg, r⟩
theorem OwnF.shape (h : OwnF E z f w base v l) : ∃ A c, v = .slice A l.length c := by
 rcases h.2 with ⟨rfl, h0⟩ | ⟨g, cap, cur, rfl, _⟩
 ·exact ⟨none, 0, by rw [h0]⟩
 ·exact ⟨some ⟨g, 0, none⟩, cap, rfl⟩
theorem OwnF.ge (h : OwnF E z f w base v l) : ∀ g, v.ownBlock = some g → base ≤ g := by
 intro g hg
 rcases h.2 with ⟨rfl, _⟩ | ⟨g', cap, cur, rfl, hb, _⟩
 ·cases hg
 ·have : g' = g := by simpa [Value.ownBlock] using hg
  omega
theorem OwnF.lt (h : OwnF E z f w base v l) : ∀ g, v.ownBlock = some g → g < w.heap.size := own_lt (own_any h)
theorem OwnF.alloc (h : OwnF E z f w base v l) (o : Obj) : OwnF E z f (w.alloc o) base v l := World.ownsRow.alloc h o
theorem OwnF.drewN (h : OwnF E z f w base v l) (k : Nat) : OwnF E z f (w.drewN k) base v l := h
/-- 'append(s, xs...)' at any row of things without memory. -/
theorem wplF_appA {S : TypeId} {bytes : Nat} {zero : Value} (hz : ∀ x, (f x).length = z) (h1c : ∀ x, ∀ u ∈ f x, u.oneCell' = true) (hu : Try.prog.underlying S = some (.slice E)) (hinfo : (Try.prog.info? E).map (fun i => (i.zero, i.size, i.bytes)) = some (some zero, z, bytes)) (hzs : zero.cells.size = z) (hz0 : 0 < z) (hby : bytes ≤ 100000)
  {ops : Array Oper} {rest : List Oper} {o : Oper} {a : Act} {Q : Exit → Act → World → Prop} (hgd : o.guard = none) (s x : Operand)
  (ho : o.op = .call { callee := .builtin .append, args := #[s, x], argTypes := #[S, S] })
  (base : Nat) (v : Value) (l : List α) (hs : a.eval s = v) (hown : OwnF E z f w base v l)
  (p : Addr) (m d : Nat) (ys : List α) (hx : a.eval x = .slice (some p) m d) (hm : ys.length = m) (hc : ∀ j u, (ys.flatMap f)[j]? = some u → w.cell? (p.add j) = some u) (hn : l.length + m ≤ 1000000000) (hbase : base ≤ w.heap.size)
  (h : ∀ v' w', OwnF E z f w' base v' (l ++ ys) → w.grownBy w' v.ownBlock → (v'.ownBlock = v.ownBlock ∨ v'.ownBlock = some w.heap.size) → wpList Try.prog ops Q rest (a.put o.dst v') w') :
  wpList Try.prog ops Q (o :: rest) a w := by
 obtain ⟨i0, hi, hz0', hz1, hz2⟩ := info_parts hinfo
 refine wpList_append_own_at w hgd s x S ho base E i0 zero z bytes hu hi hz0' hz1 hz2 hzs hz0 v l.length _ hs hown p m d (ys.flatMap f) hx (by rw [flatF_len hz, hm]) hc ?_ (by unfold maxLen; omega) (by have := Nat.mul_le_mul (show l.length + m ≤ 1000000000 from hn) hby; omega) hbase ?_
 ·intro u hu
  obtain ⟨x, _, hx⟩ := List.mem_flatMap.1 hu
  exact h1c x u hx
 ·intro v' w' hown' hg _ hat
  exact h v' w' (by unfold OwnF; rw [List.length_append, List.flatMap_append, hm]; exact hown') hg hat
end
section
variable {α : Type} {E : TypeId} {z : Nat} {f : α → List Value} {w w' : World} {base : Nat} {v : Value} {l : List α}
theorem opF_apps {S : TypeId} {bytes : Nat} {zero : Value} (hz : ∀ x, (f x).length = z) (h1c : ∀ x, ∀ u ∈ f x, u.oneCell' = true) (hu : Try.prog.underlying S = some (.slice E)) (hinfo : (Try.prog.info? E).map (fun i => (i.zero, i.size, i.bytes)) = some (some zero, z, bytes)) (hzs : zero.cells.size = z) (hz0 : 0 < z) (hby : bytes ≤ 100000)
  {o : Oper} {a : Act} {K : Act → World → Prop} {Q : Exit → Act → World → Prop} (s x : Operand)
  (ho : o.op = .call { callee := .builtin .append, args := #[s, x], argTypes := #[S, S] })
  (base : Nat) (v : Value) (l : List α) (hs : a.eval s = v) (hown : OwnF E z f w base v l)
  (b m d : Nat) (ys : List α) (hx : a.eval x = .slice (some ⟨b, 0, none⟩) m d) (hm : ys.length = m) (hm0 : 0 < m) (hc : ∀ j u, (ys.flatMap f)[j]? = some u → w.cell? ⟨b, j, none⟩ = some u) (hn : l.length + m ≤ 1000000000) (hbase : base ≤ w.heap.size)
  (h : ∀ g c w', OwnF E z f w' base (.slice (some ⟨g, 0, none⟩) (l.length + m) c) (l ++ ys) → w.grownBy w' v.ownBlock → K (a.put o.dst (.slice (some ⟨g, 0, none⟩) (l.length + m) c)) w') :
  o.wp Try.prog a w K Q := by
 obtain ⟨i0, hi, hz0', hz1, hz2⟩ := info_parts hinfo
 obtain ⟨v', w', hr, hown', hg, _, hat⟩ := run_append_own_at (P := Try.prog) w base S o.type E i0 zero z bytes hu hi hz0' hz1 hz2 hzs hz0 v l.length _ hown ⟨b, 0, none⟩ m d (ys.flatMap f) (by rw [flatF_len hz, hm]) (by
  intro j u hju
  have ha : (Addr.add ⟨b, 0, none⟩ j) = ⟨b, j, none⟩ := by
   unfold Addr.add
   by_cases h0 : j = 0 <;> simp [h0]
  rw [ha]; exact hc j u hju) (fun u hu => by obtain ⟨x, _, hx⟩ := List.mem_flatMap.1 hu; exact h1c x u hx) (by unfold maxLen; omega) (by have := Nat.mul_le_mul (show l.length + m ≤ 1000000000 from hn) hby; omega) hbase
 unfold Oper.wp execOp
 simp only [ho, resolve, invoke, builtin, Sem.run_bind, Sem.run_pure, Result.andThen_ok, List.map_toArray, List.map_cons, List.map_nil, hs, hx, hr]
 have ho' : OwnF E z f w' base v' (l ++ ys) := by unfold OwnF; rw [List.length_append, List.flatMap_append, hm]; exact hown'
 obtain ⟨g, c, hv, _, _⟩ := World.ownsRow.form hown' (by omega)
 subst hv
 exact h g c w' ho' hg
end
theorem OwnF.apart {α : Type} {E T : TypeId} {z : Nat} {f : α → List Value} {w w2 : World} {base g : Nat} {v : Value} {l : List α} {cs : Array Value} (h : OwnF E z f w base v l) (hg : w.heap[g]? = some (.cells cs T (0, 0))) (hT : T ≠ E) (hb : ∀ k, k < w.heap.size → k ≠ g → w2.heap[k]? = w.heap[k]?) : OwnF E z f w2 base v l := by
 refine ⟨h.1, ?_⟩
 rcases h.2 with h | ⟨b, cap, cur, hv, hbg, hh, r⟩
 ·exact .inl h
 ·refine .inr ⟨b, cap, cur, hv, hbg, (hb b (heapE_lt hh) (fun e => ?_)).trans hh, r⟩
  subst e
  rw [hg] at hh
  injection hh with hh
  injection hh with _ h2 _
  exact hT h2
/-- An order, an entry. -/
structure Od where
  key : Int
  svc : Int
  re : Nat
  im : Nat
  undo : Bool
def odF (o : Od) : List Value := [.int .i64 o.key, .int .i64 o.svc, .complex .f64 o.re o.im, .bool o.undo]
instance : Inhabited Od := ⟨⟨0, 0, 0, 0, false⟩⟩
theorem odF_len (o : Od) : (odF o).length = 4 := rfl
theorem odF_one (o : Od) : ∀ u ∈ odF o, u.oneCell' = true := by
  intro u hu
  simp [odF] at hu
  rcases hu with rfl | rfl | rfl | rfl <;> rfl
theorem infoOd : (Try.prog.info? 29).map (fun i => (i.zero, i.size, i.bytes)) = some (some (.agg #[.int .i64 0, .int .i64 0, .complex .f64 0 0, .bool false]), 4, 40) := by kernel_rfl
structure En where
  dead : Bool
  svc : Int
  re : Nat
  im : Nat
def env (e : En) : Value := .agg #[.bool e.dead, .int .i64 e.svc, .complex .f64 e.re e.im]
def noEn : Value := .agg #[.bool false, .int .i64 0, .complex .f64 0 0]
def held (v : Value) : Option (DataW Value × List MemPlace) := some (.held v, [])
theorem held_inj {v u : Value} {ps : List MemPlace} (h : held v = some (.held u, ps)) : v = u := by
  unfold held at h
  simp only [Option.some.injEq, Prod.mk.injEq, DataW.held.injEq] at h
  exact h.1
abbrev kI (k : Int) : Lit := .int .i64 k
def EnD (D : DataW Value) (F : Int → Option En) : Prop := ∀ k, Maps.has D (kI k) = (F k).isSome ∧ ∀ f, F k = some f → ∀ z, D.atKey (kI k) z = .held (env f)
def putF (F : Int → Option En) (k : Int) (f : En) : Int → Option En := fun x => if x = k then some f else F x
theorem kI_inj {a b : Int} (h : kI a = kI b) : a = b := by injection h
theorem keyLit (k : Int) : WideAt.IsKeyLit (kI k) := by simp [WideAt.IsKeyLit]
theorem enD_empty : EnD (.map []) (fun _ => none) := fun k => ⟨rfl, fun f h => by cases h⟩
theorem EnD.put {D : DataW Value} {F : Int → Option En} (h : EnD D F) (hm : Maps.IsMap D) (k : Int) (f : En) : EnD (D.put (kI k) (.held (env f))) (putF F k f) := fun x => by
  unfold putF
  by_cases e : x = k
  · subst e
    rw [if_pos rfl]
    exact ⟨Maps.has_put_same hm (keyLit _) _, fun f' hf z => by injection hf with hf; subst hf; exact Maps.atKey_put_same hm (keyLit _) _ z⟩
  · rw [if_neg e]
    have hne : kI x ≠ kI k := fun h => e (kI_inj h)
    exact ⟨(Maps.has_put_other hne _).trans (h x).1, fun f' hf z => (Maps.atKey_put_other hne _ z).trans ((h x).2 f' hf z)⟩
theorem keyedInt : Maps.Keyed Try.prog 3 := Maps.int_keyed Try.underlying3
theorem keyI {k : Int} (h0 : -9223372036854775808 ≤ k) (h1 : k ≤ 9223372036854775807) : keyOf Try.prog 3 (.int .i64 k) = some (kI k) :=
  Maps.keyOf_int_mk Try.underlying3 (by simp [Lit.wf]; exact ⟨h0, h1⟩)
theorem zeroEn (w : World) : (zeroValue 51).run Try.prog w = .ok noEn w := by kernel_rfl
def enAt (F : Int → Option En) (k : Int) : Value := match F k with | some e => env e | none => noEn
theorem look_any {w : World} {mb K : Nat} {D : DataW Value} {F : Int → Option En} (hown : w.ownsMap Try.prog 3 held mb K D) (hD : EnD D F) {k : Int} (h0 : -9223372036854775808 ≤ k) (h1 : k ≤ 9223372036854775807) :
    (Instr.lookup 38 (.map (some mb)) (.int .i64 k) true).run Try.prog w = .ok (.tuple #[enAt F k, .bool (F k).isSome]) w := by
  obtain ⟨v, ps, hrun, hv⟩ := hown.look_ok keyedInt Try.underlying38 (zeroEn w) (zd := .held noEn) (zp := []) rfl (keyI h0 h1)
  unfold enAt
  cases hf : F k with
  | some f =>
    rw [(hD k).2 f hf] at hv
    have e1 : v = env f := held_inj hv
    rw [e1, (hD k).1, hf] at hrun
    exact hrun
  | none =>
    have hh : Maps.has D (kI k) = false := by rw [(hD k).1, hf]; rfl
    rw [Maps.atKey_of_not_has hh] at hv
    have e1 : v = noEn := held_inj hv
    rw [e1, hh] at hrun
    exact hrun
/-- Where a fleet of one service stands: fb its cells, mb its map; its rows lie behind fb. -/
structure FlX (w : World) (fb mb K pb cp : Nat) (AL : Option Addr) (nL cL : Nat) (ps : Int × Int) (E : Int → Option En) (l : List Od) (ch : Int) : Prop where
  lt : mb < fb
  cells : w.heap[fb]? = some (.cells #[.slice (some ⟨pb, 0, none⟩) 1 cp, .map (some mb), .slice AL nL cL, .int .i64 ch] 41 (0, 0))
  pl : OwnC w (fb + 1) (.slice (some ⟨pb, 0, none⟩) 1 cp) 1 [ps]
  late : OwnF 29 4 odF w (fb + 1) (.slice AL nL cL) l
  map : ∃ D, w.ownsMap Try.prog 3 held mb K D ∧ EnD D E
/-- Nothing but some blocks, and new ones, is another. -/
structure Fr (w w' : World) (M : Nat → Prop) : Prop where
  os : w'.os = w.os
  tape : w'.tape = w.tape
  output : w'.output = w.output
  size : w.heap.size ≤ w'.heap.size
  block : ∀ b, b < w.heap.size → ¬ M b → w'.heap[b]? = w.heap[b]?
theorem Fr.refl (w : World) (M : Nat → Prop) : Fr w w M := ⟨rfl, rfl, rfl, Nat.le_refl _, fun _ _ _ => rfl⟩
theorem Fr.trans {w w1 w2 : World} {M M' : Nat → Prop} (h : Fr w w1 M) (k : Fr w1 w2 M') (hm : ∀ b, M' b → M b ∨ w.heap.size ≤ b) : Fr w w2 M :=
  ⟨k.os.trans h.os, k.tape.trans h.tape, k.output.trans h.output, Nat.le_trans h.size k.size, fun b hb hn => by
    rw [k.block b (Nat.lt_of_lt_of_le hb h.size) (fun hm' => by
      rcases hm b hm' with e | e
      · exact hn e
      · omega)]
    exact h.block b hb hn⟩
theorem Fr.same {w w1 w2 : World} {M : Nat → Prop} (h : Fr w w1 M) (k : Fr w1 w2 M) : Fr w w2 M := h.trans k (fun b hb => .inl hb)
theorem Fr.of_below {w w1 : World} {M : Nat → Prop} (h : Below w.heap.size w w1) : Fr w w1 M := ⟨h.os, h.tape, h.output, h.size, fun b hb _ => h.block b hb⟩
theorem Fr.then_below {w w1 w2 : World} {M : Nat → Prop} (h : Fr w w1 M) (k : Below w1.heap.size w1 w2) : Fr w w2 M := h.trans (M' := fun _ => False) ⟨k.os, k.tape, k.output, k.size, fun b hb _ => k.block b hb⟩ (fun b hb => hb.elim)
theorem Fr.of_below_then {w w1 w2 : World} {M : Nat → Prop} (h : Below w.heap.size w w1) (k : Fr w1 w2 M) : Fr w w2 M := (Fr.of_below h).same k
theorem Fr.setCell (w : World) (M : Nat → Prop) {p : Addr} (hp : M p.block) (u : Value) : Fr w (w.setCell p u) M :=
  ⟨rfl, rfl, rfl, by simp, fun b hb hn => heap_setCell_other w p b u (fun e => hn (by rw [e]; exact hp))⟩
theorem Fr.grown {w w1 : World} {M : Nat → Prop} {row : Option Nat} (h : w.grownBy w1 row) (hr : ∀ g, row = some g → M g) : Fr w w1 M :=
  ⟨h.os, h.tape, h.output, h.size, fun b hb hn => h.block b hb (fun e => hn (hr b e.symm))⟩
theorem Fr.drewN (w : World) (M : Nat → Prop) (k : Nat) : Fr w (w.drewN k) M := ⟨rfl, rfl, rfl, Nat.le_refl _, fun _ _ _ => rfl⟩
theorem Fr.drew {w w1 : World} {M : Nat → Prop} (h : Fr w w1 M) : Fr w w1.drew M := ⟨h.os, h.tape, h.output, h.size, h.block⟩
theorem Fr.below {w w1 : World} {M : Nat → Prop} {B : Nat} (h : Fr w w1 M) (hB : B ≤ w.heap.size) (hM : ∀ g, g < B → ¬ M g) : Below B w w1 := ⟨h.os, h.tape, h.output, h.size, fun b hb => h.block b (Nat.lt_of_lt_of_le hb hB) (hM b hb)⟩
theorem Fr.wide {w w1 : World} {M M' : Nat → Prop} (h : Fr w w1 M) (hm : ∀ g, M g → M' g) : Fr w w1 M' := ⟨h.os, h.tape, h.output, h.size, fun b hb hn => h.block b hb (fun e => hn (hm b e))⟩
/-- The blocks that are a fleet's own. -/
def MyB (M : Nat → Prop) (fb mb pb : Nat) (AL : Option Addr) (nL cL : Nat) : Prop := M fb ∧ M mb ∧ M pb ∧ ∀ g, (Value.slice AL nL cL).ownBlock = some g → M g
def Fl (w : World) (M : Nat → Prop) (fb mb K : Nat) (ps : Int × Int) (E : Int → Option En) (l : List Od) (ch : Int) : Prop := ∃ pb cp AL nL cL, FlX w fb mb K pb cp AL nL cL ps E l ch ∧ MyB M fb mb pb AL nL cL
section
variable {w w' : World} {fb mb K pb cp nL cL : Nat} {AL : Option Addr} {ps : Int × Int} {E : Int → Option En} {l : List Od} {ch : Int}
theorem FlX.dlt (h : FlX w fb mb K pb cp AL nL cL ps E l ch) : fb < w.heap.size := heapE_lt h.cells
theorem OwnC.kept {base n : Nat} {v : Value} {zs : List (Int × Int)} (h : OwnC w base v n zs) (hb : Below w.heap.size w w') : OwnC w' base v n zs := by
  refine ⟨h.1, ?_⟩
  rcases h.2 with h | ⟨g, cap, cur, hv, hbg, hh, r⟩
  · exact .inl h
  · exact .inr ⟨g, cap, cur, hv, hbg, (hb.block g (heapE_lt hh)).trans hh, r⟩
theorem own_map_kept {D : DataW Value} (h : w.ownsMap Try.prog 3 held mb K D) (hb : w'.heap[mb]? = w.heap[mb]?) : w'.ownsMap Try.prog 3 held mb K D := by
  obtain ⟨es, clock, hh, r⟩ := h
  exact ⟨es, clock, hb.trans hh, r⟩
theorem FlX.kept (h : FlX w fb mb K pb cp AL nL cL ps E l ch) (hb : Below w.heap.size w w') : FlX w' fb mb K pb cp AL nL cL ps E l ch := by
  obtain ⟨D, hm, hD⟩ := h.map
  exact ⟨h.lt, (hb.block fb h.dlt).trans h.cells, h.pl.kept hb, h.late.kept hb, D, own_map_kept hm (hb.block mb (Nat.lt_trans h.lt h.dlt)), hD⟩
theorem FlX.row (h : FlX w fb mb K pb cp AL nL cL ps E l ch) : fb < pb ∧ w.cell? ⟨pb, 0, none⟩ = some (cv ps) ∧ w.frozen? ⟨pb, 0, none⟩ = false ∧ (∃ cs, w.heap[pb]? = some (.cells cs 26 (0, 0))) := by
  have hp := h.pl
  rcases hp.2 with ⟨e, _⟩ | ⟨g, cap, cur, hv, hbg, hh, r⟩
  · cases e
  · injection hv with e1 _ _
    injection e1 with e1
    injection e1 with e1 _ _
    subst e1
    obtain ⟨b, off, e, _, hc⟩ := (OwnC.rd hp).at_ (k := 0) (by omega)
    injection e with e
    injection e with e1 e2 _
    subst e1 e2
    exact ⟨by omega, hc, by simp [World.frozen?, hh], cur, hh⟩
theorem OwnC.store1 {base g c : Nat} {p : Int × Int} {u : Int × Int} (h : OwnC w base (.slice (some ⟨g, 0, none⟩) 1 c) 1 [p]) : OwnC (w.setCell ⟨g, 0, none⟩ (cv u)) base (.slice (some ⟨g, 0, none⟩) 1 c) 1 [u] := by
  have := (World.ownsRow.stored h 0 (cv u)).1
  exact this
/-- The place is set. -/
theorem FlX.setPl (h : FlX w fb mb K pb cp AL nL cL ps E l ch) (u : Int × Int) : FlX (w.setCell ⟨pb, 0, none⟩ (cv u)) fb mb K pb cp AL nL cL u E l ch := by
  obtain ⟨hfp, _, _, cs, hcs⟩ := h.row
  obtain ⟨D, hm, hD⟩ := h.map
  have ho : ∀ k, k ≠ pb → (w.setCell ⟨pb, 0, none⟩ (cv u)).heap[k]? = w.heap[k]? := fun k hk => heap_setCell_other w ⟨pb, 0, none⟩ k _ hk
  have hl := h.lt
  exact ⟨h.lt, (ho fb (by omega)).trans h.cells, h.pl.store1, h.late.apart hcs (by decide) (fun k _ hk => ho k hk), D, own_map_kept hm (ho mb (by omega)), hD⟩
/-- The count is set. -/
theorem FlX.setCh (h : FlX w fb mb K pb cp AL nL cL ps E l ch) (u : Int) : FlX (w.setCell ⟨fb, 3, none⟩ (.int .i64 u)) fb mb K pb cp AL nL cL ps E l u := by
  obtain ⟨D, hm, hD⟩ := h.map
  have ho : ∀ k, k ≠ fb → (w.setCell ⟨fb, 3, none⟩ (.int .i64 u)).heap[k]? = w.heap[k]? := fun k hk => heap_setCell_other w ⟨fb, 3, none⟩ k _ hk
  have hl := h.lt
  have hfp := h.row.1
  refine ⟨h.lt, heap_setCell_same w fb 3 _ _ _ h.cells, ?_, h.late.apart h.cells (by decide) (fun k _ hk => ho k hk), D, own_map_kept hm (ho mb (by omega)), hD⟩
  have hp := h.pl
  refine ⟨hp.1, ?_⟩
  rcases hp.2 with e | ⟨g, cap, cur, hv, hbg, hh, r⟩
  · exact .inl e
  · exact .inr ⟨g, cap, cur, hv, hbg, (ho g (by omega)).trans hh, r⟩
/-- The map is set. -/
theorem FlX.put (h : FlX w fb mb K pb cp AL nL cL ps E l ch) (hK : K ≤ 1000000) {k : Int} (h0 : -9223372036854775808 ≤ k) (h1 : k ≤ 9223372036854775807) (e : En) : ∃ w', (Instr.mapUpdate 38 (.map (some mb)) (.int .i64 k) (env e)).run Try.prog w = .ok () w' ∧ FlX w' fb mb (K + 1) pb cp AL nL cL ps (putF E k e) l ch ∧ w.grownBy w' (some mb) := by
  obtain ⟨D, hm, hD⟩ := h.map
  have hl := h.lt
  have hfp := h.row.1
  obtain ⟨w', hrun, hown', hg⟩ := hm.update keyedInt Try.underlying38 (by unfold maxLen; omega) (keyI h0 h1) (show held (env e) = some (.held (env e), []) from rfl)
  have ho : ∀ g, g < w.heap.size → g ≠ mb → w'.heap[g]? = w.heap[g]? := fun g hg1 hg2 => hg.block g hg1 (fun e => hg2 (by injection e with e))
  refine ⟨w', hrun, ⟨hl, (ho fb h.dlt (by omega)).trans h.cells, ?_, ?_, _, hown', hD.put hm.isMap k e⟩, hg⟩
  · have hp := h.pl
    refine ⟨hp.1, ?_⟩
    rcases hp.2 with e | ⟨g, cap, cur, hv, hbg, hh, r⟩
    · exact .inl e
    · exact .inr ⟨g, cap, cur, hv, hbg, (ho g (heapE_lt hh) (by omega)).trans hh, r⟩
  · have hp := h.late
    refine ⟨hp.1, ?_⟩
    rcases hp.2 with e | ⟨g, cap, cur, hv, hbg, hh, r⟩
    · exact .inl e
    · exact .inr ⟨g, cap, cur, hv, hbg, (ho g (heapE_lt hh) (by omega)).trans hh, r⟩
theorem FlX.look (h : FlX w fb mb K pb cp AL nL cL ps E l ch) {k : Int} (h0 : -9223372036854775808 ≤ k) (h1 : k ≤ 9223372036854775807) :
    (Instr.lookup 38 (.map (some mb)) (.int .i64 k) true).run Try.prog w = .ok (.tuple #[enAt E k, .bool (E k).isSome]) w := by
  obtain ⟨D, hown, hD⟩ := h.map
  exact look_any hown hD h0 h1
theorem FlX.drewN (h : FlX w fb mb K pb cp AL nL cL ps E l ch) (n : Nat) : FlX (w.drewN n) fb mb K pb cp AL nL cL ps E l ch := h.kept ⟨rfl, rfl, rfl, Nat.le_refl _, fun _ _ => rfl⟩
theorem FlX.drew (h : FlX w fb mb K pb cp AL nL cL ps E l ch) : FlX w.drew fb mb K pb cp AL nL cL ps E l ch := h.kept ⟨rfl, rfl, rfl, Nat.le_refl _, fun _ _ => rfl⟩
theorem FlX.c (h : FlX w fb mb K pb cp AL nL cL ps E l ch) : w.cell? ⟨fb, 0, none⟩ = some (.slice (some ⟨pb, 0, none⟩) 1 cp) ∧ w.cell? ⟨fb, 1, none⟩ = some (.map (some mb)) ∧ w.cell? ⟨fb, 2, none⟩ = some (.slice AL nL cL) ∧ w.cell? ⟨fb, 3, none⟩ = some (.int .i64 ch) := row4 h.cells
theorem FlX.fz (h : FlX w fb mb K pb cp AL nL cL ps E l ch) (i : Nat) : w.frozen? ⟨fb, i, none⟩ = false := free_row h.cells i
theorem FlX.nl (h : FlX w fb mb K pb cp AL nL cL ps E l ch) : nL = l.length := by
  obtain ⟨A, c, e⟩ := h.late.shape
  injection e
end
end Go.Proofs.Ytjppaonaiafgeaa
