/-
 WORDS FOR MEMORY: slices of things that hold slices; catalogues.
-/
import Derived.Test.YtminihiecloglaaGreatRPa
import Derived.WalkKit
import Derived.WalkSpells
import Derived.WalkSmall
import Derived.Laws.OwnMore
import Derived.Deep.AppendLies
import Derived.Deep.Draws
import Derived.Lib.Hide
import Derived.Maps.AppendAt
set_option linter.unusedVariables false
set_option linter.unusedSimpArgs false
namespace Go.Proofs.YtminihiecloglaaGreat
open Go.RowKit
open SemP
set_option maxRecDepth 10000
theorem heapE_lt {w : World} {g : Nat} {o : Obj} (h : w.heap[g]? = some o) : g < w.heap.size := by
 rcases Nat.lt_or_ge g w.heap.size with hlt | hge
 ·exact hlt
 ·rw [Array.getElem?_eq_none hge] at h; cases h
theorem grown_set (w : World) (rb i : Nat) (u : Value) : w.grownBy (w.setCell ⟨rb, i, none⟩ u) (some rb) :=
 ⟨rfl, rfl, rfl, by simp, fun k hk hne => Below.heap_setCell w _ _ k (fun e => hne (by rw [e]))⟩
theorem grown_alloc1 (w : World) (o : Obj) (row : Option Nat) : w.grownBy (w.alloc o) row := ⟨rfl, rfl, rfl, by simp, fun k hk _ => Below.heap_alloc w o k hk⟩
theorem heap_new (w : World) (o : Obj) : (w.alloc o).heap[w.heap.size]? = some o := by
 unfold World.alloc
 exact Array.getElem?_push_size
theorem row1f {w : World} {g : Nat} {x : Value} {t : TypeId} (h : w.heap[g]? = some (.cells #[x] t (0, 0))) : w.cell? ⟨g, 0, none⟩ = some x ∧ w.frozen? ⟨g, 0, none⟩ = false :=
 ⟨by rw [cell_of_row w g 0 _ _ _ h]; rfl, frozen_of_row w g 0 _ _ h⟩
theorem row2 {w : World} {g : Nat} {x y : Value} {t : TypeId} (h : w.heap[g]? = some (.cells #[x, y] t (0, 0))) : w.cell? ⟨g, 0, none⟩ = some x ∧ w.cell? ⟨g, 1, none⟩ = some y ∧ w.frozen? ⟨g, 0, none⟩ = false ∧ w.frozen? ⟨g, 1, none⟩ = false :=
 ⟨by rw [cell_of_row w g 0 _ _ _ h]; rfl, by rw [cell_of_row w g 1 _ _ _ h]; rfl, frozen_of_row w g 0 _ _ h, frozen_of_row w g 1 _ _ h⟩
theorem r6_cells {w : World} {g : Nat} {a b c d e f : Value} {T : TypeId} (h : w.heap[g]? = some (.cells #[a, b, c, d, e, f] T (0, 0))) : w.cell? ⟨g, 0, none⟩ = some a ∧ w.cell? ⟨g, 1, none⟩ = some b ∧ w.cell? ⟨g, 2, none⟩ = some c ∧ w.cell? ⟨g, 3, none⟩ = some d ∧ w.cell? ⟨g, 4, none⟩ = some e ∧ w.cell? ⟨g, 5, none⟩ = some f ∧ (∀ i, w.frozen? ⟨g, i, none⟩ = false) :=
 ⟨by simp [World.cell?, h], by simp [World.cell?, h], by simp [World.cell?, h], by simp [World.cell?, h], by simp [World.cell?, h], by simp [World.cell?, h], fun i => by simp [World.frozen?, h]⟩
def ccell (T : TypeId) (op a b c : Int) (t : ByteArray) : Obj := .cells #[.int .i64 op, .int .i64 a, .int .i64 b, .int .i64 c, .string t] T (0, 0)
theorem cc_cells {w : World} {g : Nat} {T : TypeId} {op a b c : Int} {t : ByteArray} (h : w.heap[g]? = some (ccell T op a b c t)) : w.cell? ⟨g, 0, none⟩ = some (.int .i64 op) ∧ w.cell? ⟨g, 1, none⟩ = some (.int .i64 a) ∧ w.cell? ⟨g, 2, none⟩ = some (.int .i64 b) ∧ w.cell? ⟨g, 3, none⟩ = some (.int .i64 c) ∧ w.cell? ⟨g, 4, none⟩ = some (.string t) ∧ (∀ i, w.frozen? ⟨g, i, none⟩ = false) := by
 refine ⟨?_, ?_, ?_, ?_, ?_, fun i => ?_⟩
 ·simp [World.cell?, h, ccell]
 ·simp [World.cell?, h, ccell]
 ·simp [World.cell?, h, ccell]
 ·simp [World.cell?, h, ccell]
 ·simp [World.cell?, h, ccell]
 ·simp [World.frozen?, h, ccell]
def c5 (x : CV) : List Value := [.int .i64 x.op, .int .i64 x.a, .int .i64 x.b, .int .i64 x.c, .string x.s]
structure FrM (w w' : World) (M : Nat → Prop) : Prop where
 size : w.heap.size ≤ w'.heap.size
 block : ∀ b, b < w.heap.size → ¬ M b → w'.heap[b]? = w.heap[b]?
theorem FrM.refl (w : World) (M : Nat → Prop) : FrM w w M := ⟨Nat.le_refl _, fun _ _ _ => rfl⟩
theorem FrM.of_grown {w w' : World} {row : Option Nat} {M : Nat → Prop} (h : w.grownBy w' row) (hr : ∀ g, row = some g → M g) : FrM w w' M := ⟨h.size, fun b hb hn => h.block b hb (fun e => hn (hr b e.symm))⟩
theorem FrM.of_below {w w' : World} {B : Nat} {M : Nat → Prop} (h : Below B w w') (hM : ∀ b, b < w.heap.size → B ≤ b → M b) : FrM w w' M := ⟨h.size, fun b hb hn => h.block b (by
 rcases Nat.lt_or_ge b B with h1 | h1
 ·exact h1
 ·exact absurd (hM b hb h1) hn)⟩
abbrev ItT (α : Type) := World → (Nat → Prop) → List Value → α → Prop
structure Turns {α : Type} (I : ItT α) : Prop where
 go : ∀ {w w' : World} {M M' : Nat → Prop} {vs : List Value} {x : α}, I w M vs x → FrM w w' M → (∀ b, M' b → M b ∨ w.heap.size ≤ b) → I w' M' vs x
def RdJ {α : Type} [Inhabited α] (z : Nat) (I : ItT α) (w : World) (M : Nat → Prop) (A : Option Addr) (n : Nat) (l : List α) : Prop :=
 l.length = n ∧ ∀ j, j < n → ∃ b off vs, A = some ⟨b, off, none⟩ ∧ b < w.heap.size ∧ ¬ M b ∧ vs.length = z ∧ (∀ i v, vs[i]? = some v → w.cell? ⟨b, off + j * z + i, none⟩ = some v) ∧ I w M vs (l.getD j default)
theorem RdJ.turn {α : Type} [Inhabited α] {z : Nat} {I : ItT α} (hI : Turns I) {w w' : World} {M M' : Nat → Prop} {A : Option Addr} {n : Nat} {l : List α} (h : RdJ z I w M A n l) (hf : FrM w w' M) (hM : ∀ b, M' b → M b ∨ w.heap.size ≤ b) : RdJ z I w' M' A n l := ⟨h.1, fun j hj => by
 obtain ⟨b, off, vs, e, hb, hn, hl, hc, hi⟩ := h.2 j hj
 exact ⟨b, off, vs, e, Nat.lt_of_lt_of_le hb hf.size, fun h' => (hM b h').elim hn (fun h2 => by omega), hl, fun i v hv => (World.cell?_of_block (a := ⟨b, off + j * z + i, none⟩) (hf.block b hb hn)).trans (hc i v hv), hI.go hi hf hM⟩⟩
def CapA (A : Option Addr) (n c : Nat) : Prop := (A = none ∧ n = 0 ∧ c = 0) ∨ ∃ x, A = some x ∧ n ≤ c ∧ c ≤ 9223372036854775807
def SlI {α : Type} [Inhabited α] (z : Nat) (I : ItT α) : ItT (List α) := fun w M vs l => ∃ A n c, vs = [.slice A n c] ∧ CapA A n c ∧ RdJ z I w M A n l
theorem SlI.turns {α : Type} [Inhabited α] {z : Nat} {I : ItT α} (hI : Turns I) : Turns (SlI z I) := ⟨fun ⟨A, n, c, e, hc, h⟩ hf hM => ⟨A, n, c, e, hc, h.turn hI hf hM⟩⟩
def FlI {α : Type} (f : α → List Value) : ItT α := fun _ _ vs x => vs = f x
theorem FlI.turns {α : Type} {f : α → List Value} : Turns (FlI f) := ⟨fun h _ _ => h⟩
def TwI {α β : Type} (I : ItT α) (J : ItT β) : ItT (α × β) := fun w M vs x => ∃ us ts, vs = us ++ ts ∧ I w M us x.1 ∧ J w M ts x.2
theorem TwI.turns {α β : Type} {I : ItT α} {J : ItT β} (hI : Turns I) (hJ : Turns J) : Turns (TwI I J) := ⟨fun ⟨us, ts, e, h1, h2⟩ hf hM => ⟨us, ts, e, hI.go h1 hf hM, hJ.go h2 hf hM⟩⟩
def Ap (base : Nat) (v : Value) (b : Nat) : Prop := v.ownBlock = some b ∨ b < base
def OwnJ {α : Type} [Inhabited α] (E : TypeId) (z : Nat) (I : ItT α) (w : World) (base : Nat) (v : Value) (l : List α) : Prop :=
 ∃ vals, w.ownsRow base E z v l.length vals ∧ ∀ j, j < l.length → ∃ vs, vs.length = z ∧ (∀ i x, vs[i]? = some x → vals[j * z + i]? = some x) ∧ I w (Ap base v) vs (l.getD j default)
section
variable {α : Type} [Inhabited α] {E : TypeId} {z : Nat} {I : ItT α} {w w' : World} {base : Nat} {v : Value} {l : List α}
theorem OwnJ.nil_ (E : TypeId) (z : Nat) (I : ItT α) (w : World) (base : Nat) : OwnJ E z I w base (.slice none 0 0) ([] : List α) := ⟨[], World.ownsRow_nil _ _ _ _, fun j hj => absurd hj (by simp)⟩
theorem OwnJ.shape (h : OwnJ E z I w base v l) : ∃ A c, v = .slice A l.length c := by
 obtain ⟨vals, h, _⟩ := h
 rcases h.2 with ⟨rfl, h0⟩ | ⟨g, cap, cur, rfl, _⟩
 ·exact ⟨none, 0, by rw [h0]⟩
 ·exact ⟨some ⟨g, 0, none⟩, cap, rfl⟩
theorem OwnJ.ge (h : OwnJ E z I w base v l) : ∀ g, v.ownBlock = some g → base ≤ g ∧ g < w.heap.size := by
 intro g hg
 obtain ⟨vals, h, _⟩ := h
 rcases h.2 with ⟨rfl, _⟩ | ⟨g', cap, cur, rfl, hb, hh, _⟩
 ·cases hg
 ·have : g' = g := by simpa [Value.ownBlock] using hg
  subst this
  exact ⟨hb, heapE_lt hh⟩
theorem OwnJ.turn (hI : Turns I) (h : OwnJ E z I w base v l) {row : Option Nat} (hg : w.grownBy w' row) (hr : ∀ g, row = some g → g < base) : OwnJ E z I w' base v l := by
 have hge := h.ge
 obtain ⟨vals, ho, hj⟩ := h
 refine ⟨vals, World.ownsRow.kept ho hg ?_, fun j hl => ?_⟩
 ·cases hv : v.ownBlock with
  | none => exact .inl rfl
  | some g => right; intro e; have := hr g e.symm; have := (hge g hv).1; omega
 ·obtain ⟨vs, h1, h2, h3⟩ := hj j hl
  exact ⟨vs, h1, h2, hI.go h3 (FrM.of_grown hg (fun g hg' => .inr (hr g hg'))) (fun b hb => .inl hb)⟩
theorem OwnJ.alloc (hI : Turns I) (h : OwnJ E z I w base v l) (o : Obj) : OwnJ E z I (w.alloc o) base v l := h.turn hI (row := none) (grown_alloc1 w o none) (fun g hg => by cases hg)
theorem OwnJ.rd (hI : Turns I) {A : Option Addr} {n c : Nat} (h : OwnJ E z I w base (.slice A n c) l) {M : Nat → Prop} (hM : ∀ b, M b → b < base ∨ w.heap.size ≤ b) : RdJ z I w M A n l := by
 obtain ⟨A', c', e⟩ := h.shape
 injection e with e1 e2 e3
 subst e1 e2 e3
 refine ⟨rfl, fun j hj => ?_⟩
 obtain ⟨vals, ho, hv⟩ := h
 obtain ⟨vs, h1, h2, h3⟩ := hv j hj
 obtain ⟨g, cap, hv', hge, hlt⟩ := World.ownsRow.form ho (by omega)
 injection hv' with e1 _ _
 subst e1
 refine ⟨g, 0, vs, rfl, hlt, fun hm => (hM g hm).elim (fun h => by omega) (fun h => by omega), h1, fun i x hx => ?_, hI.go h3 (FrM.refl w _) (fun b hb => ?_)⟩
 ·have k := World.ownsRow.cells ho (g := g) rfl _ _ (h2 i x hx)
  have ha : (Addr.add ⟨g, 0, none⟩ (j * z + i)) = ⟨g, 0 + j * z + i, none⟩ := by
   unfold Addr.add
   by_cases h0 : j * z + i = 0
   ·rw [if_pos h0]; congr 1; omega
   ·rw [if_neg h0]; simp
  rw [ha] at k
  exact k
 ·rcases hM b hb with h | h
  ·exact .inl (.inr h)
  ·exact .inr h
theorem OwnJ.capA {A : Option Addr} {n c : Nat} (h : OwnJ E z I w base (.slice A n c) l) : CapA A n c := by
 obtain ⟨vals, h, _⟩ := h
 rcases h.2 with ⟨e, h0⟩ | ⟨g, cap, cur, e, _, _, h1, h2, _⟩
 ·injection e with e1 e2 e3; exact .inl ⟨e1, e2, e3⟩
 ·injection e with e1 e2 e3; subst e1 e2 e3; exact .inr ⟨_, rfl, h1, by unfold maxLen at h2; omega⟩
theorem OwnJ.item (hI : Turns I) (h : OwnJ E z I w base v l) {M : Nat → Prop} (hM : ∀ b, M b → b < base ∨ w.heap.size ≤ b) : SlI z I w M [v] l := by
 obtain ⟨A, c, rfl⟩ := h.shape
 exact ⟨A, l.length, c, rfl, h.capA, h.rd hI hM⟩
theorem OwnJ.push (hI : Turns I) {vals vs : List Value} {v' : Value} {x : α} (hown : w.ownsRow base E z v l.length vals) (hj : ∀ j, j < l.length → ∃ vs, vs.length = z ∧ (∀ i x, vs[i]? = some x → vals[j * z + i]? = some x) ∧ I w (Ap base v) vs (l.getD j default))
  (hz : vs.length = z) (hx : I w (Ap base v) vs x) (hbase : base ≤ w.heap.size) (hown' : w'.ownsRow base E z v' (l.length + 1) (vals ++ vs)) (hg : w.grownBy w' v.ownBlock) (hat : v'.ownBlock = v.ownBlock ∨ v'.ownBlock = some w.heap.size) : OwnJ E z I w' base v' (l ++ [x]) := by
 have hvl : vals.length = l.length * z := hown.1
 have hkeep : ∀ {us : List Value} {y : α}, I w (Ap base v) us y → I w' (Ap base v') us y := by
  intro us y h0
  refine hI.go h0 (FrM.of_grown hg (fun g hg' => .inl hg')) (fun b hb => ?_)
  rcases hb with h3 | h3
  ·rcases hat with h4 | h4
   ·exact .inl (.inl (by rw [← h4]; exact h3))
   ·have h5 : some w.heap.size = some b := h4.symm.trans h3
    injection h5 with h5
    exact .inr (by omega)
  ·exact .inl (.inr h3)
 refine ⟨vals ++ vs, by rw [List.length_append]; exact hown', fun j hjk => ?_⟩
 rw [List.length_append, List.length_singleton] at hjk
 by_cases hlt : j < l.length
 ·obtain ⟨us, h1, h2, h3⟩ := hj j hlt
  have e2 : (l ++ [x]).getD j default = l.getD j default := by
   rw [List.getD_eq_getElem?_getD, List.getElem?_append_left hlt, ← List.getD_eq_getElem?_getD]
  rw [e2]
  refine ⟨us, h1, fun i u hu => ?_, hkeep h3⟩
  have h4 := h2 i u hu
  have h5 : j * z + i < vals.length := by
   rcases Nat.lt_or_ge (j * z + i) vals.length with h | h
   ·exact h
   ·rw [List.getElem?_eq_none h] at h4; cases h4
  rw [List.getElem?_append_left h5]; exact h4
 ·obtain rfl : j = l.length := by omega
  have e2 : (l ++ [x]).getD l.length default = x := by
   rw [List.getD_eq_getElem?_getD, List.getElem?_append_right (Nat.le_refl _), Nat.sub_self]; rfl
  rw [e2]
  refine ⟨vs, hz, fun i u hu => ?_, hkeep hx⟩
  rw [List.getElem?_append_right (by omega), hvl, Nat.add_sub_cancel_left]; exact hu
end
theorem wplJ_app {α : Type} [Inhabited α] {S E : TypeId} {z bytes : Nat} {zero : Value} {I : ItT α} (hI : Turns I) (hu : Tryz.prog.underlying S = some (.slice E)) (hinfo : (Tryz.prog.info? E).map (fun i => (i.zero, i.size, i.bytes)) = some (some zero, z, bytes)) (hzs : zero.cells.size = z) (hz0 : 0 < z) (hby : bytes ≤ 100000)
  {w : World} {ops : Array Oper} {rest : List Oper} {o : Oper} {a : Act} {Q : Exit → Act → World → Prop} (hgd : o.guard = none) (s x : Operand)
  (ho : o.op = .call { callee := .builtin .append, args := #[s, x], argTypes := #[S, S] })
  (base : Nat) (v : Value) (l : List α) (hs : a.eval s = v) (hown : OwnJ E z I w base v l)
  (b : Nat) (vs : List Value) (y : α) (hx : a.eval x = .slice (some ⟨b, 0, none⟩) 1 1) (hvz : vs.length = z) (hc : ∀ i u, vs[i]? = some u → w.cell? ⟨b, i, none⟩ = some u) (h1 : ∀ u ∈ vs, u.oneCell' = true) (hy : I w (Ap base v) vs y) (hn : l.length ≤ 1000000000) (hbase : base ≤ w.heap.size)
  (h : ∀ g c w', OwnJ E z I w' base (.slice (some ⟨g, 0, none⟩) (l.length + 1) c) (l ++ [y]) → w.grownBy w' v.ownBlock → wpList Tryz.prog ops Q rest (a.put o.dst (.slice (some ⟨g, 0, none⟩) (l.length + 1) c)) w') :
  wpList Tryz.prog ops Q (o :: rest) a w := by
 obtain ⟨i0, hi, hz0', hz1, hz2⟩ := info_parts hinfo
 obtain ⟨vals, hrow, hj⟩ := hown
 refine wpList_append_own_at w hgd s x S ho base E i0 zero z bytes hu hi hz0' hz1 hz2 hzs hz0 v l.length _ hs hrow ⟨b, 0, none⟩ 1 1 vs hx (by omega) ?_ h1 (by unfold maxLen; omega) (by have := Nat.mul_le_mul (show l.length + 1 ≤ 1000000001 by omega) hby; omega) hbase ?_
 ·intro j u hju
  have ha : (Addr.add ⟨b, 0, none⟩ j) = ⟨b, j, none⟩ := by
   unfold Addr.add
   by_cases h0 : j = 0 <;> simp [h0]
  rw [ha]; exact hc j u hju
 ·intro v' w' hown' hg _ hat
  have ho' := OwnJ.push hI hrow hj hvz hy hbase hown' hg hat
  obtain ⟨g, c, hv, _, _⟩ := World.ownsRow.form hown' (by omega)
  subst hv
  exact h g c w' ho' hg
theorem cells_of {w : World} {g : Nat} {vs : Array Value} {T : TypeId} (h : w.heap[g]? = some (.cells vs T (0, 0))) : ∀ i u, vs.toList[i]? = some u → w.cell? ⟨g, i, none⟩ = some u := by
 intro i u hu
 rw [Array.getElem?_toList] at hu
 simp [World.cell?, h, hu]
/-! ### The things -/
def cmI : ItT CV := FlI c5
theorem cm_turns : Turns cmI := FlI.turns
def liI : ItT (List CV) := SlI 5 cmI
theorem li_turns : Turns liI := SlI.turns cm_turns
def rgI : ItT (List (List CV)) := SlI 1 liI
theorem rg_turns : Turns rgI := SlI.turns li_turns
def inI : ItT Int := FlI (fun n => [.int .i64 n])
theorem in_turns : Turns inI := FlI.turns
def pnI : ItT (Int × List (List CV)) := TwI inI rgI
theorem pn_turns : Turns pnI := TwI.turns in_turns rg_turns
theorem RdJ.c {w : World} {B n : Nat} {A : Option Addr} {l : List CV} (h : RdJ 5 cmI w (fun b => B ≤ b) A n l) : RdC w B A n l := ⟨h.1, fun j hj => by
 obtain ⟨b, off, vs, e, hb, hn, hl, hc, hi⟩ := h.2 j hj
 have hi' : vs = c5 (cvAt l j) := hi
 subst hi'
 exact ⟨b, off, e, by omega, hc 0 _ rfl, hc 1 _ rfl, hc 2 _ rfl, hc 3 _ rfl, hc 4 _ rfl⟩⟩
theorem RdJ.r {w : World} {B n : Nat} {A : Option Addr} {r : List (List CV)} (h : RdJ 1 liI w (fun b => B ≤ b) A n r) : RdR w B A n r := ⟨h.1, fun j hj => by
 obtain ⟨b, off, vs, e, hb, hn, hl, hc, hi⟩ := h.2 j hj
 obtain ⟨Aj, nj, cj, rfl, _, hr⟩ := hi
 have := hc 0 _ rfl
 simp only [Nat.mul_one, Nat.add_zero] at this
 exact ⟨b, off, Aj, nj, cj, e, by omega, this, hr.c⟩⟩
theorem take_d {α : Type} [Inhabited α] (l : List α) (k : Nat) (h : k < l.length) : l.take (k + 1) = l.take k ++ [l.getD k default] := by
 rw [List.take_add_one, List.getElem?_eq_getElem h]
 simp [List.getD, h]
theorem getD_mem {α : Type} [Inhabited α] {l : List α} {j : Nat} (h : j < l.length) : l.getD j default ∈ l := by simp [List.getD, h]
theorem take_cv (l : List CV) (k : Nat) (h : k < l.length) : l.take (k + 1) = l.take k ++ [cvAt l k] := take_d l k h
theorem take_ls (l : List (List CV)) (k : Nat) (h : k < l.length) : l.take (k + 1) = l.take k ++ [lsAt l k] := take_d l k h
abbrev Nd := Int × List (List CV)
def pnAt (l : List Nd) (j : Nat) : Nd := l.getD j default
theorem take_pn (l : List Nd) (k : Nat) (h : k < l.length) : l.take (k + 1) = l.take k ++ [pnAt l k] := take_d l k h
theorem pnAt_mem {l : List Nd} {j : Nat} (h : j < l.length) : pnAt l j ∈ l := by simp [pnAt, List.getD, h]
def psI : ItT (List Nd) := SlI 2 pnI
theorem ps_turns : Turns psI := SlI.turns pn_turns
abbrev VrT := Int × Int × Int × ByteArray
abbrev Rl := VrT × Int × List Nd
abbrev Sv := ByteArray × List Rl
instance : Inhabited VrT := ⟨(0, 0, 0, ⟨#[]⟩)⟩
instance : Inhabited Rl := ⟨((0, 0, 0, ⟨#[]⟩), 0, [])⟩
instance : Inhabited Sv := ⟨(⟨#[]⟩, [])⟩
def vnI : ItT VrT := FlI (fun v => [.int .i64 v.1, .int .i64 v.2.1, .int .i64 v.2.2.1, .string v.2.2.2])
theorem vn_turns : Turns vnI := FlI.turns
def stI : ItT ByteArray := FlI (fun s => [.string s])
theorem st_turns : Turns stI := FlI.turns
def reI : ItT Rl := TwI vnI (TwI inI psI)
theorem re_turns : Turns reI := TwI.turns vn_turns (TwI.turns in_turns ps_turns)
def rsI : ItT (List Rl) := SlI 6 reI
theorem rs_turns : Turns rsI := SlI.turns re_turns
def svI : ItT Sv := TwI stI rsI
theorem sv_turns : Turns svI := TwI.turns st_turns rs_turns
def ssI : ItT (List Sv) := SlI 2 svI
theorem ss_turns : Turns ssI := SlI.turns sv_turns
theorem RdJ.below {α : Type} [Inhabited α] {z : Nat} {I : ItT α} (hI : Turns I) {w w' : World} {B : Nat} {A : Option Addr} {n : Nat} {l : List α} (h : RdJ z I w (fun b => B ≤ b) A n l) (hb : Below B w w') : RdJ z I w' (fun b => B ≤ b) A n l :=
 h.turn hI (FrM.of_below hb (fun b _ h => h)) (fun b h => .inl h)
theorem Turns.below {α : Type} {I : ItT α} (hI : Turns I) {w w' : World} {B : Nat} {vs : List Value} {x : α} (h : I w (fun b => B ≤ b) vs x) (hb : Below B w w') : I w' (fun b => B ≤ b) vs x :=
 hI.go h (FrM.of_below hb (fun b _ h => h)) (fun b h => .inl h)
theorem reI.parts {w : World} {M : Nat → Prop} {vs : List Value} {x : Rl} (h : reI w M vs x) : ∃ A n c, vs = [.int .i64 x.1.1, .int .i64 x.1.2.1, .int .i64 x.1.2.2.1, .string x.1.2.2.2, .int .i64 x.2.1, .slice A n c] ∧ psI w M [.slice A n c] x.2.2 := by
 obtain ⟨us, ts, hvs, h1, us2, ts2, hts, h2, h3⟩ := h
 have h1' : us = [.int .i64 x.1.1, .int .i64 x.1.2.1, .int .i64 x.1.2.2.1, .string x.1.2.2.2] := h1
 have h2' : us2 = [.int .i64 x.2.1] := h2
 have h3' := h3
 obtain ⟨A, n, c, rfl, _, hr⟩ := h3
 subst h1' h2' hts hvs
 exact ⟨A, n, c, rfl, h3'⟩
theorem psI.rd {w : World} {M : Nat → Prop} {A : Option Addr} {n c : Nat} {x : List Nd} (h : psI w M [.slice A n c] x) : CapA A n c ∧ RdJ 2 pnI w M A n x := by
 obtain ⟨A', n', c', e, hc, hr⟩ := h
 injection e with e _
 injection e with e1 e2 e3
 subst e1 e2 e3
 exact ⟨hc, hr⟩
theorem rgI.rd {w : World} {M : Nat → Prop} {A : Option Addr} {n c : Nat} {x : List (List CV)} (h : rgI w M [.slice A n c] x) : CapA A n c ∧ RdJ 1 liI w M A n x := by
 obtain ⟨A', n', c', e, hc, hr⟩ := h
 injection e with e _
 injection e with e1 e2 e3
 subst e1 e2 e3
 exact ⟨hc, hr⟩
theorem rsI.rd {w : World} {M : Nat → Prop} {A : Option Addr} {n c : Nat} {x : List Rl} (h : rsI w M [.slice A n c] x) : CapA A n c ∧ RdJ 6 reI w M A n x := by
 obtain ⟨A', n', c', e, hc, hr⟩ := h
 injection e with e _
 injection e with e1 e2 e3
 subst e1 e2 e3
 exact ⟨hc, hr⟩
theorem ssI.rd {w : World} {M : Nat → Prop} {A : Option Addr} {n c : Nat} {x : List Sv} (h : ssI w M [.slice A n c] x) : CapA A n c ∧ RdJ 2 svI w M A n x := by
 obtain ⟨A', n', c', e, hc, hr⟩ := h
 injection e with e _
 injection e with e1 e2 e3
 subst e1 e2 e3
 exact ⟨hc, hr⟩
theorem svI.parts {w : World} {M : Nat → Prop} {vs : List Value} {x : Sv} (h : svI w M vs x) : ∃ A n c, vs = [.string x.1, .slice A n c] ∧ CapA A n c ∧ RdJ 6 reI w M A n x.2 := by
 obtain ⟨us, ts, hvs, h1, h2⟩ := h
 have h1' : us = [.string x.1] := h1
 obtain ⟨A, n, c, rfl, hc, hr⟩ := h2
 subst h1' hvs
 exact ⟨A, n, c, rfl, hc, hr⟩
theorem pnI.parts {w : World} {M : Nat → Prop} {vs : List Value} {x : Nd} (h : pnI w M vs x) : ∃ A n c, vs = [.int .i64 x.1, .slice A n c] ∧ CapA A n c ∧ RdJ 1 liI w M A n x.2 := by
 obtain ⟨us, ts, hvs, h1, h2⟩ := h
 have h1' : us = [.int .i64 x.1] := h1
 obtain ⟨A, n, c, rfl, hc, hr⟩ := h2
 subst h1' hvs
 exact ⟨A, n, c, rfl, hc, hr⟩
theorem OwnJ.kept {α : Type} [Inhabited α] {E : TypeId} {z : Nat} {I : ItT α} (hI : Turns I) {w w' : World} {base : Nat} {v : Value} {l : List α} (h : OwnJ E z I w base v l) (hb : Below w.heap.size w w') : OwnJ E z I w' base v l := by
 obtain ⟨vals, ho, hj⟩ := h
 refine ⟨vals, ⟨ho.1, ?_⟩, fun j hl => ?_⟩
 ·rcases ho.2 with h | ⟨g, cap, cur, hv, hbg, hh, r⟩
  ·exact .inl h
  ·exact .inr ⟨g, cap, cur, hv, hbg, (hb.block g (heapE_lt hh)).trans hh, r⟩
 ·obtain ⟨vs, h1, h2, h3⟩ := hj j hl
  exact ⟨vs, h1, h2, hI.go h3 ⟨hb.size, fun b hlt _ => hb.block b hlt⟩ (fun b h => .inl h)⟩
theorem Turns.kept {α : Type} {I : ItT α} (hI : Turns I) {w w' : World} {M : Nat → Prop} {vs : List Value} {x : α} (h : I w M vs x) (hb : Below w.heap.size w w') : I w' M vs x := hI.go h ⟨hb.size, fun b hlt _ => hb.block b hlt⟩ (fun b h => .inl h)
def SmC (l : List CV) : Prop := l.length ≤ 12 ∧ ∀ x ∈ l, x.s.size ≤ 100
def SmR (r : List (List CV)) : Prop := r.length ≤ 12 ∧ ∀ l ∈ r, SmC l
def SmRl (r : Rl) : Prop := r.2.2.length ≤ 12 ∧ r.1.2.2.2.size ≤ 100 ∧ ∀ p ∈ r.2.2, SmR p.2
def SmSv (s : Sv) : Prop := s.1.size ≤ 100 ∧ s.2.length ≤ 16 ∧ ∀ r ∈ s.2, SmRl r
def SmCat (c : List Sv) : Prop := c.length ≤ 16 ∧ ∀ s ∈ c, SmSv s
theorem Below.drewN' {B : Nat} {w w' : World} (h : Below B w w') (k : Nat) : Below B w (w'.drewN k) := ⟨h.os, h.tape, h.output, h.size, h.block⟩
end Go.Proofs.YtminihiecloglaaGreat
