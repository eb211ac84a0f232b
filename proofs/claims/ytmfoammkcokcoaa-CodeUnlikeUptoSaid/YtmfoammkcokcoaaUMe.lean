/-
  WORDS FOR MEMORY: slices of things that hold slices, made by the call itself, whatever the things are.
-/
import Derived.Test.YtmfoammkcokcoaaTLa
import Derived.Test.YtmfoammkcokcoaaUPa
namespace Go.Proofs.Ytmfoammkcokcoaa
open Go.RowKit
open ByteP CodeP
set_option linter.unusedVariables false
set_option maxRecDepth 10000
/-- Nothing but the blocks of M, and new ones, has turned. -/
structure FrM (w w' : World) (M : Nat → Prop) : Prop where
  size : w.heap.size ≤ w'.heap.size
  block : ∀ b, b < w.heap.size → ¬ M b → w'.heap[b]? = w.heap[b]?
theorem FrM.refl (w : World) (M : Nat → Prop) : FrM w w M := ⟨Nat.le_refl _, fun _ _ _ => rfl⟩
theorem FrM.of_grown {w w' : World} {row : Option Nat} {M : Nat → Prop} (h : w.grownBy w' row) (hr : ∀ g, row = some g → M g) : FrM w w' M := ⟨h.size, fun b hb hn => h.block b hb (fun e => hn (hr b e.symm))⟩
theorem FrM.of_below {w w' : World} {B : Nat} {M : Nat → Prop} (h : Below B w w') (hM : ∀ b, b < w.heap.size → B ≤ b → M b) : FrM w w' M := ⟨h.size, fun b hb hn => h.block b (by
  rcases Nat.lt_or_ge b B with h1 | h1
  · exact h1
  · exact absurd (hM b hb h1) hn)⟩
/-- What the cells vs say of x, in memory apart from the blocks of M. -/
abbrev ItT (α : Type) := World → (Nat → Prop) → List Value → α → Prop
structure Turns {α : Type} (I : ItT α) : Prop where
  go : ∀ {w w' : World} {M M' : Nat → Prop} {vs : List Value} {x : α}, I w M vs x → FrM w w' M → (∀ b, M' b → M b ∨ w.heap.size ≤ b) → I w' M' vs x
/-- A slice reads as l, in blocks apart from M. -/
def RdG {α : Type} [Inhabited α] (z : Nat) (I : ItT α) (w : World) (M : Nat → Prop) (A : Option Addr) (n : Nat) (l : List α) : Prop :=
  l.length = n ∧ ∀ j, j < n → ∃ b off vs, A = some ⟨b, off, none⟩ ∧ b < w.heap.size ∧ ¬ M b ∧ vs.length = z ∧ (∀ i v, vs[i]? = some v → w.cell? ⟨b, off + j * z + i, none⟩ = some v) ∧ I w M vs (l.getD j default)
theorem RdG.turn {α : Type} [Inhabited α] {z : Nat} {I : ItT α} (hI : Turns I) {w w' : World} {M M' : Nat → Prop} {A : Option Addr} {n : Nat} {l : List α} (h : RdG z I w M A n l) (hf : FrM w w' M) (hM : ∀ b, M' b → M b ∨ w.heap.size ≤ b) : RdG z I w' M' A n l := ⟨h.1, fun j hj => by
  obtain ⟨b, off, vs, e, hb, hn, hl, hc, hi⟩ := h.2 j hj
  exact ⟨b, off, vs, e, Nat.lt_of_lt_of_le hb hf.size, fun h' => (hM b h').elim hn (fun h2 => by omega), hl, fun i v hv => (World.cell?_of_block (a := ⟨b, off + j * z + i, none⟩) (hf.block b hb hn)).trans (hc i v hv), hI.go hi hf hM⟩⟩
/-- A slice as a thing. -/
def SlI {α : Type} [Inhabited α] (z : Nat) (I : ItT α) : ItT (List α) := fun w M vs l => ∃ A n c, vs = [.slice A n c] ∧ RdG z I w M A n l
theorem SlI.turns {α : Type} [Inhabited α] {z : Nat} {I : ItT α} (hI : Turns I) : Turns (SlI z I) := ⟨fun ⟨A, n, c, e, h⟩ hf hM => ⟨A, n, c, e, h.turn hI hf hM⟩⟩
/-- Cells that are the thing itself. -/
def FlI {α : Type} (f : α → List Value) : ItT α := fun _ _ vs x => vs = f x
theorem FlI.turns {α : Type} {f : α → List Value} : Turns (FlI f) := ⟨fun h _ _ => h⟩
/-- One thing behind the other. -/
def TwI {α β : Type} (I : ItT α) (J : ItT β) : ItT (α × β) := fun w M vs x => ∃ us ts, vs = us ++ ts ∧ I w M us x.1 ∧ J w M ts x.2
theorem TwI.turns {α β : Type} {I : ItT α} {J : ItT β} (hI : Turns I) (hJ : Turns J) : Turns (TwI I J) := ⟨fun ⟨us, ts, e, h1, h2⟩ hf hM => ⟨us, ts, e, hI.go h1 hf hM, hJ.go h2 hf hM⟩⟩
/-- What a call's own slice must not share: its own block, and all ahead. -/
def Ap (base : Nat) (v : Value) (b : Nat) : Prop := v.ownBlock = some b ∨ b < base
/-- The slice v, made behind base by the call itself, of things z cells each, reads as l. -/
def OwnG {α : Type} [Inhabited α] (E : TypeId) (z : Nat) (I : ItT α) (w : World) (base : Nat) (v : Value) (l : List α) : Prop :=
  ∃ vals, w.ownsRow base E z v l.length vals ∧ ∀ j, j < l.length → ∃ vs, vs.length = z ∧ (∀ i x, vs[i]? = some x → vals[j * z + i]? = some x) ∧ I w (Ap base v) vs (l.getD j default)
section
variable {α : Type} [Inhabited α] {E : TypeId} {z : Nat} {I : ItT α} {w w' : World} {base : Nat} {v : Value} {l : List α}
theorem OwnG.nil_ (E : TypeId) (z : Nat) (I : ItT α) (w : World) (base : Nat) : OwnG E z I w base (.slice none 0 0) ([] : List α) := ⟨[], World.ownsRow_nil _ _ _ _, fun j hj => absurd hj (by simp)⟩
theorem OwnG.shape (h : OwnG E z I w base v l) : ∃ A c, v = .slice A l.length c := by
  obtain ⟨vals, h, _⟩ := h
  rcases h.2 with ⟨rfl, h0⟩ | ⟨g, cap, cur, rfl, _⟩
  · exact ⟨none, 0, by rw [h0]⟩
  · exact ⟨some ⟨g, 0, none⟩, cap, rfl⟩
theorem OwnG.ge (h : OwnG E z I w base v l) : ∀ g, v.ownBlock = some g → base ≤ g ∧ g < w.heap.size := by
  intro g hg
  obtain ⟨vals, h, _⟩ := h
  rcases h.2 with ⟨rfl, _⟩ | ⟨g', cap, cur, rfl, hb, hh, _⟩
  · cases hg
  · have : g' = g := by simpa [Value.ownBlock] using hg
    subst this
    exact ⟨hb, heapE_lt hh⟩
theorem OwnG.turn (hI : Turns I) (h : OwnG E z I w base v l) {row : Option Nat} (hg : w.grownBy w' row) (hr : ∀ g, row = some g → g < base) : OwnG E z I w' base v l := by
  have hge := h.ge
  obtain ⟨vals, ho, hj⟩ := h
  refine ⟨vals, World.ownsRow.kept ho hg ?_, fun j hl => ?_⟩
  · cases hv : v.ownBlock with
    | none => exact .inl rfl
    | some g => right; intro e; have := hr g e.symm; have := (hge g hv).1; omega
  · obtain ⟨vs, h1, h2, h3⟩ := hj j hl
    exact ⟨vs, h1, h2, hI.go h3 (FrM.of_grown hg (fun g hg' => .inr (hr g hg'))) (fun b hb => .inl hb)⟩
theorem OwnG.alloc (hI : Turns I) (h : OwnG E z I w base v l) (o : Obj) : OwnG E z I (w.alloc o) base v l := h.turn hI (row := none) (grown_alloc1 w o none) (fun g hg => by cases hg)
/-- The slice, read. -/
theorem OwnG.rd (hI : Turns I) {A : Option Addr} {n c : Nat} (h : OwnG E z I w base (.slice A n c) l) {M : Nat → Prop} (hM : ∀ b, M b → b < base ∨ w.heap.size ≤ b) : RdG z I w M A n l := by
  obtain ⟨A', c', e⟩ := h.shape
  injection e with e1 e2 e3
  subst e1 e2 e3
  refine ⟨rfl, fun j hj => ?_⟩
  obtain ⟨vals, ho, hv⟩ := h
  obtain ⟨vs, h1, h2, h3⟩ := hv j hj
  obtain ⟨g, cap, hv', hge, hlt⟩ := World.ownsRow.form ho (by omega)
  injection hv' with e1 _ _
  subst e1
  refine ⟨g, 0, vs, rfl, hlt, fun hm => (hM g hm).elim (fun h => by omega) (fun h => by omega), h1, fun i x hx => ?_, hI.go h3 (FrM.refl w _) (fun b hb => ?_)⟩
  · have k := World.ownsRow.cells ho (g := g) rfl _ _ (h2 i x hx)
    have ha : (Addr.add ⟨g, 0, none⟩ (j * z + i)) = ⟨g, 0 + j * z + i, none⟩ := by
      unfold Addr.add
      by_cases h0 : j * z + i = 0
      · rw [if_pos h0]; congr 1; omega
      · rw [if_neg h0]; simp
    rw [ha] at k
    exact k
  · rcases hM b hb with h | h
    · exact .inl (.inr h)
    · exact .inr h
theorem OwnG.item (hI : Turns I) (h : OwnG E z I w base v l) {M : Nat → Prop} (hM : ∀ b, M b → b < base ∨ w.heap.size ≤ b) : SlI z I w M [v] l := by
  obtain ⟨A, c, rfl⟩ := h.shape
  exact ⟨A, l.length, c, rfl, h.rd hI hM⟩
theorem OwnG.push (hI : Turns I) {vals vs : List Value} {v' : Value} {x : α} (hown : w.ownsRow base E z v l.length vals) (hj : ∀ j, j < l.length → ∃ vs, vs.length = z ∧ (∀ i x, vs[i]? = some x → vals[j * z + i]? = some x) ∧ I w (Ap base v) vs (l.getD j default))
    (hz : vs.length = z) (hx : I w (Ap base v) vs x) (hbase : base ≤ w.heap.size) (hown' : w'.ownsRow base E z v' (l.length + 1) (vals ++ vs)) (hg : w.grownBy w' v.ownBlock) (hat : v'.ownBlock = v.ownBlock ∨ v'.ownBlock = some w.heap.size) : OwnG E z I w' base v' (l ++ [x]) := by
  have hvl : vals.length = l.length * z := hown.1
  have hkeep : ∀ {us : List Value} {y : α}, I w (Ap base v) us y → I w' (Ap base v') us y := by
    intro us y h0
    refine hI.go h0 (FrM.of_grown hg (fun g hg' => .inl hg')) (fun b hb => ?_)
    rcases hb with h3 | h3
    · rcases hat with h4 | h4
      · exact .inl (.inl (by rw [← h4]; exact h3))
      · have h5 : some w.heap.size = some b := h4.symm.trans h3
        injection h5 with h5
        exact .inr (by omega)
    · exact .inl (.inr h3)
  refine ⟨vals ++ vs, by rw [List.length_append]; exact hown', fun j hjk => ?_⟩
  rw [List.length_append, List.length_singleton] at hjk
  by_cases hlt : j < l.length
  · obtain ⟨us, h1, h2, h3⟩ := hj j hlt
    have e2 : (l ++ [x]).getD j default = l.getD j default := by
      rw [List.getD_eq_getElem?_getD, List.getElem?_append_left hlt, ← List.getD_eq_getElem?_getD]
    rw [e2]
    refine ⟨us, h1, fun i u hu => ?_, hkeep h3⟩
    have h4 := h2 i u hu
    have h5 : j * z + i < vals.length := by
      rcases Nat.lt_or_ge (j * z + i) vals.length with h | h
      · exact h
      · rw [List.getElem?_eq_none h] at h4; cases h4
    rw [List.getElem?_append_left h5]; exact h4
  · obtain rfl : j = l.length := by omega
    have e2 : (l ++ [x]).getD l.length default = x := by
      rw [List.getD_eq_getElem?_getD, List.getElem?_append_right (Nat.le_refl _), Nat.sub_self]; rfl
    rw [e2]
    refine ⟨vs, hz, fun i u hu => ?_, hkeep hx⟩
    rw [List.getElem?_append_right (by omega), hvl, Nat.add_sub_cancel_left]; exact hu
end
/-- 'append(s, x)': one thing more. -/
theorem wplG_app {α : Type} [Inhabited α] {S E : TypeId} {z bytes : Nat} {zero : Value} {I : ItT α} (hI : Turns I) (hu : Try.prog.underlying S = some (.slice E)) (hinfo : (Try.prog.info? E).map (fun i => (i.zero, i.size, i.bytes)) = some (some zero, z, bytes)) (hzs : zero.cells.size = z) (hz0 : 0 < z) (hby : bytes ≤ 100000)
    {w : World} {ops : Array Oper} {rest : List Oper} {o : Oper} {a : Act} {Q : Exit → Act → World → Prop} (hgd : o.guard = none) (s x : Operand)
    (ho : o.op = .call { callee := .builtin .append, args := #[s, x], argTypes := #[S, S] })
    (base : Nat) (v : Value) (l : List α) (hs : a.eval s = v) (hown : OwnG E z I w base v l)
    (b : Nat) (vs : List Value) (y : α) (hx : a.eval x = .slice (some ⟨b, 0, none⟩) 1 1) (hvz : vs.length = z) (hc : ∀ i u, vs[i]? = some u → w.cell? ⟨b, i, none⟩ = some u) (h1 : ∀ u ∈ vs, u.oneCell' = true) (hy : I w (Ap base v) vs y) (hn : l.length ≤ 1000000000) (hbase : base ≤ w.heap.size)
    (h : ∀ g c w', OwnG E z I w' base (.slice (some ⟨g, 0, none⟩) (l.length + 1) c) (l ++ [y]) → w.grownBy w' v.ownBlock → wpList Try.prog ops Q rest (a.put o.dst (.slice (some ⟨g, 0, none⟩) (l.length + 1) c)) w') :
    wpList Try.prog ops Q (o :: rest) a w := by
  obtain ⟨i0, hi, hz0', hz1, hz2⟩ := info_parts hinfo
  obtain ⟨vals, hrow, hj⟩ := hown
  refine wpList_append_own_at w hgd s x S ho base E i0 zero z bytes hu hi hz0' hz1 hz2 hzs hz0 v l.length _ hs hrow ⟨b, 0, none⟩ 1 1 vs hx (by omega) ?_ h1 (by unfold maxLen; omega) (by have := Nat.mul_le_mul (show l.length + 1 ≤ 1000000001 by omega) hby; omega) hbase ?_
  · intro j u hju
    have ha : (Addr.add ⟨b, 0, none⟩ j) = ⟨b, j, none⟩ := by
      unfold Addr.add
      by_cases h0 : j = 0 <;> simp [h0]
    rw [ha]; exact hc j u hju
  · intro v' w' hown' hg _ hat
    have ho' := OwnG.push hI hrow hj hvz hy hbase hown' hg hat
    obtain ⟨g, c, hv, _, _⟩ := World.ownsRow.form hown' (by omega)
    subst hv
    exact h g c w' ho' hg
/-- Cells of a thing that was stored. -/
theorem cells_of {w : World} {g : Nat} {vs : Array Value} {T : TypeId} (h : w.heap[g]? = some (.cells vs T (0, 0))) : ∀ i u, vs.toList[i]? = some u → w.cell? ⟨g, i, none⟩ = some u := by
  intro i u hu
  rw [Array.getElem?_toList] at hu
  simp [World.cell?, h, hu]
/-! ### The things -/
def cmI : ItT CV := FlI c5
theorem cm_turns : Turns cmI := FlI.turns
def liI : ItT (List CV) := SlI 5 cmI
theorem li_turns : Turns liI := SlI.turns cm_turns
def rgI : ItT (List (List CV)) := SlI 1 liI
theorem rg_turns : Turns rgI := SlI.turns li_turns
/-- A number, and a range. -/
def inI : ItT Int := FlI (fun n => [.int .i64 n])
theorem in_turns : Turns inI := FlI.turns
def pnI : ItT (Int × List (List CV)) := TwI inI rgI
theorem pn_turns : Turns pnI := TwI.turns in_turns rg_turns
theorem RdG.c {w : World} {B n : Nat} {A : Option Addr} {l : List CV} (h : RdG 5 cmI w (fun b => B ≤ b) A n l) : RdC w B A n l := ⟨h.1, fun j hj => by
  obtain ⟨b, off, vs, e, hb, hn, hl, hc, hi⟩ := h.2 j hj
  have hi' : vs = c5 (cvAt l j) := hi
  subst hi'
  exact ⟨b, off, e, by omega, hc 0 _ rfl, hc 1 _ rfl, hc 2 _ rfl, hc 3 _ rfl, hc 4 _ rfl⟩⟩
theorem RdG.r {w : World} {B n : Nat} {A : Option Addr} {r : List (List CV)} (h : RdG 1 liI w (fun b => B ≤ b) A n r) : RdR w B A n r := ⟨h.1, fun j hj => by
  obtain ⟨b, off, vs, e, hb, hn, hl, hc, hi⟩ := h.2 j hj
  obtain ⟨Aj, nj, cj, rfl, hr⟩ := hi
  have := hc 0 _ rfl
  simp only [Nat.mul_one, Nat.add_zero] at this
  exact ⟨b, off, Aj, nj, cj, e, by omega, this, hr.c⟩⟩
theorem RdG.n {w : World} {B n : Nat} {A : Option Addr} {l : List (Int × List (List CV))} (h : RdG 2 pnI w (fun b => B ≤ b) A n l) : RdN w B A n l := ⟨h.1, fun j hj => by
  obtain ⟨b, off, vs, e, hb, hn, hl, hc, us, ts, hvs, h1, h2⟩ := h.2 j hj
  have h1' : us = [.int .i64 (pnAt l j).1] := h1
  obtain ⟨Aj, nj, cj, h3, hr⟩ := h2
  subst hvs h1' h3
  exact ⟨b, off, Aj, nj, cj, e, by omega, hc 0 _ rfl, hc 1 _ rfl, hr.r⟩⟩
theorem OwnC.g {w : World} {base : Nat} {v : Value} {l : List CV} (h : OwnC w base v l) : OwnG 155 5 cmI w base v l := ⟨ccells l, h, fun j hj => ⟨c5 (cvAt l j), rfl, fun i u hu => by
  obtain ⟨k0, k1, k2, k3, k4⟩ := ccells_get l j hj
  match i, hu with
  | 0, hu => rw [← hu]; exact k0
  | 1, hu => rw [← hu]; exact k1
  | 2, hu => rw [← hu]; exact k2
  | 3, hu => rw [← hu]; exact k3
  | 4, hu => rw [← hu]; exact k4, rfl⟩⟩
theorem rdC_eq (n : Nat) : ∀ r, rdC n r = rdL compV n r := by
  induction n with
  | zero => intro r; rfl
  | succ n ih =>
    intro r
    unfold rdC rdL
    cases compV r with
    | inl e => rfl
    | inr p =>
      obtain ⟨x, r1⟩ := p
      simp only
      rw [ih r1]
      cases rdL compV n r1 <;> rfl
theorem lscS_eq (s : Sum Int (List Int)) : lscS s = upS (lsL compV) s := by
  cases s with
  | inl e => rfl
  | inr r =>
    show lscV r = lsL compV r
    unfold lscV lsL
    cases cnt r with
    | inl e => rfl
    | inr p => obtain ⟨n, r1⟩ := p; exact rdC_eq n r1
/-- What a list of things leaves. -/
def LisG {α : Type} [Inhabited α] (E : TypeId) (z : Nat) (I : ItT α) (w : World) (base : Nat) (v : Value) : Sum Int (List α × List Int) → Prop
  | .inl _ => v = .slice none 0 0
  | .inr (l, _) => OwnG E z I w base v l
theorem compsG_any {w : World} {rb B : Nat} {s : Sum Int (List Int)} (h : StR w rb B s) (hrb : rb < w.heap.size) :
    Calls Try.prog 90 #[.pointer (some ⟨rb, 0, none⟩)] w fun en w' => ∃ A n c, en = .returned (.slice A n c) ∧ StR w' rb B (restS (upS (lsL compV) s)) ∧ w.grownBy w' (some rb) ∧ ∀ x r, upS (lsL compV) s = .inr (x, r) → liI w' (fun b => b < w.heap.size) [.slice A n c] x := by
  refine (compsS_any h hrb).mono ?_
  rintro en w' ⟨A, n, c, rfl, h1, h2, h3⟩
  rw [lscS_eq] at h1 h2
  refine ⟨A, n, c, rfl, h1, h3, fun x r hx => ?_⟩
  rw [hx] at h2
  exact (OwnC.g h2).item cm_turns (fun b hb => .inl hb)
end Go.Proofs.Ytmfoammkcokcoaa
