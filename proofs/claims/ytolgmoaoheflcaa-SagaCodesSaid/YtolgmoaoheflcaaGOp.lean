/-
 PLANS AND RECORDS THAT CAME IN, opened (printed by gengop.py).
-/
import Derived.Test.YtolgmoaoheflcaaGRc
import Derived.Deep.Slices
import Derived.ChangeSame
import Derived.OpenShut
namespace Go.Proofs.Ytolgmoaoheflcaa.Sa
open Go.RowKit
open DiP
open Go.ChangeShapes Go.WideShapes Go.Deep
set_option linter.unusedVariables false
set_option linter.unusedSimpArgs false
set_option maxRecDepth 10000
/-- What the cells vs say of x, in memory apart from the blocks of M. -/
abbrev ItT (α : Type) := World → (Nat → Prop) → List Value → α → Prop
/-- A slice reads as l, in blocks apart from M. -/
def RdJ {α : Type} [Inhabited α] (z : Nat) (I : ItT α) (w : World) (M : Nat → Prop) (A : Option Addr) (n : Nat) (l : List α) : Prop :=
 l.length = n ∧ ∀ j, j < n → ∃ b off vs, A = some ⟨b, off, none⟩ ∧ b < w.heap.size ∧ ¬ M b ∧ vs.length = z ∧ (∀ i v, vs[i]? = some v → w.cell? ⟨b, off + j * z + i, none⟩ = some v) ∧ I w M vs (l.getD j default)
/-- A slice as a thing. -/
def CapA (A : Option Addr) (n c : Nat) : Prop := (A = none ∧ n = 0 ∧ c = 0) ∨ ∃ x, A = some x ∧ n ≤ c ∧ c ≤ 9223372036854775807
def SlI {α : Type} [Inhabited α] (z : Nat) (I : ItT α) : ItT (List α) := fun w M vs l => ∃ A n c, vs = [.slice A n c] ∧ CapA A n c ∧ RdJ z I w M A n l
/-- Cells that are the thing itself. -/
def FlI {α : Type} (f : α → List Value) : ItT α := fun _ _ vs x => vs = f x
/-- One thing behind the other. -/
def TwI {α β : Type} (I : ItT α) (J : ItT β) : ItT (α × β) := fun w M vs x => ∃ us ts, vs = us ++ ts ∧ I w M us x.1 ∧ J w M ts x.2
/-- A number, and a range. -/
def inI : ItT Int := FlI (fun n => [.int .i64 n])
theorem add_addU (a : Addr) (i j : Nat) : (a.add i).add j = a.add (i + j) := by
 unfold Addr.add
 by_cases h0 : i = 0 <;> by_cases h1 : j = 0 <;> simp [h0, h1, Nat.add_assoc]
section
variable {H : Type} {enc : TypeId × Value → H} {w : World} {held : Bool}
/-- Cells of type T that came in are a thing. -/
def Opn {α : Type} (enc : TypeId × Value → H) (w : World) (held : Bool) (T : TypeId) (I : ItT α) : Prop :=
 ∀ {fuel : Nat} {cs : List Value} {x : DataW H × List MemPlace}, DataW.trod enc Try.prog w 0 (fun _ => true) held fuel T cs = some x → ∃ y, I w (fun b => w.heap.size ≤ b) cs y
theorem Opn.int (T : TypeId) (hu : Try.prog.underlying T = some (.int .i64)) : Opn enc w held T inI := fun h => by
 obtain ⟨a, ha, _⟩ := DataW.trod_int hu h
 exact ⟨a, ha⟩
theorem Opn.sl {α : Type} [Inhabited α] {S E : TypeId} {z : Nat} {I : ItT α} (hu : Try.prog.underlying S = some (.slice E)) (hz : Try.prog.cellsOf E = z) (hz0 : 0 < z) (hE : Opn enc w held E I) : Opn enc w held S (SlI z I) := fun {fuel cs x} h => by
 rcases open_slice hu h with ⟨h0, _⟩ | ⟨a, len, cap, m, n, D, Pl, h0, hb, hl, hm, hmm, _, hx⟩
 ·exact ⟨[], none, 0, 0, h0, .inl ⟨rfl, rfl, rfl⟩, rfl, fun j hj => absurd hj (by omega)⟩
 ·have hlm : len ≤ m := by rw [hmm]; split <;> omega
  have each : ∀ i, i < len → ∃ q : List Value × α, q.1.length = z ∧ (∀ k v, q.1[k]? = some v → w.cell? (a.add (i * z + k)) = some v) ∧ I w (fun b => w.heap.size ≤ b) q.1 q.2 := by
   intro i hi
   obtain ⟨cs', h1, h2⟩ := hx i (by omega)
   rw [hz] at h1
   obtain ⟨_, hlen, hcell⟩ := World.cells?_some h1
   obtain ⟨y, hy⟩ := hE h2
   refine ⟨(cs', y), hlen, fun k v hk => ?_, hy⟩
   have hkz : k < z := by
    rcases Nat.lt_or_ge k cs'.length with h | h
    ·omega
    ·rw [List.getElem?_eq_none h] at hk; cases hk
   have e := hcell k hkz
   rw [add_addU] at e
   exact e.trans hk
  obtain ⟨q, hq⟩ := choose_lt each
  refine ⟨(List.range len).map (fun j => (q j).2), some a, len, cap, h0, .inr ⟨_, rfl, hl, by unfold maxLen at hm; omega⟩, by simp, fun j hj => ?_⟩
  obtain ⟨h1, h2, h3⟩ := hq j hj
  obtain ⟨g1, g2, _⟩ := hq 0 (by omega)
  obtain ⟨u, hu0⟩ : ∃ u, (q 0).1[0]? = some u := ⟨(q 0).1[0]'(by omega), by rw [List.getElem?_eq_getElem]⟩
  have z0 := g2 0 u hu0
  rw [Nat.zero_mul] at z0
  obtain ⟨b, off, spot⟩ := a
  have hspot : spot = none := by simpa [Addr.add] using World.cell?_spot z0
  subst hspot
  have hbl : b < w.heap.size := by
   have h := block_lt_of_cell z0
   unfold Addr.add at h
   split at h <;> simpa using h
  have e : ∀ k, (Addr.add ⟨b, off, none⟩ k) = ⟨b, off + k, none⟩ := by
   intro k
   unfold Addr.add
   by_cases h0 : k = 0 <;> simp [h0]
  refine ⟨b, off, (q j).1, rfl, hbl, (fun h => by omega), h1, fun i v hv => ?_, ?_⟩
  ·have := h2 i v hv
   rw [e] at this
   rw [Nat.add_assoc]; exact this
  ·have hea : ((List.range len).map (fun j => (q j).2)).getD j default = (q j).2 := by simp [List.getD, hj]
   rw [hea]; exact h3
theorem Opn.one {α : Type} {I : ItT α} {T : TypeId} {fs : Array Field} {f : Field} (hu : Try.prog.underlying T = some (.struct fs)) (hs : fs.size = 1) (h1 : fs[0]? = some f) (o1 : f.offset = 0) (c : Try.prog.cellsOf T = Try.prog.cellsOf f.type) (hI : Opn enc w held f.type I) : Opn enc w held T I := fun {fuel cs x} h => by
 obtain ⟨xs, n, _, _, hl, hlen, hf⟩ := DataW.trod_struct hu h
 have g := hf 0 f h1
 rw [o1, List.drop_zero, List.take_of_length_le (by omega)] at g
 have hx : ∃ y0, xs[0]? = some y0 := ⟨xs[0]'(by omega), by rw [List.getElem?_eq_getElem]⟩
 obtain ⟨y0, hy0⟩ := hx
 rw [hy0] at g
 exact hI g
theorem Opn.tw {α β : Type} {I : ItT α} {J : ItT β} {T : TypeId} {fs : Array Field} {f g : Field} (hu : Try.prog.underlying T = some (.struct fs)) (hs : fs.size = 2) (h1 : fs[0]? = some f) (h2 : fs[1]? = some g) (o1 : f.offset = 0) (o2 : g.offset = Try.prog.cellsOf f.type) (c : Try.prog.cellsOf T = Try.prog.cellsOf f.type + Try.prog.cellsOf g.type)
  (hI : Opn enc w held f.type I) (hJ : Opn enc w held g.type J) : Opn enc w held T (TwI I J) := fun {fuel cs x} h => by
 obtain ⟨xs, n, _, _, hl, hlen, hf⟩ := DataW.trod_struct hu h
 have k1 := hf 0 f h1
 have k2 := hf 1 g h2
 obtain ⟨y0, hy0⟩ : ∃ y0, xs[0]? = some y0 := ⟨xs[0]'(by omega), by rw [List.getElem?_eq_getElem]⟩
 obtain ⟨y1, hy1⟩ : ∃ y1, xs[1]? = some y1 := ⟨xs[1]'(by omega), by rw [List.getElem?_eq_getElem]⟩
 rw [o1, List.drop_zero, hy0] at k1
 rw [o2, List.take_of_length_le (by rw [List.length_drop]; omega), hy1] at k2
 obtain ⟨a, ha⟩ := hI k1
 obtain ⟨b, hb⟩ := hJ k2
 exact ⟨(a, b), cs.take (Try.prog.cellsOf f.type), cs.drop (Try.prog.cellsOf f.type), (List.take_append_drop _ _).symm, ha, hb⟩
theorem Opn.th {α β γ : Type} {I : ItT α} {J : ItT β} {K : ItT γ} {T : TypeId} {fs : Array Field} {f g k : Field} (hu : Try.prog.underlying T = some (.struct fs)) (hs : fs.size = 3) (h1 : fs[0]? = some f) (h2 : fs[1]? = some g) (h3 : fs[2]? = some k) (o1 : f.offset = 0) (o2 : g.offset = Try.prog.cellsOf f.type) (o3 : k.offset = Try.prog.cellsOf f.type + Try.prog.cellsOf g.type) (c : Try.prog.cellsOf T = Try.prog.cellsOf f.type + (Try.prog.cellsOf g.type + Try.prog.cellsOf k.type))
  (hI : Opn enc w held f.type I) (hJ : Opn enc w held g.type J) (hK : Opn enc w held k.type K) : Opn enc w held T (TwI I (TwI J K)) := fun {fuel cs x} h => by
 obtain ⟨xs, n, _, _, hl, hlen, hf⟩ := DataW.trod_struct hu h
 have k1 := hf 0 f h1
 have k2 := hf 1 g h2
 have k3 := hf 2 k h3
 obtain ⟨y0, hy0⟩ : ∃ y0, xs[0]? = some y0 := ⟨xs[0]'(by omega), by rw [List.getElem?_eq_getElem]⟩
 obtain ⟨y1, hy1⟩ : ∃ y1, xs[1]? = some y1 := ⟨xs[1]'(by omega), by rw [List.getElem?_eq_getElem]⟩
 obtain ⟨y2, hy2⟩ : ∃ y2, xs[2]? = some y2 := ⟨xs[2]'(by omega), by rw [List.getElem?_eq_getElem]⟩
 rw [o1, List.drop_zero, hy0] at k1
 rw [o2, hy1] at k2
 rw [o3, List.take_of_length_le (by rw [List.length_drop]; omega), hy2] at k3
 obtain ⟨a, ha⟩ := hI k1
 obtain ⟨b, hb⟩ := hJ k2
 obtain ⟨d, hd⟩ := hK k3
 refine ⟨(a, b, d), cs.take (Try.prog.cellsOf f.type), cs.drop (Try.prog.cellsOf f.type), (List.take_append_drop _ _).symm, ha, (cs.drop (Try.prog.cellsOf f.type)).take (Try.prog.cellsOf g.type), (cs.drop (Try.prog.cellsOf f.type)).drop (Try.prog.cellsOf g.type), (List.take_append_drop _ _).symm, hb, ?_⟩
 rw [List.drop_drop]; exact hd
theorem Opn.map {α β : Type} {I : ItT α} {J : ItT β} {T : TypeId} (hI : Opn enc w held T I) (F : α → β) (h : ∀ {w M cs x}, I w M cs x → J w M cs (F x)) : Opn enc w held T J := fun hx => by
 obtain ⟨y, hy⟩ := hI hx
 exact ⟨F y, h hy⟩
theorem Opn.fo {α β γ δ : Type} {I : ItT α} {J : ItT β} {K : ItT γ} {L : ItT δ} {T : TypeId} {fs : Array Field} {f g k l : Field} (hu : Try.prog.underlying T = some (.struct fs)) (hs : fs.size = 4) (h1 : fs[0]? = some f) (h2 : fs[1]? = some g) (h3 : fs[2]? = some k) (h4 : fs[3]? = some l) (o1 : f.offset = 0) (o2 : g.offset = Try.prog.cellsOf f.type) (o3 : k.offset = Try.prog.cellsOf f.type + Try.prog.cellsOf g.type) (o4 : l.offset = Try.prog.cellsOf f.type + Try.prog.cellsOf g.type + Try.prog.cellsOf k.type) (c : Try.prog.cellsOf T = Try.prog.cellsOf f.type + Try.prog.cellsOf g.type + Try.prog.cellsOf k.type + Try.prog.cellsOf l.type)
 (hI : Opn enc w held f.type I) (hJ : Opn enc w held g.type J) (hK : Opn enc w held k.type K) (hL : Opn enc w held l.type L) : Opn enc w held T (TwI I (TwI J (TwI K L))) := fun {fuel cs x} h => by
 obtain ⟨xs, n, _, _, hl, hlen, hf⟩ := DataW.trod_struct hu h
 have k1 := hf 0 f h1
 have k2 := hf 1 g h2
 have k3 := hf 2 k h3
 have k4 := hf 3 l h4
 obtain ⟨y0, hy0⟩ : ∃ y0, xs[0]? = some y0 := ⟨xs[0]'(by omega), by rw [List.getElem?_eq_getElem]⟩
 obtain ⟨y1, hy1⟩ : ∃ y1, xs[1]? = some y1 := ⟨xs[1]'(by omega), by rw [List.getElem?_eq_getElem]⟩
 obtain ⟨y2, hy2⟩ : ∃ y2, xs[2]? = some y2 := ⟨xs[2]'(by omega), by rw [List.getElem?_eq_getElem]⟩
 obtain ⟨y3, hy3⟩ : ∃ y3, xs[3]? = some y3 := ⟨xs[3]'(by omega), by rw [List.getElem?_eq_getElem]⟩
 rw [o1, List.drop_zero, hy0] at k1
 rw [o2, hy1] at k2
 rw [o3, hy2] at k3
 rw [o4, List.take_of_length_le (by rw [List.length_drop]; omega), hy3] at k4
 obtain ⟨a, ha⟩ := hI k1
 obtain ⟨b, hb⟩ := hJ k2
 obtain ⟨d, hd⟩ := hK k3
 obtain ⟨e, he⟩ := hL k4
 refine ⟨(a, b, d, e), cs.take (Try.prog.cellsOf f.type), cs.drop (Try.prog.cellsOf f.type), (List.take_append_drop _ _).symm, ha, (cs.drop (Try.prog.cellsOf f.type)).take (Try.prog.cellsOf g.type), (cs.drop (Try.prog.cellsOf f.type)).drop (Try.prog.cellsOf g.type), (List.take_append_drop _ _).symm, hb, ((cs.drop (Try.prog.cellsOf f.type)).drop (Try.prog.cellsOf g.type)).take (Try.prog.cellsOf k.type), ((cs.drop (Try.prog.cellsOf f.type)).drop (Try.prog.cellsOf g.type)).drop (Try.prog.cellsOf k.type), (List.take_append_drop _ _).symm, ?_, ?_⟩
 ·rw [List.drop_drop]; exact hd
 ·simpa [List.drop_drop, Nat.add_assoc, Nat.add_comm, Nat.add_left_comm] using he
def prI : ItT Pr := TwI inI inI
theorem opn_ints : Opn enc w held 25 (SlI 1 inI) := Opn.sl Try.underlying25 (by kernel_rfl) (by omega) (Opn.int 3 Try.underlying3)
theorem opn_step : Opn enc w held 71 prI := Opn.tw Try.underlying71 rfl rfl rfl rfl (by kernel_rfl) (by kernel_rfl) (Opn.int 3 Try.underlying3) (Opn.int 3 Try.underlying3)
theorem opn_steps : Opn enc w held 26 (SlI 2 prI) := Opn.sl Try.underlying26 (by kernel_rfl) (by omega) opn_step
theorem len_twoG {α : Type} : ∀ {l : List α}, l.length = 2 → ∃ a b, l = [a, b]
 | [a, b], _ => ⟨a, b, rfl⟩
set_option maxRecDepth 20000 in
theorem opn_pair : Opn enc w held 90 prI := fun {fuel cs x} h => by
 obtain ⟨xs, n, _, _, hl, hlen, hf⟩ := DataW.trod_array Try.underlying90 h
 rw [show Try.prog.cellsOf 90 = 2 by kernel_rfl] at hl
 obtain ⟨v0, v1, rfl⟩ := len_twoG hl
 obtain ⟨y0, y1, rfl⟩ := len_twoG hlen
 have g0 := hf 0 (by omega)
 have g1 := hf 1 (by omega)
 rw [show Try.prog.cellsOf 3 = 1 by kernel_rfl] at g0 g1
 simp only [List.drop_zero, List.take_succ_cons, List.take_zero, Nat.zero_mul, Nat.one_mul, List.drop_succ_cons, List.getElem?_cons_zero, List.getElem?_cons_succ] at g0 g1
 obtain ⟨a, ha, _⟩ := DataW.trod_int Try.underlying3 g0
 obtain ⟨b, hb, _⟩ := DataW.trod_int Try.underlying3 g1
 injection ha with ha
 injection hb with hb
 exact ⟨(a, b), [v0], [v1], rfl, by rw [ha]; rfl, by rw [hb]; rfl⟩
theorem opn_pairs : Opn enc w held 27 (SlI 2 prI) := Opn.sl Try.underlying27 (by kernel_rfl) (by omega) opn_pair
def plI : ItT (List Int × List Int × List Pr × List Pr) := TwI (SlI 1 inI) (TwI (SlI 1 inI) (TwI (SlI 2 prI) (SlI 2 prI)))
theorem opn_plan : Opn enc w held 29 plI := Opn.fo Try.underlying29 rfl rfl rfl rfl rfl rfl (by kernel_rfl) (by kernel_rfl) (by kernel_rfl) (by kernel_rfl) opn_ints opn_ints opn_steps opn_pairs
def rcI : ItT (Int × Int × List Int × List Int × List Pr × List Pr) := TwI inI (TwI inI plI)
theorem opn_record : Opn enc w held 33 rcI := Opn.th Try.underlying33 rfl rfl rfl rfl rfl (by kernel_rfl) (by kernel_rfl) (by kernel_rfl) (Opn.int 3 Try.underlying3) (Opn.int 3 Try.underlying3) opn_plan
theorem opn_records : Opn enc w held 22 (SlI 6 rcI) := Opn.sl Try.underlying22 (by kernel_rfl) (by omega) opn_record
end
theorem rd_of_row {w : World} {a : Option Addr} {len cap : Nat} {zs : List Int}
  (h : (a = none ∧ len = 0 ∧ cap = 0 ∧ zs = []) ∨ ∃ x, a = some x ∧ len ≤ cap ∧ cap ≤ maxLen ∧ zs.length = cap ∧ (∀ i, i < zs.length → w.cell? (x.add i) = some (.int .i64 (zs.getD i 0))) ∧ ∀ n ∈ zs, (Lit.int .i64 n).wf = true) :
  Rd w w.heap.size a len (zs.take len) ∧ len ≤ 9223372036854775807 := by
 rcases h with ⟨rfl, rfl, rfl, rfl⟩ | ⟨x, rfl, hl, hm, hz, hcell, hwz⟩
 ·exact ⟨Rd.nil_, by omega⟩
 ·refine ⟨⟨by rw [List.length_take]; omega, fun hn => ?_⟩, by unfold maxLen at hm; omega⟩
  obtain ⟨b, off, spot⟩ := x
  have h0 := hcell 0 (by omega)
  have hspot : spot = none := by simpa [Addr.add] using World.cell?_spot h0
  subst hspot
  have hb : b < w.heap.size := by
   have h1 : w.cell? ⟨b, off, none⟩ = some (.int .i64 (zs.getD 0 0)) := by simpa [Addr.add] using h0
   rcases Nat.lt_or_ge b w.heap.size with hlt | hge
   ·exact hlt
   ·simp [World.cell?, Array.getElem?_eq_none hge] at h1
  refine ⟨b, off, rfl, hb, fun j hj => ?_⟩
  have h1 := hcell j (by omega)
  have e1 : (Addr.add ⟨b, off, none⟩ j) = ⟨b, off + j, none⟩ := by
   unfold Addr.add
   by_cases h0 : j = 0 <;> simp [h0]
  rw [e1] at h1
  rw [h1]
  have : zs.getD j 0 = ix (zs.take len) j := by
   unfold ix
   simp [List.getD, hj]
  rw [this]
theorem SlI.rd {w : World} {A : Option Addr} {n c : Nat} {l : List Int} (h : SlI 1 inI w (fun b => w.heap.size ≤ b) [.slice A n c] l) : Rd w w.heap.size A n l ∧ n ≤ 9223372036854775807 := by
 obtain ⟨A', n', c', e, hc, hl, hj⟩ := h
 injection e with e _
 injection e with e1 e2 e3
 subst e1 e2 e3
 refine ⟨⟨hl, fun h0 => ?_⟩, by rcases hc with ⟨_, h, _⟩ | ⟨_, _, h, h2⟩ <;> omega⟩
 obtain ⟨b, off, vs, e, hb, _, _, _, _⟩ := hj 0 h0
 refine ⟨b, off, e, hb, fun j hjn => ?_⟩
 obtain ⟨b', off', vs, e', _, _, _, hc, hi⟩ := hj j hjn
 rw [e] at e'
 injection e' with e'
 injection e' with e1 e2 _
 subst e1 e2
 have hi' : vs = [.int .i64 (l.getD j default)] := hi
 subst hi'
 have := hc 0 _ rfl
 rw [Nat.mul_one, Nat.add_zero] at this
 exact this
theorem SlI.rdE {w : World} {A : Option Addr} {n c : Nat} {l : List Pr} (h : SlI 2 prI w (fun b => w.heap.size ≤ b) [.slice A n c] l) : RdE w w.heap.size A n l ∧ n ≤ 9223372036854775807 := by
 obtain ⟨A', n', c', e, hc, hl, hj⟩ := h
 injection e with e _
 injection e with e1 e2 e3
 subst e1 e2 e3
 refine ⟨⟨hl, fun h0 => ?_⟩, by rcases hc with ⟨_, h, _⟩ | ⟨_, _, h, h2⟩ <;> omega⟩
 obtain ⟨b, off, vs, e, hb, _, _, _, _⟩ := hj 0 h0
 refine ⟨b, off, e, hb, fun j hjn => ?_⟩
 obtain ⟨b', off', vs, e', _, _, _, hc, us, ts, e3, h1, h2⟩ := hj j hjn
 rw [e] at e'
 injection e' with e'
 injection e' with e1 e2 _
 subst e1 e2
 have h1' : us = [.int .i64 (l.getD j default).1] := h1
 have h2' : ts = [.int .i64 (l.getD j default).2] := h2
 subst h1' h2' e3
 exact ⟨hc 0 _ rfl, hc 1 _ rfl⟩
theorem plI.parts {w : World} {vs : List Value} {x : List Int × List Int × List Pr × List Pr} (h : plI w (fun b => w.heap.size ≤ b) vs x) : ∃ (BF : Option Addr) (mF dF : Nat) (BT : Option Addr) (mT dT : Nat) (BS : Option Addr) (mS dS : Nat) (BE : Option Addr) (mE dE : Nat), vs = [.slice BF mF dF, .slice BT mT dT, .slice BS mS dS, .slice BE mE dE] ∧ PlR w w.heap.size BF mF BT mT BS mS BE mE ⟨x.1, x.2.1, x.2.2.1, x.2.2.2⟩ := by
 obtain ⟨us1, ts1, e1, h1, us2, ts2, e2, h2, us3, us4, e3, h3, h4⟩ := h
 have g1 := h1
 have g2 := h2
 have g3 := h3
 have g4 := h4
 obtain ⟨BF, mF, dF, rfl, _, _⟩ := g1
 obtain ⟨BT, mT, dT, rfl, _, _⟩ := g2
 obtain ⟨BS, mS, dS, rfl, _, _⟩ := g3
 obtain ⟨BE, mE, dE, rfl, _, _⟩ := g4
 have k1 := SlI.rd h1
 have k2 := SlI.rd h2
 have k3 := SlI.rdE h3
 have k4 := SlI.rdE h4
 subst e1 e2 e3
 exact ⟨BF, mF, dF, BT, mT, dT, BS, mS, dS, BE, mE, dE, rfl, k1.1, k2.1, k3.1, k4.1, k1.2, k2.2, k3.2, k4.2⟩
section
variable {H : Type} {enc : TypeId × Value → H} {w : World} {held : Bool}
set_option maxRecDepth 20000 in
theorem open_planS {r : Reach} {base : Nat} {v : Value} {d : DataW H} {ps : List MemPlace} (hval : Value.okWide Try.prog w r base 29 v) (h : DataW.Trod enc Try.prog w 0 (fun _ => true) held 29 v d ps) :
  ∃ (BF : Option Addr) (mF dF : Nat) (BT : Option Addr) (mT dT : Nat) (BS : Option Addr) (mS dS : Nat) (BE : Option Addr) (mE dE : Nat) (p : PlV), v = .agg #[.slice BF mF dF, .slice BT mT dT, .slice BS mS dS, .slice BE mE dE] ∧ PlR w w.heap.size BF mF BT mT BS mS BE mE p := by
 obtain ⟨cs, rfl, hsz⟩ := okWide_struct Try.underlying29 hval
 obtain ⟨fuel, hf0⟩ := h
 obtain ⟨x, hq⟩ := opn_plan hf0
 obtain ⟨BF, mF, dF, BT, mT, dT, BS, mS, dS, BE, mE, dE, e, hp⟩ := plI.parts hq
 refine ⟨BF, mF, dF, BT, mT, dT, BS, mS, dS, BE, mE, dE, _, ?_, hp⟩
 have e2 : cs.toList = _ := e
 rw [show cs = (cs.toList).toArray by simp, e2]
theorem open_records {A : Option Addr} {n c : Nat} {d : DataW H} {ps : List MemPlace} (h : DataW.Trod enc Try.prog w 0 (fun _ => true) held 22 (.slice A n c) d ps) : ∃ l : List RcV, RdL w w.heap.size A n l := by
 obtain ⟨fuel, hf0⟩ := h
 have hf : DataW.trod enc Try.prog w 0 (fun _ => true) held fuel 22 [.slice A n c] = some (d, ps) := by simpa [Value.cells] using hf0
 obtain ⟨x, A', n', c', e, hc, hl, hj⟩ := opn_records hf
 injection e with e _
 injection e with e1 e2 e3
 subst e1 e2 e3
 refine ⟨x.map (fun y => ⟨y.1, y.2.1, ⟨y.2.2.1, y.2.2.2.1, y.2.2.2.2.1, y.2.2.2.2.2⟩⟩), by rw [List.length_map]; exact hl, by rcases hc with ⟨_, h, _⟩ | ⟨_, _, h, h2⟩ <;> omega, fun j hjn => ?_⟩
 obtain ⟨b, off, vs, e, hb, _, _, hcc, us1, ts1, e1, h1, us2, ts2, e2, h2, h3⟩ := hj j hjn
 obtain ⟨BF, mF, dF, BT, mT, dT, BS, mS, dS, BE, mE, dE, e4, hp⟩ := plI.parts h3
 have h1' : us1 = [.int .i64 (x.getD j default).1] := h1
 have h2' : us2 = [.int .i64 (x.getD j default).2.1] := h2
 subst h1' h2' e4 e2 e1
 have hg : rcAt (x.map (fun y => (⟨y.1, y.2.1, ⟨y.2.2.1, y.2.2.2.1, y.2.2.2.2.1, y.2.2.2.2.2⟩⟩ : RcV))) j = ⟨(x.getD j default).1, (x.getD j default).2.1, ⟨(x.getD j default).2.2.1, (x.getD j default).2.2.2.1, (x.getD j default).2.2.2.2.1, (x.getD j default).2.2.2.2.2⟩⟩ := by
  unfold rcAt
  have hjx : j < x.length := by omega
  simp [List.getD, hjx]
 rw [hg]
 exact ⟨b, off, BF, mF, dF, BT, mT, dT, BS, mS, dS, BE, mE, dE, e, hb, hcc 0 _ rfl, hcc 1 _ rfl, hcc 2 _ rfl, hcc 3 _ rfl, hcc 4 _ rfl, hcc 5 _ rfl, hp⟩
end
end Go.Proofs.Ytolgmoaoheflcaa.Sa
