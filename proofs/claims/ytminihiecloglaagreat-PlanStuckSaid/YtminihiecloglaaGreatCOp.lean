/-
 A CATALOGUE THAT CAME IN, opened.
-/
import Derived.Test.YtminihiecloglaaGreatCMe
import Derived.Deep.Slices
import Derived.ChangeSame
import Derived.OpenShut
set_option linter.unusedVariables false
set_option linter.unusedSimpArgs false
namespace Go.Proofs.YtminihiecloglaaGreat
open Go.RowKit
open SemP
open Go.ChangeShapes Go.WideShapes Go.Deep
theorem add_addU (a : Addr) (i j : Nat) : (a.add i).add j = a.add (i + j) := by
 unfold Addr.add
 by_cases h0 : i = 0 <;> by_cases h1 : j = 0 <;> simp [h0, h1, Nat.add_assoc]
section
variable {H : Type} {enc : TypeId × Value → H} {w : World} {held : Bool}
def Opn {α : Type} (enc : TypeId × Value → H) (w : World) (held : Bool) (T : TypeId) (I : ItT α) : Prop :=
 ∀ {fuel : Nat} {cs : List Value} {x : DataW H × List MemPlace}, DataW.trod enc Tryz.prog w 0 (fun _ => true) held fuel T cs = some x → ∃ y, I w (fun b => w.heap.size ≤ b) cs y
theorem Opn.int (T : TypeId) (hu : Tryz.prog.underlying T = some (.int .i64)) : Opn enc w held T inI := fun h => by
 obtain ⟨a, ha, _⟩ := DataW.trod_int hu h
 exact ⟨a, ha⟩
theorem Opn.str (T : TypeId) (hu : Tryz.prog.underlying T = some .string) : Opn enc w held T stI := fun h => by
 obtain ⟨s, hs, _⟩ := DataW.trod_string hu h
 exact ⟨s, hs⟩
theorem Opn.sl {α : Type} [Inhabited α] {S E : TypeId} {z : Nat} {I : ItT α} (hu : Tryz.prog.underlying S = some (.slice E)) (hz : Tryz.prog.cellsOf E = z) (hz0 : 0 < z) (hE : Opn enc w held E I) : Opn enc w held S (SlI z I) := fun {fuel cs x} h => by
 rcases open_slice hu h with ⟨h0, _⟩ | ⟨a, len, cap, m, n, D, Pl, h0, hb, hl, hm, hmm, _, hx⟩
 ·exact ⟨[], none, 0, 0, h0, .inl ⟨rfl, rfl, rfl⟩, rfl, fun j hj => absurd hj (by omega)⟩
 ·have hlm : len ≤ m := by rw [hmm]; split <;> omega
  have each : ∀ i, i < len → ∃ q : List Value × α, q.1.length = z ∧ (∀ k v, q.1[k]? = some v → w.cell? (a.add (i * z + k)) = some v) ∧ I w (fun b => w.heap.size ≤ b) q.1 q.2 := by
   intro i hi
   obtain ⟨cs', h1, h2⟩ := hx i (by omega)
   rw [hz] at h1
   obtain ⟨_, hlen, hcell⟩ := World.cells?_some h1
   obtain ⟨y, hy⟩ := hE h2
   refine ⟨(cs', y), hlen, fun k v hk => ?_, hy⟩
   have hkz : k < z := by
    rcases Nat.lt_or_ge k cs'.length with h | h
    ·omega
    ·rw [List.getElem?_eq_none h] at hk; cases hk
   have e := hcell k hkz
   rw [add_addU] at e
   exact e.trans hk
  obtain ⟨q, hq⟩ := choose_lt each
  refine ⟨(List.range len).map (fun j => (q j).2), some a, len, cap, h0, .inr ⟨_, rfl, hl, by unfold maxLen at hm; omega⟩, by simp, fun j hj => ?_⟩
  obtain ⟨h1, h2, h3⟩ := hq j hj
  obtain ⟨g1, g2, _⟩ := hq 0 (by omega)
  obtain ⟨u, hu0⟩ : ∃ u, (q 0).1[0]? = some u := ⟨(q 0).1[0]'(by omega), by rw [List.getElem?_eq_getElem]⟩
  have z0 := g2 0 u hu0
  rw [Nat.zero_mul] at z0
  obtain ⟨b, off, spot⟩ := a
  have hspot : spot = none := by simpa [Addr.add] using World.cell?_spot z0
  subst hspot
  have hbl : b < w.heap.size := by
   have h := block_lt_of_cell z0
   unfold Addr.add at h
   split at h <;> simpa using h
  have e : ∀ k, (Addr.add ⟨b, off, none⟩ k) = ⟨b, off + k, none⟩ := by
   intro k
   unfold Addr.add
   by_cases h0 : k = 0 <;> simp [h0]
  refine ⟨b, off, (q j).1, rfl, hbl, (fun h => by omega), h1, fun i v hv => ?_, ?_⟩
  ·have := h2 i v hv
   rw [e] at this
   rw [Nat.add_assoc]; exact this
  ·have hea : ((List.range len).map (fun j => (q j).2)).getD j default = (q j).2 := by simp [List.getD, hj]
   rw [hea]; exact h3
theorem Opn.one {α : Type} {I : ItT α} {T : TypeId} {fs : Array Field} {f : Field} (hu : Tryz.prog.underlying T = some (.struct fs)) (hs : fs.size = 1) (h1 : fs[0]? = some f) (o1 : f.offset = 0) (c : Tryz.prog.cellsOf T = Tryz.prog.cellsOf f.type) (hI : Opn enc w held f.type I) : Opn enc w held T I := fun {fuel cs x} h => by
 obtain ⟨xs, n, _, _, hl, hlen, hf⟩ := DataW.trod_struct hu h
 have g := hf 0 f h1
 rw [o1, List.drop_zero, List.take_of_length_le (by omega)] at g
 have hx : ∃ y0, xs[0]? = some y0 := ⟨xs[0]'(by omega), by rw [List.getElem?_eq_getElem]⟩
 obtain ⟨y0, hy0⟩ := hx
 rw [hy0] at g
 exact hI g
theorem Opn.tw {α β : Type} {I : ItT α} {J : ItT β} {T : TypeId} {fs : Array Field} {f g : Field} (hu : Tryz.prog.underlying T = some (.struct fs)) (hs : fs.size = 2) (h1 : fs[0]? = some f) (h2 : fs[1]? = some g) (o1 : f.offset = 0) (o2 : g.offset = Tryz.prog.cellsOf f.type) (c : Tryz.prog.cellsOf T = Tryz.prog.cellsOf f.type + Tryz.prog.cellsOf g.type)
  (hI : Opn enc w held f.type I) (hJ : Opn enc w held g.type J) : Opn enc w held T (TwI I J) := fun {fuel cs x} h => by
 obtain ⟨xs, n, _, _, hl, hlen, hf⟩ := DataW.trod_struct hu h
 have k1 := hf 0 f h1
 have k2 := hf 1 g h2
 obtain ⟨y0, hy0⟩ : ∃ y0, xs[0]? = some y0 := ⟨xs[0]'(by omega), by rw [List.getElem?_eq_getElem]⟩
 obtain ⟨y1, hy1⟩ : ∃ y1, xs[1]? = some y1 := ⟨xs[1]'(by omega), by rw [List.getElem?_eq_getElem]⟩
 rw [o1, List.drop_zero, hy0] at k1
 rw [o2, List.take_of_length_le (by rw [List.length_drop]; omega), hy1] at k2
 obtain ⟨a, ha⟩ := hI k1
 obtain ⟨b, hb⟩ := hJ k2
 exact ⟨(a, b), cs.take (Tryz.prog.cellsOf f.type), cs.drop (Tryz.prog.cellsOf f.type), (List.take_append_drop _ _).symm, ha, hb⟩
theorem Opn.th {α β γ : Type} {I : ItT α} {J : ItT β} {K : ItT γ} {T : TypeId} {fs : Array Field} {f g k : Field} (hu : Tryz.prog.underlying T = some (.struct fs)) (hs : fs.size = 3) (h1 : fs[0]? = some f) (h2 : fs[1]? = some g) (h3 : fs[2]? = some k) (o1 : f.offset = 0) (o2 : g.offset = Tryz.prog.cellsOf f.type) (o3 : k.offset = Tryz.prog.cellsOf f.type + Tryz.prog.cellsOf g.type) (c : Tryz.prog.cellsOf T = Tryz.prog.cellsOf f.type + (Tryz.prog.cellsOf g.type + Tryz.prog.cellsOf k.type))
  (hI : Opn enc w held f.type I) (hJ : Opn enc w held g.type J) (hK : Opn enc w held k.type K) : Opn enc w held T (TwI I (TwI J K)) := fun {fuel cs x} h => by
 obtain ⟨xs, n, _, _, hl, hlen, hf⟩ := DataW.trod_struct hu h
 have k1 := hf 0 f h1
 have k2 := hf 1 g h2
 have k3 := hf 2 k h3
 obtain ⟨y0, hy0⟩ : ∃ y0, xs[0]? = some y0 := ⟨xs[0]'(by omega), by rw [List.getElem?_eq_getElem]⟩
 obtain ⟨y1, hy1⟩ : ∃ y1, xs[1]? = some y1 := ⟨xs[1]'(by omega), by rw [List.getElem?_eq_getElem]⟩
 obtain ⟨y2, hy2⟩ : ∃ y2, xs[2]? = some y2 := ⟨xs[2]'(by omega), by rw [List.getElem?_eq_getElem]⟩
 rw [o1, List.drop_zero, hy0] at k1
 rw [o2, hy1] at k2
 rw [o3, List.take_of_length_le (by rw [List.length_drop]; omega), hy2] at k3
 obtain ⟨a, ha⟩ := hI k1
 obtain ⟨b, hb⟩ := hJ k2
 obtain ⟨d, hd⟩ := hK k3
 refine ⟨(a, b, d), cs.take (Tryz.prog.cellsOf f.type), cs.drop (Tryz.prog.cellsOf f.type), (List.take_append_drop _ _).symm, ha, (cs.drop (Tryz.prog.cellsOf f.type)).take (Tryz.prog.cellsOf g.type), (cs.drop (Tryz.prog.cellsOf f.type)).drop (Tryz.prog.cellsOf g.type), (List.take_append_drop _ _).symm, hb, ?_⟩
 rw [List.drop_drop]; exact hd
theorem Opn.map {α β : Type} {I : ItT α} {J : ItT β} {T : TypeId} (hI : Opn enc w held T I) (F : α → β) (h : ∀ {w M cs x}, I w M cs x → J w M cs (F x)) : Opn enc w held T J := fun hx => by
 obtain ⟨y, hy⟩ := hI hx
 exact ⟨F y, h hy⟩
set_option maxRecDepth 20000 in
theorem opn_ver : Opn enc w held 83 vnI := fun {fuel cs x} h => by
 obtain ⟨xs, n, _, _, hl, hlen, hf⟩ := DataW.trod_struct Tryz.underlying83 h
 rw [show Tryz.prog.cellsOf 83 = 4 by kernel_rfl] at hl
 obtain ⟨v0, v1, v2, v3, rfl⟩ : ∃ a b c d, cs = [a, b, c, d] := by
  match cs, hl with
  | [a, b, c, d], _ => exact ⟨a, b, c, d, rfl⟩
 obtain ⟨y0, y1, y2, y3, rfl⟩ : ∃ a b c d, xs = [a, b, c, d] := by
  match xs, hlen with
  | [a, b, c, d], _ => exact ⟨a, b, c, d, rfl⟩
 have g0 := hf 0 _ rfl
 have g1 := hf 1 _ rfl
 have g2 := hf 2 _ rfl
 have g3 := hf 3 _ rfl
 have g0' : DataW.trod enc Tryz.prog w 0 (fun _ => true) held n 3 [v0] = some y0 := by rw [show some y0 = [y0, y1, y2, y3][0]? from rfl, ← g0]; congr 1
 have g1' : DataW.trod enc Tryz.prog w 0 (fun _ => true) held n 3 [v1] = some y1 := by rw [show some y1 = [y0, y1, y2, y3][1]? from rfl, ← g1]; congr 1
 have g2' : DataW.trod enc Tryz.prog w 0 (fun _ => true) held n 3 [v2] = some y2 := by rw [show some y2 = [y0, y1, y2, y3][2]? from rfl, ← g2]; congr 1
 have g3' : DataW.trod enc Tryz.prog w 0 (fun _ => true) held n 9 [v3] = some y3 := by rw [show some y3 = [y0, y1, y2, y3][3]? from rfl, ← g3]; congr 1
 obtain ⟨a, ha, _, wa⟩ := DataW.trod_int Tryz.underlying3 g0'
 obtain ⟨b, hb, _, wb⟩ := DataW.trod_int Tryz.underlying3 g1'
 obtain ⟨c, hc, _, wc⟩ := DataW.trod_int Tryz.underlying3 g2'
 obtain ⟨s, hs, _, ws⟩ := DataW.trod_string Tryz.underlying9 g3'
 injection ha with ha
 injection hb with hb
 injection hc with hc
 injection hs with hs
 exact ⟨(a, b, c, s), by show [v0, v1, v2, v3] = _; rw [ha, hb, hc, hs]⟩
theorem opn_comp : Opn enc w held 93 cmI :=
 Opn.map (Opn.tw Tryz.underlying93 rfl rfl rfl rfl (by kernel_rfl) (by kernel_rfl) (Opn.int 3 Tryz.underlying3) opn_ver) (fun x => ⟨x.1, x.2.1, x.2.2.1, x.2.2.2.1, x.2.2.2.2⟩) (fun {w M cs x} h => by
  obtain ⟨us, ts, e, h1, h2⟩ := h
  have h1' : us = [.int .i64 x.1] := h1
  have h2' : ts = [.int .i64 x.2.1, .int .i64 x.2.2.1, .int .i64 x.2.2.2.1, .string x.2.2.2.2] := h2
  subst e h1' h2'
  rfl)
theorem opn_list : Opn enc w held 94 liI := Opn.sl Tryz.underlying94 (by kernel_rfl) (by omega) opn_comp
theorem opn_range : Opn enc w held 97 rgI := Opn.one Tryz.underlying97 rfl rfl rfl (by kernel_rfl) (Opn.sl Tryz.underlying95 (by kernel_rfl) (by omega) opn_list)
theorem opn_needs : Opn enc w held 84 psI := Opn.sl Tryz.underlying84 (by kernel_rfl) (by omega) (Opn.tw Tryz.underlying99 rfl rfl rfl rfl (by kernel_rfl) (by kernel_rfl) (Opn.int 3 Tryz.underlying3) opn_range)
theorem opn_release : Opn enc w held 86 reI := Opn.th Tryz.underlying86 rfl rfl rfl rfl rfl (by kernel_rfl) (by kernel_rfl) (by kernel_rfl) opn_ver (Opn.int 3 Tryz.underlying3) opn_needs
theorem opn_releases : Opn enc w held 87 rsI := Opn.sl Tryz.underlying87 (by kernel_rfl) (by omega) opn_release
theorem opn_service : Opn enc w held 89 svI := Opn.tw Tryz.underlying89 rfl rfl rfl rfl (by kernel_rfl) (by kernel_rfl) (Opn.str 9 Tryz.underlying9) opn_releases
theorem opn_services : Opn enc w held 22 ssI := Opn.sl Tryz.underlying22 (by kernel_rfl) (by omega) opn_service
theorem opn_catalog : Opn enc w held 24 ssI := Opn.one Tryz.underlying24 rfl rfl rfl (by kernel_rfl) opn_services
set_option maxRecDepth 20000 in
theorem open_catalog {r : Reach} {base : Nat} {v : Value} {d : DataW H} {ps : List MemPlace} (hval : Value.okWide Tryz.prog w r base 24 v) (h : DataW.Trod enc Tryz.prog w 0 (fun _ => true) held 24 v d ps) :
  ∃ (A : Option Addr) (n c : Nat) (l : List Sv), v = .agg #[.slice A n c] ∧ CapA A n c ∧ RdJ 2 svI w (fun b => w.heap.size ≤ b) A n l := by
 obtain ⟨cs, rfl, hsz⟩ := okWide_struct Tryz.underlying24 hval
 obtain ⟨fuel, hf0⟩ := h
 obtain ⟨l, hq⟩ := opn_catalog hf0
 obtain ⟨A, n, c, e, hcap, hr⟩ := hq
 refine ⟨A, n, c, l, ?_, hcap, hr⟩
 have e2 : cs.toList = [.slice A n c] := e
 rw [show cs = (cs.toList).toArray by simp, e2]
end
end Go.Proofs.YtminihiecloglaaGreat
