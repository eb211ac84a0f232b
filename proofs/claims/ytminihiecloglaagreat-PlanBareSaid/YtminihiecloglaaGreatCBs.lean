/-
  MERGED: CBr CBp CBs.
-/
import Derived.Test.YtminihiecloglaaGreatCCm
import Derived.Test.YtminihiecloglaaGreatCPv
import Derived.Test.YtminihiecloglaaGreatDLev
namespace Go.Proofs.YtminihiecloglaaGreat
open Go.RowKit
open SemP DiP
set_option linter.unusedVariables false
set_option linter.unusedSimpArgs false
set_option maxRecDepth 10000
section
variable {w : World} {g q : Nat} {u : Value} {T : TypeId} {cur : Array Value}
theorem psO_miss {M : Nat → Prop} {vs : List Value} {l : List Nd} (hg : w.heap[g]? = some (.cells cur 86 (0, 0))) (h : psO w M vs l) : psO (w.setCell ⟨g, q, none⟩ u) M vs l :=
  OwI.miss hg (by decide) (fun {us x} ⟨a, b, e, h1, h2⟩ => ⟨a, b, e, h1, OwI.miss hg (by decide) (fun {us x} h3 => OwI.miss hg (by decide) (fun h4 => h4) h3) h2⟩) h
end
/-- Needs struck here and there. -/
def SubR (x y : Rl) : Prop := y.1 = x.1 ∧ y.2.1 = x.2.1 ∧ (y.2.2 = x.2.2 ∨ y.2.2 = [])
def SubS (x y : Sv) : Prop := y.1 = x.1 ∧ y.2.length = x.2.length ∧ ∀ b, b < x.2.length → SubR (rlAt x.2 b) (rlAt y.2 b)
theorem SubR.refl (x : Rl) : SubR x x := ⟨rfl, rfl, .inl rfl⟩
theorem SubR.trans {x y z : Rl} (h : SubR x y) (k : SubR y z) : SubR x z := ⟨k.1.trans h.1, k.2.1.trans h.2.1, k.2.2.elim (fun e => h.2.2.elim (fun e2 => .inl (e.trans e2)) (fun e2 => .inr (e.trans e2))) .inr⟩
theorem SubS.refl (x : Sv) : SubS x x := ⟨rfl, rfl, fun b _ => SubR.refl _⟩
theorem SubS.trans {x y z : Sv} (h : SubS x y) (k : SubS y z) : SubS x z := ⟨k.1.trans h.1, k.2.1.trans h.2.1, fun b hb => (h.2.2 b hb).trans (k.2.2 b (by rw [h.2.1]; exact hb))⟩
/-- A row of releases, whatever row the store hit. -/
theorem rsO_hit {w : World} {g b : Nat} {M : Nat → Prop} {cur : Array Value} {v : Value} {rl : List Rl} (hg : w.heap[g]? = some (.cells cur 86 (0, 0))) (h : rsO w M [v] rl) :
    ∃ rl' : List Rl, rsO (w.setCell ⟨g, b * 6 + 5, none⟩ (.slice none 0 0)) M [v] rl' ∧ rl'.length = rl.length ∧ (∀ j, j < rl.length → SubR (rlAt rl j) (rlAt rl' j)) ∧ (v.ownBlock = some g → b < rl.length → (rlAt rl' b).2.2 = []) := by
  obtain ⟨v', e, hv, vals, ho, hj⟩ := h
  injection e with e _
  subst e
  have keepI : ∀ {us : List Value} {x : Rl}, reO w M us x → reO (w.setCell ⟨g, b * 6 + 5, none⟩ (.slice none 0 0)) M us x := fun {us x} ⟨a1, a2, e, h1, a3, a4, e2, h2, h3⟩ => ⟨a1, a2, e, h1, a3, a4, e2, h2, psO_miss hg h3⟩
  by_cases hb : v.ownBlock = some g
  · obtain ⟨c, rfl⟩ : ∃ c, v = .slice (some ⟨g, 0, none⟩) rl.length c := by
      rcases ho.2 with ⟨rfl, _⟩ | ⟨g', cap, cur', e, _⟩
      · cases hb
      · subst e
        have : g' = g := by simpa [Value.ownBlock] using hb
        subst this; exact ⟨cap, rfl⟩
    by_cases hbl : b < rl.length
    · obtain ⟨hs, _⟩ := ho.stored (b * 6 + 5) (.slice none 0 0)
      have hlen : (rl.set b ((rlAt rl b).1, (rlAt rl b).2.1, [])).length = rl.length := List.length_set
      have hat : ∀ j, rlAt (rl.set b ((rlAt rl b).1, (rlAt rl b).2.1, [])) j = if b = j then ((rlAt rl b).1, (rlAt rl b).2.1, []) else rlAt rl j := by
        intro j
        unfold rlAt
        by_cases e : b = j
        · subst e; simp [List.getD, hbl]
        · simp [List.getD, e]
      refine ⟨rl.set b ((rlAt rl b).1, (rlAt rl b).2.1, []), ⟨_, rfl, hv, _, by rw [hlen]; exact hs, fun j hl => ?_⟩, hlen, fun j hl => ?_, fun _ _ => by rw [hat, if_pos rfl]⟩
      · rw [hlen] at hl
        obtain ⟨us, h1, h2, h3⟩ := hj j hl
        have hgd : (rl.set b ((rlAt rl b).1, (rlAt rl b).2.1, [])).getD j default = if b = j then ((rlAt rl b).1, (rlAt rl b).2.1, []) else rlAt rl j := hat j
        rw [hgd]
        have hjlen : ∀ i x, us[i]? = some x → i < 6 := fun i x hx => by rw [← h1]; exact (List.getElem?_eq_some_iff.1 hx).1
        by_cases e : b = j
        · subst e
          rw [if_pos rfl]
          obtain ⟨a1, a2, e1, hv1, a3, a4, e2, hi1, hp1⟩ := h3
          have ev : a1 = [.int .i64 (rlAt rl b).1.1, .int .i64 (rlAt rl b).1.2.1, .int .i64 (rlAt rl b).1.2.2.1, .string (rlAt rl b).1.2.2.2] := hv1
          have ei : a3 = [.int .i64 (rlAt rl b).2.1] := hi1
          obtain ⟨pv, ep, _⟩ := hp1
          subst ep ei ev e2 e1
          refine ⟨[.int .i64 (rlAt rl b).1.1, .int .i64 (rlAt rl b).1.2.1, .int .i64 (rlAt rl b).1.2.2.1, .string (rlAt rl b).1.2.2.2, .int .i64 (rlAt rl b).2.1, .slice none 0 0], rfl, fun i x hx => ?_, [.int .i64 (rlAt rl b).1.1, .int .i64 (rlAt rl b).1.2.1, .int .i64 (rlAt rl b).1.2.2.1, .string (rlAt rl b).1.2.2.2], [.int .i64 (rlAt rl b).2.1, .slice none 0 0], rfl, rfl, [.int .i64 (rlAt rl b).2.1], [.slice none 0 0], rfl, rfl, ⟨_, rfl, (fun g hg => by cases hg), [], World.ownsRow_nil _ _ _ _, fun j hj => absurd hj (by simp)⟩⟩
          have hlt : b * 6 + 5 < vals.length := by rw [ho.1]; omega
          match i, hx with
          | 0, hx => rw [List.getElem?_set_ne (by omega)]; exact h2 0 x hx
          | 1, hx => rw [List.getElem?_set_ne (by omega)]; exact h2 1 x hx
          | 2, hx => rw [List.getElem?_set_ne (by omega)]; exact h2 2 x hx
          | 3, hx => rw [List.getElem?_set_ne (by omega)]; exact h2 3 x hx
          | 4, hx => rw [List.getElem?_set_ne (by omega)]; exact h2 4 x hx
          | 5, hx => rw [List.getElem?_set_self hlt]; exact hx
          | i + 6, hx => simp at hx
        · rw [if_neg e]
          refine ⟨us, h1, fun i x hx => ?_, keepI h3⟩
          have := hjlen i x hx
          rw [List.getElem?_set_ne (by omega)]; exact h2 i x hx
      · rw [hat]
        by_cases e : b = j
        · subst e; rw [if_pos rfl]; exact ⟨rfl, rfl, .inr rfl⟩
        · rw [if_neg e]; exact SubR.refl _
    · obtain ⟨hs, _⟩ := ho.stored (b * 6 + 5) (.slice none 0 0)
      rw [List.set_eq_of_length_le (by rw [ho.1]; omega)] at hs
      refine ⟨rl, ⟨_, rfl, hv, vals, hs, fun j hl => ?_⟩, rfl, fun j _ => SubR.refl _, fun _ h => absurd h hbl⟩
      obtain ⟨us, h1, h2, h3⟩ := hj j hl
      exact ⟨us, h1, h2, keepI h3⟩
  · refine ⟨rl, ⟨v, rfl, hv, vals, own_frm (M := fun x => x = g) ho (FrM.of_grown (grown_set w g (b * 6 + 5) _) (fun g' hg' => by injection hg' with hg'; exact hg'.symm)) (fun g' hg' e => hb (by rw [hg', e])), fun j hl => ?_⟩, rfl, fun j _ => SubR.refl _, fun h => absurd h hb⟩
    obtain ⟨us, h1, h2, h3⟩ := hj j hl
    exact ⟨us, h1, h2, keepI h3⟩
/-- The whole catalogue, whatever row of releases the store hit. -/
theorem cat_hit {w : World} {base g gS c b : Nat} {cur : Array Value} {l : List Sv} (hg : w.heap[g]? = some (.cells cur 86 (0, 0))) (h : OwnJ 89 2 svO w base (.slice (some ⟨gS, 0, none⟩) l.length c) l) :
    ∃ l' : List Sv, OwnJ 89 2 svO (w.setCell ⟨g, b * 6 + 5, none⟩ (.slice none 0 0)) base (.slice (some ⟨gS, 0, none⟩) l'.length c) l' ∧ l'.length = l.length ∧ (∀ j, j < l.length → SubS (svAt l j) (svAt l' j)) ∧ (∀ j, j < l.length → ∀ u, w.cell? ⟨gS, j * 2 + 1, none⟩ = some u → u.ownBlock = some g → b < (svAt l j).2.length → (rlAt (svAt l' j).2 b).2.2 = []) := by
  obtain ⟨vals, ho, hj⟩ := h
  have each : ∀ j, j < l.length → ∃ x : Sv, (∃ us, us.length = 2 ∧ (∀ i y, us[i]? = some y → vals[j * 2 + i]? = some y) ∧ svO (w.setCell ⟨g, b * 6 + 5, none⟩ (.slice none 0 0)) (Ap base (.slice (some ⟨gS, 0, none⟩) l.length c)) us x) ∧ SubS (svAt l j) x ∧ (∀ u, w.cell? ⟨gS, j * 2 + 1, none⟩ = some u → u.ownBlock = some g → b < (svAt l j).2.length → (rlAt x.2 b).2.2 = []) := by
    intro j hl
    obtain ⟨us, h1, h2, u1, u2, e, hs, hr⟩ := hj j hl
    have e1 : u1 = [.string (l.getD j default).1] := hs
    obtain ⟨v, ev⟩ : ∃ v, u2 = [v] := by obtain ⟨v, e2, _⟩ := hr; exact ⟨v, e2⟩
    subst ev e1 e
    obtain ⟨rl', k1, k2, k3, k4⟩ := rsO_hit (b := b) hg hr
    refine ⟨((l.getD j default).1, rl'), ⟨_, h1, h2, [.string (l.getD j default).1], [v], rfl, rfl, k1⟩, ⟨rfl, k2, k3⟩, fun u hu hb hlt => ?_⟩
    have hc : w.cell? ⟨gS, j * 2 + 1, none⟩ = some v := row_cell ho (h2 1 v rfl)
    rw [hc] at hu
    injection hu with hu
    subst hu
    exact k4 hb hlt
  obtain ⟨f, hf⟩ := choose_f each
  have hlen : ((List.range l.length).map f).length = l.length := by simp
  have hat : ∀ j, j < l.length → svAt ((List.range l.length).map f) j = f j := fun j hl => by simp [svAt, List.getD, hl]
  refine ⟨(List.range l.length).map f, ⟨vals, by rw [hlen]; exact own_miss hg (by decide) ho, fun j hl => ?_⟩, hlen, fun j hl => by rw [hat j hl]; exact (hf j hl).2.1, fun j hl u hu hb hlt => by rw [hat j hl]; exact (hf j hl).2.2 u hu hb hlt⟩
  rw [hlen] at hl
  obtain ⟨us, h1, h2, h3⟩ := (hf j hl).1
  refine ⟨us, h1, h2, ?_⟩
  have e : ((List.range l.length).map f).getD j default = f j := hat j hl
  rw [e, hlen]; exact h3
end Go.Proofs.YtminihiecloglaaGreat

namespace Go.Proofs.YtminihiecloglaaGreat
open Go.RowKit
open SemP FlP GaP DiP
set_option linter.unusedVariables false
set_option linter.unusedSimpArgs false
set_option maxRecDepth 10000
/-- l2 is l with all needs struck. -/
structure Bared (l l2 : List Sv) : Prop where
  len : l2.length = l.length
  sub : ∀ j, j < l.length → SubS (svAt l j) (svAt l2 j)
  no : ∀ j, j < l.length → ∀ b, b < (svAt l j).2.length → (rlAt (svAt l2 j).2 b).2.2 = []
theorem getD_out {α : Type} [Inhabited α] (l : List α) (v : Nat) (hv : ¬ v < l.length) : l.getD v default = default := by simp [List.getD, List.getElem?_eq_none (Nat.le_of_not_lt hv)]
theorem Bared.asks {l l2 : List Sv} (h : Bared l l2) (i : Nat) (j : Int) : asks l2 i j = false := by
  unfold Go.Proofs.YtminihiecloglaaGreat.asks
  rw [List.any_eq_false]
  intro r hr
  by_cases hi : i < l.length
  · obtain ⟨b, hb, rfl⟩ := List.getElem_of_mem hr
    have e : rlAt (svAt l2 i).2 b = (svAt l2 i).2[b]'hb := getD_at _ b hb
    rw [← e, h.no i hi b (by rw [← (h.sub i hi).2.1]; exact hb)]
    simp
  · have e : svAt l2 i = default := getD_out _ i (by rw [h.len]; exact hi)
    rw [e] at hr
    exact absurd hr (by simp [default])
theorem Bared.grK {l l2 : List Sv} (h : Bared l l2) : ∀ k, grK l2 k = []
  | 0 => rfl
  | k + 1 => by
    unfold Go.Proofs.YtminihiecloglaaGreat.grK
    rw [h.grK k]
    unfold grR
    rw [List.filter_eq_nil_iff.2 (fun i _ => by rw [h.asks]; simp)]
    rfl
theorem Bared.grE {l l2 : List Sv} (h : Bared l l2) : grE l2 = [] := h.grK _
theorem Bared.link {l l2 : List Sv} (h : Bared l l2) (i j : Int) : linkC l2 i j = false := by
  unfold linkC
  rw [h.asks, h.asks]; simp
theorem Bared.names {l l2 : List Sv} (h : Bared l l2) : l2.map (·.1) = l.map (·.1) := by
  apply List.ext_getElem
  · simp [h.len]
  · intro i h1 h2
    simp only [List.length_map] at h1 h2
    simp only [List.getElem_map]
    have e1 := getD_at l2 i h1
    have e2 := getD_at l i h2
    rw [← e1, ← e2]
    exact (h.sub i h2).1
theorem any_names (l : List Sv) (nm : ByteArray) (i : Nat) : (l.take i).any (fun o => decide (o.1 = nm)) = ((l.map (·.1)).take i).any (fun o => decide (o = nm)) := by
  rw [← List.map_take, List.any_map]; rfl
theorem Bared.svc {l l2 : List Sv} (h : Bared l l2) {i : Nat} (hi : i < l.length) (h0 : svcE l i = 0) : svcE l2 i = 0 := by
  have hs := h.sub i hi
  unfold svcE at h0 ⊢
  rw [hs.1, hs.2.1, any_names, h.names, ← any_names]
  exact h0
theorem Bared.rel {l l2 : List Sv} (h : Bared l l2) {i v : Nat} (hi : i < l.length) (hv : v < (svAt l i).2.length) (h0 : relE l.length i (svAt l i).2 v = 0) : relE l2.length i (svAt l2 i).2 v = 0 := by
  have hs := (h.sub i hi).2.2 v hv
  have hn := h.no i hi v hv
  unfold relE at h0 ⊢
  have hp : 0 < v → (rlAt (svAt l2 i).2 (v - 1)).1 = (rlAt (svAt l i).2 (v - 1)).1 ∧ (rlAt (svAt l2 i).2 (v - 1)).2.1 = (rlAt (svAt l i).2 (v - 1)).2.1 := fun _ => by
    have := (h.sub i hi).2.2 (v - 1) (by omega)
    exact ⟨this.1, this.2.1⟩
  rw [hs.1, hs.2.1, hn]
  by_cases a1 : Ver.right (vOf (rlAt (svAt l i).2 v).1) = false
  · rw [if_pos a1] at h0; exact absurd h0 (by decide)
  rw [if_neg a1] at h0 ⊢
  have needs0 : needsE l2.length i [] = 0 := rfl
  by_cases hv0 : 0 < v
  · obtain ⟨p1, p2⟩ := hp hv0
    rw [p1, p2]
    by_cases a2 : 0 < v ∧ 0 ≤ cmpV (vOf (rlAt (svAt l i).2 (v - 1)).1) (vOf (rlAt (svAt l i).2 v).1)
    · rw [if_pos a2] at h0; exact absurd h0 (by decide)
    rw [if_neg a2] at h0 ⊢
    by_cases a3 : (rlAt (svAt l i).2 v).2.1 < (if 0 < v then (rlAt (svAt l i).2 (v - 1)).2.1 else 0) ∨ 1000 < (rlAt (svAt l i).2 v).2.1
    · rw [if_pos a3] at h0; exact absurd h0 (by decide)
    rw [if_neg a3]
    rw [if_neg (by simp)]; exact needs0
  · rw [if_neg (fun q => hv0 q.1)] at h0 ⊢
    rw [if_neg hv0] at h0 ⊢
    by_cases a3 : (rlAt (svAt l i).2 v).2.1 < 0 ∨ 1000 < (rlAt (svAt l i).2 v).2.1
    · rw [if_pos a3] at h0; exact absurd h0 (by decide)
    rw [if_neg a3]
    rw [if_neg (by simp)]; exact needs0
theorem Bared.chk {l l2 : List Sv} (h : Bared l l2) (h0 : (chkC l).2.2 = 0) : chkC l2 = (0, 0, 0) := by
  have hlen := ck_len h0
  have hok := (ck_ok h0).1
  rw [chkC_end (by rw [h.len]; omega) (fun j hj => ?_)]
  · rw [h.grE, if_pos (goes_of_rank (g := []) (fun k hk => absurd hk (by simp)) (by rw [h.len]; omega) (fun _ => 0) (fun u v ⟨k, hk, _⟩ => absurd hk (by simp)))]
  · rw [h.len] at hj
    obtain ⟨s1, s2⟩ := ck_svc (hok j hj)
    refine chkS_ok (h.svc hj s1) (fun v hv => bad3_no.2 ?_)
    rw [(h.sub j hj).2.1] at hv
    exact h.rel hj hv (s2 v hv)
theorem Bared.good {l l2 : List Sv} (h : Bared l l2) (hl : LevOK l2) (hs : SmCat l2) {vs : List Int} (hset : setB l2 vs = true) : goodC l2 (setL l2 vs) = true := by
  obtain ⟨s1, s2⟩ := setB_iff.1 hset
  rw [goodC_iff, setL_len]
  refine ⟨s1, fun k hk => by rw [setL_at l2 vs hk]; exact stand_set hl hs (s2 k hk), fun j hj k hk => ?_⟩
  rw [fitP_set (by omega) hj]
  have b1 : ∀ (i : Int) v (j : Int) x, isR l2 i v = true → bearsB l2 i v j x = true := fun i v j x hr => by
    obtain ⟨a, b, rfl, rfl, ha, hb⟩ := isR_nat hr
    rw [h.len] at ha
    unfold bearsB
    rw [Int.toNat_natCast, Int.toNat_natCast, h.no a ha b (by rw [← (h.sub a ha).2.1]; exact hb)]
    rfl
  have r1 := s2 k (by omega)
  have r2 := s2 j hj
  unfold fitsC
  rw [decide_eq_true (by omega), r1, r2, b1 _ _ _ _ r1, b1 _ _ _ _ r2]
  rfl
end Go.Proofs.YtminihiecloglaaGreat

namespace Go.Proofs.YtminihiecloglaaGreat
open Go.RowKit
open SemP DiP
set_option linter.unusedVariables false
set_option linter.unusedSimpArgs false
set_option maxRecDepth 10000
theorem svO_svI {w : World} {M : Nat → Prop} {us : List Value} {x : Sv} (h : svO w M us x) : svI w M us x := by
  obtain ⟨a, b, e, h1, h2⟩ := h
  exact ⟨a, b, e, h1, OwI.sl (fun {us x} ⟨a, b, e, h1, a2, b2, e2, h3, h4⟩ => ⟨a, b, e, h1, a2, b2, e2, h3, OwI.sl (fun {us x} ⟨a, b, e, h1, h2⟩ => ⟨a, b, e, h1, OwI.sl (fun h => OwI.sl (fun h => h) h) h2⟩) h4⟩) h2⟩
theorem OwnJ.svI {w : World} {base : Nat} {v : Value} {l : List Sv} (h : OwnJ 89 2 svO w base v l) : OwnJ 89 2 svI w base v l := by
  obtain ⟨vals, ho, hj⟩ := h
  refine ⟨vals, ho, fun j hl => ?_⟩
  obtain ⟨us, h1, h2, h3⟩ := hj j hl
  exact ⟨us, h1, h2, svO_svI h3⟩
theorem SubS.sm {x y : Sv} (h : SubS x y) (hs : SmSv x) : SmSv y := by
  refine ⟨by rw [h.1]; exact hs.1, by rw [h.2.1]; exact hs.2.1, fun r hr => ?_⟩
  obtain ⟨b, hb, rfl⟩ := List.getElem_of_mem hr
  have e : rlAt y.2 b = y.2[b]'hb := getD_at _ b hb
  rw [← e]
  have hb' : b < x.2.length := by rw [← h.2.1]; exact hb
  obtain ⟨k1, k2, k3⟩ := h.2.2 b hb'
  have hx := hs.2.2 _ (rlAt_mem hb')
  rcases k3 with k3 | k3
  · exact ⟨by rw [k3]; exact hx.1, by rw [k1]; exact hx.2.1, by rw [k3]; exact hx.2.2⟩
  · exact ⟨by rw [k3]; simp, by rw [k1]; exact hx.2.1, by rw [k3]; intro p hp; simp at hp⟩
theorem subs_sm {l l2 : List Sv} (hlen : l2.length = l.length) (h : ∀ j, j < l.length → SubS (svAt l j) (svAt l2 j)) (hs : SmCat l) : SmCat l2 := by
  refine ⟨by rw [hlen]; exact hs.1, fun s hs2 => ?_⟩
  obtain ⟨j, hj, rfl⟩ := List.getElem_of_mem hs2
  have e : svAt l2 j = l2[j]'hj := getD_at _ j hj
  rw [← e]
  exact (h j (by rw [← hlen]; exact hj)).sm (hs.2 _ (svAt_mem (by rw [← hlen]; exact hj)))
theorem own_cat {w : World} {base c : Nat} {A : Option Addr} {l : List Sv} (h : OwnJ 89 2 svO w base (.slice A l.length c) l) (hs : SmCat l) (hm : LenAt w) (h1 : 1 < w.heap.size) : CatAt w w.heap.size A l.length c l :=
  ⟨h.svI.rd sv_turns (fun b hb => .inr hb), h.capA, Nat.le_refl _, hs, hm, h1⟩
/-- A service's row of releases, and where a store into it goes. -/
theorem at_rel {w : World} {base gS c a : Nat} {l : List Sv} (h : OwnJ 89 2 svO w base (.slice (some ⟨gS, 0, none⟩) l.length c) l) (ha : a < l.length) :
    ∃ v, w.cell? ⟨gS, a * 2 + 1, none⟩ = some v ∧ (∃ A cc, v = .slice A (svAt l a).2.length cc) ∧ ∀ b, b < (svAt l a).2.length → ∃ g cur cc y, v = .slice (some ⟨g, 0, none⟩) (svAt l a).2.length cc ∧ base ≤ g ∧ w.heap[g]? = some (.cells cur 86 (0, 0)) ∧ w.cell? ⟨g, b * 6 + 5, none⟩ = some y ∧ w.frozen? ⟨g, b * 6 + 5, none⟩ = false := by
  obtain ⟨vals, ho, hj⟩ := h
  obtain ⟨us, h1, h2, u1, u2, e, hs, v, ev, hv, vals2, ho2, hj2⟩ := hj a ha
  have e1 : u1 = [.string (l.getD a default).1] := hs
  subst ev e1 e
  refine ⟨v, row_cell ho (h2 1 v rfl), ?_, fun b hb => ?_⟩
  · rcases ho2.2 with ⟨rfl, h0⟩ | ⟨g, cap, cur, rfl, _⟩
    · exact ⟨none, 0, by show _ = Value.slice none (l.getD a default).2.length 0; rw [h0]⟩
    · exact ⟨some ⟨g, 0, none⟩, cap, rfl⟩
  · have hb' : b < (l.getD a default).2.length := hb
    have ho3 := ho2
    rcases ho2.2 with ⟨rfl, h0⟩ | ⟨g, cap, cur, rfl, _, hh, _⟩
    · omega
    · obtain ⟨xs, x1, x2, x3⟩ := hj2 b hb'
      obtain ⟨y, hy⟩ : ∃ y, xs[5]? = some y := ⟨xs[5]'(by omega), by rw [List.getElem?_eq_getElem]⟩
      exact ⟨g, cur, cap, y, rfl, Nat.le_of_not_lt (fun hlt => hv g rfl (.inr hlt)), hh, row_cell ho3 (x2 5 y hy), ho3.frozenAt _⟩
end Go.Proofs.YtminihiecloglaaGreat
