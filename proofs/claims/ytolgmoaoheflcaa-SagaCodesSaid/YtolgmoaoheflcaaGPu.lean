/-
 PLAIN MATHEMATICS for the statements of layer 17: states, records, what a record makes of a state, what holds in every state.
-/
import Derived.Test.YtolgmoaoheflcaaDOrder
namespace Go.Proofs.Ytolgmoaoheflcaa.Sa
open DiP
set_option linter.unusedVariables false
set_option linter.unusedSimpArgs false
abbrev Pr := Int × Int
structure PlV where
 fs : List Int
 ts : List Int
 S : List Pr
 E : List Pr
structure StV where
 num : Int
 ph : Int
 pl : PlV
 op : List Int
 dn : List Int
structure RcV where
 kind : Int
 step : Int
 pl : PlV
def pl0 : PlV := ⟨[], [], [], []⟩
def st0 : StV := ⟨0, 0, pl0, [], []⟩
instance : Inhabited PlV := ⟨pl0⟩
instance : Inhabited RcV := ⟨⟨0, 0, pl0⟩⟩
def ofStepB (k : Int) : Bool := decide (k = 2 ∨ k = 3 ∨ k = 4 ∨ k = 6)
def bareB (p : PlV) : Bool := decide (p.fs.length = 0 ∧ p.ts.length = 0 ∧ p.S.length = 0 ∧ p.E.length = 0)
def formB (r : RcV) : Bool := decide (1 ≤ r.kind ∧ r.kind ≤ 8) && (bareB r.pl || decide (r.kind = 1)) && (decide (r.step = 0) || ofStepB r.kind)
def hearsB (ph k : Int) : Bool :=
 if ph = 0 ∨ ph = 4 ∨ ph = 5 then decide (k = 1)
 else if ph = 1 then decide (k ≠ 1 ∧ k ≠ 6 ∧ k ≠ 8)
 else if ph = 2 then decide (k = 6 ∨ k = 8)
 else if ph = 3 then decide (k = 2 ∨ k = 3 ∨ k = 8)
 else false
def pAt (l : List Pr) (j : Nat) : Pr := l.getD j (0, 0)
def isLastB (p : PlV) (k : Nat) : Bool := decide ((pAt p.S k).2 = 3)
def inB (l : List Int) (k : Int) : Bool := decide (k ∈ l)
def missB (E : List Pr) (dn : List Int) (k : Int) : Bool := E.any (fun p => decide (p.2 = k) && !inB dn p.1)
def rangeB (s : StV) (k : Int) : Bool := decide (0 ≤ k) && decide (k < (s.pl.S.length : Int)) && !inB s.op k && !inB s.dn k
def mayB (s : StV) (k : Int) : Bool := rangeB s k && (decide (s.ph = if isLastB s.pl k.toNat then 3 else 1) && !missB s.pl.E s.dn k)
/-- The top; none: -1 does not occur. -/
def topO (s : StV) : Option Int := if s.ph = 2 then (if s.op = [] then s.dn.getLast? else s.op.getLast?) else none
def marksB (s : StV) : Bool := (List.range s.pl.S.length).all (fun k => isLastB s.pl k || inB s.dn (k : Int)) && decide (s.ph = 1)
def endsB (s : StV) : Bool := if s.ph = 3 then decide (s.dn.length = s.pl.S.length) else if s.ph = 2 then decide (s.op.length = 0) && decide (s.dn.length = 0) else false
def graphB (n : Nat) (es : List Pr) : Bool := decide (n ≤ 64 ∧ es.length ≤ 4096) && es.all (fun e => node (n : Int) e.1 && node (n : Int) e.2)
def natE (es : List Pr) : List (Nat × Nat) := es.map (fun e => (e.1.toNat, e.2.toNat))
def goesB (n : Nat) (es : List Pr) : Bool := (ordS (befG (natE es)) n n).2.length == n
theorem goesB_iff {n : Nat} {es : List Pr} : goesB n es = true ↔ Goes (befG (natE es)) n n := by unfold goesB Goes; exact beq_iff_eq
def canB (p : PlV) : Bool := decide (p.S.length ≤ 36) && p.S.all (fun x => decide (1 ≤ x.2 ∧ x.2 ≤ 3)) && (graphB p.S.length p.E && goesB p.S.length p.E)
def checkI (s : StV) (r : RcV) : Int :=
 if r.kind = 1 then (if canB r.pl then 0 else 45)
 else if r.kind = 2 then (if mayB s r.step then 0 else 71)
 else if r.kind = 3 ∨ r.kind = 4 then (if inB s.op r.step then 0 else 71)
 else if r.kind = 6 then (if topO s = some r.step then 0 else 71)
 else if r.kind = 7 then (if marksB s then 0 else 72)
 else if r.kind = 8 then (if endsB s then 0 else 72)
 else 0
def withoutL (l : List Int) (k : Int) : List Int := l.filter (fun x => decide (x ≠ k))
def behindS (s : StV) (r : RcV) : StV :=
 if r.kind = 1 then ⟨IntKind.i64.wrap (s.num + 1), 1, r.pl, [], []⟩
 else if r.kind = 2 then { s with op := s.op ++ [r.step] }
 else if r.kind = 3 then { s with op := withoutL s.op r.step, dn := s.dn ++ [r.step] }
 else if r.kind = 4 ∨ r.kind = 5 then { s with ph := 2 }
 else if r.kind = 6 then { s with op := withoutL s.op r.step, dn := withoutL s.dn r.step }
 else if r.kind = 7 then { s with ph := 3 }
 else if r.kind = 8 then { s with ph := if s.ph = 2 then 5 else 4 }
 else s
def takeE (s : StV) (r : RcV) : Int := if formB r = false then 12 else if hearsB s.ph r.kind = false then 70 else checkI s r
def takeS (s : StV) (r : RcV) : StV := if takeE s r = 0 then behindS s r else st0
/-- What holds in every state. -/
structure InvS (s : StV) : Prop where
 n36 : s.pl.S.length ≤ 36
 e4096 : s.pl.E.length ≤ 4096
 ed : ∀ e ∈ s.pl.E, 0 ≤ e.1 ∧ e.1 < (s.pl.S.length : Int) ∧ 0 ≤ e.2 ∧ e.2 < (s.pl.S.length : Int)
 rg : ∀ k ∈ s.op ++ s.dn, 0 ≤ k ∧ k < (s.pl.S.length : Int)
 nd : (s.op ++ s.dn).Nodup
 clo : ∀ e ∈ s.pl.E, e.2 ∈ s.op → e.1 ∈ s.dn
 cld : ∀ e ∈ s.pl.E, ∀ l1 l2, s.dn = l1 ++ e.2 :: l2 → e.1 ∈ l1
theorem InvS.start : InvS st0 := ⟨by decide, by decide, (fun e h => by cases h), (fun e h => by cases h), by exact List.nodup_nil, (fun e h => by cases h), (fun e h => by cases h)⟩
theorem inB_iff {l : List Int} {k : Int} : inB l k = true ↔ k ∈ l := by simp [inB]
theorem inB_no {l : List Int} {k : Int} : inB l k = false ↔ k ∉ l := by simp [inB]
theorem mem_without {l : List Int} {k x : Int} : x ∈ withoutL l k ↔ x ∈ l ∧ x ≠ k := by simp [withoutL]
theorem without_sub (l : List Int) (k : Int) : (withoutL l k).Sublist l := List.filter_sublist
theorem without_no {l : List Int} {k : Int} (h : k ∉ l) : withoutL l k = l := by
 unfold withoutL
 rw [List.filter_eq_self]
 intro x hx
 simp; rintro rfl; exact h hx
theorem without_last {l : List Int} {k : Int} (h : (l ++ [k]).Nodup) : withoutL (l ++ [k]) k = l := by
 have hk : k ∉ l := fun hk => by
  rw [List.nodup_append] at h
  exact h.2.2 k hk k (by simp) rfl
 unfold withoutL
 rw [List.filter_append]
 rw [show l.filter (fun x => decide (x ≠ k)) = l from without_no hk]
 simp
theorem mayB_iff {s : StV} {k : Int} : mayB s k = true ↔ (0 ≤ k ∧ k < (s.pl.S.length : Int)) ∧ k ∉ s.op ∧ k ∉ s.dn ∧ s.ph = (if isLastB s.pl k.toNat then 3 else 1) ∧ ∀ e ∈ s.pl.E, e.2 = k → e.1 ∈ s.dn := by
 unfold mayB rangeB missB
 simp only [Bool.and_eq_true, decide_eq_true_eq, Bool.not_eq_true', List.any_eq_false, inB_no]
 constructor
 ·rintro ⟨⟨⟨⟨h1, h2⟩, h3⟩, h4⟩, h5, h6⟩
  refine ⟨⟨h1, h2⟩, h3, h4, h5, fun e he h7 => ?_⟩
  have := h6 e he
  by_cases hm : e.1 ∈ s.dn
  ·exact hm
  ·exact absurd ⟨h7, hm⟩ this
 ·rintro ⟨⟨h1, h2⟩, h3, h4, h5, h6⟩
  exact ⟨⟨⟨⟨h1, h2⟩, h3⟩, h4⟩, h5, fun e he ⟨h7, h8⟩ => h8 (h6 e he h7)⟩
theorem canB_ed {p : PlV} (h : canB p = true) : p.S.length ≤ 36 ∧ p.E.length ≤ 4096 ∧ ∀ e ∈ p.E, 0 ≤ e.1 ∧ e.1 < (p.S.length : Int) ∧ 0 ≤ e.2 ∧ e.2 < (p.S.length : Int) := by
 unfold canB graphB at h
 simp only [Bool.and_eq_true, decide_eq_true_eq, List.all_eq_true] at h
 refine ⟨h.1.1, h.2.1.1.2, fun e he => ?_⟩
 have := h.2.1.2 e he
 unfold node at this
 simp only [Bool.and_eq_true, decide_eq_true_eq] at this
 omega
theorem InvS.intent {s : StV} (h : InvS s) {k : Int} (hm : mayB s k = true) : InvS { s with op := s.op ++ [k] } := by
 obtain ⟨h1, h2, h3, _, h5⟩ := mayB_iff.1 hm
 refine ⟨h.n36, h.e4096, h.ed, fun x hx => ?_, ?_, fun e he h6 => ?_, h.cld⟩
 ·simp only [List.mem_append, List.mem_singleton] at hx
  rcases hx with (hx | rfl) | hx
  ·exact h.rg x (by simp [hx])
  ·exact h1
  ·exact h.rg x (by simp [hx])
 ·have hn := h.nd
  have hp : (k :: (s.op ++ s.dn)).Nodup := List.nodup_cons.2 ⟨by simp [h2, h3], hn⟩
  refine (List.Perm.nodup_iff ?_).1 hp
  show (k :: (s.op ++ s.dn)).Perm (s.op ++ [k] ++ s.dn)
  rw [List.append_assoc]
  exact List.perm_middle.symm
 ·simp only [List.mem_append, List.mem_singleton] at h6
  rcases h6 with h6 | h6
  ·exact h.clo e he h6
  ·exact h5 e he h6
theorem InvS.sub {s : StV} (h : InvS s) {o : List Int} (hs : o.Sublist s.op) : InvS { s with op := o } := by
 refine ⟨h.n36, h.e4096, h.ed, fun x hx => ?_, ?_, fun e he h6 => h.clo e he (hs.subset h6), h.cld⟩
 ·simp only [List.mem_append] at hx
  exact h.rg x (by
   rcases hx with hx | hx
   ·simp [hs.subset hx]
   ·simp [hx])
 ·exact h.nd.sublist (List.Sublist.append hs (List.Sublist.refl _))
theorem InvS.done {s : StV} (h : InvS s) {k : Int} (hk : k ∈ s.op) : InvS { s with op := withoutL s.op k, dn := s.dn ++ [k] } := by
 have hnd := h.nd
 rw [List.nodup_append] at hnd
 refine ⟨h.n36, h.e4096, h.ed, fun x hx => ?_, ?_, fun e he h6 => ?_, fun e he l1 l2 h6 => ?_⟩
 ·simp only [List.mem_append, List.mem_singleton, mem_without] at hx
  rcases hx with hx | hx | rfl
  ·exact h.rg x (by simp [hx.1])
  ·exact h.rg x (by simp [hx])
  ·exact h.rg x (by simp [hk])
 ·show (withoutL s.op k ++ (s.dn ++ [k])).Nodup
  rw [List.nodup_append]
  refine ⟨hnd.1.sublist (without_sub _ _), ?_, ?_⟩
  ·rw [List.nodup_append]
   exact ⟨hnd.2.1, by simp, fun a ha b hb => by
    simp at hb; subst hb; intro e; subst e; exact hnd.2.2 a hk a ha rfl⟩
  ·intro a ha b hb
   rw [mem_without] at ha
   simp only [List.mem_append, List.mem_singleton] at hb
   rcases hb with hb | rfl
   ·exact hnd.2.2 a ha.1 b hb
   ·exact ha.2
 ·have := h.clo e he (mem_without.1 h6).1
  show e.1 ∈ s.dn ++ [k]
  simp [this]
 ·have h6' : s.dn ++ [k] = l1 ++ e.2 :: l2 := h6
  rcases List.eq_nil_or_concat l2 with rfl | ⟨l3, z, rfl⟩
  ·have h7 := List.append_inj' h6' rfl
   have h8 : e.2 = k := by have := h7.2; simp at this; exact this.symm
   have h9 := h.clo e he (by rw [h8]; exact hk)
   rw [h7.1] at h9
   exact h9
  ·rw [List.concat_eq_append, show l1 ++ e.2 :: (l3 ++ [z]) = (l1 ++ e.2 :: l3) ++ [z] by simp] at h6'
   have h7 := List.append_inj' h6' rfl
   exact h.cld e he l1 l3 h7.1
theorem InvS.dropDn {s : StV} (h : InvS s) {d : List Int} {k : Int} (ho : s.op = []) (hd : s.dn = d ++ [k]) : InvS { s with op := [], dn := d } := by
 refine ⟨h.n36, h.e4096, h.ed, fun x hx => h.rg x (by
  simp only [List.nil_append] at hx
  rw [hd]; simp [hx]), ?_, (fun e he h6 => by cases h6), fun e he l1 l2 h6 => ?_⟩
 ·have := h.nd
  rw [hd, ← List.append_assoc] at this
  rw [List.nodup_append] at this
  have := this.1
  rw [ho] at this; exact this
 ·have h6' : d = l1 ++ e.2 :: l2 := h6
  exact h.cld e he l1 (l2 ++ [k]) (by rw [hd, h6']; simp)
theorem InvS.phase {s : StV} (h : InvS s) (p : Int) : InvS { s with ph := p } := ⟨h.n36, h.e4096, h.ed, h.rg, h.nd, h.clo, h.cld⟩
theorem getLast_app {l : List Int} {k : Int} (h : l.getLast? = some k) : ∃ d, l = d ++ [k] := by
 rcases List.eq_nil_or_concat l with rfl | ⟨d, z, rfl⟩
 ·cases h
 ·simp at h
  subst h
  exact ⟨d, by simp⟩
/-- What is taken back, of a state that is back. -/
theorem topO_cases {s : StV} {k : Int} (h : topO s = some k) : s.ph = 2 ∧ ((∃ d, s.op = d ++ [k]) ∨ (s.op = [] ∧ ∃ d, s.dn = d ++ [k])) := by
 unfold topO at h
 by_cases hp : s.ph = 2
 ·rw [if_pos hp] at h
  by_cases ho : s.op = []
  ·rw [if_pos ho] at h; exact ⟨hp, .inr ⟨ho, getLast_app h⟩⟩
  ·rw [if_neg ho] at h; exact ⟨hp, .inl (getLast_app h)⟩
 ·rw [if_neg hp] at h; cases h
theorem InvS.undo {s : StV} (h : InvS s) {k : Int} (ht : topO s = some k) : InvS { s with op := withoutL s.op k, dn := withoutL s.dn k } := by
 obtain ⟨_, ⟨d, hd⟩ | ⟨ho, d, hd⟩⟩ := topO_cases ht
 ·have hnd := h.nd
  have hk : k ∉ s.dn := fun hk => by
   rw [List.nodup_append] at hnd
   exact hnd.2.2 k (by rw [hd]; simp) k hk rfl
  rw [without_no hk]
  exact h.sub (without_sub _ _)
 ·have hnd := h.nd
  rw [ho, List.nil_append, hd] at hnd
  have e1 : withoutL s.op k = [] := by rw [ho]; rfl
  have e2 : withoutL s.dn k = d := by rw [hd]; exact without_last hnd
  rw [e1, e2]
  exact h.dropDn ho hd
theorem takeE_ok {s : StV} {r : RcV} (h : takeE s r = 0) : formB r = true ∧ hearsB s.ph r.kind = true ∧ checkI s r = 0 := by
 unfold takeE at h
 by_cases h1 : formB r = false
 ·rw [if_pos h1] at h; cases h
 rw [if_neg h1] at h
 by_cases h2 : hearsB s.ph r.kind = false
 ·rw [if_pos h2] at h; cases h
 rw [if_neg h2] at h
 exact ⟨by simpa using h1, by simpa using h2, h⟩
theorem InvS.take {s : StV} (h : InvS s) {r : RcV} (he : takeE s r = 0) : InvS (takeS s r) := by
 unfold takeS
 rw [if_pos he]
 obtain ⟨hf, hh, hc⟩ := takeE_ok he
 unfold checkI at hc
 unfold behindS
 by_cases k1 : r.kind = 1
 ·rw [if_pos k1] at hc ⊢
  have hcan : canB r.pl = true := by
   by_cases hcb : canB r.pl = true
   ·exact hcb
   ·rw [if_neg hcb] at hc; cases hc
  obtain ⟨a, b, c⟩ := canB_ed hcan
  exact ⟨a, b, c, (fun e h => by cases h), List.nodup_nil, (fun e h h2 => by cases h2), (fun e h l1 l2 h2 => by simp at h2)⟩
 rw [if_neg k1] at hc ⊢
 by_cases k2 : r.kind = 2
 ·rw [if_pos k2] at hc ⊢
  have hm : mayB s r.step = true := by
   by_cases hcb : mayB s r.step = true
   ·exact hcb
   ·rw [if_neg hcb] at hc; cases hc
  exact h.intent hm
 rw [if_neg k2] at hc ⊢
 by_cases k3 : r.kind = 3
 ·rw [if_pos (.inl k3)] at hc
  rw [if_pos k3]
  have hm : inB s.op r.step = true := by
   by_cases hcb : inB s.op r.step = true
   ·exact hcb
   ·rw [if_neg hcb] at hc; cases hc
  exact h.done (inB_iff.1 hm)
 rw [if_neg k3]
 by_cases k4 : r.kind = 4
 ·rw [if_pos (.inl k4)]; exact h.phase 2
 rw [if_neg (by omega)] at hc
 by_cases k5 : r.kind = 5
 ·rw [if_pos (.inr k5)]; exact h.phase 2
 rw [if_neg (by omega)]
 by_cases k6 : r.kind = 6
 ·rw [if_pos k6] at hc ⊢
  have hm : topO s = some r.step := by
   by_cases hcb : topO s = some r.step
   ·exact hcb
   ·rw [if_neg hcb] at hc; cases hc
  exact h.undo hm
 rw [if_neg k6]
 by_cases k7 : r.kind = 7
 ·rw [if_pos k7]; exact h.phase 3
 rw [if_neg k7]
 by_cases k8 : r.kind = 8
 ·rw [if_pos k8]; exact h.phase _
 rw [if_neg k8]; exact h
end Go.Proofs.Ytolgmoaoheflcaa.Sa
