/-
 PURE: the steps of a plan, and which must be ahead of which.
-/
import Derived.Test.YtminihiecloglaaGreatCPv
set_option linter.unusedVariables false
set_option linter.unusedSimpArgs false
namespace Go.Proofs.YtminihiecloglaaGreat
open Go.RowKit
open SemP FlP GaP DiP
abbrev StP := Int × Int
def rise (l : List Sv) (fs ts : List Int) (i : Nat) : Int := levAt l i (ix ts i).toNat - levAt l i (ix fs i).toNat
def stAt (l : List Sv) (fs ts : List Int) (i : Nat) : List StP := if ix fs i = ix ts i then [] else if rise l fs ts i = 0 then [((i : Int), 2)] else [((i : Int), 1), ((i : Int), 2), ((i : Int), 3)]
def stK (l : List Sv) (fs ts : List Int) (k : Nat) : List StP := (List.range k).flatMap (stAt l fs ts)
def stL (l : List Sv) (fs ts : List Int) : List StP := stK l fs ts fs.length
theorem stK_succ (l : List Sv) (fs ts : List Int) (k : Nat) : stK l fs ts (k + 1) = stK l fs ts k ++ stAt l fs ts k := by
 unfold stK; rw [List.range_succ, List.flatMap_append]; simp
def riseB (l : List Sv) (fs ts : List Int) (i : Nat) : Bool := decide (0 ≤ rise l fs ts i) && decide (rise l fs ts i ≤ 1)
def chkE (l : List Sv) (fs ts : List Int) : Int :=
 if setB l fs = false ∨ setB l ts = false then 42 else if goodC l (setL l fs) = false ∨ goodC l (setL l ts) = false then 70 else if (List.range fs.length).all (riseB l fs ts) = false then 43 else 0
theorem chkE_ok {l : List Sv} {fs ts : List Int} (h : chkE l fs ts = 0) : setB l fs = true ∧ setB l ts = true ∧ goodC l (setL l fs) = true ∧ goodC l (setL l ts) = true ∧ ∀ i, i < fs.length → 0 ≤ rise l fs ts i ∧ rise l fs ts i ≤ 1 := by
 unfold chkE at h
 by_cases h1 : setB l fs = false ∨ setB l ts = false
 ·rw [if_pos h1] at h; exact absurd h (by decide)
 rw [if_neg h1] at h
 by_cases h2 : goodC l (setL l fs) = false ∨ goodC l (setL l ts) = false
 ·rw [if_pos h2] at h; exact absurd h (by decide)
 rw [if_neg h2] at h
 by_cases h3 : (List.range fs.length).all (riseB l fs ts) = false
 ·rw [if_pos h3] at h; exact absurd h (by decide)
 simp only [not_or, Bool.not_eq_false] at h1 h2 h3
 refine ⟨h1.1, h1.2, h2.1, h2.2, fun i hi => ?_⟩
 rw [List.all_eq_true] at h3
 have := h3 i (List.mem_range.2 hi)
 unfold riseB at this
 simpa using this
theorem mem_stAt {l : List Sv} {fs ts : List Int} {i : Nat} {x : StP} : x ∈ stAt l fs ts i ↔ x.1 = (i : Int) ∧ ix fs i ≠ ix ts i ∧ (x.2 = 2 ∨ (rise l fs ts i ≠ 0 ∧ (x.2 = 1 ∨ x.2 = 3))) := by
 obtain ⟨a, b⟩ := x
 unfold stAt
 by_cases h1 : ix fs i = ix ts i
 ·rw [if_pos h1]; simp [h1]
 rw [if_neg h1]
 by_cases h2 : rise l fs ts i = 0
 ·rw [if_pos h2]; simp [h1, h2]
 ·rw [if_neg h2]
  simp only [List.mem_cons, Prod.mk.injEq, List.not_mem_nil, or_false]
  constructor
  ·rintro (⟨rfl, rfl⟩ | ⟨rfl, rfl⟩ | ⟨rfl, rfl⟩) <;> simp [h1, h2]
  ·rintro ⟨rfl, _, (rfl | ⟨_, rfl | rfl⟩)⟩ <;> simp
theorem mem_stK {l : List Sv} {fs ts : List Int} {k : Nat} {x : StP} : x ∈ stK l fs ts k ↔ ∃ i, i < k ∧ x.1 = (i : Int) ∧ ix fs i ≠ ix ts i ∧ (x.2 = 2 ∨ (rise l fs ts i ≠ 0 ∧ (x.2 = 1 ∨ x.2 = 3))) := by
 unfold stK
 rw [List.mem_flatMap]
 constructor
 ·rintro ⟨i, hi, h⟩; exact ⟨i, List.mem_range.1 hi, mem_stAt.1 h⟩
 ·rintro ⟨i, hi, h⟩; exact ⟨i, List.mem_range.2 hi, mem_stAt.2 h⟩
theorem stAt_nodup (l : List Sv) (fs ts : List Int) (i : Nat) : (stAt l fs ts i).Nodup := by
 unfold stAt
 split
 ·exact List.Pairwise.nil
 ·split
  ·simp
  ·simp
theorem nodup_app {α : Type} {a b : List α} (ha : a.Nodup) (hb : b.Nodup) (h : ∀ x ∈ a, x ∉ b) : (a ++ b).Nodup := by
 unfold List.Nodup at *
 rw [List.pairwise_append]
 exact ⟨ha, hb, fun x hx y hy e => h x hx (e ▸ hy)⟩
theorem stK_nodup (l : List Sv) (fs ts : List Int) : ∀ k, (stK l fs ts k).Nodup
 | 0 => List.Pairwise.nil
 | k + 1 => by
  rw [stK_succ]
  refine nodup_app (stK_nodup l fs ts k) (stAt_nodup l fs ts k) (fun x hx hy => ?_)
  obtain ⟨i, hi, e, _⟩ := mem_stK.1 hx
  have e2 := (mem_stAt.1 hy).1
  omega
theorem stAt_len (l : List Sv) (fs ts : List Int) (i : Nat) : (stAt l fs ts i).length ≤ 3 := by
 unfold stAt; split
 ·simp
 ·split <;> simp
theorem stK_len (l : List Sv) (fs ts : List Int) : ∀ k, (stK l fs ts k).length ≤ 3 * k
 | 0 => Nat.le_refl _
 | k + 1 => by
  rw [stK_succ, List.length_append]
  have := stK_len l fs ts k
  have := stAt_len l fs ts k
  omega
/-! ### Places -/
def plc (S : List StP) (x : StP) : Int := if x ∈ S then (S.idxOf x : Int) else -1
theorem idx_lt {S : List StP} {x : StP} (h : x ∈ S) : S.idxOf x < S.length := List.idxOf_lt_length_iff.2 h
def sAt (S : List StP) (k : Nat) : StP := S.getD k default
theorem sAt_idx {S : List StP} {x : StP} (h : x ∈ S) : sAt S (S.idxOf x) = x := by
 unfold sAt
 have := idx_lt h
 rw [List.getD_eq_getElem?_getD, List.getElem?_eq_getElem this]
 exact List.getElem_idxOf this
theorem idx_sAt {S : List StP} (hn : S.Nodup) {k : Nat} (h : k < S.length) : S.idxOf (sAt S k) = k := by
 have h2 : sAt S k = S[k] := by unfold sAt; rw [List.getD_eq_getElem?_getD, List.getElem?_eq_getElem h]; rfl
 rw [h2]
 have h3 : S.idxOf S[k] < S.length := List.idxOf_lt_length_iff.2 (List.getElem_mem h)
 have h4 : S[S.idxOf S[k]] = S[k] := List.getElem_idxOf h3
 exact (List.getElem_inj hn).1 h4
theorem sAt_mem {S : List StP} {k : Nat} (h : k < S.length) : sAt S k ∈ S := getD_mem h
theorem idx_le {x : StP} : ∀ {S : List StP} (q : Nat), S[q]? = some x → S.idxOf x ≤ q
 | [], q, h => by simp at h
 | y :: S, 0, h => by
  have : y = x := by simpa using h
  subst this
  simp
 | y :: S, q + 1, h => by
  have ih := idx_le (S := S) q (by simpa using h)
  rw [List.idxOf_cons]
  cases (y == x) <;> simp <;> omega
theorem plc_first {S : List StP} {x : StP} {q : Nat} (hq : q < S.length) (h0 : ∀ i, i < q → sAt S i ≠ x) (h1 : sAt S q = x) : plc S x = (q : Int) := by
 have hm : x ∈ S := h1 ▸ sAt_mem hq
 unfold plc
 rw [if_pos hm]
 have h2 := idx_lt hm
 have h3 := sAt_idx hm
 have h4 : S.idxOf x = q := by
  rcases Nat.lt_trichotomy (S.idxOf x) q with h | h | h
  ·exact absurd h3 (h0 _ h)
  ·exact h
  ·have h5 : S[q] = x := by
    have : sAt S q = S[q] := by unfold sAt; rw [List.getD_eq_getElem?_getD, List.getElem?_eq_getElem hq]; rfl
    rw [← this]; exact h1
   have := idx_le q (by rw [List.getElem?_eq_getElem hq, h5])
   omega
 rw [h4]
theorem plc_none {S : List StP} {x : StP} (h0 : ∀ i, i < S.length → sAt S i ≠ x) : plc S x = -1 := by
 unfold plc
 rw [if_neg]
 intro hm
 exact h0 _ (idx_lt hm) (sAt_idx hm)
theorem plc_ne {S : List StP} {x : StP} : plc S x ≠ -1 ↔ x ∈ S := by
 unfold plc
 by_cases h : x ∈ S
 ·rw [if_pos h]; simp [h]
 ·rw [if_neg h]; simp [h]
/-! ### What must be ahead of what -/
def mustB (l : List Sv) (S : List StP) (fs ts : List Int) (i j : Nat) : Bool := decide (i ≠ j) && (decide (((i : Int), (2 : Int)) ∈ S) && (decide (((j : Int), (2 : Int)) ∈ S) && !fitsC l (i : Int) (ix fs i) (j : Int) (ix ts j)))
def ownQ (S : List StP) (i : Nat) : List (StP × StP) := if ((i : Int), (1 : Int)) ∈ S then [(((i : Int), 1), ((i : Int), 2)), (((i : Int), 2), ((i : Int), 3))] else []
def farQ (l : List Sv) (S : List StP) (fs ts : List Int) (i k : Nat) : List (StP × StP) := ((List.range k).filter (mustB l S fs ts i)).map fun (j : Nat) => ((((i : Int), (2 : Int)), ((j : Int), (2 : Int))) : StP × StP)
def atQ (l : List Sv) (S : List StP) (fs ts : List Int) (n i : Nat) : List (StP × StP) := ownQ S i ++ farQ l S fs ts i n
def ordQ (l : List Sv) (S : List StP) (fs ts : List Int) (n k : Nat) : List (StP × StP) := (List.range k).flatMap (atQ l S fs ts n)
def pl2 (S : List StP) (q : StP × StP) : Nat × Nat := (S.idxOf q.1, S.idxOf q.2)
theorem farQ_succ (l : List Sv) (S : List StP) (fs ts : List Int) (i k : Nat) : farQ l S fs ts i (k + 1) = farQ l S fs ts i k ++ (if mustB l S fs ts i k then [(((i : Int), 2), ((k : Int), 2))] else []) := by
 unfold farQ
 rw [List.range_succ, List.filter_append, List.map_append]
 by_cases h : mustB l S fs ts i k = true
 ·simp [h]
 ·simp [h]
theorem ordQ_succ (l : List Sv) (S : List StP) (fs ts : List Int) (n k : Nat) : ordQ l S fs ts n (k + 1) = ordQ l S fs ts n k ++ atQ l S fs ts n k := by
 unfold ordQ; rw [List.range_succ, List.flatMap_append]; simp
theorem mem_farQ {l : List Sv} {S : List StP} {fs ts : List Int} {i k : Nat} {q : StP × StP} : q ∈ farQ l S fs ts i k ↔ ∃ j, j < k ∧ mustB l S fs ts i j = true ∧ q = (((i : Int), 2), ((j : Int), 2)) := by
 unfold farQ
 rw [List.mem_map]
 constructor
 ·rintro ⟨j, hj, rfl⟩
  rw [List.mem_filter, List.mem_range] at hj
  exact ⟨j, hj.1, hj.2, rfl⟩
 ·rintro ⟨j, h1, h2, rfl⟩
  exact ⟨j, by rw [List.mem_filter, List.mem_range]; exact ⟨h1, h2⟩, rfl⟩
theorem mem_ownQ {S : List StP} {i : Nat} {q : StP × StP} : q ∈ ownQ S i ↔ ((i : Int), (1 : Int)) ∈ S ∧ (q = (((i : Int), 1), ((i : Int), 2)) ∨ q = (((i : Int), 2), ((i : Int), 3))) := by
 unfold ownQ
 by_cases h : ((i : Int), (1 : Int)) ∈ S
 ·rw [if_pos h]; simp [h]
 ·rw [if_neg h]; simp [h]
theorem mem_ordQ {l : List Sv} {S : List StP} {fs ts : List Int} {n k : Nat} {q : StP × StP} : q ∈ ordQ l S fs ts n k ↔ ∃ i, i < k ∧ (q ∈ ownQ S i ∨ q ∈ farQ l S fs ts i n) := by
 unfold ordQ atQ
 rw [List.mem_flatMap]
 constructor
 ·rintro ⟨i, hi, h⟩; exact ⟨i, List.mem_range.1 hi, List.mem_append.1 h⟩
 ·rintro ⟨i, hi, h⟩; exact ⟨i, List.mem_range.2 hi, List.mem_append.2 h⟩
theorem farQ_nodup (l : List Sv) (S : List StP) (fs ts : List Int) (i : Nat) : ∀ k, (farQ l S fs ts i k).Nodup
 | 0 => List.Pairwise.nil
 | k + 1 => by
  rw [farQ_succ]
  refine nodup_app (farQ_nodup l S fs ts i k) (by split <;> simp) (fun x hx hy => ?_)
  obtain ⟨j, hj, _, rfl⟩ := mem_farQ.1 hx
  split at hy
  ·rw [List.mem_singleton, Prod.mk.injEq, Prod.mk.injEq, Prod.mk.injEq] at hy
   omega
  ·simp at hy
theorem first_of {l : List Sv} {S : List StP} {fs ts : List Int} {n i : Nat} {q : StP × StP} (h : q ∈ atQ l S fs ts n i) : q.1.1 = (i : Int) := by
 unfold atQ at h
 rcases List.mem_append.1 h with h | h
 ·rcases (mem_ownQ.1 h).2 with rfl | rfl <;> rfl
 ·obtain ⟨j, _, _, rfl⟩ := mem_farQ.1 h; rfl
theorem atQ_nodup (l : List Sv) (S : List StP) (fs ts : List Int) (n i : Nat) : (atQ l S fs ts n i).Nodup := by
 unfold atQ
 refine nodup_app ?_ (farQ_nodup l S fs ts i n) (fun x hx hy => ?_)
 ·unfold ownQ; split <;> simp
 ·obtain ⟨j, _, _, rfl⟩ := mem_farQ.1 hy
  rcases (mem_ownQ.1 hx).2 with h | h
  ·rw [Prod.mk.injEq, Prod.mk.injEq, Prod.mk.injEq] at h; omega
  ·rw [Prod.mk.injEq, Prod.mk.injEq, Prod.mk.injEq] at h; omega
theorem ordQ_nodup (l : List Sv) (S : List StP) (fs ts : List Int) (n : Nat) : ∀ k, (ordQ l S fs ts n k).Nodup
 | 0 => List.Pairwise.nil
 | k + 1 => by
  rw [ordQ_succ]
  refine nodup_app (ordQ_nodup l S fs ts n k) (atQ_nodup l S fs ts n k) (fun x hx hy => ?_)
  obtain ⟨i, hi, h⟩ := mem_ordQ.1 hx
  have e1 : x.1.1 = (i : Int) := first_of (l := l) (fs := fs) (ts := ts) (n := n) (List.mem_append.2 h)
  have e2 := first_of hy
  omega
/-! ### The document's -/
def mustR (l : List Sv) (fs ts : List Int) (x y : StP) : Bool := if x.1 = y.1 then decide (x.2 + 1 = y.2) else decide (x.2 = 2) && (decide (y.2 = 2) && !fitsC l x.1 (ix fs x.1.toNat) y.1 (ix ts y.1.toNat))
def befA (l : List Sv) (fs ts : List Int) (S : List StP) (a k : Nat) : List (Nat × Nat) := ((List.range k).filter fun b => mustR l fs ts (sAt S a) (sAt S b)).map fun b => (a, b)
def befK (l : List Sv) (fs ts : List Int) (S : List StP) (k : Nat) : List (Nat × Nat) := (List.range k).flatMap fun a => befA l fs ts S a S.length
def befP (l : List Sv) (fs ts : List Int) (S : List StP) : List (Nat × Nat) := Go.Proofs.YtminihiecloglaaGreat.befK l fs ts S S.length
def ltP (x y : Nat × Nat) : Prop := x.1 < y.1 ∨ (x.1 = y.1 ∧ x.2 < y.2)
theorem mem_befA {l : List Sv} {fs ts : List Int} {S : List StP} {a k : Nat} {p : Nat × Nat} : p ∈ befA l fs ts S a k ↔ p.1 = a ∧ p.2 < k ∧ mustR l fs ts (sAt S a) (sAt S p.2) = true := by
 unfold befA
 rw [List.mem_map]
 constructor
 ·rintro ⟨b, hb, rfl⟩
  rw [List.mem_filter, List.mem_range] at hb
  exact ⟨rfl, hb.1, hb.2⟩
 ·rintro ⟨rfl, h2, h3⟩
  exact ⟨p.2, by rw [List.mem_filter, List.mem_range]; exact ⟨h2, h3⟩, rfl⟩
theorem mem_befP {l : List Sv} {fs ts : List Int} {S : List StP} {p : Nat × Nat} : p ∈ befP l fs ts S ↔ p.1 < S.length ∧ p.2 < S.length ∧ mustR l fs ts (sAt S p.1) (sAt S p.2) = true := by
 unfold befP Go.Proofs.YtminihiecloglaaGreat.befK
 rw [List.mem_flatMap]
 constructor
 ·rintro ⟨a, ha, h⟩
  obtain ⟨rfl, h2, h3⟩ := mem_befA.1 h
  exact ⟨List.mem_range.1 ha, h2, h3⟩
 ·rintro ⟨h1, h2, h3⟩
  exact ⟨p.1, List.mem_range.2 h1, mem_befA.2 ⟨rfl, h2, h3⟩⟩
theorem befA_succ (l : List Sv) (fs ts : List Int) (S : List StP) (a k : Nat) : befA l fs ts S a (k + 1) = befA l fs ts S a k ++ (if mustR l fs ts (sAt S a) (sAt S k) then [(a, k)] else []) := by
 unfold befA
 rw [List.range_succ, List.filter_append, List.map_append]
 by_cases h : mustR l fs ts (sAt S a) (sAt S k) = true
 ·simp [h]
 ·simp [h]
theorem befK_succ (l : List Sv) (fs ts : List Int) (S : List StP) (k : Nat) : Go.Proofs.YtminihiecloglaaGreat.befK l fs ts S (k + 1) = Go.Proofs.YtminihiecloglaaGreat.befK l fs ts S k ++ befA l fs ts S k S.length := by
 unfold Go.Proofs.YtminihiecloglaaGreat.befK; rw [List.range_succ, List.flatMap_append]; simp
theorem befA_sorted (l : List Sv) (fs ts : List Int) (S : List StP) (a : Nat) : ∀ k, (befA l fs ts S a k).Pairwise ltP
 | 0 => List.Pairwise.nil
 | k + 1 => by
  rw [befA_succ, List.pairwise_append]
  refine ⟨befA_sorted l fs ts S a k, by split <;> simp, fun x hx y hy => ?_⟩
  obtain ⟨h1, h2, _⟩ := mem_befA.1 hx
  split at hy
  ·rw [List.mem_singleton] at hy; subst hy; exact .inr ⟨h1, h2⟩
  ·simp at hy
theorem befK_sorted (l : List Sv) (fs ts : List Int) (S : List StP) : ∀ k, (Go.Proofs.YtminihiecloglaaGreat.befK l fs ts S k).Pairwise ltP
 | 0 => List.Pairwise.nil
 | k + 1 => by
  rw [befK_succ, List.pairwise_append]
  refine ⟨befK_sorted l fs ts S k, befA_sorted l fs ts S k _, fun x hx y hy => ?_⟩
  unfold Go.Proofs.YtminihiecloglaaGreat.befK at hx
  obtain ⟨a, ha, h⟩ := List.mem_flatMap.1 hx
  have h1 := (mem_befA.1 h).1
  have h2 := (mem_befA.1 hy).1
  have := List.mem_range.1 ha
  exact .inl (by omega)
theorem ltP_irrefl (x : Nat × Nat) : ¬ ltP x x := by unfold ltP; omega
theorem sorted_ext : ∀ {a b : List (Nat × Nat)}, a.Pairwise ltP → b.Pairwise ltP → (∀ x, x ∈ a ↔ x ∈ b) → a = b
 | [], [], _, _, _ => rfl
 | [], y :: b, _, _, h => absurd ((h y).2 (by simp)) (by simp)
 | x :: a, [], _, _, h => absurd ((h x).1 (by simp)) (by simp)
 | x :: a, y :: b, ha, hb, h => by
  rw [List.pairwise_cons] at ha hb
  have hxy : x = y := by
   have h1 := (h x).1 (by simp)
   have h2 := (h y).2 (by simp)
   rw [List.mem_cons] at h1 h2
   rcases h1 with h1 | h1
   ·exact h1
   rcases h2 with h2 | h2
   ·exact h2.symm
   have k1 := hb.1 x h1
   have k2 := ha.1 y h2
   unfold ltP at k1 k2
   omega
  subst hxy
  congr 1
  refine sorted_ext ha.2 hb.2 (fun z => ?_)
  have hz := h z
  rw [List.mem_cons, List.mem_cons] at hz
  constructor
  ·intro hm
   rcases hz.1 (.inr hm) with e | e
   ·subst e; exact absurd (ha.1 z hm) (ltP_irrefl z)
   ·exact e
  ·intro hm
   rcases hz.2 (.inr hm) with e | e
   ·subst e; exact absurd (hb.1 z hm) (ltP_irrefl z)
   ·exact e
theorem mem_ord_bef {l : List Sv} {fs ts : List Int} (p : Nat × Nat) : p ∈ (ordQ l (stL l fs ts) fs ts fs.length fs.length).map (pl2 (stL l fs ts)) ↔ p ∈ befP l fs ts (stL l fs ts) := by
 have hnd : (stL l fs ts).Nodup := stK_nodup l fs ts _
 obtain ⟨S, hS⟩ : ∃ S, stL l fs ts = S := ⟨_, rfl⟩
 have hmem : ∀ x : StP, x ∈ S ↔ ∃ i, i < fs.length ∧ x.1 = (i : Int) ∧ ix fs i ≠ ix ts i ∧ (x.2 = 2 ∨ (rise l fs ts i ≠ 0 ∧ (x.2 = 1 ∨ x.2 = 3))) := fun x => by rw [← hS]; exact mem_stK
 rw [hS] at hnd ⊢
 rw [mem_befP, List.mem_map]
 constructor
 ·rintro ⟨q, hq, rfl⟩
  obtain ⟨i, hi, h | h⟩ := mem_ordQ.1 hq
  ·obtain ⟨h1, h2⟩ := mem_ownQ.1 h
   obtain ⟨i', hi', e, hne, hr⟩ := (hmem _).1 h1
   obtain rfl : i = i' := by have : (i : Int) = i' := e; omega
   have hr0 : rise l fs ts i ≠ 0 := by
    rcases hr with hr | hr
    ·exact absurd (show (1 : Int) = 2 from hr) (by decide)
    ·exact hr.1
   have m2 : ((i : Int), (2 : Int)) ∈ S := (hmem _).2 ⟨i, hi, rfl, hne, .inl rfl⟩
   have m3 : ((i : Int), (3 : Int)) ∈ S := (hmem _).2 ⟨i, hi, rfl, hne, .inr ⟨hr0, .inr rfl⟩⟩
   rcases h2 with rfl | rfl
   ·refine ⟨idx_lt h1, idx_lt m2, ?_⟩
    show mustR l fs ts (sAt S (S.idxOf _)) (sAt S (S.idxOf _)) = true
    rw [sAt_idx h1, sAt_idx m2]; simp [mustR]
   ·refine ⟨idx_lt m2, idx_lt m3, ?_⟩
    show mustR l fs ts (sAt S (S.idxOf _)) (sAt S (S.idxOf _)) = true
    rw [sAt_idx m2, sAt_idx m3]; simp [mustR]
  ·obtain ⟨j, hj, hm, rfl⟩ := mem_farQ.1 h
   unfold mustB at hm
   simp only [Bool.and_eq_true, decide_eq_true_eq] at hm
   obtain ⟨hij, m1, m2, hf⟩ := hm
   refine ⟨idx_lt m1, idx_lt m2, ?_⟩
   show mustR l fs ts (sAt S (S.idxOf _)) (sAt S (S.idxOf _)) = true
   rw [sAt_idx m1, sAt_idx m2]
   unfold mustR
   have hne : ¬ ((i : Int), (2 : Int)).1 = ((j : Int), (2 : Int)).1 := by show ¬ (i : Int) = j; omega
   rw [if_neg hne]
   simp only [Int.toNat_natCast, decide_true, Bool.true_and]
   exact hf
 ·rintro ⟨h1, h2, h3⟩
  have k1 := (hmem _).1 (sAt_mem h1)
  have k2 := (hmem _).1 (sAt_mem h2)
  have e1 := idx_sAt hnd h1
  have e2 := idx_sAt hnd h2
  refine ⟨(sAt S p.1, sAt S p.2), mem_ordQ.2 ?_, by unfold pl2; rw [e1, e2]⟩
  obtain ⟨⟨xa, xb⟩, hx⟩ : ∃ y, sAt S p.1 = y := ⟨_, rfl⟩
  obtain ⟨⟨ya, yb⟩, hy⟩ : ∃ y, sAt S p.2 = y := ⟨_, rfl⟩
  rw [hx, hy] at h3
  rw [hx, hy]
  rw [hx] at k1
  rw [hy] at k2
  obtain ⟨i, hi, ei, hnei, hri⟩ := k1
  obtain ⟨j, hj, ej, hnej, hrj⟩ := k2
  simp only at ei ej hri hrj
  subst ei ej
  refine ⟨i, hi, ?_⟩
  unfold mustR at h3
  by_cases hij : (i : Int) = (j : Int)
  ·left
   obtain rfl : i = j := by omega
   rw [if_pos rfl] at h3
   have h3 : xb + 1 = yb := of_decide_eq_true h3
   refine mem_ownQ.2 ?_
   have hr0 : rise l fs ts i ≠ 0 := by
    rcases hri with h | h
    ·rcases hrj with h' | h'
     ·omega
     ·exact h'.1
    ·exact h.1
   refine ⟨(hmem _).2 ⟨i, hi, rfl, hnei, .inr ⟨hr0, .inl rfl⟩⟩, ?_⟩
   rcases hri with h | ⟨_, h | h⟩
   ·subst h
    rcases hrj with h' | ⟨_, h' | h'⟩
    ·omega
    ·omega
    ·subst h'; exact .inr rfl
   ·subst h
    obtain rfl : yb = 2 := by omega
    exact .inl rfl
   ·subst h
    rcases hrj with h' | ⟨_, h' | h'⟩ <;> omega
  ·right
   rw [if_neg hij] at h3
   simp only [Bool.and_eq_true, decide_eq_true_eq, Int.toNat_natCast] at h3
   obtain ⟨rfl, rfl, hf⟩ := h3
   refine mem_farQ.2 ⟨j, hj, ?_, rfl⟩
   unfold mustB
   rw [decide_eq_true (show i ≠ j by omega), decide_eq_true ((hmem _).2 ⟨i, hi, rfl, hnei, .inl rfl⟩), decide_eq_true ((hmem _).2 ⟨j, hj, rfl, hnej, .inl rfl⟩)]
   simpa using hf
theorem ord_nodup {l : List Sv} {fs ts : List Int} : ((ordQ l (stL l fs ts) fs ts fs.length fs.length).map (pl2 (stL l fs ts))).Nodup := by
 unfold List.Nodup
 rw [List.pairwise_map]
 refine List.Pairwise.imp_of_mem (fun {q q'} hq hq' hne e => hne ?_) (ordQ_nodup l (stL l fs ts) fs ts fs.length fs.length)
 have key : ∀ q, q ∈ ordQ l (stL l fs ts) fs ts fs.length fs.length → q.1 ∈ stL l fs ts ∧ q.2 ∈ stL l fs ts := by
  intro q hq
  obtain ⟨i, hi, h | h⟩ := mem_ordQ.1 hq
  ·obtain ⟨h1, h2⟩ := mem_ownQ.1 h
   obtain ⟨i', hi', e, hne, hr⟩ := mem_stK.1 h1
   obtain rfl : i = i' := by have : (i : Int) = i' := e; omega
   have hr0 : rise l fs ts i ≠ 0 := by
    rcases hr with hr | hr
    ·exact absurd (show (1 : Int) = 2 from hr) (by decide)
    ·exact hr.1
   have m2 : ((i : Int), (2 : Int)) ∈ stL l fs ts := mem_stK.2 ⟨i, hi, rfl, hne, .inl rfl⟩
   have m3 : ((i : Int), (3 : Int)) ∈ stL l fs ts := mem_stK.2 ⟨i, hi, rfl, hne, .inr ⟨hr0, .inr rfl⟩⟩
   rcases h2 with rfl | rfl
   ·exact ⟨h1, m2⟩
   ·exact ⟨m2, m3⟩
  ·obtain ⟨j, hj, hm, rfl⟩ := mem_farQ.1 h
   unfold mustB at hm
   simp only [Bool.and_eq_true, decide_eq_true_eq] at hm
   exact ⟨hm.2.1, hm.2.2.1⟩
 unfold pl2 at e
 rw [Prod.mk.injEq] at e
 have a1 := sAt_idx (key q hq).1
 have a2 := sAt_idx (key q hq).2
 have b1 := sAt_idx (key q' hq').1
 have b2 := sAt_idx (key q' hq').2
 rw [e.1] at a1
 rw [e.2] at a2
 exact Prod.ext (a1.symm.trans b1) (a2.symm.trans b2)
theorem bef_sorted {l : List Sv} {fs ts : List Int} {es : List (Nat × Nat)} (hp : es.Perm ((ordQ l (stL l fs ts) fs ts fs.length fs.length).map (pl2 (stL l fs ts)))) (hs : es.Pairwise fun x y => ¬ ltP y x) : es = befP l fs ts (stL l fs ts) := by
 have hnd : es.Nodup := hp.nodup_iff.2 ord_nodup
 refine sorted_ext ?_ (befK_sorted _ _ _ _ _) (fun p => by rw [hp.mem_iff, mem_ord_bef])
 have := List.Pairwise.and hs hnd
 refine this.imp (fun {x y} h => ?_)
 obtain ⟨h1, h2⟩ := h
 unfold ltP at h1 ⊢
 have : ¬ (x.1 = y.1 ∧ x.2 = y.2) := fun e => h2 (Prod.ext e.1 e.2)
 omega
end Go.Proofs.YtminihiecloglaaGreat
