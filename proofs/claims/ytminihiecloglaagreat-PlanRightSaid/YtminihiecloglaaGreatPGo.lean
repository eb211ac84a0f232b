/-
 PURE: of every closed set of a plan's steps the fleet is good.
-/
import Derived.Test.YtminihiecloglaaGreatPPu
set_option linter.unusedVariables false
set_option linter.unusedSimpArgs false
namespace Go.Proofs.YtminihiecloglaaGreat
open Go.RowKit
open SemP FlP GaP DiP
def dne (S : List StP) (s : Nat) (i : Nat) (k : Int) : Bool := decide (((i : Int), k) ∈ S) && bt s (S.idxOf ((i : Int), k))
def b2i (b : Bool) : Int := if b then 1 else 0
def plP (l : List Sv) (fs ts : List Int) (S : List StP) (s i : Nat) : Int × Int := (if dne S s i 2 then ix ts i else ix fs i, 2 * levAt l i (ix fs i).toNat + (b2i (dne S s i 1) + b2i (dne S s i 3)))
def plL (l : List Sv) (fs ts : List Int) (S : List StP) (s : Nat) : List (Int × Int) := (List.range fs.length).map (plP l fs ts S s)
def clo (g : List (Nat × Nat)) (s : Nat) : Prop := ∀ p ∈ g, bt s p.2 = true → bt s p.1 = true
theorem plL_len (l : List Sv) (fs ts : List Int) (S : List StP) (s : Nat) : (plL l fs ts S s).length = fs.length := by simp [plL]
theorem plL_at (l : List Sv) (fs ts : List Int) (S : List StP) (s : Nat) {i : Nat} (h : i < fs.length) : at_ (plL l fs ts S s) i = plP l fs ts S s i := by
 unfold at_ plL; simp [List.getD, h]
theorem dne_mem {S : List StP} {s i : Nat} {k : Int} (h : dne S s i k = true) : ((i : Int), k) ∈ S ∧ bt s (S.idxOf ((i : Int), k)) = true := by
 unfold dne at h; simpa using h
theorem dne_no {S : List StP} {s i : Nat} {k : Int} (h : ((i : Int), k) ∈ S) (hd : dne S s i k = false) : bt s (S.idxOf ((i : Int), k)) = false := by
 unfold dne at hd; rw [decide_eq_true h, Bool.true_and] at hd; exact hd
section
variable {l : List Sv} {fs ts : List Int} {s : Nat}
theorem clo_at (hc : clo (befP l fs ts (stL l fs ts)) s) {x y : StP} (hx : x ∈ stL l fs ts) (hy : y ∈ stL l fs ts) (hm : mustR l fs ts x y = true) (hb : bt s ((stL l fs ts).idxOf y) = true) : bt s ((stL l fs ts).idxOf x) = true :=
 hc ((stL l fs ts).idxOf x, (stL l fs ts).idxOf y) (mem_befP.2 ⟨idx_lt hx, idx_lt hy, by show mustR l fs ts (sAt _ _) (sAt _ _) = true; rw [sAt_idx hx, sAt_idx hy]; exact hm⟩) hb
theorem mem_stL {x : StP} : x ∈ stL l fs ts ↔ ∃ i, i < fs.length ∧ x.1 = (i : Int) ∧ ix fs i ≠ ix ts i ∧ (x.2 = 2 ∨ (rise l fs ts i ≠ 0 ∧ (x.2 = 1 ∨ x.2 = 3))) := mem_stK
theorem mem_at {i : Nat} {k : Int} (hi : i < fs.length) : ((i : Int), k) ∈ stL l fs ts ↔ ix fs i ≠ ix ts i ∧ (k = 2 ∨ (rise l fs ts i ≠ 0 ∧ (k = 1 ∨ k = 3))) := by
 rw [mem_stL]
 constructor
 ·rintro ⟨j, hj, e, h⟩
  obtain rfl : i = j := by have : (i : Int) = j := e; omega
  exact h
 ·intro h; exact ⟨i, hi, rfl, h⟩
theorem plP_phase (he : chkE l fs ts = 0) (hc : clo (befP l fs ts (stL l fs ts)) s) {i : Nat} (hi : i < fs.length) :
  -1 ≤ (plP l fs ts (stL l fs ts) s i).2 - 2 * levAt l i (plP l fs ts (stL l fs ts) s i).1.toNat ∧ (plP l fs ts (stL l fs ts) s i).2 - 2 * levAt l i (plP l fs ts (stL l fs ts) s i).1.toNat ≤ 1 := by
 obtain ⟨_, _, _, _, hr⟩ := chkE_ok he
 have hri := hr i hi
 obtain ⟨S, hS⟩ : ∃ S, stL l fs ts = S := ⟨_, rfl⟩
 have h23 : dne S s i 3 = true → dne S s i 2 = true := fun h => by
  obtain ⟨h1, h2⟩ := dne_mem h
  have m2 : ((i : Int), (2 : Int)) ∈ S := by rw [← hS] at h1 ⊢; exact (mem_at hi).2 ⟨((mem_at hi).1 h1).1, .inl rfl⟩
  unfold dne
  rw [decide_eq_true m2, Bool.true_and]
  rw [← hS] at h1 m2 h2 ⊢
  exact clo_at hc m2 h1 (by simp [mustR]) h2
 have h12 : dne S s i 2 = true → ((i : Int), (1 : Int)) ∈ S → dne S s i 1 = true := fun h m1 => by
  obtain ⟨h1, h2⟩ := dne_mem h
  unfold dne
  rw [decide_eq_true m1, Bool.true_and]
  rw [← hS] at h1 m1 h2 ⊢
  exact clo_at hc m1 h1 (by simp [mustR]) h2
 have hlev : rise l fs ts i = levAt l i (ix ts i).toNat - levAt l i (ix fs i).toNat := rfl
 rw [hS]
 unfold plP
 by_cases hr0 : rise l fs ts i = 0
 ·have n1 : dne S s i 1 = false := by
   cases h : dne S s i 1 with
   | false => rfl
   | true =>
    have h1 := (dne_mem h).1
    rw [← hS] at h1
    rcases ((mem_at hi).1 h1).2 with h2 | h2
    ·exact absurd h2 (by decide)
    ·exact absurd hr0 h2.1
  have n3 : dne S s i 3 = false := by
   cases h : dne S s i 3 with
   | false => rfl
   | true =>
    have h1 := (dne_mem h).1
    rw [← hS] at h1
    rcases ((mem_at hi).1 h1).2 with h2 | h2
    ·exact absurd h2 (by decide)
    ·exact absurd hr0 h2.1
  rw [n1, n3]
  cases hd : dne S s i 2 <;> simp [b2i] <;> omega
 ·have hr1 : rise l fs ts i = 1 := by omega
  cases hd : dne S s i 2 with
  | false =>
   have n3 : dne S s i 3 = false := by
    cases h : dne S s i 3 with
    | false => rfl
    | true => rw [h23 h] at hd; cases hd
   rw [n3]
   cases dne S s i 1 <;> simp [b2i] <;> omega
  | true =>
   have h1 := (dne_mem hd).1
   rw [← hS] at h1
   have m1 : ((i : Int), (1 : Int)) ∈ S := by rw [← hS]; exact (mem_at hi).2 ⟨((mem_at hi).1 h1).1, .inr ⟨hr0, .inl rfl⟩⟩
   rw [h12 hd m1]
   cases dne S s i 3 <;> simp [b2i] <;> omega
theorem plP_rel {i : Nat} (hi : i < fs.length) : (plP l fs ts (stL l fs ts) s i).1 = ix fs i ∨ (plP l fs ts (stL l fs ts) s i).1 = ix ts i := by
 unfold plP
 cases dne (stL l fs ts) s i 2
 ·exact .inl rfl
 ·exact .inr rfl
theorem good_closed (hl : LevOK l) (hsm : SmCat l) (he : chkE l fs ts = 0) (hc : clo (befP l fs ts (stL l fs ts)) s) : goodC l (plL l fs ts (stL l fs ts) s) = true := by
 obtain ⟨hs1, hs2, hg1, hg2, hr⟩ := chkE_ok he
 obtain ⟨f1, f2⟩ := setB_iff.1 hs1
 obtain ⟨t1, t2⟩ := setB_iff.1 hs2
 obtain ⟨_, _, a3⟩ := goodC_iff.1 hg1
 obtain ⟨_, _, b3⟩ := goodC_iff.1 hg2
 rw [setL_len] at a3 b3
 rw [goodC_iff, plL_len]
 refine ⟨f1, fun k hk => ?_, fun j hj k hk => ?_⟩
 ·rw [plL_at _ _ _ _ _ hk]
  have hph := plP_phase he hc hk
  have hrel : isR l (k : Int) (plP l fs ts (stL l fs ts) s k).1 = true := by
   rcases plP_rel (s := s) (l := l) (ts := ts) hk with h | h <;> rw [h]
   ·exact f2 k hk
   ·exact t2 k (by omega)
  obtain ⟨a, b, ea, eb, ha, hb⟩ := isR_nat hrel
  obtain rfl : k = a := by omega
  obtain ⟨a', b', ea', eb', ha', hb'⟩ := isR_nat (f2 k hk)
  obtain rfl : k = a' := by omega
  have l1 := levAt_ok hl ha hb
  have l2 := levAt_ok hl ha' hb'
  have hsz := (hsm.2 _ (svAt_mem ha)).2.1
  unfold standC plB
  rw [hrel]
  have e2 : (plP l fs ts (stL l fs ts) s k).2 = 2 * levAt l k (ix fs k).toNat + (b2i (dne (stL l fs ts) s k 1) + b2i (dne (stL l fs ts) s k 3)) := rfl
  have hb1 : 0 ≤ b2i (dne (stL l fs ts) s k 1) ∧ b2i (dne (stL l fs ts) s k 1) ≤ 1 := by unfold b2i; split <;> omega
  have hb3 : 0 ≤ b2i (dne (stL l fs ts) s k 3) ∧ b2i (dne (stL l fs ts) s k 3) ≤ 1 := by unfold b2i; split <;> omega
  rw [eb', Int.toNat_natCast] at e2
  rw [eb] at hph ⊢
  rw [Int.toNat_natCast] at hph ⊢
  rw [Int.toNat_natCast, decide_eq_true (show (0 : Int) ≤ (b : Int) by omega), decide_eq_true (show (b : Int) ≤ 1048576 by omega), decide_eq_true (show (0 : Int) ≤ (plP l fs ts (stL l fs ts) s k).2 by omega), decide_eq_true (show (plP l fs ts (stL l fs ts) s k).2 ≤ 1048576 by omega), decide_eq_true hph.1, decide_eq_true hph.2]
  rfl
 ·have hkf : k < fs.length := by omega
  have oldold := a3 j (by rw [f1] at hj ⊢; exact hj) k hk
  have newnew := b3 j (by rw [t1, ← f1]; exact hj) k hk
  rw [fitP_set hkf hj] at oldold
  rw [fitP_set (by omega) (by omega)] at newnew
  unfold fitP
  rw [plL_at _ _ _ _ _ hj, plL_at _ _ _ _ _ hkf]
  have e1 : ∀ i, (plP l fs ts (stL l fs ts) s i).1 = if dne (stL l fs ts) s i 2 then ix ts i else ix fs i := fun i => rfl
  have cross : ∀ a b, a < fs.length → b < fs.length → a ≠ b → dne (stL l fs ts) s a 2 = true → dne (stL l fs ts) s b 2 = false → fitsC l (a : Int) (ix ts a) (b : Int) (ix ts b) = true → fitsC l (a : Int) (ix ts a) (b : Int) (ix fs b) = true := by
   intro a b ha hb hab hda hdb hnn
   by_cases hbm : ((b : Int), (2 : Int)) ∈ stL l fs ts
   ·obtain ⟨ham, hat⟩ := dne_mem hda
    cases hf : fitsC l (b : Int) (ix fs b) (a : Int) (ix ts a) with
    | true => rw [fitsC_swap] at hf; exact hf
    | false =>
     have hm : mustR l fs ts ((b : Int), 2) ((a : Int), 2) = true := by
      unfold mustR
      rw [if_neg (show ¬ (b : Int) = (a : Int) by omega)]
      simp [hf]
     have := clo_at hc hbm ham hm hat
     rw [dne_no hbm hdb] at this
     cases this
   ·have : ix fs b = ix ts b := by
     by_cases h : ix fs b = ix ts b
     ·exact h
     ·exact absurd ((mem_at hb).2 ⟨h, .inl rfl⟩) hbm
    rw [this]; exact hnn
  rw [e1, e1]
  cases hdk : dne (stL l fs ts) s k 2 with
  | true =>
   cases hdj : dne (stL l fs ts) s j 2 with
   | true => exact newnew
   | false => exact cross k j hkf hj (by omega) hdk hdj newnew
  | false =>
   cases hdj : dne (stL l fs ts) s j 2 with
   | true =>
    have h := cross j k hj hkf (by omega) hdj hdk (by rw [fitsC_swap]; exact newnew)
    rw [fitsC_swap] at h
    exact h
   | false => exact oldold
end
end Go.Proofs.YtminihiecloglaaGreat
