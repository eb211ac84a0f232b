/-
  PURE: versions as the document has them: marks, their order, digits, texts. No program in this text.
-/
import Derived.Lib.CutLaws
import Derived.Lib.Bytealg
import Derived.Lib.Small
import Derived.Lib.Atoi
import Derived.Lib.ItoaNum
set_option linter.unusedVariables false
namespace SemP
open Go.Lib

abbrev Str := List UInt8
def dig (b : UInt8) : Bool := decide (48 ≤ b.toNat) && decide (b.toNat ≤ 57)
def low (b : UInt8) : Bool := decide (97 ≤ b.toNat) && decide (b.toNat ≤ 122)
def allDig (l : Str) : Bool := !l.isEmpty && l.all dig
def plainN (l : Str) : Bool := decide (l.length ≤ 6) && (l == [48] || l.head? != some 48)
def numAcc (a : Nat) (l : Str) : Nat := l.foldl (fun a b => 10 * a + (b.toNat - 48)) a
def numOf (l : Str) : Nat := numAcc 0 l
/-- One of a version's three numbers. -/
def num (l : Str) : Option Nat := if allDig l && plainN l then some (numOf l) else none
/-- What stands between bytes of one kind. -/
def pieces (c : UInt8) : Str → List Str
  | [] => [[]]
  | b :: l => if b = c then [] :: pieces c l else match pieces c l with
    | [] => [[b]]
    | p :: ps => (b :: p) :: ps
def rightMark (m : Str) : Bool := !m.isEmpty && decide (m.length ≤ 10) && (if allDig m then plainN m else m.all (fun b => dig b || low b))
def rightPre (p : Str) : Bool := decide ((pieces 46 p).length ≤ 4) && (pieces 46 p).all rightMark

/-! ### Total comparisons -/
structure Tot {α : Type} (c : α → α → Int) : Prop where
  range : ∀ a b, c a b = -1 ∨ c a b = 0 ∨ c a b = 1
  anti : ∀ a b, c b a = - c a b
  eq : ∀ a b, c a b = 0 ↔ a = b
  trans : ∀ a b d, c a b ≤ 0 → c b d ≤ 0 → c a d ≤ 0
theorem Tot.refl {α : Type} {c : α → α → Int} (h : Tot c) (a : α) : c a a = 0 := (h.eq a a).2 rfl
theorem Tot.trans' {α : Type} {c : α → α → Int} (h : Tot c) {a b d : α} (h1 : 0 ≤ c a b) (h2 : 0 ≤ c b d) : 0 ≤ c a d := by
  have e1 := h.anti a b; have e2 := h.anti b d; have e3 := h.anti a d
  have := h.trans d b a (by omega) (by omega)
  omega
/-- First by one, then by the other. -/
def orI (a b : Int) : Int := if a ≠ 0 then a else b
theorem orI_zero (b : Int) : orI 0 b = b := rfl
theorem orI_ne {a : Int} (h : a ≠ 0) (b : Int) : orI a b = a := if_pos h
theorem orI_range {a b : Int} (ha : a = -1 ∨ a = 0 ∨ a = 1) (hb : b = -1 ∨ b = 0 ∨ b = 1) : orI a b = -1 ∨ orI a b = 0 ∨ orI a b = 1 := by
  unfold orI; split <;> assumption
theorem orI_neg (a b : Int) : orI (-a) (-b) = - orI a b := by
  unfold orI
  by_cases h : a = 0
  · subst h; simp
  · rw [if_pos (by omega), if_pos h]
theorem orI_eq {a b : Int} : orI a b = 0 ↔ a = 0 ∧ b = 0 := by
  unfold orI; by_cases h : a = 0
  · subst h; simp
  · rw [if_pos h]; simp [h]
theorem compareInt_tot : Tot compareInt := by
  refine ⟨?_, ?_, ?_, ?_⟩ <;> intros <;> simp only [compareInt] at * <;> split <;> (try split) <;> (try split) <;> (try split) <;> (try split) <;> (try split) <;> (try split) <;> simp at * <;> omega
/-- Two by two. -/
theorem tot_pair {α β : Type} {c : α → α → Int} {d : β → β → Int} (hc : Tot c) (hd : Tot d) : Tot (fun (a b : α × β) => orI (c a.1 b.1) (d a.2 b.2)) := by
  refine ⟨fun a b => orI_range (hc.range _ _) (hd.range _ _), fun a b => ?_, fun a b => ?_, fun a b e h1 h2 => ?_⟩
  · rw [hc.anti, hd.anti, orI_neg]
  · rw [orI_eq, hc.eq, hd.eq]
    obtain ⟨a1, a2⟩ := a; obtain ⟨b1, b2⟩ := b
    simp
  · obtain ⟨a1, a2⟩ := a; obtain ⟨b1, b2⟩ := b; obtain ⟨e1, e2⟩ := e
    simp only at *
    have r1 := hc.range a1 b1; have r2 := hc.range b1 e1; have r3 := hc.range a1 e1
    by_cases z1 : c a1 b1 = 0
    · rw [z1, orI_zero] at h1
      obtain rfl := (hc.eq _ _).1 z1
      by_cases z2 : c a1 e1 = 0
      · rw [z2, orI_zero] at h2 ⊢
        exact hd.trans _ _ _ h1 h2
      · rw [orI_ne z2] at h2 ⊢; exact h2
    · rw [orI_ne z1] at h1
      have h2' : c b1 e1 ≤ 0 := by
        by_cases z2 : c b1 e1 = 0
        · omega
        · rw [orI_ne z2] at h2; exact h2
      have h3 := hc.trans _ _ _ h1 h2'
      have z3 : c a1 e1 ≠ 0 := fun z3 => by
        obtain rfl := (hc.eq _ _).1 z3
        have := hc.anti a1 b1
        omega
      rw [orI_ne z3]; exact h3
/-- Row by row; the shorter one is less. -/
def rowC {α : Type} (c : α → α → Int) : List α → List α → Int
  | [], [] => 0
  | [], _ :: _ => -1
  | _ :: _, [] => 1
  | a :: l, b :: m => orI (c a b) (rowC c l m)
theorem rowC_tot {α : Type} {c : α → α → Int} (hc : Tot c) : Tot (rowC c) := by
  refine ⟨?_, ?_, ?_, ?_⟩
  · intro a
    induction a with
    | nil => intro b; cases b <;> simp [rowC]
    | cons x l ih => intro b; cases b with
      | nil => simp [rowC]
      | cons y m => exact orI_range (hc.range _ _) (ih m)
  · intro a
    induction a with
    | nil => intro b; cases b <;> simp [rowC]
    | cons x l ih => intro b; cases b with
      | nil => simp [rowC]
      | cons y m => simp only [rowC]; rw [hc.anti, ih, orI_neg]
  · intro a
    induction a with
    | nil => intro b; cases b <;> simp [rowC]
    | cons x l ih => intro b; cases b with
      | nil => simp [rowC]
      | cons y m => simp only [rowC]; rw [orI_eq, hc.eq, ih]; simp
  · intro a
    induction a with
    | nil => intro b d h1 h2; cases d <;> simp [rowC]
    | cons x l ih =>
      intro b d h1 h2
      cases b with
      | nil => simp [rowC] at h1
      | cons y m =>
        cases d with
        | nil => simp [rowC] at h2
        | cons z n =>
          simp only [rowC] at h1 h2 ⊢
          have r1 := hc.range x y; have r2 := hc.range y z; have r3 := hc.range x z
          by_cases z1 : c x y = 0
          · rw [z1, orI_zero] at h1
            obtain rfl := (hc.eq _ _).1 z1
            by_cases z2 : c x z = 0
            · rw [z2, orI_zero] at h2 ⊢
              exact ih _ _ h1 h2
            · rw [orI_ne z2] at h2 ⊢; exact h2
          · rw [orI_ne z1] at h1
            have h2' : c y z ≤ 0 := by
              by_cases z2 : c y z = 0
              · omega
              · rw [orI_ne z2] at h2; exact h2
            have h3 := hc.trans _ _ _ h1 h2'
            have z3 : c x z ≠ 0 := fun z3 => by
              obtain rfl := (hc.eq _ _).1 z3
              have := hc.anti x y
              omega
            rw [orI_ne z3]; exact h3
def cmpB (a b : UInt8) : Int := if a < b then -1 else if b < a then 1 else 0
theorem cmpB_eq (a b : UInt8) : cmpB a b = compareInt a.toNat b.toNat := by
  unfold cmpB compareInt
  simp only [UInt8.lt_iff_toNat_lt]
  split <;> split <;> (try split) <;> first | rfl | omega
theorem cmpB_tot : Tot cmpB := by
  have e : cmpB = fun a b => compareInt a.toNat b.toNat := by funext a b; exact cmpB_eq a b
  rw [e]
  refine ⟨fun a b => compareInt_tot.range _ _, fun a b => compareInt_tot.anti _ _, fun a b => ?_, fun a b d => compareInt_tot.trans _ _ _⟩
  rw [compareInt_tot.eq]
  constructor
  · intro h; exact UInt8.toNat_inj.1 (by omega)
  · intro h; rw [h]
theorem compareBytes_eq (a b : Str) : compareBytes a b = rowC cmpB a b := by
  induction a generalizing b with
  | nil => cases b <;> rfl
  | cons x l ih =>
    cases b with
    | nil => rfl
    | cons y m =>
      simp only [compareBytes, rowC, cmpB]
      rw [ih]
      split
      · rfl
      · split
        · rfl
        · rfl
theorem compareBytes_tot : Tot compareBytes := by
  have e : compareBytes = rowC cmpB := by funext a b; exact compareBytes_eq a b
  rw [e]; exact rowC_tot cmpB_tot

/-- Two marks. -/
def cmpMarks (a b : Str) : Int :=
  if allDig a && allDig b then orI (compareInt a.length b.length) (compareBytes a b)
  else if allDig a then -1 else if allDig b then 1 else compareBytes a b
theorem lenB_tot : Tot (fun (a b : Str) => orI (compareInt a.length b.length) (compareBytes a b)) := by
  have h := tot_pair compareInt_tot compareBytes_tot
  refine ⟨fun a b => h.range ((a.length : Int), a) ((b.length : Int), b), fun a b => h.anti ((a.length : Int), a) ((b.length : Int), b), fun a b => ?_, fun a b d => h.trans ((a.length : Int), a) ((b.length : Int), b) ((d.length : Int), d)⟩
  rw [h.eq ((a.length : Int), a) ((b.length : Int), b)]
  simp
  intro e; rw [e]
theorem cmpMarks_tot : Tot cmpMarks := by
  have hL := lenB_tot
  have hB := compareBytes_tot
  refine ⟨fun a b => ?_, fun a b => ?_, fun a b => ?_, fun a b d h1 h2 => ?_⟩
  · unfold cmpMarks; split
    · exact hL.range a b
    · split
      · simp
      · split
        · simp
        · exact hB.range a b
  · unfold cmpMarks
    cases ha : allDig a <;> cases hb : allDig b <;> simp
    · exact hB.anti a b
    · exact hL.anti a b
  · unfold cmpMarks
    cases ha : allDig a <;> cases hb : allDig b <;> simp
    · exact hB.eq a b
    · intro e; rw [e, hb] at ha; cases ha
    · intro e; rw [e, hb] at ha; cases ha
    · exact hL.eq a b
  · unfold cmpMarks at *
    cases ha : allDig a <;> cases hb : allDig b <;> cases hd : allDig d <;> simp [ha, hb, hd] at *
    · exact hB.trans a b d h1 h2
    · exact hL.trans a b d h1 h2
/-- Two Pres: none is more than any; else mark by mark. -/
def cmpPre (a b : Str) : Int :=
  if a = b then 0 else if a = [] then 1 else if b = [] then -1 else rowC cmpMarks (pieces 46 a) (pieces 46 b)
theorem pieces_ne (c : UInt8) (l : Str) : pieces c l ≠ [] := by
  cases l with
  | nil => simp [pieces]
  | cons b l => unfold pieces; split; simp; split <;> simp
theorem pieces_inj (c : UInt8) : ∀ a b : Str, pieces c a = pieces c b → a = b := by
  intro a
  induction a with
  | nil =>
    intro b h
    cases b with
    | nil => rfl
    | cons y m =>
      exfalso
      unfold pieces at h
      split at h
      · injection h with _ h2
        exact pieces_ne c m h2.symm
      · split at h <;> simp at h
  | cons x l ih =>
    intro b h
    cases b with
    | nil =>
      exfalso
      unfold pieces at h
      split at h
      · injection h with _ h2
        exact pieces_ne c l h2
      · split at h <;> simp at h
    | cons y m =>
      unfold pieces at h
      cases hl : pieces c l with
      | nil => exact absurd hl (pieces_ne c l)
      | cons p ps =>
        cases hm : pieces c m with
        | nil => exact absurd hm (pieces_ne c m)
        | cons q qs =>
          rw [hl, hm] at h
          by_cases hx : x = c <;> by_cases hy : y = c <;> simp [hx, hy] at h
          · rw [hx, hy, ih m (by rw [hl, hm, h.1, h.2])]
          · rw [h.1.1, ih m (by rw [hl, hm, h.1.2, h.2])]
theorem cmpPre_tot : Tot cmpPre := by
  have hR := rowC_tot cmpMarks_tot
  have hq : ∀ a b : Str, rowC cmpMarks (pieces 46 a) (pieces 46 b) = 0 ↔ a = b := fun a b => ⟨fun h => pieces_inj 46 a b ((hR.eq _ _).1 h), fun h => by rw [h]; exact hR.refl _⟩
  -- said without its first question
  have hc : ∀ a b : Str, cmpPre a b = if a = [] ∧ b = [] then 0 else if a = [] then 1 else if b = [] then -1 else rowC cmpMarks (pieces 46 a) (pieces 46 b) := by
    intro a b
    unfold cmpPre
    by_cases h : a = b
    · subst h; by_cases h2 : a = [] <;> simp [h2, hR.refl]
    · rw [if_neg h]
      by_cases ha : a = [] <;> by_cases hb : b = [] <;> simp [ha, hb]
      exact absurd (ha.trans hb.symm) h
  refine ⟨fun a b => ?_, fun a b => ?_, fun a b => ?_, fun a b d h1 h2 => ?_⟩
  · rw [hc]; split; simp; split; simp; split; simp; exact hR.range _ _
  · rw [hc, hc]
    by_cases ha : a = [] <;> by_cases hb : b = [] <;> simp [ha, hb]
    exact hR.anti _ _
  · rw [hc]
    by_cases ha : a = []
    · by_cases hb : b = []
      · simp [ha, hb]
      · simp only [ha, hb]; simp; exact hb
    · by_cases hb : b = []
      · simp only [ha, hb]; simp
      · simp only [ha, hb]; simp; exact hq a b
  · rw [hc] at h1 h2 ⊢
    by_cases ha : a = [] <;> by_cases hb : b = [] <;> by_cases hd : d = [] <;> simp [ha, hb, hd] at *
    exact hR.trans _ _ _ h1 h2
/-- A version. -/
structure Ver where
  major : Int
  minor : Int
  patch : Int
  pre : Str
def cmpV (a b : Ver) : Int := orI (compareInt a.major b.major) (orI (compareInt a.minor b.minor) (orI (compareInt a.patch b.patch) (cmpPre a.pre b.pre)))
theorem cmpV_tot : Tot cmpV := by
  have h := tot_pair compareInt_tot (tot_pair compareInt_tot (tot_pair compareInt_tot cmpPre_tot))
  let f : Ver → Int × Int × Int × Str := fun v => (v.major, v.minor, v.patch, v.pre)
  refine ⟨fun a b => h.range (f a) (f b), fun a b => h.anti (f a) (f b), fun a b => (h.eq (f a) (f b)).trans ?_, fun a b d => h.trans (f a) (f b) (f d)⟩
  cases a; cases b; simp [f]
end SemP
namespace SemP
open Go.Lib
/-! ### Cut -/
theorem pieces_step {c b : UInt8} {l p : Str} {ps : List Str} (h : b ≠ c) (h2 : pieces c l = p :: ps) : pieces c (b :: l) = (b :: p) :: ps := by rw [pieces, if_neg h, h2]
theorem cut_pieces (l : Str) (c : UInt8) : (∃ p r, cut l [c] = (p, r, true) ∧ pieces c l = p :: pieces c r ∧ l = p ++ c :: r ∧ c ∉ p) ∨ (cut l [c] = (l, [], false) ∧ pieces c l = [l] ∧ c ∉ l) := by
  induction l with
  | nil => right; refine ⟨by simp [cut, index], rfl, by simp⟩
  | cons b l ih =>
    by_cases hb : b = c
    · subst hb
      left
      refine ⟨[], l, ?_, by simp [pieces], rfl, by simp⟩
      have e : index (b :: l) [b] = 0 := by simp [index, List.isPrefixOf]
      simp [cut, e]
    · have hn : ([c] : Str).isPrefixOf (b :: l) = false := by simp [List.isPrefixOf]; exact fun e => hb e.symm
      have hi : index (b :: l) [c] = if index l [c] == -1 then -1 else index l [c] + 1 := by rw [index, hn]; rfl
      have hge := index_ge l [c]
      rcases ih with ⟨p, r, h1, h2, h3, h4⟩ | ⟨h1, h2, h3⟩
      · left
        have hx : 0 ≤ index l [c] := by
          apply Classical.byContradiction
          intro hh
          unfold cut at h1
          rw [if_neg hh] at h1
          simp at h1
        have hy : index (b :: l) [c] = index l [c] + 1 := by
          rw [hi, if_neg]
          simp; omega
        unfold cut at h1
        rw [if_pos hx] at h1
        injection h1 with h11 h12
        injection h12 with h12 _
        obtain ⟨k, hk⟩ : ∃ k : Nat, index l [c] = k := ⟨_, (Int.toNat_of_nonneg hx).symm⟩
        refine ⟨b :: p, r, ?_, ?_, ?_, ?_⟩
        · unfold cut
          rw [hy, if_pos (by omega), hk] 
          rw [hk] at h11 h12
          have e : ((k : Int) + 1).toNat = k + 1 := by omega
          rw [e]
          simp at h11 h12 ⊢
          exact ⟨h11, by rw [← h12]⟩
        · exact pieces_step hb h2
        · rw [h3]; rfl
        · simp [h4]; exact fun e => hb e.symm
      · right
        have hx : ¬ 0 ≤ index l [c] := by
          intro hh
          unfold cut at h1
          rw [if_pos hh] at h1
          simp at h1
        have hy : index (b :: l) [c] = -1 := by rw [hi, if_pos]; simp; omega
        refine ⟨?_, ?_, ?_⟩
        · unfold cut; rw [hy]; rfl
        · exact pieces_step hb h2
        · simp [h3]; exact fun e => hb e.symm
theorem pieces_app (c : UInt8) (p r : Str) (h : c ∉ p) : pieces c (p ++ c :: r) = p :: pieces c r := by
  induction p with
  | nil => simp [pieces]
  | cons b p ih =>
    simp at h
    rw [List.cons_append, pieces, if_neg (fun e => h.1 e.symm), ih h.2]
theorem pieces_one (c : UInt8) (p : Str) (h : c ∉ p) : pieces c p = [p] := by
  induction p with
  | nil => rfl
  | cons b p ih =>
    simp at h
    rw [pieces, if_neg (fun e => h.1 e.symm), ih h.2]
/-! ### Numbers in digits -/
theorem dig_val {b : UInt8} (h : dig b = true) : b.toNat = 48 + (b.toNat - 48) ∧ b.toNat - 48 < 10 := by
  unfold dig at h; simp at h; omega
theorem numAcc_cons (a : Nat) (b : UInt8) (l : Str) : numAcc a (b :: l) = numAcc (10 * a + (b.toNat - 48)) l := by unfold numAcc; rw [List.foldl_cons]
theorem numAcc_snoc (a : Nat) (b : UInt8) (l : Str) : numAcc a (l ++ [b]) = 10 * numAcc a l + (b.toNat - 48) := by
  unfold numAcc; rw [List.foldl_append, List.foldl_cons, List.foldl_nil]
theorem numAcc_add (l : Str) (a : Nat) : numAcc a l = a * 10 ^ l.length + numAcc 0 l := by
  induction l generalizing a with
  | nil => simp [numAcc]
  | cons b l ih =>
    rw [numAcc_cons, ih, numAcc_cons, ih (10 * 0 + (b.toNat - 48)), List.length_cons, Nat.pow_succ]
    have e1 : (10 * a + (b.toNat - 48)) * 10 ^ l.length = a * (10 ^ l.length * 10) + (b.toNat - 48) * 10 ^ l.length := by
      rw [Nat.add_mul, Nat.mul_comm 10 a, Nat.mul_assoc, Nat.mul_comm 10]
    rw [e1]; simp; omega
theorem numOf_lt (l : Str) (h : l.all dig = true) : numOf l < 10 ^ l.length := by
  unfold numOf
  induction l with
  | nil => simp [numAcc]
  | cons b l ih =>
    rw [List.all_cons, Bool.and_eq_true] at h
    have h1 := ih h.2
    have h2 := (dig_val h.1).2
    rw [numAcc_cons, numAcc_add, List.length_cons, Nat.pow_succ]
    have : (10 * 0 + (b.toNat - 48)) * 10 ^ l.length ≤ 9 * 10 ^ l.length := Nat.mul_le_mul_right _ (by omega)
    omega
theorem numOf_ge (b : UInt8) (l : Str) (h : dig b = true) (h0 : b ≠ 48) : 10 ^ l.length ≤ numOf (b :: l) := by
  unfold numOf
  rw [numAcc_cons, numAcc_add]
  have h1 := dig_val h
  have h2 : b.toNat ≠ 48 := fun e => h0 (UInt8.toNat_inj.1 (by rw [e]; rfl))
  have : 1 * 10 ^ l.length ≤ (10 * 0 + (b.toNat - 48)) * 10 ^ l.length := Nat.mul_le_mul_right _ (by omega)
  omega
/-- Of one length the greater number is the greater text. -/
theorem compare_same (a b : Str) (ha : a.all dig = true) (hb : b.all dig = true) (hl : a.length = b.length) (k : Nat) : compareInt (numAcc k a) (numAcc k b) = compareBytes a b := by
  induction a generalizing b k with
  | nil =>
    cases b with
    | nil => exact (compareInt_tot.refl _).trans rfl
    | cons y m => simp at hl
  | cons x l ih =>
    cases b with
    | nil => simp at hl
    | cons y m =>
      rw [List.all_cons, Bool.and_eq_true] at ha hb
      simp at hl
      have hx := dig_val ha.1
      have hy := dig_val hb.1
      rw [compareBytes]
      have lx := numOf_lt l ha.2
      have ly := numOf_lt m hb.2
      unfold numOf at lx ly
      rw [numAcc_cons, numAcc_cons]
      by_cases h1 : x < y
      · rw [if_pos h1]
        have h1' := UInt8.lt_iff_toNat_lt.1 h1
        rw [numAcc_add l, numAcc_add m, ← hl]
        rw [← hl] at ly
        have : (10 * k + (x.toNat - 48) + 1) * 10 ^ l.length ≤ (10 * k + (y.toNat - 48)) * 10 ^ l.length := Nat.mul_le_mul_right _ (by omega)
        rw [Nat.add_mul (10 * k + (x.toNat - 48)), Nat.one_mul] at this
        unfold compareInt
        rw [if_pos (by omega)]
      · rw [if_neg h1]
        by_cases h2 : y < x
        · rw [if_pos h2]
          have h2' := UInt8.lt_iff_toNat_lt.1 h2
          rw [numAcc_add l, numAcc_add m, ← hl]
          rw [← hl] at ly
          have : (10 * k + (y.toNat - 48) + 1) * 10 ^ l.length ≤ (10 * k + (x.toNat - 48)) * 10 ^ l.length := Nat.mul_le_mul_right _ (by omega)
          rw [Nat.add_mul (10 * k + (y.toNat - 48)), Nat.one_mul] at this
          unfold compareInt
          rw [if_neg (by omega), if_pos (by omega)]
        · rw [if_neg h2]
          have e : x = y := by
            rw [UInt8.lt_iff_toNat_lt] at h1 h2
            exact UInt8.toNat_inj.1 (by omega)
          subst e
          exact ih m ha.2 hb.2 hl _
theorem allDig_all {l : Str} (h : allDig l = true) : l ≠ [] ∧ l.all dig = true := by
  unfold allDig at h; simp at h
  exact ⟨h.1, by simpa using h.2⟩
theorem plain_head {b : UInt8} {l : Str} (h : plainN (b :: l) = true) (hl : l ≠ []) : b ≠ 48 := by
  unfold plainN at h
  simp at h
  intro e
  rcases h.2 with h2 | h2
  · exact hl h2.2
  · exact h2 e
/-- Of plain digits the longer text is the greater number. -/
theorem compare_short (a b : Str) (ha : a.all dig = true) (hb : b.all dig = true) (pb : plainN b = true) (h0 : a ≠ []) (hl : a.length < b.length) : numOf a < numOf b := by
  cases b with
  | nil => simp at hl
  | cons y m =>
    have hm : m ≠ [] := by
      intro e; subst e; simp at hl; exact h0 hl
    have h1 := numOf_ge y m (by rw [List.all_cons, Bool.and_eq_true] at hb; exact hb.1) (plain_head pb hm)
    have h2 := numOf_lt a ha
    have h3 : 10 ^ a.length ≤ 10 ^ m.length := Nat.pow_le_pow_right (by omega) (by simp at hl; omega)
    omega
theorem compare_num (a b : Str) (ha : allDig a = true) (hb : allDig b = true) (pa : plainN a = true) (pb : plainN b = true) :
    orI (compareInt a.length b.length) (compareBytes a b) = compareInt (numOf a) (numOf b) := by
  obtain ⟨na, ha⟩ := allDig_all ha
  obtain ⟨nb, hb⟩ := allDig_all hb
  rcases Nat.lt_trichotomy a.length b.length with h | h | h
  · have := compare_short a b ha hb pb na h
    unfold compareInt
    rw [if_pos (by omega), if_pos (by omega)]; rfl
  · rw [h, compareInt_tot.refl, orI_zero]
    exact (compare_same a b ha hb h 0).symm
  · have := compare_short b a hb ha pa nb h
    unfold compareInt
    rw [if_neg (by omega), if_pos (by omega), if_neg (by omega), if_pos (by omega)]; rfl
theorem decFrom_num (l : Str) (h : l.all dig = true) (a : Nat) : decFrom a l = some (numAcc a l) := by
  induction l generalizing a with
  | nil => rfl
  | cons b l ih =>
    rw [List.all_cons, Bool.and_eq_true] at h
    have h1 := h.1
    unfold dig at h1; simp at h1
    rw [decFrom, digitVal, if_pos h1]
    simp only
    rw [ih h.2, numAcc_cons, Nat.mul_comm]
theorem atoi_num (l : Str) (h : allDig l = true) : atoi l = some (numOf l : Int) := by
  obtain ⟨n, h⟩ := allDig_all h
  cases l with
  | nil => exact absurd rfl n
  | cons b l =>
    have h1 : dig b = true := by rw [List.all_cons, Bool.and_eq_true] at h; exact h.1
    unfold dig at h1; simp at h1
    have n1 : (b == 45) = false := by rw [beq_eq_false_iff_ne]; intro e; subst e; simp at h1
    have n2 : (b == 43) = false := by rw [beq_eq_false_iff_ne]; intro e; subst e; simp at h1
    rw [atoi, n1, n2]
    simp only [decNat]
    rw [decFrom_num _ h]
    rfl
end SemP
namespace SemP
open Go.Lib
/-! ### The digits of a number -/
theorem toNat_dg {k : Nat} (h : k < 10) : (UInt8.ofNat (48 + k)).toNat = 48 + k := UInt8.toNat_ofNat_of_lt' (by show 48 + k < 256; omega)
theorem dig_dg {k : Nat} (h : k < 10) : dig (UInt8.ofNat (48 + k)) = true := by
  unfold dig; rw [toNat_dg h]; simp; omega
theorem decDigits_all (u : Nat) : (decDigits u).all dig = true := by
  induction u using Nat.strongRecOn with
  | _ u ih =>
    by_cases h : u < 10
    · rw [decDigits, dif_pos h, List.all_cons, dig_dg h]; rfl
    · rw [decDigits, dif_neg h, List.all_append, ih (u / 10) (by omega)]
      rw [List.all_cons, dig_dg (by omega)]; rfl
theorem decDigits_num (u : Nat) : numOf (decDigits u) = u := by
  induction u using Nat.strongRecOn with
  | _ u ih =>
    have hv : ∀ k, k < 10 → (UInt8.ofNat (48 + k)).toNat - 48 = k := by
      intro k hk
      rw [toNat_dg hk]; omega
    unfold numOf at ih ⊢
    by_cases h : u < 10
    · rw [decDigits, dif_pos h, numAcc_cons, hv u h]; simp [numAcc]
    · rw [decDigits, dif_neg h, numAcc_snoc, ih (u / 10) (by omega), hv _ (by omega)]
      omega
theorem decDigits_ne (u : Nat) : decDigits u ≠ [] := by
  rw [decDigits]; split <;> simp
theorem decDigits_head (u : Nat) (h : u ≠ 0) : (decDigits u).head? ≠ some 48 := by
  induction u using Nat.strongRecOn with
  | _ u ih =>
    by_cases hu : u < 10
    · rw [decDigits, dif_pos hu]
      rw [List.head?_cons]
      intro e
      injection e with e
      have := congrArg UInt8.toNat e
      rw [toNat_dg hu] at this
      have h48 : (48 : UInt8).toNat = 48 := rfl
      omega
    · rw [decDigits, dif_neg hu]
      have h1 := ih (u / 10) (by omega) (by omega)
      cases hd : decDigits (u / 10) with
      | nil => exact absurd hd (decDigits_ne _)
      | cons b l => rw [hd] at h1; simpa using h1
theorem decDigits_allDig (u : Nat) : allDig (decDigits u) = true := by
  unfold allDig
  rw [decDigits_all]
  simp [decDigits_ne]
theorem decDigits_plain (u : Nat) (h : u ≤ 999999) : plainN (decDigits u) = true := by
  unfold plainN
  have hl : (decDigits u).length ≤ 6 := by
    rw [decDigits_length]
    apply Classical.byContradiction
    intro hc
    by_cases h0 : u < 10
    · rw [nDigits_small h0] at hc; omega
    · -- a number of seven digits is above 999999
      have h1 := numOf_ge
      cases hd : decDigits u with
      | nil => exact absurd hd (decDigits_ne u)
      | cons b l =>
        have ha := decDigits_all u
        have hh := decDigits_head u (by omega)
        have hn := decDigits_num u
        have hlen := decDigits_length u
        rw [hd] at ha hh hn hlen
        rw [List.all_cons, Bool.and_eq_true] at ha
        have h2 := numOf_ge b l ha.1 (by intro e; subst e; simp at hh)
        have h3 : 10 ^ 6 ≤ 10 ^ l.length := Nat.pow_le_pow_right (by omega) (by simp at hlen; omega)
        omega
  rw [decide_eq_true hl, Bool.true_and]
  by_cases h0 : u = 0
  · subst h0; rw [decDigits, dif_pos (by omega)]; rfl
  · have := decDigits_head u h0
    rw [Bool.or_eq_true]; right
    simpa using this
theorem num_decDigits (u : Nat) (h : u ≤ 999999) : num (decDigits u) = some u := by
  unfold num
  rw [decDigits_allDig, decDigits_plain u h, decDigits_num]; rfl
/-- Digits alone, with no nought ahead, are the digits of their number. -/
theorem dig_of_numAcc (l : Str) (h : l.all dig = true) (k : Nat) (hk : k ≠ 0) : decDigits (numAcc k l) = decDigits k ++ l := by
  induction l generalizing k with
  | nil => simp [numAcc]
  | cons b l ih =>
    rw [List.all_cons, Bool.and_eq_true] at h
    have hb := dig_val h.1
    rw [numAcc_cons, ih h.2 _ (by omega)]
    rw [decDigits, dif_neg (by omega)]
    have e1 : (10 * k + (b.toNat - 48)) / 10 = k := by omega
    have e2 : 48 + (10 * k + (b.toNat - 48)) % 10 = b.toNat := by omega
    rw [e1, e2, UInt8.ofNat_toNat, List.append_assoc]; rfl
theorem digits_of_num {l : Str} {n : Nat} (h : num l = some n) : l = decDigits n ∧ n ≤ 999999 := by
  unfold num at h
  split at h
  · next hc =>
    rw [Bool.and_eq_true] at hc
    obtain ⟨hd, hp⟩ := hc
    obtain ⟨hne, ha⟩ := allDig_all hd
    injection h with h
    subst h
    have hlen : l.length ≤ 6 := by unfold plainN at hp; simp at hp; exact hp.1
    refine ⟨?_, ?_⟩
    · cases l with
      | nil => exact absurd rfl hne
      | cons b m =>
        rw [List.all_cons, Bool.and_eq_true] at ha
        have hb := dig_val ha.1
        by_cases hm : m = []
        · subst hm
          unfold numOf
          rw [numAcc_cons]
          show [b] = decDigits (10 * 0 + (b.toNat - 48))
          rw [decDigits, dif_pos (by omega)]
          have : 48 + (10 * 0 + (b.toNat - 48)) = b.toNat := by omega
          rw [this, UInt8.ofNat_toNat]
        · have h48 := plain_head hp hm
          have hbn : b.toNat ≠ 48 := fun e => h48 (UInt8.toNat_inj.1 (by rw [e]; rfl))
          unfold numOf
          rw [numAcc_cons, dig_of_numAcc m ha.2 _ (by omega), decDigits, dif_pos (by omega)]
          have : 48 + (10 * 0 + (b.toNat - 48)) = b.toNat := by omega
          rw [this, UInt8.ofNat_toNat]; rfl
    · have h1 := numOf_lt l ha
      have h3 : 10 ^ l.length ≤ 10 ^ 6 := Nat.pow_le_pow_right (by omega) hlen
      omega
  · cases h
theorem dig_no {c : UInt8} {l : Str} (h : l.all dig = true) (hc : dig c = false) : c ∉ l := by
  intro hm
  rw [List.all_eq_true] at h
  rw [h c hm] at hc; cases hc
theorem num_no {c : UInt8} {l : Str} {n : Nat} (h : num l = some n) (hc : dig c = false) : c ∉ l := by
  unfold num at h
  split at h
  · next hh => rw [Bool.and_eq_true] at hh; exact dig_no (allDig_all hh.1).2 hc
  · cases h
/-! ### Parse, Right, Text -/
def parseV (s : Str) : Option Ver :=
  let c := cut s [45]
  if c.2.2 && !rightPre c.2.1 then none else
  let p := cut c.1 [46]
  let q := cut p.2.1 [46]
  match num p.1, num q.1, num q.2.1 with
  | some a, some b, some d => some ⟨a, b, d, c.2.1⟩
  | _, _, _ => none
def rightN (n : Int) : Bool := decide (0 ≤ n) && decide (n ≤ 999999)
def Ver.right (v : Ver) : Bool := rightN v.major && rightN v.minor && rightN v.patch && (v.pre.isEmpty || rightPre v.pre)
def Ver.text (v : Ver) : Str :=
  decDigits v.major.toNat ++ 46 :: (decDigits v.minor.toNat ++ 46 :: (decDigits v.patch.toNat ++ (if v.pre.isEmpty then [] else 45 :: v.pre)))
theorem cut_hit (p r : Str) (c : UInt8) (h : c ∉ p) : cut (p ++ c :: r) [c] = (p, r, true) := by
  rcases cut_pieces (p ++ c :: r) c with ⟨p2, r2, h1, h2, h3, h4⟩ | ⟨_, _, h3⟩
  · rw [h1]
    rw [pieces_app c p r h] at h2
    injection h2 with h2 h5
    subst h2
    have := List.append_cancel_left h3
    injection this with _ this
    rw [this]
  · simp at h3
theorem cut_miss (p : Str) (c : UInt8) (h : c ∉ p) : cut p [c] = (p, [], false) := by
  rcases cut_pieces p c with ⟨p2, r2, h1, h2, h3, h4⟩ | ⟨h1, _, _⟩
  · rw [h3] at h; simp at h
  · exact h1
theorem parse_text (v : Ver) (h : v.right = true) : parseV v.text = some v := by
  obtain ⟨a, b, d, pre⟩ := v
  unfold Ver.right rightN at h
  simp at h
  obtain ⟨⟨⟨⟨a0, a1⟩, b0, b1⟩, d0, d1⟩, hp⟩ := h
  have na := num_decDigits a.toNat (by omega)
  have nb := num_decDigits b.toNat (by omega)
  have nd := num_decDigits d.toNat (by omega)
  have core : ∀ t : Str, t = decDigits a.toNat ++ 46 :: (decDigits b.toNat ++ 46 :: decDigits d.toNat) → 45 ∉ t ∧ cut t [46] = (decDigits a.toNat, decDigits b.toNat ++ 46 :: decDigits d.toNat, true) := by
    intro t ht
    subst ht
    have h1 := num_no na (c := 45) rfl
    have h2 := num_no nb (c := 45) rfl
    have h3 := num_no nd (c := 45) rfl
    refine ⟨by simp [h1, h2, h3], cut_hit _ _ _ (num_no na rfl)⟩
  have h2 := cut_hit (decDigits b.toNat) (decDigits d.toNat) 46 (num_no nb rfl)
  obtain ⟨c1, c2⟩ := core _ rfl
  unfold parseV Ver.text
  simp only
  by_cases hpe : pre = []
  · subst hpe
    simp only [List.isEmpty_nil, if_true, List.append_nil]
    rw [cut_miss _ _ c1]
    simp only [Bool.false_and, Bool.false_eq_true, if_false]
    rw [c2]
    simp only
    rw [h2]
    simp only [na, nb, nd]
    rw [Int.toNat_of_nonneg a0, Int.toNat_of_nonneg b0, Int.toNat_of_nonneg d0]
  · have hr : rightPre pre = true := by simpa [hpe] using hp
    have hi : pre.isEmpty = false := by simpa using hpe
    simp only [hi, Bool.false_eq_true, if_false]
    have e : decDigits a.toNat ++ 46 :: (decDigits b.toNat ++ 46 :: (decDigits d.toNat ++ 45 :: pre)) = (decDigits a.toNat ++ 46 :: (decDigits b.toNat ++ 46 :: decDigits d.toNat)) ++ 45 :: pre := by simp
    rw [e, cut_hit _ _ _ c1]
    simp only [hr, Bool.not_true, Bool.and_false, Bool.false_eq_true, if_false]
    rw [c2]
    simp only
    rw [h2]
    simp only [na, nb, nd]
    rw [Int.toNat_of_nonneg a0, Int.toNat_of_nonneg b0, Int.toNat_of_nonneg d0]
theorem text_inj {v u : Ver} (hv : v.right = true) (hu : u.right = true) (h : v.text = u.text) : v = u := by
  have h1 := parse_text v hv
  rw [h, parse_text u hu] at h1
  injection h1 with h1
  exact h1.symm
/-! ### The document's -/
/-- What the document asks of a mark's number. -/
def refMarks (a b : Str) : Int :=
  match num a, num b with
  | some m, some n => compareInt m n
  | some _, none => -1
  | none, some _ => 1
  | none, none => compareBytes a b
theorem rightMark_num {m : Str} (h : rightMark m = true) : num m = if allDig m then some (numOf m) else none := by
  unfold rightMark at h
  unfold num
  cases hd : allDig m with
  | false => simp
  | true => rw [hd] at h; simp at h; simp [h.2]
theorem refMarks_eq {a b : Str} (ha : rightMark a = true) (hb : rightMark b = true) : refMarks a b = cmpMarks a b := by
  unfold refMarks cmpMarks
  rw [rightMark_num ha, rightMark_num hb]
  cases da : allDig a <;> cases db : allDig b <;> simp
  unfold rightMark at ha hb
  rw [da] at ha; rw [db] at hb; simp at ha hb
  exact (compare_num a b da db ha.2 hb.2).symm
theorem rowC_congr {α : Type} {c d : α → α → Int} : ∀ (a b : List α), (∀ x ∈ a, ∀ y ∈ b, c x y = d x y) → rowC c a b = rowC d a b := by
  intro a
  induction a with
  | nil => intro b _; cases b <;> rfl
  | cons x l ih =>
    intro b h
    cases b with
    | nil => rfl
    | cons y m =>
      simp only [rowC]
      rw [h x (by simp) y (by simp), ih m (fun u hu v hv => h u (by simp [hu]) v (by simp [hv]))]
theorem rightPre_all {p : Str} (h : rightPre p = true) : ∀ m ∈ pieces 46 p, rightMark m = true := by
  unfold rightPre at h; rw [Bool.and_eq_true] at h
  exact List.all_eq_true.1 h.2
theorem refPre_eq {a b : Str} (ha : rightPre a = true) (hb : rightPre b = true) : rowC refMarks (pieces 46 a) (pieces 46 b) = rowC cmpMarks (pieces 46 a) (pieces 46 b) :=
  rowC_congr _ _ (fun x hx y hy => refMarks_eq (rightPre_all ha x hx) (rightPre_all hb y hy))
/-! ### Bumps -/
def Ver.bump (v : Ver) (part : Int) : Ver :=
  if part = 0 then ⟨v.major + 1, 0, 0, []⟩ else if part = 1 then ⟨v.major, v.minor + 1, 0, []⟩
  else if v.pre = [] then ⟨v.major, v.minor, v.patch + 1, []⟩ else ⟨v.major, v.minor, v.patch, []⟩
theorem cmp_lt {a b : Int} (h : a < b) : compareInt a b = -1 := if_pos h
theorem cmp_same (a : Int) : compareInt a a = 0 := compareInt_tot.refl a
theorem bump_above (v : Ver) (part : Int) : cmpV v (v.bump part) = -1 := by
  unfold cmpV Ver.bump
  split
  · simp only; rw [cmp_lt (by omega)]; rfl
  · split
    · simp only; rw [cmp_same, cmp_lt (by omega)]; rfl
    · split
      · simp only; rw [cmp_same, cmp_same, cmp_lt (by omega)]; rfl
      · next h => simp only; rw [cmp_same, cmp_same, cmp_same]; unfold cmpPre; rw [if_neg h, if_neg h]; rfl
end SemP
