/-
  PURE: what the document's loops over a text hold.
-/
import Derived.Test.YtbmhjmdbolnbaaaDoorSPure
namespace SemP
open Go.Lib

/-- The pieces cut so far, and what is left from 'last' on. -/
def CutAt (c : UInt8) (s : Str) (outs : List Str) (last i : Nat) : Prop :=
  last ≤ i ∧ i ≤ s.length ∧ pieces c s = outs ++ pieces c (s.drop last) ∧ c ∉ (s.drop last).take (i - last)
theorem CutAt.start (c : UInt8) (s : Str) : CutAt c s [] 0 0 := ⟨Nat.le_refl _, Nat.zero_le _, rfl, by simp⟩
theorem drop_parts (s : Str) (l i : Nat) (h : l ≤ i) (hi : i < s.length) : s.drop l = (s.drop l).take (i - l) ++ s.getD i 0 :: s.drop (i + 1) := by
  have h1 : (s.drop l).drop (i - l) = s.getD i 0 :: s.drop (i + 1) := by
    rw [List.drop_drop, show l + (i - l) = i by omega, List.drop_eq_getElem_cons hi]
    simp [List.getD, hi]
  rw [← h1, List.take_append_drop]
theorem CutAt.skip {c : UInt8} {s : Str} {outs : List Str} {l i : Nat} (h : CutAt c s outs l i) (hi : i < s.length) (hne : s.getD i 0 ≠ c) : CutAt c s outs l (i + 1) := by
  obtain ⟨h1, h2, h3, h4⟩ := h
  refine ⟨by omega, hi, h3, ?_⟩
  have hp := drop_parts s l i h1 hi
  have : (s.drop l).take (i + 1 - l) = (s.drop l).take (i - l) ++ [s.getD i 0] := by
    rw [show i + 1 - l = (i - l) + 1 by omega, List.take_add_one]
    congr 1
    have : (s.drop l)[i - l]? = some (s.getD i 0) := by
      rw [List.getElem?_drop, show l + (i - l) = i by omega]
      simp [List.getD, hi]
    rw [this]; rfl
  rw [this]
  simp only [List.mem_append, List.mem_singleton, not_or]
  exact ⟨h4, fun e => hne e.symm⟩
theorem CutAt.hit {c : UInt8} {s : Str} {outs : List Str} {l i : Nat} (h : CutAt c s outs l i) (hi : i < s.length) (he : s.getD i 0 = c) : CutAt c s (outs ++ [(s.drop l).take (i - l)]) (i + 1) (i + 1) := by
  obtain ⟨h1, h2, h3, h4⟩ := h
  refine ⟨Nat.le_refl _, hi, ?_, by simp⟩
  have hp := drop_parts s l i h1 hi
  rw [he] at hp
  rw [h3]
  conv => lhs; rw [hp, pieces_app c _ _ h4]
  simp
theorem CutAt.fin {c : UInt8} {s : Str} {outs : List Str} {l i : Nat} (h : CutAt c s outs l i) (hi : i = s.length) : pieces c s = outs ++ [s.drop l] := by
  obtain ⟨h1, h2, h3, h4⟩ := h
  rw [h3, pieces_one c (s.drop l)]
  rw [List.take_of_length_le (by rw [List.length_drop]; omega)] at h4
  exact h4
theorem CutAt.len {c : UInt8} {s : Str} {outs : List Str} {l i : Nat} (h : CutAt c s outs l i) : outs.length ≤ (pieces c s).length := by
  rw [h.2.2.1, List.length_append]; omega
theorem pieces_len (c : UInt8) (s : Str) : (pieces c s).length ≤ s.length + 1 := by
  induction s with
  | nil => simp [pieces]
  | cons b l ih =>
    unfold pieces
    split
    · simp; omega
    · split
      · simp
      · next h => rw [h] at ih; simp at ih ⊢; omega

/-! ### Two rows that begin alike -/
theorem rowC_step {α : Type} {c : α → α → Int} {a b : List α} {i : Nat} (ha : i < a.length) (hb : i < b.length) : rowC c (a.drop i) (b.drop i) = orI (c a[i] b[i]) (rowC c (a.drop (i + 1)) (b.drop (i + 1))) := by
  rw [List.drop_eq_getElem_cons ha, List.drop_eq_getElem_cons hb]; rfl
theorem rowC_end {α : Type} {c : α → α → Int} {a b : List α} {i : Nat} (hi : i ≤ a.length) (hj : i ≤ b.length) (h : ¬ (i < a.length ∧ i < b.length)) : rowC c (a.drop i) (b.drop i) = compareInt a.length b.length := by
  rcases Nat.lt_or_ge i a.length with ha | ha
  · have hb : i = b.length := by omega
    rw [List.drop_eq_getElem_cons ha, List.drop_eq_nil_of_le (as := b) (by omega)]
    show (1 : Int) = _
    unfold compareInt; rw [if_neg (by omega), if_pos (by omega)]
  · rw [List.drop_eq_nil_of_le (as := a) (by omega)]
    rcases Nat.lt_or_ge i b.length with hb | hb
    · rw [List.drop_eq_getElem_cons hb]
      show (-1 : Int) = _
      unfold compareInt; rw [if_pos (by omega)]
    · rw [List.drop_eq_nil_of_le (as := b) (by omega)]
      show (0 : Int) = _
      unfold compareInt; rw [if_neg (by omega), if_neg (by omega)]
/-- Rows that agree before i. -/
def RowAt {α : Type} (c : α → α → Int) (a b : List α) (i : Nat) : Prop := i ≤ a.length ∧ i ≤ b.length ∧ rowC c a b = rowC c (a.drop i) (b.drop i)
theorem RowAt.start {α : Type} (c : α → α → Int) (a b : List α) : RowAt c a b 0 := ⟨Nat.zero_le _, Nat.zero_le _, rfl⟩
theorem RowAt.next {α : Type} {c : α → α → Int} {a b : List α} {i : Nat} (h : RowAt c a b i) (ha : i < a.length) (hb : i < b.length) (d : α) (h0 : c (a.getD i d) (b.getD i d) = 0) : RowAt c a b (i + 1) := by
  refine ⟨ha, hb, ?_⟩
  rw [h.2.2, rowC_step ha hb]
  have : c a[i] b[i] = 0 := by simpa [List.getD, ha, hb] using h0
  rw [this, orI_zero]
theorem RowAt.stop {α : Type} {c : α → α → Int} {a b : List α} {i : Nat} (h : RowAt c a b i) (ha : i < a.length) (hb : i < b.length) (d : α) (h0 : c (a.getD i d) (b.getD i d) ≠ 0) : rowC c a b = c (a.getD i d) (b.getD i d) := by
  rw [h.2.2, rowC_step ha hb]
  have e : c a[i] b[i] = c (a.getD i d) (b.getD i d) := by simp [List.getD, ha, hb]
  rw [e, orI_ne h0]
theorem RowAt.fin {α : Type} {c : α → α → Int} {a b : List α} {i : Nat} (h : RowAt c a b i) (hn : ¬ (i < a.length ∧ i < b.length)) : rowC c a b = compareInt a.length b.length := by
  rw [h.2.2, rowC_end h.1 h.2.1 hn]
/-- What the document asks of two Pres. -/
def refPre (a b : Str) : Int := if a = b then 0 else if a = [] then 1 else if b = [] then -1 else rowC refMarks (pieces 46 a) (pieces 46 b)
theorem refPre_cmp {a b : Str} (ha : a = [] ∨ rightPre a = true) (hb : b = [] ∨ rightPre b = true) : refPre a b = cmpPre a b := by
  unfold refPre cmpPre
  split
  · rfl
  · split
    · rfl
    · split
      · rfl
      · next h1 h2 h3 => exact refPre_eq (ha.resolve_left h2) (hb.resolve_left h3)
def refV (a b : Ver) : Int := orI (compareInt a.major b.major) (orI (compareInt a.minor b.minor) (orI (compareInt a.patch b.patch) (refPre a.pre b.pre)))
theorem refV_cmp {a b : Ver} (ha : a.right = true) (hb : b.right = true) : refV a b = cmpV a b := by
  unfold Ver.right at ha hb
  simp only [Bool.and_eq_true, Bool.or_eq_true, List.isEmpty_iff] at ha hb
  unfold refV cmpV
  rw [refPre_cmp ha.2 hb.2]
end SemP
