/-
  PURE: a caret and a tilde against what follows by bumping.
-/
import Derived.Test.YtbmhjmdbolnbaaaDoorRTilP
namespace Go.Proofs.YtbmhjmdbolnbaaaDoor
open Go.RowKit
open SemP
set_option linter.unusedSimpArgs false
theorem cmp_pat {a b c c' : Int} {p q : Str} (h : c < c') : cmpV ⟨a, b, c, p⟩ ⟨a, b, c', q⟩ = -1 := by
  unfold cmpV; simp only; rw [cmp_same, cmp_same, cmp_lt h]; rfl
theorem cmpV_up {a b : Ver} (h : cmpV b a = -1) : cmpV a b = 1 := by have := cmpV_tot.anti a b; omega
theorem cmpV_self (a : Ver) : cmpV a a = 0 := (cmpV_tot.eq a a).2 rfl
theorem has_caret {a b c : Int} {p : Str} (h : Ver.right ⟨a, b, c, p⟩ = true) : hasC 6 ⟨a, b, c, p⟩ ⟨a, b, c, p⟩ = true := by
  rw [has6, end_caret h, cmpV_self]
  by_cases h1 : 0 < a
  · rw [if_pos h1]
    by_cases h2 : a < 999999
    · rw [if_pos h2]; simp only; rw [cmp_maj (by omega)]; rfl
    · rw [if_neg h2]; rfl
  · rw [if_neg h1]
    by_cases h2 : 0 < b
    · rw [if_pos h2]
      by_cases h3 : b < 999999
      · rw [if_pos h3]; simp only; rw [cmp_min (by omega)]; rfl
      · rw [if_neg h3]; rfl
    · rw [if_neg h2]
      by_cases h3 : c < 999999
      · rw [if_pos h3]; simp only; rw [cmp_pat (by omega)]; rfl
      · rw [if_neg h3]; rfl
theorem has_tilde {a b c : Int} {p : Str} (h : Ver.right ⟨a, b, c, p⟩ = true) : hasC 7 ⟨a, b, c, p⟩ ⟨a, b, c, p⟩ = true := by
  rw [has7, end_tilde h, cmpV_self]
  by_cases h2 : b < 999999
  · rw [if_pos h2]; simp only; rw [cmp_min (by omega)]; rfl
  · rw [if_neg h2]; rfl
/-- The next major. -/
theorem caret_maj {a b c : Int} {p : Str} (h : Ver.right ⟨a, b, c, p⟩ = true) (ha : 0 < a) (h9 : a < 999999) : hasC 6 ⟨a, b, c, p⟩ ⟨a + 1, 0, 0, []⟩ = false := by
  rw [has6, end_caret h, if_pos ha, if_pos h9]; simp only; rw [cmpV_self]; exact Bool.and_false _
theorem tilde_maj {a b c : Int} {p : Str} (h : Ver.right ⟨a, b, c, p⟩ = true) (h9 : b < 999999) : hasC 7 ⟨a, b, c, p⟩ ⟨a + 1, 0, 0, []⟩ = false := by
  rw [has7, end_tilde h, if_pos h9]; simp only; rw [show cmpV ⟨a + 1, 0, 0, []⟩ ⟨a, b + 1, 0, []⟩ = 1 from cmpV_up (cmp_maj (by omega))]; exact Bool.and_false _
/-- The next minor. -/
theorem tilde_min {a b c : Int} {p : Str} (h : Ver.right ⟨a, b, c, p⟩ = true) (h9 : b < 999999) : hasC 7 ⟨a, b, c, p⟩ ⟨a, b + 1, 0, []⟩ = false := by
  rw [has7, end_tilde h, if_pos h9]; simp only; rw [cmpV_self]; exact Bool.and_false _
theorem caret_min {a b c : Int} {p : Str} (h : Ver.right ⟨a, b, c, p⟩ = true) (h9 : b < 999999) : hasC 6 ⟨a, b, c, p⟩ ⟨a, b + 1, 0, []⟩ = (decide (0 < a) || (b == 0 && c == 999999)) := by
  have hn := right_nums h
  rw [has6, end_caret h, cmpV_up (cmp_min (show b < b + 1 by omega))]
  by_cases h1 : 0 < a
  · rw [if_pos h1, decide_eq_true h1]
    by_cases h2 : a < 999999
    · rw [if_pos h2]; simp only; rw [cmp_maj (by omega)]; rfl
    · rw [if_neg h2]; rfl
  · rw [if_neg h1, decide_eq_false h1]
    by_cases h2 : 0 < b
    · rw [if_pos h2, if_pos h9, show (b == 0) = false by rw [beq_eq_false_iff_ne]; omega]; simp only; rw [cmpV_self]; rfl
    · rw [if_neg h2, show (b == 0) = true by rw [beq_iff_eq]; omega]
      by_cases h3 : c < 999999
      · rw [if_pos h3, show (c == 999999) = false by rw [beq_eq_false_iff_ne]; omega]; simp only; rw [cmpV_up (cmp_min (by omega))]; rfl
      · rw [if_neg h3, show (c == 999999) = true by rw [beq_iff_eq]; omega]; rfl
/-- The next patch. -/
theorem tilde_pat {a b c : Int} (h : Ver.right ⟨a, b, c, []⟩ = true) : hasC 7 ⟨a, b, c, []⟩ ⟨a, b, c + 1, []⟩ = true := by
  rw [has7, end_tilde h, cmpV_up (cmp_pat (show c < c + 1 by omega))]
  by_cases h2 : b < 999999
  · rw [if_pos h2]; simp only; rw [cmp_min (by omega)]; rfl
  · rw [if_neg h2]; rfl
theorem caret_pat {a b c : Int} (h : Ver.right ⟨a, b, c, []⟩ = true) (h9 : c < 999999) : hasC 6 ⟨a, b, c, []⟩ ⟨a, b, c + 1, []⟩ = (decide (0 < a) || decide (0 < b)) := by
  rw [has6, end_caret h, cmpV_up (cmp_pat (show c < c + 1 by omega))]
  by_cases h1 : 0 < a
  · rw [if_pos h1, decide_eq_true h1]
    by_cases h2 : a < 999999
    · rw [if_pos h2]; simp only; rw [cmp_maj (by omega)]; rfl
    · rw [if_neg h2]; rfl
  · rw [if_neg h1, decide_eq_false h1]
    by_cases h2 : 0 < b
    · rw [if_pos h2, decide_eq_true h2]
      by_cases h3 : b < 999999
      · rw [if_pos h3]; simp only; rw [cmp_min (by omega)]; rfl
      · rw [if_neg h3]; rfl
    · rw [if_neg h2, decide_eq_false h2, if_pos h9]; simp only; rw [cmpV_self]; rfl
/-- Bump's answers. -/
theorem bump_maj {a b c : Int} {p : Str} (h : Ver.right ⟨a, b, c, p⟩ = true) : bumpR ⟨a, b, c, p⟩ 0 = if a < 999999 then .tuple #[verV (a + 1) 0 0 ⟨#[]⟩, .int .i64 0] else .tuple #[verV 0 0 0 ⟨#[]⟩, .int .i64 11] := by
  have hn := right_nums h
  have z : rightN 0 = true := rightN_of (by omega)
  have e : Ver.bump ⟨a, b, c, p⟩ 0 = ⟨a + 1, 0, 0, []⟩ := rfl
  unfold bumpR
  rw [if_pos ⟨h, by decide, by decide⟩, e, right3, z]
  by_cases h9 : a < 999999
  · rw [rightN_of (by omega), if_pos h9]; rfl
  · rw [rightN_not (by omega), if_neg h9]; rfl
theorem bump_min {a b c : Int} {p : Str} (h : Ver.right ⟨a, b, c, p⟩ = true) : bumpR ⟨a, b, c, p⟩ 1 = if b < 999999 then .tuple #[verV a (b + 1) 0 ⟨#[]⟩, .int .i64 0] else .tuple #[verV 0 0 0 ⟨#[]⟩, .int .i64 11] := by
  have hn := right_nums h
  have z : rightN 0 = true := rightN_of (by omega)
  have e : Ver.bump ⟨a, b, c, p⟩ 1 = ⟨a, b + 1, 0, []⟩ := rfl
  unfold bumpR
  rw [if_pos ⟨h, by decide, by decide⟩, e, right3, z, rightN_of hn.1]
  by_cases h9 : b < 999999
  · rw [rightN_of (by omega), if_pos h9]; rfl
  · rw [rightN_not (by omega), if_neg h9]; rfl
theorem bump_pat {a b c : Int} (h : Ver.right ⟨a, b, c, []⟩ = true) : bumpR ⟨a, b, c, []⟩ 2 = if c < 999999 then .tuple #[verV a b (c + 1) ⟨#[]⟩, .int .i64 0] else .tuple #[verV 0 0 0 ⟨#[]⟩, .int .i64 11] := by
  have hn := right_nums h
  have e : Ver.bump ⟨a, b, c, []⟩ 2 = ⟨a, b, c + 1, []⟩ := rfl
  unfold bumpR
  rw [if_pos ⟨h, by decide, by decide⟩, e, right3, rightN_of hn.1, rightN_of hn.2.1]
  by_cases h9 : c < 999999
  · rw [rightN_of (by omega), if_pos h9]; rfl
  · rw [rightN_not (by omega), if_neg h9]; rfl
theorem bump_ok {a b c : Int} {p : Str} (k : Int) : ∃ (x y z e : Int), bumpR ⟨a, b, c, p⟩ k = .tuple #[verV x y z ⟨#[]⟩, .int .i64 e] := by
  unfold bumpR
  by_cases h : Ver.right ⟨a, b, c, p⟩ = true ∧ 0 ≤ k ∧ k ≤ 2
  · rw [if_pos h]
    by_cases h2 : (Ver.bump ⟨a, b, c, p⟩ k).right = true
    · rw [if_pos h2]
      have hl := bump_len ⟨a, b, c, p⟩ k
      cases hv : Ver.bump ⟨a, b, c, p⟩ k with
      | mk x y z q => rw [hv] at hl; simp only at hl; subst hl; exact ⟨x, y, z, 0, rfl⟩
    · rw [if_neg h2]; exact ⟨0, 0, 0, 11, rfl⟩
  · rw [if_neg h]; exact ⟨0, 0, 0, 12, rfl⟩
end Go.Proofs.YtbmhjmdbolnbaaaDoor
