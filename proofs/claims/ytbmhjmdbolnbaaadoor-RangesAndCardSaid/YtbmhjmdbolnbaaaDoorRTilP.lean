/-
  PURE: carets and tildes.
-/
import Derived.Test.YtbmhjmdbolnbaaaDoorRAnch
namespace SemP
open Go.Lib
theorem cmpV_lt {a b d : Ver} (h1 : cmpV a b < 0) (h2 : cmpV b d ≤ 0) : cmpV a d < 0 := by
  have r := cmpV_tot.range a d
  rcases r with r | r | r
  · omega
  · exfalso
    have h3 := (cmpV_tot.eq a d).1 r
    subst h3
    have := cmpV_tot.anti a b
    omega
  · exfalso
    have h3 := cmpV_tot.anti b d
    have h4 := cmpV_tot.trans' (a := a) (b := d) (d := b) (by omega) (by omega)
    omega
theorem cmpV_lt' {a b d : Ver} (h1 : cmpV a b < 0) (h2 : cmpV b d < 0) : cmpV a d < 0 := cmpV_lt h1 (by omega)
end SemP
namespace Go.Proofs.YtbmhjmdbolnbaaaDoor
open Go.RowKit
open SemP
theorem cmp_maj {a b c a' b' c' : Int} {p q : Str} (h : a < a') : cmpV ⟨a, b, c, p⟩ ⟨a', b', c', q⟩ = -1 := by
  unfold cmpV; simp only; rw [cmp_lt h]; rfl
theorem cmp_min {a b c b' c' : Int} {p q : Str} (h : b < b') : cmpV ⟨a, b, c, p⟩ ⟨a, b', c', q⟩ = -1 := by
  unfold cmpV; simp only; rw [cmp_same, cmp_lt h]; rfl
set_option linter.unusedSimpArgs false
theorem hasR_one {x : CV} {v : Ver} (hx : x.right = true) (hv : v.right = true) : hasR [[x]] v = hasC x.op x.ver v := by
  unfold hasR rightR rightL hasL
  simp [hx, hv, rightL]
theorem cv_right {op a b c : Int} {s : ByteArray} (h : 0 < op ∧ op ≤ 7) (hv : Ver.right ⟨a, b, c, bs s⟩ = true) : CV.right ⟨op, a, b, c, s⟩ = true := by
  unfold CV.right
  rw [if_neg (by show op ≠ 0; omega)]
  show (decide (0 < op) && decide (op ≤ 7) && Ver.right ⟨a, b, c, bs s⟩) = true
  rw [hv, decide_eq_true h.1, decide_eq_true h.2]; rfl
theorem right3 {a b c : Int} : Ver.right ⟨a, b, c, []⟩ = (rightN a && rightN b && rightN c) := by unfold Ver.right; simp
theorem rightN_of {n : Int} (h : 0 ≤ n ∧ n ≤ 999999) : rightN n = true := by unfold rightN; simp; omega
theorem rightN_not {n : Int} (h : ¬ (0 ≤ n ∧ n ≤ 999999)) : rightN n = false := by unfold rightN; simp; omega
theorem right_nums {a b c : Int} {p : Str} (h : Ver.right ⟨a, b, c, p⟩ = true) : (0 ≤ a ∧ a ≤ 999999) ∧ (0 ≤ b ∧ b ≤ 999999) ∧ (0 ≤ c ∧ c ≤ 999999) := by
  unfold Ver.right rightN at h
  simp at h
  omega
/-- The upper ends, said outright. -/
theorem end_of {op a b c : Int} {p : Str} {e : Ver} (h : Ver.right ⟨a, b, c, p⟩ = true) (hp : Ver.bump ⟨a, b, c, []⟩ (partOf op ⟨a, b, c, p⟩) = e) : endR op ⟨a, b, c, p⟩ = if e.right = true then some e else none := by
  have hn := right_nums h
  have h0 : Ver.right ⟨a, b, c, []⟩ = true := by rw [right3, rightN_of hn.1, rightN_of hn.2.1, rightN_of hn.2.2]; rfl
  unfold endR
  simp only [hp]
  by_cases he : e.right = true
  · rw [if_pos ⟨h0, he⟩, if_pos he]
  · rw [if_neg (fun h => he h.2), if_neg he]
theorem end_tilde {a b c : Int} {p : Str} (h : Ver.right ⟨a, b, c, p⟩ = true) : endR 7 ⟨a, b, c, p⟩ = if b < 999999 then some ⟨a, b + 1, 0, []⟩ else none := by
  have hn := right_nums h
  rw [end_of (e := ⟨a, b + 1, 0, []⟩) h rfl, right3, rightN_of hn.1]
  by_cases hb : b < 999999
  · rw [rightN_of (by omega), rightN_of (show (0 : Int) ≤ 0 ∧ (0 : Int) ≤ 999999 by omega), if_pos hb]; rfl
  · rw [rightN_not (by omega), if_neg hb]; rfl
theorem end_caret {a b c : Int} {p : Str} (h : Ver.right ⟨a, b, c, p⟩ = true) : endR 6 ⟨a, b, c, p⟩ =
    if 0 < a then (if a < 999999 then some ⟨a + 1, 0, 0, []⟩ else none) else if 0 < b then (if b < 999999 then some ⟨a, b + 1, 0, []⟩ else none) else (if c < 999999 then some ⟨a, b, c + 1, []⟩ else none) := by
  have hn := right_nums h
  have z : rightN 0 = true := rightN_of (by omega)
  by_cases ha : 0 < a
  · have hp : partOf 6 ⟨a, b, c, p⟩ = 0 := by unfold partOf; rw [if_neg (by decide), if_pos ha]
    rw [end_of (e := ⟨a + 1, 0, 0, []⟩) h (by rw [hp]; rfl), if_pos ha, right3, z]
    by_cases h9 : a < 999999
    · rw [rightN_of (by omega), if_pos h9]; rfl
    · rw [rightN_not (by omega), if_neg h9]; rfl
  · rw [if_neg ha]
    by_cases hb : 0 < b
    · have hp : partOf 6 ⟨a, b, c, p⟩ = 1 := by unfold partOf; rw [if_neg (by decide), if_neg ha, if_pos hb]
      rw [end_of (e := ⟨a, b + 1, 0, []⟩) h (by rw [hp]; rfl), if_pos hb, right3, z, rightN_of hn.1]
      by_cases h9 : b < 999999
      · rw [rightN_of (by omega), if_pos h9]; rfl
      · rw [rightN_not (by omega), if_neg h9]; rfl
    · have hp : partOf 6 ⟨a, b, c, p⟩ = 2 := by unfold partOf; rw [if_neg (by decide), if_neg ha, if_neg hb]
      rw [end_of (e := ⟨a, b, c + 1, []⟩) h (by rw [hp]; rfl), if_neg hb, right3, rightN_of hn.1, rightN_of hn.2.1]
      by_cases h9 : c < 999999
      · rw [rightN_of (by omega), if_pos h9]; rfl
      · rw [rightN_not (by omega), if_neg h9]; rfl
theorem has6 (c v : Ver) : hasC 6 c v = (decide (0 ≤ cmpV v c) && (match endR 6 c with
    | none => true
    | some e => decide (cmpV v e < 0))) := rfl
theorem has7 (c v : Ver) : hasC 7 c v = (decide (0 ≤ cmpV v c) && (match endR 7 c with
    | none => true
    | some e => decide (cmpV v e < 0))) := rfl
theorem tilde_caret {a b c : Int} {p : Str} {w : Ver} (h : Ver.right ⟨a, b, c, p⟩ = true) (ha : 0 < a) (hb : b < 999999) (ht : hasC 7 ⟨a, b, c, p⟩ w = true) : hasC 6 ⟨a, b, c, p⟩ w = true := by
  rw [has7, end_tilde h, if_pos hb] at ht
  rw [has6, end_caret h, if_pos ha]
  rw [Bool.and_eq_true] at ht
  simp only [decide_eq_true_eq] at ht
  rw [decide_eq_true ht.1, Bool.true_and]
  by_cases h9 : a < 999999
  · rw [if_pos h9]
    exact decide_eq_true (cmpV_lt' ht.2 (by rw [cmp_maj (by omega)]; decide))
  · rw [if_neg h9]
theorem caret_tilde {a b c : Int} {p : Str} {w : Ver} (h : Ver.right ⟨a, b, c, p⟩ = true) (ha : ¬ 0 < a) (hc : c ≠ 999999) (ht : hasC 6 ⟨a, b, c, p⟩ w = true) : hasC 7 ⟨a, b, c, p⟩ w = true := by
  have hn := right_nums h
  rw [has6, end_caret h, if_neg ha] at ht
  rw [has7, end_tilde h]
  by_cases hb : 0 < b
  · rw [if_pos hb] at ht; exact ht
  · rw [if_neg hb, if_pos (show c < 999999 by omega)] at ht
    rw [if_pos (show b < 999999 by omega)]
    rw [Bool.and_eq_true] at ht
    simp only [decide_eq_true_eq] at ht
    rw [decide_eq_true ht.1, Bool.true_and]
    exact decide_eq_true (cmpV_lt' ht.2 (by rw [cmp_min (by omega)]; decide))
end Go.Proofs.YtbmhjmdbolnbaaaDoor
