/-
  PURE: carets and tildes.
  PURE: the document's upper end is the program's.
  CONTRACT of the document's own package of layer 2: Upper.
  PURE: a caret and a tilde against what follows by bumping.
  CONTRACT of the document's own package of layer 2: one (printed by genrone.py).
-/
import Derived.Test.YtpnbbbhbbnemlaaGreatDoorRAnch
import Derived.Test.YtpnbbbhbbnemlaaGreatDoorSRefK
import Derived.Test.YtpnbbbhbbnemlaaGreatDoorInv
namespace SemP
open Go.Lib
theorem cmpV_lt {a b d : Ver} (h1 : cmpV a b < 0) (h2 : cmpV b d ≤ 0) : cmpV a d < 0 := by
  have r := cmpV_tot.range a d
  rcases r with r | r | r
  · omega
  · exfalso
    have h3 := (cmpV_tot.eq a d).1 r
    subst h3
    have := cmpV_tot.anti a b
    omega
  · exfalso
    have h3 := cmpV_tot.anti b d
    have h4 := cmpV_tot.trans' (a := a) (b := d) (d := b) (by omega) (by omega)
    omega
theorem cmpV_lt' {a b d : Ver} (h1 : cmpV a b < 0) (h2 : cmpV b d < 0) : cmpV a d < 0 := cmpV_lt h1 (by omega)
end SemP
namespace Go.Proofs.YtpnbbbhbbnemlaaGreatDoor
section
open Go.RowKit
open SemP
theorem cmp_maj {a b c a' b' c' : Int} {p q : Str} (h : a < a') : cmpV ⟨a, b, c, p⟩ ⟨a', b', c', q⟩ = -1 := by
  unfold cmpV; simp only; rw [cmp_lt h]; rfl
theorem cmp_min {a b c b' c' : Int} {p q : Str} (h : b < b') : cmpV ⟨a, b, c, p⟩ ⟨a, b', c', q⟩ = -1 := by
  unfold cmpV; simp only; rw [cmp_same, cmp_lt h]; rfl
set_option linter.unusedSimpArgs false
theorem hasR_one {x : CV} {v : Ver} (hx : x.right = true) (hv : v.right = true) : hasR [[x]] v = hasC x.op x.ver v := by
  unfold hasR rightR rightL hasL
  simp [hx, hv, rightL]
theorem cv_right {op a b c : Int} {s : ByteArray} (h : 0 < op ∧ op ≤ 7) (hv : Ver.right ⟨a, b, c, bs s⟩ = true) : CV.right ⟨op, a, b, c, s⟩ = true := by
  unfold CV.right
  rw [if_neg (by show op ≠ 0; omega)]
  show (decide (0 < op) && decide (op ≤ 7) && Ver.right ⟨a, b, c, bs s⟩) = true
  rw [hv, decide_eq_true h.1, decide_eq_true h.2]; rfl
theorem right3 {a b c : Int} : Ver.right ⟨a, b, c, []⟩ = (rightN a && rightN b && rightN c) := by unfold Ver.right; simp
theorem rightN_of {n : Int} (h : 0 ≤ n ∧ n ≤ 999999) : rightN n = true := by unfold rightN; simp; omega
theorem rightN_not {n : Int} (h : ¬ (0 ≤ n ∧ n ≤ 999999)) : rightN n = false := by unfold rightN; simp; omega
theorem right_nums {a b c : Int} {p : Str} (h : Ver.right ⟨a, b, c, p⟩ = true) : (0 ≤ a ∧ a ≤ 999999) ∧ (0 ≤ b ∧ b ≤ 999999) ∧ (0 ≤ c ∧ c ≤ 999999) := by
  unfold Ver.right rightN at h
  simp at h
  omega
/-- The upper ends, said outright. -/
theorem end_of {op a b c : Int} {p : Str} {e : Ver} (h : Ver.right ⟨a, b, c, p⟩ = true) (hp : Ver.bump ⟨a, b, c, []⟩ (partOf op ⟨a, b, c, p⟩) = e) : endR op ⟨a, b, c, p⟩ = if e.right = true then some e else none := by
  have hn := right_nums h
  have h0 : Ver.right ⟨a, b, c, []⟩ = true := by rw [right3, rightN_of hn.1, rightN_of hn.2.1, rightN_of hn.2.2]; rfl
  unfold endR
  simp only [hp]
  by_cases he : e.right = true
  · rw [if_pos ⟨h0, he⟩, if_pos he]
  · rw [if_neg (fun h => he h.2), if_neg he]
theorem end_tilde {a b c : Int} {p : Str} (h : Ver.right ⟨a, b, c, p⟩ = true) : endR 7 ⟨a, b, c, p⟩ = if b < 999999 then some ⟨a, b + 1, 0, []⟩ else none := by
  have hn := right_nums h
  rw [end_of (e := ⟨a, b + 1, 0, []⟩) h rfl, right3, rightN_of hn.1]
  by_cases hb : b < 999999
  · rw [rightN_of (by omega), rightN_of (show (0 : Int) ≤ 0 ∧ (0 : Int) ≤ 999999 by omega), if_pos hb]; rfl
  · rw [rightN_not (by omega), if_neg hb]; rfl
theorem end_caret {a b c : Int} {p : Str} (h : Ver.right ⟨a, b, c, p⟩ = true) : endR 6 ⟨a, b, c, p⟩ =
    if 0 < a then (if a < 999999 then some ⟨a + 1, 0, 0, []⟩ else none) else if 0 < b then (if b < 999999 then some ⟨a, b + 1, 0, []⟩ else none) else (if c < 999999 then some ⟨a, b, c + 1, []⟩ else none) := by
  have hn := right_nums h
  have z : rightN 0 = true := rightN_of (by omega)
  by_cases ha : 0 < a
  · have hp : partOf 6 ⟨a, b, c, p⟩ = 0 := by unfold partOf; rw [if_neg (by decide), if_pos ha]
    rw [end_of (e := ⟨a + 1, 0, 0, []⟩) h (by rw [hp]; rfl), if_pos ha, right3, z]
    by_cases h9 : a < 999999
    · rw [rightN_of (by omega), if_pos h9]; rfl
    · rw [rightN_not (by omega), if_neg h9]; rfl
  · rw [if_neg ha]
    by_cases hb : 0 < b
    · have hp : partOf 6 ⟨a, b, c, p⟩ = 1 := by unfold partOf; rw [if_neg (by decide), if_neg ha, if_pos hb]
      rw [end_of (e := ⟨a, b + 1, 0, []⟩) h (by rw [hp]; rfl), if_pos hb, right3, z, rightN_of hn.1]
      by_cases h9 : b < 999999
      · rw [rightN_of (by omega), if_pos h9]; rfl
      · rw [rightN_not (by omega), if_neg h9]; rfl
    · have hp : partOf 6 ⟨a, b, c, p⟩ = 2 := by unfold partOf; rw [if_neg (by decide), if_neg ha, if_neg hb]
      rw [end_of (e := ⟨a, b, c + 1, []⟩) h (by rw [hp]; rfl), if_neg hb, right3, rightN_of hn.1, rightN_of hn.2.1]
      by_cases h9 : c < 999999
      · rw [rightN_of (by omega), if_pos h9]; rfl
      · rw [rightN_not (by omega), if_neg h9]; rfl
theorem has6 (c v : Ver) : hasC 6 c v = (decide (0 ≤ cmpV v c) && (match endR 6 c with
    | none => true
    | some e => decide (cmpV v e < 0))) := rfl
theorem has7 (c v : Ver) : hasC 7 c v = (decide (0 ≤ cmpV v c) && (match endR 7 c with
    | none => true
    | some e => decide (cmpV v e < 0))) := rfl
theorem tilde_caret {a b c : Int} {p : Str} {w : Ver} (h : Ver.right ⟨a, b, c, p⟩ = true) (ha : 0 < a) (hb : b < 999999) (ht : hasC 7 ⟨a, b, c, p⟩ w = true) : hasC 6 ⟨a, b, c, p⟩ w = true := by
  rw [has7, end_tilde h, if_pos hb] at ht
  rw [has6, end_caret h, if_pos ha]
  rw [Bool.and_eq_true] at ht
  simp only [decide_eq_true_eq] at ht
  rw [decide_eq_true ht.1, Bool.true_and]
  by_cases h9 : a < 999999
  · rw [if_pos h9]
    exact decide_eq_true (cmpV_lt' ht.2 (by rw [cmp_maj (by omega)]; decide))
  · rw [if_neg h9]
theorem caret_tilde {a b c : Int} {p : Str} {w : Ver} (h : Ver.right ⟨a, b, c, p⟩ = true) (ha : ¬ 0 < a) (hc : c ≠ 999999) (ht : hasC 6 ⟨a, b, c, p⟩ w = true) : hasC 7 ⟨a, b, c, p⟩ w = true := by
  have hn := right_nums h
  rw [has6, end_caret h, if_neg ha] at ht
  rw [has7, end_tilde h]
  by_cases hb : 0 < b
  · rw [if_pos hb] at ht; exact ht
  · rw [if_neg hb, if_pos (show c < 999999 by omega)] at ht
    rw [if_pos (show b < 999999 by omega)]
    rw [Bool.and_eq_true] at ht
    simp only [decide_eq_true_eq] at ht
    rw [decide_eq_true ht.1, Bool.true_and]
    exact decide_eq_true (cmpV_lt' ht.2 (by rw [cmp_min (by omega)]; decide))
end
section
open Go.RowKit
open SemP
set_option linter.unusedSimpArgs false
/-- The version that the document's Upper makes. -/
def upV (op a b c : Int) : Int × Int × Int := if op = 6 ∧ 0 < a then (a + 1, 0, 0) else if op = 6 ∧ b = 0 then (0, 0, c + 1) else (a, b + 1, 0)
theorem up_endR {op a b c : Int} {p : Str} (h : Ver.right ⟨a, b, c, p⟩ = true) (ho : op = 6 ∨ op = 7) :
    endR op ⟨a, b, c, p⟩ = if Ver.right ⟨(upV op a b c).1, (upV op a b c).2.1, (upV op a b c).2.2, []⟩ = true then some ⟨(upV op a b c).1, (upV op a b c).2.1, (upV op a b c).2.2, []⟩ else none := by
  have hn := right_nums h
  have z : rightN 0 = true := rightN_of (by omega)
  rcases ho with rfl | rfl
  · rw [end_caret h]
    unfold upV
    by_cases ha : 0 < a
    · rw [if_pos ha, if_pos (show (6 : Int) = 6 ∧ 0 < a from ⟨rfl, ha⟩)]
      simp only
      rw [right3, z]
      by_cases h9 : a < 999999
      · rw [rightN_of (by omega), if_pos h9]; rfl
      · rw [rightN_not (by omega), if_neg h9]; rfl
    · rw [if_neg ha, if_neg (show ¬ ((6 : Int) = 6 ∧ 0 < a) from fun h => ha h.2)]
      by_cases hb : 0 < b
      · rw [if_pos hb, if_neg (show ¬ ((6 : Int) = 6 ∧ b = 0) from fun h => by have := h.2; omega)]
        simp only
        rw [right3, z, rightN_of hn.1]
        by_cases h9 : b < 999999
        · rw [rightN_of (by omega), if_pos h9]; rfl
        · rw [rightN_not (by omega), if_neg h9]; rfl
      · have hb0 : b = 0 := by omega
        have ha0 : a = 0 := by omega
        subst hb0 ha0
        rw [if_neg hb, if_pos (show (6 : Int) = 6 ∧ (0 : Int) = 0 from ⟨rfl, rfl⟩)]
        simp only
        rw [right3, z]
        by_cases h9 : c < 999999
        · rw [rightN_of (by omega), if_pos h9]; rfl
        · rw [rightN_not (by omega), if_neg h9]; rfl
  · rw [end_tilde h]
    unfold upV
    rw [if_neg (show ¬ ((7 : Int) = 6 ∧ 0 < a) from fun h => absurd h.1 (by decide)), if_neg (show ¬ ((7 : Int) = 6 ∧ b = 0) from fun h => absurd h.1 (by decide))]
    simp only
    rw [right3, z, rightN_of hn.1]
    by_cases h9 : b < 999999
    · rw [rightN_of (by omega), if_pos h9]; rfl
    · rw [rightN_not (by omega), if_neg h9]; rfl
end
section
open Go.RowKit
open SemP
set_option linter.unusedVariables false
set_option linter.unusedSimpArgs false
set_option maxRecDepth 100000
structure UpSt (w : World) (x y z : Int) (r : Bool) (b0 b1 b2 b3 b4 : Bool) (v3 v41 v42 v43 : Value) (w' : World) : Prop where
  bel : Below w.heap.size w w'
  u : At4 w' (w.heap.size + 1 + 1) x y z ⟨#[]⟩
  z4 : b3 = false → At4 w' (w.heap.size + 1) 0 0 0 ⟨#[]⟩
  h0 : b0 = true → v41 = verV x y z ⟨#[]⟩
  h1 : b1 = true → v42 = verV x y z ⟨#[]⟩
  h2 : b2 = true → v43 = .bool r
  h3 : b3 = true → At4 w' (w.heap.size + 1) x y z ⟨#[]⟩
  h4 : b4 = true → v3 = .bool r
inductive UpJ (w : World) (x y z : Int) (r : Bool) (p0 p1 p2 p4 p5 p6 p7 p8 p9 p10 p11 p12 p13 p14 p15 p16 p17 p18 p19 p20 p21 p22 p23 p24 p25 p26 p27 p28 p29 p30 p31 p32 p33 p34 p35 p36 p37 p38 p39 p40 : Value) : Array Bool → Act → World → Prop where
  | mk (b0 b1 b2 b3 b4 : Bool) (v3 v41 v42 v43 : Value) (w' : World) : UpSt w x y z r b0 b1 b2 b3 b4 v3 v41 v42 v43 w' → UpJ w x y z r p0 p1 p2 p4 p5 p6 p7 p8 p9 p10 p11 p12 p13 p14 p15 p16 p17 p18 p19 p20 p21 p22 p23 p24 p25 p26 p27 p28 p29 p30 p31 p32 p33 p34 p35 p36 p37 p38 p39 p40 #[b0, b1, b2, b3, b4] { tmps := List.toArray (p0 :: p1 :: p2 :: v3 :: p4 :: p5 :: p6 :: p7 :: p8 :: p9 :: p10 :: p11 :: p12 :: p13 :: p14 :: p15 :: p16 :: p17 :: p18 :: p19 :: p20 :: p21 :: p22 :: p23 :: p24 :: p25 :: p26 :: p27 :: p28 :: p29 :: p30 :: p31 :: p32 :: p33 :: p34 :: p35 :: p36 :: p37 :: p38 :: p39 :: p40 :: v41 :: v42 :: v43 :: []), defers := [] } w'
theorem At4.drew {w : World} {g : Nat} {a b c : Int} {s : ByteArray} (h : At4 w g a b c s) : At4 w.drew g a b c s := h.block rfl
end
section
open Go.RowKit
open SemP
set_option linter.unusedSimpArgs false
theorem cmp_pat {a b c c' : Int} {p q : Str} (h : c < c') : cmpV ⟨a, b, c, p⟩ ⟨a, b, c', q⟩ = -1 := by
  unfold cmpV; simp only; rw [cmp_same, cmp_same, cmp_lt h]; rfl
theorem cmpV_up {a b : Ver} (h : cmpV b a = -1) : cmpV a b = 1 := by have := cmpV_tot.anti a b; omega
theorem cmpV_self (a : Ver) : cmpV a a = 0 := (cmpV_tot.eq a a).2 rfl
theorem has_caret {a b c : Int} {p : Str} (h : Ver.right ⟨a, b, c, p⟩ = true) : hasC 6 ⟨a, b, c, p⟩ ⟨a, b, c, p⟩ = true := by
  rw [has6, end_caret h, cmpV_self]
  by_cases h1 : 0 < a
  · rw [if_pos h1]
    by_cases h2 : a < 999999
    · rw [if_pos h2]; simp only; rw [cmp_maj (by omega)]; rfl
    · rw [if_neg h2]; rfl
  · rw [if_neg h1]
    by_cases h2 : 0 < b
    · rw [if_pos h2]
      by_cases h3 : b < 999999
      · rw [if_pos h3]; simp only; rw [cmp_min (by omega)]; rfl
      · rw [if_neg h3]; rfl
    · rw [if_neg h2]
      by_cases h3 : c < 999999
      · rw [if_pos h3]; simp only; rw [cmp_pat (by omega)]; rfl
      · rw [if_neg h3]; rfl
theorem has_tilde {a b c : Int} {p : Str} (h : Ver.right ⟨a, b, c, p⟩ = true) : hasC 7 ⟨a, b, c, p⟩ ⟨a, b, c, p⟩ = true := by
  rw [has7, end_tilde h, cmpV_self]
  by_cases h2 : b < 999999
  · rw [if_pos h2]; simp only; rw [cmp_min (by omega)]; rfl
  · rw [if_neg h2]; rfl
/-- The next major. -/
theorem caret_maj {a b c : Int} {p : Str} (h : Ver.right ⟨a, b, c, p⟩ = true) (ha : 0 < a) (h9 : a < 999999) : hasC 6 ⟨a, b, c, p⟩ ⟨a + 1, 0, 0, []⟩ = false := by
  rw [has6, end_caret h, if_pos ha, if_pos h9]; simp only; rw [cmpV_self]; exact Bool.and_false _
theorem tilde_maj {a b c : Int} {p : Str} (h : Ver.right ⟨a, b, c, p⟩ = true) (h9 : b < 999999) : hasC 7 ⟨a, b, c, p⟩ ⟨a + 1, 0, 0, []⟩ = false := by
  rw [has7, end_tilde h, if_pos h9]; simp only; rw [show cmpV ⟨a + 1, 0, 0, []⟩ ⟨a, b + 1, 0, []⟩ = 1 from cmpV_up (cmp_maj (by omega))]; exact Bool.and_false _
/-- The next minor. -/
theorem tilde_min {a b c : Int} {p : Str} (h : Ver.right ⟨a, b, c, p⟩ = true) (h9 : b < 999999) : hasC 7 ⟨a, b, c, p⟩ ⟨a, b + 1, 0, []⟩ = false := by
  rw [has7, end_tilde h, if_pos h9]; simp only; rw [cmpV_self]; exact Bool.and_false _
theorem caret_min {a b c : Int} {p : Str} (h : Ver.right ⟨a, b, c, p⟩ = true) (h9 : b < 999999) : hasC 6 ⟨a, b, c, p⟩ ⟨a, b + 1, 0, []⟩ = (decide (0 < a) || (b == 0 && c == 999999)) := by
  have hn := right_nums h
  rw [has6, end_caret h, cmpV_up (cmp_min (show b < b + 1 by omega))]
  by_cases h1 : 0 < a
  · rw [if_pos h1, decide_eq_true h1]
    by_cases h2 : a < 999999
    · rw [if_pos h2]; simp only; rw [cmp_maj (by omega)]; rfl
    · rw [if_neg h2]; rfl
  · rw [if_neg h1, decide_eq_false h1]
    by_cases h2 : 0 < b
    · rw [if_pos h2, if_pos h9, show (b == 0) = false by rw [beq_eq_false_iff_ne]; omega]; simp only; rw [cmpV_self]; rfl
    · rw [if_neg h2, show (b == 0) = true by rw [beq_iff_eq]; omega]
      by_cases h3 : c < 999999
      · rw [if_pos h3, show (c == 999999) = false by rw [beq_eq_false_iff_ne]; omega]; simp only; rw [cmpV_up (cmp_min (by omega))]; rfl
      · rw [if_neg h3, show (c == 999999) = true by rw [beq_iff_eq]; omega]; rfl
/-- The next patch. -/
theorem tilde_pat {a b c : Int} (h : Ver.right ⟨a, b, c, []⟩ = true) : hasC 7 ⟨a, b, c, []⟩ ⟨a, b, c + 1, []⟩ = true := by
  rw [has7, end_tilde h, cmpV_up (cmp_pat (show c < c + 1 by omega))]
  by_cases h2 : b < 999999
  · rw [if_pos h2]; simp only; rw [cmp_min (by omega)]; rfl
  · rw [if_neg h2]; rfl
theorem caret_pat {a b c : Int} (h : Ver.right ⟨a, b, c, []⟩ = true) (h9 : c < 999999) : hasC 6 ⟨a, b, c, []⟩ ⟨a, b, c + 1, []⟩ = (decide (0 < a) || decide (0 < b)) := by
  rw [has6, end_caret h, cmpV_up (cmp_pat (show c < c + 1 by omega))]
  by_cases h1 : 0 < a
  · rw [if_pos h1, decide_eq_true h1]
    by_cases h2 : a < 999999
    · rw [if_pos h2]; simp only; rw [cmp_maj (by omega)]; rfl
    · rw [if_neg h2]; rfl
  · rw [if_neg h1, decide_eq_false h1]
    by_cases h2 : 0 < b
    · rw [if_pos h2, decide_eq_true h2]
      by_cases h3 : b < 999999
      · rw [if_pos h3]; simp only; rw [cmp_min (by omega)]; rfl
      · rw [if_neg h3]; rfl
    · rw [if_neg h2, decide_eq_false h2, if_pos h9]; simp only; rw [cmpV_self]; rfl
/-- Bump's answers. -/
theorem bump_maj {a b c : Int} {p : Str} (h : Ver.right ⟨a, b, c, p⟩ = true) : bumpR ⟨a, b, c, p⟩ 0 = if a < 999999 then .tuple #[verV (a + 1) 0 0 ⟨#[]⟩, .int .i64 0] else .tuple #[verV 0 0 0 ⟨#[]⟩, .int .i64 11] := by
  have hn := right_nums h
  have z : rightN 0 = true := rightN_of (by omega)
  have e : Ver.bump ⟨a, b, c, p⟩ 0 = ⟨a + 1, 0, 0, []⟩ := rfl
  unfold bumpR
  rw [if_pos ⟨h, by decide, by decide⟩, e, right3, z]
  by_cases h9 : a < 999999
  · rw [rightN_of (by omega), if_pos h9]; rfl
  · rw [rightN_not (by omega), if_neg h9]; rfl
theorem bump_min {a b c : Int} {p : Str} (h : Ver.right ⟨a, b, c, p⟩ = true) : bumpR ⟨a, b, c, p⟩ 1 = if b < 999999 then .tuple #[verV a (b + 1) 0 ⟨#[]⟩, .int .i64 0] else .tuple #[verV 0 0 0 ⟨#[]⟩, .int .i64 11] := by
  have hn := right_nums h
  have z : rightN 0 = true := rightN_of (by omega)
  have e : Ver.bump ⟨a, b, c, p⟩ 1 = ⟨a, b + 1, 0, []⟩ := rfl
  unfold bumpR
  rw [if_pos ⟨h, by decide, by decide⟩, e, right3, z, rightN_of hn.1]
  by_cases h9 : b < 999999
  · rw [rightN_of (by omega), if_pos h9]; rfl
  · rw [rightN_not (by omega), if_neg h9]; rfl
theorem bump_pat {a b c : Int} (h : Ver.right ⟨a, b, c, []⟩ = true) : bumpR ⟨a, b, c, []⟩ 2 = if c < 999999 then .tuple #[verV a b (c + 1) ⟨#[]⟩, .int .i64 0] else .tuple #[verV 0 0 0 ⟨#[]⟩, .int .i64 11] := by
  have hn := right_nums h
  have e : Ver.bump ⟨a, b, c, []⟩ 2 = ⟨a, b, c + 1, []⟩ := rfl
  unfold bumpR
  rw [if_pos ⟨h, by decide, by decide⟩, e, right3, rightN_of hn.1, rightN_of hn.2.1]
  by_cases h9 : c < 999999
  · rw [rightN_of (by omega), if_pos h9]; rfl
  · rw [rightN_not (by omega), if_neg h9]; rfl
theorem bump_ok {a b c : Int} {p : Str} (k : Int) : ∃ (x y z e : Int), bumpR ⟨a, b, c, p⟩ k = .tuple #[verV x y z ⟨#[]⟩, .int .i64 e] := by
  unfold bumpR
  by_cases h : Ver.right ⟨a, b, c, p⟩ = true ∧ 0 ≤ k ∧ k ≤ 2
  · rw [if_pos h]
    by_cases h2 : (Ver.bump ⟨a, b, c, p⟩ k).right = true
    · rw [if_pos h2]
      have hl := bump_len ⟨a, b, c, p⟩ k
      cases hv : Ver.bump ⟨a, b, c, p⟩ k with
      | mk x y z q => rw [hv] at hl; simp only at hl; subst hl; exact ⟨x, y, z, 0, rfl⟩
    · rw [if_neg h2]; exact ⟨0, 0, 0, 11, rfl⟩
  · rw [if_neg h]; exact ⟨0, 0, 0, 12, rfl⟩
end
section
open Go.RowKit
open SemP
set_option linter.unusedVariables false
set_option linter.unusedSimpArgs false
set_option maxRecDepth 100000
theorem cv_ver {x : CV} (h : x.right = true) : x.ver.right = true ∧ 0 ≤ x.op ∧ x.op ≤ 7 := by
  unfold CV.right at h
  by_cases h0 : x.op = 0
  · rw [if_pos h0] at h
    have h := of_decide_eq_true h
    obtain ⟨h1, h2, h3, h4⟩ := h
    refine ⟨?_, by omega, by omega⟩
    unfold CV.ver
    rw [h1, h2, h3, h4]; rfl
  · rw [if_neg h0] at h
    simp only [Bool.and_eq_true, decide_eq_true_eq] at h
    exact ⟨h.2, by omega, by omega⟩
theorem dec_iff {p q : Prop} [Decidable p] [Decidable q] (h : p ↔ q) : decide p = decide q := decide_eq_decide.2 h
end
end Go.Proofs.YtpnbbbhbbnemlaaGreatDoor
