/-
  PURE: the document's upper end is the program's.
-/
import Derived.Test.YtbmhjmdbolnbaaaDoorRTilP
import Derived.Test.YtbmhjmdbolnbaaaDoorSRefK
namespace Go.Proofs.YtbmhjmdbolnbaaaDoor
open Go.RowKit
open SemP
set_option linter.unusedSimpArgs false
/-- The version that the document's Upper makes. -/
def upV (op a b c : Int) : Int × Int × Int := if op = 6 ∧ 0 < a then (a + 1, 0, 0) else if op = 6 ∧ b = 0 then (0, 0, c + 1) else (a, b + 1, 0)
theorem up_endR {op a b c : Int} {p : Str} (h : Ver.right ⟨a, b, c, p⟩ = true) (ho : op = 6 ∨ op = 7) :
    endR op ⟨a, b, c, p⟩ = if Ver.right ⟨(upV op a b c).1, (upV op a b c).2.1, (upV op a b c).2.2, []⟩ = true then some ⟨(upV op a b c).1, (upV op a b c).2.1, (upV op a b c).2.2, []⟩ else none := by
  have hn := right_nums h
  have z : rightN 0 = true := rightN_of (by omega)
  rcases ho with rfl | rfl
  · rw [end_caret h]
    unfold upV
    by_cases ha : 0 < a
    · rw [if_pos ha, if_pos (show (6 : Int) = 6 ∧ 0 < a from ⟨rfl, ha⟩)]
      simp only
      rw [right3, z]
      by_cases h9 : a < 999999
      · rw [rightN_of (by omega), if_pos h9]; rfl
      · rw [rightN_not (by omega), if_neg h9]; rfl
    · rw [if_neg ha, if_neg (show ¬ ((6 : Int) = 6 ∧ 0 < a) from fun h => ha h.2)]
      by_cases hb : 0 < b
      · rw [if_pos hb, if_neg (show ¬ ((6 : Int) = 6 ∧ b = 0) from fun h => by have := h.2; omega)]
        simp only
        rw [right3, z, rightN_of hn.1]
        by_cases h9 : b < 999999
        · rw [rightN_of (by omega), if_pos h9]; rfl
        · rw [rightN_not (by omega), if_neg h9]; rfl
      · have hb0 : b = 0 := by omega
        have ha0 : a = 0 := by omega
        subst hb0 ha0
        rw [if_neg hb, if_pos (show (6 : Int) = 6 ∧ (0 : Int) = 0 from ⟨rfl, rfl⟩)]
        simp only
        rw [right3, z]
        by_cases h9 : c < 999999
        · rw [rightN_of (by omega), if_pos h9]; rfl
        · rw [rightN_not (by omega), if_neg h9]; rfl
  · rw [end_tilde h]
    unfold upV
    rw [if_neg (show ¬ ((7 : Int) = 6 ∧ 0 < a) from fun h => absurd h.1 (by decide)), if_neg (show ¬ ((7 : Int) = 6 ∧ b = 0) from fun h => absurd h.1 (by decide))]
    simp only
    rw [right3, z, rightN_of hn.1]
    by_cases h9 : b < 999999
    · rw [rightN_of (by omega), if_pos h9]; rfl
    · rw [rightN_not (by omega), if_neg h9]; rfl
end Go.Proofs.YtbmhjmdbolnbaaaDoor
