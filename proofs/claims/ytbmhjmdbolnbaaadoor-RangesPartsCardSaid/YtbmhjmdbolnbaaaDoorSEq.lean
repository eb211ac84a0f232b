/-
  Two versions compared.
-/
import Derived.Test.YtbmhjmdbolnbaaaDoorSRefR
namespace Go.Proofs.YtbmhjmdbolnbaaaDoor
open Go.RowKit
open SemP
set_option linter.unusedVariables false
set_option linter.unusedSimpArgs false
set_option maxRecDepth 100000
theorem toL_inj {s t : ByteArray} (e : s.toList = t.toList) : s = t := by
  rw [ByteArray.toList_eq, ByteArray.toList_eq] at e
  cases s; cases t
  simp at e
  congr 1
def verEq (a b c : Int) (s : ByteArray) (a' b' c' : Int) (s' : ByteArray) : Bool := decide (a = a' ∧ b = b' ∧ c = c' ∧ s = s')
theorem verEq_false {a b c a' b' c' : Int} {s s' : ByteArray} (h : ¬ (a = a' ∧ b = b' ∧ c = c' ∧ s = s')) : verEq a b c s a' b' c' s' = false := decide_eq_false h
theorem verEq_true (a b c : Int) (s : ByteArray) : verEq a b c s a b c s = true := decide_eq_true ⟨rfl, rfl, rfl, rfl⟩
theorem eqVer (w : World) (a b c : Int) (s : ByteArray) (a' b' c' : Int) (s' : ByteArray) : (Op.equalIn 10000 25 (.agg #[.int .i64 a, .int .i64 b, .int .i64 c, .string s]) (.agg #[.int .i64 a', .int .i64 b', .int .i64 c', .string s'])).run Tryd.prog w = .ok (verEq a b c s a' b' c' s') w := by
  unfold verEq
  rw [show (10000 : Nat) = 9999 + 1 from rfl]
  go_simp
  by_cases h1 : a = a'
  · by_cases h2 : b = b'
    · by_cases h3 : c = c'
      · by_cases h4 : s = s'
        · subst h1 h2 h3 h4; simp
        · have h5 : s.toList ≠ s'.toList := fun e => h4 (toL_inj e)
          simp [h1, h2, h3, h4, h5]
      · simp [h1, h2, h3]
    · simp [h1, h2]
  · simp [h1]
end Go.Proofs.YtbmhjmdbolnbaaaDoor
