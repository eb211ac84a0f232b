/-
  THE WALK of the statement GaussThere.
-/
import Derived.Test.YtinphdphloddmaaGSteps
import Derived.Test.YtinphdphloddmaaGPts
import Derived.Deep.DeepCutAuto
namespace Go.Proofs.Ytinphdphloddmaa
open Go.RowKit
open FlP GaP
set_option linter.unusedVariables false

/-- What is let go. -/
def badT (f t p u : Int) : Prop := f < 0 ∨ t < 0 ∨ p < 0 ∨ u < 0 ∨ 524288 < f ∨ 524288 < t ∨ 524288 < p ∨ 50 < u

/-- The steps: a deploy, and then up k times. -/
def goes (f t : Int) (k : Nat) : List (Int × Int) := (t - f, 0) :: List.replicate k (0, 1)
theorem goes_len (f t : Int) (k : Nat) : (goes f t k).length = k + 1 := by simp [goes]
theorem goes_snoc (f t : Int) (k : Nat) : goes f t k ++ [(0, 1)] = goes f t (k + 1) := by
  unfold goes; rw [List.cons_append, ← List.replicate_succ']
theorem at_goes (f t : Int) (n k : Nat) (h : k < n) : at_ (goes f t n) (k + 1) = (0, 1) := by
  unfold at_ goes
  simp [List.getD, h]
theorem pos_goes (f t p : Int) (n k : Nat) (h : k ≤ n) : pos (f, p) (goes f t n) (k + 1) = (t, p + k) := by
  induction k with
  | zero => simp [pos, add2, at_, goes]; omega
  | succ k ih =>
    rw [pos, ih (by omega), at_goes f t n k (by omega)]
    simp [add2]; omega

set_option maxRecDepth 100000 in
set_option maxHeartbeats 1000000 in
theorem law_gaussThere_bad (f t p u : Int) (w : World) (h : badT f t p u) :
    Calls Try.prog 12 #[.int .i64 f, .int .i64 t, .int .i64 p, .int .i64 u] w fun e w' => e = .returned (.bool true) ∧ Below w.heap.size w w' := by
  unfold badT at h
  have H := Lib.hid h
  clear h
  go_enter Try.func12, Try.ntmps12
  go_wp2_with fail
  refine (anchor_any _).mono ?_
  rintro e w1 ⟨rfl, hb⟩
  have HB := Lib.hid hb
  clear hb
  by_cases c1 : f < 0
  · go_wp2
    go_ret
    exact ⟨rfl, HB.out⟩
  by_cases c2 : t < 0
  · go_wp2
    go_ret
    exact ⟨rfl, HB.out⟩
  by_cases c3 : p < 0
  · go_wp2
    go_ret
    exact ⟨rfl, HB.out⟩
  by_cases c4 : u < 0
  · go_wp2
    go_ret
    exact ⟨rfl, HB.out⟩
  by_cases d1 : f < t
  · by_cases d3 : t < p
    · by_cases e0 : 524288 < p
      · go_wp2
        go_ret
        exact ⟨rfl, HB.out⟩
      · have c6 : 50 < u := by have := H.out; omega
        go_wp2
        go_ret
        exact ⟨rfl, HB.out⟩
    · by_cases e0 : 524288 < t
      · go_wp2
        go_ret
        exact ⟨rfl, HB.out⟩
      · have c6 : 50 < u := by have := H.out; omega
        go_wp2
        go_ret
        exact ⟨rfl, HB.out⟩
  · by_cases d2 : f < p
    · by_cases e0 : 524288 < p
      · go_wp2
        go_ret
        exact ⟨rfl, HB.out⟩
      · have c6 : 50 < u := by have := H.out; omega
        go_wp2
        go_ret
        exact ⟨rfl, HB.out⟩
    · by_cases e0 : 524288 < f
      · go_wp2
        go_ret
        exact ⟨rfl, HB.out⟩
      · have c6 : 50 < u := by have := H.out; omega
        go_wp2
        go_ret
        exact ⟨rfl, HB.out⟩

end Go.Proofs.Ytinphdphloddmaa
