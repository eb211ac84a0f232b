/-
  PLAIN MATHEMATICS for the statements of layer 14: the bytes of a log: the frame of its base, and the frames of its records.
-/
import Derived.Test.YtadajkgiijpakaaYCuts
namespace Go.Proofs.Ytadajkgiijpakaa
open Go.RowKit
open ByteP
set_option linter.unusedVariables false
theorem bytes_cons {k : Int} {xs : List Int} (h0 : 0 ≤ k) (h1 : k ≤ 255) (hb : Bytes xs) : Bytes (k :: xs) := fun i => by
  cases i with
  | zero => exact ⟨h0, h1⟩
  | succ i => exact hb i
/-- The frame of a mark and the bytes behind it. -/
def frmP (k : Int) (xs : List Int) : List Int := frameL (xs.length + 1) (k :: xs)
theorem frmP_length (k : Int) (xs : List Int) : (frmP k xs).length = xs.length + 9 := by
  unfold frmP; rw [frameL_length, List.length_cons]
theorem frmP_bytes {k : Int} {xs : List Int} (h0 : 0 ≤ k) (h1 : k ≤ 255) (hb : Bytes xs) (hl : xs.length ≤ 65535) : Bytes (frmP k xs) :=
  frameL_bytes (by omega) (bytes_cons h0 h1 hb)
/-- The frames of the records. -/
def recsL : List (List Int) → List Int
  | [] => []
  | x :: r => frmP 1 x ++ recsL r
/-- The bytes of a log. -/
def logL (b : List Int) (rs : List (List Int)) : List Int := frmP 0 b ++ recsL rs
theorem recsL_append : ∀ a b : List (List Int), recsL (a ++ b) = recsL a ++ recsL b
  | [], b => rfl
  | x :: a, b => by rw [List.cons_append, recsL, recsL, recsL_append a b, List.append_assoc]
theorem recsL_snoc (a : List (List Int)) (x : List Int) : recsL (a ++ [x]) = recsL a ++ frmP 1 x := by
  rw [recsL_append]; simp [recsL]
theorem logL_snoc (b : List Int) (a : List (List Int)) (x : List Int) : logL b (a ++ [x]) = logL b a ++ frmP 1 x := by
  unfold logL; rw [recsL_snoc, List.append_assoc]
theorem logL_nil (b : List Int) : logL b [] = frmP 0 b := by unfold logL recsL; rw [List.append_nil]
/-- Bytes, and no more than a frame holds. -/
def RecOK (x : List Int) : Prop := Bytes x ∧ x.length ≤ 65535
theorem recsL_bytes : ∀ a : List (List Int), (∀ x, x ∈ a → RecOK x) → Bytes (recsL a)
  | [], _ => bytes_nil
  | x :: a, h => by
    have hx := h x (by simp)
    exact bytes_append (frmP_bytes (by omega) (by omega) hx.1 hx.2) (recsL_bytes a (fun y hy => h y (by simp [hy])))
theorem logL_bytes {b : List Int} {a : List (List Int)} (hb : RecOK b) (h : ∀ x, x ∈ a → RecOK x) : Bytes (logL b a) :=
  bytes_append (frmP_bytes (by omega) (by omega) hb.1 hb.2) (recsL_bytes a h)
theorem logL_length_snoc (b : List Int) (a : List (List Int)) (x : List Int) : (logL b (a ++ [x])).length = (logL b a).length + (x.length + 9) := by
  rw [logL_snoc, List.length_append, frmP_length]
theorem logL_length_nil (b : List Int) : (logL b []).length = b.length + 9 := by rw [logL_nil, frmP_length]
theorem logL_length_ge (b : List Int) (a : List (List Int)) : b.length + 9 ≤ (logL b a).length := by
  unfold logL; rw [List.length_append, frmP_length]; omega
end Go.Proofs.Ytadajkgiijpakaa
