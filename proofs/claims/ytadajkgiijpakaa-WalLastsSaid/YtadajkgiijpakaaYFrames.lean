/-
  PLAIN MATHEMATICS: frames: what a text opens to, by its bytes; a frame opens to what it was made of.
-/
import Derived.Test.YtadajkgiijpakaaYRef
namespace Go.Proofs.Ytadajkgiijpakaa
open Go.RowKit
open ByteP

def lenN (xs : List Int) : Nat := (numL xs).toNat
def payL (xs : List Int) : List Int := (xs.drop 4).take (lenN xs)
/-- The error's number of Open. -/
def openN (xs : List Int) : Nat :=
  if xs.length < 4 then 13 else if 65536 < lenN xs then 11 else if xs.length < lenN xs + 8 then 13
  else if (moreN 0 (xs.take (lenN xs + 4)) : Int) = numL (xs.drop (lenN xs + 4)) then 0 else 12

theorem ix_drop (xs : List Int) (k i : Nat) : ix (xs.drop k) i = ix xs (k + i) := by unfold ix; simp [List.getD]
theorem ix_take {xs : List Int} {k i : Nat} (h : i < k) : ix (xs.take k) i = ix xs i := by unfold ix; simp [List.getD, h]
theorem bytes_drop {xs : List Int} (h : Bytes xs) (k : Nat) : Bytes (xs.drop k) := fun i => by rw [ix_drop]; exact h _
theorem bytes_take {xs : List Int} (h : Bytes xs) (k : Nat) : Bytes (xs.take k) := fun i => by
  by_cases hi : i < k
  · rw [ix_take hi]; exact h i
  · have : (xs.take k)[i]? = none := by rw [List.getElem?_eq_none]; rw [List.length_take]; omega
    unfold ix; simp [List.getD, this]
theorem fourL_take {ys : List Int} (h : Bytes ys) (hl : 4 ≤ ys.length) : fourL (numL ys).toNat = ys.take 4 := by
  have hb := numL_bd h
  refine list_ext_ix (by rw [List.length_take]; show 4 = _; omega) fun i hi => ?_
  have hi4 : i < 4 := hi
  rw [ix_take hi4]
  have h0 := h 0
  have h1 := h 1
  have h2 := h 2
  have h3 := h 3
  have e : ((numL ys).toNat : Int) = ix ys 0 + 256 * ix ys 1 + 65536 * ix ys 2 + 16777216 * ix ys 3 := by
    rw [show (((numL ys).toNat : Nat) : Int) = numL ys by omega]; rfl
  have hi5 : i = 0 ∨ i = 1 ∨ i = 2 ∨ i = 3 := by omega
  rcases hi5 with rfl | rfl | rfl | rfl
  · show ((numL ys).toNat : Int) % 256 = _; omega
  · show ((numL ys).toNat : Int) / 256 % 256 = _; omega
  · show ((numL ys).toNat : Int) / 65536 % 256 = _; omega
  · show ((numL ys).toNat : Int) / 16777216 = _; omega
theorem numL_four (n : Nat) (_ : n < 4294967296) (ys : List Int) : numL (fourL n ++ ys) = n := by
  show (n : Int) % 256 + 256 * ((n : Int) / 256 % 256) + 65536 * ((n : Int) / 65536 % 256) + 16777216 * ((n : Int) / 16777216) = n
  omega
theorem numL_take (xs : List Int) : numL (xs.take 4) = numL xs := by
  unfold numL
  rw [ix_take (by omega), ix_take (by omega), ix_take (by omega), ix_take (by omega)]
theorem take_split (xs : List Int) : xs.take (lenN xs + 4) = xs.take 4 ++ payL xs := by
  unfold payL; rw [Nat.add_comm, List.take_add]
theorem frame_iff {xs : List Int} (h : Bytes xs) (h4 : 4 ≤ xs.length) (hm : xs.length ≥ lenN xs + 8) :
    frameL (lenN xs) (payL xs) = xs.take (lenN xs + 8) ↔ (moreN 0 (xs.take (lenN xs + 4)) : Int) = numL (xs.drop (lenN xs + 4)) := by
  have e1 : fourL (lenN xs) = xs.take 4 := fourL_take h h4
  have e2 : xs.take (lenN xs + 8) = xs.take (lenN xs + 4) ++ (xs.drop (lenN xs + 4)).take 4 := by
    rw [← List.take_add]
  have e3 : frameL (lenN xs) (payL xs) = xs.take (lenN xs + 4) ++ fourL (moreN 0 (xs.take (lenN xs + 4))) := by
    unfold frameL sum2
    rw [moreN_append, e1, ← take_split]
  have hs : moreN 0 (xs.take (lenN xs + 4)) < 4294967296 := moreN_lt 0 (by omega) (bytes_take h _)
  rw [e2, e3]
  constructor
  · intro e
    have e5 := List.append_cancel_left e
    have := numL_four _ hs []
    rw [List.append_nil, e5, numL_take] at this
    exact this.symm
  · intro e
    congr 1
    have hl : 4 ≤ (xs.drop (lenN xs + 4)).length := by rw [List.length_drop]; omega
    rw [← fourL_take (bytes_drop h _) hl, ← e]
    simp
theorem payL_length {xs : List Int} (h : lenN xs + 4 ≤ xs.length) : (payL xs).length = lenN xs := by
  unfold payL; rw [List.length_take, List.length_drop]; omega

theorem fourL_length (n : Nat) : (fourL n).length = 4 := rfl
theorem frameL_length (n : Nat) (xs : List Int) : (frameL n xs).length = xs.length + 8 := by
  unfold frameL; simp only [List.length_append, fourL_length]; omega
theorem frameL_bytes {n : Nat} {xs : List Int} (hn : n ≤ 65536) (h : Bytes xs) : Bytes (frameL n xs) := by
  have hs : sum2 (fourL n) xs < 4294967296 := moreN_lt _ (moreN_lt 0 (by omega) (fourL_bytes _ (by omega))) h
  exact bytes_append (bytes_append (fourL_bytes n (by omega)) h) (fourL_bytes _ hs)
/-- A frame opens to what it was made of, whatever stands behind it. -/
theorem frame_opens {xs ys : List Int} (h : Bytes xs) (hl : xs.length ≤ 65536) :
    lenN (frameL xs.length xs ++ ys) = xs.length ∧ payL (frameL xs.length xs ++ ys) = xs ∧ openN (frameL xs.length xs ++ ys) = 0 := by
  have hs : sum2 (fourL xs.length) xs < 4294967296 := moreN_lt _ (moreN_lt 0 (by omega) (fourL_bytes _ (by omega))) h
  have e0 : frameL xs.length xs ++ ys = fourL xs.length ++ (xs ++ (fourL (sum2 (fourL xs.length) xs) ++ ys)) := by unfold frameL; simp only [List.append_assoc]
  have e1 : lenN (frameL xs.length xs ++ ys) = xs.length := by
    unfold lenN
    rw [e0, numL_four _ (by omega)]
    simp
  have e2 : payL (frameL xs.length xs ++ ys) = xs := by
    unfold payL
    rw [e1, e0, List.drop_left' (fourL_length _), List.take_left' rfl]
  refine ⟨e1, e2, ?_⟩
  unfold openN
  have hlen : (frameL xs.length xs ++ ys).length = xs.length + 8 + ys.length := by rw [List.length_append, frameL_length]
  rw [if_neg (by omega), if_neg (by omega), if_neg (by omega), if_pos]
  rw [e1]
  have e3 : (frameL xs.length xs ++ ys) = (fourL xs.length ++ xs) ++ (fourL (sum2 (fourL xs.length) xs) ++ ys) := by unfold frameL; simp only [List.append_assoc]
  have hl2 : (fourL xs.length ++ xs).length = xs.length + 4 := by rw [List.length_append, fourL_length]; omega
  rw [e3, List.take_left' hl2, List.drop_left' hl2, numL_four _ hs]
  unfold sum2
  rw [moreN_append]
end Go.Proofs.Ytadajkgiijpakaa
