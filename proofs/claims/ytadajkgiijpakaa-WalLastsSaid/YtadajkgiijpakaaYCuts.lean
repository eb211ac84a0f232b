/-
  PLAIN MATHEMATICS: frames one behind the other are split again, and what is cut off the last one takes just that one away.
-/
import Derived.Test.YtadajkgiijpakaaYSplit
namespace Go.Proofs.Ytadajkgiijpakaa
open Go.RowKit
open ByteP

/-- The k-th text's frame. -/
def frameOf (PX : Nat → List Int) (j : Nat) : List Int := frameL (PX j).length (PX j)
theorem catTo_length_mono (F : Nat → List Int) : ∀ m k, k ≤ m → (catTo F k).length ≤ (catTo F m).length := by
  intro m
  induction m with
  | zero => intro k hk; obtain rfl : k = 0 := by omega
            exact Nat.le_refl _
  | succ m ih =>
    intro k hk
    by_cases e : k = m + 1
    · subst e; exact Nat.le_refl _
    · have := ih k (by omega)
      show _ ≤ (catTo F m ++ F m).length
      rw [List.length_append]; omega
/-- Behind the first k there stand the k-th and the rest. -/
theorem catTo_drop (F : Nat → List Int) (tail : List Int) : ∀ m k, k < m → ∃ rest, (catTo F m ++ tail).drop (catTo F k).length = F k ++ rest := by
  intro m
  induction m generalizing tail with
  | zero => intro k hk; omega
  | succ m ih =>
    intro k hk
    have e : catTo F (m + 1) ++ tail = catTo F m ++ (F m ++ tail) := by show (catTo F m ++ F m) ++ tail = _; rw [List.append_assoc]
    by_cases hkm : k = m
    · subst hkm
      exact ⟨tail, by rw [e, List.drop_left' rfl]⟩
    · rw [e]
      exact ih (F m ++ tail) k (by omega)
theorem cat_splits {PX : Nat → List Int} {tail : List Int} {m : Nat} (hb : ∀ j, j < m → Bytes (PX j) ∧ (PX j).length ≤ 65536) (ht : openN tail ≠ 0) :
    Splits (catTo (frameOf PX) m ++ tail) m ∧ (∀ j, j ≤ m → atN (catTo (frameOf PX) m ++ tail) j = (catTo (frameOf PX) j).length) ∧ ∀ j, j < m → pT (catTo (frameOf PX) m ++ tail) j = PX j := by
  have key : ∀ j, j < m → ∀ xs, (∃ rest, xs = frameOf PX j ++ rest) → openN xs = 0 ∧ sizeN xs = (frameOf PX j).length ∧ payT xs = PX j := by
    rintro j hj xs ⟨rest, rfl⟩
    obtain ⟨h1, h2, h3⟩ := frame_opens (ys := rest) (hb j hj).1 (hb j hj).2
    refine ⟨h3, ?_, ?_⟩
    · have h3' : openN (frameOf PX j ++ rest) = 0 := h3
      rw [sizeN_yes h3']
      show lenN (frameL (PX j).length (PX j) ++ rest) + 8 = (frameL (PX j).length (PX j)).length
      rw [h1, frameL_length]
    · have h3' : openN (frameOf PX j ++ rest) = 0 := h3
      rw [payT_yes h3']; exact h2
  have hat : ∀ j, j ≤ m → atN (catTo (frameOf PX) m ++ tail) j = (catTo (frameOf PX) j).length := by
    intro j
    induction j with
    | zero => intro _; rfl
    | succ j ih =>
      intro hj
      have h1 := ih (by omega)
      obtain ⟨rest, hr⟩ := catTo_drop (frameOf PX) tail m j (by omega)
      show atN _ j + sizeN (List.drop (atN _ j) _) = (catTo (frameOf PX) j ++ frameOf PX j).length
      rw [h1, (key j (by omega) _ ⟨rest, hr⟩).2.1, List.length_append]
  refine ⟨⟨fun j hj => ?_, ?_⟩, hat, fun j hj => ?_⟩
  · obtain ⟨rest, hr⟩ := catTo_drop (frameOf PX) tail m j hj
    rw [hat j (by omega)]
    exact (key j hj _ ⟨rest, hr⟩).1
  · rw [hat m (Nat.le_refl _), List.drop_left' rfl]; exact ht
  · obtain ⟨rest, hr⟩ := catTo_drop (frameOf PX) tail m j hj
    unfold pT
    rw [hat j (by omega)]
    exact (key j hj _ ⟨rest, hr⟩).2.2
theorem take_shuts {xs : List Int} (hb : Bytes xs) (hl : xs.length ≤ 65536) {t : Nat} (ht : t < xs.length + 8) : openN ((frameL xs.length xs).take t) ≠ 0 := by
  have hlen : ((frameL xs.length xs).take t).length = t := by rw [List.length_take, frameL_length]; omega
  by_cases h4 : t < 4
  · rw [open13 (by rw [hlen]; exact h4)]; omega
  · have e1 : lenN ((frameL xs.length xs).take t) = xs.length := by
      have h1 := (frame_opens (ys := []) hb hl).1
      rw [List.append_nil] at h1
      refine Eq.trans ?_ h1
      unfold lenN numL
      rw [ix_take (by omega), ix_take (by omega), ix_take (by omega), ix_take (by omega)]
    rw [open13b (by rw [hlen]; exact h4) (by rw [e1]; omega) (by rw [hlen, e1]; omega)]
    omega
/-- The frames, k bytes short. -/
theorem cut_short (PX : Nat → List Int) (m k : Nat) (hk : k ≤ (frameOf PX m).length) :
    (catTo (frameOf PX) (m + 1)).take ((catTo (frameOf PX) (m + 1)).length - k) = catTo (frameOf PX) m ++ (frameOf PX m).take ((frameOf PX m).length - k) := by
  have e : catTo (frameOf PX) (m + 1) = catTo (frameOf PX) m ++ frameOf PX m := rfl
  rw [e, List.length_append, List.take_append]
  congr 1
  · rw [List.take_of_length_le]; omega
  · congr 1; omega
end Go.Proofs.Ytadajkgiijpakaa
