/-
  A list of texts that came in, as the library tells of it, in the words of these texts.
-/
import Derived.Test.YtadajkgiijpakaaYRow
import Derived.Test.YtadajkgiijpakaaYOf
import Derived.Deep.Matrix
namespace Go.Proofs.Ytadajkgiijpakaa
open Go.RowKit
open ByteP

/-- What the walks are told of a list of texts that came in. -/
def IsRowsY (w : World) (A : Option Addr) (len cap : Nat) : Prop :=
  len ≤ cap ∧ len ≤ 9223372036854775807 ∧ ∃ PA PN PC PX, Rd2 w w.heap.size A len PA PN PC PX ∧ ∀ j, j < len → PN j ≤ PC j
theorem isRowsY_nil (w : World) : IsRowsY w none 0 0 :=
  ⟨Nat.le_refl _, by omega, fun _ => none, fun _ => 0, fun _ => 0, fun _ => [], ⟨fun h => absurd h (by omega), fun j hj => absurd hj (by omega)⟩, fun j hj => absurd hj (by omega)⟩
theorem isRowsY_mk {w : World} {base : Nat} {a : Addr} {len cap : Nat} {A : Nat → Option Addr} {L C : Nat → Nat} {Z : Nat → List Int} (hl : len ≤ cap) (hm : cap ≤ maxLen)
    (hr : ∀ r, r < cap → w.cell? (a.add r) = some (.slice (A r) (L r) (C r)) ∧ L r ≤ C r ∧ C r ≤ maxLen ∧ (Z r).length = C r ∧ (∀ n ∈ Z r, (Lit.int .u8 n).wf = true) ∧ (A r = none → C r = 0) ∧
        ∀ a', A r = some a' → base ≤ a'.block ∧ ∀ c, c < C r → w.cell? (a'.add c) = some (.int .u8 ((Z r).getD c 0))) : IsRowsY w (some a) len cap := by
  have hrow : ∀ r, r < len → (A r = none ∧ L r = 0 ∧ C r = 0 ∧ Z r = []) ∨ ∃ x, A r = some x ∧ L r ≤ C r ∧ C r ≤ maxLen ∧ (Z r).length = C r ∧ (∀ i, i < (Z r).length → w.cell? (x.add i) = some (.int .u8 ((Z r).getD i 0))) ∧ ∀ n ∈ Z r, (Lit.int .u8 n).wf = true := by
    intro r hlt
    obtain ⟨_, h2, h3, h4, h5, h6, h7⟩ := hr r (by omega)
    cases e : A r with
    | none =>
      have hc := h6 e
      exact .inl ⟨rfl, by omega, hc, List.eq_nil_of_length_eq_zero (by omega)⟩
    | some x => exact .inr ⟨x, rfl, h2, h3, h4, fun i hi => (h7 x e).2 i (by omega), h5⟩
  refine ⟨hl, by unfold maxLen at hm; omega, A, L, C, fun r => (Z r).take (L r), ⟨fun hn => ?_, fun j hj => rdY_of_row (hrow j hj)⟩, fun j hj => (hr j (by omega)).2.1⟩
  obtain ⟨b, off, spot⟩ := a
  have h0 := (hr 0 (by omega)).1
  have hspot : spot = none := by simpa [Addr.add] using World.cell?_spot h0
  subst hspot
  have hb : b < w.heap.size := by
    have h1 : w.cell? ⟨b, off, none⟩ = some (.slice (A 0) (L 0) (C 0)) := by simpa [Addr.add] using h0
    rcases Nat.lt_or_ge b w.heap.size with hlt | hge
    · exact hlt
    · simp [World.cell?, Array.getElem?_eq_none hge] at h1
  refine ⟨b, off, rfl, hb, fun j hj => ?_⟩
  have h1 := (hr j (by omega)).1
  have e1 : (Addr.add ⟨b, off, none⟩ j) = ⟨b, off + j, none⟩ := by
    unfold Addr.add
    by_cases h0 : j = 0 <;> simp [h0]
  rw [e1] at h1
  exact h1
end Go.Proofs.Ytadajkgiijpakaa
