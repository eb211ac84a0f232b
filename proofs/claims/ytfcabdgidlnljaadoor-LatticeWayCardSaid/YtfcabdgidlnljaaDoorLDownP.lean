/-
  PLAIN MATHEMATICS for the statements of layer 9: the least closed set that has a set.
-/
import Derived.Test.YtfcabdgidlnljaaDoorLFold
namespace Go.Proofs.YtfcabdgidlnljaaDoor.DiP
set_option linter.unusedVariables false
set_option linter.unusedSimpArgs false
theorem meet_iff {r s : Nat} (hs : s < lim) : r &&& s ≠ 0 ↔ ∃ v, bt r v = true ∧ bt s v = true := by
  constructor
  · intro h
    refine Classical.byContradiction fun hn => h ?_
    refine Nat.eq_of_testBit_eq fun u => ?_
    rw [Nat.zero_testBit, Nat.testBit_and]
    cases h1 : r.testBit u with
    | false => rfl
    | true =>
      cases h2 : s.testBit u with
      | false => rfl
      | true => exact (hn ⟨u, h1, h2⟩).elim
  · rintro ⟨v, h1, h2⟩ h
    have : (r &&& s).testBit v = true := by rw [Nat.testBit_and]; unfold bt at h1 h2; rw [h1, h2]; rfl
    rw [h, Nat.zero_testBit] at this
    cases this
section
variable {g : List (Nat × Nat)} {n s : Nat}
/-- What Down says, node by node. -/
def IsDown (g : List (Nat × Nat)) (n s d : Nat) : Prop := d < lim ∧ ∀ u, bt d u = true ↔ bt s u = true ∨ (u < n ∧ ∃ v, Way g u v ∧ bt s v = true)
theorem IsDown.closed {d : Nat} (h : IsDown g n s d) (hi : InN n g) : Cl g d := fun k hk hb => by
  have e : E g (fa g k) (fb g k) := ⟨k, hk, rfl, rfl⟩
  rcases (h.2 _).1 hb with h1 | ⟨_, v, h2, h3⟩
  · exact (h.2 _).2 (.inr ⟨(hi k hk).1, _, .one e, h1⟩)
  · exact (h.2 _).2 (.inr ⟨(hi k hk).1, v, (Way.one e).trans h2, h3⟩)
theorem IsDown.has {d : Nat} (h : IsDown g n s d) (hs : s < lim) : andn s d = 0 := (andn_zero hs h.1).2 fun u hu => (h.2 u).2 (.inl hu)
theorem IsDown.inS {d : Nat} (h : IsDown g n s d) (hs : inS n s) : inS n d := ⟨h.1, fun u hu => by
  cases hb : bt d u with
  | false => rfl
  | true =>
    rcases (h.2 u).1 hb with h1 | ⟨h1, _⟩
    · rw [hs.2 u hu] at h1; cases h1
    · omega⟩
theorem IsDown.least {d x : Nat} (h : IsDown g n s d) (hx : x < lim) (hc : Cl g x) (hsx : ∀ u, bt s u = true → bt x u = true) : andn d x = 0 := (andn_zero h.1 hx).2 fun u hu => by
  rcases (h.2 u).1 hu with h1 | ⟨_, v, h2, h3⟩
  · exact hsx u h1
  · exact cl_way.1 hc u v h2 (hsx v h3)
theorem IsDown.same {d : Nat} (h : IsDown g n s d) (hs : s < lim) (hc : Cl g s) : d = s := by
  refine ext64 h.1 hs fun u _ => ?_
  rw [Bool.eq_iff_iff, h.2 u]
  constructor
  · rintro (h1 | ⟨_, v, h2, h3⟩)
    · exact h1
    · exact cl_way.1 hc u v h2 h3
  · exact .inl
end
end Go.Proofs.YtfcabdgidlnljaaDoor.DiP
