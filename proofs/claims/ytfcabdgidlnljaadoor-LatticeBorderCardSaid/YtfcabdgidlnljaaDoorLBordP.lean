/-
  PLAIN MATHEMATICS for the statements of layer 9: the nodes of a set with nothing behind them.
-/
import Derived.Test.YtfcabdgidlnljaaDoorLFold
namespace Go.Proofs.YtfcabdgidlnljaaDoor.DiP
set_option linter.unusedVariables false
set_option linter.unusedSimpArgs false
/-- The border, behind the first k edges. -/
def brdK (g : List (Nat × Nat)) (s : Nat) : Nat → Nat
  | 0 => s
  | k + 1 => if bt s (fb g k) then andn (brdK g s k) (one (fa g k)) else brdK g s k
/-- Is a node of the set behind i, by the first k edges? -/
def bhdK (g : List (Nat × Nat)) (s i : Nat) : Nat → Bool
  | 0 => false
  | k + 1 => bhdK g s i k || (decide (fa g k = i) && bt s (fb g k))
theorem brdK_lt {g : List (Nat × Nat)} {s : Nat} (hs : s < lim) : ∀ k, brdK g s k < lim
  | 0 => hs
  | k + 1 => by
    unfold brdK
    by_cases h : bt s (fb g k) = true
    · rw [if_pos h]; exact andn_lt (brdK_lt hs k)
    · rw [if_neg h]; exact brdK_lt hs k
theorem bt_brdK {n : Nat} {g : List (Nat × Nat)} {s : Nat} (hi : InN n g) (hn : n ≤ 64) (hs : s < lim) {u : Nat} (hu : u < 64) : ∀ k, k ≤ g.length → bt (brdK g s k) u = (bt s u && !bhdK g s u k)
  | 0, _ => by simp [brdK, bhdK]
  | k + 1, hk => by
    have ih := bt_brdK hi hn hs hu k (by omega)
    have hf := (hi k (by omega)).1
    unfold brdK bhdK
    by_cases h : bt s (fb g k) = true
    · rw [if_pos h, bt_andn (one_lt _ (by omega)) hu, ih, bt_one, h, Bool.and_true]
      cases bt s u <;> cases bhdK g s u k <;> simp
    · have h2 : bt s (fb g k) = false := by simpa using h
      rw [if_neg h, ih, h2, Bool.and_false, Bool.or_false]
theorem bhdK_iff {g : List (Nat × Nat)} {s i : Nat} : ∀ k, bhdK g s i k = true ↔ ∃ j, j < k ∧ fa g j = i ∧ bt s (fb g j) = true
  | 0 => by simp [bhdK]
  | k + 1 => by
    unfold bhdK
    rw [Bool.or_eq_true, bhdK_iff k, Bool.and_eq_true, decide_eq_true_eq]
    constructor
    · rintro (⟨j, h1, h2, h3⟩ | ⟨h2, h3⟩)
      · exact ⟨j, by omega, h2, h3⟩
      · exact ⟨k, by omega, h2, h3⟩
    · rintro ⟨j, h1, h2, h3⟩
      by_cases e : j = k
      · subst e; exact .inr ⟨h2, h3⟩
      · exact .inl ⟨j, by omega, h2, h3⟩
theorem bhd_iff {g : List (Nat × Nat)} {s i : Nat} : bhdK g s i g.length = true ↔ ∃ v, E g i v ∧ bt s v = true := by
  rw [bhdK_iff]
  constructor
  · rintro ⟨j, h1, h2, h3⟩; exact ⟨_, ⟨j, h1, h2, rfl⟩, h3⟩
  · rintro ⟨v, ⟨j, h1, h2, rfl⟩, h3⟩; exact ⟨j, h1, h2, h3⟩
def brdG (g : List (Nat × Nat)) (s : Nat) : Nat := brdK g s g.length
def bhdG (g : List (Nat × Nat)) (s i : Nat) : Bool := bhdK g s i g.length
theorem brd_ne {n : Nat} {g : List (Nat × Nat)} {s i : Nat} (hi : InN n g) (hn : n ≤ 64) (hs : s < lim) (h : i < 64) (hb : bt s i = true) : bt (brdG g s) i = !bhdG g s i := by
  unfold brdG bhdG
  rw [bt_brdK hi hn hs h _ (Nat.le_refl _), hb, Bool.true_and]
theorem brd_zero {n : Nat} {g : List (Nat × Nat)} {s : Nat} (hi : InN n g) (hn : n ≤ 64) (hs : s < lim) : andn (brdG g s) s = 0 :=
  (andn_zero (brdK_lt hs _) hs).2 fun u hu => by
    have hu : bt (brdK g s g.length) u = true := hu
    by_cases h : u < 64
    · unfold brdG at hu
      rw [bt_brdK hi hn hs h _ (Nat.le_refl _), Bool.and_eq_true] at hu
      exact hu.1
    · have h2 : brdK g s g.length < 2 ^ u := Nat.lt_of_lt_of_le (show brdK g s g.length < 2 ^ 64 from brdK_lt hs _) (Nat.pow_le_pow_right (by omega) (by omega))
      unfold bt at hu
      rw [Nat.testBit_lt_two_pow h2] at hu
      cases hu
/-- Without a loop of one edge, a closed set less a node is closed just if nothing of the set is behind it. -/
theorem less_closed {n : Nat} {g : List (Nat × Nat)} {s i : Nat} (hi : InN n g) (hn : n ≤ 64) (hs : s < lim) (h : i < n) (hcl : Cl g s) (hl : ¬ E g i i) : Cl g (andn s (one i)) ↔ ¬ bhdG g s i = true := by
  have hb : ∀ u, u < 64 → bt (andn s (one i)) u = (bt s u && !decide (i = u)) := fun u hu => by rw [bt_andn (one_lt _ (by omega)) hu, bt_one]
  unfold bhdG
  rw [bhd_iff]
  constructor
  · rintro h1 ⟨v, ⟨j, hj, e1, e2⟩, h3⟩
    have hv : v < n := by rw [← e2]; exact (hi j hj).2
    have hne : i ≠ v := fun e => hl ⟨j, hj, e1, by rw [e2, e]⟩
    have h4 := h1 j hj (by rw [e2, hb v (by omega), h3, decide_eq_false hne]; rfl)
    rw [e1, hb i (by omega), decide_eq_true rfl] at h4
    simp at h4
  · intro h1 j hj hbj
    have hf := hi j hj
    rw [hb _ (by omega), Bool.and_eq_true] at hbj
    have h2 := hcl j hj hbj.1
    rw [hb _ (by omega), h2, Bool.true_and]
    have hne : i ≠ fa g j := fun e => h1 ⟨fb g j, ⟨j, hj, e.symm, rfl⟩, hbj.1⟩
    rw [decide_eq_false hne]; rfl
end Go.Proofs.YtfcabdgidlnljaaDoor.DiP
