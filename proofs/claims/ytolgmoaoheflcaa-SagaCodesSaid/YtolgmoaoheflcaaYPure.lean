/-
  PLAIN MATHEMATICS for the statements of layer 11 (sums): lists of bytes; the sum as the remainder of a division, bit by bit, over natural numbers.
-/
namespace Go.Proofs.Ytolgmoaoheflcaa.ByteP
def ix (xs : List Int) (i : Nat) : Int := xs.getD i 0
theorem list_ext_ix {a b : List Int} (hl : a.length = b.length) (h : ∀ i < a.length, ix a i = ix b i) : a = b := by
  apply List.ext_getElem hl
  intro i h1 h2
  have := h i h1
  simpa [ix, List.getD, h1, h2] using this
theorem take_ix (xs : List Int) (k : Nat) (h : k < xs.length) : xs.take (k + 1) = xs.take k ++ [ix xs k] := by
  rw [List.take_succ_eq_append_getElem h]; simp [ix, List.getD, h]
/-- Each is a byte. -/
def Bytes (xs : List Int) : Prop := ∀ i, 0 ≤ ix xs i ∧ ix xs i ≤ 255

/-- One bit further. -/
def stp (r : Nat) : Nat := (r / 2) ^^^ ((r % 2) * 2197175160)
def stps : Nat → Nat → Nat
  | 0, r => r
  | k + 1, r => stp (stps k r)
def byteStep (r : Nat) (b : Int) : Nat := stps 8 (r ^^^ b.toNat)
def run (r : Nat) (xs : List Int) : Nat := xs.foldl byteStep r
def allOnes : Nat := 4294967295
/-- What More answers, of a sum that is one. -/
def moreN (s : Nat) (xs : List Int) : Nat := (run (s ^^^ allOnes) xs) ^^^ allOnes

theorem stp_lt {r : Nat} (h : r < 2 ^ 32) : stp r < 2 ^ 32 := by
  unfold stp
  refine Nat.xor_lt_two_pow (by omega) ?_
  have : r % 2 < 2 := Nat.mod_lt _ (by omega)
  omega
theorem stps_lt {r : Nat} (h : r < 2 ^ 32) : ∀ k, stps k r < 2 ^ 32 := by
  intro k
  induction k with
  | zero => exact h
  | succ k ih => exact stp_lt ih
theorem byteStep_lt {r : Nat} {b : Int} (h : r < 2 ^ 32) (hb : b ≤ 255) : byteStep r b < 2 ^ 32 :=
  stps_lt (Nat.xor_lt_two_pow h (by omega)) 8
theorem run_snoc (r : Nat) (xs : List Int) (b : Int) : run r (xs ++ [b]) = byteStep (run r xs) b := by unfold run; simp
theorem run_append (r : Nat) (xs ys : List Int) : run r (xs ++ ys) = run (run r xs) ys := by unfold run; simp
theorem run_lt {r : Nat} (h : r < 2 ^ 32) {xs : List Int} (hb : Bytes xs) : ∀ k, k ≤ xs.length → run r (xs.take k) < 2 ^ 32 := by
  intro k
  induction k with
  | zero => intro _; simpa [run] using h
  | succ k ih =>
    intro hk
    rw [take_ix xs k (by omega), run_snoc]
    exact byteStep_lt (ih (by omega)) (hb k).2
end Go.Proofs.Ytolgmoaoheflcaa.ByteP
