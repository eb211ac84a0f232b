/-
  PLAIN MATHEMATICS: the sum's remainder is linear over exclusive or, and no step of it maps two words to one; so a burst of turned bits gives another sum.
-/
import Derived.Test.YtcbjneidjbfheabYPure
namespace Go.Proofs.Ytcbjneidjbfheab.ByteP
theorem xor_mod2 (x y : Nat) : (x ^^^ y) % 2 = (x % 2) ^^^ (y % 2) := by
  have := Nat.xor_mod_two_pow (a := x) (b := y) (n := 1)
  simpa using this
theorem bit_mul_xor (a b p : Nat) (ha : a < 2) (hb : b < 2) : (a ^^^ b) * p = (a * p) ^^^ (b * p) := by
  have h1 : a = 0 ∨ a = 1 := by omega
  have h2 : b = 0 ∨ b = 1 := by omega
  rcases h1 with rfl | rfl <;> rcases h2 with rfl | rfl <;> simp
theorem xor4 (a b c d : Nat) : (a ^^^ b) ^^^ (c ^^^ d) = (a ^^^ c) ^^^ (b ^^^ d) := by
  rw [Nat.xor_assoc, Nat.xor_assoc, ← Nat.xor_assoc b c d, Nat.xor_comm b c, Nat.xor_assoc c b d]
theorem stp_xor (x y : Nat) : stp (x ^^^ y) = stp x ^^^ stp y := by
  unfold stp
  rw [Nat.xor_div_two, xor_mod2, bit_mul_xor _ _ _ (Nat.mod_lt _ (by omega)) (Nat.mod_lt _ (by omega)), xor4]
theorem stps_xor (x y : Nat) : ∀ k, stps k (x ^^^ y) = stps k x ^^^ stps k y := by
  intro k
  induction k with
  | zero => rfl
  | succ k ih => show stp (stps k (x ^^^ y)) = _; rw [ih, stp_xor]; rfl
theorem stps_add (a b r : Nat) : stps (a + b) r = stps a (stps b r) := by
  induction a with
  | zero => simp [stps]
  | succ a ih => rw [show a + 1 + b = (a + b) + 1 by omega]; show stp (stps (a + b) r) = stp (stps a (stps b r)); rw [ih]

/-- The exclusive or of three texts of one length, byte by byte. -/
def xor3 : List Int → List Int → List Int → List Int
  | a :: as, b :: bs, c :: cs => (((a.toNat ^^^ b.toNat) ^^^ c.toNat : Nat) : Int) :: xor3 as bs cs
  | _, _, _ => []
theorem byteStep_xor3 (x y z : Nat) (a b c : Int) : byteStep (x ^^^ y ^^^ z) (((a.toNat ^^^ b.toNat) ^^^ c.toNat : Nat) : Int) = byteStep x a ^^^ byteStep y b ^^^ byteStep z c := by
  unfold byteStep
  rw [Int.toNat_natCast]
  simp only [stps_xor]
  ac_rfl
theorem run_xor3 : ∀ (as bs cs : List Int) (x y z : Nat), bs.length = as.length → cs.length = as.length → run (x ^^^ y ^^^ z) (xor3 as bs cs) = run x as ^^^ run y bs ^^^ run z cs := by
  intro as
  induction as with
  | nil =>
    intro bs cs x y z hb hc
    obtain rfl : bs = [] := List.eq_nil_of_length_eq_zero hb
    obtain rfl : cs = [] := List.eq_nil_of_length_eq_zero hc
    simp [run, xor3]
  | cons a as ih =>
    intro bs cs x y z hb hc
    match bs, cs, hb, hc with
    | b :: bs, c :: cs, hb, hc =>
      have h := ih bs cs (byteStep x a) (byteStep y b) (byteStep z c) (by simpa using hb) (by simpa using hc)
      rw [← byteStep_xor3] at h
      exact h
theorem more_xor3 (as bs cs : List Int) (hb : bs.length = as.length) (hc : cs.length = as.length) : moreN 0 (xor3 as bs cs) = moreN 0 as ^^^ moreN 0 bs ^^^ moreN 0 cs := by
  unfold moreN
  have h := run_xor3 as bs cs (0 ^^^ allOnes) (0 ^^^ allOnes) (0 ^^^ allOnes) hb hc
  have e : (0 ^^^ allOnes) ^^^ (0 ^^^ allOnes) ^^^ (0 ^^^ allOnes) = 0 ^^^ allOnes := by rw [Nat.xor_self, Nat.zero_xor]
  rw [e] at h
  rw [h]
  generalize run (0 ^^^ allOnes) as = p
  generalize run (0 ^^^ allOnes) bs = q
  generalize run (0 ^^^ allOnes) cs = r
  generalize allOnes = m
  apply Nat.eq_of_testBit_eq
  intro i
  simp only [Nat.testBit_xor]
  cases p.testBit i <;> cases q.testBit i <;> cases r.testBit i <;> cases m.testBit i <;> rfl
theorem xor3_length : ∀ (as bs cs : List Int), bs.length = as.length → cs.length = as.length → (xor3 as bs cs).length = as.length := by
  intro as
  induction as with
  | nil => intro bs cs _ _; simp [xor3]
  | cons a as ih =>
    intro bs cs hb hc
    match bs, cs, hb, hc with
    | b :: bs, c :: cs, hb, hc => simp [xor3, ih bs cs (by simpa using hb) (by simpa using hc)]
theorem xor3_ix : ∀ (as bs cs : List Int), bs.length = as.length → cs.length = as.length → ∀ i < as.length, ix (xor3 as bs cs) i = ((((ix as i).toNat ^^^ (ix bs i).toNat) ^^^ (ix cs i).toNat : Nat) : Int) := by
  intro as
  induction as with
  | nil => intro bs cs _ _ i hi; simp at hi
  | cons a as ih =>
    intro bs cs hb hc i hi
    match bs, cs, hb, hc with
    | b :: bs, c :: cs, hb, hc =>
      cases i with
      | zero => simp [xor3, ix]
      | succ i =>
        have := ih bs cs (by simpa using hb) (by simpa using hc) i (by simpa using hi)
        simpa [xor3, ix] using this
end Go.Proofs.Ytcbjneidjbfheab.ByteP
