/-
  PLAIN MATHEMATICS for layer 12 (forms in bytes): numbers, and lists of numbers, written and read.
-/
import Derived.Test.YtolgmoaoheflcaaYPure
namespace Go.Proofs.Ytolgmoaoheflcaa.CodeP
open ByteP
/-- A number in groups of seven bits, the lowest first. -/
def enc (n : Nat) : List Int := if n < 128 then [(n : Int)] else ((n % 128 + 128 : Nat) : Int) :: enc (n / 128)
termination_by n
decreasing_by omega
theorem enc_lt {n : Nat} (h : n < 128) : enc n = [(n : Int)] := by rw [enc, if_pos h]
theorem enc_ge {n : Nat} (h : 128 ≤ n) : enc n = ((n % 128 + 128 : Nat) : Int) :: enc (n / 128) := by rw [enc, if_neg (by omega)]
theorem enc_pos (n : Nat) : 1 ≤ (enc n).length := by
  rw [enc]; split <;> simp
theorem enc_len : ∀ (k n : Nat), n < 128 ^ (k + 1) → (enc n).length ≤ k + 1
  | 0, n, h => by rw [enc_lt (by omega)]; simp
  | k + 1, n, h => by
    by_cases hn : n < 128
    · rw [enc_lt hn]; simp
    · rw [enc_ge (by omega)]
      have := enc_len k (n / 128) (by rw [Nat.pow_succ] at h; omega)
      simp only [List.length_cons]; omega
theorem enc_six {n : Nat} (h : n ≤ 1099511627776) : (enc n).length ≤ 6 := enc_len 5 n (by omega)
/-- All numbers of a list, one behind the other. -/
def encs (l : List Nat) : List Int := (l.map enc).flatten
theorem encs_nil : encs [] = [] := rfl
theorem encs_cons (n : Nat) (l : List Nat) : encs (n :: l) = enc n ++ encs l := by simp [encs]
theorem encs_append (l m : List Nat) : encs (l ++ m) = encs l ++ encs m := by simp [encs]
theorem encs_ge (l : List Nat) : l.length ≤ (encs l).length := by
  induction l with
  | nil => simp
  | cons n l ih => rw [encs_cons, List.length_append, List.length_cons]; have := enc_pos n; omega
theorem encs_le {l : List Nat} (h : ∀ n ∈ l, n ≤ 1099511627776) : (encs l).length ≤ 6 * l.length := by
  induction l with
  | nil => simp [encs]
  | cons n l ih =>
    rw [encs_cons, List.length_append, List.length_cons]
    have := enc_six (h n (by simp))
    have := ih (fun m hm => h m (by simp [hm]))
    omega
/-- A list of numbers: how many, then each. -/
def encL (l : List Nat) : List Int := enc l.length ++ encs l

/-- Reading: k groups more, the next at place i, so much read. An error's number, or the number and what is left. -/
def rd1 : Nat → Nat → Nat → List Int → Sum Int (Nat × List Int)
  | 0, _, _, _ => .inl 12
  | _ + 1, _, _, [] => .inl 13
  | k + 1, i, acc, b :: r =>
    if 128 ≤ b then rd1 k (i + 1) (acc + b.toNat % 128 * 128 ^ i) r
    else if (b = 0 ∧ 0 < i) ∨ 1099511627776 < acc + b.toNat % 128 * 128 ^ i then .inl 12 else .inr (acc + b.toNat % 128 * 128 ^ i, r)
def num (r : List Int) : Sum Int (Nat × List Int) := rd1 6 0 0 r
/-- How many things follow. -/
def cnt (r : List Int) : Sum Int (Nat × List Int) :=
  match num r with
  | .inl e => .inl e
  | .inr (n, r') => if r'.length < n then .inl 13 else .inr (n, r')
def rdN : Nat → List Int → Sum Int (List Nat × List Int)
  | 0, r => .inr ([], r)
  | n + 1, r =>
    match num r with
    | .inl e => .inl e
    | .inr (x, r1) =>
      match rdN n r1 with
      | .inl e => .inl e
      | .inr (l, r2) => .inr (x :: l, r2)
/-- A list of numbers. -/
def lst (r : List Int) : Sum Int (List Nat × List Int) :=
  match cnt r with
  | .inl e => .inl e
  | .inr (n, r') => rdN n r'
/-- Nothing may be left. -/
def all (r : List Int) : Sum Int (List Nat) :=
  match lst r with
  | .inl e => .inl e
  | .inr (l, r') => if r' = [] then .inr l else .inl 12

theorem rd1_err : ∀ (k i acc : Nat) (r : List Int) (e : Int), rd1 k i acc r = .inl e → e = 12 ∨ e = 13
  | 0, _, _, _, e, h => by unfold rd1 at h; injection h with h; omega
  | _ + 1, _, _, [], e, h => by unfold rd1 at h; injection h with h; omega
  | k + 1, i, acc, b :: r, e, h => by
    unfold rd1 at h
    split at h
    · exact rd1_err k _ _ r e h
    · split at h
      · injection h with h; omega
      · cases h
/-- What is read is what was written. -/
theorem rd1_enc : ∀ (k i acc m : Nat) (r : List Int), m < 128 ^ k → acc + m * 128 ^ i ≤ 1099511627776 → (0 < i → 0 < m) → 0 < k → rd1 k i acc (enc m ++ r) = .inr (acc + m * 128 ^ i, r)
  | 0, _, _, _, _, _, _, _, h => absurd h (by omega)
  | k + 1, i, acc, m, r, hm, hle, h0, _ => by
    by_cases h : m < 128
    · rw [enc_lt h]
      simp only [List.singleton_append, rd1]
      rw [if_neg (by omega)]
      have e1 : ((m : Int)).toNat % 128 = m := by rw [Int.toNat_natCast]; exact Nat.mod_eq_of_lt h
      rw [e1, if_neg (fun h => by
        rcases h with ⟨h1, h2⟩ | h
        · have := h0 h2; omega
        · omega)]
    · rw [enc_ge (by omega)]
      simp only [List.cons_append, rd1]
      rw [if_pos (by omega)]
      have e1 : (((m % 128 + 128 : Nat) : Int)).toNat % 128 = m % 128 := by rw [Int.toNat_natCast]; omega
      rw [e1]
      have e2 : m * 128 ^ i = m % 128 * 128 ^ i + m / 128 * 128 ^ (i + 1) := by
        rw [Nat.pow_succ, Nat.mul_comm (128 ^ i) 128, ← Nat.mul_assoc, ← Nat.add_mul]
        congr 1
        omega
      have hk : 0 < k := by
        rcases Nat.eq_zero_or_pos k with h0 | h0
        · subst h0; simp at hm; omega
        · exact h0
      rw [rd1_enc k (i + 1) _ (m / 128) r (by rw [Nat.pow_succ] at hm; omega) (by omega) (by omega) hk]
      congr 2
      omega
theorem num_enc {n : Nat} (h : n ≤ 1099511627776) (r : List Int) : num (enc n ++ r) = .inr (n, r) := by
  have := rd1_enc 6 0 0 n r (by omega) (by omega) (by omega) (by omega)
  unfold num
  rw [this]
  simp
theorem rd1_back : ∀ (k i acc : Nat) (r : List Int) (n : Nat) (r' : List Int), Bytes r → rd1 k i acc r = .inr (n, r') → n ≤ 1099511627776 ∧ ∃ m, n = acc + m * 128 ^ i ∧ r = enc m ++ r' ∧ (0 < i → 0 < m)
  | 0, _, _, _, _, _, _, h => by unfold rd1 at h; cases h
  | _ + 1, _, _, [], _, _, _, h => by unfold rd1 at h; cases h
  | k + 1, i, acc, b :: r, n, r', hb, h => by
    have hb0 := hb 0
    have e0 : ix (b :: r) 0 = b := rfl
    rw [e0] at hb0
    have hbr : Bytes r := fun j => by have := hb (j + 1); simpa [ix] using this
    unfold rd1 at h
    split at h
    · next h1 =>
      obtain ⟨hn, m, e1, e2, e3⟩ := rd1_back k (i + 1) _ r n r' hbr h
      refine ⟨hn, b.toNat % 128 + 128 * m, ?_, ?_, fun _ => by have := e3 (by omega); omega⟩
      · rw [e1, Nat.pow_succ, Nat.add_mul, Nat.mul_comm (128 ^ i) 128, ← Nat.mul_assoc, Nat.mul_comm m 128]
        omega
      · have h3 := e3 (by omega)
        rw [enc_ge (by omega), e2]
        have e4 : ((b.toNat % 128 + 128 * m) % 128 + 128 : Nat) = b.toNat := by omega
        have e5 : (b.toNat % 128 + 128 * m) / 128 = m := by omega
        rw [e4, e5]
        have e6 : ((b.toNat : Nat) : Int) = b := by omega
        rw [e6]; rfl
    · next h1 =>
      split at h
      · cases h
      · next h2 =>
        injection h with h
        injection h with h3 h4
        have hbb : b.toNat % 128 = b.toNat := Nat.mod_eq_of_lt (by omega)
        refine ⟨by omega, b.toNat, by rw [← h3, hbb], ?_, fun h0 => ?_⟩
        · rw [enc_lt (by omega), h4]
          have e6 : ((b.toNat : Nat) : Int) = b := by omega
          rw [e6]; rfl
        · rcases Nat.eq_zero_or_pos b.toNat with h5 | h5
          · exact absurd (.inl ⟨by omega, h0⟩) h2
          · exact h5
theorem num_back {r : List Int} {n : Nat} {r' : List Int} (hb : Bytes r) (h : num r = .inr (n, r')) : n ≤ 1099511627776 ∧ r = enc n ++ r' := by
  obtain ⟨hn, m, e1, e2, _⟩ := rd1_back 6 0 0 r n r' hb h
  have e3 : m = n := by simpa using e1.symm
  rw [e3] at e2
  exact ⟨hn, e2⟩
theorem bytes_right {a b : List Int} (h : Bytes (a ++ b)) : Bytes b := fun i => by
  have := h (a.length + i)
  have e : ix (a ++ b) (a.length + i) = ix b i := by
    unfold ix
    simp only [List.getD_eq_getElem?_getD, List.getElem?_append]
    rw [if_neg (by omega), Nat.add_sub_cancel_left]
  rw [e] at this
  exact this
theorem rdN_encs : ∀ (l : List Nat) (r : List Int), (∀ n ∈ l, n ≤ 1099511627776) → rdN l.length (encs l ++ r) = .inr (l, r)
  | [], r, _ => rfl
  | n :: l, r, h => by
    rw [encs_cons, List.append_assoc, List.length_cons]
    unfold rdN
    rw [num_enc (h n (by simp))]
    simp only
    rw [rdN_encs l r (fun m hm => h m (by simp [hm]))]
theorem rdN_back : ∀ (n : Nat) (r : List Int) (l : List Nat) (r' : List Int), Bytes r → rdN n r = .inr (l, r') → l.length = n ∧ (∀ m ∈ l, m ≤ 1099511627776) ∧ r = encs l ++ r'
  | 0, r, l, r', _, h => by
    unfold rdN at h
    injection h with h
    injection h with h1 h2
    subst h1 h2
    exact ⟨rfl, (fun m hm => by simp at hm), rfl⟩
  | n + 1, r, l, r', hb, h => by
    unfold rdN at h
    split at h
    · cases h
    · next x r1 hx =>
      obtain ⟨hx1, hx2⟩ := num_back hb hx
      have hb1 : Bytes r1 := by rw [hx2] at hb; exact bytes_right hb
      split at h
      · cases h
      · next l' r2 hl =>
        injection h with h
        injection h with h1 h2
        subst h1 h2
        obtain ⟨q1, q2, q3⟩ := rdN_back n r1 l' r2 hb1 hl
        refine ⟨by simp [q1], fun m hm => ?_, by rw [hx2, q3, encs_cons, List.append_assoc]⟩
        rcases List.mem_cons.1 hm with e | e
        · rw [e]; exact hx1
        · exact q2 m e
theorem lst_enc {l : List Nat} (h : ∀ n ∈ l, n ≤ 1099511627776) (hl : l.length ≤ 1099511627776) (r : List Int) : lst (encL l ++ r) = .inr (l, r) := by
  unfold lst cnt encL
  rw [List.append_assoc, num_enc hl]
  simp only
  rw [if_neg (by rw [List.length_append]; have := encs_ge l; omega)]
  exact rdN_encs l r h
theorem all_enc {l : List Nat} (h : ∀ n ∈ l, n ≤ 1099511627776) (hl : l.length ≤ 1099511627776) : all (encL l) = .inr l := by
  have := lst_enc h hl []
  rw [List.append_nil] at this
  unfold all
  rw [this]
  rfl
theorem lst_back {r : List Int} {l : List Nat} {r' : List Int} (hb : Bytes r) (h : lst r = .inr (l, r')) : (∀ n ∈ l, n ≤ 1099511627776) ∧ l.length ≤ 1099511627776 ∧ r = encL l ++ r' := by
  unfold lst cnt at h
  split at h
  · cases h
  · next n r1 hx =>
    split at hx
    · cases hx
    · next n2 r2 hn =>
      split at hx
      · cases hx
      · injection hx with hx
        injection hx with h1 h2
        subst h1 h2
        obtain ⟨q1, q2⟩ := num_back hb hn
        have hb1 : Bytes r2 := by rw [q2] at hb; exact bytes_right hb
        obtain ⟨p1, p2, p3⟩ := rdN_back _ _ _ _ hb1 h
        refine ⟨p2, by omega, ?_⟩
        unfold encL
        rw [p1, List.append_assoc, ← p3, ← q2]
theorem all_back {r : List Int} {l : List Nat} (hb : Bytes r) (h : all r = .inr l) : (∀ n ∈ l, n ≤ 1099511627776) ∧ l.length ≤ 1099511627776 ∧ r = encL l := by
  unfold all at h
  split at h
  · cases h
  · next l' r' hl =>
    split at h
    · next hr =>
      injection h with h
      subst h hr
      have := lst_back hb hl
      rw [List.append_nil] at this
      exact this
    · cases h
theorem bytes_nil : Bytes [] := fun i => by simp [ix]
theorem bytes_cons {b : Int} {l : List Int} (h0 : 0 ≤ b) (h1 : b ≤ 255) (h : Bytes l) : Bytes (b :: l) := fun i => by
  cases i with
  | zero => exact ⟨h0, h1⟩
  | succ i => exact h i
theorem bytes_append {a b : List Int} (ha : Bytes a) (hb : Bytes b) : Bytes (a ++ b) := by
  induction a with
  | nil => exact hb
  | cons x a ih => exact bytes_cons (ha 0).1 (ha 0).2 (ih (fun i => ha (i + 1)))
theorem enc_bytes (n : Nat) : Bytes (enc n) := by
  induction n using Nat.strongRecOn with
  | _ n ih =>
    by_cases h : n < 128
    · rw [enc_lt h]; exact bytes_cons (by omega) (by omega) bytes_nil
    · rw [enc_ge (by omega)]; exact bytes_cons (by omega) (by omega) (ih _ (by omega))
theorem encs_bytes (l : List Nat) : Bytes (encs l) := by
  induction l with
  | nil => exact bytes_nil
  | cons n l ih => rw [encs_cons]; exact bytes_append (enc_bytes n) ih
theorem encL_bytes (l : List Nat) : Bytes (encL l) := bytes_append (enc_bytes _) (encs_bytes l)
end Go.Proofs.Ytolgmoaoheflcaa.CodeP
