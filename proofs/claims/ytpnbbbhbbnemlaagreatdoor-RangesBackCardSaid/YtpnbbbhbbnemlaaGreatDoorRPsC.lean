/-
  PURE: the document's comparison of a text is the program's.
-/
import Derived.Test.YtpnbbbhbbnemlaaGreatDoorRPsP
namespace Go.Proofs.YtpnbbbhbbnemlaaGreatDoor
open Go.RowKit
open SemP
set_option linter.unusedSimpArgs false
set_option linter.unusedVariables false
theorem sign_nil : signR [] = (0, false) := by rfl
theorem sign_cons (a : UInt8) (r : Str) : signR (a :: r) =
    if a = 42 then (0, true) else if a = 61 then (1, true) else if a = 60 then (if r.head? = some 61 then (3, true) else (2, true)) else if a = 62 then (if r.head? = some 61 then (5, true) else (4, true)) else if a = 94 then (6, true) else if a = 126 then (7, true) else (0, false) := by
  unfold signR
  by_cases h1 : a = 42
  · subst h1; cases r <;> simp [foldS, Lib.hasPrefix, sg, sgL]
  · by_cases h2 : a = 61
    · subst h2; cases r <;> simp [foldS, Lib.hasPrefix, sg, sgL]
    · by_cases h3 : a = 60
      · subst h3
        cases r with
        | nil => simp [foldS, Lib.hasPrefix, sg, sgL]
        | cons b r =>
          by_cases hb : b = 61
          · subst hb; simp [foldS, Lib.hasPrefix, sg, sgL]
          · have hb' : ¬ (61 : UInt8) = b := fun e => hb e.symm
            simp [foldS, Lib.hasPrefix, sg, sgL, hb, hb']
      · by_cases h4 : a = 62
        · subst h4
          cases r with
          | nil => simp [foldS, Lib.hasPrefix, sg, sgL]
          | cons b r =>
            by_cases hb : b = 61
            · subst hb; simp [foldS, Lib.hasPrefix, sg, sgL]
            · have hb' : ¬ (61 : UInt8) = b := fun e => hb e.symm
              simp [foldS, Lib.hasPrefix, sg, sgL, hb, hb']
        · have h1' : ¬ (42 : UInt8) = a := fun e => h1 e.symm
          have h2' : ¬ (61 : UInt8) = a := fun e => h2 e.symm
          have h3' : ¬ (60 : UInt8) = a := fun e => h3 e.symm
          have h4' : ¬ (62 : UInt8) = a := fun e => h4 e.symm
          by_cases h5 : a = 94
          · subst h5; simp [foldS, Lib.hasPrefix, sg, sgL]
          · have h5' : ¬ (94 : UInt8) = a := fun e => h5 e.symm
            by_cases h6 : a = 126
            · subst h6; simp [foldS, Lib.hasPrefix, sg, sgL]
            · have h6' : ¬ (126 : UInt8) = a := fun e => h6 e.symm
              simp [foldS, Lib.hasPrefix, sg, sgL, h1, h2, h3, h4, h5, h6, h1', h2', h3', h4', h5', h6']
/-- A text that begins with '=' is no version. -/
theorem cut_head (a : UInt8) (r : Str) (c : UInt8) (h : a ≠ c) : ∃ q, (Lib.cut (a :: r) [c]).1 = a :: q := by
  have hp : ¬ ([c].isPrefixOf (a :: r)) = true := by simp; exact fun e => h e.symm
  have hg := Lib.index_ge r [c]
  have e1 : Lib.index (a :: r) [c] = if Lib.index r [c] == -1 then -1 else Lib.index r [c] + 1 := by
    rw [Lib.index, if_neg hp]
  by_cases hm : Lib.index r [c] = -1
  · rw [if_pos (by rw [hm]; rfl)] at e1
    unfold Lib.cut
    rw [e1, if_neg (by decide)]; exact ⟨r, rfl⟩
  · rw [if_neg (by intro e; exact hm (beq_iff_eq.1 e))] at e1
    obtain ⟨n, hn⟩ : ∃ n : Nat, Lib.index r [c] = n := ⟨(Lib.index r [c]).toNat, by omega⟩
    rw [hn] at e1
    unfold Lib.cut
    rw [e1, if_pos (by omega)]
    refine ⟨r.take n, ?_⟩
    have e : ((n : Int) + 1).toNat = n + 1 := by omega
    rw [e]; rfl
theorem parse_eq61 (r : Str) : parseV (61 :: r) = none := by
  obtain ⟨q, hq⟩ := cut_head 61 r 45 (by decide)
  obtain ⟨q2, hq2⟩ := cut_head 61 q 46 (by decide)
  have hn : num (61 :: q2) = none := by
    cases h : num (61 :: q2) with
    | none => rfl
    | some n => exact absurd (List.mem_cons_self) (num_no h (by decide))
  unfold parseV
  simp only
  split
  · rfl
  · rw [show (Lib.cut (Lib.cut (61 :: r) [45]).1 [46]).1 = 61 :: q2 by rw [hq]; exact hq2, hn]
theorem num_right {l : Str} {n : Nat} (h : num l = some n) : rightN (n : Int) = true := by
  have := (digits_of_num h).2
  unfold rightN; simp; omega
theorem parse_right {x : Str} {v : Ver} (h : parseV x = some v) : v.right = true := by
  unfold parseV at h
  simp only at h
  split at h
  · cases h
  · next hc =>
    split at h
    · next a b d h1 h2 h3 =>
      injection h with h
      subst h
      have hpre : ((Lib.cut x [45]).2.1.isEmpty || rightPre (Lib.cut x [45]).2.1) = true := by
        cases hd : (Lib.cut x [45]).2.2 with
        | true =>
          rw [hd] at hc
          cases hr : rightPre (Lib.cut x [45]).2.1 with
          | true => simp
          | false => rw [hr] at hc; exact absurd rfl hc
        | false =>
          have e : (Lib.cut x [45]).2.1 = [] := by
            unfold Lib.cut at hd ⊢
            split at hd
            · cases hd
            · next hh => rw [if_neg hh]
          rw [e]; rfl
      unfold Ver.right
      simp only
      rw [num_right h1, num_right h2, num_right h3, hpre]; rfl
    · cases h
/-- A sign's text at a text's head. -/
theorem pre_drop {s p : Str} (h : Lib.hasPrefix s p = true) : ∃ r, s = p ++ r := by
  unfold Lib.hasPrefix at h
  obtain ⟨r, hr⟩ := List.isPrefixOf_iff_prefix.1 h
  exact ⟨r, hr.symm⟩
theorem comp_star : parseC [42] = (zeroC, true) := by rfl
theorem comp_hit {s : Str} {o : Nat} {v : Ver} (ho : 1 ≤ o ∧ o < 8) (hp : Lib.hasPrefix s (sg o) = true) (hv : parseV (s.drop (sg o).length) = some v) : parseC s = (⟨(o : Int), v.major, v.minor, v.patch, mk v.pre⟩, true) := by
  obtain ⟨r, rfl⟩ := pre_drop hp
  rw [List.drop_left] at hv
  have hs : signR (sg o ++ r) = (o, true) := by
    have hcs : o = 1 ∨ o = 2 ∨ o = 3 ∨ o = 4 ∨ o = 5 ∨ o = 6 ∨ o = 7 := by omega
    rcases hcs with rfl | rfl | rfl | rfl | rfl | rfl | rfl
    · rw [show sg 1 ++ r = 61 :: r from rfl, sign_cons]; simp
    · have hne : r.head? ≠ some 61 := by
        intro e
        cases r with
        | nil => cases e
        | cons b r => simp at e; subst e; rw [parse_eq61] at hv; cases hv
      rw [show sg 2 ++ r = 60 :: r from rfl, sign_cons]; simp [hne]
    · rw [show sg 3 ++ r = 60 :: 61 :: r from rfl, sign_cons]; simp
    · have hne : r.head? ≠ some 61 := by
        intro e
        cases r with
        | nil => cases e
        | cons b r => simp at e; subst e; rw [parse_eq61] at hv; cases hv
      rw [show sg 4 ++ r = 62 :: r from rfl, sign_cons]; simp [hne]
    · rw [show sg 5 ++ r = 62 :: 61 :: r from rfl, sign_cons]; simp
    · rw [show sg 6 ++ r = 94 :: r from rfl, sign_cons]; simp
    · rw [show sg 7 ++ r = 126 :: r from rfl, sign_cons]; simp
  unfold parseC
  rw [hs]
  simp only
  rw [if_neg (by decide), if_neg (by omega), List.drop_left, hv]
theorem sign_pre {s : Str} {o : Nat} (h : signR s = (o, true)) : o < 8 ∧ Lib.hasPrefix s (sg o) = true := by
  cases s with
  | nil => rw [sign_nil] at h; cases h
  | cons a r =>
    rw [sign_cons] at h
    split at h
    · next e => injection h with h1 h2; subst h1 e; exact ⟨by decide, by simp [Lib.hasPrefix, sg, sgL]⟩
    · split at h
      · next e => injection h with h1 h2; subst h1 e; exact ⟨by decide, by simp [Lib.hasPrefix, sg, sgL]⟩
      · split at h
        · next e =>
          split at h
          · next e2 =>
            injection h with h1 h2; subst h1 e
            cases r with
            | nil => cases e2
            | cons b r => simp at e2; subst e2; exact ⟨by decide, by simp [Lib.hasPrefix, sg, sgL]⟩
          · injection h with h1 h2; subst h1 e; exact ⟨by decide, by simp [Lib.hasPrefix, sg, sgL]⟩
        · split at h
          · next e =>
            split at h
            · next e2 =>
              injection h with h1 h2; subst h1 e
              cases r with
              | nil => cases e2
              | cons b r => simp at e2; subst e2; exact ⟨by decide, by simp [Lib.hasPrefix, sg, sgL]⟩
            · injection h with h1 h2; subst h1 e; exact ⟨by decide, by simp [Lib.hasPrefix, sg, sgL]⟩
          · split at h
            · next e => injection h with h1 h2; subst h1 e; exact ⟨by decide, by simp [Lib.hasPrefix, sg, sgL]⟩
            · split at h
              · next e => injection h with h1 h2; subst h1 e; exact ⟨by decide, by simp [Lib.hasPrefix, sg, sgL]⟩
              · injection h with h1 h2; cases h2
theorem comp_miss {s : Str} (hs : s ≠ [42]) (hn : ∀ o, 1 ≤ o ∧ o < 8 → Lib.hasPrefix s (sg o) = true → parseV (s.drop (sg o).length) = none) : (parseC s).2 = false := by
  unfold parseC
  cases hsr : signR s with
  | mk o b =>
    cases b with
    | false => rw [if_pos rfl]
    | true =>
      have hp := sign_pre hsr
      rw [if_neg (by simp)]
      by_cases h0 : o = 0
      · rw [if_pos h0]
        subst h0
        obtain ⟨r, rfl⟩ := pre_drop hp.2
        rw [List.drop_left]
        cases r with
        | nil => exact absurd rfl hs
        | cons b r => rfl
      · rw [if_neg h0]
        simp only
        rw [hn o (by omega) hp.2]
theorem zero_right : zeroC.right = true := by
  unfold CV.right zeroC; rw [if_pos rfl]; exact verEq_true _ _ _ _
theorem parseC_right {s : Str} (h : (parseC s).2 = true) : (parseC s).1.right = true := by
  unfold parseC at h ⊢
  cases hsr : signR s with
  | mk o b =>
    rw [hsr] at h
    cases b with
    | false => rw [if_pos rfl] at h; cases h
    | true =>
      have hp := sign_pre hsr
      rw [if_neg (by simp)] at h ⊢
      by_cases h0 : o = 0
      · rw [if_pos h0]; exact zero_right
      · rw [if_neg h0] at h ⊢
        simp only at h ⊢
        cases hv : parseV (s.drop (sg o).length) with
        | none => rw [hv] at h; cases h
        | some v =>
          exact cv_right (by omega) (parse_right hv)
end Go.Proofs.YtpnbbbhbbnemlaaGreatDoor
