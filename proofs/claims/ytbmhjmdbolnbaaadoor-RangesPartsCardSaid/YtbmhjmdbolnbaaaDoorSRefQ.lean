/-
  PURE: the document's Parse answers as the program's.
-/
import Derived.Test.YtbmhjmdbolnbaaaDoorSRefP
namespace SemP
open Go.Lib

theorem mark_no {m : Str} (h : rightMark m = true) : (45 : UInt8) ∉ m := by
  intro hc
  unfold rightMark at h
  cases hd : allDig m with
  | true =>
    have := List.all_eq_true.1 (allDig_all hd).2 _ hc
    exact absurd this (by decide)
  | false =>
    rw [hd] at h
    simp only [Bool.and_eq_true, Bool.false_eq_true, if_false] at h
    have := List.all_eq_true.1 h.2 _ hc
    exact absurd this (by decide)
theorem mem_pieces (c x : UInt8) (hx : x ≠ c) : ∀ l : Str, x ∈ l → ∃ m ∈ pieces c l, x ∈ m := by
  intro l
  induction l with
  | nil => intro h; cases h
  | cons b l ih =>
    intro h
    unfold pieces
    split
    · next e =>
      rcases List.mem_cons.1 h with h | h
      · exact absurd (h.trans e) hx
      · obtain ⟨m, hm, h2⟩ := ih h
        exact ⟨m, List.mem_cons_of_mem _ hm, h2⟩
    · split
      · next hp => exact absurd hp (pieces_ne c l)
      · next p ps hp =>
        rcases List.mem_cons.1 h with h | h
        · exact ⟨b :: p, by simp, by rw [h]; simp⟩
        · obtain ⟨m, hm, h2⟩ := ih h
          rw [hp] at hm
          rcases List.mem_cons.1 hm with hm | hm
          · exact ⟨b :: p, by simp, by rw [← hm]; exact List.mem_cons_of_mem _ h2⟩
          · exact ⟨m, List.mem_cons_of_mem _ hm, h2⟩
theorem pre_no {p : Str} (h : rightPre p = true) : (45 : UInt8) ∉ p := by
  intro hc
  obtain ⟨m, hm, h2⟩ := mem_pieces 46 45 (by decide) p hc
  exact mark_no (rightPre_all h m hm) h2
theorem pre_nil : rightPre [] = false := by rfl
theorem parse_trail (s : Str) (h0 : 0 < s.length) (h : s.getD (s.length - 1) 0 = 45) : parseV s = none := by
  have hm : (45 : UInt8) ∈ s := by
    rw [← h]
    have : s.length - 1 < s.length := by omega
    simp [List.getD, this]
  rcases cut_pieces s 45 with ⟨p, r, h1, _, h3, h4⟩ | ⟨_, _, h3⟩
  · have hr : rightPre r = false := by
      cases hb : rightPre r with
      | false => rfl
      | true =>
        exfalso
        cases r with
        | nil => rw [pre_nil] at hb; cases hb
        | cons x r =>
          apply pre_no hb
          rw [h3] at h
          have e1 : (p ++ 45 :: x :: r).length - 1 = p.length + (r.length + 1) := by simp
          rw [e1] at h
          have : (p ++ 45 :: x :: r).getD (p.length + (r.length + 1)) 0 = (x :: r).getD r.length 0 := by
            simp [List.getD]
          rw [this] at h
          rw [← h]
          simp [List.getD]
    unfold parseV
    rw [h1]
    simp [hr]
  · exact absurd hm h3
/-- The numbers of a core, and a Pre. -/
def parse3 (core pre : Str) : Option Ver :=
  match pieces 46 core with
  | [x, y, z] => match num x, num y, num z with
    | some a, some b, some d => some ⟨a, b, d, pre⟩
    | _, _, _ => none
  | _ => none
theorem num_nil : num [] = none := by rfl
theorem num_dot {l : Str} (h : (46 : UInt8) ∈ l) : num l = none := by
  cases hn : num l with
  | none => rfl
  | some n => exact absurd h (num_no hn (by decide))
theorem parse3_of (core pre : Str) : parse3 core pre =
    (let p := cut core [46]
     let q := cut p.2.1 [46]
     match num p.1, num q.1, num q.2.1 with
     | some a, some b, some d => some ⟨a, b, d, pre⟩
     | _, _, _ => none) := by
  unfold parse3
  simp only
  rcases cut_pieces core 46 with ⟨p1, r1, h1, h2, _, _⟩ | ⟨h1, h2, _⟩
  · rw [h1, h2]
    simp only
    rcases cut_pieces r1 46 with ⟨p2, r2, g1, g2, _, _⟩ | ⟨g1, g2, _⟩
    · rw [g1, g2]
      simp only
      rcases cut_pieces r2 46 with ⟨p3, r3, k1, k2, k3, _⟩ | ⟨k1, k2, _⟩
      · rw [k2]
        have : num r2 = none := num_dot (by rw [k3]; simp)
        rw [this]
        cases hpp : pieces 46 r3 with
        | nil => exact absurd hpp (pieces_ne _ _)
        | cons u us => cases num p1 <;> cases num p2 <;> rfl
      · rw [k2]
    · rw [g1, g2]
      simp only [num_nil]
      cases num p1 <;> cases num r1 <;> rfl
  · rw [h1, h2]
    simp only
    rw [show cut ([] : Str) [46] = ([], [], false) from cut_miss [] 46 (by simp)]
    simp only [num_nil]
    cases num core <;> rfl
theorem parse_miss {s : Str} (h : (45 : UInt8) ∉ s) : parseV s = parse3 s [] := by
  rw [parse3_of]; unfold parseV; rw [cut_miss s 45 h]
  simp only [Bool.false_and, Bool.false_eq_true, if_false]
  rfl
theorem parse_hit {p r : Str} (h : (45 : UInt8) ∉ p) : parseV (p ++ 45 :: r) = if rightPre r = true then parse3 p r else none := by
  cases hb : rightPre r with
  | false => rw [if_neg (by simp)]; unfold parseV; rw [cut_hit p r 45 h]; simp [hb]
  | true =>
    rw [if_pos rfl, parse3_of]; unfold parseV; rw [cut_hit p r 45 h]
    simp only [hb, Bool.not_true, Bool.and_false, Bool.false_eq_true, if_false]
    rfl

/-- What the document's loop has found from i on: no '-', or the first one at k. -/
def DashAt (s : Str) (i : Nat) (e : Nat) (pre : Str) : Prop :=
  i ≤ s.length ∧ (((45 : UInt8) ∉ s.drop i ∧ e = s.length ∧ pre = []) ∨ (i ≤ e ∧ e < s.length ∧ s.getD e 0 = 45 ∧ (45 : UInt8) ∉ (s.drop i).take (e - i) ∧ pre = s.drop (e + 1) ∧ pre ≠ []))
theorem DashAt.start (s : Str) : DashAt s s.length s.length [] := ⟨Nat.le_refl _, .inl ⟨by simp, rfl, rfl⟩⟩
theorem drop_cons' {s : Str} {i : Nat} (hi : i < s.length) : s.drop i = s.getD i 0 :: s.drop (i + 1) := by
  rw [List.drop_eq_getElem_cons hi]; simp [List.getD, hi]
theorem DashAt.skip {s : Str} {i e : Nat} {pre : Str} (h : DashAt s (i + 1) e pre) (hne : s.getD i 0 ≠ 45) : DashAt s i e pre := by
  obtain ⟨h0, h⟩ := h
  refine ⟨by omega, ?_⟩
  have hd := drop_cons' (s := s) (i := i) (by omega)
  rcases h with ⟨h1, h2, h3⟩ | ⟨h1, h2, h3, h4, h5, h6⟩
  · refine .inl ⟨?_, h2, h3⟩
    rw [hd]; simp only [List.mem_cons, not_or]; exact ⟨fun e => hne e.symm, h1⟩
  · refine .inr ⟨by omega, h2, h3, ?_, h5, h6⟩
    rw [hd, show e - i = (e - (i + 1)) + 1 by omega, List.take_succ_cons]
    simp only [List.mem_cons, not_or]; exact ⟨fun e => hne e.symm, h4⟩
theorem DashAt.hit {s : Str} {i e : Nat} {pre : Str} (h : DashAt s (i + 1) e pre) (he : s.getD i 0 = 45) (hn : s.drop (i + 1) ≠ []) : DashAt s i i (s.drop (i + 1)) := by
  refine ⟨by have := h.1; omega, .inr ⟨Nat.le_refl _, by have := h.1; omega, he, by simp, rfl, hn⟩⟩
theorem DashAt.le {s : Str} {i e : Nat} {pre : Str} (h : DashAt s i e pre) : e ≤ s.length := by
  rcases h.2 with ⟨_, h, _⟩ | ⟨_, h, _⟩ <;> omega
theorem DashAt.fin {s : Str} {e : Nat} {pre : Str} (h : DashAt s 0 e pre) : parseV s = if (pre.isEmpty || rightPre pre) = true then parse3 (s.take e) pre else none := by
  rcases h.2 with ⟨h1, h2, h3⟩ | ⟨h1, h2, h3, h4, h5, h6⟩
  · subst h2 h3
    rw [parse_miss (by simpa using h1)]
    simp
  · have hp : s = s.take e ++ 45 :: pre := by
      have := drop_parts s 0 e (Nat.zero_le _) h2
      rw [h3, ← h5] at this
      simpa using this
    have hh := parse_hit (p := s.take e) (r := pre) (by simpa using h4)
    rw [← hp] at hh
    rw [hh]
    have : pre.isEmpty = false := by cases pre with
      | nil => exact absurd rfl h6
      | cons x l => rfl
    rw [this, Bool.false_or]
end SemP
