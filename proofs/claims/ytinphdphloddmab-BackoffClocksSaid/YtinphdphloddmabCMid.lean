/-
  The document's lists up to a place: what they say, and what is due and next of them.
-/
import Derived.Test.YtinphdphloddmabCEq
import Derived.Test.YtinphdphloddmabCNxt
import Derived.Test.YtinphdphloddmabCTime
namespace Go.Proofs.Ytinphdphloddmab
open ByteP
set_option linter.unusedVariables false

/-- The alarms of the first i ids. -/
def cutG (G : Int → Option Int) (ids : List Int) (i : Nat) : Int → Option Int := fun x => if x ∈ ids.take i then G x else none
theorem cutG_zero (G : Int → Option Int) (ids : List Int) (x : Int) : cutG G ids 0 x = none := by unfold cutG; simp
theorem LiD.notin {G : Int → Option Int} {ids ats : List Int} {n i : Nat} (h : LiD G ids ats n) (hi : i < n) : ix ids i ∉ ids.take i := fun hm => by
  obtain ⟨j, hj, e⟩ := List.mem_iff_getElem.1 hm
  have hj' : j < i := by rw [List.length_take] at hj; omega
  have hil : i < ids.length := by rw [h.li]; exact hi
  rw [List.getElem_take] at e
  have e2 : ix ids i = ids[i] := by unfold ix; simp [List.getD, hil]
  rw [e2] at e
  have := (List.pairwise_iff_getElem.1 h.nodup) j i (by omega) hil hj'
  exact this e
theorem LiD.cut_succ {G : Int → Option Int} {ids ats : List Int} {n i : Nat} (h : LiD G ids ats n) (hi : i < n) (x : Int) :
    cutG G ids (i + 1) x = if x = ix ids i then some (ix ats i) else cutG G ids i x := by
  have hil : i < ids.length := by rw [h.li]; exact hi
  unfold cutG
  rw [take_ix ids i hil]
  by_cases e : x = ix ids i
  · subst e
    rw [if_pos (by simp), if_pos rfl, h.at_ i hi]
  · rw [if_neg e]
    simp [e]
theorem LiD.cut_all {G : Int → Option Int} {ids ats : List Int} {n : Nat} (h : LiD G ids ats n) (x : Int) : cutG G ids n x = G x := by
  unfold cutG
  rw [List.take_of_length_le (by rw [h.li]; omega)]
  by_cases hm : x ∈ ids
  · rw [if_pos hm]
  · rw [if_neg hm]
    cases hg : G x with
    | none => rfl
    | some t =>
      obtain ⟨i, hi, e⟩ := h.mem x t hg
      exact absurd (by rw [← e]; exact ix_memC (by rw [h.li]; exact hi)) hm
theorem tof_cut {G : Int → Option Int} {ids : List Int} {i : Nat} {x t : Int} (h : cutG G ids i x = some t) : G x = some t := by
  unfold cutG at h
  by_cases hm : x ∈ ids.take i
  · rw [if_pos hm] at h; exact h
  · rw [if_neg hm] at h; cases h

/-- What the document's loop has found of the first i. -/
structure ToldR (G : Int → Option Int) (ids : List Int) (now : Int) (ask : Int) (i : Nat) (L : List Int) (a : Int) (ok rd : Bool) : Prop where
  due : DueL (cutG G ids i) now L
  lex : L.Pairwise (LexG G)
  hi : ok = true → now < a ∧ ∃ x, cutG G ids i x = some a
  lo : ∀ x t, cutG G ids i x = some t → now < t → ok = true ∧ a ≤ t
  zero : ok = false → a = 0
  rdy : rd = (!(cutG G ids i ask).isSome || decide (tOf (cutG G ids i) ask ≤ now))
theorem ToldR.start (G : Int → Option Int) (ids : List Int) (now ask : Int) : ToldR G ids now ask 0 [] 0 false true :=
  ⟨⟨List.nodup_nil, fun x => ⟨fun h => (by simp at h), fun ⟨t, h, _⟩ => (by rw [cutG_zero] at h; cases h)⟩⟩, List.Pairwise.nil, fun h => (by cases h), fun x t h => (by rw [cutG_zero] at h; cases h), fun _ => rfl, by rw [cutG_zero]; rfl⟩
section
variable {G : Int → Option Int} {ids ats : List Int} {n i : Nat} {now ask a : Int} {L : List Int} {ok rd : Bool}
theorem rdy_next (hL : LiD G ids ats n) (hi : i < n) (h : ToldR G ids now ask i L a ok rd) :
    (if ix ids i = ask then decide (ix ats i ≤ now) else rd) = (!(cutG G ids (i + 1) ask).isSome || decide (tOf (cutG G ids (i + 1)) ask ≤ now)) := by
  have e1 := hL.cut_succ hi ask
  by_cases e : ix ids i = ask
  · rw [if_pos e]
    rw [if_pos e.symm] at e1
    unfold tOf
    rw [e1]
    simp
  · rw [if_neg e, h.rdy]
    rw [if_neg (fun h => e h.symm)] at e1
    unfold tOf
    rw [e1]
/-- The i-th is to come: it isn't due. -/
theorem ToldR.later (hL : LiD G ids ats n) (hi : i < n) (h : ToldR G ids now ask i L a ok rd) (ht : now < ix ats i) {a' : Int} (ha : (a' = ix ats i ∧ (ok = true → ix ats i < a)) ∨ (a' = a ∧ ok = true ∧ a ≤ ix ats i)) {rd' : Bool}
    (hr : rd' = if ix ids i = ask then decide (ix ats i ≤ now) else rd) : ToldR G ids now ask (i + 1) L a' true rd' := by
  refine ⟨⟨h.due.1, fun x => ?_⟩, h.lex, fun _ => ?_, fun x t hx hn => ⟨rfl, ?_⟩, fun h => (by cases h), hr.trans (rdy_next hL hi h)⟩
  · rw [h.due.2 x, hL.cut_succ hi x]
    by_cases e : x = ix ids i
    · rw [if_pos e]
      constructor
      · rintro ⟨t, h1, _⟩
        exfalso
        subst e
        unfold cutG at h1
        rw [if_neg (hL.notin hi)] at h1
        cases h1
      · rintro ⟨t, h1, h2⟩
        injection h1 with h1
        omega
    · rw [if_neg e]
  · rcases ha with ⟨e, h2⟩ | ⟨e, h2, h3⟩
    · exact ⟨by omega, ix ids i, by rw [hL.cut_succ hi, if_pos rfl, e]⟩
    · obtain ⟨h4, x, h5⟩ := h.hi h2
      refine ⟨by omega, x, ?_⟩
      rw [hL.cut_succ hi]
      by_cases ex : x = ix ids i
      · exfalso
        subst ex
        unfold cutG at h5
        rw [if_neg (hL.notin hi)] at h5
        cases h5
      · rw [if_neg ex, e, h5]
  · rw [hL.cut_succ hi] at hx
    by_cases ex : x = ix ids i
    · rw [if_pos ex] at hx
      injection hx with hx
      rcases ha with ⟨e, h2⟩ | ⟨e, h2, h3⟩ <;> omega
    · rw [if_neg ex] at hx
      have h1 := h.lo x t hx hn
      rcases ha with ⟨e, h2⟩ | ⟨e, h2, h3⟩
      · have := h2 h1.1; omega
      · omega
/-- The i-th is due: it is put in. -/
theorem ToldR.put (hL : LiD G ids ats n) (hi : i < n) (h : ToldR G ids now ask i L a ok rd) (ht : ix ats i ≤ now) {k : Nat} (hk : k ≤ L.length)
    (hb : ∀ j, j < k → befG G (ix ids i) (ix L j) = true) (ha : k < L.length → befG G (ix ids i) (ix L k) = false) {rd' : Bool}
    (hr : rd' = if ix ids i = ask then decide (ix ats i ≤ now) else rd) : ToldR G ids now ask (i + 1) (L.take k ++ [ix ids i] ++ L.drop k) a ok rd' := by
  have hx : ix ids i ∉ L := fun hm => by
    obtain ⟨t, h1, _⟩ := (h.due.2 _).1 hm
    unfold cutG at h1
    rw [if_neg (hL.notin hi)] at h1
    cases h1
  have hmem : ∀ y, y ∈ L.take k ++ [ix ids i] ++ L.drop k ↔ (y = ix ids i ∨ y ∈ L) := fun y => by
    have e : y ∈ L ↔ (y ∈ L.take k ∨ y ∈ L.drop k) := by rw [← List.mem_append, List.take_append_drop]
    rw [e]
    simp only [List.mem_append, List.mem_singleton]
    constructor
    · rintro ((h | h) | h)
      · exact .inr (.inl h)
      · exact .inl h
      · exact .inr (.inr h)
    · rintro (h | h | h)
      · exact .inl (.inr h)
      · exact .inl (.inl h)
      · exact .inr h
  have hnd : (L.take k ++ [ix ids i] ++ L.drop k).Nodup := by
    have h1 : (L.take k ++ [ix ids i] ++ L.drop k).Perm (ix ids i :: L) := by
      rw [List.append_assoc]
      have := List.perm_middle (a := ix ids i) (l₁ := L.take k) (l₂ := L.drop k)
      rw [List.take_append_drop] at this
      exact this
    rw [h1.nodup_iff]
    exact List.nodup_cons.2 ⟨hx, h.due.1⟩
  refine ⟨⟨hnd, fun x => ?_⟩, ?_, fun ho => ?_, fun x t hx2 hn => ?_, h.zero, hr.trans (rdy_next hL hi h)⟩
  · rw [hmem x, h.due.2 x, hL.cut_succ hi x]
    by_cases e : x = ix ids i
    · rw [if_pos e]
      exact ⟨fun _ => ⟨_, rfl, ht⟩, fun _ => .inl e⟩
    · rw [if_neg e]
      simp [e]
  · have := lex_insert h.lex hx hk hb ha
    rw [List.append_assoc]
    exact this
  · obtain ⟨h4, x, h5⟩ := h.hi ho
    refine ⟨h4, x, ?_⟩
    rw [hL.cut_succ hi]
    by_cases ex : x = ix ids i
    · exfalso
      subst ex
      unfold cutG at h5
      rw [if_neg (hL.notin hi)] at h5
      cases h5
    · rw [if_neg ex, h5]
  · rw [hL.cut_succ hi] at hx2
    by_cases ex : x = ix ids i
    · rw [if_pos ex] at hx2
      injection hx2 with hx2
      omega
    · rw [if_neg ex] at hx2
      exact h.lo x t hx2 hn
end
/-- At the end: what the program tells is the same. -/
theorem ToldR.end_ {G : Int → Option Int} {ids ats : List Int} {n : Nat} {now ask a : Int} {L : List Int} {ok rd : Bool} (hL : LiD G ids ats n) (h : ToldR G ids now ask n L a ok rd) :
    DueL G now L ∧ (ok = true → now < a ∧ ∃ x, G x = some a) ∧ (∀ x t, G x = some t → now < t → ok = true ∧ a ≤ t) ∧ rd = (!(G ask).isSome || decide (tOf G ask ≤ now)) := by
  have e : cutG G ids n = G := funext hL.cut_all
  have h1 := h.due
  have h2 := h.hi
  have h3 := h.lo
  have h4 := h.rdy
  rw [e] at h1 h2 h3 h4
  exact ⟨h1, h2, h3, h4⟩
theorem next_same {G : Int → Option Int} {now a b : Int} {ok ok2 : Bool} (h1 : ok = true → now < a ∧ ∃ x, G x = some a) (h2 : ∀ x t, G x = some t → now < t → ok = true ∧ a ≤ t) (h3 : ok = false → a = 0)
    (g1 : ok2 = true → now < b ∧ ∃ x, G x = some b) (g2 : ∀ x t, G x = some t → now < t → ok2 = true ∧ b ≤ t) (g3 : ok2 = false → b = 0) : ok = ok2 ∧ a = b := by
  cases ok with
  | false =>
    cases ok2 with
    | false => exact ⟨rfl, by rw [h3 rfl, g3 rfl]⟩
    | true =>
      obtain ⟨hb, x, hx⟩ := g1 rfl
      have := (h2 x b hx hb).1
      cases this
  | true =>
    obtain ⟨ha, x, hx⟩ := h1 rfl
    have h4 := g2 x a hx ha
    cases ok2 with
    | false => have := h4.1; cases this
    | true =>
      obtain ⟨hb, y, hy⟩ := g1 rfl
      have h5 := (h2 y b hy hb).2
      exact ⟨rfl, by omega⟩
end Go.Proofs.Ytinphdphloddmab
