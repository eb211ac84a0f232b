/-
  The document's reader's end, over whatever state.
-/
import Derived.Test.YtmfoammkcokcoaaPRp
import Derived.Test.YtmfoammkcokcoaaPPu
namespace Go.Proofs.Ytmfoammkcokcoaa
open Go.RowKit
open ByteP CodeP
set_option linter.unusedVariables false
set_option maxRecDepth 10000
set_option maxHeartbeats 2000000 in
theorem endRQ_any {w : World} {rb B p : Nat} {bs : List Int} {e : Int} (h : Rfr w rb B bs p e) (hl : bs.length ≤ 1000000000) :
    Calls Try.prog 17 #[.pointer (some ⟨rb, 0, none⟩)] w fun en w' => en = .returned (.int .i64 (endE e (bs.drop p))) ∧ w.grownBy w' (some rb) ∧ Rfr w' rb B bs p (endE e (bs.drop p)) := by
  obtain ⟨A, c, hrow, _⟩ := h.row
  obtain ⟨hc0, hc1, hc2, _, _⟩ := row3E hrow
  have HFL := Lib.hid (fun d => failR_any (h.drewN d) 12)
  have hle := h.le
  have HRF0 := Lib.hid (fun d => h.drewN d)
  clear h hrow
  by_cases hp : p < bs.length
  · have hz : decide (p < bs.length) = true := decide_eq_true hp
    have hz2 : decide ((p : Int) < (bs.length : Int)) = true := by simp; omega
    have HE : Hid (endE e (bs.drop p) = if e = 0 then 12 else e) := Lib.hid (by
      by_cases he : e = 0
      · subst he
        rw [endE_zero (by intro h; have := congrArg List.length h; simp at this; omega), if_pos rfl]
      · rw [endE_err he, if_neg he])
    rw [HE.out]
    clear HE hp
    obtain ⟨e', HE'⟩ : ∃ e', Hid ((if e = 0 then 12 else e) = e') := ⟨_, Lib.hid rfl⟩
    rw [HE'.out]
    go_enter Try.func17, Try.ntmps17
    go_wp2_with fail
    go_quiet (fail)
    go_wp2_with fail
    refine (HFL.out _).mono ?_
    rintro en w2 ⟨rfl, h2, hg2⟩
    rw [HE'.out] at h2
    have HG : Hid (w.grownBy w2 (some rb)) := Lib.hid (grown_add (grown_drewN (World.grownBy.refl w _) _) hg2)
    obtain ⟨A', c', hrow', _⟩ := h2.row
    obtain ⟨hd0, hd1, hd2, _, _⟩ := row3E hrow'
    have H2 := Lib.hid h2
    clear h2 hg2 hrow'
    go_wp2
    go_ret
    exact ⟨rfl, HG.out, H2.out⟩
  · have hz : decide (p < bs.length) = false := decide_eq_false hp
    have hz2 : decide ((p : Int) < (bs.length : Int)) = false := by simp; omega
    rw [List.drop_eq_nil_of_le (by omega), endE_nil]
    clear hp
    go_enter Try.func17, Try.ntmps17
    go_wp2_with fail
    go_quiet (fail)
    go_wp2
    go_ret
    exact ⟨rfl, grown_drewN (World.grownBy.refl w _) _, HRF0.out _⟩
theorem endQ_any {w : World} {rb B : Nat} {bs : List Int} {s : Sum Int (List Int)} (h : StQ w rb B bs s) (hl : bs.length ≤ 1000000000) :
    Calls Try.prog 17 #[.pointer (some ⟨rb, 0, none⟩)] w fun en w' => en = .returned (.int .i64 (endS s)) ∧ w.grownBy w' (some rb) ∧ w'.cell? ⟨rb, 2, none⟩ = some (.int .i64 (endS s)) := by
  have key : ∃ p e, Rfr w rb B bs p e ∧ endE e (bs.drop p) = endS s := by
    cases s with
    | inl e =>
      obtain ⟨he, p, hp⟩ := h
      exact ⟨p, e, hp, endE_err (by omega) _⟩
    | inr r =>
      obtain ⟨p, hp, hr⟩ := h
      refine ⟨p, 0, hp, ?_⟩
      rw [hr]
      by_cases h0 : r = []
      · subst h0; rfl
      · rw [endE_zero h0]; exact (if_neg h0).symm
  obtain ⟨p, e, hp, he⟩ := key
  refine (endRQ_any hp hl).mono ?_
  rintro en w' ⟨rfl, hg, hf⟩
  rw [he] at hf ⊢
  obtain ⟨A, c, hrow, _⟩ := hf.row
  exact ⟨rfl, hg, (row3E hrow).2.2.1⟩
end Go.Proofs.Ytmfoammkcokcoaa
