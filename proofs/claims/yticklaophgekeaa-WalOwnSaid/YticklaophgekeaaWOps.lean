/-
  CONTRACTS of package wal, over this translation: heed, checkOpen, lay.
-/
import Derived.Test.YticklaophgekeaaWLog
import Derived.Test.YticklaophgekeaaWFrm
import Derived.Test.YticklaophgekeaaKAll
namespace Go.Proofs.Yticklaophgekeaa
open Go.RowKit
open ByteP
set_option linter.unusedVariables false
set_option maxRecDepth 10000
section
variable {w : World} {D : Nat → Prop} {B0 lb : Nat} {v : LgV} {bs : List Int} {rs : List (List Int)}
theorem heed_other (w : World) (p : Value) {e : Int} (he : e ≠ 51) : Calls Try.prog 44 #[p, .int .i64 e] w fun r w' => r = .returned (.int .i64 e) ∧ w' = w := by
  have d1 : (e == 51) = false := beq_eq_false_iff_ne.2 he
  go_enter Try.func44, Try.ntmps44
  go_wp2
  go_ret
  exact ⟨rfl, rfl⟩
theorem checkOpen_ok (h : Lg w D B0 lb v bs rs) (hc : v.cl = false) {A : Option Addr} {n c : Nat} (hn : n ≤ 65535) : Calls Try.prog 42 #[.pointer (some ⟨lb, 0, none⟩), .slice A n c] w fun r w' => r = .returned (.int .i64 0) ∧ w' = w := by
  have c5 := h.c5
  rw [hc] at c5
  have d1 : decide ((65535 : Int) < (n : Int)) = false := by simp; omega
  clear h
  go_enter Try.func42, Try.ntmps42
  go_wp2
  go_ret
  exact ⟨rfl, rfl⟩
theorem name_any (h : Lg w D B0 lb v bs rs) : Calls Try.prog 16 #[.pointer (some ⟨lb, 0, none⟩)] w fun r w' => r = .returned (.int .i64 v.nm) ∧ w' = w := by
  have c1 := h.c1
  clear h
  go_enter Try.func16, Try.ntmps16
  go_wp2
  go_ret
  exact ⟨rfl, rfl⟩
theorem lsize_any (h : Lg w D B0 lb v bs rs) : Calls Try.prog 17 #[.pointer (some ⟨lb, 0, none⟩)] w fun r w' => r = .returned (.int .i64 v.sz) ∧ w' = w := by
  have c4 := h.c4
  clear h
  go_enter Try.func17, Try.ntmps17
  go_wp2
  go_ret
  exact ⟨rfl, rfl⟩
end
theorem putF_putF (F : Int → Option Fi) (k : Int) (f f' : Fi) : putF (putF F k f) k f' = putF F k f' := by
  funext x
  unfold putF
  by_cases e : x = k
  · rw [if_pos e, if_pos e]
  · rw [if_neg e, if_neg e, if_neg e]
theorem mine_turn {db mb : Nat} {F : Int → Option Fi} {k : Int} {f f' : Fi} (hv : f'.v = f.v) (b : Nat) (h : Mine db mb (putF F k f') b) : Mine db mb (putF F k f) b := by
  rcases h with e | e | ⟨k', g, hg, e⟩
  · exact .inl e
  · exact .inr (.inl e)
  · refine .inr (.inr ?_)
    by_cases hk : k' = k
    · subst hk
      rw [putF_same] at hg
      injection hg with hg
      subst hg
      exact ⟨k', f, putF_same _ _ _, by rw [← hv]; exact e⟩
    · rw [putF_other _ _ hk] at hg
      exact ⟨k', g, by rw [putF_other _ _ hk]; exact hg, e⟩
end Go.Proofs.Yticklaophgekeaa
