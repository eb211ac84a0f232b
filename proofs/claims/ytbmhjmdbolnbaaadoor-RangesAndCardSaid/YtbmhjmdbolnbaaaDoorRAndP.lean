/-
  PURE: what both ranges have, and what one of both has.
-/
import Derived.Test.YtbmhjmdbolnbaaaDoorROr
import Derived.Test.YtbmhjmdbolnbaaaDoorRRHas
namespace Go.Proofs.YtbmhjmdbolnbaaaDoor
open Go.RowKit
open SemP
set_option linter.unusedVariables false
set_option linter.unusedSimpArgs false
theorem hasL_app (l l2 : List CV) (v : Ver) : hasL (l ++ l2) v = (hasL l v && hasL l2 v) := by unfold hasL; rw [List.all_append]
theorem rightL_app {l l2 : List CV} (h : rightL l = true) (h2 : rightL l2 = true) (h8 : l.length + l2.length ≤ 8) : rightL (l ++ l2) = true := by
  unfold rightL at h h2 ⊢
  simp only [Bool.and_eq_true, decide_eq_true_eq, List.all_append, List.length_append] at h h2 ⊢
  exact ⟨⟨by omega, h8⟩, h.2, h2.2⟩
theorem andR_right {p q : List (List CV)} (hp : rightR p = true) (hq : rightR q = true) (h8 : p.length * q.length ≤ 8) (hf : andFit p q = true) : rightR (andR p q) = true := by
  have hp' := hp
  have hq' := hq
  unfold rightR at hp' hq' ⊢
  rw [andR_len]
  simp only [Bool.and_eq_true, decide_eq_true_eq, List.all_eq_true] at hp' hq' ⊢
  refine ⟨⟨Nat.mul_le_mul hp'.1.1 hq'.1.1, h8⟩, fun l hl => ?_⟩
  unfold andR andRow at hl
  obtain ⟨l1, h1, hl⟩ := List.mem_flatMap.1 hl
  obtain ⟨l2, h2, rfl⟩ := List.mem_map.1 hl
  unfold andFit at hf
  rw [List.all_eq_true] at hf
  have := hf l1 h1
  rw [List.all_eq_true] at this
  exact rightL_app (hp'.2 l1 h1) (hq'.2 l2 h2) (of_decide_eq_true (this l2 h2))
theorem any_andR (p q : List (List CV)) (v : Ver) : (andR p q).any (fun l => hasL l v) = (p.any (fun l => hasL l v) && q.any (fun l => hasL l v)) := by
  induction p with
  | nil => rfl
  | cons l p ih =>
    have e : andR (l :: p) q = andRow l q ++ andR p q := rfl
    rw [e, List.any_append, ih, List.any_cons]
    have e2 : (andRow l q).any (fun l => hasL l v) = (hasL l v && q.any (fun l => hasL l v)) := by
      unfold andRow
      clear ih e
      induction q with
      | nil => simp
      | cons l2 q ih => rw [List.map_cons, List.any_cons, ih, List.any_cons, hasL_app, Bool.and_or_distrib_left]
    rw [e2, Bool.and_or_distrib_right]
theorem andR_has {p q : List (List CV)} (hp : rightR p = true) (hq : rightR q = true) (h8 : p.length * q.length ≤ 8) (hf : andFit p q = true) (v : Ver) : hasR (andR p q) v = (hasR p v && hasR q v) := by
  unfold hasR
  rw [andR_right hp hq h8 hf, hp, hq, any_andR]
  cases v.right <;> simp
theorem orR_right {p q : List (List CV)} (hp : rightR p = true) (hq : rightR q = true) (h8 : p.length + q.length ≤ 8) : rightR (p ++ q) = true := by
  unfold rightR at hp hq ⊢
  simp only [Bool.and_eq_true, decide_eq_true_eq, List.all_append, List.length_append] at hp hq ⊢
  exact ⟨⟨by omega, h8⟩, hp.2, hq.2⟩
theorem orR_has {p q : List (List CV)} (hp : rightR p = true) (hq : rightR q = true) (h8 : p.length + q.length ≤ 8) (v : Ver) : hasR (p ++ q) v = (hasR p v || hasR q v) := by
  unfold hasR
  rw [orR_right hp hq h8, hp, hq, List.any_append]
  cases v.right <;> simp
theorem fits_app {p q : List (List CV)} (hp : Fits p) (hq : Fits q) : Fits (p ++ q) := fun l hl => by
  rcases List.mem_append.1 hl with h | h
  · exact hp l h
  · exact hq l h
theorem fits_and {p q : List (List CV)} (hp : Fits p) (hq : Fits q) (hf : andFit p q = true) : Fits (andR p q) := fun l hl => by
  unfold andR andRow at hl
  obtain ⟨l1, h1, hl⟩ := List.mem_flatMap.1 hl
  obtain ⟨l2, h2, rfl⟩ := List.mem_map.1 hl
  unfold andFit at hf
  rw [List.all_eq_true] at hf
  have := hf l1 h1
  rw [List.all_eq_true] at this
  have h8 := of_decide_eq_true (this l2 h2)
  refine ⟨fun x hx => ?_, by rw [List.length_append]; omega⟩
  rcases List.mem_append.1 hx with h | h
  · exact (hp l1 h1).1 x h
  · exact (hq l2 h2).1 x h
end Go.Proofs.YtbmhjmdbolnbaaaDoor
