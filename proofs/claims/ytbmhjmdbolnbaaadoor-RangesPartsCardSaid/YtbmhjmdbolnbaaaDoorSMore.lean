/-
  PURE: a mark more makes a Pre greater; less without a Pre. WORDS: several boxes at once.
-/
import Derived.Test.YtbmhjmdbolnbaaaDoorSEq
namespace SemP
open Go.Lib
theorem pieces_append (c : UInt8) : ∀ (p m : Str), pieces c (p ++ c :: m) = pieces c p ++ pieces c m := by
  intro p m
  induction p with
  | nil => simp [pieces]
  | cons b l ih =>
    rw [List.cons_append]
    by_cases h : b = c
    · rw [show pieces c (b :: (l ++ c :: m)) = [] :: pieces c (l ++ c :: m) from by rw [pieces, if_pos h], show pieces c (b :: l) = [] :: pieces c l from by rw [pieces, if_pos h], ih]
      rfl
    · cases hp : pieces c l with
      | nil => exact absurd hp (pieces_ne c l)
      | cons q qs =>
        rw [pieces_step h hp]
        rw [hp] at ih
        rw [pieces_step h ih]
        rfl
theorem rowC_more {α : Type} {c : α → α → Int} (h : ∀ a, c a a = 0) : ∀ (l r : List α), r ≠ [] → rowC c l (l ++ r) = -1 := by
  intro l r hr
  induction l with
  | nil => cases r with
    | nil => exact absurd rfl hr
    | cons x r => rfl
  | cons x l ih =>
    show orI (c x x) (rowC c l (l ++ r)) = -1
    rw [h, orI_zero, ih]
theorem cmpPre_more {p m : Str} (hp : p ≠ []) : cmpPre p (p ++ 46 :: m) = -1 := by
  unfold cmpPre
  have h1 : p ≠ p ++ 46 :: m := fun e => by
    have := congrArg List.length e
    simp at this
  rw [if_neg h1, if_neg hp, if_neg (by simp), pieces_append]
  exact rowC_more cmpMarks_tot.refl _ _ (pieces_ne _ _)
theorem cmpPre_bare {p : Str} (hp : p ≠ []) : cmpPre p [] = -1 := by
  unfold cmpPre; rw [if_neg hp, if_neg hp, if_pos rfl]
theorem cmpV_pre {a b c : Int} {p q : Str} (h : cmpPre p q = -1) : cmpV ⟨a, b, c, p⟩ ⟨a, b, c, q⟩ = -1 := by
  unfold cmpV; simp only; rw [cmp_same, cmp_same, cmp_same, h]; rfl
theorem cmpPre_same (p : Str) : cmpPre p p = 0 := by unfold cmpPre; rw [if_pos rfl]
theorem cmpV_low {a b c a' b' c' : Int} {p q : Str} (h : cmpV ⟨a, b, c, []⟩ ⟨a', b', c', []⟩ = -1) : cmpV ⟨a, b, c, p⟩ ⟨a', b', c', q⟩ = -1 := by
  unfold cmpV at h ⊢
  simp only [cmpPre_same] at h ⊢
  by_cases h1 : compareInt a a' = 0
  · rw [h1, orI_zero] at h ⊢
    by_cases h2 : compareInt b b' = 0
    · rw [h2, orI_zero] at h ⊢
      by_cases h3 : compareInt c c' = 0
      · rw [h3] at h; exact absurd h (by decide)
      · rw [orI_ne h3] at h ⊢; exact h
    · rw [orI_ne h2] at h ⊢; exact h
  · rw [orI_ne h1] at h ⊢; exact h
end SemP
namespace Go.Proofs.YtbmhjmdbolnbaaaDoor
open Go.RowKit
open SemP
/-- Several blocks, each with what it bears. -/
def BoxesAt (l : List (Nat × Obj)) (W : World) : Prop := ∀ x ∈ l, x.1 < W.heap.size ∧ W.heap[x.1]? = some x.2
theorem BoxesAt.below {l : List (Nat × Obj)} {W W' : World} (h : BoxesAt l W) (hb : Below W.heap.size W W') : BoxesAt l W' := fun x hx => ⟨Nat.lt_of_lt_of_le (h x hx).1 hb.size, (hb.block _ (h x hx).1).trans (h x hx).2⟩
theorem BoxesAt.push {l : List (Nat × Obj)} {W : World} (h : BoxesAt l W) (o : Obj) : BoxesAt ((W.heap.size, o) :: l) (W.alloc o) := by
  intro x hx
  rcases List.mem_cons.1 hx with rfl | hx
  · exact ⟨by simp, World.alloc_heap_new _ _⟩
  · exact ⟨by have := (h x hx).1; simp; omega, (Below.heap_alloc _ _ _ (h x hx).1).trans (h x hx).2⟩
theorem BoxesAt.get {l : List (Nat × Obj)} {W : World} (h : BoxesAt l W) (g : Nat) (o : Obj) (hm : (g, o) ∈ l) : W.heap[g]? = some o := (h _ hm).2
theorem BoxesAt.nil (W : World) : BoxesAt [] W := fun x hx => by cases hx
end Go.Proofs.YtbmhjmdbolnbaaaDoor
