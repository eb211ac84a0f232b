/-
  Lists by time, then by number: what has the same members is the same; and the document's insertion.
-/
import Derived.Test.YtinphdphloddmabCDueS
namespace Go.Proofs.Ytinphdphloddmab
open ByteP
set_option linter.unusedVariables false

theorem ix_memC {xs : List Int} {j : Nat} (h : j < xs.length) : ix xs j ∈ xs := by
  have e : ix xs j = xs[j] := by unfold ix; simp [List.getD, h]
  rw [e]; exact List.getElem_mem h
theorem lex_anti {G : Int → Option Int} {x y : Int} (h1 : LexG G x y) (h2 : LexG G y x) : x = y := by
  unfold LexG at h1 h2; omega
theorem lex_ext {G : Int → Option Int} : ∀ {a b : List Int}, a.Pairwise (LexG G) → b.Pairwise (LexG G) → a.Nodup → b.Nodup → (∀ x, x ∈ a ↔ x ∈ b) → a = b
  | [], [], _, _, _, _, _ => rfl
  | [], y :: b, _, _, _, _, h => by have := (h y).2 (by simp); simp at this
  | x :: a, [], _, _, _, _, h => by have := (h x).1 (by simp); simp at this
  | x :: a, y :: b, ha, hb, na, nb, h => by
    have ha' := List.pairwise_cons.1 ha
    have hb' := List.pairwise_cons.1 hb
    have na' := List.nodup_cons.1 na
    have nb' := List.nodup_cons.1 nb
    have exy : x = y := by
      have h1 := (h x).1 (by simp)
      have h2 := (h y).2 (by simp)
      simp only [List.mem_cons] at h1 h2
      rcases h1 with e | e
      · exact e
      · rcases h2 with e' | e'
        · exact e'.symm
        · exact lex_anti (ha'.1 y e') (hb'.1 x e)
    subst exy
    rw [lex_ext ha'.2 hb'.2 na'.2 nb'.2 (fun z => by
      have hz := h z
      simp only [List.mem_cons] at hz
      constructor
      · intro hm
        rcases hz.1 (.inr hm) with e | e
        · subst e; exact absurd hm na'.1
        · exact e
      · intro hm
        rcases hz.2 (.inr hm) with e | e
        · subst e; exact absurd hm nb'.1
        · exact e)]
/-- Does y come before x, in the document's words? -/
def befG (G : Int → Option Int) (x y : Int) : Bool := decide (tOf G y < tOf G x ∨ (tOf G y = tOf G x ∧ y < x))
/-- An element put behind the first k, where all of those come before it and the next does not. -/
theorem lex_insert {G : Int → Option Int} {l : List Int} {x : Int} (h : l.Pairwise (LexG G)) (hx : x ∉ l) {k : Nat} (hk : k ≤ l.length) (hb : ∀ i, i < k → befG G x (ix l i) = true) (ha : k < l.length → befG G x (ix l k) = false) :
    (l.take k ++ x :: l.drop k).Pairwise (LexG G) := by
  have hlt : ∀ y, y ∈ l.take k → LexG G y x := fun y hy => by
    obtain ⟨i, hi, e⟩ := List.mem_iff_getElem.1 hy
    have hi' : i < k := by rw [List.length_take] at hi; omega
    have h1 := hb i hi'
    have e2 : ix l i = y := by
      rw [← e, List.getElem_take]
      unfold ix; simp [List.getD, show i < l.length by omega]
    rw [e2] at h1
    unfold befG at h1
    unfold LexG
    simp at h1
    omega
  have hsplit : (l.take k ++ l.drop k).Pairwise (LexG G) := by rw [List.take_append_drop]; exact h
  rw [List.pairwise_append] at hsplit
  obtain ⟨p1, p2, p3⟩ := hsplit
  have hgt : ∀ y, y ∈ l.drop k → LexG G x y := fun y hy => by
    have hkl : k < l.length := by
      rcases Nat.lt_or_ge k l.length with h | h
      · exact h
      · rw [List.drop_eq_nil_of_le h] at hy; cases hy
    have h1 := ha hkl
    have e0 : l.drop k = ix l k :: l.drop (k + 1) := by
      rw [List.drop_eq_getElem_cons hkl]
      unfold ix; simp [List.getD, hkl]
    have hxk : ix l k ≠ x := fun e => hx (by rw [← e]; exact ix_memC hkl)
    have hle : LexG G x (ix l k) := by
      unfold befG at h1
      unfold LexG
      simp at h1
      omega
    rw [e0] at hy p2
    rcases List.mem_cons.1 hy with e | e
    · rw [e]; exact hle
    · have h2 := (List.pairwise_cons.1 p2).1 y e
      unfold LexG at *
      omega
  rw [List.pairwise_append]
  refine ⟨p1, List.pairwise_cons.2 ⟨hgt, p2⟩, fun a ha' b hb' => ?_⟩
  rcases List.mem_cons.1 hb' with e | e
  · rw [e]; exact hlt a ha'
  · exact p3 a ha' b e
end Go.Proofs.Ytinphdphloddmab
