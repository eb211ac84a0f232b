/-
  PURE: a range said by other signs has the same versions.
-/
import Derived.Test.YtpnbbbhbbnemlaaGreatDoorRMa
import Derived.Test.YtpnbbbhbbnemlaaGreatDoorRMc
namespace Go.Proofs.YtpnbbbhbbnemlaaGreatDoor
open Go.RowKit
open SemP
set_option linter.unusedVariables false
set_option linter.unusedSimpArgs false
/-- A comparison said by other signs. -/
def plainC (x : CV) : List CV := if x.op < 6 then [x] else
  ⟨5, x.a, x.b, x.c, x.s⟩ :: (if Ver.right ⟨(upV x.op x.a x.b x.c).1, (upV x.op x.a x.b x.c).2.1, (upV x.op x.a x.b x.c).2.2, []⟩ = true then [⟨2, (upV x.op x.a x.b x.c).1, (upV x.op x.a x.b x.c).2.1, (upV x.op x.a x.b x.c).2.2, ⟨#[]⟩⟩] else [])
def plainLs (l : List CV) : List CV := l.flatMap plainC
def plainRg (r : List (List CV)) : List (List CV) := r.map plainLs
theorem plainLs_snoc (l : List CV) (x : CV) : plainLs (l ++ [x]) = plainLs l ++ plainC x := by
  unfold plainLs; simp
theorem plainC_len (x : CV) : (plainC x).length ≤ 2 := by
  unfold plainC; split
  · simp
  · split <;> simp
theorem plainLs_len (l : List CV) : (plainLs l).length ≤ 2 * l.length := by
  induction l with
  | nil => simp [plainLs]
  | cons x l ih =>
    have h := plainC_len x
    unfold plainLs at ih ⊢
    simp only [List.flatMap_cons, List.length_append, List.length_cons]
    omega
theorem plainC_pos (x : CV) : 1 ≤ (plainC x).length := by
  unfold plainC; split
  · simp
  · simp
theorem plainLs_pos {l : List CV} (h : 1 ≤ l.length) : 1 ≤ (plainLs l).length := by
  cases l with
  | nil => simp at h
  | cons x l =>
    have h := plainC_pos x
    unfold plainLs
    simp only [List.flatMap_cons, List.length_append]
    omega
theorem plainC_small {x : CV} {n : Nat} (h : x.s.size ≤ n) : ∀ y ∈ plainC x, y.s.size ≤ n := by
  intro y hy
  unfold plainC at hy
  split at hy
  · simp at hy; subst hy; exact h
  · rcases List.mem_cons.1 hy with hy | hy
    · subst hy; exact h
    · split at hy
      · simp at hy; subst hy; exact Nat.zero_le _
      · simp at hy
theorem plainC_right {x : CV} (h : x.right = true) : ∀ y ∈ plainC x, y.right = true := by
  intro y hy
  have hv := cv_ver h
  unfold plainC at hy
  split at hy
  · simp at hy; subst hy; exact h
  · rcases List.mem_cons.1 hy with hy | hy
    · subst hy; exact cv_right (by omega) hv.1
    · split at hy
      · next hr => simp at hy; subst hy; exact cv_right (by omega) hr
      · simp at hy
theorem has5 (c v : Ver) : hasC 5 c v = decide (0 ≤ cmpV v c) := rfl
theorem has2 (c v : Ver) : hasC 2 c v = decide (cmpV v c < 0) := rfl
theorem plainC_has {x : CV} (h : x.right = true) (v : Ver) : (plainC x).all (fun y => hasC y.op y.ver v) = hasC x.op x.ver v := by
  obtain ⟨op, a, b, c, s⟩ := x
  have hv := cv_ver h
  have hr : Ver.right ⟨a, b, c, bs s⟩ = true := hv.1
  have ho : 0 ≤ op ∧ op ≤ 7 := hv.2
  unfold plainC
  by_cases h6 : op < 6
  · rw [if_pos h6]; simp
  · rw [if_neg h6]
    have e := up_endR (op := op) hr (by omega)
    show (hasC 5 ⟨a, b, c, bs s⟩ v && List.all (if Ver.right ⟨(upV op a b c).1, (upV op a b c).2.1, (upV op a b c).2.2, []⟩ = true then ([⟨2, (upV op a b c).1, (upV op a b c).2.1, (upV op a b c).2.2, ⟨#[]⟩⟩] : List CV) else []) (fun y : CV => hasC y.op y.ver v)) = hasC op ⟨a, b, c, bs s⟩ v
    have hop : op = 6 ∨ op = 7 := by omega
    have e2 : hasC op ⟨a, b, c, bs s⟩ v = (decide (0 ≤ cmpV v ⟨a, b, c, bs s⟩) && (match endR op ⟨a, b, c, bs s⟩ with
      | none => true
      | some e => decide (cmpV v e < 0))) := by rcases hop with rfl | rfl <;> rfl
    rw [e2, e, has5]
    by_cases hx : Ver.right ⟨(upV op a b c).1, (upV op a b c).2.1, (upV op a b c).2.2, []⟩ = true
    · rw [if_pos hx, if_pos hx]
      simp only [List.all_cons, List.all_nil, Bool.and_true, has2]
      rfl
    · rw [if_neg hx, if_neg hx]; rfl
theorem plainLs_has {l : List CV} (h : ∀ x ∈ l, x.right = true) (v : Ver) : hasL (plainLs l) v = hasL l v := by
  unfold hasL plainLs
  induction l with
  | nil => rfl
  | cons x l ih =>
    simp only [List.flatMap_cons, List.all_append, List.all_cons]
    rw [plainC_has (h x (by simp)), ih (fun y hy => h y (by simp [hy]))]
theorem plainLs_right {l : List CV} (h : rightL l = true) (h8 : (plainLs l).length ≤ 8) : rightL (plainLs l) = true := by
  unfold rightL at h ⊢
  simp only [Bool.and_eq_true, decide_eq_true_eq, List.all_eq_true] at h ⊢
  refine ⟨⟨plainLs_pos h.1.1, h8⟩, fun y hy => ?_⟩
  unfold plainLs at hy
  obtain ⟨x, hx, hy⟩ := List.mem_flatMap.1 hy
  exact plainC_right (h.2 x hx) y hy
/-- No list becomes too long. -/
def shortR (r : List (List CV)) : Bool := r.all (fun l => decide ((plainLs l).length ≤ 8))
theorem plainRg_right {r : List (List CV)} (h : rightR r = true) (h8 : shortR r = true) : rightR (plainRg r) = true := by
  unfold rightR at h ⊢
  unfold shortR at h8
  unfold plainRg
  simp only [Bool.and_eq_true, decide_eq_true_eq, List.all_eq_true, List.length_map] at h h8 ⊢
  refine ⟨h.1, fun l hl => ?_⟩
  obtain ⟨l2, hl2, rfl⟩ := List.mem_map.1 hl
  exact plainLs_right (h.2 l2 hl2) (h8 l2 hl2)
theorem plainRg_has {r : List (List CV)} (h : rightR r = true) (h8 : shortR r = true) (v : Ver) : hasR (plainRg r) v = hasR r v := by
  unfold hasR
  rw [h, plainRg_right h h8]
  congr 1
  unfold plainRg
  rw [List.any_map]
  have hm : ∀ l ∈ r, hasL (plainLs l) v = hasL l v := fun l hl => plainLs_has (rightR_list h hl).2 v
  clear h h8
  induction r with
  | nil => rfl
  | cons l r ih =>
    simp only [List.any_cons, Function.comp]
    rw [hm l (by simp), ← ih (fun l hl => hm l (by simp [hl]))]
theorem plainRg_snoc (r : List (List CV)) (l : List CV) : plainRg (r ++ [l]) = plainRg r ++ [plainLs l] := by unfold plainRg; simp
end Go.Proofs.YtpnbbbhbbnemlaaGreatDoor
