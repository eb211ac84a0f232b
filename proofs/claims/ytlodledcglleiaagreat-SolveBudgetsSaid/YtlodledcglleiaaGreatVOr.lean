/-
  PURE: the document's order of releases, the choices one by one.
-/
import Derived.Test.YtlodledcglleiaaGreatVPa
namespace Go.Proofs.YtlodledcglleiaaGreat
open Go.RowKit
open SemP DiP FlP GaP SeaP
set_option linter.unusedVariables false
set_option linter.unusedSimpArgs false
set_option maxRecDepth 10000
def farZ (a b : Int) : Int := if b < a then a - b else b - a
def betR (mode cur v w : Int) : Bool :=
  if mode = 1 then decide (v < w)
  else if mode = 2 then (if v = cur ∨ w = cur then decide (v = cur) else decide (w < v))
  else if mode = 3 then (if farZ v cur = farZ w cur then decide (w < v) else decide (farZ v cur < farZ w cur))
  else decide (w < v)
/-- How many of the first are preferred over v. -/
def aheadR (mode cur : Int) (out : List Int) (v : Int) : Nat := (out.takeWhile (fun o => betR mode cur o v)).length
def putR (mode cur : Int) (out : List Int) (v : Int) : List Int := out.take (aheadR mode cur out v) ++ v :: out.drop (aheadR mode cur out v)
def orderR (mode cur : Int) : Nat → List Int
  | 0 => []
  | k + 1 => putR mode cur (orderR mode cur k) (k : Int)
theorem orderR_len (mode cur : Int) : ∀ k, (orderR mode cur k).length = k
  | 0 => rfl
  | k + 1 => by
    have ih := orderR_len mode cur k
    have h1 : aheadR mode cur (orderR mode cur k) (k : Int) ≤ k := by
      unfold aheadR
      have := (List.takeWhile_prefix (fun o => betR mode cur o (k : Int)) (l := orderR mode cur k)).length_le
      omega
    show (putR _ _ _ _).length = _
    unfold putR
    rw [List.length_append, List.length_take, List.length_cons, List.length_drop]
    omega
theorem orderR_all : ((List.range 4).all fun mode => (List.range 13).all fun n => (List.range n).all fun c => decide (orderR (mode : Nat) (c : Nat) n = orderL mode n c)) = true := by decide +kernel
theorem orderR_is {mode n c : Nat} (hm : mode < 4) (hn : n ≤ 12) (hc : c < n) : orderR (mode : Int) (c : Int) n = orderL mode n c := by
  have h := orderR_all
  rw [List.all_eq_true] at h
  have h1 := h mode (List.mem_range.2 hm)
  rw [List.all_eq_true] at h1
  have h2 := h1 n (List.mem_range.2 (by omega))
  rw [List.all_eq_true] at h2
  exact of_decide_eq_true (h2 c (List.mem_range.2 hc))
theorem ahead_le (mode cur : Int) (out : List Int) (v : Int) : aheadR mode cur out v ≤ out.length :=
  (List.takeWhile_prefix (fun o => betR mode cur o v) (l := out)).length_le
theorem takeWhile_all {p : Int → Bool} : ∀ {l : List Int}, (∀ x ∈ l, p x = true) → l.takeWhile p = l
  | [], _ => rfl
  | x :: l, h => by
    rw [List.takeWhile_cons, h x (by simp), takeWhile_all (fun y hy => h y (by simp [hy]))]
    rfl
theorem ahead_of {mode cur : Int} {out : List Int} {v : Int} {k : Nat} (hk : k ≤ out.length) (h1 : ∀ i, i < k → betR mode cur (ix out i) v = true) (h2 : k < out.length → betR mode cur (ix out k) v = false) : aheadR mode cur out v = k := by
  unfold aheadR
  have e : out = out.take k ++ out.drop k := (List.take_append_drop k out).symm
  have hx : ∀ i, (hi : i < out.length) → ix out i = out[i]'hi := fun i hi => by simp [ix, List.getD, hi]
  have ht : (out.take k).takeWhile (fun o => betR mode cur o v) = out.take k := by
    refine takeWhile_all (fun x hx2 => ?_)
    obtain ⟨i, hi, rfl⟩ := List.getElem_of_mem hx2
    rw [List.length_take] at hi
    have := h1 i (by omega)
    rw [hx i (by omega)] at this
    rw [List.getElem_take]
    exact this
  have hd : (out.drop k).takeWhile (fun o => betR mode cur o v) = [] := by
    rcases Nat.lt_or_ge k out.length with hlt | hge
    · rw [List.drop_eq_getElem_cons hlt, List.takeWhile_cons]
      have := h2 hlt
      rw [hx k hlt] at this
      rw [this]; rfl
    · rw [List.drop_of_length_le hge]; rfl
  rw [e, List.takeWhile_append, if_pos (by rw [ht]), hd, List.append_nil, List.length_take]
  omega
/-! ### All choices, by number -/
/-- The k-th choice, and what is left of k. -/
def digs : List (List Int) → Nat → List Int × Nat
  | [], k => ([], k)
  | o :: os, k => (iz o ((digs os k).2 % o.length) :: (digs os k).1, (digs os k).2 / o.length)
def cntP : List (List Int) → Nat
  | [] => 1
  | o :: os => o.length * cntP os
theorem flat_len0 {β : Type} {P : Nat} (f : Int → List β) (hf : ∀ v, (f v).length = P) : ∀ o : List Int, (o.flatMap f).length = o.length * P
  | [] => by simp
  | v :: o => by
    rw [List.flatMap_cons, List.length_append, hf, flat_len0 f hf o, List.length_cons, Nat.succ_mul]
    omega
theorem prods_cnt : ∀ os : List (List Int), (prods os).length = cntP os
  | [] => rfl
  | o :: os => flat_len0 (fun v => (prods os).map (v :: ·)) (fun v => by rw [List.length_map, prods_cnt os]) o
theorem flat_at {β : Type} [Inhabited β] {P : Nat} (hP : 0 < P) : ∀ (o : List Int) (f : Int → List β), (∀ v, (f v).length = P) → ∀ k, k < o.length * P → (o.flatMap f).getD k default = (f (iz o (k / P))).getD (k % P) default
  | [], f, hf, k, hk => absurd hk (by simp)
  | v :: o, f, hf, k, hk => by
    rw [List.flatMap_cons]
    by_cases h : k < P
    · rw [Nat.div_eq_of_lt h, Nat.mod_eq_of_lt h]
      show (f v ++ o.flatMap f).getD k default = (f v).getD k default
      rw [List.getD_eq_getElem?_getD, List.getD_eq_getElem?_getD, List.getElem?_append_left (by rw [hf]; exact h)]
    · have ih := flat_at hP o f hf (k - P) (by rw [List.length_cons, Nat.succ_mul] at hk; omega)
      have e1 : k / P = (k - P) / P + 1 := by
        have : k = (k - P) + P := by omega
        conv => lhs; rw [this, Nat.add_div_right _ hP]
      have e2 : k % P = (k - P) % P := by
        have : k = (k - P) + P := by omega
        conv => lhs; rw [this, Nat.add_mod_right]
      rw [e1, e2]
      show _ = (f (iz o ((k - P) / P))).getD _ default
      rw [← ih, List.getD_eq_getElem?_getD, List.getD_eq_getElem?_getD, List.getElem?_append_right (by rw [hf]; omega), hf]
theorem cntP_pos : ∀ {os : List (List Int)}, (∀ o ∈ os, 0 < o.length) → 0 < cntP os
  | [], _ => by decide
  | o :: os, h => Nat.mul_pos (h o (by simp)) (cntP_pos (fun o' ho => h o' (by simp [ho])))
theorem digs_is : ∀ {os : List (List Int)}, (∀ o ∈ os, 0 < o.length) → ∀ k, digs os k = ((prods os).getD (k % cntP os) default, k / cntP os)
  | [], _, k => by
    show ([], k) = _
    simp [cntP, prods, Nat.mod_one]
  | o :: os, h, k => by
    have hp := cntP_pos (os := os) (fun o' ho => h o' (by simp [ho]))
    have ho := h o (by simp)
    unfold digs
    rw [digs_is (os := os) (fun o' ho => h o' (by simp [ho])) k]
    have hlt : k % (o.length * cntP os) < o.length * cntP os := Nat.mod_lt _ (Nat.mul_pos ho hp)
    show (iz o (k / cntP os % o.length) :: (prods os).getD (k % cntP os) default, k / cntP os / o.length) = ((prods (o :: os)).getD (k % (o.length * cntP os)) default, k / (o.length * cntP os))
    have e : (prods (o :: os)).getD (k % (o.length * cntP os)) default = iz o (k / cntP os % o.length) :: (prods os).getD (k % cntP os) default := by
      rw [show prods (o :: os) = o.flatMap fun v => (prods os).map (v :: ·) from rfl]
      rw [flat_at hp o (fun v => (prods os).map (v :: ·)) (fun v => by rw [List.length_map, prods_cnt]) _ hlt]
      have e1 : k % (o.length * cntP os) / cntP os = k / cntP os % o.length := by
        rw [Nat.mul_comm, Nat.mod_mul_right_div_self]
      have e2 : k % (o.length * cntP os) % cntP os = k % cntP os := Nat.mod_mul_left_mod _ _ _
      rw [e1, e2]
      have h3 : k % cntP os < (prods os).length := by rw [prods_cnt]; exact Nat.mod_lt _ hp
      show ((prods os).map (iz o (k / cntP os % o.length) :: ·)).getD (k % cntP os) default = _
      rw [List.getD_eq_getElem?_getD, List.getD_eq_getElem?_getD, List.getElem?_map, List.getElem?_eq_getElem h3]
      rfl
    rw [e, Nat.div_div_eq_div_mul, Nat.mul_comm (cntP os)]
theorem digs_at {os : List (List Int)} (h : ∀ o ∈ os, 0 < o.length) {k : Nat} (hk : k < cntP os) : (digs os k).1 = (prods os).getD k default := by
  rw [digs_is h, Nat.mod_eq_of_lt hk]
theorem digs_len : ∀ (os : List (List Int)) (k : Nat), (digs os k).1.length = os.length
  | [], k => rfl
  | o :: os, k => by unfold digs; simp [digs_len os k]
theorem digs_le : ∀ (os : List (List Int)) (k : Nat), (digs os k).2 ≤ k
  | [], k => Nat.le_refl _
  | o :: os, k => Nat.le_trans (Nat.div_le_self _ _) (digs_le os k)
theorem find_none_at {α : Type} [Inhabited α] {p : α → Bool} {l : List α} (h : ∀ i, i < l.length → p (l.getD i default) = false) : l.find? p = none := by
  rw [List.find?_eq_none]
  intro x hx
  obtain ⟨i, hi, rfl⟩ := List.getElem_of_mem hx
  have := h i hi
  simp only [List.getD, List.getElem?_eq_getElem hi, Option.getD_some] at this
  simp [this]
theorem find_some_at {α : Type} [Inhabited α] {p : α → Bool} : ∀ {l : List α} {k : Nat}, k < l.length → (∀ i, i < k → p (l.getD i default) = false) → p (l.getD k default) = true → l.find? p = some (l.getD k default)
  | [], k, hk, _, _ => absurd hk (by simp)
  | x :: l, 0, _, _, h => by
    have : p x = true := h
    show List.find? p (x :: l) = some x
    rw [List.find?_cons, this]
  | x :: l, k + 1, hk, h0, h => by
    have h1 : p x = false := h0 0 (by omega)
    rw [List.find?_cons, h1]
    exact find_some_at (l := l) (k := k) (by simpa using hk) (fun i hi => h0 (i + 1) (by omega)) h
end Go.Proofs.YtlodledcglleiaaGreat
