/-
  PLAIN MATHEMATICS: the search of the document's From: what was found, what waits.
-/
import Derived.Test.YtfcabdgidlnljaaDoorDPa
namespace Go.Proofs.YtfcabdgidlnljaaDoor.DiP
set_option linter.unusedVariables false
def updF (f : Nat → Bool) (i : Nat) : Nat → Bool := fun v => if v = i then true else f v
theorem updF_self (f : Nat → Bool) (i : Nat) : updF f i i = true := if_pos rfl
theorem updF_of {f : Nat → Bool} {i v : Nat} (h : f v = true) : updF f i v = true := by unfold updF; split; rfl; exact h
theorem updF_cases {f : Nat → Bool} {i v : Nat} (h : updF f i v = true) : v = i ∨ f v = true := by
  unfold updF at h; split at h
  · exact .inl ‹_›
  · exact .inr h
/-- How many are found. -/
def cf (f : Nat → Bool) : Nat → Nat
  | 0 => 0
  | k + 1 => cf f k + (if f k = true then 1 else 0)
theorem cf_le (f : Nat → Bool) : ∀ k, cf f k ≤ k := by
  intro k
  induction k with
  | zero => exact Nat.le_refl _
  | succ k ih => unfold cf; split <;> omega
theorem cf_upd {f : Nat → Bool} {i : Nat} (h : f i = false) : ∀ k, cf (updF f i) k = cf f k + (if i < k then 1 else 0) := by
  intro k
  induction k with
  | zero => rfl
  | succ k ih =>
    unfold cf
    rw [ih]
    by_cases e : k = i
    · subst e
      rw [updF_self, h, if_pos rfl, if_neg (Nat.lt_irrefl k), if_pos (Nat.lt_succ_self k)]
      simp
    · have e2 : updF f i k = f k := if_neg e
      rw [e2]
      by_cases hl : i < k
      · rw [if_pos hl, if_pos (show i < k + 1 by omega), Nat.add_right_comm]
      · rw [if_neg hl, if_neg (show ¬ i < k + 1 by omega)]; rfl

/-- Between two nodes. -/
structure FrO (g : List (Nat × Nat)) (N a : Nat) (f : Nat → Bool) (q : List Nat) : Prop where
  inq : ∀ v ∈ q, v < N
  way : ∀ v, f v = true → Way g a v
  known : ∀ v ∈ q, v = a ∨ f v = true
  shut : ∀ v, (v = a ∨ f v = true) → v ∈ q ∨ ∀ u, E g v u → f u = true
  len : q.length ≤ cf f N + 1
/-- Within the edges of a node x: those below i were looked at. -/
structure FrI (g : List (Nat × Nat)) (N a : Nat) (f : Nat → Bool) (q : List Nat) (x i : Nat) : Prop where
  inq : ∀ v ∈ q, v < N
  way : ∀ v, f v = true → Way g a v
  known : ∀ v ∈ q, v = a ∨ f v = true
  xk : x = a ∨ f x = true
  shut : ∀ v, (v = a ∨ f v = true) → v ∈ q ∨ v = x ∨ ∀ u, E g v u → f u = true
  done : ∀ k, k < i → fa g k = x → f (fb g k) = true
  len : q.length ≤ cf f N

theorem FrO.start {g : List (Nat × Nat)} {N a : Nat} (ha : a < N) : FrO g N a (fun _ => false) [a] :=
  ⟨fun v hv => (by simp at hv; omega), fun v h => (by cases h), fun v hv => .inl (by simpa using hv), fun v hv => .inl (by
    rcases hv with rfl | h
    · simp
    · cases h), by simp⟩
theorem FrO.pop {g : List (Nat × Nat)} {N a x : Nat} {f : Nat → Bool} {q : List Nat} (h : FrO g N a f (x :: q)) : FrI g N a f q x 0 :=
  ⟨fun v hv => h.inq v (List.mem_cons_of_mem _ hv), h.way, fun v hv => h.known v (List.mem_cons_of_mem _ hv), h.known x (List.mem_cons_self ..), fun v hv => by
    rcases h.shut v hv with h1 | h1
    · rcases List.mem_cons.1 h1 with h2 | h2
      · exact .inr (.inl h2)
      · exact .inl h2
    · exact .inr (.inr h1), fun k hk => absurd hk (Nat.not_lt_zero _), by have := h.len; simp at this; omega⟩
theorem FrI.skip {g : List (Nat × Nat)} {N a x i : Nat} {f : Nat → Bool} {q : List Nat} (h : FrI g N a f q x i) (hs : fa g i = x → f (fb g i) = true) : FrI g N a f q x (i + 1) :=
  ⟨h.inq, h.way, h.known, h.xk, h.shut, fun k hk he => by
    by_cases e : k = i
    · subst e; exact hs he
    · exact h.done k (by omega) he, h.len⟩
theorem FrI.push {g : List (Nat × Nat)} {N a x i : Nat} {f : Nat → Bool} {q : List Nat} (h : FrI g N a f q x i) (hi : InN N g) (hlt : i < g.length) (he : fa g i = x) (hn : f (fb g i) = false) : FrI g N a (updF f (fb g i)) (q ++ [fb g i]) x (i + 1) := by
  have hE : E g x (fb g i) := ⟨i, hlt, he, rfl⟩
  have hb : fb g i < N := (hi i hlt).2
  have hw : Way g a (fb g i) := by
    rcases h.xk with rfl | hx
    · exact .one hE
    · exact .more (h.way x hx) hE
  refine ⟨fun v hv => ?_, fun v hv => ?_, fun v hv => ?_, ?_, fun v hv => ?_, fun k hk hk2 => ?_, ?_⟩
  · rcases List.mem_append.1 hv with hv | hv
    · exact h.inq v hv
    · simp at hv; omega
  · rcases updF_cases hv with rfl | hv
    · exact hw
    · exact h.way v hv
  · rcases List.mem_append.1 hv with hv | hv
    · rcases h.known v hv with e | e
      · exact .inl e
      · exact .inr (updF_of e)
    · simp at hv; subst hv; exact .inr (updF_self _ _)
  · rcases h.xk with e | e
    · exact .inl e
    · exact .inr (updF_of e)
  · have hv' : v = fb g i ∨ (v = a ∨ f v = true) := by
      rcases hv with e | e
      · exact .inr (.inl e)
      · rcases updF_cases e with e | e
        · exact .inl e
        · exact .inr (.inr e)
    rcases hv' with rfl | hv'
    · exact .inl (List.mem_append.2 (.inr (by simp)))
    · rcases h.shut v hv' with h1 | h1 | h1
      · exact .inl (List.mem_append.2 (.inl h1))
      · exact .inr (.inl h1)
      · exact .inr (.inr fun u hu => updF_of (h1 u hu))
  · by_cases e : k = i
    · subst e; exact updF_self _ _
    · exact updF_of (h.done k (by omega) hk2)
  · rw [cf_upd hn, if_pos hb]; have := h.len; simp; omega
theorem FrI.end_ {g : List (Nat × Nat)} {N a x : Nat} {f : Nat → Bool} {q : List Nat} (h : FrI g N a f q x g.length) : FrO g N a f q :=
  ⟨h.inq, h.way, h.known, fun v hv => by
    rcases h.shut v hv with h1 | h1 | h1
    · exact .inl h1
    · subst h1
      refine .inr fun u hu => ?_
      obtain ⟨k, hk, h1, h2⟩ := hu
      rw [← h2]; exact h.done k hk h1
    · exact .inr h1, by have := h.len; omega⟩
theorem FrO.all {g : List (Nat × Nat)} {N a : Nat} {f : Nat → Bool} (h : FrO g N a f []) (hi : InN N g) (ha : a < N) : ∀ v, f v = bt (rchG N g a) v := by
  have hsh : ∀ v, (v = a ∨ f v = true) → ∀ u, E g v u → f u = true := fun v hv => by
    rcases h.shut v hv with h1 | h1
    · cases h1
    · exact h1
  intro v
  rw [Bool.eq_iff_iff, rch_way hi ha]
  refine ⟨h.way v, fun hw => ?_⟩
  induction hw with
  | one e => exact hsh a (.inl rfl) _ e
  | more _ e ih => exact hsh _ (.inr ih) _ e
/-- So many rounds are left at most. -/
def togo (N : Nat) (f : Nat → Bool) (q : List Nat) : Nat := 2 * (N - cf f N) + q.length
theorem togo_pop (N : Nat) (f : Nat → Bool) (x : Nat) (q : List Nat) : togo N f q + 1 = togo N f (x :: q) := by unfold togo; simp; omega
theorem togo_push {N y : Nat} {f : Nat → Bool} (q : List Nat) (hn : f y = false) (hy : y < N) : togo N (updF f y) (q ++ [y]) + 1 ≤ togo N f q := by
  unfold togo
  have h1 := cf_upd hn N
  rw [if_pos hy] at h1
  have h2 := cf_le (updF f y) N
  simp; omega
end Go.Proofs.YtfcabdgidlnljaaDoor.DiP
