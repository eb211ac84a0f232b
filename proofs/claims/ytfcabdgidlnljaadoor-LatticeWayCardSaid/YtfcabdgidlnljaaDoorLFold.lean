/-
  PLAIN MATHEMATICS for the statements of layer 9: a level is gone through in whatever order; each set's ready nodes one by one.
-/
import Derived.Test.YtfcabdgidlnljaaDoorLMemP
namespace Go.Proofs.YtfcabdgidlnljaaDoor.DiP
set_option linter.unusedVariables false
set_option linter.unusedSimpArgs false
def putO (G : Nat → Option Nat) (s c : Nat) : Nat → Option Nat := fun t => if t = s then some c else G t
theorem putO_same (G : Nat → Option Nat) (s c : Nat) : putO G s c s = some c := if_pos rfl
theorem putO_other (G : Nat → Option Nat) {s t : Nat} (c : Nat) (h : t ≠ s) : putO G s c t = G t := if_neg h
/-- One node more. -/
def stepG (x c : Nat) (G : Nat → Option Nat) (v : Nat) : Nat → Option Nat := putO G (add x v) ((G (add x v)).getD 0 + c)
def foldG (x c : Nat) (G : Nat → Option Nat) (l : List Nat) : Nat → Option Nat := l.foldl (stepG x c) G
theorem foldG_snoc (x c : Nat) (G : Nat → Option Nat) (l : List Nat) (v : Nat) : foldG x c G (l ++ [v]) = stepG x c (foldG x c G l) v := by unfold foldG; rw [List.foldl_append]; rfl
def updL (d : Nat → Nat → Bool) (x : Nat) : List Nat → Nat → Nat → Bool
  | [] => d
  | v :: l => updL (updD d x v) x l
theorem updL_eq (x : Nat) : ∀ (l : List Nat) (d : Nat → Nat → Bool) (x' v' : Nat), updL d x l x' v' = (d x' v' || (decide (x' = x) && l.contains v'))
  | [], d, x', v' => by simp [updL]
  | v :: l, d, x', v' => by
    rw [updL, updL_eq x l]
    unfold updD
    by_cases e1 : x' = x <;> by_cases e2 : v' = v <;> simp [e1, e2]
theorem fold_next {F : Nat → Option Nat} {n x : Nat} (hn : n ≤ 64) (hx : x < lim) : ∀ (l : List Nat) (d : Nat → Nat → Bool), l.Nodup → (∀ v, v ∈ l → v < n ∧ bt x v = false ∧ d x v = false) →
    foldG x ((F x).getD 0) (nextF F d n) l = nextF F (updL d x l) n
  | [], d, _, _ => rfl
  | v :: l, d, hd, h => by
    rw [List.nodup_cons] at hd
    obtain ⟨hv, hb, hdv⟩ := h v (by simp)
    have e : stepG x ((F x).getD 0) (nextF F d n) v = nextF F (updD d x v) n := by
      funext s
      unfold stepG
      by_cases hs : s = add x v
      · subst hs
        rw [putO_same, nextF_step hn hx hv hb hdv]
      · rw [putO_other _ _ hs, nextF_rest hn hx hv hb hs]
    show foldG x ((F x).getD 0) (stepG x ((F x).getD 0) (nextF F d n) v) l = _
    rw [e]
    refine fold_next hn hx l (updD d x v) hd.2 fun u hu => ?_
    obtain ⟨h1, h2, h3⟩ := h u (by simp [hu])
    refine ⟨h1, h2, ?_⟩
    rw [updD_other d (fun e => hd.1 (by rw [← e.2]; exact hu))]
    exact h3
/-- Which pairs are done, where some sets are still to come. -/
def dLeft (bef : Nat → Nat) (F : Nat → Option Nat) (left : Nat → Bool) (x v : Nat) : Bool := (F x).isSome && !left x && rdy bef x v
theorem fold_set {bef : Nat → Nat} {F : Nat → Option Nat} {n x : Nat} {left : Nat → Bool} (hn : n ≤ 64) (hx : x < lim) (hF : (F x).isSome = true) (hl : left x = true) :
    foldG x ((F x).getD 0) (nextF F (dLeft bef F left) n) (memL (rdyK bef x n)) = nextF F (dLeft bef F (fun z => left z && !decide (z = x))) n := by
  rw [fold_next hn hx]
  · funext s
    refine nextF_congr hn (fun x' v' hx' hv' hb' => ?_) s
    rw [updL_eq]
    unfold dLeft
    by_cases e : x' = x
    · subst e
      have : (memL (rdyK bef x' n)).contains v' = rdy bef x' v' := by
        rw [Bool.eq_iff_iff, List.contains_iff_mem, memL_mem, bt_rdyK, Bool.and_eq_true, decide_eq_true_eq]
        exact ⟨fun h => h.2.2, fun h => ⟨by omega, hv', h⟩⟩
      rw [this, hF, hl]
      simp
    · simp [e]
  · have := memL_pw (rdyK bef x n)
    exact this.imp fun h => Nat.ne_of_lt h
  · intro v hv
    obtain ⟨h1, h2⟩ := memL_mem.1 hv
    rw [bt_rdyK, Bool.and_eq_true, decide_eq_true_eq] at h2
    exact ⟨h2.1, rdy_new h2.2, by unfold dLeft; rw [hl]; simp⟩
/-- At the start none is done; at the end all are. -/
theorem next_none {bef : Nat → Nat} {F : Nat → Option Nat} {n : Nat} {left : Nat → Bool} (h : ∀ x, (F x).isSome = true → left x = true) : nextF F (dLeft bef F left) n = fun _ => none := by
  funext s
  have : ∀ x v, dLeft bef F left x v = false := fun x v => by
    unfold dLeft
    cases hf : (F x).isSome with
    | false => rfl
    | true => rw [h x hf]; rfl
  unfold nextF
  rw [if_neg]
  rw [anyW_iff]
  rintro ⟨_, v, _, _, h2⟩
  rw [this] at h2; cases h2
theorem next_all {bef : Nat → Nat} {F : Nat → Option Nat} {n : Nat} (hn : n ≤ 64) {left : Nat → Bool} (h : ∀ x, x < lim → left x = false) : nextF F (dLeft bef F left) n = nextF F (dAll bef F) n := by
  funext s
  refine nextF_congr hn (fun x v hx _ _ => ?_) s
  unfold dLeft dAll
  rw [h x hx]; simp
/-- How great a number is at most. -/
def Most (G : Nat → Option Nat) (M : Nat) : Prop := ∀ s x, G s = some x → x ≤ M
theorem Most.step {G : Nat → Option Nat} {M x c v : Nat} (h : Most G M) : Most (stepG x c G v) (M + c) := by
  intro s y hy
  unfold stepG putO at hy
  split at hy
  · injection hy with hy
    subst hy
    cases hg : G (add x v) with
    | none => simp
    | some z => have := h _ z hg; simp; omega
  · have := h s y hy; omega
theorem Most.fold {x c : Nat} : ∀ (l : List Nat) {G : Nat → Option Nat} {M : Nat}, Most G M → Most (foldG x c G l) (M + l.length * c)
  | [], G, M, h => by simpa [foldG] using h
  | v :: l, G, M, h => by
    have := Most.fold (x := x) (c := c) l (Most.step (x := x) (c := c) (v := v) h)
    show Most (foldG x c (stepG x c G v) l) _
    rw [List.length_cons, Nat.succ_mul]
    intro s y hy
    have := this s y hy
    omega
theorem next_most {F : Nat → Option Nat} {d : Nat → Nat → Bool} {n M : Nat} (h : Most F M) : Most (nextF F d n) (n * M) := by
  intro s y hy
  unfold nextF at hy
  split at hy
  · injection hy with hy
    subst hy
    refine sumN_le n fun v _ => ?_
    unfold tm
    split
    · cases hg : F (del s v) with
      | none => simp
      | some z => exact h _ z hg
    · simp
  · cases hy
end Go.Proofs.YtfcabdgidlnljaaDoor.DiP
