/-
  PLAIN MATHEMATICS for the statements of layer 9: the closed sets, size by size, and how many ways lead to each.
-/
import Derived.Test.YtfcabdgidlnljaaDoorDPath
namespace Go.Proofs.YtfcabdgidlnljaaDoor.DiP
set_option linter.unusedVariables false
set_option linter.unusedSimpArgs false
/-- A set without one node. -/
def del (s v : Nat) : Nat := andn s (one v)
theorem del_lt {s : Nat} (v : Nat) (hs : s < lim) : del s v < lim := andn_lt hs
theorem bt_del {s v u : Nat} (hv : v < 64) (hu : u < 64) : bt (del s v) u = (bt s u && !decide (v = u)) := by
  unfold del; rw [bt_andn (one_lt v hv) hu, bt_one]
theorem del_add {x v : Nat} (hx : x < lim) (hv : v < 64) (h : bt x v = false) : del (add x v) v = x := by
  refine ext64 (del_lt v (add_lt hx hv)) hx fun u hu => ?_
  rw [bt_del hv hu, bt_add]
  by_cases e : v = u
  · subst e; simp [h]
  · simp [e]
theorem add_del {s v : Nat} (hs : s < lim) (hv : v < 64) (h : bt s v = true) : add (del s v) v = s := by
  refine ext64 (add_lt (del_lt v hs) hv) hs fun u hu => ?_
  rw [bt_add, bt_del hv hu]
  by_cases e : v = u
  · subst e; simp [h]
  · simp [e]
theorem bt_del_self {s v : Nat} (hv : v < 64) : bt (del s v) v = false := by rw [bt_del hv hv]; simp
/-- A sum over the nodes below n. -/
def sumN (f : Nat → Nat) : Nat → Nat
  | 0 => 0
  | n + 1 => sumN f n + f n
theorem sumN_congr {f h : Nat → Nat} : ∀ n, (∀ v, v < n → f v = h v) → sumN f n = sumN h n
  | 0, _ => rfl
  | n + 1, e => by rw [sumN, sumN, sumN_congr n (fun v hv => e v (by omega)), e n (by omega)]
theorem sumN_le {f : Nat → Nat} {c : Nat} : ∀ n, (∀ v, v < n → f v ≤ c) → sumN f n ≤ n * c
  | 0, _ => by simp [sumN]
  | n + 1, e => by
    have h1 := sumN_le n (fun v hv => e v (by omega))
    have h2 := e n (by omega)
    rw [sumN, Nat.succ_mul]; omega
theorem sumN_mono {f h : Nat → Nat} : ∀ n, (∀ v, v < n → f v ≤ h v) → sumN f n ≤ sumN h n
  | 0, _ => by simp [sumN]
  | n + 1, e => by
    have h1 := sumN_mono n (fun v hv => e v (by omega))
    have h2 := e n (by omega)
    rw [sumN, sumN]; omega
theorem sumN_upd {f h : Nat → Nat} {v c : Nat} (hv : h v = f v + c) (ho : ∀ u, u ≠ v → h u = f u) : ∀ n, sumN h n = sumN f n + (if v < n then c else 0)
  | 0 => by simp [sumN]
  | n + 1 => by
    rw [sumN, sumN, sumN_upd hv ho n]
    by_cases e : n = v
    · subst e; rw [hv, if_neg (by omega), if_pos (by omega)]; omega
    · rw [ho n e]
      by_cases l : v < n
      · rw [if_pos l, if_pos (by omega)]; omega
      · rw [if_neg l, if_neg (by omega)]; omega
/-- What the pair (a set, its next node) gives to the set with one more. d: which pairs are done. -/
def tm (F : Nat → Option Nat) (d : Nat → Nat → Bool) (s v : Nat) : Nat := if bt s v && d (del s v) v then (F (del s v)).getD 0 else 0
def sumW (F : Nat → Option Nat) (d : Nat → Nat → Bool) (n s : Nat) : Nat := sumN (tm F d s) n
def anyW (d : Nat → Nat → Bool) (n s : Nat) : Bool := decide (s < lim) && (List.range n).any fun v => bt s v && d (del s v) v
theorem anyW_iff {d : Nat → Nat → Bool} {n s : Nat} : anyW d n s = true ↔ s < lim ∧ ∃ v, v < n ∧ bt s v = true ∧ d (del s v) v = true := by
  unfold anyW
  simp only [Bool.and_eq_true, decide_eq_true_eq, List.any_eq_true, List.mem_range]
def nextF (F : Nat → Option Nat) (d : Nat → Nat → Bool) (n s : Nat) : Option Nat := if anyW d n s = true then some (sumW F d n s) else none
theorem nextF_congr {F : Nat → Option Nat} {d d' : Nat → Nat → Bool} {n : Nat} (hn : n ≤ 64) (h : ∀ x v, x < lim → v < n → bt x v = false → d x v = d' x v) (s : Nat) : nextF F d n s = nextF F d' n s := by
  by_cases hs : s < lim
  · have e : ∀ v, v < n → (bt s v && d (del s v) v) = (bt s v && d' (del s v) v) := fun v hv => by
      rw [h _ v (del_lt v hs) hv (bt_del_self (by omega))]
    have e1 : anyW d n s = anyW d' n s := by
      rw [Bool.eq_iff_iff, anyW_iff, anyW_iff]
      refine and_congr_right fun _ => exists_congr fun v => and_congr_right fun hv => ?_
      have := e v hv
      rw [Bool.eq_iff_iff, Bool.and_eq_true, Bool.and_eq_true] at this
      exact this
    have e2 : sumW F d n s = sumW F d' n s := sumN_congr n fun v hv => by unfold tm; rw [e v hv]
    unfold nextF; rw [e1, e2]
  · have e1 : ∀ d, anyW d n s = false := fun d => by unfold anyW; rw [decide_eq_false hs, Bool.false_and]
    unfold nextF; rw [e1, e1]; rfl
theorem nextF_sum {F : Nat → Option Nat} {d : Nat → Nat → Bool} {n s : Nat} : nextF F d n s = none → s < lim → sumW F d n s = 0 := fun h hs => by
  unfold nextF at h
  cases ha : anyW d n s with
  | true => rw [ha] at h; simp at h
  | false =>
    have h0 : ∀ v, v < n → tm F d s v = 0 := fun v hv => by
      unfold tm
      rw [if_neg]
      intro e
      rw [Bool.and_eq_true] at e
      have := anyW_iff.2 ⟨hs, v, hv, e⟩
      rw [ha] at this; cases this
    have h1 := sumN_le (c := 0) n fun v hv => Nat.le_of_eq (h0 v hv)
    unfold sumW; omega
theorem nextF_get {F : Nat → Option Nat} {d : Nat → Nat → Bool} {n s : Nat} (hs : s < lim) : (nextF F d n s).getD 0 = sumW F d n s := by
  cases h : nextF F d n s with
  | none => exact (nextF_sum h hs).symm
  | some x =>
    unfold nextF at h
    split at h
    · injection h with h; exact h.symm
    · cases h
def updD (d : Nat → Nat → Bool) (x v : Nat) : Nat → Nat → Bool := fun x' v' => if x' = x ∧ v' = v then true else d x' v'
theorem updD_same (d : Nat → Nat → Bool) (x v : Nat) : updD d x v x v = true := if_pos ⟨rfl, rfl⟩
theorem updD_other (d : Nat → Nat → Bool) {x v x' v' : Nat} (h : ¬ (x' = x ∧ v' = v)) : updD d x v x' v' = d x' v' := if_neg h
section
variable {F : Nat → Option Nat} {d : Nat → Nat → Bool} {n x v : Nat}
theorem nextF_step (hn : n ≤ 64) (hx : x < lim) (hv : v < n) (hb : bt x v = false) (hd : d x v = false) :
    nextF F (updD d x v) n (add x v) = some ((nextF F d n (add x v)).getD 0 + (F x).getD 0) := by
  have hal := add_lt hx (show v < 64 by omega)
  have hda := del_add hx (show v < 64 by omega) hb
  have hba : bt (add x v) v = true := by rw [bt_add]; simp
  rw [nextF_get hal]
  unfold nextF
  rw [if_pos (anyW_iff.2 ⟨hal, v, hv, hba, by rw [hda]; exact updD_same d x v⟩)]
  congr 1
  have h := sumN_upd (f := tm F d (add x v)) (h := tm F (updD d x v) (add x v)) (v := v) (c := (F x).getD 0) (by
    unfold tm
    rw [hba, hda, updD_same, hd]; simp) (fun u hu => by
    unfold tm
    rw [updD_other d (fun e => hu e.2)]) n
  rw [if_pos hv] at h
  exact h
theorem nextF_rest (hn : n ≤ 64) (hx : x < lim) (hv : v < n) (hb : bt x v = false) {s : Nat} (hs : s ≠ add x v) : nextF F (updD d x v) n s = nextF F d n s := by
  by_cases hl : s < lim
  · have e : ∀ u, u < n → (bt s u && updD d x v (del s u) u) = (bt s u && d (del s u) u) := fun u hu => by
      cases hbs : bt s u with
      | false => rfl
      | true =>
        rw [updD_other]
        rintro ⟨e1, rfl⟩
        exact hs (by rw [← e1]; exact (add_del hl (by omega) hbs).symm)
    have e1 : anyW (updD d x v) n s = anyW d n s := by
      rw [Bool.eq_iff_iff, anyW_iff, anyW_iff]
      refine and_congr_right fun _ => exists_congr fun u => and_congr_right fun hu => ?_
      have := e u hu
      rw [Bool.eq_iff_iff, Bool.and_eq_true, Bool.and_eq_true] at this
      exact this
    have e2 : sumW F (updD d x v) n s = sumW F d n s := sumN_congr n fun u hu => by unfold tm; rw [e u hu]
    unfold nextF; rw [e1, e2]
  · have e1 : ∀ d, anyW d n s = false := fun d => by unfold anyW; rw [decide_eq_false hl, Bool.false_and]
    unfold nextF; rw [e1, e1]; rfl
end
/-- All pairs of a level. -/
def dAll (bef : Nat → Nat) (F : Nat → Option Nat) (x v : Nat) : Bool := (F x).isSome && rdy bef x v
/-- The closed sets of k nodes, and how many ways lead to each. -/
def lvF (bef : Nat → Nat) (n : Nat) : Nat → Nat → Option Nat
  | 0 => fun s => if s = 0 then some 1 else none
  | k + 1 => nextF (lvF bef n k) (dAll bef (lvF bef n k)) n
/-- All bits of a set are below n. -/
def inS (n s : Nat) : Prop := s < lim ∧ ∀ u, n ≤ u → bt s u = false
theorem inS_zero (n : Nat) : inS n 0 := ⟨by decide, fun u _ => bt_zero u⟩
theorem cnt_del {s v : Nat} (hs : s < lim) (hv : v < 64) (h : bt s v = true) (n : Nat) (hn : v < n) : cnt s n = cnt (del s v) n + 1 := by
  have h1 := cnt_add (s := del s v) (v := v) (bt_del_self hv) n
  rw [add_del hs hv h, if_pos hn] at h1
  exact h1
theorem inS_add {n x v : Nat} (hx : inS n x) (hv : v < n) (hn : n ≤ 64) : inS n (add x v) := ⟨add_lt hx.1 (by omega), fun u hu => by rw [bt_add, hx.2 u hu, decide_eq_false (by omega)]; rfl⟩
theorem inS_del {n s : Nat} (v : Nat) (hv : v < 64) (h : inS n s) : inS n (del s v) := ⟨del_lt v h.1, fun u hu => by
  by_cases h6 : u < 64
  · rw [bt_del hv h6, h.2 u hu]; rfl
  · exact bt_far (del_lt v h.1) (by omega)⟩
section
variable {g : List (Nat × Nat)} {n : Nat}
theorem rdy_iff {s v : Nat} (hi : InN n g) (hn : n ≤ 64) (hs : s < lim) : rdy (befG g) s v = true ↔ bt s v = false ∧ ∀ u, E g u v → bt s u = true := by
  unfold rdy
  rw [Bool.and_eq_true, Bool.not_eq_true', decide_eq_true_eq, andn_zero (befG_small hi hn v) hs]
  exact and_congr_right fun _ => forall_congr' fun u => by rw [bt_befG]
/-- A closed set with a ready node is closed. -/
theorem cl_add {s v : Nat} (hi : InN n g) (hn : n ≤ 64) (hs : s < lim) (hc : Cl g s) (hr : rdy (befG g) s v = true) : Cl g (add s v) := by
  obtain ⟨h0, h1⟩ := (rdy_iff hi hn hs).1 hr
  intro k hk hb
  rw [bt_add] at hb ⊢
  by_cases e : v = fb g k
  · rw [h1 (fa g k) ⟨k, hk, rfl, e.symm⟩]; rfl
  · rw [decide_eq_false e, Bool.or_false] at hb
    rw [hc k hk hb]; rfl
/-- A closed set that isn't empty has a node with nothing behind it. -/
theorem cl_top {s : Nat} (hi : InN n g) (hn : n ≤ 64) (hg : Goes (befG g) n n) (hs : inS n s) (hc : Cl g s) (h0 : 0 < cnt s n) : ∃ v, v < n ∧ bt s v = true ∧ Cl g (del s v) ∧ rdy (befG g) (del s v) v = true := by
  have hex : ∃ v, v < n ∧ bt s v = true := by
    refine Classical.byContradiction fun h => ?_
    have : ∀ k, k ≤ n → cnt s k = 0 := by
      intro k
      induction k with
      | zero => intro _; rfl
      | succ k ih =>
        intro hk
        have hb : bt s k = false := by
          cases hb : bt s k with
          | false => rfl
          | true => exact (h ⟨k, by omega, hb⟩).elim
        simp only [cnt, ih (by omega), hb]
        rfl
    have := this n (Nat.le_refl _)
    omega
  -- the one of the highest level
  have hmax : ∀ m, ∀ v, v < n → bt s v = true → n - levG n g v ≤ m → ∃ v, v < n ∧ bt s v = true ∧ ∀ u, u < n → bt s u = true → levG n g u ≤ levG n g v := by
    intro m
    induction m with
    | zero =>
      intro v hv hb hm
      refine ⟨v, hv, hb, fun u hu _ => ?_⟩
      have := levS_le (befG g) n (ordA (befG g) n) n u
      have h2 : levG n g u ≤ n := this
      omega
    | succ m ih =>
      intro v hv hb hm
      by_cases h : ∃ u, u < n ∧ bt s u = true ∧ levG n g v < levG n g u
      · obtain ⟨u, hu, hbu, hl⟩ := h
        have h2 : levG n g u ≤ n := levS_le (befG g) n (ordA (befG g) n) n u
        exact ih u hu hbu (by omega)
      · exact ⟨v, hv, hb, fun u hu hbu => by
          rcases Nat.lt_or_ge (levG n g v) (levG n g u) with h1 | h1
          · exact (h ⟨u, hu, hbu, h1⟩).elim
          · exact h1⟩
  obtain ⟨v0, hv0, hb0⟩ := hex
  obtain ⟨v, hv, hb, hm⟩ := hmax n v0 hv0 hb0 (by omega)
  have hv6 : v < 64 := by omega
  have nob : ∀ u, E g v u → bt s u = false := fun u e => by
    cases h : bt s u with
    | false => rfl
    | true =>
      have h1 := levG_edge hi hn hg e
      have h2 := hm u (e.lt hi).2 h
      omega
  have hdl := del_lt v hs.1
  refine ⟨v, hv, hb, ?_, (rdy_iff hi hn hdl).2 ⟨bt_del_self hv6, fun u e => ?_⟩⟩
  · intro k hk hbk
    have hk2 := hi k hk
    rw [bt_del hv6 (by omega), Bool.and_eq_true] at hbk
    rw [bt_del hv6 (by omega), hc k hk hbk.1]
    by_cases e : v = fa g k
    · have := nob (fb g k) ⟨k, hk, e.symm, rfl⟩
      rw [this] at hbk; cases hbk.1
    · rw [decide_eq_false e]; rfl
  · have hu := (e.lt hi).1
    rw [bt_del hv6 (by omega), hc.E e hb]
    by_cases e2 : v = u
    · subst e2
      have := levG_edge hi hn hg e
      omega
    · rw [decide_eq_false e2]; rfl
/-- A level has just the closed sets of its size. -/
theorem lv_has (hi : InN n g) (hn : n ≤ 64) (hg : Goes (befG g) n n) : ∀ k s, (lvF (befG g) n k s).isSome = true ↔ inS n s ∧ cnt s n = k ∧ Cl g s
  | 0, s => by
    unfold lvF
    by_cases h : s = 0
    · subst h
      rw [if_pos rfl]
      exact ⟨fun _ => ⟨inS_zero n, cnt_zero n, fun k _ hb => by rw [bt_zero] at hb; cases hb⟩, fun _ => rfl⟩
    · rw [if_neg h]
      refine ⟨fun h => (by cases h), fun ⟨h1, h2, _⟩ => (h ?_).elim⟩
      refine ext64 h1.1 (by decide) fun u _ => ?_
      rw [bt_zero]
      cases hb : bt s u with
      | false => rfl
      | true =>
        have hu : u < n := by
          rcases Nat.lt_or_ge u n with h | h
          · exact h
          · rw [h1.2 u h] at hb; cases hb
        have := cnt_del h1.1 (show u < 64 by omega) hb n hu
        omega
  | k + 1, s => by
    have ih := lv_has hi hn hg k
    unfold lvF nextF
    cases ha : anyW (dAll (befG g) (lvF (befG g) n k)) n s with
    | true =>
      rw [if_pos rfl]
      obtain ⟨hl, v, hv, hb, hd⟩ := anyW_iff.1 ha
      unfold dAll at hd
      rw [Bool.and_eq_true] at hd
      obtain ⟨h1, h2, h3⟩ := (ih _).1 hd.1
      have e := add_del hl (show v < 64 by omega) hb
      refine ⟨fun _ => ⟨?_, ?_, ?_⟩, fun _ => rfl⟩
      · rw [← e]; exact inS_add h1 hv hn
      · rw [cnt_del hl (by omega) hb n hv, h2]
      · rw [← e]; exact cl_add hi hn h1.1 h3 hd.2
    | false =>
      rw [if_neg (by decide)]
      refine ⟨fun h => (by cases h), fun ⟨h1, h2, h3⟩ => ?_⟩
      obtain ⟨v, hv, hb, hc, hr⟩ := cl_top hi hn hg h1 h3 (by omega)
      have := cnt_del h1.1 (show v < 64 by omega) hb n hv
      have h4 := (ih (del s v)).2 ⟨inS_del v (by omega) h1, by omega, hc⟩
      have := anyW_iff.2 ⟨h1.1, v, hv, hb, (by unfold dAll; rw [h4, hr]; rfl : dAll (befG g) (lvF (befG g) n k) (del s v) v = true)⟩
      rw [ha] at this; cases this
/-- How many ways there are at most. -/
theorem lv_le (bef : Nat → Nat) (n : Nat) : ∀ k s x, lvF bef n k s = some x → x ≤ n ^ k
  | 0, s, x, h => by
    unfold lvF at h
    split at h
    · injection h with h; subst h; simp
    · cases h
  | k + 1, s, x, h => by
    unfold lvF nextF at h
    split at h
    · injection h with h
      subst h
      have := sumN_le (f := tm (lvF bef n k) (dAll bef (lvF bef n k)) s) (c := n ^ k) n (fun v _ => by
        unfold tm
        split
        · cases hf : lvF bef n k (del s v) with
          | none => simp
          | some y => exact lv_le bef n k _ y hf
        · simp)
      rw [Nat.pow_succ, Nat.mul_comm]; exact this
    · cases h
/-- A part of the pairs gives no more than all. -/
theorem next_part {F : Nat → Option Nat} {d d' : Nat → Nat → Bool} {n s : Nat} (h : ∀ x v, d x v = true → d' x v = true) : sumW F d n s ≤ sumW F d' n s :=
  sumN_mono n fun v _ => by
    unfold tm
    by_cases e : (bt s v && d (del s v) v) = true
    · rw [if_pos e]
      rw [Bool.and_eq_true] at e
      rw [if_pos (by rw [e.1, h _ _ e.2]; rfl)]
      exact Nat.le_refl _
    · rw [if_neg e]; exact Nat.zero_le _
/-- The same sets are closed where the same is reached. -/
theorem cl_way {s : Nat} : Cl g s ↔ ∀ u v, Way g u v → bt s v = true → bt s u = true := by
  constructor
  · intro h u v w
    induction w with
    | one e => exact h.E e
    | more _ e ih => exact fun hb => ih (h.E e hb)
  · intro h k hk hb
    exact h _ _ (.one ⟨k, hk, rfl, rfl⟩) hb
theorem cl_same {g' : List (Nat × Nat)} (h : ∀ u v, Way g' u v ↔ Way g u v) (s : Nat) : Cl g' s ↔ Cl g s := by
  rw [cl_way, cl_way]
  exact forall_congr' fun u => forall_congr' fun v => by rw [h]
end
end Go.Proofs.YtfcabdgidlnljaaDoor.DiP
