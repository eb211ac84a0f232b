/-
  PLAIN MATHEMATICS for the statements of layer 9: the closed sets, size by size, and how many ways lead to each.
  PLAIN MATHEMATICS for the statements of layer 9: all closed sets, rising; the ways counted set by set.
  PLAIN MATHEMATICS for the statements of layer 9: a set's nodes, the lowest first.
  PLAIN MATHEMATICS for the statements of layer 9: a level is gone through in whatever order; each set's ready nodes one by one.
  PLAIN MATHEMATICS for the statements of layer 9: what is left of the edges closes the same sets, and leads the same ways.
  PLAIN MATHEMATICS for the statements of layer 9: the least closed set that has a set.
-/
import Derived.Test.YtfcabdgidlnljaaDoorDPa
import Derived.Lib.TrailingZeros
namespace Go.Proofs.YtfcabdgidlnljaaDoor.DiP
set_option linter.unusedVariables false
set_option linter.unusedSimpArgs false
/-- A set without one node. -/
def del (s v : Nat) : Nat := andn s (one v)
theorem del_lt {s : Nat} (v : Nat) (hs : s < lim) : del s v < lim := andn_lt hs
theorem bt_del {s v u : Nat} (hv : v < 64) (hu : u < 64) : bt (del s v) u = (bt s u && !decide (v = u)) := by
  unfold del; rw [bt_andn (one_lt v hv) hu, bt_one]
theorem del_add {x v : Nat} (hx : x < lim) (hv : v < 64) (h : bt x v = false) : del (add x v) v = x := by
  refine ext64 (del_lt v (add_lt hx hv)) hx fun u hu => ?_
  rw [bt_del hv hu, bt_add]
  by_cases e : v = u
  · subst e; simp [h]
  · simp [e]
theorem add_del {s v : Nat} (hs : s < lim) (hv : v < 64) (h : bt s v = true) : add (del s v) v = s := by
  refine ext64 (add_lt (del_lt v hs) hv) hs fun u hu => ?_
  rw [bt_add, bt_del hv hu]
  by_cases e : v = u
  · subst e; simp [h]
  · simp [e]
theorem bt_del_self {s v : Nat} (hv : v < 64) : bt (del s v) v = false := by rw [bt_del hv hv]; simp
/-- A sum over the nodes below n. -/
def sumN (f : Nat → Nat) : Nat → Nat
  | 0 => 0
  | n + 1 => sumN f n + f n
theorem sumN_congr {f h : Nat → Nat} : ∀ n, (∀ v, v < n → f v = h v) → sumN f n = sumN h n
  | 0, _ => rfl
  | n + 1, e => by rw [sumN, sumN, sumN_congr n (fun v hv => e v (by omega)), e n (by omega)]
theorem sumN_le {f : Nat → Nat} {c : Nat} : ∀ n, (∀ v, v < n → f v ≤ c) → sumN f n ≤ n * c
  | 0, _ => by simp [sumN]
  | n + 1, e => by
    have h1 := sumN_le n (fun v hv => e v (by omega))
    have h2 := e n (by omega)
    rw [sumN, Nat.succ_mul]; omega
theorem sumN_mono {f h : Nat → Nat} : ∀ n, (∀ v, v < n → f v ≤ h v) → sumN f n ≤ sumN h n
  | 0, _ => by simp [sumN]
  | n + 1, e => by
    have h1 := sumN_mono n (fun v hv => e v (by omega))
    have h2 := e n (by omega)
    rw [sumN, sumN]; omega
theorem sumN_upd {f h : Nat → Nat} {v c : Nat} (hv : h v = f v + c) (ho : ∀ u, u ≠ v → h u = f u) : ∀ n, sumN h n = sumN f n + (if v < n then c else 0)
  | 0 => by simp [sumN]
  | n + 1 => by
    rw [sumN, sumN, sumN_upd hv ho n]
    by_cases e : n = v
    · subst e; rw [hv, if_neg (by omega), if_pos (by omega)]; omega
    · rw [ho n e]
      by_cases l : v < n
      · rw [if_pos l, if_pos (by omega)]; omega
      · rw [if_neg l, if_neg (by omega)]; omega
/-- What the pair (a set, its next node) gives to the set with one more. d: which pairs are done. -/
def tm (F : Nat → Option Nat) (d : Nat → Nat → Bool) (s v : Nat) : Nat := if bt s v && d (del s v) v then (F (del s v)).getD 0 else 0
def sumW (F : Nat → Option Nat) (d : Nat → Nat → Bool) (n s : Nat) : Nat := sumN (tm F d s) n
def anyW (d : Nat → Nat → Bool) (n s : Nat) : Bool := decide (s < lim) && (List.range n).any fun v => bt s v && d (del s v) v
theorem anyW_iff {d : Nat → Nat → Bool} {n s : Nat} : anyW d n s = true ↔ s < lim ∧ ∃ v, v < n ∧ bt s v = true ∧ d (del s v) v = true := by
  unfold anyW
  simp only [Bool.and_eq_true, decide_eq_true_eq, List.any_eq_true, List.mem_range]
def nextF (F : Nat → Option Nat) (d : Nat → Nat → Bool) (n s : Nat) : Option Nat := if anyW d n s = true then some (sumW F d n s) else none
theorem nextF_congr {F : Nat → Option Nat} {d d' : Nat → Nat → Bool} {n : Nat} (hn : n ≤ 64) (h : ∀ x v, x < lim → v < n → bt x v = false → d x v = d' x v) (s : Nat) : nextF F d n s = nextF F d' n s := by
  by_cases hs : s < lim
  · have e : ∀ v, v < n → (bt s v && d (del s v) v) = (bt s v && d' (del s v) v) := fun v hv => by
      rw [h _ v (del_lt v hs) hv (bt_del_self (by omega))]
    have e1 : anyW d n s = anyW d' n s := by
      rw [Bool.eq_iff_iff, anyW_iff, anyW_iff]
      refine and_congr_right fun _ => exists_congr fun v => and_congr_right fun hv => ?_
      have := e v hv
      rw [Bool.eq_iff_iff, Bool.and_eq_true, Bool.and_eq_true] at this
      exact this
    have e2 : sumW F d n s = sumW F d' n s := sumN_congr n fun v hv => by unfold tm; rw [e v hv]
    unfold nextF; rw [e1, e2]
  · have e1 : ∀ d, anyW d n s = false := fun d => by unfold anyW; rw [decide_eq_false hs, Bool.false_and]
    unfold nextF; rw [e1, e1]; rfl
theorem nextF_sum {F : Nat → Option Nat} {d : Nat → Nat → Bool} {n s : Nat} : nextF F d n s = none → s < lim → sumW F d n s = 0 := fun h hs => by
  unfold nextF at h
  cases ha : anyW d n s with
  | true => rw [ha] at h; simp at h
  | false =>
    have h0 : ∀ v, v < n → tm F d s v = 0 := fun v hv => by
      unfold tm
      rw [if_neg]
      intro e
      rw [Bool.and_eq_true] at e
      have := anyW_iff.2 ⟨hs, v, hv, e⟩
      rw [ha] at this; cases this
    have h1 := sumN_le (c := 0) n fun v hv => Nat.le_of_eq (h0 v hv)
    unfold sumW; omega
theorem nextF_get {F : Nat → Option Nat} {d : Nat → Nat → Bool} {n s : Nat} (hs : s < lim) : (nextF F d n s).getD 0 = sumW F d n s := by
  cases h : nextF F d n s with
  | none => exact (nextF_sum h hs).symm
  | some x =>
    unfold nextF at h
    split at h
    · injection h with h; exact h.symm
    · cases h
def updD (d : Nat → Nat → Bool) (x v : Nat) : Nat → Nat → Bool := fun x' v' => if x' = x ∧ v' = v then true else d x' v'
theorem updD_same (d : Nat → Nat → Bool) (x v : Nat) : updD d x v x v = true := if_pos ⟨rfl, rfl⟩
theorem updD_other (d : Nat → Nat → Bool) {x v x' v' : Nat} (h : ¬ (x' = x ∧ v' = v)) : updD d x v x' v' = d x' v' := if_neg h
section
variable {F : Nat → Option Nat} {d : Nat → Nat → Bool} {n x v : Nat}
theorem nextF_step (hn : n ≤ 64) (hx : x < lim) (hv : v < n) (hb : bt x v = false) (hd : d x v = false) :
    nextF F (updD d x v) n (add x v) = some ((nextF F d n (add x v)).getD 0 + (F x).getD 0) := by
  have hal := add_lt hx (show v < 64 by omega)
  have hda := del_add hx (show v < 64 by omega) hb
  have hba : bt (add x v) v = true := by rw [bt_add]; simp
  rw [nextF_get hal]
  unfold nextF
  rw [if_pos (anyW_iff.2 ⟨hal, v, hv, hba, by rw [hda]; exact updD_same d x v⟩)]
  congr 1
  have h := sumN_upd (f := tm F d (add x v)) (h := tm F (updD d x v) (add x v)) (v := v) (c := (F x).getD 0) (by
    unfold tm
    rw [hba, hda, updD_same, hd]; simp) (fun u hu => by
    unfold tm
    rw [updD_other d (fun e => hu e.2)]) n
  rw [if_pos hv] at h
  exact h
theorem nextF_rest (hn : n ≤ 64) (hx : x < lim) (hv : v < n) (hb : bt x v = false) {s : Nat} (hs : s ≠ add x v) : nextF F (updD d x v) n s = nextF F d n s := by
  by_cases hl : s < lim
  · have e : ∀ u, u < n → (bt s u && updD d x v (del s u) u) = (bt s u && d (del s u) u) := fun u hu => by
      cases hbs : bt s u with
      | false => rfl
      | true =>
        rw [updD_other]
        rintro ⟨e1, rfl⟩
        exact hs (by rw [← e1]; exact (add_del hl (by omega) hbs).symm)
    have e1 : anyW (updD d x v) n s = anyW d n s := by
      rw [Bool.eq_iff_iff, anyW_iff, anyW_iff]
      refine and_congr_right fun _ => exists_congr fun u => and_congr_right fun hu => ?_
      have := e u hu
      rw [Bool.eq_iff_iff, Bool.and_eq_true, Bool.and_eq_true] at this
      exact this
    have e2 : sumW F (updD d x v) n s = sumW F d n s := sumN_congr n fun u hu => by unfold tm; rw [e u hu]
    unfold nextF; rw [e1, e2]
  · have e1 : ∀ d, anyW d n s = false := fun d => by unfold anyW; rw [decide_eq_false hl, Bool.false_and]
    unfold nextF; rw [e1, e1]; rfl
end
/-- All pairs of a level. -/
def dAll (bef : Nat → Nat) (F : Nat → Option Nat) (x v : Nat) : Bool := (F x).isSome && rdy bef x v
/-- The closed sets of k nodes, and how many ways lead to each. -/
def lvF (bef : Nat → Nat) (n : Nat) : Nat → Nat → Option Nat
  | 0 => fun s => if s = 0 then some 1 else none
  | k + 1 => nextF (lvF bef n k) (dAll bef (lvF bef n k)) n
/-- All bits of a set are below n. -/
def inS (n s : Nat) : Prop := s < lim ∧ ∀ u, n ≤ u → bt s u = false
theorem inS_zero (n : Nat) : inS n 0 := ⟨by decide, fun u _ => bt_zero u⟩
theorem cnt_del {s v : Nat} (hs : s < lim) (hv : v < 64) (h : bt s v = true) (n : Nat) (hn : v < n) : cnt s n = cnt (del s v) n + 1 := by
  have h1 := cnt_add (s := del s v) (v := v) (bt_del_self hv) n
  rw [add_del hs hv h, if_pos hn] at h1
  exact h1
theorem inS_add {n x v : Nat} (hx : inS n x) (hv : v < n) (hn : n ≤ 64) : inS n (add x v) := ⟨add_lt hx.1 (by omega), fun u hu => by rw [bt_add, hx.2 u hu, decide_eq_false (by omega)]; rfl⟩
theorem inS_del {n s : Nat} (v : Nat) (hv : v < 64) (h : inS n s) : inS n (del s v) := ⟨del_lt v h.1, fun u hu => by
  by_cases h6 : u < 64
  · rw [bt_del hv h6, h.2 u hu]; rfl
  · exact bt_far (del_lt v h.1) (by omega)⟩
section
variable {g : List (Nat × Nat)} {n : Nat}
theorem rdy_iff {s v : Nat} (hi : InN n g) (hn : n ≤ 64) (hs : s < lim) : rdy (befG g) s v = true ↔ bt s v = false ∧ ∀ u, E g u v → bt s u = true := by
  unfold rdy
  rw [Bool.and_eq_true, Bool.not_eq_true', decide_eq_true_eq, andn_zero (befG_small hi hn v) hs]
  exact and_congr_right fun _ => forall_congr' fun u => by rw [bt_befG]
/-- A closed set with a ready node is closed. -/
theorem cl_add {s v : Nat} (hi : InN n g) (hn : n ≤ 64) (hs : s < lim) (hc : Cl g s) (hr : rdy (befG g) s v = true) : Cl g (add s v) := by
  obtain ⟨h0, h1⟩ := (rdy_iff hi hn hs).1 hr
  intro k hk hb
  rw [bt_add] at hb ⊢
  by_cases e : v = fb g k
  · rw [h1 (fa g k) ⟨k, hk, rfl, e.symm⟩]; rfl
  · rw [decide_eq_false e, Bool.or_false] at hb
    rw [hc k hk hb]; rfl
/-- A closed set that isn't empty has a node with nothing behind it. -/
theorem cl_top {s : Nat} (hi : InN n g) (hn : n ≤ 64) (hg : Goes (befG g) n n) (hs : inS n s) (hc : Cl g s) (h0 : 0 < cnt s n) : ∃ v, v < n ∧ bt s v = true ∧ Cl g (del s v) ∧ rdy (befG g) (del s v) v = true := by
  have hex : ∃ v, v < n ∧ bt s v = true := by
    refine Classical.byContradiction fun h => ?_
    have : ∀ k, k ≤ n → cnt s k = 0 := by
      intro k
      induction k with
      | zero => intro _; rfl
      | succ k ih =>
        intro hk
        have hb : bt s k = false := by
          cases hb : bt s k with
          | false => rfl
          | true => exact (h ⟨k, by omega, hb⟩).elim
        simp only [cnt, ih (by omega), hb]
        rfl
    have := this n (Nat.le_refl _)
    omega
  -- the one of the highest level
  have hmax : ∀ m, ∀ v, v < n → bt s v = true → n - levG n g v ≤ m → ∃ v, v < n ∧ bt s v = true ∧ ∀ u, u < n → bt s u = true → levG n g u ≤ levG n g v := by
    intro m
    induction m with
    | zero =>
      intro v hv hb hm
      refine ⟨v, hv, hb, fun u hu _ => ?_⟩
      have := levS_le (befG g) n (ordA (befG g) n) n u
      have h2 : levG n g u ≤ n := this
      omega
    | succ m ih =>
      intro v hv hb hm
      by_cases h : ∃ u, u < n ∧ bt s u = true ∧ levG n g v < levG n g u
      · obtain ⟨u, hu, hbu, hl⟩ := h
        have h2 : levG n g u ≤ n := levS_le (befG g) n (ordA (befG g) n) n u
        exact ih u hu hbu (by omega)
      · exact ⟨v, hv, hb, fun u hu hbu => by
          rcases Nat.lt_or_ge (levG n g v) (levG n g u) with h1 | h1
          · exact (h ⟨u, hu, hbu, h1⟩).elim
          · exact h1⟩
  obtain ⟨v0, hv0, hb0⟩ := hex
  obtain ⟨v, hv, hb, hm⟩ := hmax n v0 hv0 hb0 (by omega)
  have hv6 : v < 64 := by omega
  have nob : ∀ u, E g v u → bt s u = false := fun u e => by
    cases h : bt s u with
    | false => rfl
    | true =>
      have h1 := levG_edge hi hn hg e
      have h2 := hm u (e.lt hi).2 h
      omega
  have hdl := del_lt v hs.1
  refine ⟨v, hv, hb, ?_, (rdy_iff hi hn hdl).2 ⟨bt_del_self hv6, fun u e => ?_⟩⟩
  · intro k hk hbk
    have hk2 := hi k hk
    rw [bt_del hv6 (by omega), Bool.and_eq_true] at hbk
    rw [bt_del hv6 (by omega), hc k hk hbk.1]
    by_cases e : v = fa g k
    · have := nob (fb g k) ⟨k, hk, e.symm, rfl⟩
      rw [this] at hbk; cases hbk.1
    · rw [decide_eq_false e]; rfl
  · have hu := (e.lt hi).1
    rw [bt_del hv6 (by omega), hc.E e hb]
    by_cases e2 : v = u
    · subst e2
      have := levG_edge hi hn hg e
      omega
    · rw [decide_eq_false e2]; rfl
/-- A level has just the closed sets of its size. -/
theorem lv_has (hi : InN n g) (hn : n ≤ 64) (hg : Goes (befG g) n n) : ∀ k s, (lvF (befG g) n k s).isSome = true ↔ inS n s ∧ cnt s n = k ∧ Cl g s
  | 0, s => by
    unfold lvF
    by_cases h : s = 0
    · subst h
      rw [if_pos rfl]
      exact ⟨fun _ => ⟨inS_zero n, cnt_zero n, fun k _ hb => by rw [bt_zero] at hb; cases hb⟩, fun _ => rfl⟩
    · rw [if_neg h]
      refine ⟨fun h => (by cases h), fun ⟨h1, h2, _⟩ => (h ?_).elim⟩
      refine ext64 h1.1 (by decide) fun u _ => ?_
      rw [bt_zero]
      cases hb : bt s u with
      | false => rfl
      | true =>
        have hu : u < n := by
          rcases Nat.lt_or_ge u n with h | h
          · exact h
          · rw [h1.2 u h] at hb; cases hb
        have := cnt_del h1.1 (show u < 64 by omega) hb n hu
        omega
  | k + 1, s => by
    have ih := lv_has hi hn hg k
    unfold lvF nextF
    cases ha : anyW (dAll (befG g) (lvF (befG g) n k)) n s with
    | true =>
      rw [if_pos rfl]
      obtain ⟨hl, v, hv, hb, hd⟩ := anyW_iff.1 ha
      unfold dAll at hd
      rw [Bool.and_eq_true] at hd
      obtain ⟨h1, h2, h3⟩ := (ih _).1 hd.1
      have e := add_del hl (show v < 64 by omega) hb
      refine ⟨fun _ => ⟨?_, ?_, ?_⟩, fun _ => rfl⟩
      · rw [← e]; exact inS_add h1 hv hn
      · rw [cnt_del hl (by omega) hb n hv, h2]
      · rw [← e]; exact cl_add hi hn h1.1 h3 hd.2
    | false =>
      rw [if_neg (by decide)]
      refine ⟨fun h => (by cases h), fun ⟨h1, h2, h3⟩ => ?_⟩
      obtain ⟨v, hv, hb, hc, hr⟩ := cl_top hi hn hg h1 h3 (by omega)
      have := cnt_del h1.1 (show v < 64 by omega) hb n hv
      have h4 := (ih (del s v)).2 ⟨inS_del v (by omega) h1, by omega, hc⟩
      have := anyW_iff.2 ⟨h1.1, v, hv, hb, (by unfold dAll; rw [h4, hr]; rfl : dAll (befG g) (lvF (befG g) n k) (del s v) v = true)⟩
      rw [ha] at this; cases this
/-- How many ways there are at most. -/
theorem lv_le (bef : Nat → Nat) (n : Nat) : ∀ k s x, lvF bef n k s = some x → x ≤ n ^ k
  | 0, s, x, h => by
    unfold lvF at h
    split at h
    · injection h with h; subst h; simp
    · cases h
  | k + 1, s, x, h => by
    unfold lvF nextF at h
    split at h
    · injection h with h
      subst h
      have := sumN_le (f := tm (lvF bef n k) (dAll bef (lvF bef n k)) s) (c := n ^ k) n (fun v _ => by
        unfold tm
        split
        · cases hf : lvF bef n k (del s v) with
          | none => simp
          | some y => exact lv_le bef n k _ y hf
        · simp)
      rw [Nat.pow_succ, Nat.mul_comm]; exact this
    · cases h
/-- A part of the pairs gives no more than all. -/
theorem next_part {F : Nat → Option Nat} {d d' : Nat → Nat → Bool} {n s : Nat} (h : ∀ x v, d x v = true → d' x v = true) : sumW F d n s ≤ sumW F d' n s :=
  sumN_mono n fun v _ => by
    unfold tm
    by_cases e : (bt s v && d (del s v) v) = true
    · rw [if_pos e]
      rw [Bool.and_eq_true] at e
      rw [if_pos (by rw [e.1, h _ _ e.2]; rfl)]
      exact Nat.le_refl _
    · rw [if_neg e]; exact Nat.zero_le _
/-- The same sets are closed where the same is reached. -/
theorem cl_way {s : Nat} : Cl g s ↔ ∀ u v, Way g u v → bt s v = true → bt s u = true := by
  constructor
  · intro h u v w
    induction w with
    | one e => exact h.E e
    | more _ e ih => exact fun hb => ih (h.E e hb)
  · intro h k hk hb
    exact h _ _ (.one ⟨k, hk, rfl, rfl⟩) hb
theorem cl_same {g' : List (Nat × Nat)} (h : ∀ u v, Way g' u v ↔ Way g u v) (s : Nat) : Cl g' s ↔ Cl g s := by
  rw [cl_way, cl_way]
  exact forall_congr' fun u => forall_congr' fun v => by rw [h]
end
end Go.Proofs.YtfcabdgidlnljaaDoor.DiP
namespace Go.Proofs.YtfcabdgidlnljaaDoor.DiP
set_option linter.unusedVariables false
set_option linter.unusedSimpArgs false
theorem pw_ext : ∀ {l l' : List Nat}, l.Pairwise (· < ·) → l'.Pairwise (· < ·) → (∀ x, x ∈ l ↔ x ∈ l') → l = l'
  | [], [], _, _, _ => rfl
  | [], b :: l', _, _, e => by have := (e b).2 (by simp); cases this
  | a :: l, [], _, _, e => by have := (e a).1 (by simp); cases this
  | a :: l, b :: l', h, h', e => by
    rw [List.pairwise_cons] at h h'
    have hab : a = b := by
      have h1 := (e a).1 (by simp)
      have h2 := (e b).2 (by simp)
      rw [List.mem_cons] at h1 h2
      rcases h1 with h1 | h1
      · exact h1
      · rcases h2 with h2 | h2
        · exact h2.symm
        · have := h.1 b h2
          have := h'.1 a h1
          omega
    subst hab
    rw [pw_ext h.2 h'.2 fun x => ?_]
    have := e x
    rw [List.mem_cons, List.mem_cons] at this
    constructor
    · intro hx
      rcases this.1 (.inr hx) with rfl | h3
      · exact absurd (h.1 x hx) (Nat.lt_irrefl x)
      · exact h3
    · intro hx
      rcases this.2 (.inr hx) with rfl | h3
      · exact absurd (h'.1 x hx) (Nat.lt_irrefl x)
      · exact h3
theorem len_le : ∀ (N : Nat) {l : List Nat}, l.Nodup → (∀ x, x ∈ l → x < N) → l.length ≤ N
  | 0, [], _, _ => by simp
  | 0, a :: _, _, h => absurd (h a (by simp)) (by omega)
  | N + 1, l, hn, h => by
    have h1 := len_le N (l := l.erase N) (hn.erase N) (fun x hx => by
      have h2 := h x (List.mem_of_mem_erase hx)
      have h3 : x ≠ N := fun e => by
        subst e
        exact absurd hx (List.Nodup.not_mem_erase hn)
      omega)
    have h2 := List.length_erase_le (a := N) (l := l)
    by_cases hm : N ∈ l
    · rw [List.length_erase_of_mem hm] at h1; omega
    · rw [List.erase_of_not_mem hm] at h1; omega
theorem inS_iff {n s : Nat} (hn : n ≤ 64) : inS n s ↔ s < 2 ^ n := by
  constructor
  · intro h
    refine Nat.lt_of_not_le fun hl => ?_
    obtain ⟨i, hi, hb⟩ := Nat.exists_ge_and_testBit_of_ge_two_pow hl
    have := h.2 i hi
    unfold bt at this
    rw [hb] at this; cases this
  · intro h
    have h2 : (2 : Nat) ^ n ≤ lim := by rw [lim_eq]; exact Nat.pow_le_pow_right (by omega) hn
    refine ⟨by omega, fun u hu => ?_⟩
    exact Nat.testBit_lt_two_pow (Nat.lt_of_lt_of_le h (Nat.pow_le_pow_right (by omega) hu))
/-- All sets that p says yes to, rising. -/
def clN (n : Nat) (p : Nat → Bool) : List Nat := (List.range (2 ^ n)).filter p
theorem clN_mem {n : Nat} {p : Nat → Bool} {s : Nat} : s ∈ clN n p ↔ s < 2 ^ n ∧ p s = true := by unfold clN; rw [List.mem_filter, List.mem_range]
theorem clN_pw (n : Nat) (p : Nat → Bool) : (clN n p).Pairwise (· < ·) := List.Pairwise.filter _ (List.pairwise_lt_range)
theorem clN_of {n : Nat} {p : Nat → Bool} {l : List Nat} (hs : l.Pairwise (· ≤ ·)) (hd : l.Nodup) (hm : ∀ s, s ∈ l ↔ s < 2 ^ n ∧ p s = true) : l = clN n p := by
  refine pw_ext ?_ (clN_pw n p) fun x => by rw [hm, clN_mem]
  exact (List.Pairwise.and hs hd).imp fun h => Nat.lt_of_le_of_ne h.1 h.2
theorem full_inS (n : Nat) : (2 : Nat) ^ n - 1 < 2 ^ n := by have := Nat.two_pow_pos n; omega
theorem bt_full (n u : Nat) : bt (2 ^ n - 1) u = decide (u < n) := by unfold bt; rw [Nat.testBit_two_pow_sub_one]
theorem full_cl {g : List (Nat × Nat)} {n : Nat} (hi : InN n g) : Cl g (2 ^ n - 1) := fun k hk _ => by rw [bt_full]; exact decide_eq_true (hi k hk).1
theorem zero_cl (g : List (Nat × Nat)) : Cl g 0 := fun k _ h => by rw [bt_zero] at h; cases h
theorem cnt_full_eq (n : Nat) : cnt (2 ^ n - 1) n = n := by
  have : ∀ k, k ≤ n → cnt (2 ^ n - 1) k = k := by
    intro k
    induction k with
    | zero => intro _; rfl
    | succ k ih =>
      intro hk
      simp only [cnt, ih (by omega), bt_full, decide_eq_true (show k < n by omega)]
      rfl
  exact this n (Nat.le_refl _)
theorem cnt_zero_inS {n s : Nat} (hs : inS n s) (hn : n ≤ 64) (h : cnt s n = n) : s = 2 ^ n - 1 := by
  refine ext64 hs.1 (by have h2 : (2 : Nat) ^ n ≤ lim := by rw [lim_eq]; exact Nat.pow_le_pow_right (by omega) hn
                        have := Nat.two_pow_pos n; omega) fun u _ => ?_
  rw [bt_full]
  by_cases hu : u < n
  · rw [cnt_full n h u hu, decide_eq_true hu]
  · rw [hs.2 u (by omega), decide_eq_false hu]
/-- The last one of all closed sets is the whole. -/
theorem clN_last {n : Nat} {p : Nat → Bool} (h : p (2 ^ n - 1) = true) : (clN n p).length ≠ 0 ∧ (clN n p)[(clN n p).length - 1]? = some (2 ^ n - 1) := by
  have hl : clN n p = (List.range (2 ^ n - 1)).filter p ++ [2 ^ n - 1] := by
    unfold clN
    conv => lhs; rw [show 2 ^ n = 2 ^ n - 1 + 1 by have := Nat.two_pow_pos n; omega, List.range_succ, List.filter_append]
    simp [h]
  rw [hl]
  refine ⟨by simp, by simp⟩
theorem clN_first {n : Nat} {p : Nat → Bool} (h : p 0 = true) : (clN n p)[0]? = some 0 := by
  unfold clN
  obtain ⟨m, hm⟩ : ∃ m, 2 ^ n = m + 1 := ⟨2 ^ n - 1, by have := Nat.two_pow_pos n; omega⟩
  rw [hm, List.range_succ_eq_map]
  simp [h]
/-- How many ways lead to a set. -/
def wayN (bef : Nat → Nat) (n s : Nat) : Nat := (lvF bef n (cnt s n) s).getD 0
theorem wayN_zero (bef : Nat → Nat) (n : Nat) : wayN bef n 0 = 1 := by unfold wayN; rw [cnt_zero]; rfl
/-- Each set's ways are its ready pairs' ways. -/
theorem wayN_sum {bef : Nat → Nat} {n s : Nat} (hn : n ≤ 64) (hs : inS n s) (h0 : s ≠ 0) : wayN bef n s = sumW (fun x => some (wayN bef n x)) (rdy bef) n s := by
  obtain ⟨k, hk⟩ : ∃ k, cnt s n = k + 1 := by
    refine ⟨cnt s n - 1, ?_⟩
    have : cnt s n ≠ 0 := fun e => h0 (by
      refine ext64 hs.1 (by decide) fun u _ => ?_
      rw [bt_zero]
      cases hb : bt s u with
      | false => rfl
      | true =>
        have hu : u < n := by
          rcases Nat.lt_or_ge u n with h | h
          · exact h
          · rw [hs.2 u h] at hb; cases hb
        have := cnt_del hs.1 (show u < 64 by omega) hb n hu
        omega)
    omega
  unfold wayN
  rw [hk]
  show (nextF (lvF bef n k) (dAll bef (lvF bef n k)) n s).getD 0 = _
  rw [nextF_get hs.1]
  refine sumN_congr n fun v hv => ?_
  unfold tm dAll
  cases hb : bt s v with
  | false => rfl
  | true =>
    have hc := cnt_del hs.1 (show v < 64 by omega) hb n hv
    have hc2 : cnt (del s v) n = k := by omega
    dsimp only
    rw [hc2]
    cases hr : rdy bef (del s v) v with
    | false => simp
    | true =>
      cases hf : lvF bef n k (del s v) with
      | none => simp
      | some x => simp
theorem del_less {s v : Nat} (hs : s < lim) (hv : v < 64) (h : bt s v = true) : del s v < s := by
  have e := add_del hs hv h
  have : del s v ≤ add (del s v) v := Nat.left_le_or
  rw [e] at this
  have hne : del s v ≠ s := fun e2 => by
    have := bt_del_self (s := s) hv
    rw [e2, h] at this; cases this
  omega
end Go.Proofs.YtfcabdgidlnljaaDoor.DiP
namespace Go.Proofs.YtfcabdgidlnljaaDoor.DiP
set_option linter.unusedVariables false
set_option linter.unusedSimpArgs false
/-- A set's nodes, rising. -/
def memL (s : Nat) : List Nat := (List.range 64).filter fun v => bt s v
theorem memL_mem {s u : Nat} : u ∈ memL s ↔ u < 64 ∧ bt s u = true := by unfold memL; rw [List.mem_filter, List.mem_range]
theorem memL_pw (s : Nat) : (memL s).Pairwise (· < ·) := List.Pairwise.filter _ List.pairwise_lt_range
theorem memL_len (s : Nat) : (memL s).length ≤ 64 := by
  have := List.length_filter_le (fun v => bt s v) (List.range 64)
  rw [List.length_range] at this
  exact this
theorem memL_zero : memL 0 = [] := by
  unfold memL
  rw [List.filter_eq_nil_iff]
  intro v _
  rw [bt_zero]; decide
/-- The lowest node of a set. -/
def tz (x : Nat) : Nat := Lib.ctz 64 x
theorem tz_form {x : Nat} (h0 : x ≠ 0) (hx : x < lim) : ∃ m, x = 2 ^ tz x * (2 * m + 1) ∧ tz x < 64 := by
  unfold tz Lib.ctz
  rw [if_neg h0]
  exact Lib.ctzFrom_spec 64 x (Nat.pos_of_ne_zero h0) (by rw [lim_eq] at hx; exact hx)
theorem tz_lt {x : Nat} (h0 : x ≠ 0) (hx : x < lim) : tz x < 64 := (tz_form h0 hx).elim fun _ h => h.2
theorem bt_tz {x : Nat} (h0 : x ≠ 0) (hx : x < lim) : bt x (tz x) = true := by
  obtain ⟨m, hm, _⟩ := tz_form h0 hx
  unfold bt
  generalize tz x = k at hm
  subst hm
  rw [Nat.mul_comm, Nat.testBit_mul_two_pow]
  simp
theorem bt_below {x u : Nat} (h0 : x ≠ 0) (hx : x < lim) (hu : u < tz x) : bt x u = false := by
  obtain ⟨m, hm, _⟩ := tz_form h0 hx
  unfold bt
  generalize tz x = k at hm hu
  subst hm
  rw [Nat.mul_comm, Nat.testBit_mul_two_pow]
  simp; omega
/-- 'x & (x - 1)' takes the lowest node away. -/
theorem and_pred {x : Nat} (h0 : x ≠ 0) (hx : x < lim) : x &&& (x - 1) = del x (tz x) := by
  have hk := tz_lt h0 hx
  refine ext64 (by rw [lim_eq] at *; exact Nat.and_lt_two_pow _ (by omega)) (del_lt _ hx) fun u hu => ?_
  rw [bt_del hk hu]
  have e : bt (x &&& (x - 1)) u = (bt x u && bt (x - 1) u) := by simp [bt]
  rw [e]
  obtain ⟨m, hm, _⟩ := tz_form h0 hx
  rcases Nat.lt_trichotomy u (tz x) with h | h | h
  · rw [bt_below h0 hx h]; rfl
  · subst h
    have : bt (x - 1) (tz x) = false := by
      generalize tz x = k at hm
      subst hm
      unfold bt
      rw [Nat.testBit_eq_decide_div_mod_eq]
      have hp := Nat.two_pow_pos k
      have e2 : 2 ^ k * (2 * m + 1) - 1 = 2 ^ k * (2 * m) + (2 ^ k - 1) := by rw [Nat.mul_add]; omega
      rw [e2, Nat.mul_add_div hp, Nat.div_eq_of_lt (by omega)]
      simp
    rw [this]; simp
  · have : bt (x - 1) u = bt x u := by
      generalize tz x = k at hm h
      subst hm
      unfold bt
      rw [Nat.testBit_eq_decide_div_mod_eq, Nat.testBit_eq_decide_div_mod_eq]
      obtain ⟨d, rfl⟩ : ∃ d, u = (k + 1) + d := ⟨u - (k + 1), by omega⟩
      have hp := Nat.two_pow_pos k
      have e2 : 2 ^ k * (2 * m + 1) - 1 = 2 ^ (k + 1) * m + (2 ^ k - 1) := by rw [Nat.mul_add, Nat.pow_succ, Nat.mul_assoc]; omega
      have e3 : 2 ^ k * (2 * m + 1) = 2 ^ (k + 1) * m + 2 ^ k := by rw [Nat.mul_add, Nat.pow_succ, Nat.mul_assoc]; omega
      have hq := Nat.two_pow_pos (k + 1)
      have hlt : 2 ^ k < 2 ^ (k + 1) := by rw [Nat.pow_succ]; omega
      rw [e2, e3, show 2 ^ (k + 1 + d) = 2 ^ (k + 1) * 2 ^ d from Nat.pow_add _ _ _]
      generalize 2 ^ (k + 1) = P at hq hlt
      rw [← Nat.div_div_eq_div_mul, ← Nat.div_div_eq_div_mul, Nat.mul_add_div hq, Nat.mul_add_div hq, Nat.div_eq_of_lt hlt, Nat.div_eq_of_lt (show 2 ^ k - 1 < P by omega)]
    rw [this, decide_eq_false (by omega)]; simp
theorem memL_cons {x : Nat} (h0 : x ≠ 0) (hx : x < lim) : memL x = tz x :: memL (del x (tz x)) := by
  have hk := tz_lt h0 hx
  refine pw_ext (memL_pw x) ?_ fun u => ?_
  · rw [List.pairwise_cons]
    refine ⟨fun u hu => ?_, memL_pw _⟩
    obtain ⟨h1, h2⟩ := memL_mem.1 hu
    rw [bt_del hk h1, Bool.and_eq_true] at h2
    rcases Nat.lt_trichotomy u (tz x) with h | h | h
    · rw [bt_below h0 hx h] at h2; cases h2.1
    · subst h; simp at h2
    · exact h
  · rw [List.mem_cons, memL_mem, memL_mem]
    constructor
    · rintro ⟨h1, h2⟩
      by_cases e : u = tz x
      · exact .inl e
      · exact .inr ⟨h1, by rw [bt_del hk h1, h2, decide_eq_false (fun h => e h.symm)]; rfl⟩
    · rintro (rfl | ⟨h1, h2⟩)
      · exact ⟨hk, bt_tz h0 hx⟩
      · rw [bt_del hk h1, Bool.and_eq_true] at h2
        exact ⟨h1, h2.1⟩
end Go.Proofs.YtfcabdgidlnljaaDoor.DiP
namespace Go.Proofs.YtfcabdgidlnljaaDoor.DiP
set_option linter.unusedVariables false
set_option linter.unusedSimpArgs false
def putO (G : Nat → Option Nat) (s c : Nat) : Nat → Option Nat := fun t => if t = s then some c else G t
theorem putO_same (G : Nat → Option Nat) (s c : Nat) : putO G s c s = some c := if_pos rfl
theorem putO_other (G : Nat → Option Nat) {s t : Nat} (c : Nat) (h : t ≠ s) : putO G s c t = G t := if_neg h
/-- One node more. -/
def stepG (x c : Nat) (G : Nat → Option Nat) (v : Nat) : Nat → Option Nat := putO G (add x v) ((G (add x v)).getD 0 + c)
def foldG (x c : Nat) (G : Nat → Option Nat) (l : List Nat) : Nat → Option Nat := l.foldl (stepG x c) G
theorem foldG_snoc (x c : Nat) (G : Nat → Option Nat) (l : List Nat) (v : Nat) : foldG x c G (l ++ [v]) = stepG x c (foldG x c G l) v := by unfold foldG; rw [List.foldl_append]; rfl
def updL (d : Nat → Nat → Bool) (x : Nat) : List Nat → Nat → Nat → Bool
  | [] => d
  | v :: l => updL (updD d x v) x l
theorem updL_eq (x : Nat) : ∀ (l : List Nat) (d : Nat → Nat → Bool) (x' v' : Nat), updL d x l x' v' = (d x' v' || (decide (x' = x) && l.contains v'))
  | [], d, x', v' => by simp [updL]
  | v :: l, d, x', v' => by
    rw [updL, updL_eq x l]
    unfold updD
    by_cases e1 : x' = x <;> by_cases e2 : v' = v <;> simp [e1, e2]
theorem fold_next {F : Nat → Option Nat} {n x : Nat} (hn : n ≤ 64) (hx : x < lim) : ∀ (l : List Nat) (d : Nat → Nat → Bool), l.Nodup → (∀ v, v ∈ l → v < n ∧ bt x v = false ∧ d x v = false) →
    foldG x ((F x).getD 0) (nextF F d n) l = nextF F (updL d x l) n
  | [], d, _, _ => rfl
  | v :: l, d, hd, h => by
    rw [List.nodup_cons] at hd
    obtain ⟨hv, hb, hdv⟩ := h v (by simp)
    have e : stepG x ((F x).getD 0) (nextF F d n) v = nextF F (updD d x v) n := by
      funext s
      unfold stepG
      by_cases hs : s = add x v
      · subst hs
        rw [putO_same, nextF_step hn hx hv hb hdv]
      · rw [putO_other _ _ hs, nextF_rest hn hx hv hb hs]
    show foldG x ((F x).getD 0) (stepG x ((F x).getD 0) (nextF F d n) v) l = _
    rw [e]
    refine fold_next hn hx l (updD d x v) hd.2 fun u hu => ?_
    obtain ⟨h1, h2, h3⟩ := h u (by simp [hu])
    refine ⟨h1, h2, ?_⟩
    rw [updD_other d (fun e => hd.1 (by rw [← e.2]; exact hu))]
    exact h3
/-- Which pairs are done, where some sets are still to come. -/
def dLeft (bef : Nat → Nat) (F : Nat → Option Nat) (left : Nat → Bool) (x v : Nat) : Bool := (F x).isSome && !left x && rdy bef x v
theorem fold_set {bef : Nat → Nat} {F : Nat → Option Nat} {n x : Nat} {left : Nat → Bool} (hn : n ≤ 64) (hx : x < lim) (hF : (F x).isSome = true) (hl : left x = true) :
    foldG x ((F x).getD 0) (nextF F (dLeft bef F left) n) (memL (rdyK bef x n)) = nextF F (dLeft bef F (fun z => left z && !decide (z = x))) n := by
  rw [fold_next hn hx]
  · funext s
    refine nextF_congr hn (fun x' v' hx' hv' hb' => ?_) s
    rw [updL_eq]
    unfold dLeft
    by_cases e : x' = x
    · subst e
      have : (memL (rdyK bef x' n)).contains v' = rdy bef x' v' := by
        rw [Bool.eq_iff_iff, List.contains_iff_mem, memL_mem, bt_rdyK, Bool.and_eq_true, decide_eq_true_eq]
        exact ⟨fun h => h.2.2, fun h => ⟨by omega, hv', h⟩⟩
      rw [this, hF, hl]
      simp
    · simp [e]
  · have := memL_pw (rdyK bef x n)
    exact this.imp fun h => Nat.ne_of_lt h
  · intro v hv
    obtain ⟨h1, h2⟩ := memL_mem.1 hv
    rw [bt_rdyK, Bool.and_eq_true, decide_eq_true_eq] at h2
    exact ⟨h2.1, rdy_new h2.2, by unfold dLeft; rw [hl]; simp⟩
/-- At the start none is done; at the end all are. -/
theorem next_none {bef : Nat → Nat} {F : Nat → Option Nat} {n : Nat} {left : Nat → Bool} (h : ∀ x, (F x).isSome = true → left x = true) : nextF F (dLeft bef F left) n = fun _ => none := by
  funext s
  have : ∀ x v, dLeft bef F left x v = false := fun x v => by
    unfold dLeft
    cases hf : (F x).isSome with
    | false => rfl
    | true => rw [h x hf]; rfl
  unfold nextF
  rw [if_neg]
  rw [anyW_iff]
  rintro ⟨_, v, _, _, h2⟩
  rw [this] at h2; cases h2
theorem next_all {bef : Nat → Nat} {F : Nat → Option Nat} {n : Nat} (hn : n ≤ 64) {left : Nat → Bool} (h : ∀ x, x < lim → left x = false) : nextF F (dLeft bef F left) n = nextF F (dAll bef F) n := by
  funext s
  refine nextF_congr hn (fun x v hx _ _ => ?_) s
  unfold dLeft dAll
  rw [h x hx]; simp
/-- How great a number is at most. -/
def Most (G : Nat → Option Nat) (M : Nat) : Prop := ∀ s x, G s = some x → x ≤ M
theorem Most.step {G : Nat → Option Nat} {M x c v : Nat} (h : Most G M) : Most (stepG x c G v) (M + c) := by
  intro s y hy
  unfold stepG putO at hy
  split at hy
  · injection hy with hy
    subst hy
    cases hg : G (add x v) with
    | none => simp
    | some z => have := h _ z hg; simp; omega
  · have := h s y hy; omega
theorem Most.fold {x c : Nat} : ∀ (l : List Nat) {G : Nat → Option Nat} {M : Nat}, Most G M → Most (foldG x c G l) (M + l.length * c)
  | [], G, M, h => by simpa [foldG] using h
  | v :: l, G, M, h => by
    have := Most.fold (x := x) (c := c) l (Most.step (x := x) (c := c) (v := v) h)
    show Most (foldG x c (stepG x c G v) l) _
    rw [List.length_cons, Nat.succ_mul]
    intro s y hy
    have := this s y hy
    omega
theorem next_most {F : Nat → Option Nat} {d : Nat → Nat → Bool} {n M : Nat} (h : Most F M) : Most (nextF F d n) (n * M) := by
  intro s y hy
  unfold nextF at hy
  split at hy
  · injection hy with hy
    subst hy
    refine sumN_le n fun v _ => ?_
    unfold tm
    split
    · cases hg : F (del s v) with
      | none => simp
      | some z => exact h _ z hg
    · simp
  · cases hy
end Go.Proofs.YtfcabdgidlnljaaDoor.DiP
namespace Go.Proofs.YtfcabdgidlnljaaDoor.DiP
set_option linter.unusedVariables false
set_option linter.unusedSimpArgs false
theorem fur_step (aft r : Nat → Nat) (v k b : Nat) : bt (furK aft r v (k + 1)) b = (bt (furK aft r v k) b || (bt (aft v) k && bt (r k) b)) := by
  show bt (if _ then _ else _) b = _
  cases h : bt (aft v) k with
  | true => rw [if_pos rfl, bt_orn]; simp
  | false => simp
theorem E_mem {g : List (Nat × Nat)} {u v : Nat} : E g u v ↔ (u, v) ∈ g := by
  constructor
  · rintro ⟨k, hk, h1, h2⟩
    have e : g[k] = (u, v) := by
      rw [← h1, ← h2]; simp [fa, fb, List.getD, hk]
    rw [← e]; exact List.getElem_mem hk
  · intro h
    obtain ⟨k, hk, e⟩ := List.getElem_of_mem h
    exact ⟨k, hk, by simp [fa, List.getD, hk, e], by simp [fb, List.getD, hk, e]⟩
theorem mem_prsK {x s u v : Nat} : ∀ k, (u, v) ∈ prsK x s k ↔ u = x ∧ v < k ∧ bt s v = true := by
  intro k
  induction k with
  | zero => simp [prsK]
  | succ k ih =>
    unfold prsK
    by_cases h : bt s k = true
    · rw [if_pos h, List.mem_append, ih]
      constructor
      · rintro (⟨h1, h2, h3⟩ | h1)
        · exact ⟨h1, by omega, h3⟩
        · simp at h1; exact ⟨h1.1, by omega, by rw [h1.2]; exact h⟩
      · rintro ⟨h1, h2, h3⟩
        by_cases e : v = k
        · right; simp [h1, e]
        · exact .inl ⟨h1, by omega, h3⟩
    · rw [if_neg h, ih]
      constructor
      · rintro ⟨h1, h2, h3⟩; exact ⟨h1, by omega, h3⟩
      · rintro ⟨h1, h2, h3⟩
        refine ⟨h1, ?_, h3⟩
        by_cases e : v = k
        · subst e; exact absurd h3 h
        · omega
theorem mem_thnK {n : Nat} {aft r : Nat → Nat} {u v : Nat} : ∀ k, (u, v) ∈ thnK n aft r k ↔ u < k ∧ v < n ∧ bt (andn (aft u) (furK aft r u n)) v = true := by
  intro k
  induction k with
  | zero => simp [thnK]
  | succ k ih =>
    unfold thnK
    rw [List.mem_append, ih, mem_prsK]
    constructor
    · rintro (⟨h1, h2, h3⟩ | ⟨h1, h2, h3⟩)
      · exact ⟨by omega, h2, h3⟩
      · subst h1; exact ⟨by omega, h2, h3⟩
    · rintro ⟨h1, h2, h3⟩
      by_cases e : u = k
      · subst e; exact .inr ⟨rfl, h2, h3⟩
      · exact .inl ⟨by omega, h2, h3⟩
theorem E_thn {g : List (Nat × Nat)} {n u v : Nat} (hi : InN n g) (hn : n ≤ 64) : E (thnG n g) u v ↔ E g u v ∧ ¬ ∃ c, E g u c ∧ Way g c v := by
  rw [E_mem]
  unfold thnG
  rw [mem_thnK]
  constructor
  · rintro ⟨h1, h2, h3⟩; exact (left_iff hi hn (by omega)).1 h3
  · intro h
    have := h.1.lt hi
    exact ⟨this.1, this.2, (left_iff hi hn (by omega)).2 h⟩
theorem inN_thn {g : List (Nat × Nat)} {n : Nat} (hi : InN n g) (hn : n ≤ 64) : InN n (thnG n g) := by
  intro k hk
  have e : E (thnG n g) (fa (thnG n g) k) (fb (thnG n g) k) := ⟨k, hk, rfl, rfl⟩
  exact ((E_thn hi hn).1 e).1.lt hi
theorem way_thn {g : List (Nat × Nat)} {n : Nat} (hi : InN n g) (hn : n ≤ 64) (hg : Goes (befG g) n n) {u v : Nat} : Way (thnG n g) u v ↔ Way g u v := by
  constructor
  · intro h
    induction h with
    | one e => exact .one ((E_thn hi hn).1 e).1
    | more _ e ih => exact .more ih ((E_thn hi hn).1 e).1
  · have hr : ∀ {a b}, Way g a b → levG n g a < levG n g b := fun h => way_rank (fun _ _ e => levG_edge hi hn hg e) h
    have key : ∀ d u v, Way g u v → levG n g v - levG n g u ≤ d → Way (thnG n g) u v := by
      intro d
      induction d with
      | zero => intro u v h hd; have := hr h; omega
      | succ d ih =>
        intro u v h hd
        have two : ∀ c, E g u c → Way g c v → Way (thnG n g) u v := fun c e h2 => by
          have h3 := hr (.one e)
          have h4 := hr h2
          exact (ih u c (.one e) (by omega)).trans (ih c v h2 (by omega))
        rcases way_first h with e | ⟨c, e, h2⟩
        · by_cases hc : ∃ c, E g u c ∧ Way g c v
          · obtain ⟨c, e2, h2⟩ := hc
            exact two c e2 h2
          · exact .one ((E_thn hi hn).2 ⟨e, hc⟩)
        · exact two c e h2
    exact fun h => key _ u v h (Nat.le_refl _)
theorem rch_thn {g : List (Nat × Nat)} {n : Nat} (hi : InN n g) (hn : n ≤ 64) (hg : Goes (befG g) n n) {u : Nat} (hu : u < n) : rchG n (thnG n g) u = rchG n g u := by
  have hi' := inN_thn hi hn
  refine ext64 (rchK_small hi' hn n u) (rchK_small hi hn n u) (fun v _ => ?_)
  rw [Bool.eq_iff_iff]
  exact (rch_way hi' hu).trans ((way_thn hi hn hg).trans (rch_way hi hu).symm)
section
variable {g : List (Nat × Nat)} {n : Nat}
theorem cl_thn (hi : InN n g) (hn : n ≤ 64) (hg : Goes (befG g) n n) (s : Nat) : Cl (thnG n g) s ↔ Cl g s := cl_same (fun u v => way_thn hi hn hg) s
theorem goes_thn (hi : InN n g) (hn : n ≤ 64) (hg : Goes (befG g) n n) : Goes (befG (thnG n g)) n n :=
  goes_of_rank (inN_thn hi hn) hn (levG n g) fun u v e => levG_edge hi hn hg ((E_thn hi hn).1 e).1
/-- Behind a closed set the same nodes are ready. -/
theorem rdy_thn (hi : InN n g) (hn : n ≤ 64) (hg : Goes (befG g) n n) {s v : Nat} (hs : s < lim) (hc : Cl g s) : rdy (befG (thnG n g)) s v = rdy (befG g) s v := by
  rw [Bool.eq_iff_iff, rdy_iff (inN_thn hi hn) hn hs, rdy_iff hi hn hs]
  refine and_congr_right fun _ => ⟨fun h u e => ?_, fun h u e => h u ((E_thn hi hn).1 e).1⟩
  have hw : Way (thnG n g) u v := (way_thn hi hn hg).2 (.one e)
  cases hw with
  | one e => exact h u e
  | more w e => exact cl_way.1 hc _ _ ((way_thn hi hn hg).1 w) (h _ e)
theorem lv_thn (hi : InN n g) (hn : n ≤ 64) (hg : Goes (befG g) n n) : ∀ k, lvF (befG (thnG n g)) n k = lvF (befG g) n k
  | 0 => rfl
  | k + 1 => by
    funext s
    show nextF (lvF (befG (thnG n g)) n k) (dAll (befG (thnG n g)) (lvF (befG (thnG n g)) n k)) n s = nextF (lvF (befG g) n k) (dAll (befG g) (lvF (befG g) n k)) n s
    rw [lv_thn hi hn hg k]
    refine nextF_congr hn (fun x v hx _ _ => ?_) s
    unfold dAll
    cases h : (lvF (befG g) n k x).isSome with
    | false => rfl
    | true => rw [rdy_thn hi hn hg hx ((lv_has hi hn hg k x).1 h).2.2]
end
end Go.Proofs.YtfcabdgidlnljaaDoor.DiP
namespace Go.Proofs.YtfcabdgidlnljaaDoor.DiP
set_option linter.unusedVariables false
set_option linter.unusedSimpArgs false
theorem meet_iff {r s : Nat} (hs : s < lim) : r &&& s ≠ 0 ↔ ∃ v, bt r v = true ∧ bt s v = true := by
  constructor
  · intro h
    refine Classical.byContradiction fun hn => h ?_
    refine Nat.eq_of_testBit_eq fun u => ?_
    rw [Nat.zero_testBit, Nat.testBit_and]
    cases h1 : r.testBit u with
    | false => rfl
    | true =>
      cases h2 : s.testBit u with
      | false => rfl
      | true => exact (hn ⟨u, h1, h2⟩).elim
  · rintro ⟨v, h1, h2⟩ h
    have : (r &&& s).testBit v = true := by rw [Nat.testBit_and]; unfold bt at h1 h2; rw [h1, h2]; rfl
    rw [h, Nat.zero_testBit] at this
    cases this
section
variable {g : List (Nat × Nat)} {n s : Nat}
/-- What Down says, node by node. -/
def IsDown (g : List (Nat × Nat)) (n s d : Nat) : Prop := d < lim ∧ ∀ u, bt d u = true ↔ bt s u = true ∨ (u < n ∧ ∃ v, Way g u v ∧ bt s v = true)
theorem IsDown.closed {d : Nat} (h : IsDown g n s d) (hi : InN n g) : Cl g d := fun k hk hb => by
  have e : E g (fa g k) (fb g k) := ⟨k, hk, rfl, rfl⟩
  rcases (h.2 _).1 hb with h1 | ⟨_, v, h2, h3⟩
  · exact (h.2 _).2 (.inr ⟨(hi k hk).1, _, .one e, h1⟩)
  · exact (h.2 _).2 (.inr ⟨(hi k hk).1, v, (Way.one e).trans h2, h3⟩)
theorem IsDown.has {d : Nat} (h : IsDown g n s d) (hs : s < lim) : andn s d = 0 := (andn_zero hs h.1).2 fun u hu => (h.2 u).2 (.inl hu)
theorem IsDown.inS {d : Nat} (h : IsDown g n s d) (hs : inS n s) : inS n d := ⟨h.1, fun u hu => by
  cases hb : bt d u with
  | false => rfl
  | true =>
    rcases (h.2 u).1 hb with h1 | ⟨h1, _⟩
    · rw [hs.2 u hu] at h1; cases h1
    · omega⟩
theorem IsDown.least {d x : Nat} (h : IsDown g n s d) (hx : x < lim) (hc : Cl g x) (hsx : ∀ u, bt s u = true → bt x u = true) : andn d x = 0 := (andn_zero h.1 hx).2 fun u hu => by
  rcases (h.2 u).1 hu with h1 | ⟨_, v, h2, h3⟩
  · exact hsx u h1
  · exact cl_way.1 hc u v h2 (hsx v h3)
theorem IsDown.same {d : Nat} (h : IsDown g n s d) (hs : s < lim) (hc : Cl g s) : d = s := by
  refine ext64 h.1 hs fun u _ => ?_
  rw [Bool.eq_iff_iff, h.2 u]
  constructor
  · rintro (h1 | ⟨_, v, h2, h3⟩)
    · exact h1
    · exact cl_way.1 hc u v h2 h3
  · exact .inl
end
end Go.Proofs.YtfcabdgidlnljaaDoor.DiP
