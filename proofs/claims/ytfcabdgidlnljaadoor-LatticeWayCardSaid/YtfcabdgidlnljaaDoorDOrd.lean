/-
  PLAIN MATHEMATICS for the statements of layer 3: the first order, step by step; how far each node's longest way is.
-/
import Derived.Test.YtfcabdgidlnljaaDoorDPure
namespace Go.Proofs.YtfcabdgidlnljaaDoor.DiP
/-- How many nodes below k are in a set. -/
def cnt (s : Nat) : Nat → Nat
  | 0 => 0
  | k + 1 => cnt s k + (if bt s k then 1 else 0)
theorem cnt_le (s : Nat) : ∀ k, cnt s k ≤ k := by
  intro k
  induction k with
  | zero => exact Nat.le_refl _
  | succ k ih => unfold cnt; split <;> omega
theorem cnt_zero : ∀ k, cnt 0 k = 0 := by
  intro k
  induction k with
  | zero => rfl
  | succ k ih => unfold cnt; rw [ih, bt_zero]; rfl
theorem cnt_add {s v : Nat} (h : bt s v = false) : ∀ k, cnt (add s v) k = cnt s k + (if v < k then 1 else 0) := by
  intro k
  induction k with
  | zero => rfl
  | succ k ih =>
    unfold cnt
    rw [ih, bt_add]
    by_cases hv : v = k
    · subst hv; simp [h]
    · simp only [hv, decide_false, Bool.or_false]
      by_cases h2 : v < k
      · have : v < k + 1 := by omega
        simp only [h2, this, if_true]; omega
      · have : ¬ v < k + 1 := by omega
        simp [h2, this]
theorem cnt_full {s : Nat} : ∀ k, cnt s k = k → ∀ u, u < k → bt s u = true := by
  intro k
  induction k with
  | zero => intro _ u hu; omega
  | succ k ih =>
    intro h u hu
    unfold cnt at h
    have := cnt_le s k
    cases hb : bt s k with
    | false => rw [hb] at h; simp at h; omega
    | true =>
      rw [hb] at h
      simp at h
      by_cases he : u = k
      · rw [he, hb]
      · exact ih h u (by omega)

theorem lowest_spec {bef : Nat → Nat} {s n v : Nat} (h : lowest bef s n = some v) : v < n ∧ rdy bef s v = true ∧ ∀ u, u < v → rdy bef s u = false := by
  unfold lowest at h
  rw [List.find?_range_eq_some] at h
  obtain ⟨h1, h2, h3⟩ := h
  exact ⟨by simpa using h2, h1, fun u hu => by simpa using h3 u hu⟩
theorem lowest_no {bef : Nat → Nat} {s n : Nat} (h : lowest bef s n = none) : ∀ u, u < n → rdy bef s u = false := by
  unfold lowest at h
  rw [List.find?_eq_none] at h
  intro u hu
  simpa using h u (by simpa using hu)
theorem rdy_new {bef : Nat → Nat} {s v : Nat} (h : rdy bef s v = true) : bt s v = false := by
  unfold rdy at h
  simp at h
  exact h.1
theorem rdy_zero {bef : Nat → Nat} {s v : Nat} (h : rdy bef s v = true) : andn (bef v) s = 0 := by
  unfold rdy at h
  simp at h
  exact h.2

/-- The order, and the set of its nodes, after k steps. -/
def ordS (bef : Nat → Nat) (n : Nat) : Nat → Nat × List Nat
  | 0 => (0, [])
  | k + 1 => match lowest bef (ordS bef n k).1 n with
    | none => ordS bef n k
    | some v => (add (ordS bef n k).1 v, (ordS bef n k).2 ++ [v])
/-- The order is k nodes long after k steps. -/
def Goes (bef : Nat → Nat) (n k : Nat) : Prop := (ordS bef n k).2.length = k
theorem ordS_some {bef : Nat → Nat} {n k v : Nat} (h : lowest bef (ordS bef n k).1 n = some v) : ordS bef n (k + 1) = (add (ordS bef n k).1 v, (ordS bef n k).2 ++ [v]) := by
  show (match lowest bef (ordS bef n k).1 n with | none => _ | some v => _) = _
  rw [h]
theorem ordS_none {bef : Nat → Nat} {n k : Nat} (h : lowest bef (ordS bef n k).1 n = none) : ordS bef n (k + 1) = ordS bef n k := by
  show (match lowest bef (ordS bef n k).1 n with | none => _ | some v => _) = _
  rw [h]
theorem ordS_len_le (bef : Nat → Nat) (n : Nat) : ∀ k, (ordS bef n k).2.length ≤ k := by
  intro k
  induction k with
  | zero => exact Nat.le_refl _
  | succ k ih =>
    cases h : lowest bef (ordS bef n k).1 n with
    | none => rw [ordS_none h]; omega
    | some v => rw [ordS_some h]; simp; omega
theorem Goes.zero (bef : Nat → Nat) (n : Nat) : Goes bef n 0 := rfl
theorem Goes.step {bef : Nat → Nat} {n k v : Nat} (hg : Goes bef n k) (h : lowest bef (ordS bef n k).1 n = some v) : Goes bef n (k + 1) := by
  unfold Goes at *
  rw [ordS_some h]; simp [hg]
theorem Goes.back {bef : Nat → Nat} {n k : Nat} (hg : Goes bef n (k + 1)) : Goes bef n k ∧ ∃ v, lowest bef (ordS bef n k).1 n = some v := by
  unfold Goes at *
  have h1 := ordS_len_le bef n k
  cases h : lowest bef (ordS bef n k).1 n with
  | none => rw [ordS_none h] at hg; omega
  | some v => rw [ordS_some h] at hg; simp at hg; exact ⟨hg, v, rfl⟩
theorem Goes.le {bef : Nat → Nat} {n K : Nat} (hg : Goes bef n K) : ∀ j, j ≤ K → Goes bef n j := by
  induction K with
  | zero => intro j hj; obtain rfl : j = 0 := by omega
            exact hg
  | succ K ih =>
    intro j hj
    by_cases h : j = K + 1
    · subst h; exact hg
    · exact ih hg.back.1 j (by omega)
theorem ordS_cnt (bef : Nat → Nat) (n : Nat) : ∀ k, cnt (ordS bef n k).1 n = (ordS bef n k).2.length := by
  intro k
  induction k with
  | zero => exact cnt_zero n
  | succ k ih =>
    cases h : lowest bef (ordS bef n k).1 n with
    | none => rw [ordS_none h]; exact ih
    | some v =>
      obtain ⟨h1, h2, _⟩ := lowest_spec h
      rw [ordS_some h]
      show cnt (add _ v) n = (_ ++ [v]).length
      rw [cnt_add (rdy_new h2), ih]
      simp [h1]
theorem Goes.bound {bef : Nat → Nat} {n k : Nat} (hg : Goes bef n k) : k ≤ n := by
  have h := ordS_cnt bef n k
  rw [hg] at h
  have := cnt_le (ordS bef n k).1 n
  omega
theorem ordS_stop {bef : Nat → Nat} {n k : Nat} (h : lowest bef (ordS bef n k).1 n = none) : ∀ m, ordS bef n (k + m) = ordS bef n k := by
  intro m
  induction m with
  | zero => rfl
  | succ m ih => rw [show k + (m + 1) = (k + m) + 1 from rfl, ordS_none (by rw [ih]; exact h), ih]
/-- The whole order: as long as it goes. -/
def ordA (bef : Nat → Nat) (n : Nat) : List Nat := (ordS bef n n).2
theorem ordA_end {bef : Nat → Nat} {n k : Nat} (hg : Goes bef n k) (h : lowest bef (ordS bef n k).1 n = none) : ordA bef n = (ordS bef n k).2 := by
  unfold ordA
  have := ordS_stop h (n - k)
  rw [show k + (n - k) = n by have := hg.bound; omega] at this
  rw [this]
theorem ordS_lt (bef : Nat → Nat) {n : Nat} (hn : n ≤ 64) : ∀ k, (ordS bef n k).1 < lim := by
  intro k
  induction k with
  | zero => show 0 < lim; decide
  | succ k ih =>
    cases h : lowest bef (ordS bef n k).1 n with
    | none => rw [ordS_none h]; exact ih
    | some v => rw [ordS_some h]; exact add_lt ih (by have := (lowest_spec h).1; omega)
/-- The element at a place. -/
def nth (l : List Nat) (j : Nat) : Nat := l.getD j 0
theorem nth_snoc_lt {l : List Nat} {v j : Nat} (h : j < l.length) : nth (l ++ [v]) j = nth l j := by
  simp [nth, List.getD, List.getElem?_append_left h]
theorem nth_snoc_last (l : List Nat) (v : Nat) : nth (l ++ [v]) l.length = v := by simp [nth, List.getD]
/-- Each node of the order is the lowest that may come next, behind those ahead of it. -/
theorem Goes.each {bef : Nat → Nat} {n K : Nat} (hg : Goes bef n K) : ∀ j, j < K → lowest bef (ordS bef n j).1 n = some (nth (ordS bef n K).2 j) := by
  induction K with
  | zero => intro j hj; omega
  | succ K ih =>
    intro j hj
    obtain ⟨hg', v, hv⟩ := hg.back
    rw [ordS_some hv]
    show _ = some (nth ((ordS bef n K).2 ++ [v]) j)
    by_cases h : j = K
    · subst h
      have := nth_snoc_last (ordS bef n j).2 v
      rw [hg'] at this
      rw [this]; exact hv
    · rw [nth_snoc_lt (by rw [hg']; omega)]
      exact ih hg' j (by omega)
theorem Goes.next {bef : Nat → Nat} {n K j : Nat} (hg : Goes bef n K) (hj : j < K) : (ordS bef n (j + 1)).1 = add (ordS bef n j).1 (nth (ordS bef n K).2 j) := by
  rw [ordS_some (hg.each j hj)]

/-- Is a set closed? -/
def Cl (g : List (Nat × Nat)) (s : Nat) : Prop := ∀ k, k < g.length → bt s (fb g k) = true → bt s (fa g k) = true
theorem Cl.E {g : List (Nat × Nat)} {s : Nat} (h : Cl g s) {u v : Nat} (e : E g u v) (hv : bt s v = true) : bt s u = true := by
  obtain ⟨k, hk, rfl, rfl⟩ := e
  exact h k hk hv
theorem ordS_closed {g : List (Nat × Nat)} {n : Nat} (hi : InN n g) (hn : n ≤ 64) : ∀ k, Cl g (ordS (befG g) n k).1 := by
  intro k
  induction k with
  | zero => intro j _ h; rw [show (ordS (befG g) n 0).1 = 0 from rfl, bt_zero] at h; cases h
  | succ k ih =>
    cases h : lowest (befG g) (ordS (befG g) n k).1 n with
    | none => rw [ordS_none h]; exact ih
    | some v =>
      rw [ordS_some h]
      intro j hj hb
      rw [bt_add] at hb ⊢
      simp only [Bool.or_eq_true, decide_eq_true_eq] at hb ⊢
      left
      rcases hb with hb | hb
      · exact ih j hj hb
      · have hz := rdy_zero (lowest_spec h).2.1
        rw [andn_zero (befG_small hi hn v) (ordS_lt _ hn k)] at hz
        exact hz _ ((bt_befG g _ _).2 ⟨j, hj, rfl, hb.symm⟩)
theorem bt_low (r i : Nat) (u : Nat) : bt (r &&& (one i - 1)) u = (bt r u && decide (u < i)) := by
  simp [bt, one, Bool.and_comm]
/-- None of a set is below a node. -/
theorem low_zero {r i : Nat} (h : ∀ u, u < i → bt r u = false) : r &&& (one i - 1) = 0 := by
  apply ext_bt
  intro u
  rw [bt_low, bt_zero]
  by_cases hu : u < i
  · rw [h u hu]; rfl
  · simp [hu]

/-- The longest ways to a node, by its neighbours below k. -/
def mxK (bef lev : Nat → Nat) (v : Nat) : Nat → Nat
  | 0 => 0
  | k + 1 => if bt (bef v) k then max (mxK bef lev v k) (lev k + 1) else mxK bef lev v k
theorem mxK_congr {bef lev lev' : Nat → Nat} {v : Nat} (h : ∀ u, bt (bef v) u = true → lev u = lev' u) : ∀ k, mxK bef lev v k = mxK bef lev' v k := by
  intro k
  induction k with
  | zero => rfl
  | succ k ih =>
    unfold mxK
    by_cases hb : bt (bef v) k = true
    · rw [if_pos hb, if_pos hb, ih, h k hb]
    · rw [if_neg hb, if_neg hb, ih]
theorem mxK_ge {bef lev : Nat → Nat} {v u : Nat} : ∀ k, u < k → bt (bef v) u = true → lev u + 1 ≤ mxK bef lev v k := by
  intro k
  induction k with
  | zero => intro h; omega
  | succ k ih =>
    intro hu hb
    unfold mxK
    by_cases h : u = k
    · subst h; rw [if_pos hb]; omega
    · have := ih (by omega) hb
      split <;> omega
theorem mxK_has {bef lev : Nat → Nat} {v : Nat} : ∀ k, mxK bef lev v k = 0 ∨ ∃ u, u < k ∧ bt (bef v) u = true ∧ mxK bef lev v k = lev u + 1 := by
  intro k
  induction k with
  | zero => exact .inl rfl
  | succ k ih =>
    unfold mxK
    by_cases hb : bt (bef v) k = true
    · rw [if_pos hb]
      right
      by_cases hm : mxK bef lev v k ≤ lev k + 1
      · exact ⟨k, by omega, hb, by omega⟩
      · rcases ih with h0 | ⟨u, hu, hbu, he⟩
        · omega
        · exact ⟨u, by omega, hbu, by omega⟩
    · rw [if_neg hb]
      rcases ih with h0 | ⟨u, hu, hbu, he⟩
      · exact .inl h0
      · exact .inr ⟨u, by omega, hbu, he⟩
theorem mxK_le {bef lev : Nat → Nat} {v B : Nat} (h : ∀ u, lev u ≤ B) : ∀ k, mxK bef lev v k ≤ B + 1 := by
  intro k
  induction k with
  | zero => exact Nat.zero_le _
  | succ k ih => unfold mxK; have := h k; split <;> omega
/-- How long the longest ways are, after j nodes of the order. -/
def levS (bef : Nat → Nat) (n : Nat) (l : List Nat) : Nat → Nat → Nat
  | 0 => fun _ => 0
  | j + 1 => upd (levS bef n l j) (nth l j) (mxK bef (levS bef n l j) (nth l j) n)
theorem levS_le (bef : Nat → Nat) (n : Nat) (l : List Nat) : ∀ j u, levS bef n l j u ≤ j := by
  intro j
  induction j with
  | zero => intro u; exact Nat.le_refl _
  | succ j ih =>
    intro u
    unfold levS upd
    split
    · exact mxK_le ih n
    · have := ih u; omega
theorem levS_spec {g : List (Nat × Nat)} {n K : Nat} (hi : InN n g) (hn : n ≤ 64) (hg : Goes (befG g) n K) :
    ∀ j, j ≤ K → (∀ u, bt (ordS (befG g) n j).1 u = true → levS (befG g) n (ordS (befG g) n K).2 j u = mxK (befG g) (levS (befG g) n (ordS (befG g) n K).2 j) u n) ∧
      ∀ u, bt (ordS (befG g) n j).1 u = false → levS (befG g) n (ordS (befG g) n K).2 j u = 0 := by
  intro j
  induction j with
  | zero =>
    intro _
    refine ⟨fun u hu => ?_, fun u _ => rfl⟩
    rw [show (ordS (befG g) n 0).1 = 0 from rfl, bt_zero] at hu; cases hu
  | succ j ih =>
    intro hj
    obtain ⟨ih1, ih2⟩ := ih (by omega)
    have hl := hg.each j (by omega)
    have hnx := hg.next (j := j) (by omega)
    obtain ⟨hv, hr, _⟩ := lowest_spec hl
    have hnew := rdy_new hr
    have hz := rdy_zero hr
    have hcl := ordS_closed hi hn j
    rw [andn_zero (befG_small hi hn _) (ordS_lt _ hn j)] at hz
    generalize hV : nth (ordS (befG g) n K).2 j = v at *
    have hself : ∀ u, u ≠ v → levS (befG g) n (ordS (befG g) n K).2 (j + 1) u = levS (befG g) n (ordS (befG g) n K).2 j u := by
      intro u hu
      show upd _ (nth _ j) _ u = _
      rw [hV]; exact upd_other _ _ hu
    have hat : levS (befG g) n (ordS (befG g) n K).2 (j + 1) v = mxK (befG g) (levS (befG g) n (ordS (befG g) n K).2 j) v n := by
      show upd _ (nth _ j) _ v = _
      rw [hV]; exact upd_same _ _ _
    refine ⟨fun u hu => ?_, fun u hu => ?_⟩
    · rw [hnx, bt_add] at hu
      by_cases he : u = v
      · subst he
        rw [hat]
        exact mxK_congr (fun x hx => (hself x (fun e => by subst e; rw [hz _ hx] at hnew; cases hnew)).symm) n
      · have hu' : bt (ordS (befG g) n j).1 u = true := by
          simp only [Bool.or_eq_true, decide_eq_true_eq] at hu
          rcases hu with h | h
          · exact h
          · exact absurd h.symm he
        rw [hself u he, ih1 u hu']
        refine mxK_congr (fun x hx => (hself x (fun e => ?_)).symm) n
        subst e
        have := hcl.E ((bt_befG g _ _).1 hx) hu'
        rw [this] at hnew; cases hnew
    · rw [hnx, bt_add] at hu
      have h1 : bt (ordS (befG g) n j).1 u = false ∧ ¬ v = u := by simpa using hu
      rw [hself u (fun e => h1.2 e.symm)]
      exact ih2 u h1.1
/-- How long the longest ways are. -/
def levG (n : Nat) (g : List (Nat × Nat)) : Nat → Nat := levS (befG g) n (ordA (befG g) n) n
theorem levG_eq {g : List (Nat × Nat)} {n : Nat} (hi : InN n g) (hn : n ≤ 64) (hg : Goes (befG g) n n) {u : Nat} (hu : u < n) : levG n g u = mxK (befG g) (levG n g) u n := by
  have hall : bt (ordS (befG g) n n).1 u = true := cnt_full n (by rw [ordS_cnt]; exact hg) u hu
  exact (levS_spec hi hn hg n (Nat.le_refl _)).1 u hall
theorem levG_edge {g : List (Nat × Nat)} {n : Nat} (hi : InN n g) (hn : n ≤ 64) (hg : Goes (befG g) n n) {u v : Nat} (e : E g u v) : levG n g u < levG n g v := by
  rw [levG_eq hi hn hg (e.lt hi).2]
  exact mxK_ge n (e.lt hi).1 ((bt_befG g _ _).2 e)
theorem levG_from {g : List (Nat × Nat)} {n : Nat} (hi : InN n g) (hn : n ≤ 64) (hg : Goes (befG g) n n) {v : Nat} (hv : v < n) (h : 0 < levG n g v) : ∃ u, E g u v ∧ levG n g v = levG n g u + 1 := by
  rw [levG_eq hi hn hg hv] at h ⊢
  rcases mxK_has (bef := befG g) (lev := levG n g) (v := v) n with h0 | ⟨u, _, hb, he⟩
  · omega
  · exact ⟨u, (bt_befG g _ _).1 hb, he⟩
end Go.Proofs.YtfcabdgidlnljaaDoor.DiP
