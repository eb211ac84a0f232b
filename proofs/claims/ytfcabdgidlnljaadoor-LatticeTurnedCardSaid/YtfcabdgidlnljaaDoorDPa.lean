/-
  PLAIN MATHEMATICS for the statements of layer 3 (graphs): sets of nodes as numbers' bits, what leads to and from each node, the first order, what is reached, what is left of the edges.
  PLAIN MATHEMATICS for the statements of layer 3: the first order, step by step; how far each node's longest way is.
  PLAIN MATHEMATICS for the statements of layer 3: what is reached is what a way leads to; a graph with an edge more along what is reached already.
-/
namespace Go.Proofs.YtfcabdgidlnljaaDoor.DiP
/-- The top of 64 bits. -/
def top : Nat := 18446744073709551615
def lim : Nat := 18446744073709551616
theorem lim_eq : lim = 2 ^ 64 := by decide
/-- Is a node in a set? -/
def bt (s v : Nat) : Bool := s.testBit v
def one (v : Nat) : Nat := 2 ^ v
def orn (s t : Nat) : Nat := s ||| t
def add (s v : Nat) : Nat := orn s (one v)
/-- What is in the one and not in the other. -/
def andn (s t : Nat) : Nat := s &&& (18446744073709551615 - t)
theorem bt_zero (v : Nat) : bt 0 v = false := by simp [bt]
theorem bt_one (v u : Nat) : bt (one v) u = decide (v = u) := by simp [bt, one, Nat.testBit_two_pow]
theorem bt_orn (s t u : Nat) : bt (orn s t) u = (bt s u || bt t u) := by simp [bt, orn]
theorem bt_add (s v u : Nat) : bt (add s v) u = (bt s u || decide (v = u)) := by rw [add, bt_orn, bt_one]
theorem one_lt (v : Nat) (h : v < 64) : one v < lim := by rw [lim_eq]; exact Nat.pow_lt_pow_right (by omega) h
theorem one_pos (v : Nat) : 0 < one v := Nat.two_pow_pos v
theorem orn_lt {s t : Nat} (hs : s < lim) (ht : t < lim) : orn s t < lim := by rw [lim_eq] at *; exact Nat.or_lt_two_pow hs ht
theorem add_lt {s v : Nat} (hs : s < lim) (hv : v < 64) : add s v < lim := orn_lt hs (one_lt v hv)
theorem andn_lt {s t : Nat} (hs : s < lim) : andn s t < lim := by
  have : andn s t ≤ s := Nat.and_le_left
  omega
theorem bt_andn {s t u : Nat} (ht : t < lim) (hu : u < 64) : bt (andn s t) u = (bt s u && !bt t u) := by
  have h : (18446744073709551615 : Nat) - t = 2 ^ 64 - (t + 1) := by rw [lim_eq] at ht; omega
  simp only [bt, andn, Nat.testBit_and]
  rw [h, Nat.testBit_two_pow_sub_succ (by rw [lim_eq] at ht; exact ht)]
  simp [hu]
theorem bt_far {s u : Nat} (hs : s < lim) (hu : 64 ≤ u) : bt s u = false := by
  rw [lim_eq] at hs
  exact Nat.testBit_lt_two_pow (Nat.lt_of_lt_of_le hs (Nat.pow_le_pow_right (by omega) hu))
theorem ext_bt {s t : Nat} (h : ∀ u, bt s u = bt t u) : s = t := Nat.eq_of_testBit_eq h
theorem ext64 {s t : Nat} (hs : s < lim) (ht : t < lim) (h : ∀ u, u < 64 → bt s u = bt t u) : s = t := by
  apply ext_bt
  intro u
  by_cases hu : u < 64
  · exact h u hu
  · rw [bt_far hs (by omega), bt_far ht (by omega)]
theorem zero_iff {s : Nat} (hs : s < lim) : s = 0 ↔ ∀ u, u < 64 → bt s u = false := by
  constructor
  · rintro rfl u _; exact bt_zero u
  · intro h; exact ext64 hs (by decide) (fun u hu => by rw [h u hu, bt_zero])
theorem andn_zero {s t : Nat} (hs : s < lim) (ht : t < lim) : andn s t = 0 ↔ ∀ u, bt s u = true → bt t u = true := by
  rw [zero_iff (andn_lt hs)]
  constructor
  · intro h u hu
    by_cases h64 : u < 64
    · have := h u h64
      rw [bt_andn ht h64, hu] at this
      simpa using this
    · rw [bt_far hs (by omega)] at hu; cases hu
  · intro h u hu
    rw [bt_andn ht hu]
    cases hb : bt s u with
    | false => rfl
    | true => rw [h u hb]; rfl
theorem bt_div (s v : Nat) : bt s v = decide (s / 2 ^ v % 2 = 1) := Nat.testBit_eq_decide_div_mod_eq

/-- The edges' ends. -/
def fa (g : List (Nat × Nat)) (k : Nat) : Nat := (g.getD k (0, 0)).1
def fb (g : List (Nat × Nat)) (k : Nat) : Nat := (g.getD k (0, 0)).2
/-- Is there an edge? -/
def E (g : List (Nat × Nat)) (u v : Nat) : Prop := ∃ k, k < g.length ∧ fa g k = u ∧ fb g k = v
/-- All ends are nodes. -/
def InN (n : Nat) (g : List (Nat × Nat)) : Prop := ∀ k, k < g.length → fa g k < n ∧ fb g k < n
theorem E.lt {n : Nat} {g : List (Nat × Nat)} (h : InN n g) {u v : Nat} (e : E g u v) : u < n ∧ v < n := by
  obtain ⟨k, hk, rfl, rfl⟩ := e
  exact h k hk

/-- One place of a row of sets gets another set. -/
def upd (f : Nat → Nat) (i x : Nat) : Nat → Nat := fun v => if v = i then x else f v
theorem upd_same (f : Nat → Nat) (i x : Nat) : upd f i x i = x := by simp [upd]
theorem upd_other (f : Nat → Nat) {i v : Nat} (x : Nat) (h : v ≠ i) : upd f i x v = f v := by simp [upd, h]
/-- All sets of a row have 64 bits. -/
def Small (f : Nat → Nat) : Prop := ∀ v, f v < lim
theorem Small.upd {f : Nat → Nat} (h : Small f) {i x : Nat} (hx : x < lim) : Small (upd f i x) := by
  intro v
  unfold DiP.upd
  split
  · exact hx
  · exact h v
/-- What leads to each node, after k edges. -/
def befK (g : List (Nat × Nat)) : Nat → Nat → Nat
  | 0 => fun _ => 0
  | k + 1 => upd (befK g k) (fb g k) (add (befK g k (fb g k)) (fa g k))
/-- What each node leads to, after k edges. -/
def aftK (g : List (Nat × Nat)) : Nat → Nat → Nat
  | 0 => fun _ => 0
  | k + 1 => upd (aftK g k) (fa g k) (add (aftK g k (fa g k)) (fb g k))
theorem befK_small {n : Nat} {g : List (Nat × Nat)} (h : InN n g) (hn : n ≤ 64) : ∀ k, k ≤ g.length → Small (befK g k) := by
  intro k
  induction k with
  | zero => intro _ v; show 0 < lim; decide
  | succ k ih => intro hk; exact (ih (by omega)).upd (add_lt (ih (by omega) _) (by have := h k (by omega); omega))
theorem aftK_small {n : Nat} {g : List (Nat × Nat)} (h : InN n g) (hn : n ≤ 64) : ∀ k, k ≤ g.length → Small (aftK g k) := by
  intro k
  induction k with
  | zero => intro _ v; show 0 < lim; decide
  | succ k ih => intro hk; exact (ih (by omega)).upd (add_lt (ih (by omega) _) (by have := h k (by omega); omega))
theorem bt_befK (g : List (Nat × Nat)) : ∀ k u v, bt (befK g k v) u = true ↔ ∃ j, j < k ∧ fa g j = u ∧ fb g j = v := by
  intro k
  induction k with
  | zero => intro u v; simp [befK, bt_zero]
  | succ k ih =>
    intro u v
    unfold befK upd
    by_cases hv : v = fb g k
    · rw [if_pos hv, bt_add, ← hv]
      simp only [Bool.or_eq_true, decide_eq_true_eq]
      rw [ih]
      constructor
      · rintro (⟨j, hj, h⟩ | h)
        · exact ⟨j, by omega, h⟩
        · exact ⟨k, by omega, h, hv.symm⟩
      · rintro ⟨j, hj, h1, h2⟩
        by_cases hjk : j < k
        · exact .inl ⟨j, hjk, h1, h2⟩
        · obtain rfl : j = k := by omega
          exact .inr h1
    · rw [if_neg hv, ih]
      constructor
      · rintro ⟨j, hj, h⟩; exact ⟨j, by omega, h⟩
      · rintro ⟨j, hj, h1, h2⟩
        by_cases hjk : j < k
        · exact ⟨j, hjk, h1, h2⟩
        · obtain rfl : j = k := by omega
          exact absurd h2.symm hv
theorem bt_aftK (g : List (Nat × Nat)) : ∀ k u v, bt (aftK g k v) u = true ↔ ∃ j, j < k ∧ fa g j = v ∧ fb g j = u := by
  intro k
  induction k with
  | zero => intro u v; simp [aftK, bt_zero]
  | succ k ih =>
    intro u v
    unfold aftK upd
    by_cases hv : v = fa g k
    · rw [if_pos hv, bt_add, ← hv]
      simp only [Bool.or_eq_true, decide_eq_true_eq]
      rw [ih]
      constructor
      · rintro (⟨j, hj, h⟩ | h)
        · exact ⟨j, by omega, h⟩
        · exact ⟨k, by omega, hv.symm, h⟩
      · rintro ⟨j, hj, h1, h2⟩
        by_cases hjk : j < k
        · exact .inl ⟨j, hjk, h1, h2⟩
        · obtain rfl : j = k := by omega
          exact .inr h2
    · rw [if_neg hv, ih]
      constructor
      · rintro ⟨j, hj, h⟩; exact ⟨j, by omega, h⟩
      · rintro ⟨j, hj, h1, h2⟩
        by_cases hjk : j < k
        · exact ⟨j, hjk, h1, h2⟩
        · obtain rfl : j = k := by omega
          exact absurd h1.symm hv
def befG (g : List (Nat × Nat)) : Nat → Nat := befK g g.length
def aftG (g : List (Nat × Nat)) : Nat → Nat := aftK g g.length
theorem bt_befG (g : List (Nat × Nat)) (u v : Nat) : bt (befG g v) u = true ↔ E g u v := bt_befK g _ u v
theorem bt_aftG (g : List (Nat × Nat)) (u v : Nat) : bt (aftG g v) u = true ↔ E g v u := bt_aftK g _ u v
theorem befG_small {n : Nat} {g : List (Nat × Nat)} (h : InN n g) (hn : n ≤ 64) : Small (befG g) := befK_small h hn _ (Nat.le_refl _)
theorem aftG_small {n : Nat} {g : List (Nat × Nat)} (h : InN n g) (hn : n ≤ 64) : Small (aftG g) := aftK_small h hn _ (Nat.le_refl _)

/-- May a node come next, behind a set? -/
def rdy (bef : Nat → Nat) (s v : Nat) : Bool := !bt s v && decide (andn (bef v) s = 0)
/-- The nodes below k that may come next. -/
def rdyK (bef : Nat → Nat) (s : Nat) : Nat → Nat
  | 0 => 0
  | k + 1 => if rdy bef s k then add (rdyK bef s k) k else rdyK bef s k
theorem rdyK_lt (bef : Nat → Nat) (s : Nat) : ∀ k, k ≤ 64 → rdyK bef s k < lim := by
  intro k
  induction k with
  | zero => intro _; show 0 < lim; decide
  | succ k ih => intro hk; unfold rdyK; split; exact add_lt (ih (by omega)) (by omega); exact ih (by omega)
theorem bt_rdyK (bef : Nat → Nat) (s : Nat) : ∀ k u, bt (rdyK bef s k) u = (decide (u < k) && rdy bef s u) := by
  intro k
  induction k with
  | zero => intro u; simp [rdyK, bt_zero]
  | succ k ih =>
    intro u
    unfold rdyK
    by_cases h : rdy bef s k = true
    · rw [if_pos h, bt_add, ih]
      by_cases hu : u = k
      · subst hu; simp [h]
      · have h1 : decide (k = u) = false := by simp; omega
        have h2 : decide (u < k + 1) = decide (u < k) := by by_cases h3 : u < k <;> simp [h3] <;> omega
        rw [h1, h2, Bool.or_false]
    · rw [if_neg h, ih]
      by_cases hu : u = k
      · subst hu; simp at h; simp [h]
      · have h2 : decide (u < k + 1) = decide (u < k) := by by_cases h3 : u < k <;> simp [h3] <;> omega
        rw [h2]
/-- The lowest node from k on, of those below n, that may come next. -/
def low (bef : Nat → Nat) (s n : Nat) : Nat → Nat → Option Nat
  | 0, _ => none
  | f + 1, k => if k < n then (if rdy bef s k then some k else low bef s n f (k + 1)) else none
def lowest (bef : Nat → Nat) (s n : Nat) : Option Nat := (List.range n).find? (rdy bef s)
theorem lowest_some {bef : Nat → Nat} {s n v : Nat} (hv : v < n) (hr : rdy bef s v = true) (hl : ∀ u, u < v → rdy bef s u = false) : lowest bef s n = some v := by
  unfold lowest
  rw [List.find?_range_eq_some]
  exact ⟨hr, by simpa using hv, fun j hj => by simp [hl j hj]⟩
theorem lowest_none {bef : Nat → Nat} {s n : Nat} (hl : ∀ u, u < n → rdy bef s u = false) : lowest bef s n = none := by
  unfold lowest
  rw [List.find?_eq_none]
  intro x hx
  simp at hx
  simp [hl x hx]
/-- The first order: the lowest node that may come next, again and again. -/
def ordF (bef : Nat → Nat) (n : Nat) : Nat → Nat → List Nat → Nat × List Nat
  | 0, s, l => (s, l)
  | f + 1, s, l => match lowest bef s n with
    | none => (s, l)
    | some v => ordF bef n f (add s v) (l ++ [v])
def ordG (n : Nat) (g : List (Nat × Nat)) : List Nat := (ordF (befG g) n n 0 []).2

/-- One round of what is reached: through one node. -/
def thr (r : Nat → Nat) (mid : Nat) : Nat → Nat := fun v => if bt (r v) mid then orn (r v) (r mid) else r v
/-- The round, half done: the nodes below j. -/
def thrJ (r : Nat → Nat) (mid j : Nat) : Nat → Nat := fun v => if v < j ∧ bt (r v) mid = true then orn (r v) (r mid) else r v
theorem orn_self (s : Nat) : orn s s = s := by simp [orn]
theorem thrJ_zero (r : Nat → Nat) (mid : Nat) : thrJ r mid 0 = r := by funext v; simp [thrJ]
theorem thrJ_mid (r : Nat → Nat) (mid j : Nat) : thrJ r mid j mid = r mid := by
  unfold thrJ
  split
  · exact orn_self _
  · rfl
theorem thrJ_at (r : Nat → Nat) (mid j : Nat) : thrJ r mid j j = r j := by simp [thrJ]
theorem thrJ_yes (r : Nat → Nat) (mid j : Nat) (h : bt (r j) mid = true) : thrJ r mid (j + 1) = upd (thrJ r mid j) j (orn (thrJ r mid j j) (thrJ r mid j mid)) := by
  rw [thrJ_at, thrJ_mid]
  funext v
  unfold upd
  by_cases hv : v = j
  · subst hv; simp [thrJ, h]
  · rw [if_neg hv]
    unfold thrJ
    by_cases h2 : v < j
    · simp [h2, Nat.lt_succ_of_lt h2]
    · have : ¬ v < j + 1 := by omega
      simp [h2, this]
theorem thrJ_no (r : Nat → Nat) (mid j : Nat) (h : bt (r j) mid = false) : thrJ r mid (j + 1) = thrJ r mid j := by
  funext v
  by_cases hv : v = j
  · subst hv; simp [thrJ, h]
  · unfold thrJ
    by_cases h2 : v < j
    · simp [h2, Nat.lt_succ_of_lt h2]
    · have : ¬ v < j + 1 := by omega
      simp [h2, this]
theorem thrJ_small {r : Nat → Nat} (h : Small r) (mid j : Nat) : Small (thrJ r mid j) := by
  intro v
  unfold thrJ
  split
  · exact orn_lt (h v) (h mid)
  · exact h v
/-- What is reached, through the nodes below k; the places from n on stay. -/
def rchK (n : Nat) (g : List (Nat × Nat)) : Nat → Nat → Nat
  | 0 => aftG g
  | k + 1 => thrJ (rchK n g k) k n
def rchG (n : Nat) (g : List (Nat × Nat)) : Nat → Nat := rchK n g n
theorem rchK_small {n : Nat} {g : List (Nat × Nat)} (h : InN n g) (hn : n ≤ 64) : ∀ k, Small (rchK n g k) := by
  intro k
  induction k with
  | zero => exact aftG_small h hn
  | succ k ih => exact thrJ_small ih _ _

/-- What the sets of those in a set, below k, have together. -/
def furK (aft r : Nat → Nat) (v : Nat) : Nat → Nat
  | 0 => 0
  | k + 1 => if bt (aft v) k then orn (furK aft r v k) (r k) else furK aft r v k
theorem furK_lt {r : Nat → Nat} (h : Small r) (aft : Nat → Nat) (v : Nat) : ∀ k, furK aft r v k < lim := by
  intro k
  induction k with
  | zero => show 0 < lim; decide
  | succ k ih => unfold furK; split; exact orn_lt ih (h k); exact ih
/-- The pairs of a node and those below k in a set. -/
def prsK (v s : Nat) : Nat → List (Nat × Nat)
  | 0 => []
  | k + 1 => if bt s k then prsK v s k ++ [(v, k)] else prsK v s k
/-- What is left of the edges: of the nodes below k. -/
def thnK (n : Nat) (aft r : Nat → Nat) : Nat → List (Nat × Nat)
  | 0 => []
  | k + 1 => thnK n aft r k ++ prsK k (andn (aft k) (furK aft r k n)) n
def thnG (n : Nat) (g : List (Nat × Nat)) : List (Nat × Nat) := thnK n (aftG g) (rchG n g) n
theorem prsK_len (v s : Nat) : ∀ k, (prsK v s k).length ≤ k := by
  intro k
  induction k with
  | zero => simp [prsK]
  | succ k ih =>
    unfold prsK
    split
    · simp; omega
    · omega
theorem thnK_len (n : Nat) (aft r : Nat → Nat) : ∀ k, (thnK n aft r k).length ≤ k * n := by
  intro k
  induction k with
  | zero => simp [thnK]
  | succ k ih =>
    unfold thnK
    have := prsK_len k (andn (aft k) (furK aft r k n)) n
    rw [List.length_append, Nat.add_mul]; omega
end Go.Proofs.YtfcabdgidlnljaaDoor.DiP
namespace Go.Proofs.YtfcabdgidlnljaaDoor.DiP
/-- How many nodes below k are in a set. -/
def cnt (s : Nat) : Nat → Nat
  | 0 => 0
  | k + 1 => cnt s k + (if bt s k then 1 else 0)
theorem cnt_le (s : Nat) : ∀ k, cnt s k ≤ k := by
  intro k
  induction k with
  | zero => exact Nat.le_refl _
  | succ k ih => unfold cnt; split <;> omega
theorem cnt_zero : ∀ k, cnt 0 k = 0 := by
  intro k
  induction k with
  | zero => rfl
  | succ k ih => unfold cnt; rw [ih, bt_zero]; rfl
theorem cnt_add {s v : Nat} (h : bt s v = false) : ∀ k, cnt (add s v) k = cnt s k + (if v < k then 1 else 0) := by
  intro k
  induction k with
  | zero => rfl
  | succ k ih =>
    unfold cnt
    rw [ih, bt_add]
    by_cases hv : v = k
    · subst hv; simp [h]
    · simp only [hv, decide_false, Bool.or_false]
      by_cases h2 : v < k
      · have : v < k + 1 := by omega
        simp only [h2, this, if_true]; omega
      · have : ¬ v < k + 1 := by omega
        simp [h2, this]
theorem cnt_full {s : Nat} : ∀ k, cnt s k = k → ∀ u, u < k → bt s u = true := by
  intro k
  induction k with
  | zero => intro _ u hu; omega
  | succ k ih =>
    intro h u hu
    unfold cnt at h
    have := cnt_le s k
    cases hb : bt s k with
    | false => rw [hb] at h; simp at h; omega
    | true =>
      rw [hb] at h
      simp at h
      by_cases he : u = k
      · rw [he, hb]
      · exact ih h u (by omega)

theorem lowest_spec {bef : Nat → Nat} {s n v : Nat} (h : lowest bef s n = some v) : v < n ∧ rdy bef s v = true ∧ ∀ u, u < v → rdy bef s u = false := by
  unfold lowest at h
  rw [List.find?_range_eq_some] at h
  obtain ⟨h1, h2, h3⟩ := h
  exact ⟨by simpa using h2, h1, fun u hu => by simpa using h3 u hu⟩
theorem lowest_no {bef : Nat → Nat} {s n : Nat} (h : lowest bef s n = none) : ∀ u, u < n → rdy bef s u = false := by
  unfold lowest at h
  rw [List.find?_eq_none] at h
  intro u hu
  simpa using h u (by simpa using hu)
theorem rdy_new {bef : Nat → Nat} {s v : Nat} (h : rdy bef s v = true) : bt s v = false := by
  unfold rdy at h
  simp at h
  exact h.1
theorem rdy_zero {bef : Nat → Nat} {s v : Nat} (h : rdy bef s v = true) : andn (bef v) s = 0 := by
  unfold rdy at h
  simp at h
  exact h.2

/-- The order, and the set of its nodes, after k steps. -/
def ordS (bef : Nat → Nat) (n : Nat) : Nat → Nat × List Nat
  | 0 => (0, [])
  | k + 1 => match lowest bef (ordS bef n k).1 n with
    | none => ordS bef n k
    | some v => (add (ordS bef n k).1 v, (ordS bef n k).2 ++ [v])
/-- The order is k nodes long after k steps. -/
def Goes (bef : Nat → Nat) (n k : Nat) : Prop := (ordS bef n k).2.length = k
theorem ordS_some {bef : Nat → Nat} {n k v : Nat} (h : lowest bef (ordS bef n k).1 n = some v) : ordS bef n (k + 1) = (add (ordS bef n k).1 v, (ordS bef n k).2 ++ [v]) := by
  show (match lowest bef (ordS bef n k).1 n with | none => _ | some v => _) = _
  rw [h]
theorem ordS_none {bef : Nat → Nat} {n k : Nat} (h : lowest bef (ordS bef n k).1 n = none) : ordS bef n (k + 1) = ordS bef n k := by
  show (match lowest bef (ordS bef n k).1 n with | none => _ | some v => _) = _
  rw [h]
theorem ordS_len_le (bef : Nat → Nat) (n : Nat) : ∀ k, (ordS bef n k).2.length ≤ k := by
  intro k
  induction k with
  | zero => exact Nat.le_refl _
  | succ k ih =>
    cases h : lowest bef (ordS bef n k).1 n with
    | none => rw [ordS_none h]; omega
    | some v => rw [ordS_some h]; simp; omega
theorem Goes.zero (bef : Nat → Nat) (n : Nat) : Goes bef n 0 := rfl
theorem Goes.step {bef : Nat → Nat} {n k v : Nat} (hg : Goes bef n k) (h : lowest bef (ordS bef n k).1 n = some v) : Goes bef n (k + 1) := by
  unfold Goes at *
  rw [ordS_some h]; simp [hg]
theorem Goes.back {bef : Nat → Nat} {n k : Nat} (hg : Goes bef n (k + 1)) : Goes bef n k ∧ ∃ v, lowest bef (ordS bef n k).1 n = some v := by
  unfold Goes at *
  have h1 := ordS_len_le bef n k
  cases h : lowest bef (ordS bef n k).1 n with
  | none => rw [ordS_none h] at hg; omega
  | some v => rw [ordS_some h] at hg; simp at hg; exact ⟨hg, v, rfl⟩
theorem Goes.le {bef : Nat → Nat} {n K : Nat} (hg : Goes bef n K) : ∀ j, j ≤ K → Goes bef n j := by
  induction K with
  | zero => intro j hj; obtain rfl : j = 0 := by omega
            exact hg
  | succ K ih =>
    intro j hj
    by_cases h : j = K + 1
    · subst h; exact hg
    · exact ih hg.back.1 j (by omega)
theorem ordS_cnt (bef : Nat → Nat) (n : Nat) : ∀ k, cnt (ordS bef n k).1 n = (ordS bef n k).2.length := by
  intro k
  induction k with
  | zero => exact cnt_zero n
  | succ k ih =>
    cases h : lowest bef (ordS bef n k).1 n with
    | none => rw [ordS_none h]; exact ih
    | some v =>
      obtain ⟨h1, h2, _⟩ := lowest_spec h
      rw [ordS_some h]
      show cnt (add _ v) n = (_ ++ [v]).length
      rw [cnt_add (rdy_new h2), ih]
      simp [h1]
theorem Goes.bound {bef : Nat → Nat} {n k : Nat} (hg : Goes bef n k) : k ≤ n := by
  have h := ordS_cnt bef n k
  rw [hg] at h
  have := cnt_le (ordS bef n k).1 n
  omega
theorem ordS_stop {bef : Nat → Nat} {n k : Nat} (h : lowest bef (ordS bef n k).1 n = none) : ∀ m, ordS bef n (k + m) = ordS bef n k := by
  intro m
  induction m with
  | zero => rfl
  | succ m ih => rw [show k + (m + 1) = (k + m) + 1 from rfl, ordS_none (by rw [ih]; exact h), ih]
/-- The whole order: as long as it goes. -/
def ordA (bef : Nat → Nat) (n : Nat) : List Nat := (ordS bef n n).2
theorem ordA_end {bef : Nat → Nat} {n k : Nat} (hg : Goes bef n k) (h : lowest bef (ordS bef n k).1 n = none) : ordA bef n = (ordS bef n k).2 := by
  unfold ordA
  have := ordS_stop h (n - k)
  rw [show k + (n - k) = n by have := hg.bound; omega] at this
  rw [this]
theorem ordS_lt (bef : Nat → Nat) {n : Nat} (hn : n ≤ 64) : ∀ k, (ordS bef n k).1 < lim := by
  intro k
  induction k with
  | zero => show 0 < lim; decide
  | succ k ih =>
    cases h : lowest bef (ordS bef n k).1 n with
    | none => rw [ordS_none h]; exact ih
    | some v => rw [ordS_some h]; exact add_lt ih (by have := (lowest_spec h).1; omega)
/-- The element at a place. -/
def nth (l : List Nat) (j : Nat) : Nat := l.getD j 0
theorem nth_snoc_lt {l : List Nat} {v j : Nat} (h : j < l.length) : nth (l ++ [v]) j = nth l j := by
  simp [nth, List.getD, List.getElem?_append_left h]
theorem nth_snoc_last (l : List Nat) (v : Nat) : nth (l ++ [v]) l.length = v := by simp [nth, List.getD]
/-- Each node of the order is the lowest that may come next, behind those ahead of it. -/
theorem Goes.each {bef : Nat → Nat} {n K : Nat} (hg : Goes bef n K) : ∀ j, j < K → lowest bef (ordS bef n j).1 n = some (nth (ordS bef n K).2 j) := by
  induction K with
  | zero => intro j hj; omega
  | succ K ih =>
    intro j hj
    obtain ⟨hg', v, hv⟩ := hg.back
    rw [ordS_some hv]
    show _ = some (nth ((ordS bef n K).2 ++ [v]) j)
    by_cases h : j = K
    · subst h
      have := nth_snoc_last (ordS bef n j).2 v
      rw [hg'] at this
      rw [this]; exact hv
    · rw [nth_snoc_lt (by rw [hg']; omega)]
      exact ih hg' j (by omega)
theorem Goes.next {bef : Nat → Nat} {n K j : Nat} (hg : Goes bef n K) (hj : j < K) : (ordS bef n (j + 1)).1 = add (ordS bef n j).1 (nth (ordS bef n K).2 j) := by
  rw [ordS_some (hg.each j hj)]

/-- Is a set closed? -/
def Cl (g : List (Nat × Nat)) (s : Nat) : Prop := ∀ k, k < g.length → bt s (fb g k) = true → bt s (fa g k) = true
theorem Cl.E {g : List (Nat × Nat)} {s : Nat} (h : Cl g s) {u v : Nat} (e : E g u v) (hv : bt s v = true) : bt s u = true := by
  obtain ⟨k, hk, rfl, rfl⟩ := e
  exact h k hk hv
theorem ordS_closed {g : List (Nat × Nat)} {n : Nat} (hi : InN n g) (hn : n ≤ 64) : ∀ k, Cl g (ordS (befG g) n k).1 := by
  intro k
  induction k with
  | zero => intro j _ h; rw [show (ordS (befG g) n 0).1 = 0 from rfl, bt_zero] at h; cases h
  | succ k ih =>
    cases h : lowest (befG g) (ordS (befG g) n k).1 n with
    | none => rw [ordS_none h]; exact ih
    | some v =>
      rw [ordS_some h]
      intro j hj hb
      rw [bt_add] at hb ⊢
      simp only [Bool.or_eq_true, decide_eq_true_eq] at hb ⊢
      left
      rcases hb with hb | hb
      · exact ih j hj hb
      · have hz := rdy_zero (lowest_spec h).2.1
        rw [andn_zero (befG_small hi hn v) (ordS_lt _ hn k)] at hz
        exact hz _ ((bt_befG g _ _).2 ⟨j, hj, rfl, hb.symm⟩)
theorem bt_low (r i : Nat) (u : Nat) : bt (r &&& (one i - 1)) u = (bt r u && decide (u < i)) := by
  simp [bt, one, Bool.and_comm]
/-- None of a set is below a node. -/
theorem low_zero {r i : Nat} (h : ∀ u, u < i → bt r u = false) : r &&& (one i - 1) = 0 := by
  apply ext_bt
  intro u
  rw [bt_low, bt_zero]
  by_cases hu : u < i
  · rw [h u hu]; rfl
  · simp [hu]

/-- The longest ways to a node, by its neighbours below k. -/
def mxK (bef lev : Nat → Nat) (v : Nat) : Nat → Nat
  | 0 => 0
  | k + 1 => if bt (bef v) k then max (mxK bef lev v k) (lev k + 1) else mxK bef lev v k
theorem mxK_congr {bef lev lev' : Nat → Nat} {v : Nat} (h : ∀ u, bt (bef v) u = true → lev u = lev' u) : ∀ k, mxK bef lev v k = mxK bef lev' v k := by
  intro k
  induction k with
  | zero => rfl
  | succ k ih =>
    unfold mxK
    by_cases hb : bt (bef v) k = true
    · rw [if_pos hb, if_pos hb, ih, h k hb]
    · rw [if_neg hb, if_neg hb, ih]
theorem mxK_ge {bef lev : Nat → Nat} {v u : Nat} : ∀ k, u < k → bt (bef v) u = true → lev u + 1 ≤ mxK bef lev v k := by
  intro k
  induction k with
  | zero => intro h; omega
  | succ k ih =>
    intro hu hb
    unfold mxK
    by_cases h : u = k
    · subst h; rw [if_pos hb]; omega
    · have := ih (by omega) hb
      split <;> omega
theorem mxK_has {bef lev : Nat → Nat} {v : Nat} : ∀ k, mxK bef lev v k = 0 ∨ ∃ u, u < k ∧ bt (bef v) u = true ∧ mxK bef lev v k = lev u + 1 := by
  intro k
  induction k with
  | zero => exact .inl rfl
  | succ k ih =>
    unfold mxK
    by_cases hb : bt (bef v) k = true
    · rw [if_pos hb]
      right
      by_cases hm : mxK bef lev v k ≤ lev k + 1
      · exact ⟨k, by omega, hb, by omega⟩
      · rcases ih with h0 | ⟨u, hu, hbu, he⟩
        · omega
        · exact ⟨u, by omega, hbu, by omega⟩
    · rw [if_neg hb]
      rcases ih with h0 | ⟨u, hu, hbu, he⟩
      · exact .inl h0
      · exact .inr ⟨u, by omega, hbu, he⟩
theorem mxK_le {bef lev : Nat → Nat} {v B : Nat} (h : ∀ u, lev u ≤ B) : ∀ k, mxK bef lev v k ≤ B + 1 := by
  intro k
  induction k with
  | zero => exact Nat.zero_le _
  | succ k ih => unfold mxK; have := h k; split <;> omega
/-- How long the longest ways are, after j nodes of the order. -/
def levS (bef : Nat → Nat) (n : Nat) (l : List Nat) : Nat → Nat → Nat
  | 0 => fun _ => 0
  | j + 1 => upd (levS bef n l j) (nth l j) (mxK bef (levS bef n l j) (nth l j) n)
theorem levS_le (bef : Nat → Nat) (n : Nat) (l : List Nat) : ∀ j u, levS bef n l j u ≤ j := by
  intro j
  induction j with
  | zero => intro u; exact Nat.le_refl _
  | succ j ih =>
    intro u
    unfold levS upd
    split
    · exact mxK_le ih n
    · have := ih u; omega
theorem levS_spec {g : List (Nat × Nat)} {n K : Nat} (hi : InN n g) (hn : n ≤ 64) (hg : Goes (befG g) n K) :
    ∀ j, j ≤ K → (∀ u, bt (ordS (befG g) n j).1 u = true → levS (befG g) n (ordS (befG g) n K).2 j u = mxK (befG g) (levS (befG g) n (ordS (befG g) n K).2 j) u n) ∧
      ∀ u, bt (ordS (befG g) n j).1 u = false → levS (befG g) n (ordS (befG g) n K).2 j u = 0 := by
  intro j
  induction j with
  | zero =>
    intro _
    refine ⟨fun u hu => ?_, fun u _ => rfl⟩
    rw [show (ordS (befG g) n 0).1 = 0 from rfl, bt_zero] at hu; cases hu
  | succ j ih =>
    intro hj
    obtain ⟨ih1, ih2⟩ := ih (by omega)
    have hl := hg.each j (by omega)
    have hnx := hg.next (j := j) (by omega)
    obtain ⟨hv, hr, _⟩ := lowest_spec hl
    have hnew := rdy_new hr
    have hz := rdy_zero hr
    have hcl := ordS_closed hi hn j
    rw [andn_zero (befG_small hi hn _) (ordS_lt _ hn j)] at hz
    generalize hV : nth (ordS (befG g) n K).2 j = v at *
    have hself : ∀ u, u ≠ v → levS (befG g) n (ordS (befG g) n K).2 (j + 1) u = levS (befG g) n (ordS (befG g) n K).2 j u := by
      intro u hu
      show upd _ (nth _ j) _ u = _
      rw [hV]; exact upd_other _ _ hu
    have hat : levS (befG g) n (ordS (befG g) n K).2 (j + 1) v = mxK (befG g) (levS (befG g) n (ordS (befG g) n K).2 j) v n := by
      show upd _ (nth _ j) _ v = _
      rw [hV]; exact upd_same _ _ _
    refine ⟨fun u hu => ?_, fun u hu => ?_⟩
    · rw [hnx, bt_add] at hu
      by_cases he : u = v
      · subst he
        rw [hat]
        exact mxK_congr (fun x hx => (hself x (fun e => by subst e; rw [hz _ hx] at hnew; cases hnew)).symm) n
      · have hu' : bt (ordS (befG g) n j).1 u = true := by
          simp only [Bool.or_eq_true, decide_eq_true_eq] at hu
          rcases hu with h | h
          · exact h
          · exact absurd h.symm he
        rw [hself u he, ih1 u hu']
        refine mxK_congr (fun x hx => (hself x (fun e => ?_)).symm) n
        subst e
        have := hcl.E ((bt_befG g _ _).1 hx) hu'
        rw [this] at hnew; cases hnew
    · rw [hnx, bt_add] at hu
      have h1 : bt (ordS (befG g) n j).1 u = false ∧ ¬ v = u := by simpa using hu
      rw [hself u (fun e => h1.2 e.symm)]
      exact ih2 u h1.1
/-- How long the longest ways are. -/
def levG (n : Nat) (g : List (Nat × Nat)) : Nat → Nat := levS (befG g) n (ordA (befG g) n) n
theorem levG_eq {g : List (Nat × Nat)} {n : Nat} (hi : InN n g) (hn : n ≤ 64) (hg : Goes (befG g) n n) {u : Nat} (hu : u < n) : levG n g u = mxK (befG g) (levG n g) u n := by
  have hall : bt (ordS (befG g) n n).1 u = true := cnt_full n (by rw [ordS_cnt]; exact hg) u hu
  exact (levS_spec hi hn hg n (Nat.le_refl _)).1 u hall
theorem levG_edge {g : List (Nat × Nat)} {n : Nat} (hi : InN n g) (hn : n ≤ 64) (hg : Goes (befG g) n n) {u v : Nat} (e : E g u v) : levG n g u < levG n g v := by
  rw [levG_eq hi hn hg (e.lt hi).2]
  exact mxK_ge n (e.lt hi).1 ((bt_befG g _ _).2 e)
theorem levG_from {g : List (Nat × Nat)} {n : Nat} (hi : InN n g) (hn : n ≤ 64) (hg : Goes (befG g) n n) {v : Nat} (hv : v < n) (h : 0 < levG n g v) : ∃ u, E g u v ∧ levG n g v = levG n g u + 1 := by
  rw [levG_eq hi hn hg hv] at h ⊢
  rcases mxK_has (bef := befG g) (lev := levG n g) (v := v) n with h0 | ⟨u, _, hb, he⟩
  · omega
  · exact ⟨u, (bt_befG g _ _).1 hb, he⟩
end Go.Proofs.YtfcabdgidlnljaaDoor.DiP
namespace Go.Proofs.YtfcabdgidlnljaaDoor.DiP
set_option linter.unusedVariables false
theorem bt_thr (r : Nat → Nat) {mid n v : Nat} (hv : v < n) (u : Nat) : bt (thrJ r mid n v) u = (bt (r v) u || (bt (r v) mid && bt (r mid) u)) := by
  unfold thrJ
  by_cases h : bt (r v) mid = true
  · rw [if_pos ⟨hv, h⟩, bt_orn, h]; simp
  · rw [if_neg (fun e => h e.2)]
    simp at h
    rw [h]; simp
/-- A way along edges. -/
inductive Way (g : List (Nat × Nat)) : Nat → Nat → Prop
  | one {u v : Nat} : E g u v → Way g u v
  | more {u v x : Nat} : Way g u v → E g v x → Way g u x
theorem Way.trans {g : List (Nat × Nat)} {u v x : Nat} (h : Way g u v) (k : Way g v x) : Way g u x := by
  induction k with
  | one e => exact .more h e
  | more _ e ih => exact .more ih e
theorem Way.lt {g : List (Nat × Nat)} {n u v : Nat} (hi : InN n g) (h : Way g u v) : u < n ∧ v < n := by
  induction h with
  | one e => exact e.lt hi
  | more _ e ih => exact ⟨ih.1, (e.lt hi).2⟩
theorem rchK_way {g : List (Nat × Nat)} {n : Nat} (hi : InN n g) : ∀ k, k ≤ n → ∀ u v, u < n → bt (rchK n g k u) v = true → Way g u v := by
  intro k
  induction k with
  | zero => intro _ u v _ h; exact .one ((bt_aftG g v u).1 h)
  | succ k ih =>
    intro hk u v hu h
    have h' : bt (thrJ (rchK n g k) k n u) v = true := h
    rw [bt_thr _ hu] at h'
    simp only [Bool.or_eq_true, Bool.and_eq_true] at h'
    rcases h' with h1 | ⟨h1, h2⟩
    · exact ih (by omega) u v hu h1
    · exact (ih (by omega) u k hu h1).trans (ih (by omega) k v (by omega) h2)
theorem rchK_trans {g : List (Nat × Nat)} {n : Nat} (hi : InN n g) : ∀ k, k ≤ n → ∀ a b c, a < n → b < k → bt (rchK n g k a) b = true → bt (rchK n g k b) c = true → bt (rchK n g k a) c = true := by
  intro k
  induction k with
  | zero => intro _ a b c _ h; omega
  | succ k ih =>
    intro hk a b c ha hb h1 h2
    have t := ih (by omega)
    have e1 : bt (thrJ (rchK n g k) k n a) b = true := h1
    have e2 : bt (thrJ (rchK n g k) k n b) c = true := h2
    show bt (thrJ (rchK n g k) k n a) c = true
    rw [bt_thr _ ha] at e1 ⊢
    rw [bt_thr _ (show b < n by omega)] at e2
    simp only [Bool.or_eq_true, Bool.and_eq_true] at e1 e2 ⊢
    by_cases hbk : b = k
    · subst hbk
      have ha1 : bt (rchK n g b a) b = true := by rcases e1 with h | h; exact h; exact h.1
      have hb1 : bt (rchK n g b b) c = true := by rcases e2 with h | h; exact h; exact h.2
      exact .inr ⟨ha1, hb1⟩
    · have hbl : b < k := by omega
      rcases e1 with p | ⟨p1, p2⟩
      · rcases e2 with q | ⟨q1, q2⟩
        · exact .inl (t a b c ha hbl p q)
        · exact .inr ⟨t a b k ha hbl p q1, q2⟩
      · rcases e2 with q | ⟨q1, q2⟩
        · exact .inr ⟨p1, t k b c (by omega) hbl p2 q⟩
        · exact .inr ⟨p1, q2⟩
theorem rchK_more {g : List (Nat × Nat)} {n : Nat} : ∀ k, ∀ u v, u < n → E g u v → bt (rchK n g k u) v = true := by
  intro k
  induction k with
  | zero => intro u v _ e; exact (bt_aftG g v u).2 e
  | succ k ih =>
    intro u v hu e
    show bt (thrJ (rchK n g k) k n u) v = true
    rw [bt_thr _ hu, ih u v hu e]; rfl
theorem rch_way {g : List (Nat × Nat)} {n : Nat} (hi : InN n g) {u v : Nat} (hu : u < n) : bt (rchG n g u) v = true ↔ Way g u v := by
  constructor
  · exact rchK_way hi n (Nat.le_refl _) u v hu
  · intro h
    induction h with
    | one e => exact rchK_more n _ _ hu e
    | more k e ih => exact rchK_trans hi n (Nat.le_refl _) _ _ _ hu (k.lt hi).2 ih (rchK_more n _ _ (k.lt hi).2 e)

/-- A graph along whose edges a number rises has an order of all nodes. -/
theorem goes_of_rank {g : List (Nat × Nat)} {n : Nat} (hi : InN n g) (hn : n ≤ 64) (ρ : Nat → Nat) (h : ∀ u v, E g u v → ρ u < ρ v) : Goes (befG g) n n := by
  have key : ∀ (s : Nat), s < lim → cnt s n < n → ∀ b, (∃ u, u < n ∧ bt s u = false ∧ ρ u ≤ b) → ∃ v, v < n ∧ rdy (befG g) s v = true := by
    intro s hs hc b
    induction b using Nat.strongRecOn with
    | _ b ih =>
      rintro ⟨u, hu, hbu, hr⟩
      by_cases hz : ∀ x, bt (befG g u) x = true → bt s x = true
      · refine ⟨u, hu, ?_⟩
        unfold rdy
        rw [hbu, (andn_zero (befG_small hi hn u) hs).2 hz]; rfl
      · obtain ⟨x, hx⟩ := Classical.not_forall.1 hz
        have hx1 : bt (befG g u) x = true := by
          cases hb : bt (befG g u) x with
          | true => rfl
          | false => exact absurd (fun h => by rw [hb] at h; cases h) hx
        have hx2 : bt s x = false := by
          cases hb : bt s x with
          | false => rfl
          | true => exact absurd (fun _ => hb) hx
        have e := (bt_befG g x u).1 hx1
        have hlt := h x u e
        exact ih (ρ x) (by omega) ⟨x, (e.lt hi).1, hx2, Nat.le_refl _⟩
  have step : ∀ k, k ≤ n → Goes (befG g) n k := by
    intro k
    induction k with
    | zero => intro _; exact Goes.zero _ _
    | succ k ih =>
      intro hk
      have hg := ih (by omega)
      have hc : cnt (ordS (befG g) n k).1 n < n := by rw [ordS_cnt, hg]; omega
      have hex : ∃ u, u < n ∧ bt (ordS (befG g) n k).1 u = false := by
        apply Classical.byContradiction
        intro hno
        have hall : ∀ u, u < n → bt (ordS (befG g) n k).1 u = true := fun u hu => by
          cases hb : bt (ordS (befG g) n k).1 u with
          | true => rfl
          | false => exact absurd ⟨u, hu, hb⟩ hno
        have : ∀ m, m ≤ n → cnt (ordS (befG g) n k).1 m = m := by
          intro m
          induction m with
          | zero => intro _; rfl
          | succ m ih => intro hm; unfold cnt; rw [ih (by omega), hall m (by omega)]; rfl
        have := this n (Nat.le_refl _)
        omega
      obtain ⟨u, hu, hbu⟩ := hex
      obtain ⟨v, hv, hr⟩ := key _ (ordS_lt _ hn k) hc (ρ u) ⟨u, hu, hbu, Nat.le_refl _⟩
      cases hl : lowest (befG g) (ordS (befG g) n k).1 n with
      | some x => exact hg.step hl
      | none => have := lowest_no hl v hv; rw [this] at hr; cases hr
  exact step n (Nat.le_refl _)

/-- An edge more. -/
def edgeG (g : List (Nat × Nat)) (i j : Nat) : List (Nat × Nat) := g ++ [(i, j)]
theorem E_edge {g : List (Nat × Nat)} {i j u v : Nat} : E (edgeG g i j) u v ↔ E g u v ∨ (u = i ∧ v = j) := by
  unfold E edgeG
  constructor
  · rintro ⟨k, hk, h1, h2⟩
    by_cases hl : k < g.length
    · left
      refine ⟨k, hl, ?_, ?_⟩
      · rw [← h1]; simp [fa, List.getD, List.getElem?_append_left hl]
      · rw [← h2]; simp [fb, List.getD, List.getElem?_append_left hl]
    · right
      have : k = g.length := by simp at hk; omega
      subst this
      simp [fa, fb, List.getD] at h1 h2
      exact ⟨h1.symm, h2.symm⟩
  · rintro (⟨k, hk, h1, h2⟩ | ⟨rfl, rfl⟩)
    · refine ⟨k, by simp; omega, ?_, ?_⟩
      · rw [← h1]; simp [fa, List.getD, List.getElem?_append_left hk]
      · rw [← h2]; simp [fb, List.getD, List.getElem?_append_left hk]
    · exact ⟨g.length, by simp, by simp [fa, List.getD], by simp [fb, List.getD]⟩
theorem inN_edge {g : List (Nat × Nat)} {n i j : Nat} (hi : InN n g) (h1 : i < n) (h2 : j < n) : InN n (edgeG g i j) := by
  intro k hk
  have e : E (edgeG g i j) (fa (edgeG g i j) k) (fb (edgeG g i j) k) := ⟨k, hk, rfl, rfl⟩
  rcases E_edge.1 e with e | ⟨ha, hb⟩
  · exact e.lt hi
  · rw [ha, hb]; exact ⟨h1, h2⟩
theorem way_edge {g : List (Nat × Nat)} {i j u v : Nat} (hw : Way g i j) : Way (edgeG g i j) u v ↔ Way g u v := by
  constructor
  · intro h
    induction h with
    | one e => rcases E_edge.1 e with e | ⟨rfl, rfl⟩; exact .one e; exact hw
    | more _ e ih => rcases E_edge.1 e with e | ⟨rfl, rfl⟩; exact .more ih e; exact ih.trans hw
  · intro h
    induction h with
    | one e => exact .one (E_edge.2 (.inl e))
    | more _ e ih => exact .more ih (E_edge.2 (.inl e))
/-- It changes nothing in what is reached. -/
theorem rch_edge {g : List (Nat × Nat)} {n i j : Nat} (hi : InN n g) (hn : n ≤ 64) (h1 : i < n) (h2 : j < n) (hw : Way g i j) {u : Nat} (hu : u < n) : rchG n (edgeG g i j) u = rchG n g u := by
  have hi' := inN_edge hi h1 h2
  refine ext64 (rchK_small hi' hn n u) (rchK_small hi hn n u) (fun v _ => ?_)
  rw [Bool.eq_iff_iff]
  exact (rch_way hi' hu).trans ((way_edge hw).trans (rch_way hi hu).symm)
theorem way_rank {g : List (Nat × Nat)} {ρ : Nat → Nat} (h : ∀ u v, E g u v → ρ u < ρ v) {u v : Nat} (k : Way g u v) : ρ u < ρ v := by
  induction k with
  | one e => exact h _ _ e
  | more _ e ih => exact Nat.lt_trans ih (h _ _ e)
theorem goes_edge {g : List (Nat × Nat)} {n i j : Nat} (hi : InN n g) (hn : n ≤ 64) (h1 : i < n) (h2 : j < n) (hw : Way g i j) (hg : Goes (befG g) n n) : Goes (befG (edgeG g i j)) n n := by
  refine goes_of_rank (inN_edge hi h1 h2) hn (levG n g) (fun u v e => ?_)
  rcases E_edge.1 e with e | ⟨rfl, rfl⟩
  · exact levG_edge hi hn hg e
  · exact way_rank (fun _ _ e => levG_edge hi hn hg e) hw
/-- Nor in the levels. -/
theorem lev_edge {g : List (Nat × Nat)} {n i j : Nat} (hi : InN n g) (hn : n ≤ 64) (h1 : i < n) (h2 : j < n) (hw : Way g i j) (hg : Goes (befG g) n n) : ∀ v, v < n → levG n (edgeG g i j) v = levG n g v := by
  have hi' := inN_edge hi h1 h2
  have hg' := goes_edge hi hn h1 h2 hw hg
  have key : ∀ b v, v < n → levG n g v ≤ b → levG n (edgeG g i j) v = levG n g v := by
    intro b
    induction b using Nat.strongRecOn with
    | _ b ih =>
      intro v hv hb
      have hpre : ∀ u, E (edgeG g i j) u v → levG n g u < levG n g v := fun u e => by
        rcases E_edge.1 e with e | ⟨rfl, rfl⟩
        · exact levG_edge hi hn hg e
        · exact way_rank (fun _ _ e => levG_edge hi hn hg e) hw
      have hsame : ∀ u, E (edgeG g i j) u v → levG n (edgeG g i j) u = levG n g u := fun u e => by
        have := hpre u e
        exact ih (levG n g u) (by omega) u (e.lt hi').1 (Nat.le_refl _)
      apply Nat.le_antisymm
      · by_cases h0 : 0 < levG n (edgeG g i j) v
        · obtain ⟨u, e, he⟩ := levG_from hi' hn hg' hv h0
          rw [he, hsame u e]
          exact hpre u e
        · omega
      · by_cases h0 : 0 < levG n g v
        · obtain ⟨u, e, he⟩ := levG_from hi hn hg hv h0
          have e' : E (edgeG g i j) u v := E_edge.2 (.inl e)
          have := levG_edge hi' hn hg' e'
          rw [hsame u e'] at this
          omega
        · omega
  exact fun v hv => key _ v hv (Nat.le_refl _)
theorem way_first {g : List (Nat × Nat)} {u v : Nat} (h : Way g u v) : E g u v ∨ ∃ c, E g u c ∧ Way g c v := by
  induction h with
  | one e => exact .inl e
  | more _ e ih =>
    rcases ih with h | ⟨c, h1, h2⟩
    · exact .inr ⟨_, h, .one e⟩
    · exact .inr ⟨c, h1, .more h2 e⟩
theorem bt_furK (aft r : Nat → Nat) (v u : Nat) : ∀ k, bt (furK aft r v k) u = true ↔ ∃ c, c < k ∧ bt (aft v) c = true ∧ bt (r c) u = true := by
  intro k
  induction k with
  | zero => simp [furK, bt_zero]
  | succ k ih =>
    unfold furK
    by_cases h : bt (aft v) k = true
    · rw [if_pos h, bt_orn]
      simp only [Bool.or_eq_true]
      rw [ih]
      constructor
      · rintro (⟨c, hc, h1, h2⟩ | h2)
        · exact ⟨c, by omega, h1, h2⟩
        · exact ⟨k, by omega, h, h2⟩
      · rintro ⟨c, hc, h1, h2⟩
        by_cases e : c = k
        · subst e; exact .inr h2
        · exact .inl ⟨c, by omega, h1, h2⟩
    · rw [if_neg h, ih]
      constructor
      · rintro ⟨c, hc, h1, h2⟩; exact ⟨c, by omega, h1, h2⟩
      · rintro ⟨c, hc, h1, h2⟩
        by_cases e : c = k
        · subst e; exact absurd h1 h
        · exact ⟨c, by omega, h1, h2⟩
/-- What is left of a node's edges. -/
theorem left_iff {g : List (Nat × Nat)} {n v u : Nat} (hi : InN n g) (hn : n ≤ 64) (hu : u < 64) : bt (andn (aftG g v) (furK (aftG g) (rchG n g) v n)) u = true ↔ E g v u ∧ ¬ ∃ c, E g v c ∧ Way g c u := by
  have hs : Small (rchG n g) := rchK_small hi hn n
  rw [bt_andn (furK_lt hs _ _ _) hu, Bool.and_eq_true, bt_aftG]
  refine and_congr Iff.rfl ?_
  have : (!bt (furK (aftG g) (rchG n g) v n) u) = true ↔ ¬ bt (furK (aftG g) (rchG n g) v n) u = true := by simp
  rw [this, bt_furK]
  refine not_congr ⟨?_, ?_⟩
  · rintro ⟨c, hc, h1, h2⟩
    exact ⟨c, (bt_aftG g c v).1 h1, (rch_way hi hc).1 h2⟩
  · rintro ⟨c, e, h⟩
    exact ⟨c, (e.lt hi).2, (bt_aftG g c v).2 e, (rch_way hi (e.lt hi).2).2 h⟩
theorem left_edge {g : List (Nat × Nat)} {n i j v : Nat} (hi : InN n g) (hn : n ≤ 64) (h1 : i < n) (h2 : j < n) (hw : Way g i j) :
    andn (aftG (edgeG g i j) v) (furK (aftG (edgeG g i j)) (rchG n (edgeG g i j)) v n) = andn (aftG g v) (furK (aftG g) (rchG n g) v n) := by
  have hi' := inN_edge hi h1 h2
  refine ext64 (andn_lt (aftG_small hi' hn v)) (andn_lt (aftG_small hi hn v)) (fun u hu => ?_)
  rw [Bool.eq_iff_iff, left_iff hi' hn hu, left_iff hi hn hu]
  constructor
  · rintro ⟨e, hno⟩
    have hno' : ¬ ∃ c, E g v c ∧ Way g c u := fun ⟨c, e, h⟩ => hno ⟨c, E_edge.2 (.inl e), (way_edge hw).2 h⟩
    refine ⟨?_, hno'⟩
    rcases E_edge.1 e with e | ⟨rfl, rfl⟩
    · exact e
    · rcases way_first hw with e | h
      · exact e
      · exact absurd h hno'
  · rintro ⟨e, hno⟩
    refine ⟨E_edge.2 (.inl e), ?_⟩
    rintro ⟨c, ec, h⟩
    have h' := (way_edge hw).1 h
    rcases E_edge.1 ec with ec | ⟨rfl, rfl⟩
    · exact hno ⟨c, ec, h'⟩
    · rcases way_first hw with e2 | ⟨d, e2, h2⟩
      · exact hno ⟨c, e2, h'⟩
      · exact hno ⟨d, e2, h2.trans h'⟩
/-- Nor in what is left of the edges. -/
theorem thn_edge {g : List (Nat × Nat)} {n i j : Nat} (hi : InN n g) (hn : n ≤ 64) (h1 : i < n) (h2 : j < n) (hw : Way g i j) : thnG n (edgeG g i j) = thnG n g := by
  have : ∀ k, thnK n (aftG (edgeG g i j)) (rchG n (edgeG g i j)) k = thnK n (aftG g) (rchG n g) k := by
    intro k
    induction k with
    | zero => rfl
    | succ k ih => unfold thnK; rw [ih, left_edge hi hn h1 h2 hw]
  exact this n
end Go.Proofs.YtfcabdgidlnljaaDoor.DiP
