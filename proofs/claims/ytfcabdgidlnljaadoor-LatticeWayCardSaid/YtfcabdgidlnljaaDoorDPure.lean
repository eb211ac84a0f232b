/-
  PLAIN MATHEMATICS for the statements of layer 3 (graphs): sets of nodes as numbers' bits, what leads to and from each node, the first order, what is reached, what is left of the edges.
-/
namespace Go.Proofs.YtfcabdgidlnljaaDoor.DiP
/-- The top of 64 bits. -/
def top : Nat := 18446744073709551615
def lim : Nat := 18446744073709551616
theorem lim_eq : lim = 2 ^ 64 := by decide
/-- Is a node in a set? -/
def bt (s v : Nat) : Bool := s.testBit v
def one (v : Nat) : Nat := 2 ^ v
def orn (s t : Nat) : Nat := s ||| t
def add (s v : Nat) : Nat := orn s (one v)
/-- What is in the one and not in the other. -/
def andn (s t : Nat) : Nat := s &&& (18446744073709551615 - t)
theorem bt_zero (v : Nat) : bt 0 v = false := by simp [bt]
theorem bt_one (v u : Nat) : bt (one v) u = decide (v = u) := by simp [bt, one, Nat.testBit_two_pow]
theorem bt_orn (s t u : Nat) : bt (orn s t) u = (bt s u || bt t u) := by simp [bt, orn]
theorem bt_add (s v u : Nat) : bt (add s v) u = (bt s u || decide (v = u)) := by rw [add, bt_orn, bt_one]
theorem one_lt (v : Nat) (h : v < 64) : one v < lim := by rw [lim_eq]; exact Nat.pow_lt_pow_right (by omega) h
theorem one_pos (v : Nat) : 0 < one v := Nat.two_pow_pos v
theorem orn_lt {s t : Nat} (hs : s < lim) (ht : t < lim) : orn s t < lim := by rw [lim_eq] at *; exact Nat.or_lt_two_pow hs ht
theorem add_lt {s v : Nat} (hs : s < lim) (hv : v < 64) : add s v < lim := orn_lt hs (one_lt v hv)
theorem andn_lt {s t : Nat} (hs : s < lim) : andn s t < lim := by
  have : andn s t ≤ s := Nat.and_le_left
  omega
theorem bt_andn {s t u : Nat} (ht : t < lim) (hu : u < 64) : bt (andn s t) u = (bt s u && !bt t u) := by
  have h : (18446744073709551615 : Nat) - t = 2 ^ 64 - (t + 1) := by rw [lim_eq] at ht; omega
  simp only [bt, andn, Nat.testBit_and]
  rw [h, Nat.testBit_two_pow_sub_succ (by rw [lim_eq] at ht; exact ht)]
  simp [hu]
theorem bt_far {s u : Nat} (hs : s < lim) (hu : 64 ≤ u) : bt s u = false := by
  rw [lim_eq] at hs
  exact Nat.testBit_lt_two_pow (Nat.lt_of_lt_of_le hs (Nat.pow_le_pow_right (by omega) hu))
theorem ext_bt {s t : Nat} (h : ∀ u, bt s u = bt t u) : s = t := Nat.eq_of_testBit_eq h
theorem ext64 {s t : Nat} (hs : s < lim) (ht : t < lim) (h : ∀ u, u < 64 → bt s u = bt t u) : s = t := by
  apply ext_bt
  intro u
  by_cases hu : u < 64
  · exact h u hu
  · rw [bt_far hs (by omega), bt_far ht (by omega)]
theorem zero_iff {s : Nat} (hs : s < lim) : s = 0 ↔ ∀ u, u < 64 → bt s u = false := by
  constructor
  · rintro rfl u _; exact bt_zero u
  · intro h; exact ext64 hs (by decide) (fun u hu => by rw [h u hu, bt_zero])
theorem andn_zero {s t : Nat} (hs : s < lim) (ht : t < lim) : andn s t = 0 ↔ ∀ u, bt s u = true → bt t u = true := by
  rw [zero_iff (andn_lt hs)]
  constructor
  · intro h u hu
    by_cases h64 : u < 64
    · have := h u h64
      rw [bt_andn ht h64, hu] at this
      simpa using this
    · rw [bt_far hs (by omega)] at hu; cases hu
  · intro h u hu
    rw [bt_andn ht hu]
    cases hb : bt s u with
    | false => rfl
    | true => rw [h u hb]; rfl
theorem bt_div (s v : Nat) : bt s v = decide (s / 2 ^ v % 2 = 1) := Nat.testBit_eq_decide_div_mod_eq

/-- The edges' ends. -/
def fa (g : List (Nat × Nat)) (k : Nat) : Nat := (g.getD k (0, 0)).1
def fb (g : List (Nat × Nat)) (k : Nat) : Nat := (g.getD k (0, 0)).2
/-- Is there an edge? -/
def E (g : List (Nat × Nat)) (u v : Nat) : Prop := ∃ k, k < g.length ∧ fa g k = u ∧ fb g k = v
/-- All ends are nodes. -/
def InN (n : Nat) (g : List (Nat × Nat)) : Prop := ∀ k, k < g.length → fa g k < n ∧ fb g k < n
theorem E.lt {n : Nat} {g : List (Nat × Nat)} (h : InN n g) {u v : Nat} (e : E g u v) : u < n ∧ v < n := by
  obtain ⟨k, hk, rfl, rfl⟩ := e
  exact h k hk

/-- One place of a row of sets gets another set. -/
def upd (f : Nat → Nat) (i x : Nat) : Nat → Nat := fun v => if v = i then x else f v
theorem upd_same (f : Nat → Nat) (i x : Nat) : upd f i x i = x := by simp [upd]
theorem upd_other (f : Nat → Nat) {i v : Nat} (x : Nat) (h : v ≠ i) : upd f i x v = f v := by simp [upd, h]
/-- All sets of a row have 64 bits. -/
def Small (f : Nat → Nat) : Prop := ∀ v, f v < lim
theorem Small.upd {f : Nat → Nat} (h : Small f) {i x : Nat} (hx : x < lim) : Small (upd f i x) := by
  intro v
  unfold DiP.upd
  split
  · exact hx
  · exact h v
/-- What leads to each node, after k edges. -/
def befK (g : List (Nat × Nat)) : Nat → Nat → Nat
  | 0 => fun _ => 0
  | k + 1 => upd (befK g k) (fb g k) (add (befK g k (fb g k)) (fa g k))
/-- What each node leads to, after k edges. -/
def aftK (g : List (Nat × Nat)) : Nat → Nat → Nat
  | 0 => fun _ => 0
  | k + 1 => upd (aftK g k) (fa g k) (add (aftK g k (fa g k)) (fb g k))
theorem befK_small {n : Nat} {g : List (Nat × Nat)} (h : InN n g) (hn : n ≤ 64) : ∀ k, k ≤ g.length → Small (befK g k) := by
  intro k
  induction k with
  | zero => intro _ v; show 0 < lim; decide
  | succ k ih => intro hk; exact (ih (by omega)).upd (add_lt (ih (by omega) _) (by have := h k (by omega); omega))
theorem aftK_small {n : Nat} {g : List (Nat × Nat)} (h : InN n g) (hn : n ≤ 64) : ∀ k, k ≤ g.length → Small (aftK g k) := by
  intro k
  induction k with
  | zero => intro _ v; show 0 < lim; decide
  | succ k ih => intro hk; exact (ih (by omega)).upd (add_lt (ih (by omega) _) (by have := h k (by omega); omega))
theorem bt_befK (g : List (Nat × Nat)) : ∀ k u v, bt (befK g k v) u = true ↔ ∃ j, j < k ∧ fa g j = u ∧ fb g j = v := by
  intro k
  induction k with
  | zero => intro u v; simp [befK, bt_zero]
  | succ k ih =>
    intro u v
    unfold befK upd
    by_cases hv : v = fb g k
    · rw [if_pos hv, bt_add, ← hv]
      simp only [Bool.or_eq_true, decide_eq_true_eq]
      rw [ih]
      constructor
      · rintro (⟨j, hj, h⟩ | h)
        · exact ⟨j, by omega, h⟩
        · exact ⟨k, by omega, h, hv.symm⟩
      · rintro ⟨j, hj, h1, h2⟩
        by_cases hjk : j < k
        · exact .inl ⟨j, hjk, h1, h2⟩
        · obtain rfl : j = k := by omega
          exact .inr h1
    · rw [if_neg hv, ih]
      constructor
      · rintro ⟨j, hj, h⟩; exact ⟨j, by omega, h⟩
      · rintro ⟨j, hj, h1, h2⟩
        by_cases hjk : j < k
        · exact ⟨j, hjk, h1, h2⟩
        · obtain rfl : j = k := by omega
          exact absurd h2.symm hv
theorem bt_aftK (g : List (Nat × Nat)) : ∀ k u v, bt (aftK g k v) u = true ↔ ∃ j, j < k ∧ fa g j = v ∧ fb g j = u := by
  intro k
  induction k with
  | zero => intro u v; simp [aftK, bt_zero]
  | succ k ih =>
    intro u v
    unfold aftK upd
    by_cases hv : v = fa g k
    · rw [if_pos hv, bt_add, ← hv]
      simp only [Bool.or_eq_true, decide_eq_true_eq]
      rw [ih]
      constructor
      · rintro (⟨j, hj, h⟩ | h)
        · exact ⟨j, by omega, h⟩
        · exact ⟨k, by omega, hv.symm, h⟩
      · rintro ⟨j, hj, h1, h2⟩
        by_cases hjk : j < k
        · exact .inl ⟨j, hjk, h1, h2⟩
        · obtain rfl : j = k := by omega
          exact .inr h2
    · rw [if_neg hv, ih]
      constructor
      · rintro ⟨j, hj, h⟩; exact ⟨j, by omega, h⟩
      · rintro ⟨j, hj, h1, h2⟩
        by_cases hjk : j < k
        · exact ⟨j, hjk, h1, h2⟩
        · obtain rfl : j = k := by omega
          exact absurd h1.symm hv
def befG (g : List (Nat × Nat)) : Nat → Nat := befK g g.length
def aftG (g : List (Nat × Nat)) : Nat → Nat := aftK g g.length
theorem bt_befG (g : List (Nat × Nat)) (u v : Nat) : bt (befG g v) u = true ↔ E g u v := bt_befK g _ u v
theorem bt_aftG (g : List (Nat × Nat)) (u v : Nat) : bt (aftG g v) u = true ↔ E g v u := bt_aftK g _ u v
theorem befG_small {n : Nat} {g : List (Nat × Nat)} (h : InN n g) (hn : n ≤ 64) : Small (befG g) := befK_small h hn _ (Nat.le_refl _)
theorem aftG_small {n : Nat} {g : List (Nat × Nat)} (h : InN n g) (hn : n ≤ 64) : Small (aftG g) := aftK_small h hn _ (Nat.le_refl _)

/-- May a node come next, behind a set? -/
def rdy (bef : Nat → Nat) (s v : Nat) : Bool := !bt s v && decide (andn (bef v) s = 0)
/-- The nodes below k that may come next. -/
def rdyK (bef : Nat → Nat) (s : Nat) : Nat → Nat
  | 0 => 0
  | k + 1 => if rdy bef s k then add (rdyK bef s k) k else rdyK bef s k
theorem rdyK_lt (bef : Nat → Nat) (s : Nat) : ∀ k, k ≤ 64 → rdyK bef s k < lim := by
  intro k
  induction k with
  | zero => intro _; show 0 < lim; decide
  | succ k ih => intro hk; unfold rdyK; split; exact add_lt (ih (by omega)) (by omega); exact ih (by omega)
theorem bt_rdyK (bef : Nat → Nat) (s : Nat) : ∀ k u, bt (rdyK bef s k) u = (decide (u < k) && rdy bef s u) := by
  intro k
  induction k with
  | zero => intro u; simp [rdyK, bt_zero]
  | succ k ih =>
    intro u
    unfold rdyK
    by_cases h : rdy bef s k = true
    · rw [if_pos h, bt_add, ih]
      by_cases hu : u = k
      · subst hu; simp [h]
      · have h1 : decide (k = u) = false := by simp; omega
        have h2 : decide (u < k + 1) = decide (u < k) := by by_cases h3 : u < k <;> simp [h3] <;> omega
        rw [h1, h2, Bool.or_false]
    · rw [if_neg h, ih]
      by_cases hu : u = k
      · subst hu; simp at h; simp [h]
      · have h2 : decide (u < k + 1) = decide (u < k) := by by_cases h3 : u < k <;> simp [h3] <;> omega
        rw [h2]
/-- The lowest node from k on, of those below n, that may come next. -/
def low (bef : Nat → Nat) (s n : Nat) : Nat → Nat → Option Nat
  | 0, _ => none
  | f + 1, k => if k < n then (if rdy bef s k then some k else low bef s n f (k + 1)) else none
def lowest (bef : Nat → Nat) (s n : Nat) : Option Nat := (List.range n).find? (rdy bef s)
theorem lowest_some {bef : Nat → Nat} {s n v : Nat} (hv : v < n) (hr : rdy bef s v = true) (hl : ∀ u, u < v → rdy bef s u = false) : lowest bef s n = some v := by
  unfold lowest
  rw [List.find?_range_eq_some]
  exact ⟨hr, by simpa using hv, fun j hj => by simp [hl j hj]⟩
theorem lowest_none {bef : Nat → Nat} {s n : Nat} (hl : ∀ u, u < n → rdy bef s u = false) : lowest bef s n = none := by
  unfold lowest
  rw [List.find?_eq_none]
  intro x hx
  simp at hx
  simp [hl x hx]
/-- The first order: the lowest node that may come next, again and again. -/
def ordF (bef : Nat → Nat) (n : Nat) : Nat → Nat → List Nat → Nat × List Nat
  | 0, s, l => (s, l)
  | f + 1, s, l => match lowest bef s n with
    | none => (s, l)
    | some v => ordF bef n f (add s v) (l ++ [v])
def ordG (n : Nat) (g : List (Nat × Nat)) : List Nat := (ordF (befG g) n n 0 []).2

/-- One round of what is reached: through one node. -/
def thr (r : Nat → Nat) (mid : Nat) : Nat → Nat := fun v => if bt (r v) mid then orn (r v) (r mid) else r v
/-- The round, half done: the nodes below j. -/
def thrJ (r : Nat → Nat) (mid j : Nat) : Nat → Nat := fun v => if v < j ∧ bt (r v) mid = true then orn (r v) (r mid) else r v
theorem orn_self (s : Nat) : orn s s = s := by simp [orn]
theorem thrJ_zero (r : Nat → Nat) (mid : Nat) : thrJ r mid 0 = r := by funext v; simp [thrJ]
theorem thrJ_mid (r : Nat → Nat) (mid j : Nat) : thrJ r mid j mid = r mid := by
  unfold thrJ
  split
  · exact orn_self _
  · rfl
theorem thrJ_at (r : Nat → Nat) (mid j : Nat) : thrJ r mid j j = r j := by simp [thrJ]
theorem thrJ_yes (r : Nat → Nat) (mid j : Nat) (h : bt (r j) mid = true) : thrJ r mid (j + 1) = upd (thrJ r mid j) j (orn (thrJ r mid j j) (thrJ r mid j mid)) := by
  rw [thrJ_at, thrJ_mid]
  funext v
  unfold upd
  by_cases hv : v = j
  · subst hv; simp [thrJ, h]
  · rw [if_neg hv]
    unfold thrJ
    by_cases h2 : v < j
    · simp [h2, Nat.lt_succ_of_lt h2]
    · have : ¬ v < j + 1 := by omega
      simp [h2, this]
theorem thrJ_no (r : Nat → Nat) (mid j : Nat) (h : bt (r j) mid = false) : thrJ r mid (j + 1) = thrJ r mid j := by
  funext v
  by_cases hv : v = j
  · subst hv; simp [thrJ, h]
  · unfold thrJ
    by_cases h2 : v < j
    · simp [h2, Nat.lt_succ_of_lt h2]
    · have : ¬ v < j + 1 := by omega
      simp [h2, this]
theorem thrJ_small {r : Nat → Nat} (h : Small r) (mid j : Nat) : Small (thrJ r mid j) := by
  intro v
  unfold thrJ
  split
  · exact orn_lt (h v) (h mid)
  · exact h v
/-- What is reached, through the nodes below k; the places from n on stay. -/
def rchK (n : Nat) (g : List (Nat × Nat)) : Nat → Nat → Nat
  | 0 => aftG g
  | k + 1 => thrJ (rchK n g k) k n
def rchG (n : Nat) (g : List (Nat × Nat)) : Nat → Nat := rchK n g n
theorem rchK_small {n : Nat} {g : List (Nat × Nat)} (h : InN n g) (hn : n ≤ 64) : ∀ k, Small (rchK n g k) := by
  intro k
  induction k with
  | zero => exact aftG_small h hn
  | succ k ih => exact thrJ_small ih _ _

/-- What the sets of those in a set, below k, have together. -/
def furK (aft r : Nat → Nat) (v : Nat) : Nat → Nat
  | 0 => 0
  | k + 1 => if bt (aft v) k then orn (furK aft r v k) (r k) else furK aft r v k
theorem furK_lt {r : Nat → Nat} (h : Small r) (aft : Nat → Nat) (v : Nat) : ∀ k, furK aft r v k < lim := by
  intro k
  induction k with
  | zero => show 0 < lim; decide
  | succ k ih => unfold furK; split; exact orn_lt ih (h k); exact ih
/-- The pairs of a node and those below k in a set. -/
def prsK (v s : Nat) : Nat → List (Nat × Nat)
  | 0 => []
  | k + 1 => if bt s k then prsK v s k ++ [(v, k)] else prsK v s k
/-- What is left of the edges: of the nodes below k. -/
def thnK (n : Nat) (aft r : Nat → Nat) : Nat → List (Nat × Nat)
  | 0 => []
  | k + 1 => thnK n aft r k ++ prsK k (andn (aft k) (furK aft r k n)) n
def thnG (n : Nat) (g : List (Nat × Nat)) : List (Nat × Nat) := thnK n (aftG g) (rchG n g) n
theorem prsK_len (v s : Nat) : ∀ k, (prsK v s k).length ≤ k := by
  intro k
  induction k with
  | zero => simp [prsK]
  | succ k ih =>
    unfold prsK
    split
    · simp; omega
    · omega
theorem thnK_len (n : Nat) (aft r : Nat → Nat) : ∀ k, (thnK n aft r k).length ≤ k * n := by
  intro k
  induction k with
  | zero => simp [thnK]
  | succ k ih =>
    unfold thnK
    have := prsK_len k (andn (aft k) (furK aft r k n)) n
    rw [List.length_append, Nat.add_mul]; omega
end Go.Proofs.YtfcabdgidlnljaaDoor.DiP
