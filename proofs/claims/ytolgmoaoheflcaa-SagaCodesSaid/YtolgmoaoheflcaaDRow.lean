/-
 MERGED: DPure DOrd DMem DCheck DRow DSets.
-/
import Derived.Test.YtolgmoaoheflcaaChecked
import Derived.WalkKit
import Derived.WalkSpells
import Derived.WalkSmall
import Derived.Below
import Derived.Laws.OwnMore
import Derived.Deep.AppendLies
import Derived.Deep.Draws
import Derived.Lib.Hide
import Derived.Maps.AppendAt
import Derived.Deep.OwnRows
import Derived.Deep.MidRow
import Derived.Laws.BitsAllLaws
import Derived.Laws.Rows
import Derived.StillTailTactics
import Derived.Lib.LazyBuf
import Derived.Deep.QuietTactic
import Derived.BigQuiet
import Derived.Deep.RegionWith
namespace Go.Proofs.Ytolgmoaoheflcaa.Sa.DiP
def lim : Nat := 18446744073709551616
theorem lim_eq : lim = 2 ^ 64 := by decide
/-- Is a node in a set? -/
def bt (s v : Nat) : Bool := s.testBit v
def one (v : Nat) : Nat := 2 ^ v
def orn (s t : Nat) : Nat := s ||| t
def add (s v : Nat) : Nat := orn s (one v)
/-- What is in the one and not in the other. -/
def andn (s t : Nat) : Nat := s &&& (18446744073709551615 - t)
theorem bt_zero (v : Nat) : bt 0 v = false := by simp [bt]
theorem bt_one (v u : Nat) : bt (one v) u = decide (v = u) := by simp [bt, one, Nat.testBit_two_pow]
theorem bt_orn (s t u : Nat) : bt (orn s t) u = (bt s u || bt t u) := by simp [bt, orn]
theorem bt_add (s v u : Nat) : bt (add s v) u = (bt s u || decide (v = u)) := by rw [add, bt_orn, bt_one]
theorem one_lt (v : Nat) (h : v < 64) : one v < lim := by rw [lim_eq]; exact Nat.pow_lt_pow_right (by omega) h
theorem orn_lt {s t : Nat} (hs : s < lim) (ht : t < lim) : orn s t < lim := by rw [lim_eq] at *; exact Nat.or_lt_two_pow hs ht
theorem add_lt {s v : Nat} (hs : s < lim) (hv : v < 64) : add s v < lim := orn_lt hs (one_lt v hv)
theorem andn_lt {s t : Nat} (hs : s < lim) : andn s t < lim := by
 have : andn s t ≤ s := Nat.and_le_left
 omega
theorem bt_andn {s t u : Nat} (ht : t < lim) (hu : u < 64) : bt (andn s t) u = (bt s u && !bt t u) := by
 have h : (18446744073709551615 : Nat) - t = 2 ^ 64 - (t + 1) := by rw [lim_eq] at ht; omega
 simp only [bt, andn, Nat.testBit_and]
 rw [h, Nat.testBit_two_pow_sub_succ (by rw [lim_eq] at ht; exact ht)]
 simp [hu]
theorem bt_far {s u : Nat} (hs : s < lim) (hu : 64 ≤ u) : bt s u = false := by
 rw [lim_eq] at hs
 exact Nat.testBit_lt_two_pow (Nat.lt_of_lt_of_le hs (Nat.pow_le_pow_right (by omega) hu))
theorem ext_bt {s t : Nat} (h : ∀ u, bt s u = bt t u) : s = t := Nat.eq_of_testBit_eq h
theorem ext64 {s t : Nat} (hs : s < lim) (ht : t < lim) (h : ∀ u, u < 64 → bt s u = bt t u) : s = t := by
 apply ext_bt
 intro u
 by_cases hu : u < 64
 ·exact h u hu
 ·rw [bt_far hs (by omega), bt_far ht (by omega)]
theorem zero_iff {s : Nat} (hs : s < lim) : s = 0 ↔ ∀ u, u < 64 → bt s u = false := by
 constructor
 ·rintro rfl u _; exact bt_zero u
 ·intro h; exact ext64 hs (by decide) (fun u hu => by rw [h u hu, bt_zero])
theorem andn_zero {s t : Nat} (hs : s < lim) (ht : t < lim) : andn s t = 0 ↔ ∀ u, bt s u = true → bt t u = true := by
 rw [zero_iff (andn_lt hs)]
 constructor
 ·intro h u hu
  by_cases h64 : u < 64
  ·have := h u h64
   rw [bt_andn ht h64, hu] at this
   simpa using this
  ·rw [bt_far hs (by omega)] at hu; cases hu
 ·intro h u hu
  rw [bt_andn ht hu]
  cases hb : bt s u with
  | false => rfl
  | true => rw [h u hb]; rfl
theorem bt_div (s v : Nat) : bt s v = decide (s / 2 ^ v % 2 = 1) := Nat.testBit_eq_decide_div_mod_eq

/-- The edges' ends. -/
def fa (g : List (Nat × Nat)) (k : Nat) : Nat := (g.getD k (0, 0)).1
def fb (g : List (Nat × Nat)) (k : Nat) : Nat := (g.getD k (0, 0)).2
/-- Is there an edge? -/
def E (g : List (Nat × Nat)) (u v : Nat) : Prop := ∃ k, k < g.length ∧ fa g k = u ∧ fb g k = v
/-- All ends are nodes. -/
def InN (n : Nat) (g : List (Nat × Nat)) : Prop := ∀ k, k < g.length → fa g k < n ∧ fb g k < n
theorem E.lt {n : Nat} {g : List (Nat × Nat)} (h : InN n g) {u v : Nat} (e : E g u v) : u < n ∧ v < n := by
 obtain ⟨k, hk, rfl, rfl⟩ := e
 exact h k hk

/-- One place of a row of sets gets another set. -/
def upd (f : Nat → Nat) (i x : Nat) : Nat → Nat := fun v => if v = i then x else f v
theorem upd_same (f : Nat → Nat) (i x : Nat) : upd f i x i = x := by simp [upd]
theorem upd_other (f : Nat → Nat) {i v : Nat} (x : Nat) (h : v ≠ i) : upd f i x v = f v := by simp [upd, h]
/-- All sets of a row have 64 bits. -/
def SmallD (f : Nat → Nat) : Prop := ∀ v, f v < lim
theorem SmallD.upd {f : Nat → Nat} (h : SmallD f) {i x : Nat} (hx : x < lim) : SmallD (upd f i x) := by
 intro v
 unfold DiP.upd
 split
 ·exact hx
 ·exact h v
/-- What leads to each node, after k edges. -/
def befK (g : List (Nat × Nat)) : Nat → Nat → Nat
 | 0 => fun _ => 0
 | k + 1 => upd (befK g k) (fb g k) (add (befK g k (fb g k)) (fa g k))
/-- What each node leads to, after k edges. -/
def aftK (g : List (Nat × Nat)) : Nat → Nat → Nat
 | 0 => fun _ => 0
 | k + 1 => upd (aftK g k) (fa g k) (add (aftK g k (fa g k)) (fb g k))
theorem befK_small {n : Nat} {g : List (Nat × Nat)} (h : InN n g) (hn : n ≤ 64) : ∀ k, k ≤ g.length → SmallD (befK g k) := by
 intro k
 induction k with
 | zero => intro _ v; show 0 < lim; decide
 | succ k ih => intro hk; exact (ih (by omega)).upd (add_lt (ih (by omega) _) (by have := h k (by omega); omega))
theorem bt_befK (g : List (Nat × Nat)) : ∀ k u v, bt (befK g k v) u = true ↔ ∃ j, j < k ∧ fa g j = u ∧ fb g j = v := by
 intro k
 induction k with
 | zero => intro u v; simp [befK, bt_zero]
 | succ k ih =>
  intro u v
  unfold befK upd
  by_cases hv : v = fb g k
  ·rw [if_pos hv, bt_add, ← hv]
   simp only [Bool.or_eq_true, decide_eq_true_eq]
   rw [ih]
   constructor
   ·rintro (⟨j, hj, h⟩ | h)
    ·exact ⟨j, by omega, h⟩
    ·exact ⟨k, by omega, h, hv.symm⟩
   ·rintro ⟨j, hj, h1, h2⟩
    by_cases hjk : j < k
    ·exact .inl ⟨j, hjk, h1, h2⟩
    ·obtain rfl : j = k := by omega
     exact .inr h1
  ·rw [if_neg hv, ih]
   constructor
   ·rintro ⟨j, hj, h⟩; exact ⟨j, by omega, h⟩
   ·rintro ⟨j, hj, h1, h2⟩
    by_cases hjk : j < k
    ·exact ⟨j, hjk, h1, h2⟩
    ·obtain rfl : j = k := by omega
     exact absurd h2.symm hv
theorem bt_aftK (g : List (Nat × Nat)) : ∀ k u v, bt (aftK g k v) u = true ↔ ∃ j, j < k ∧ fa g j = v ∧ fb g j = u := by
 intro k
 induction k with
 | zero => intro u v; simp [aftK, bt_zero]
 | succ k ih =>
  intro u v
  unfold aftK upd
  by_cases hv : v = fa g k
  ·rw [if_pos hv, bt_add, ← hv]
   simp only [Bool.or_eq_true, decide_eq_true_eq]
   rw [ih]
   constructor
   ·rintro (⟨j, hj, h⟩ | h)
    ·exact ⟨j, by omega, h⟩
    ·exact ⟨k, by omega, hv.symm, h⟩
   ·rintro ⟨j, hj, h1, h2⟩
    by_cases hjk : j < k
    ·exact .inl ⟨j, hjk, h1, h2⟩
    ·obtain rfl : j = k := by omega
     exact .inr h2
  ·rw [if_neg hv, ih]
   constructor
   ·rintro ⟨j, hj, h⟩; exact ⟨j, by omega, h⟩
   ·rintro ⟨j, hj, h1, h2⟩
    by_cases hjk : j < k
    ·exact ⟨j, hjk, h1, h2⟩
    ·obtain rfl : j = k := by omega
     exact absurd h1.symm hv
def befG (g : List (Nat × Nat)) : Nat → Nat := befK g g.length
def aftG (g : List (Nat × Nat)) : Nat → Nat := aftK g g.length
theorem bt_befG (g : List (Nat × Nat)) (u v : Nat) : bt (befG g v) u = true ↔ E g u v := bt_befK g _ u v
theorem bt_aftG (g : List (Nat × Nat)) (u v : Nat) : bt (aftG g v) u = true ↔ E g v u := bt_aftK g _ u v
theorem befG_small {n : Nat} {g : List (Nat × Nat)} (h : InN n g) (hn : n ≤ 64) : SmallD (befG g) := befK_small h hn _ (Nat.le_refl _)
/-- May a node come next, behind a set? -/
def rdy (bef : Nat → Nat) (s v : Nat) : Bool := !bt s v && decide (andn (bef v) s = 0)
def lowest (bef : Nat → Nat) (s n : Nat) : Option Nat := (List.range n).find? (rdy bef s)
theorem lowest_some {bef : Nat → Nat} {s n v : Nat} (hv : v < n) (hr : rdy bef s v = true) (hl : ∀ u, u < v → rdy bef s u = false) : lowest bef s n = some v := by
 unfold lowest
 rw [List.find?_range_eq_some]
 exact ⟨hr, by simpa using hv, fun j hj => by simp [hl j hj]⟩
theorem lowest_none {bef : Nat → Nat} {s n : Nat} (hl : ∀ u, u < n → rdy bef s u = false) : lowest bef s n = none := by
 unfold lowest
 rw [List.find?_eq_none]
 intro x hx
 simp at hx
 simp [hl x hx]
/-- The round, half done: the nodes below j. -/
def thrJ (r : Nat → Nat) (mid j : Nat) : Nat → Nat := fun v => if v < j ∧ bt (r v) mid = true then orn (r v) (r mid) else r v
/-- What is reached, through the nodes below k; the places from n on stay. -/
def rchK (n : Nat) (g : List (Nat × Nat)) : Nat → Nat → Nat
 | 0 => aftG g
 | k + 1 => thrJ (rchK n g k) k n
def rchG (n : Nat) (g : List (Nat × Nat)) : Nat → Nat := rchK n g n
end Go.Proofs.Ytolgmoaoheflcaa.Sa.DiP

namespace Go.Proofs.Ytolgmoaoheflcaa.Sa.DiP
/-- How many nodes below k are in a set. -/
def cnt (s : Nat) : Nat → Nat
 | 0 => 0
 | k + 1 => cnt s k + (if bt s k then 1 else 0)
theorem cnt_le (s : Nat) : ∀ k, cnt s k ≤ k := by
 intro k
 induction k with
 | zero => exact Nat.le_refl _
 | succ k ih => unfold cnt; split <;> omega
theorem cnt_zero : ∀ k, cnt 0 k = 0 := by
 intro k
 induction k with
 | zero => rfl
 | succ k ih => unfold cnt; rw [ih, bt_zero]; rfl
theorem cnt_add {s v : Nat} (h : bt s v = false) : ∀ k, cnt (add s v) k = cnt s k + (if v < k then 1 else 0) := by
 intro k
 induction k with
 | zero => rfl
 | succ k ih =>
  unfold cnt
  rw [ih, bt_add]
  by_cases hv : v = k
  ·subst hv; simp [h]
  ·simp only [hv, decide_false, Bool.or_false]
   by_cases h2 : v < k
   ·have : v < k + 1 := by omega
    simp only [h2, this, if_true]; omega
   ·have : ¬ v < k + 1 := by omega
    simp [h2, this]
theorem cnt_full {s : Nat} : ∀ k, cnt s k = k → ∀ u, u < k → bt s u = true := by
 intro k
 induction k with
 | zero => intro _ u hu; omega
 | succ k ih =>
  intro h u hu
  unfold cnt at h
  have := cnt_le s k
  cases hb : bt s k with
  | false => rw [hb] at h; simp at h; omega
  | true =>
   rw [hb] at h
   simp at h
   by_cases he : u = k
   ·rw [he, hb]
   ·exact ih h u (by omega)

theorem lowest_spec {bef : Nat → Nat} {s n v : Nat} (h : lowest bef s n = some v) : v < n ∧ rdy bef s v = true ∧ ∀ u, u < v → rdy bef s u = false := by
 unfold lowest at h
 rw [List.find?_range_eq_some] at h
 obtain ⟨h1, h2, h3⟩ := h
 exact ⟨by simpa using h2, h1, fun u hu => by simpa using h3 u hu⟩
theorem lowest_no {bef : Nat → Nat} {s n : Nat} (h : lowest bef s n = none) : ∀ u, u < n → rdy bef s u = false := by
 unfold lowest at h
 rw [List.find?_eq_none] at h
 intro u hu
 simpa using h u (by simpa using hu)
theorem rdy_new {bef : Nat → Nat} {s v : Nat} (h : rdy bef s v = true) : bt s v = false := by
 unfold rdy at h
 simp at h
 exact h.1
theorem rdy_zero {bef : Nat → Nat} {s v : Nat} (h : rdy bef s v = true) : andn (bef v) s = 0 := by
 unfold rdy at h
 simp at h
 exact h.2

/-- The order, and the set of its nodes, after k steps. -/
def ordS (bef : Nat → Nat) (n : Nat) : Nat → Nat × List Nat
 | 0 => (0, [])
 | k + 1 => match lowest bef (ordS bef n k).1 n with
  | none => ordS bef n k
  | some v => (add (ordS bef n k).1 v, (ordS bef n k).2 ++ [v])
/-- The order is k nodes long after k steps. -/
def Goes (bef : Nat → Nat) (n k : Nat) : Prop := (ordS bef n k).2.length = k
theorem ordS_some {bef : Nat → Nat} {n k v : Nat} (h : lowest bef (ordS bef n k).1 n = some v) : ordS bef n (k + 1) = (add (ordS bef n k).1 v, (ordS bef n k).2 ++ [v]) := by
 show (match lowest bef (ordS bef n k).1 n with | none => _ | some v => _) = _
 rw [h]
theorem ordS_none {bef : Nat → Nat} {n k : Nat} (h : lowest bef (ordS bef n k).1 n = none) : ordS bef n (k + 1) = ordS bef n k := by
 show (match lowest bef (ordS bef n k).1 n with | none => _ | some v => _) = _
 rw [h]
theorem ordS_len_le (bef : Nat → Nat) (n : Nat) : ∀ k, (ordS bef n k).2.length ≤ k := by
 intro k
 induction k with
 | zero => exact Nat.le_refl _
 | succ k ih =>
  cases h : lowest bef (ordS bef n k).1 n with
  | none => rw [ordS_none h]; omega
  | some v => rw [ordS_some h]; simp; omega
theorem Goes.zero (bef : Nat → Nat) (n : Nat) : Goes bef n 0 := rfl
theorem Goes.step {bef : Nat → Nat} {n k v : Nat} (hg : Goes bef n k) (h : lowest bef (ordS bef n k).1 n = some v) : Goes bef n (k + 1) := by
 unfold Goes at *
 rw [ordS_some h]; simp [hg]
theorem Goes.back {bef : Nat → Nat} {n k : Nat} (hg : Goes bef n (k + 1)) : Goes bef n k ∧ ∃ v, lowest bef (ordS bef n k).1 n = some v := by
 unfold Goes at *
 have h1 := ordS_len_le bef n k
 cases h : lowest bef (ordS bef n k).1 n with
 | none => rw [ordS_none h] at hg; omega
 | some v => rw [ordS_some h] at hg; simp at hg; exact ⟨hg, v, rfl⟩
theorem ordS_cnt (bef : Nat → Nat) (n : Nat) : ∀ k, cnt (ordS bef n k).1 n = (ordS bef n k).2.length := by
 intro k
 induction k with
 | zero => exact cnt_zero n
 | succ k ih =>
  cases h : lowest bef (ordS bef n k).1 n with
  | none => rw [ordS_none h]; exact ih
  | some v =>
   obtain ⟨h1, h2, _⟩ := lowest_spec h
   rw [ordS_some h]
   show cnt (add _ v) n = (_ ++ [v]).length
   rw [cnt_add (rdy_new h2), ih]
   simp [h1]
theorem Goes.bound {bef : Nat → Nat} {n k : Nat} (hg : Goes bef n k) : k ≤ n := by
 have h := ordS_cnt bef n k
 rw [hg] at h
 have := cnt_le (ordS bef n k).1 n
 omega
/-- The whole order: as long as it goes. -/
def ordA (bef : Nat → Nat) (n : Nat) : List Nat := (ordS bef n n).2
theorem ordS_lt (bef : Nat → Nat) {n : Nat} (hn : n ≤ 64) : ∀ k, (ordS bef n k).1 < lim := by
 intro k
 induction k with
 | zero => show 0 < lim; decide
 | succ k ih =>
  cases h : lowest bef (ordS bef n k).1 n with
  | none => rw [ordS_none h]; exact ih
  | some v => rw [ordS_some h]; exact add_lt ih (by have := (lowest_spec h).1; omega)
/-- The element at a place. -/
def nth (l : List Nat) (j : Nat) : Nat := l.getD j 0
theorem nth_snoc_lt {l : List Nat} {v j : Nat} (h : j < l.length) : nth (l ++ [v]) j = nth l j := by
 simp [nth, List.getD, List.getElem?_append_left h]
theorem nth_snoc_last (l : List Nat) (v : Nat) : nth (l ++ [v]) l.length = v := by simp [nth, List.getD]
/-- Each node of the order is the lowest that may come next, behind those ahead of it. -/
theorem Goes.each {bef : Nat → Nat} {n K : Nat} (hg : Goes bef n K) : ∀ j, j < K → lowest bef (ordS bef n j).1 n = some (nth (ordS bef n K).2 j) := by
 induction K with
 | zero => intro j hj; omega
 | succ K ih =>
  intro j hj
  obtain ⟨hg', v, hv⟩ := hg.back
  rw [ordS_some hv]
  show _ = some (nth ((ordS bef n K).2 ++ [v]) j)
  by_cases h : j = K
  ·subst h
   have := nth_snoc_last (ordS bef n j).2 v
   rw [hg'] at this
   rw [this]; exact hv
  ·rw [nth_snoc_lt (by rw [hg']; omega)]
   exact ih hg' j (by omega)
theorem Goes.next {bef : Nat → Nat} {n K j : Nat} (hg : Goes bef n K) (hj : j < K) : (ordS bef n (j + 1)).1 = add (ordS bef n j).1 (nth (ordS bef n K).2 j) := by
 rw [ordS_some (hg.each j hj)]

/-- Is a set closed? -/
def Cl (g : List (Nat × Nat)) (s : Nat) : Prop := ∀ k, k < g.length → bt s (fb g k) = true → bt s (fa g k) = true
theorem Cl.E {g : List (Nat × Nat)} {s : Nat} (h : Cl g s) {u v : Nat} (e : E g u v) (hv : bt s v = true) : bt s u = true := by
 obtain ⟨k, hk, rfl, rfl⟩ := e
 exact h k hk hv
theorem ordS_closed {g : List (Nat × Nat)} {n : Nat} (hi : InN n g) (hn : n ≤ 64) : ∀ k, Cl g (ordS (befG g) n k).1 := by
 intro k
 induction k with
 | zero => intro j _ h; rw [show (ordS (befG g) n 0).1 = 0 from rfl, bt_zero] at h; cases h
 | succ k ih =>
  cases h : lowest (befG g) (ordS (befG g) n k).1 n with
  | none => rw [ordS_none h]; exact ih
  | some v =>
   rw [ordS_some h]
   intro j hj hb
   rw [bt_add] at hb ⊢
   simp only [Bool.or_eq_true, decide_eq_true_eq] at hb ⊢
   left
   rcases hb with hb | hb
   ·exact ih j hj hb
   ·have hz := rdy_zero (lowest_spec h).2.1
    rw [andn_zero (befG_small hi hn v) (ordS_lt _ hn k)] at hz
    exact hz _ ((bt_befG g _ _).2 ⟨j, hj, rfl, hb.symm⟩)
/-- The longest ways to a node, by its neighbours below k. -/
def mxK (bef lev : Nat → Nat) (v : Nat) : Nat → Nat
 | 0 => 0
 | k + 1 => if bt (bef v) k then max (mxK bef lev v k) (lev k + 1) else mxK bef lev v k
theorem mxK_congr {bef lev lev' : Nat → Nat} {v : Nat} (h : ∀ u, bt (bef v) u = true → lev u = lev' u) : ∀ k, mxK bef lev v k = mxK bef lev' v k := by
 intro k
 induction k with
 | zero => rfl
 | succ k ih =>
  unfold mxK
  by_cases hb : bt (bef v) k = true
  ·rw [if_pos hb, if_pos hb, ih, h k hb]
  ·rw [if_neg hb, if_neg hb, ih]
theorem mxK_ge {bef lev : Nat → Nat} {v u : Nat} : ∀ k, u < k → bt (bef v) u = true → lev u + 1 ≤ mxK bef lev v k := by
 intro k
 induction k with
 | zero => intro h; omega
 | succ k ih =>
  intro hu hb
  unfold mxK
  by_cases h : u = k
  ·subst h; rw [if_pos hb]; omega
  ·have := ih (by omega) hb
   split <;> omega
/-- How long the longest ways are, after j nodes of the order. -/
def levS (bef : Nat → Nat) (n : Nat) (l : List Nat) : Nat → Nat → Nat
 | 0 => fun _ => 0
 | j + 1 => upd (levS bef n l j) (nth l j) (mxK bef (levS bef n l j) (nth l j) n)
theorem levS_spec {g : List (Nat × Nat)} {n K : Nat} (hi : InN n g) (hn : n ≤ 64) (hg : Goes (befG g) n K) :
  ∀ j, j ≤ K → (∀ u, bt (ordS (befG g) n j).1 u = true → levS (befG g) n (ordS (befG g) n K).2 j u = mxK (befG g) (levS (befG g) n (ordS (befG g) n K).2 j) u n) ∧
   ∀ u, bt (ordS (befG g) n j).1 u = false → levS (befG g) n (ordS (befG g) n K).2 j u = 0 := by
 intro j
 induction j with
 | zero =>
  intro _
  refine ⟨fun u hu => ?_, fun u _ => rfl⟩
  rw [show (ordS (befG g) n 0).1 = 0 from rfl, bt_zero] at hu; cases hu
 | succ j ih =>
  intro hj
  obtain ⟨ih1, ih2⟩ := ih (by omega)
  have hl := hg.each j (by omega)
  have hnx := hg.next (j := j) (by omega)
  obtain ⟨hv, hr, _⟩ := lowest_spec hl
  have hnew := rdy_new hr
  have hz := rdy_zero hr
  have hcl := ordS_closed hi hn j
  rw [andn_zero (befG_small hi hn _) (ordS_lt _ hn j)] at hz
  generalize hV : nth (ordS (befG g) n K).2 j = v at *
  have hself : ∀ u, u ≠ v → levS (befG g) n (ordS (befG g) n K).2 (j + 1) u = levS (befG g) n (ordS (befG g) n K).2 j u := by
   intro u hu
   show upd _ (nth _ j) _ u = _
   rw [hV]; exact upd_other _ _ hu
  have hat : levS (befG g) n (ordS (befG g) n K).2 (j + 1) v = mxK (befG g) (levS (befG g) n (ordS (befG g) n K).2 j) v n := by
   show upd _ (nth _ j) _ v = _
   rw [hV]; exact upd_same _ _ _
  refine ⟨fun u hu => ?_, fun u hu => ?_⟩
  ·rw [hnx, bt_add] at hu
   by_cases he : u = v
   ·subst he
    rw [hat]
    exact mxK_congr (fun x hx => (hself x (fun e => by subst e; rw [hz _ hx] at hnew; cases hnew)).symm) n
   ·have hu' : bt (ordS (befG g) n j).1 u = true := by
     simp only [Bool.or_eq_true, decide_eq_true_eq] at hu
     rcases hu with h | h
     ·exact h
     ·exact absurd h.symm he
    rw [hself u he, ih1 u hu']
    refine mxK_congr (fun x hx => (hself x (fun e => ?_)).symm) n
    subst e
    have := hcl.E ((bt_befG g _ _).1 hx) hu'
    rw [this] at hnew; cases hnew
  ·rw [hnx, bt_add] at hu
   have h1 : bt (ordS (befG g) n j).1 u = false ∧ ¬ v = u := by simpa using hu
   rw [hself u (fun e => h1.2 e.symm)]
   exact ih2 u h1.1
/-- How long the longest ways are. -/
def levG (n : Nat) (g : List (Nat × Nat)) : Nat → Nat := levS (befG g) n (ordA (befG g) n) n
theorem levG_eq {g : List (Nat × Nat)} {n : Nat} (hi : InN n g) (hn : n ≤ 64) (hg : Goes (befG g) n n) {u : Nat} (hu : u < n) : levG n g u = mxK (befG g) (levG n g) u n := by
 have hall : bt (ordS (befG g) n n).1 u = true := cnt_full n (by rw [ordS_cnt]; exact hg) u hu
 exact (levS_spec hi hn hg n (Nat.le_refl _)).1 u hall
theorem levG_edge {g : List (Nat × Nat)} {n : Nat} (hi : InN n g) (hn : n ≤ 64) (hg : Goes (befG g) n n) {u v : Nat} (e : E g u v) : levG n g u < levG n g v := by
 rw [levG_eq hi hn hg (e.lt hi).2]
 exact mxK_ge n (e.lt hi).1 ((bt_befG g _ _).2 e)
end Go.Proofs.Ytolgmoaoheflcaa.Sa.DiP

namespace Go.Proofs.Ytolgmoaoheflcaa.Sa
open Go.RowKit

/-- The k-th edge's ends. -/
def ea (es : List (Int × Int)) (k : Nat) : Int := (es.getD k (0, 0)).1
def eb (es : List (Int × Int)) (k : Nat) : Int := (es.getD k (0, 0)).2

/-- A slice of m pairs reads, in w, as es; it lies below block B. -/
def RdE (w : World) (B : Nat) (A : Option Addr) (m : Nat) (es : List (Int × Int)) : Prop :=
 es.length = m ∧ (0 < m → ∃ b off, A = some ⟨b, off, none⟩ ∧ b < B ∧ ∀ j, j < m → w.cell? ⟨b, off + j * 2, none⟩ = some (.int .i64 (ea es j)) ∧ w.cell? ⟨b, off + j * 2 + 1, none⟩ = some (.int .i64 (eb es j)))

section
variable {w w' : World} {B B' m : Nat} {A : Option Addr} {es : List (Int × Int)}
theorem RdE.at_ {k : Nat} (h : RdE w B A m es) (hk : k < m) :
  ∃ b off, A = some ⟨b, off, none⟩ ∧ b < B ∧ w.cell? ⟨b, off + k * 2, none⟩ = some (.int .i64 (ea es k)) ∧ w.cell? ⟨b, off + k * 2 + 1, none⟩ = some (.int .i64 (eb es k)) := by
 obtain ⟨b, off, e, hb, hc⟩ := h.2 (by omega)
 exact ⟨b, off, e, hb, hc k hk⟩
theorem RdE.keep (h : RdE w B A m es) (hk : ∀ p : Addr, p.block < B → w'.cell? p = w.cell? p) : RdE w' B A m es :=
 ⟨h.1, fun hn => by
  obtain ⟨b, off, e, hb, hc⟩ := h.2 hn
  exact ⟨b, off, e, hb, fun j hj => ⟨(hk _ hb).trans (hc j hj).1, (hk _ hb).trans (hc j hj).2⟩⟩⟩
theorem RdE.more (h : RdE w B A m es) (hB : B ≤ B') : RdE w B' A m es :=
 ⟨h.1, fun hn => by
  obtain ⟨b, off, e, hb, hc⟩ := h.2 hn
  exact ⟨b, off, e, by omega, hc⟩⟩
theorem RdE.below (h : RdE w B A m es) (hb : Below B w w') : RdE w' B A m es := h.keep fun _ hp => hb.cell hp
theorem RdE.drewN (h : RdE w B A m es) (k : Nat) : RdE (w.drewN k) B A m es := h
theorem RdE.alloc (h : RdE w B A m es) (hB : B ≤ w.heap.size) (o : Obj) : RdE (w.alloc o) B A m es := h.keep fun p hp => World.cell?_alloc_lt w o p (by omega)
end
theorem below_drewN {B : Nat} {a w : World} (h : Below B a w) (k : Nat) : Below B a (w.drewN k) := ⟨h.os, h.tape, h.output, h.size, h.block⟩
end Go.Proofs.Ytolgmoaoheflcaa.Sa

namespace Go.Proofs.Ytolgmoaoheflcaa.Sa
open Go.RowKit
set_option linter.unusedVariables false

def node (n x : Int) : Bool := decide (0 ≤ x) && decide (x < n)
theorem hasNode_any {w : World} {n x : Int} {A : Option Addr} {m c : Nat} :
  Calls Try.prog 93 #[.agg #[.int .i64 n, .slice A m c], .int .i64 x] w fun e w' => e = .returned (.bool (node n x)) ∧ Below w.heap.size w w' := by
 by_cases h : 0 ≤ x
 ·go_enter Try.func93, Try.ntmps93
  go_wp2
  go_ret
  exact ⟨by simp [node, h], (Below.refl _ _).alloc (Nat.le_refl _) _⟩
 ·go_enter Try.func93, Try.ntmps93
  go_wp2
  go_ret
  exact ⟨by rw [show node n x = false by unfold node; rw [decide_eq_false (show ¬ 0 ≤ x by omega)]; rfl]; rfl, (Below.refl _ _).alloc (Nat.le_refl _) _⟩

/-- Is it a graph? -/
def GraphR (n : Int) (es : List (Int × Int)) : Prop := 0 ≤ n ∧ n ≤ 64 ∧ es.length ≤ 4096 ∧ ∀ k < es.length, node n (ea es k) = true ∧ node n (eb es k) = true

/-- The graph's own block: its two fields. -/
def Boxed (w : World) (g : Nat) (n : Int) (A : Option Addr) (m c : Nat) : Prop := w.cell? ⟨g, 0, none⟩ = some (.int .i64 n) ∧ w.cell? ⟨g, 1, none⟩ = some (.slice A m c)
theorem boxed_alloc (w : World) (n : Int) (A : Option Addr) (m c : Nat) (t : TypeId) : Boxed (w.alloc (.cells #[.int .i64 n, .slice A m c] t)) w.heap.size n A m c := by
 constructor <;> simp
theorem Boxed.below {w w' : World} {B g m c : Nat} {n : Int} {A : Option Addr} (h : Boxed w g n A m c) (hb : Below B w w') (hg : g < B) : Boxed w' g n A m c :=
 ⟨(hb.cell (p := ⟨g, 0, none⟩) hg).trans h.1, (hb.cell (p := ⟨g, 1, none⟩) hg).trans h.2⟩

set_option maxHeartbeats 1600000 in
theorem check_yes {w : World} {B m c : Nat} {n : Int} {A : Option Addr} {es : List (Int × Int)} (hx : RdE w B A m es) (hr : GraphR n es) (hB : B ≤ w.heap.size) :
  Calls Try.prog 89 #[.agg #[.int .i64 n, .slice A m c]] w fun e w' => e = .returned (.int .i64 0) ∧ Below w.heap.size w w' := by
 have hm : m ≤ 4096 := by have := hr.2.2.1; rw [hx.1] at this; exact this
 have hn0 := hr.1
 have hn1 := hr.2.1
 have HX := Lib.hid hx
 have HR : Hid (∀ k < m, node n (ea es k) = true ∧ node n (eb es k) = true) := Lib.hid (by have := hr.2.2.2; rwa [hx.1] at this)
 clear hx hr
 go_enter Try.func89, Try.ntmps89
 go_wp2_with fail
 have HW : Hid (Boxed (w.alloc (.cells #[.int .i64 n, .slice A m c] 133)) w.heap.size n A m c ∧ Below w.heap.size w (w.alloc (.cells #[.int .i64 n, .slice A m c] 133))) := Lib.hid ⟨boxed_alloc _ _ _ _ _ _, (Below.refl _ _).alloc (Nat.le_refl _) _⟩
 have hsz : (w.alloc (.cells #[.int .i64 n, .slice A m c] 133)).heap.size = w.heap.size + 1 := by simp
 generalize (w.alloc (.cells #[.int .i64 n, .slice A m c] 133)) = W0 at HW hsz ⊢
 go_loopw [22] (fun i wr => ∃ k : Nat, k ≤ m ∧ i = .int .i64 (k : Int) ∧ Hid (Below (w.heap.size + 1) W0 wr)) (fun i _ => m - (intOf i).toNat)
 case atStart => exact ⟨0, by omega, rfl, Lib.hid (Below.refl _ _)⟩
 case round =>
  obtain ⟨k, hk, rfl, HB⟩ := hrel
  have HBw : Hid (Below w.heap.size w wr) := Lib.hid (HW.out.2.trans (HB.out.mono (by omega)))
  by_cases hlt : k < m
  ·obtain ⟨b, off, rfl, hbb, hca, hcb⟩ := (HX.out.below (HBw.out.mono hB)).at_ hlt
   obtain ⟨hcn, hcs⟩ := HW.out.1.below HB.out (Nat.lt_succ_self _)
   obtain ⟨hna, hnb⟩ := HR.out k hlt
   have hwr : w.heap.size < wr.heap.size := by have := HB.out.size; omega
   obtain ⟨hcn1, hcs1⟩ := (Boxed.below ⟨hcn, hcs⟩ ((Below.refl wr.heap.size wr).alloc (Nat.le_refl _) (.cells #[.int .i64 (ea es k), .int .i64 (eb es k)] 90)) hwr : Boxed (wr.alloc (.cells #[.int .i64 (ea es k), .int .i64 (eb es k)] 90)) w.heap.size n (some ⟨b, off, none⟩) m c)
   have HB1 : Hid (Below (w.heap.size + 1) W0 (wr.alloc (.cells #[.int .i64 (ea es k), .int .i64 (eb es k)] 90))) := Lib.hid (HB.out.alloc (by omega) _)
   go_wp2_with fail
   refine hasNode_any.mono ?_
   rintro e w2 ⟨rfl, hbel2⟩
   rw [hna]
   have hce1 : w2.cell? ⟨wr.heap.size, 0, none⟩ = some (.int .i64 (ea es k)) := by rw [hbel2.cell (p := ⟨wr.heap.size, 0, none⟩) (by simp)]; simp
   have hce2 : w2.cell? ⟨wr.heap.size, 1, none⟩ = some (.int .i64 (eb es k)) := by rw [hbel2.cell (p := ⟨wr.heap.size, 1, none⟩) (by simp)]; simp
   have HB2 : Hid (Below (w.heap.size + 1) W0 w2) := Lib.hid (HB1.out.trans (hbel2.mono (by simp; omega)))
   obtain ⟨hcn2, hcs2⟩ := HW.out.1.below HB2.out (Nat.lt_succ_self _)
   clear hbel2
   go_wp2_with fail
   refine hasNode_any.mono ?_
   rintro e w3 ⟨rfl, hbel3⟩
   rw [hnb]
   have HB3 : Hid (Below (w.heap.size + 1) W0 w3) := Lib.hid (HB2.out.trans (hbel3.mono (by have := HB2.out.size; omega)))
   clear hbel3
   go_wp2
   go_roundw
   case rel => exact ⟨k + 1, by omega, by go_num, HB3⟩
   case measure => simp [intOf]; omega
  ·go_wp2
   go_ret
   exact ⟨rfl, HBw.out⟩

end Go.Proofs.Ytolgmoaoheflcaa.Sa

namespace Go.Proofs.Ytolgmoaoheflcaa.Sa
open Go.RowKit
open DiP
set_option linter.unusedVariables false

theorem has_bits {s v : Nat} (hs : s < lim) : (bits BinOp.and IntKind.u64 ((s : Int) / 2 ^ v) 1 == 1) = bt s v := by
 have e : ((s : Int) / 2 ^ v) = ((s / 2 ^ v : Nat) : Int) := by simp
 have h1 : s / 2 ^ v < 18446744073709551616 := Nat.lt_of_le_of_lt (Nat.div_le_self _ _) hs
 rw [e, show (1 : Int) = ((1 : Nat) : Int) from rfl, u64_and_nat _ _ h1 (by decide), nat_mask1, bt_div]
 have : s / 2 ^ v % 2 < 2 := Nat.mod_lt _ (by decide)
 by_cases h : s / 2 ^ v % 2 = 1
 ·rw [h]; rfl
 ·have h0 : s / 2 ^ v % 2 = 0 := by omega
  rw [h0]; rfl
theorem hasD_any {s v : Nat} {w : World} (hs : s < lim) (hv : v < 64) : Calls Try.prog 91 #[.int .u64 (s : Int), .int .i64 (v : Int)] w fun e w' => e = .returned (.bool (bt s v)) ∧ w = w' := by
 have HS := Lib.hid (has_bits (v := v) hs)
 go_enter Try.func91, Try.ntmps91
 go_wp2
 go_ret
 exact ⟨by rw [← HS.out]; rfl, rfl⟩

/-- Edges, their ends as numbers. -/
def castE (g : List (Nat × Nat)) : List (Int × Int) := g.map fun e => ((e.1 : Int), (e.2 : Int))
theorem castE_len (g : List (Nat × Nat)) : (castE g).length = g.length := by simp [castE]
theorem ea_cast (g : List (Nat × Nat)) (k : Nat) : ea (castE g) k = (fa g k : Int) := by
 unfold ea fa castE
 simp only [List.getD, List.getElem?_map]
 cases g[k]? <;> rfl
theorem eb_cast (g : List (Nat × Nat)) (k : Nat) : eb (castE g) k = (fb g k : Int) := by
 unfold eb fb castE
 simp only [List.getD, List.getElem?_map]
 cases g[k]? <;> rfl
/-- A slice of m pairs reads, in w, as the edges g. -/
def RdEg (w : World) (B : Nat) (A : Option Addr) (m : Nat) (g : List (Nat × Nat)) : Prop := RdE w B A m (castE g)
section
variable {w w' : World} {B B' m : Nat} {A : Option Addr} {g : List (Nat × Nat)}
theorem RdEg.len (h : RdEg w B A m g) : g.length = m := by have := h.1; rwa [castE_len] at this
theorem RdEg.at_ {k : Nat} (h : RdEg w B A m g) (hk : k < m) :
  ∃ b off, A = some ⟨b, off, none⟩ ∧ b < B ∧ w.cell? ⟨b, off + k * 2, none⟩ = some (.int .i64 (fa g k : Int)) ∧ w.cell? ⟨b, off + k * 2 + 1, none⟩ = some (.int .i64 (fb g k : Int)) := by
 have := RdE.at_ h hk
 rwa [ea_cast, eb_cast] at this
theorem RdEg.below (h : RdEg w B A m g) (hb : Below B w w') : RdEg w' B A m g := RdE.below h hb
end

/-- A block that holds a row of 64 sets. -/
def RowU (w : World) (b : Nat) (f : Nat → Nat) : Prop := w.rowIs b 141 64 (fun i => .int .u64 (f i : Int))
section
variable {w w' : World} {b : Nat} {f : Nat → Nat}
theorem RowU.cell (h : RowU w b f) {i : Nat} (hi : i < 64) : w.cell? ⟨b, i, none⟩ = some (.int .u64 (f i : Int)) := World.rowIs.cell h hi
theorem RowU.frozen (h : RowU w b f) (i : Nat) : w.frozen? ⟨b, i, none⟩ = false := World.rowIs.frozen h i
theorem RowU.below (h : RowU w b f) {B : Nat} (hb : Below B w w') (hB : b < B) : RowU w' b f := World.rowIs.of_block h (hb.block b hB)
theorem RowU.set (h : RowU w b f) (i x : Nat) : RowU (w.setCell ⟨b, i, none⟩ (.int .u64 (x : Int))) b (upd f i x) := by
 refine World.rowIs.congr (World.rowIs.set h i _) (fun j _ => ?_)
 unfold upd
 split <;> rfl
theorem RowU.alloc (h : RowU w b f) (o : Obj) : RowU (w.alloc o) b f := World.rowIs.alloc h o
theorem RowU.drew (h : RowU w b f) : RowU w.drew b f := h
theorem RowU.drewN (h : RowU w b f) (k : Nat) : RowU (w.drewN k) b f := h
theorem RowU.other (h : RowU w b f) {a : Addr} (ha : b ≠ a.block) (v : Value) : RowU (w.setCell a v) b f := World.rowIs.setOther h ha v
end
/-- The cells of a new row. -/
def cellsU (f : Nat → Nat) : Array Value := Array.ofFn (n := 64) fun i => .int .u64 (f i : Int)
theorem cellsU_size (f : Nat → Nat) : (cellsU f).size = 64 := by simp [cellsU]
theorem cellsU_get (f : Nat → Nat) (i : Nat) (hi : i < 64) : (cellsU f)[i]? = some (.int .u64 (f i : Int)) := by simp [cellsU, hi]
theorem rowU_new (w : World) (f : Nat → Nat) : RowU (w.alloc (.cells (cellsU f) 141)) w.heap.size f := by
 have := World.rowIs_alloc w (cellsU f) 141 (fun i => .int .u64 (f i : Int)) (fun i hi => by rw [cellsU_size] at hi; exact cellsU_get f i hi)
 rwa [cellsU_size] at this
/-- What is in the block is the row's cells. -/
theorem RowU.heap {w : World} {b : Nat} {f : Nat → Nat} (h : RowU w b f) : w.heap[b]? = some (.cells (cellsU f) 141 (0, 0)) := by
 obtain ⟨c, hb, hn, hc⟩ := h
 have e : c = cellsU f := by
  apply Array.ext_getElem?
  intro i
  by_cases hi : i < 64
  ·rw [hc i hi, cellsU_get f i hi]
  ·rw [Array.getElem?_eq_none (by omega), Array.getElem?_eq_none (by rw [cellsU_size]; omega)]
 rw [hb, e]
theorem cellsU_one (f : Nat → Nat) : (cellsU f).all (·.oneCell') = true := by
 rw [Array.all_eq_true_iff_forall_mem]
 intro v hv
 obtain ⟨i, hi, rfl⟩ := Array.mem_iff_getElem.1 hv
 simp [cellsU]; rfl
theorem RowU.there {w : World} {b : Nat} {f : Nat → Nat} (h : RowU w b f) (n : Nat) (hn : n = 64) : w.there b 0 n := fun j hj => by
 subst hn
 rw [Nat.zero_add, h.cell hj]
 exact ⟨rfl, h.frozen j⟩
/-- A whole row stored over another one. -/
theorem RowU.stored {w : World} {b : Nat} {f f' : Nat → Nat} (h : RowU w b f') : RowU (w.setCells b 0 (cellsU f).toList) b f := by
 refine World.rowIs.congr (rowIs_setCells (cellsU f).toList 0 w _ h) (fun j hj => ?_)
 rw [if_pos ⟨Nat.zero_le _, by rw [Array.length_toList, cellsU_size]; omega⟩, Nat.sub_zero, Array.getElem?_toList, cellsU_get f j hj]
 rfl
theorem sets_size (f : Nat → Nat) : (Try.prog.info? 141).map (·.size) = some (cellsU f).size := by rw [cellsU_size]; kernel_rfl
def zeros : Nat → Nat := fun _ => 0
theorem zeros_cells : cellsU zeros = Array.replicate 64 (.int .u64 0) := by
 apply Array.ext_getElem?
 intro i
 by_cases hi : i < 64
 ·rw [cellsU_get _ i hi]; simp [zeros, hi]
 ·rw [Array.getElem?_eq_none (by rw [cellsU_size]; omega), Array.getElem?_eq_none (by simp; omega)]

theorem shl_one (v : Nat) : (2 : Int) ^ v = ((one v : Nat) : Int) := by simp [one]
theorem or_spell {s v : Nat} (hs : s < lim) (hv : v < 64) : bits BinOp.or IntKind.u64 (s : Int) (IntKind.u64.wrap (2 ^ min v 64)) = ((add s v : Nat) : Int) := by
 have h1 := one_lt v hv
 have e : IntKind.u64.wrap (2 ^ min v 64) = ((one v : Nat) : Int) := by
  rw [IntKind.wrap_u64, Nat.min_eq_left (by omega), shl_one]
  unfold lim at h1
  omega
 rw [e]; exact u64_or_nat s (one v) hs h1
set_option maxRecDepth 100000 in
set_option maxHeartbeats 1000000 in
theorem before_any {w : World} {B m c n : Nat} {A : Option Addr} {g : List (Nat × Nat)} (hx : RdEg w B A m g) (hB : B ≤ w.heap.size) (hi : InN n g) (hn : n ≤ 64) (hm : m ≤ 4096) :
  Calls Try.prog 90 #[.agg #[.int .i64 n, .slice A m c]] w fun e w' => e = .returned (.agg (cellsU (befG g))) ∧ Below w.heap.size w w' := by
 have HX := Lib.hid hx
 have HI := Lib.hid hi
 have HL := Lib.hid hx.len
 clear hx hi
 go_enter Try.func90, Try.ntmps90
 go_wp2_with fail
 have HW : ∃ W0 : World, W0 = (((w.alloc (.cells #[.int .i64 (n : Int), .slice A m c] 133)).alloc (.cells (cellsU zeros) 141)).alloc (.cells (cellsU zeros) 141)) := ⟨_, rfl⟩
 obtain ⟨W0, hW⟩ := HW
 have hsz : W0.heap.size = w.heap.size + 3 := by rw [hW]; simp
 have HR1 : Hid (RowU W0 (w.heap.size + 1) zeros) := Lib.hid (by
  rw [hW]
  have := (rowU_new (w.alloc (.cells #[.int .i64 (n : Int), .slice A m c] 133)) zeros).alloc (.cells (cellsU zeros) 141)
  simpa using this)
 have HR2 : Hid (RowU W0 (w.heap.size + 2) zeros) := Lib.hid (by
  rw [hW]
  have := rowU_new ((w.alloc (.cells #[.int .i64 (n : Int), .slice A m c] 133)).alloc (.cells (cellsU zeros) 141)) zeros
  simpa using this)
 have HBW : Hid (Below w.heap.size w W0) := Lib.hid (by
  rw [hW]
  exact (((Below.refl _ _).alloc (Nat.le_refl _) _).alloc (by simp) _).alloc (by simp; omega) _)
 rw [zeros_cells] at hW
 simp only [Array.replicate, List.replicate] at hW
 rw [← hW]
 clear hW
 clear hsz
 go_loopw [9] (fun i wr => ∃ k : Nat, k ≤ m ∧ i = .int .i64 (k : Int) ∧ Hid (RowU wr (w.heap.size + 1) zeros ∧ RowU wr (w.heap.size + 2) (befK g k) ∧ Below w.heap.size w wr)) (fun i _ => m - (intOf i).toNat)
 case atStart => exact ⟨0, by omega, rfl, Lib.hid ⟨HR1.out, HR2.out, HBW.out⟩⟩
 case round =>
  obtain ⟨k, hk, rfl, HV⟩ := hrel
  by_cases hlt : k < m
  ·obtain ⟨b, off, rfl, hbb, hca, hcb⟩ := (HX.out.below (HV.out.2.2.mono hB)).at_ hlt
   obtain ⟨hfa, hfb⟩ := HI.out k (by rw [HL.out]; exact hlt)
   have hsm := befK_small HI.out hn k (by rw [HL.out]; omega) (fb g k)
   have HO := Lib.hid (or_spell hsm (show fa g k < 64 by omega))
   have HS := Lib.hid hsm
   clear hsm
   have hi0 : fb g k < 64 := by omega
   have hi1 : (fb g k : Int) < 64 := by omega
   go_wp2_with fail
   obtain ⟨w2, HW2⟩ : ∃ w2, Hid (w2 = (wr.alloc (.cells #[.int .i64 (fa g k), .int .i64 (fb g k)] 90)).drew) := ⟨_, Lib.hid rfl⟩
   have hcr : w2.cell? ⟨w.heap.size + 1 + 1, fb g k, none⟩ = some (.int .u64 (befK g k (fb g k) : Int)) := by
    rw [HW2.out]; exact (HV.out.2.1.alloc (.cells #[.int .i64 (fa g k), .int .i64 (fb g k)] 90)).cell (i := fb g k) (by omega)
   have hfr : w2.frozen? ⟨w.heap.size + 1 + 1, fb g k, none⟩ = false := by
    rw [HW2.out]; exact (HV.out.2.1.alloc (.cells #[.int .i64 (fa g k), .int .i64 (fb g k)] 90)).frozen (fb g k)
   have he0 : w2.cell? ⟨wr.heap.size, 0, none⟩ = some (.int .i64 (fa g k : Int)) := by rw [HW2.out]; simp
   have he1 : w2.cell? ⟨wr.heap.size, 1, none⟩ = some (.int .i64 (fb g k : Int)) := by rw [HW2.out]; simp
   refine wp_region_still_tail 10 (by kernel_rfl) (by kernel_rfl) ?_
   have e2 : { (wr.alloc (.cells #[.int .i64 (fa g k), .int .i64 (fb g k)] 90)) with drawn := (wr.alloc (.cells #[.int .i64 (fa g k), .int .i64 (fb g k)] 90)).drawn + 1 } = w2 := HW2.out.symm
   rw [e2]
   clear e2
   simp only [List.take_succ_cons, List.take_zero, List.drop_succ_cons, List.drop_zero]
   repeat still_step
   refine wpStill_nil ?_
   go_wp2_with fail
   go_roundw
   case rel => exact ⟨k + 1, by omega, by go_num, Lib.hid (by
    rw [HO.out, HW2.out]
    refine ⟨((HV.out.1.alloc _).drew).other (by simp) _, ((HV.out.2.1.alloc _).drew).set _ _, ?_⟩
    exact (below_drewN (HV.out.2.2.alloc HV.out.2.2.size _) 1).setCell (by simp; omega) _)⟩
   case measure => simp [intOf]; omega
  ·have HZ := Lib.hid (sets_size (befK g k))
   have hlt' : ¬ k < m := hlt
   go_wp2_with (first
    | (refine wpList_load_row rfl 141 _ rfl (w.heap.size + 1 + 1) rfl 141 (cellsU (befK g k)) (0, 0) _ HV.out.2.1.heap Try.underlying141 rfl HZ.out ?_)
    | (refine wpList_store_mid rfl 141 _ _ rfl (w.heap.size + 1) 0 (cellsU (befK g k)) rfl rfl (HV.out.1.there _ (cellsU_size _)) HZ.out (cellsU_one _) ?_))
   have e : k = m := by omega
   have e2 : befG g = befK g k := by unfold befG; rw [HL.out, e]
   rw [e2]
   refine bodyPost_ret (v := .agg (cellsU (befK g k))) (results_cell_row rfl _ _ (w.heap.size + 1) 141 (cellsU (befK g k)) (0, 0) _ rfl (RowU.heap HV.out.1.stored) Try.underlying141 rfl HZ.out) rfl ⟨rfl, ?_⟩
   exact below_setCells (by omega) _ _ _ HV.out.2.2
end Go.Proofs.Ytolgmoaoheflcaa.Sa

namespace Go.Proofs.Ytolgmoaoheflcaa.Sa
open Go.RowKit
open DiP
set_option linter.unusedVariables false

theorem andn_spell {s t : Nat} (hs : s < lim) (ht : t < lim) : bits BinOp.andNot IntKind.u64 (s : Int) (t : Int) = ((andn s t : Nat) : Int) := u64_andNot_nat s t hs ht
theorem or_spell2 {s v : Nat} (hs : s < lim) (hv : v < 64) : bits BinOp.or IntKind.u64 (s : Int) (IntKind.u64.wrap (2 ^ v)) = ((add s v : Nat) : Int) := by
 have := or_spell hs hv
 rwa [Nat.min_eq_left (by omega)] at this
theorem andn_bool {s t : Nat} (hs : s < lim) (ht : t < lim) : (bits BinOp.andNot IntKind.u64 (s : Int) (t : Int) == 0) = decide (andn s t = 0) := by
 rw [andn_spell hs ht]
 by_cases h : andn s t = 0
 ·rw [h]; rfl
 ·rw [decide_eq_false h]
  simp [h]

theorem graphR_cast {n : Nat} {g : List (Nat × Nat)} (hi : InN n g) (hn : n ≤ 64) (hm : g.length ≤ 4096) : GraphR (n : Int) (castE g) := by
 refine ⟨by omega, by omega, by rw [castE_len]; exact hm, fun k hk => ?_⟩
 rw [castE_len] at hk
 obtain ⟨h1, h2⟩ := hi k hk
 rw [ea_cast, eb_cast]
 unfold node
 simp; omega

end Go.Proofs.Ytolgmoaoheflcaa.Sa
