/-
  CONTRACTS of the functions that only read: of package rank and of slices.Compare, over this translation.
-/
import Derived.Test.YtocmflnieagfcacMem
namespace Go.Proofs.Ytocmflnieagfcac
open Go.RowKit
open RankP
set_option linter.unusedVariables false

theorem ret_int {k : IntKind} {a b : Int} (h : a = b) : Ending.returned (.int k a) = .returned (.int k b) := by rw [h]

theorem isNaN_any (x : Int) (w : World) : Calls Try.prog 56 #[.int .i64 x] w fun e w' => e = .returned (.bool false) ∧ w = w' := by
  go_enter Try.func56, Try.ntmps56
  go_wp2
  go_ret
  exact ⟨rfl, rfl⟩

def cmpI (x y : Int) : Int := if x < y then -1 else if y < x then 1 else 0
theorem cmp_any (x y : Int) (w : World) : Calls Try.prog 52 #[.int .i64 x, .int .i64 y] w fun e w' => e = .returned (.int .i64 (cmpI x y)) ∧ w = w' := by
  by_cases h1 : x < y
  · have e1 : cmpI x y = -1 := if_pos h1
    have E1 := Lib.hid e1
    clear e1
    go_enter Try.func52, Try.ntmps52
    go_wp2_with (go_at_call 56; refine (isNaN_any _ _).mono ?_; rintro e w' ⟨rfl, rfl⟩)
    go_ret
    exact ⟨ret_int E1.out.symm, rfl⟩
  · by_cases h2 : y < x
    · have e1 : cmpI x y = 1 := by unfold cmpI; rw [if_neg h1, if_pos h2]
      have E1 := Lib.hid e1
      clear e1
      go_enter Try.func52, Try.ntmps52
      go_wp2_with (go_at_call 56; refine (isNaN_any _ _).mono ?_; rintro e w' ⟨rfl, rfl⟩)
      go_ret
      exact ⟨ret_int E1.out.symm, rfl⟩
    · have e1 : cmpI x y = 0 := by unfold cmpI; rw [if_neg h1, if_neg h2]
      have E1 := Lib.hid e1
      clear e1
      go_enter Try.func52, Try.ntmps52
      go_wp2_with (go_at_call 56; refine (isNaN_any _ _).mono ?_; rintro e w' ⟨rfl, rfl⟩)
      go_ret
      exact ⟨ret_int E1.out.symm, rfl⟩

theorem cmpI_lt {x y : Int} (h : x < y) : cmpI x y = -1 := if_pos h
theorem cmpI_gt {x y : Int} (h : y < x) : cmpI x y = 1 := by unfold cmpI; rw [if_neg (by omega), if_pos h]
theorem cmpI_eq {x y : Int} (h : x = y) : cmpI x y = 0 := by unfold cmpI; rw [if_neg (by omega), if_neg (by omega)]

set_option maxHeartbeats 1000000 in
theorem scmp_any {w : World} {B n m c d : Nat} {A D : Option Addr} {xs ys : List Int} (hx : Rd w B A n xs) (hy : Rd w B D m ys) (hn : n ≤ 9223372036854775807) (hm : m ≤ 9223372036854775807) :
    Calls Try.prog 41 #[.slice A n c, .slice D m d] w fun e w' => e = .returned (.int .i64 (lcmp xs ys)) ∧ w = w' := by
  have HX := Lib.hid hx
  have HY := Lib.hid hy
  have hxl := hx.1
  have hyl := hy.1
  have HXL := Lib.hid hxl
  have HYL := Lib.hid hyl
  clear hx hy hxl hyl
  go_enter Try.func41, Try.ntmps41
  go_wp2_with fail
  go_loop [11] (fun i => ∃ k : Nat, k ≤ n ∧ k ≤ m ∧ i = .int .i64 k ∧ lcmp (xs.drop k) (ys.drop k) = lcmp xs ys) (fun i => n - (intOf i).toNat)
  case atStart => exact ⟨0, Nat.zero_le _, Nat.zero_le _, rfl, rfl⟩
  case round =>
    obtain ⟨k, hkn, hkm, rfl, hl⟩ := hrel
    have HL := Lib.hid hl
    clear hl
    by_cases hlt : k < n
    · obtain ⟨b, off, rfl, hb, hc⟩ := HX.out.at_ hlt
      by_cases hlt2 : k < m
      · obtain ⟨b2, off2, rfl, hb2, hc2⟩ := HY.out.at_ hlt2
        rcases Int.lt_trichotomy (ix xs k) (ix ys k) with h | h | h
        · have E := Lib.hid (cmpI_lt h)
          have E2 := Lib.hid (lcmp_lt xs ys k (by rw [HXL.out]; exact hlt) (by rw [HYL.out]; exact hlt2) h)
          go_wp2_with (go_at_call 52; refine (cmp_any _ _ _).mono ?_; rintro e w' ⟨rfl, rfl⟩; rw [E.out])
          go_ret
          exact ⟨ret_int (by rw [← HL.out, E2.out]), rfl⟩
        · have E := Lib.hid (cmpI_eq h)
          have E2 := Lib.hid (lcmp_eq xs ys k (by rw [HXL.out]; exact hlt) (by rw [HYL.out]; exact hlt2) h)
          clear h
          go_wp2_with (go_at_call 52; refine (cmp_any _ _ _).mono ?_; rintro e w' ⟨rfl, rfl⟩; rw [E.out])
          go_round
          case rel => exact ⟨k + 1, by omega, by omega, by go_num, by rw [← E2.out]; exact HL.out⟩
          case measure => simp [intOf]; omega
        · have E := Lib.hid (cmpI_gt h)
          have E2 := Lib.hid (lcmp_gt xs ys k (by rw [HXL.out]; exact hlt) (by rw [HYL.out]; exact hlt2) h)
          go_wp2_with (go_at_call 52; refine (cmp_any _ _ _).mono ?_; rintro e w' ⟨rfl, rfl⟩; rw [E.out])
          go_ret
          exact ⟨ret_int (by rw [← HL.out, E2.out]), rfl⟩
      · have E2 := Lib.hid (lcmp_end2 xs ys k (by rw [HXL.out]; exact hlt) (by rw [HYL.out]; omega))
        go_wp2
        go_ret
        exact ⟨ret_int (by rw [← HL.out, E2.out]), rfl⟩
    · by_cases hlt2 : k < m
      · have E2 := Lib.hid (lcmp_end1 xs ys k (by rw [HXL.out]; omega) (by rw [HYL.out]; omega))
        go_wp2
        go_ret
        exact ⟨ret_int (by rw [← HL.out, E2.out]), rfl⟩
      · have E2 := Lib.hid (lcmp_end0 xs ys k (by rw [HXL.out]; omega) (by rw [HYL.out]; omega))
        go_wp2
        go_ret
        exact ⟨ret_int (by rw [← HL.out, E2.out]), rfl⟩

theorem rcmp_any {w : World} {B n m c d : Nat} {A D : Option Addr} {xs ys : List Int} (hx : Rd w B A n xs) (hy : Rd w B D m ys) (hn : n ≤ 9223372036854775807) (hm : m ≤ 9223372036854775807) :
    Calls Try.prog 23 #[.slice A n c, .slice D m d] w fun e w' => e = .returned (.int .i64 (lcmp xs ys)) ∧ w = w' := by
  have HX := Lib.hid hx
  have HY := Lib.hid hy
  clear hx hy
  go_enter Try.func23, Try.ntmps23
  go_wp2_with (go_at_call 41; refine (scmp_any HX.out HY.out hn hm).mono ?_; rintro e w' ⟨rfl, rfl⟩)
  go_ret
  exact ⟨rfl, rfl⟩

/-! ### Tests over whole lists -/
def sameB (xs ys : List Int) : Bool := decide (xs = ys)
theorem sameB_len {xs ys : List Int} (h : xs.length ≠ ys.length) : sameB xs ys = false := by
  unfold sameB; rw [decide_eq_false_iff_not]; rintro rfl; exact h rfl
theorem sameB_at {xs ys : List Int} {k : Nat} (h : ix xs k ≠ ix ys k) : sameB xs ys = false := by
  unfold sameB; rw [decide_eq_false_iff_not]; rintro rfl; exact h rfl
theorem sameB_all {xs ys : List Int} (hl : xs.length = ys.length) (h : ∀ j < xs.length, ix xs j = ix ys j) : sameB xs ys = true := by
  unfold sameB; rw [decide_eq_true_eq]; exact list_ext_getD hl h
theorem sameB_refl (xs : List Int) : sameB xs xs = true := by unfold sameB; simp

set_option maxHeartbeats 1000000 in
theorem same_any {w : World} {B n m c d : Nat} {A D : Option Addr} {xs ys : List Int} (hx : Rd w B A n xs) (hy : Rd w B D m ys) (hn : n ≤ 9223372036854775807) (hm : m ≤ 9223372036854775807) :
    Calls Try.prog 22 #[.slice A n c, .slice D m d] w fun e w' => e = .returned (.bool (sameB xs ys)) ∧ w = w' := by
  have HX := Lib.hid hx
  have HY := Lib.hid hy
  have HXL := Lib.hid hx.1
  have HYL := Lib.hid hy.1
  clear hx hy
  by_cases hnm : n = m
  · obtain rfl := hnm
    have HL : Hid (xs.length = ys.length) := Lib.hid (by rw [HXL.out, HYL.out])
    go_enter Try.func22, Try.ntmps22
    go_wp2
    go_loop [14] (fun i => ∃ k : Nat, k ≤ n ∧ i = .int .i64 k ∧ Hid (∀ j < k, ix xs j = ix ys j)) (fun i => n - (intOf i).toNat)
    case atStart => exact ⟨0, Nat.zero_le _, rfl, Lib.hid (fun j hj => absurd hj (by omega))⟩
    case round =>
      obtain ⟨k, hk, rfl, HA⟩ := hrel
      by_cases hlt : k < n
      · obtain ⟨b, off, rfl, hb, hc⟩ := HX.out.at_ hlt
        obtain ⟨b2, off2, rfl, hb2, hc2⟩ := HY.out.at_ hlt
        by_cases h : ix xs k = ix ys k
        · have hb : (ix xs k != ix ys k) = false := by simp [h]
          have hb' : (ix xs k == ix ys k) = true := by simp [h]
          have H := Lib.hid h
          clear h
          go_wp2
          go_round
          case rel => exact ⟨k + 1, by omega, by go_num, Lib.hid (fun j hj => by
            by_cases hjk : j < k
            · exact HA.out j hjk
            · obtain rfl : j = k := by omega
              exact H.out)⟩
          case measure => simp [intOf]; omega
        · have hb : (ix xs k != ix ys k) = true := by simp [h]
          have hb' : (ix xs k == ix ys k) = false := by simp [h]
          have E := Lib.hid (sameB_at h)
          clear h
          go_wp2
          go_ret
          exact ⟨by rw [E.out]; rfl, rfl⟩
      · have E := Lib.hid (sameB_all HL.out (fun j hj => HA.out j (by rw [HXL.out] at hj; omega)))
        go_wp2
        go_ret
        exact ⟨by rw [E.out]; rfl, rfl⟩
  · have E := Lib.hid (sameB_len (xs := xs) (ys := ys) (by rw [HXL.out, HYL.out]; exact hnm))
    have hb : ((n : Int) != (m : Int)) = true := by simp; omega
    have hb' : ((n : Int) == (m : Int)) = false := by simp; omega
    go_enter Try.func22, Try.ntmps22
    go_wp2
    go_ret
    exact ⟨by rw [E.out]; rfl, rfl⟩

def limB (ls : List Int) : Bool := decide (ls.length ≤ 12) && (List.range ls.length).all fun j => decide (1 ≤ ix ls j ∧ ix ls j ≤ 12)
theorem limB_iff {ls : List Int} : limB ls = true ↔ Lim ls := by
  unfold limB Lim; simp [List.all_eq_true]
theorem limB_len {ls : List Int} (h : ¬ ls.length ≤ 12) : limB ls = false := by unfold limB; simp [h]
theorem limB_at {ls : List Int} {k : Nat} (hk : k < ls.length) (h : ¬ (1 ≤ ix ls k ∧ ix ls k ≤ 12)) : limB ls = false := by
  rw [← Bool.not_eq_true, limB_iff]; intro hl; exact h (hl.2 k hk)
theorem limB_all {ls : List Int} (h : ls.length ≤ 12) (ha : ∀ j < ls.length, 1 ≤ ix ls j ∧ ix ls j ≤ 12) : limB ls = true := limB_iff.2 ⟨h, ha⟩

set_option maxHeartbeats 1000000 in
theorem rightLimits_any {w : World} {B n c : Nat} {A : Option Addr} {ls : List Int} (hx : Rd w B A n ls) (hn : n ≤ 9223372036854775807) :
    Calls Try.prog 55 #[.slice A n c] w fun e w' => e = .returned (.bool (limB ls)) ∧ w = w' := by
  have HX := Lib.hid hx
  have HXL := Lib.hid hx.1
  clear hx
  by_cases h12 : n ≤ 12
  · go_enter Try.func55, Try.ntmps55
    go_wp2
    go_loop [10] (fun i => ∃ k : Nat, k ≤ n ∧ i = .int .i64 k ∧ Hid (∀ j < k, 1 ≤ ix ls j ∧ ix ls j ≤ 12)) (fun i => n - (intOf i).toNat)
    case atStart => exact ⟨0, Nat.zero_le _, rfl, Lib.hid (fun j hj => absurd hj (by omega))⟩
    case round =>
      obtain ⟨k, hk, rfl, HA⟩ := hrel
      by_cases hlt : k < n
      · obtain ⟨b, off, rfl, hb, hc⟩ := HX.out.at_ hlt
        by_cases h1 : ix ls k < 1
        · have E := Lib.hid (limB_at (ls := ls) (k := k) (by rw [HXL.out]; exact hlt) (by omega))
          go_wp2
          go_ret
          exact ⟨by rw [E.out]; rfl, rfl⟩
        · by_cases h2 : 12 < ix ls k
          · have E := Lib.hid (limB_at (ls := ls) (k := k) (by rw [HXL.out]; exact hlt) (by omega))
            go_wp2
            go_ret
            exact ⟨by rw [E.out]; rfl, rfl⟩
          · go_wp2
            go_round
            case rel => exact ⟨k + 1, by omega, by go_num, Lib.hid (fun j hj => by
              by_cases hjk : j < k
              · exact HA.out j hjk
              · obtain rfl : j = k := by omega
                exact ⟨by omega, by omega⟩)⟩
            case measure => simp [intOf]; omega
      · have E := Lib.hid (limB_all (ls := ls) (by rw [HXL.out]; exact h12) (fun j hj => HA.out j (by rw [HXL.out] at hj; omega)))
        go_wp2
        go_ret
        exact ⟨by rw [E.out]; rfl, rfl⟩
  · have E := Lib.hid (limB_len (ls := ls) (by rw [HXL.out]; exact h12))
    go_enter Try.func55, Try.ntmps55
    go_wp2
    go_ret
    exact ⟨by rw [E.out]; rfl, rfl⟩

theorem tup2_int {a b c d : Int} (h : a = b) (h' : c = d) : Ending.returned (.tuple #[.int .i64 a, .int .i64 c]) = .returned (.tuple #[.int .i64 b, .int .i64 d]) := by rw [h, h']

theorem count_no {w : World} {B n c : Nat} {A : Option Addr} {ls : List Int} (hx : Rd w B A n ls) (hn : n ≤ 9223372036854775807) (hl : limB ls = false) :
    Calls Try.prog 50 #[.slice A n c] w fun e w' => e = .returned (.tuple #[.int .i64 0, .int .i64 12]) ∧ w = w' := by
  have HX := Lib.hid hx
  clear hx
  go_enter Try.func50, Try.ntmps50
  go_wp2_with (go_at_call 55; refine (rightLimits_any HX.out hn).mono ?_; rintro e w' ⟨rfl, rfl⟩)
  go_ret2
  exact ⟨rfl, rfl⟩

set_option maxHeartbeats 1000000 in
theorem count_yes {w : World} {B n c : Nat} {A : Option Addr} {ls : List Int} (hx : Rd w B A n ls) (hn : n ≤ 9223372036854775807) (hl : limB ls = true) :
    Calls Try.prog 50 #[.slice A n c] w fun e w' => e = .returned (.tuple #[.int .i64 (cnt ls), .int .i64 0]) ∧ w = w' := by
  have HX := Lib.hid hx
  have HXL := Lib.hid hx.1
  have HLim := Lib.hid (limB_iff.1 hl)
  have h12 : n ≤ 12 := by have := HLim.out.1; rw [HXL.out] at this; exact this
  clear hx
  go_enter Try.func50, Try.ntmps50
  go_wp2_with (go_at_call 55; refine (rightLimits_any HX.out hn).mono ?_; rintro e w' ⟨rfl, rfl⟩)
  go_loop [4, 12] (fun p i => ∃ k : Nat, k ≤ n ∧ i = .int .i64 k ∧ p = .int .i64 (pT ls k)) (fun _ i => n - (intOf i).toNat)
  case atStart => exact ⟨0, Nat.zero_le _, rfl, rfl⟩
  case round =>
    obtain ⟨k, hk, rfl, rfl⟩ := hrel
    by_cases hlt : k < n
    · obtain ⟨b, off, rfl, hb, hc⟩ := HX.out.at_ hlt
      have hp : 1 ≤ pT ls k * ix ls k ∧ pT ls k * ix ls k ≤ 8916100448256 := pT_le HLim.out (k + 1) (by rw [HXL.out]; omega)
      obtain ⟨hp1, hp2⟩ := hp
      go_wp2
      go_round
      case rel => exact ⟨k + 1, by omega, by go_num, rfl⟩
      case measure => simp [intOf]; omega
    · have hkn : k = n := by omega
      have HE : Hid (pT ls k = cnt ls) := Lib.hid (by unfold cnt; rw [HXL.out, hkn])
      clear hkn
      go_wp2
      go_ret2
      exact ⟨tup2_int HE.out rfl, rfl⟩
end Go.Proofs.Ytocmflnieagfcac
