/-
  THE WALK of the statement RankOrders: whatever the mode, the count and the current one, the call returns true and writes nothing that was there.
-/
import Derived.Test.YtocmflnieagfcacWalks5
namespace Go.Proofs.Ytocmflnieagfcac
open Go.RowKit
open RankP
set_option linter.unusedVariables false

theorem order_mode (w : World) (x y z : Int) (h : x < 0 ∨ 3 < x) :
    Calls Try.prog 19 #[.int .i64 x, .int .i64 y, .int .i64 z] w fun e w' => e = .returned (.tuple #[.slice none 0 0, .int .i64 12]) ∧ w = w' := by
  rcases h with h | h
  all_goals
    go_enter Try.func19, Try.ntmps19
    go_wp2
    go_ret2
    exact ⟨rfl, rfl⟩
theorem order_count (w : World) (x y z : Int) (h0 : 0 ≤ x) (h3 : x ≤ 3) (h : y < 1 ∨ 12 < y) :
    Calls Try.prog 19 #[.int .i64 x, .int .i64 y, .int .i64 z] w fun e w' => e = .returned (.tuple #[.slice none 0 0, .int .i64 36]) ∧ w = w' := by
  rcases h with h | h
  all_goals
    go_enter Try.func19, Try.ntmps19
    go_wp2
    go_ret2
    exact ⟨rfl, rfl⟩
theorem order_current (w : World) (x y z : Int) (h0 : 0 ≤ x) (h3 : x ≤ 3) (h1 : 1 ≤ y) (h12 : y ≤ 12) (h : z < 0 ∨ y ≤ z) :
    Calls Try.prog 19 #[.int .i64 x, .int .i64 y, .int .i64 z] w fun e w' => e = .returned (.tuple #[.slice none 0 0, .int .i64 34]) ∧ w = w' := by
  rcases h with h | h
  all_goals
    go_enter Try.func19, Try.ntmps19
    go_wp2
    go_ret2
    exact ⟨rfl, rfl⟩

set_option maxHeartbeats 1600000 in
theorem better_yes (w : World) (m : Nat) (c v u : Int) (hm : m < 4) (hc : 0 ≤ c ∧ c ≤ 12) (hv : 0 ≤ v ∧ v ≤ 12) (hu : 0 ≤ u ∧ u ≤ 12) (h : betterB m c v u = true) :
    Calls Try.prog 20 #[.int .i64 (m : Int), .int .i64 c, .int .i64 v, .int .i64 u] w fun e w' => e = .returned (.bool true) ∧ w = w' := by
  obtain ⟨hc1, hc2⟩ := hc
  obtain ⟨hv1, hv2⟩ := hv
  obtain ⟨hu1, hu2⟩ := hu
  have hm' : m = 0 ∨ m = 1 ∨ m = 2 ∨ m = 3 := by omega
  rcases hm' with rfl | rfl | rfl | rfl
  · have h1 : u < v := by simpa [betterB] using h
    clear h
    go_enter Try.func20, Try.ntmps20
    go_wp2
    all_goals
      go_ret
      exact ⟨rfl, rfl⟩
  · have h1 : v < u := by simpa [betterB] using h
    clear h
    go_enter Try.func20, Try.ntmps20
    go_wp2
    all_goals
      go_ret
      exact ⟨rfl, rfl⟩
  · have h1 : v = c ∨ (u ≠ c ∧ u < v) := by simpa [betterB] using h
    clear h
    by_cases h2 : v = c
    · have hb : (v == c) = true := by simp [h2]
      clear h1 h2
      go_enter Try.func20, Try.ntmps20
      go_wp2
      all_goals
        go_ret
        exact ⟨rfl, rfl⟩
    · have h3 : u ≠ c ∧ u < v := by rcases h1 with h1 | h1; exact absurd h1 h2; exact h1
      obtain ⟨h4, h5⟩ := h3
      have hb : (v == c) = false := by simp [h2]
      have hb2 : (u != c) = true := by simp [h4]
      have hb3 : (u == c) = false := by simp [h4]
      clear h1 h2 h4
      go_enter Try.func20, Try.ntmps20
      go_wp2
      all_goals
        go_ret
        exact ⟨rfl, rfl⟩
  · have h1 : max (v - c) (c - v) < max (u - c) (c - u) ∨ (max (v - c) (c - v) = max (u - c) (c - u) ∧ u < v) := by simpa [betterB] using h
    clear h
    by_cases hcv : c ≤ v
    · have e1 : max (v - c) (c - v) = v - c := by omega
      rw [e1] at h1
      clear e1
      by_cases hcu : c ≤ u
      · have e2 : max (u - c) (c - u) = u - c := by omega
        rw [e2] at h1
        clear e2
        by_cases hlt : v - c < u - c
        · clear h1
          go_enter Try.func20, Try.ntmps20
          go_wp2
          all_goals
            go_ret
            exact ⟨rfl, rfl⟩
        · have h2 : v - c = u - c ∧ u < v := by omega
          omega
      · have e2 : max (u - c) (c - u) = c - u := by omega
        rw [e2] at h1
        clear e2
        by_cases hlt : v - c < c - u
        · clear h1
          go_enter Try.func20, Try.ntmps20
          go_wp2
          all_goals
            go_ret
            exact ⟨rfl, rfl⟩
        · have h2 : u < v := by omega
          have hb : (v - c == c - u) = true := by simp; omega
          clear h1
          go_enter Try.func20, Try.ntmps20
          go_wp2
          all_goals
            go_ret
            exact ⟨rfl, rfl⟩
    · have e1 : max (v - c) (c - v) = c - v := by omega
      rw [e1] at h1
      clear e1
      by_cases hcu : c ≤ u
      · have e2 : max (u - c) (c - u) = u - c := by omega
        rw [e2] at h1
        clear e2
        have hlt : c - v < u - c := by omega
        clear h1
        go_enter Try.func20, Try.ntmps20
        go_wp2
        all_goals
          go_ret
          exact ⟨rfl, rfl⟩
      · have e2 : max (u - c) (c - u) = c - u := by omega
        rw [e2] at h1
        clear e2
        have hlt : c - v < c - u := by omega
        clear h1
        go_enter Try.func20, Try.ntmps20
        go_wp2
        all_goals
          go_ret
          exact ⟨rfl, rfl⟩

theorem Own.room {w : World} {base n c g : Nat} {xs : List Int} (h : Own w base (.slice (some ⟨g, 0, none⟩) n c) n xs) : n ≤ c := by
  rcases h.2 with ⟨e, _⟩ | ⟨g', cap, cur, e, _, _, hnc, _⟩
  · cases e
  · cases e; exact hnc

set_option maxRecDepth 100000 in
set_option maxHeartbeats 3200000 in
theorem law_orders_in {w : World} (m n c : Nat) (hm : m < 4) (h0 : 0 < n) (hn : n ≤ 12) (hc : c < n) :
    Calls Try.prog 6 #[.int .i64 (m : Int), .int .i64 (n : Int), .int .i64 (c : Int)] w fun e w' => e = .returned (.bool true) ∧ Below w.heap.size w w' := by
  go_enter Try.func6, Try.ntmps6
  go_wp2_with (first
    | (go_at_call 18; refine (anchor_any _).mono ?_; rintro e w1 ⟨rfl, hbel⟩; (have HB := Lib.hid hbel); (have hs1 : w.heap.size ≤ w1.heap.size := hbel.size); clear hbel)
    | (go_at_call 19; refine (order_yes w1 m n c hm h0 hn hc).mono ?_; rintro e w2 ⟨v, rfl, hown, hbel2⟩; obtain ⟨g, cap, rfl, hbg, hlg⟩ := hown.form h0; (have HO := Lib.hid hown); (have HB2 : Hid (Below w.heap.size w w2) := Lib.hid (HB.out.trans (hbel2.mono hs1))); (have hroom : n ≤ cap := hown.room); clear hown hbel2 hbg hlg))
  go_loop [75] (fun i => ∃ k : Nat, k ≤ n ∧ i = .int .i64 (k : Int)) (fun i => n - (intOf i).toNat)
  case atStart => exact ⟨0, by omega, rfl⟩
  case round =>
    obtain ⟨k, hk, rfl⟩ := hrel
    by_cases hlt : k < n
    · have hcell := HO.out.cell hlt
      obtain ⟨hv1, hv2⟩ := order_bound hm hn hc hlt
      have hv12 : ix (orderL m n c) k ≤ 12 := by omega
      by_cases hkc : cap = k + 1
      · have hkn : k + 1 = n := by omega
        have HKC := Lib.hid hkc
        have hkn1 : ((n : Int) - ((k : Int) + 1)) ≤ 0 := by omega
        go_wp2
        go_loop [92] (fun i => i = .int .i64 0) (fun _ => 0)
        case atStart => rfl
        case round =>
          obtain rfl := hrel
          go_wp2
          go_round
          case rel => exact ⟨_, _, _, _, .int .i64 ((k + 1 : Nat) : Int), ⟨k + 1, by omega, rfl⟩, rfl, rfl, rfl, rfl, by go_num⟩
          case measure => simp [intOf]; omega
      · go_wp2_with fail
        go_loop [92] (fun i => ∃ j : Nat, k + 1 + j ≤ n ∧ i = .int .i64 (j : Int)) (fun i => n - (intOf i).toNat)
        case atStart => exact ⟨0, by omega, rfl⟩
        case round =>
          obtain ⟨j, hj, rfl⟩ := hrel
          by_cases hlt2 : k + 1 + j < n
          · have hcell2 := HO.out.cell hlt2
            obtain ⟨hu1, hu2⟩ := order_bound hm hn hc hlt2
            have hu12 : ix (orderL m n c) (k + 1 + j) ≤ 12 := by omega
            obtain ⟨hne, hbt⟩ := order_better hm hn hc hlt2 (show k < k + 1 + j by omega)
            have hb1 : (ix (orderL m n c) k == ix (orderL m n c) (k + 1 + j)) = false := by simp [hne]
            have HBT := Lib.hid hbt
            clear hne hbt
            have hlt3 : j < n - (k + 1) := by omega
            go_wp2_with (go_at_call 20; refine (better_yes _ m c _ _ hm ⟨by omega, by omega⟩ ⟨hv1, hv12⟩ ⟨hu1, hu12⟩ HBT.out).mono ?_; rintro e w5 ⟨rfl, rfl⟩)
            go_round
            case rel => exact ⟨j + 1, by omega, by go_num⟩
            case measure => simp [intOf]; omega
          · have hlt3 : ¬ j < n - (k + 1) := by omega
            go_wp2
            go_round
            case rel => exact ⟨_, _, _, _, .int .i64 ((k + 1 : Nat) : Int), ⟨k + 1, by omega, rfl⟩, rfl, rfl, rfl, rfl, by go_num⟩
            case measure => simp [intOf]; omega
    · go_wp2
      go_ret
      exact ⟨rfl, HB2.out⟩

set_option maxRecDepth 100000 in
set_option maxHeartbeats 3200000 in
theorem law_orders {w : World} (x y z : Int) :
    Calls Try.prog 6 #[.int .i64 x, .int .i64 y, .int .i64 z] w fun e w' => e = .returned (.bool true) ∧ Below w.heap.size w w' := by
  by_cases hx0 : x < 0
  · go_enter Try.func6, Try.ntmps6
    go_wp2_with (first
      | (go_at_call 18; refine (anchor_any _).mono ?_; rintro e w1 ⟨rfl, hbel⟩; (have HB := Lib.hid hbel); clear hbel)
      | (go_at_call 19; refine (order_mode w1 x y z (.inl hx0)).mono ?_; rintro e w2 ⟨rfl, rfl⟩))
    go_ret
    exact ⟨rfl, HB.out⟩
  · by_cases hx3 : 3 < x
    · go_enter Try.func6, Try.ntmps6
      go_wp2_with (first
        | (go_at_call 18; refine (anchor_any _).mono ?_; rintro e w1 ⟨rfl, hbel⟩; (have HB := Lib.hid hbel); clear hbel)
        | (go_at_call 19; refine (order_mode w1 x y z (.inr hx3)).mono ?_; rintro e w2 ⟨rfl, rfl⟩))
      go_ret
      exact ⟨rfl, HB.out⟩
    · have hx0' : 0 ≤ x := by omega
      have hx3' : x ≤ 3 := by omega
      by_cases hy1 : y < 1
      · go_enter Try.func6, Try.ntmps6
        go_wp2_with (first
          | (go_at_call 18; refine (anchor_any _).mono ?_; rintro e w1 ⟨rfl, hbel⟩; (have HB := Lib.hid hbel); clear hbel)
          | (go_at_call 19; refine (order_count w1 x y z hx0' hx3' (.inl hy1)).mono ?_; rintro e w2 ⟨rfl, rfl⟩))
        go_ret
        exact ⟨rfl, HB.out⟩
      · by_cases hy12 : 12 < y
        · go_enter Try.func6, Try.ntmps6
          go_wp2_with (first
            | (go_at_call 18; refine (anchor_any _).mono ?_; rintro e w1 ⟨rfl, hbel⟩; (have HB := Lib.hid hbel); clear hbel)
            | (go_at_call 19; refine (order_count w1 x y z hx0' hx3' (.inr hy12)).mono ?_; rintro e w2 ⟨rfl, rfl⟩))
          go_ret
          exact ⟨rfl, HB.out⟩
        · have hy1' : 1 ≤ y := by omega
          have hy12' : y ≤ 12 := by omega
          by_cases hz0 : z < 0
          · go_enter Try.func6, Try.ntmps6
            go_wp2_with (first
              | (go_at_call 18; refine (anchor_any _).mono ?_; rintro e w1 ⟨rfl, hbel⟩; (have HB := Lib.hid hbel); clear hbel)
              | (go_at_call 19; refine (order_current w1 x y z hx0' hx3' hy1' hy12' (.inl hz0)).mono ?_; rintro e w2 ⟨rfl, rfl⟩))
            go_ret
            exact ⟨rfl, HB.out⟩
          · by_cases hzy : y ≤ z
            · go_enter Try.func6, Try.ntmps6
              go_wp2_with (first
                | (go_at_call 18; refine (anchor_any _).mono ?_; rintro e w1 ⟨rfl, hbel⟩; (have HB := Lib.hid hbel); clear hbel)
                | (go_at_call 19; refine (order_current w1 x y z hx0' hx3' hy1' hy12' (.inr hzy)).mono ?_; rintro e w2 ⟨rfl, rfl⟩))
              go_ret
              exact ⟨rfl, HB.out⟩
            · obtain ⟨m, rfl⟩ := Int.eq_ofNat_of_zero_le hx0'
              obtain ⟨n, rfl⟩ := Int.eq_ofNat_of_zero_le (show 0 ≤ y by omega)
              obtain ⟨c, rfl⟩ := Int.eq_ofNat_of_zero_le (show 0 ≤ z by omega)
              exact law_orders_in m n c (by omega) (by omega) (by omega) (by omega)
end Go.Proofs.Ytocmflnieagfcac
