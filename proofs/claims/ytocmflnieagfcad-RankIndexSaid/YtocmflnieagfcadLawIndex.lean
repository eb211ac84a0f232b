/-
  THE WALK of the statement RankIndex: whatever the limits and the choice, the call returns true and writes nothing that was there.
-/
import Derived.Test.YtocmflnieagfcadWalks6
import Derived.Test.YtocmflnieagfcadLawNth
namespace Go.Proofs.Ytocmflnieagfcad
open Go.RowKit
open RankP
set_option linter.unusedVariables false

theorem choB_all {ls cs : List Int} (hl : limB ls = true) (hm : cs.length = ls.length) (h : ∀ j < ls.length, 0 ≤ ix cs j ∧ ix cs j < ix ls j) : choB ls cs = true := choB_iff.2 ⟨limB_iff.1 hl, hm, h⟩

set_option maxHeartbeats 3200000 in
theorem law_index {w : World} {n m c d : Nat} {A D : Option Addr} {ls cs : List Int} (hx : Rd w w.heap.size A n ls) (hy : Rd w w.heap.size D m cs) (hn : n ≤ 9223372036854775807) (hm : m ≤ 9223372036854775807) :
    Calls Try.prog 4 #[.slice A n c, .slice D m d] w fun e w' => e = .returned (.bool true) ∧ Below w.heap.size w w' := by
  have HX := Lib.hid hx
  have HY := Lib.hid hy
  have HXL := Lib.hid hx.1
  have HYL := Lib.hid hy.1
  clear hx hy
  by_cases hn50 : 50 < n
  · go_enter Try.func4, Try.ntmps4
    go_wp2_with (go_at_call 8; refine (anchor_any _).mono ?_; rintro e w1 ⟨rfl, hbel⟩; (have HB := Lib.hid hbel); clear hbel)
    go_ret
    exact ⟨rfl, HB.out⟩
  · by_cases hm50 : 50 < m
    · go_enter Try.func4, Try.ntmps4
      go_wp2_with (go_at_call 8; refine (anchor_any _).mono ?_; rintro e w1 ⟨rfl, hbel⟩; (have HB := Lib.hid hbel); clear hbel)
      go_ret
      exact ⟨rfl, HB.out⟩
    · by_cases hc : choB ls cs = true
      · have HC := Lib.hid (choB_iff.1 hc)
        obtain rfl : m = n := by have := HC.out.2.1; rw [HXL.out, HYL.out] at this; exact this
        have hlim : limB ls = true := limB_iff.2 HC.out.1
        have hb1 : ((m : Int) == (m : Int)) = true := by simp
        obtain ⟨hi1, hi2⟩ := idx_bd HC.out.1 HC.out.2
        have HI2 := Lib.hid hi2
        clear hi2
        have HN := Lib.hid (nth_idx HC.out.1 HC.out.2)
        go_enter Try.func4, Try.ntmps4
        go_wp2_with (first
          | (go_at_call 8; refine (anchor_any _).mono ?_; rintro e w1 ⟨rfl, hbel⟩; (have HB := Lib.hid hbel); (have hs1 : w.heap.size ≤ w1.heap.size := hbel.size); clear hbel)
          | (go_at_call 12; refine (index_yes (HX.out.below HB.out) (HY.out.below HB.out) hn hn hc).mono ?_; rintro e w2 ⟨rfl, rfl⟩)
          | (go_at_call 11; refine (limited_any (HX.out.below HB.out) hn).mono ?_; rintro e w2 ⟨rfl, rfl⟩))
        have HX1 : Hid (Rd w1 w.heap.size A m ls) := Lib.hid (HX.out.below HB.out)
        have HY1 : Hid (Rd w1 w.heap.size D m cs) := Lib.hid (HY.out.below HB.out)
        go_loop [7, 8, 42] (fun r p i => ∃ k : Nat, k ≤ m ∧ r = .bool true ∧ i = .int .i64 k ∧ p = .int .i64 (acc ls cs k)) (fun _ _ i => m - (intOf i).toNat)
        case atStart => exact ⟨0, Nat.zero_le _, rfl, rfl, rfl⟩
        case round =>
          obtain ⟨k, hk, rfl, rfl, rfl⟩ := hrel
          by_cases hlt : k < m
          · obtain ⟨b, off, rfl, hb, hc⟩ := HX1.out.at_ hlt
            obtain ⟨b2, off2, rfl, hb2, hc2⟩ := HY1.out.at_ hlt
            obtain ⟨hp1, hp2⟩ : 0 ≤ acc ls cs k * ix ls k + ix cs k ∧ acc ls cs k * ix ls k + ix cs k < 8916100448256 := by
              have h1 := acc_bd HC.out.1 HC.out.2 (k + 1) (by rw [HXL.out]; omega)
              have h2 := (pT_le HC.out.1 (k + 1) (by rw [HXL.out]; omega)).2
              exact ⟨h1.1, Int.lt_of_lt_of_le h1.2 h2⟩
            obtain ⟨hq1, hq2, hq3⟩ : 0 ≤ ix cs k ∧ ix cs k ≤ 12 ∧ ix cs k < ix ls k := by
              have h1 := HC.out.2.2 k (by rw [HXL.out]; omega)
              have h2 := HC.out.1.2 k (by rw [HXL.out]; omega)
              omega
            go_wp2
            go_round
            case rel => exact ⟨k + 1, by omega, rfl, by go_num, rfl⟩
            case measure => simp [intOf]; omega
          · have hkn : k = m := by omega
            have HE : Hid (acc ls cs k = idx ls cs) := Lib.hid (by unfold idx; rw [HXL.out, hkn])
            clear hkn
            rw [HE.out]
            go_wp2_with (first
              | (go_at_call 10; refine (nth_yes HX1.out hn hlim hi1 HI2.out hs1).mono ?_; rintro e w3 ⟨v, rfl, hown, hbel3⟩; obtain ⟨G, g, rfl, hrd⟩ := hown.shape; (have HR3 := Lib.hid hrd); (have HB3 := Lib.hid hbel3); (have HY3 : Hid (Rd w3 w.heap.size D m cs) := Lib.hid (HY1.out.below (hbel3.mono hs1))); (have hs3 : w.heap.size ≤ w3.heap.size := Nat.le_trans hs1 hbel3.size); clear hbel3 hown hrd)
              | (go_at_call 14; refine (same_any HR3.out (HY3.out.more hs3) hn hn).mono ?_; rintro e w4 ⟨rfl, rfl⟩; rw [HN.out, sameB_refl]))
            go_ret
            exact ⟨rfl, HB.out.trans (HB3.out.mono hs1)⟩
      · rw [Bool.not_eq_true] at hc
        by_cases hr : limB ls = true ∧ n = m
        · obtain ⟨hlim, rfl⟩ := hr
          have hb1 : ((n : Int) == (n : Int)) = true := by simp
          have HCN := Lib.hid hc
          go_enter Try.func4, Try.ntmps4
          go_wp2_with (first
            | (go_at_call 8; refine (anchor_any _).mono ?_; rintro e w1 ⟨rfl, hbel⟩; (have HB := Lib.hid hbel); (have hs1 : w.heap.size ≤ w1.heap.size := hbel.size); clear hbel)
            | (go_at_call 12; refine (index_no (HX.out.below HB.out) (HY.out.below HB.out) hn hn hc).mono ?_; rintro e w2 ⟨rfl, rfl⟩)
            | (go_at_call 11; refine (limited_any (HX.out.below HB.out) hn).mono ?_; rintro e w2 ⟨rfl, rfl⟩))
          have HX1 : Hid (Rd w1 w.heap.size A n ls) := Lib.hid (HX.out.below HB.out)
          have HY1 : Hid (Rd w1 w.heap.size D n cs) := Lib.hid (HY.out.below HB.out)
          go_loop [7, 8, 42] (fun r p i => ∃ (k : Nat) (y : Int), k ≤ n ∧ r = .bool true ∧ i = .int .i64 k ∧ p = .int .i64 y ∧ Hid (∀ j < k, 0 ≤ ix cs j ∧ ix cs j < ix ls j)) (fun _ _ i => n - (intOf i).toNat)
          case atStart => exact ⟨0, 0, Nat.zero_le _, rfl, rfl, rfl, Lib.hid (fun j hj => absurd hj (by omega))⟩
          case round =>
            obtain ⟨k, y, hk, rfl, rfl, rfl, HA⟩ := hrel
            by_cases hlt : k < n
            · obtain ⟨b, off, rfl, hb, hc1⟩ := HX1.out.at_ hlt
              obtain ⟨b2, off2, rfl, hb2, hc2⟩ := HY1.out.at_ hlt
              by_cases h1 : ix cs k < 0
              · go_wp2_with (go_at_call 13; refine (next_no HX1.out HY1.out hn hn HCN.out).mono ?_; rintro e w3 ⟨rfl, rfl⟩)
                go_ret
                exact ⟨rfl, HB.out⟩
              · by_cases h2 : ix ls k ≤ ix cs k
                · go_wp2_with (go_at_call 13; refine (next_no HX1.out HY1.out hn hn HCN.out).mono ?_; rintro e w3 ⟨rfl, rfl⟩)
                  go_ret
                  exact ⟨rfl, HB.out⟩
                · go_wp2
                  go_round
                  case rel => exact ⟨k + 1, _, by omega, rfl, by go_num, rfl, Lib.hid (fun j hj => by
                    by_cases hjk : j < k
                    · exact HA.out j hjk
                    · obtain rfl : j = k := by omega
                      exact ⟨by omega, by omega⟩)⟩
                  case measure => simp [intOf]; omega
            · exfalso
              have := choB_all hlim (by rw [HXL.out, HYL.out]) (fun j hj => HA.out j (by rw [HXL.out] at hj; omega))
              rw [HCN.out] at this
              cases this
        · have hrr : limB ls = false ∨ n ≠ m := by
            by_cases h : limB ls = true
            · exact .inr fun e => hr ⟨h, e⟩
            · exact .inl (by rw [Bool.not_eq_true] at h; exact h)
          clear hr
          have HCN := Lib.hid hc
          by_cases hlim : limB ls = true
          · have hnm : n ≠ m := by
              rcases hrr with h | h
              · rw [hlim] at h; cases h
              · exact h
            have hb1 : ((n : Int) == (m : Int)) = false := by simp; omega
            clear hrr
            go_enter Try.func4, Try.ntmps4
            go_wp2_with (first
              | (go_at_call 8; refine (anchor_any _).mono ?_; rintro e w1 ⟨rfl, hbel⟩; (have HB := Lib.hid hbel); (have hs1 : w.heap.size ≤ w1.heap.size := hbel.size); clear hbel)
              | (go_at_call 12; refine (index_no (HX.out.below HB.out) (HY.out.below HB.out) hn hm HCN.out).mono ?_; rintro e w2 ⟨rfl, rfl⟩)
              | (go_at_call 11; refine (limited_any (HX.out.below HB.out) hn).mono ?_; rintro e w2 ⟨rfl, rfl⟩))
            have HX1 : Hid (Rd w1 w.heap.size A n ls) := Lib.hid (HX.out.below HB.out)
            have HY1 : Hid (Rd w1 w.heap.size D m cs) := Lib.hid (HY.out.below HB.out)
            go_loop [7, 8, 42] (fun r p i => r = .bool false ∧ p = .int .i64 0 ∧ i = .int .i64 0) (fun _ _ _ => 0)
            case atStart => exact ⟨rfl, rfl, rfl⟩
            case round =>
              obtain ⟨rfl, rfl, rfl⟩ := hrel
              by_cases hlt : 0 < m
              · obtain ⟨b2, off2, rfl, hb2, hc2⟩ := HY1.out.at_ hlt
                rw [Nat.add_zero] at hc2
                go_wp2_with (go_at_call 13; refine (next_no HX1.out HY1.out hn hm HCN.out).mono ?_; rintro e w3 ⟨rfl, rfl⟩)
                go_ret
                exact ⟨rfl, HB.out⟩
              · go_wp2_with (go_at_call 13; refine (next_no HX1.out HY1.out hn hm HCN.out).mono ?_; rintro e w3 ⟨rfl, rfl⟩)
                go_ret
                exact ⟨rfl, HB.out⟩
          · rw [Bool.not_eq_true] at hlim
            clear hrr
            go_enter Try.func4, Try.ntmps4
            go_wp2_with (first
              | (go_at_call 8; refine (anchor_any _).mono ?_; rintro e w1 ⟨rfl, hbel⟩; (have HB := Lib.hid hbel); (have hs1 : w.heap.size ≤ w1.heap.size := hbel.size); clear hbel)
              | (go_at_call 12; refine (index_no (HX.out.below HB.out) (HY.out.below HB.out) hn hm HCN.out).mono ?_; rintro e w2 ⟨rfl, rfl⟩)
              | (go_at_call 11; refine (limited_any (HX.out.below HB.out) hn).mono ?_; rintro e w2 ⟨rfl, rfl⟩))
            have HX1 : Hid (Rd w1 w.heap.size A n ls) := Lib.hid (HX.out.below HB.out)
            have HY1 : Hid (Rd w1 w.heap.size D m cs) := Lib.hid (HY.out.below HB.out)
            go_loop [7, 8, 42] (fun r p i => r = .bool false ∧ p = .int .i64 0 ∧ i = .int .i64 0) (fun _ _ _ => 0)
            case atStart => exact ⟨rfl, rfl, rfl⟩
            case round =>
              obtain ⟨rfl, rfl, rfl⟩ := hrel
              by_cases hlt : 0 < m
              · obtain ⟨b2, off2, rfl, hb2, hc2⟩ := HY1.out.at_ hlt
                rw [Nat.add_zero] at hc2
                go_wp2_with (go_at_call 13; refine (next_no HX1.out HY1.out hn hm HCN.out).mono ?_; rintro e w3 ⟨rfl, rfl⟩)
                go_ret
                exact ⟨rfl, HB.out⟩
              · go_wp2_with (go_at_call 13; refine (next_no HX1.out HY1.out hn hm HCN.out).mono ?_; rintro e w3 ⟨rfl, rfl⟩)
                go_ret
                exact ⟨rfl, HB.out⟩
end Go.Proofs.Ytocmflnieagfcad
