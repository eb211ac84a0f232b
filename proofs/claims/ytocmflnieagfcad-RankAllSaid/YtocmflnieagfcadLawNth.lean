/-
  THE WALK of the statement RankNth: whatever the limits and the index, the call returns true and writes nothing that was there.
-/
import Derived.Test.YtocmflnieagfcadWalks5
namespace Go.Proofs.Ytocmflnieagfcad
open Go.RowKit
open RankP
set_option linter.unusedVariables false

/-- A slice of int that came in, as the row hands it over, reads as its elements. -/
theorem rd_of_row {w : World} {a : Option Addr} {len cap : Nat} {zs : List Int}
    (h : (a = none ∧ len = 0 ∧ cap = 0 ∧ zs = []) ∨ ∃ x, a = some x ∧ len ≤ cap ∧ cap ≤ maxLen ∧ zs.length = cap ∧ (∀ i, i < zs.length → w.cell? (x.add i) = some (.int .i64 (zs.getD i 0))) ∧ ∀ n ∈ zs, (Lit.int .i64 n).wf = true) :
    Rd w w.heap.size a len (zs.take len) ∧ len ≤ 9223372036854775807 := by
  rcases h with ⟨rfl, rfl, rfl, rfl⟩ | ⟨x, rfl, hl, hm, hz, hcell, hwz⟩
  · exact ⟨Rd.nil_, by omega⟩
  · refine ⟨⟨by rw [List.length_take]; omega, fun hn => ?_⟩, by unfold maxLen at hm; omega⟩
    obtain ⟨b, off, spot⟩ := x
    have h0 := hcell 0 (by omega)
    have hspot : spot = none := by simpa [Addr.add] using World.cell?_spot h0
    subst hspot
    have hb : b < w.heap.size := by
      have h1 : w.cell? ⟨b, off, none⟩ = some (.int .i64 (zs.getD 0 0)) := by simpa [Addr.add] using h0
      rcases Nat.lt_or_ge b w.heap.size with hlt | hge
      · exact hlt
      · simp [World.cell?, Array.getElem?_eq_none hge] at h1
    refine ⟨b, off, rfl, hb, fun j hj => ?_⟩
    have h1 := hcell j (by omega)
    have e1 : (Addr.add ⟨b, off, none⟩ j) = ⟨b, off + j, none⟩ := by
      unfold Addr.add
      by_cases h0 : j = 0 <;> simp [h0]
    rw [e1] at h1
    rw [h1]
    have : zs.getD j 0 = ix (zs.take len) j := by
      unfold ix
      simp [List.getD, hj]
    rw [this]

set_option maxHeartbeats 1600000 in
theorem law_nth {w : World} {n c : Nat} {A : Option Addr} {ls : List Int} (hx : Rd w w.heap.size A n ls) (hn : n ≤ 9223372036854775807) (x : Int) :
    Calls Try.prog 3 #[.slice A n c, .int .i64 x] w fun e w' => e = .returned (.bool true) ∧ Below w.heap.size w w' := by
  have HX := Lib.hid hx
  have HXL := Lib.hid hx.1
  clear hx
  by_cases hl : limB ls = true
  · have HLim := Lib.hid (limB_iff.1 hl)
    have h12 : n ≤ 12 := by have := HLim.out.1; rw [HXL.out] at this; exact this
    by_cases hr : 0 ≤ x ∧ x < cnt ls
    · obtain ⟨hr0, hr1⟩ := hr
      go_enter Try.func3, Try.ntmps3
      go_wp2_with (first
      | (go_at_call 8; refine (anchor_any _).mono ?_; rintro e w1 ⟨rfl, hbel⟩; (have HB := Lib.hid hbel); (have hs1 : w.heap.size ≤ w1.heap.size := hbel.size); clear hbel)
      | (go_at_call 9; refine (count_yes (HX.out.below HB.out) hn hl).mono ?_; rintro e w2 ⟨rfl, rfl⟩)
      | (go_at_call 10; refine (nth_yes (HX.out.below HB.out) hn hl hr0 hr1 hs1).mono ?_; rintro e w3 ⟨v, rfl, hown, hbel3⟩; obtain ⟨D, d, rfl, hrd⟩ := hown.shape; (have HB3 := Lib.hid hbel3); (have HO := Lib.hid hown); clear hbel3 hown hrd)
      | (go_at_call 11; refine (limited_any ((HX.out.below HB.out).below (HB3.out.mono hs1)) hn).mono ?_; rintro e w2 ⟨rfl, rfl⟩))
      have HW3 : Hid (Rd w3 w.heap.size A n ls) := Lib.hid ((HX.out.below HB.out).below (HB3.out.mono hs1))
      have HD : Hid (Rd w3 w3.heap.size D n (nthL ls x)) := Lib.hid (HO.out.rd (Below.refl _ _))
      have HC := Lib.hid (nth_cho HLim.out x)
      have HBF : Hid (Below w.heap.size w w3) := Lib.hid (HB.out.trans (HB3.out.mono hs1))
      have hs3 : w.heap.size ≤ w3.heap.size := HBF.out.size
      have HI := Lib.hid (idx_nth HLim.out x hr0 hr1)
      have hcb : choB ls (nthL ls x) = true := choB_iff.2 ⟨HLim.out, HC.out⟩
      go_loop [9, 49] (fun p i => ∃ k : Nat, k ≤ n ∧ i = .int .i64 k ∧ p = .int .i64 (pT ls k)) (fun _ i => n - (intOf i).toNat)
      case atStart => exact ⟨0, Nat.zero_le _, rfl, rfl⟩
      case round =>
        obtain ⟨k, hk, rfl, rfl⟩ := hrel
        by_cases hlt : k < n
        · obtain ⟨b, off, rfl, hb, hc⟩ := HW3.out.at_ hlt
          have hp : 1 ≤ pT ls k * ix ls k ∧ pT ls k * ix ls k ≤ 8916100448256 := pT_le HLim.out (k + 1) (by rw [HXL.out]; omega)
          obtain ⟨hp1, hp2⟩ := hp
          go_wp2
          go_round
          case rel => exact ⟨k + 1, by omega, by go_num, rfl⟩
          case measure => simp [intOf]; omega
        · have hkn : k = n := by omega
          have HE : Hid (pT ls k = cnt ls) := Lib.hid (by unfold cnt; rw [HXL.out, hkn])
          clear hkn
          rw [HE.out]
          have hb1 : ((n : Int) != (n : Int)) = false := by simp
          go_wp2
          go_loop [89] (fun i => ∃ k : Nat, k ≤ n ∧ i = .int .i64 k) (fun i => n - (intOf i).toNat)
          case atStart => exact ⟨0, Nat.zero_le _, rfl⟩
          case round =>
            obtain ⟨k, hk, rfl⟩ := hrel
            by_cases hlt : k < n
            · obtain ⟨b, off, rfl, hb, hc⟩ := HW3.out.at_ hlt
              obtain ⟨b2, off2, rfl, hb2, hc2⟩ := HD.out.at_ hlt
              obtain ⟨hv1, hv2⟩ := HC.out.2 k (by rw [HXL.out]; exact hlt)
              go_wp2
              go_round
              case rel => exact ⟨k + 1, by omega, by go_num⟩
              case measure => simp [intOf]; omega
            · go_wp2_with (go_at_call 12; refine (index_yes (HW3.out.more hs3) HD.out hn hn hcb).mono ?_; rintro e w4 ⟨rfl, rfl⟩; rw [HI.out])
              go_ret
              exact ⟨rfl, HBF.out⟩
    · have hr' : x < 0 ∨ cnt ls ≤ x := by omega
      have HR := Lib.hid hr'
      clear hr hr'
      go_enter Try.func3, Try.ntmps3
      go_wp2_with (first
        | (go_at_call 8; refine (anchor_any _).mono ?_; rintro e w1 ⟨rfl, hbel⟩; (have HB := Lib.hid hbel); (have hs1 : w.heap.size ≤ w1.heap.size := hbel.size); clear hbel)
        | (go_at_call 9; refine (count_yes (HX.out.below HB.out) hn hl).mono ?_; rintro e w2 ⟨rfl, rfl⟩)
        | (go_at_call 10; refine (nth_big (HX.out.below HB.out) hn hl HR.out).mono ?_; rintro e w3 ⟨rfl, rfl⟩)
        | (go_at_call 11; refine (limited_any (HX.out.below HB.out) hn).mono ?_; rintro e w2 ⟨rfl, rfl⟩))
      have HW1 : Hid (Rd w1 w.heap.size A n ls) := Lib.hid (HX.out.below HB.out)
      go_loop [9, 49] (fun p i => ∃ k : Nat, k ≤ n ∧ i = .int .i64 k ∧ p = .int .i64 (pT ls k)) (fun _ i => n - (intOf i).toNat)
      case atStart => exact ⟨0, Nat.zero_le _, rfl, rfl⟩
      case round =>
        obtain ⟨k, hk, rfl, rfl⟩ := hrel
        by_cases hlt : k < n
        · obtain ⟨b, off, rfl, hb, hc⟩ := HW1.out.at_ hlt
          have hp : 1 ≤ pT ls k * ix ls k ∧ pT ls k * ix ls k ≤ 8916100448256 := pT_le HLim.out (k + 1) (by rw [HXL.out]; omega)
          obtain ⟨hp1, hp2⟩ := hp
          go_wp2
          go_round
          case rel => exact ⟨k + 1, by omega, by go_num, rfl⟩
          case measure => simp [intOf]; omega
        · have hkn : k = n := by omega
          have HE : Hid (pT ls k = cnt ls) := Lib.hid (by unfold cnt; rw [HXL.out, hkn])
          clear hkn
          rw [HE.out]
          by_cases h0 : x < 0
          · go_wp2
            go_ret
            exact ⟨rfl, HB.out⟩
          · have h1 : cnt ls ≤ x := by have := HR.out; omega
            go_wp2
            go_ret
            exact ⟨rfl, HB.out⟩
  · rw [Bool.not_eq_true] at hl
    go_enter Try.func3, Try.ntmps3
    go_wp2_with (first
      | (go_at_call 8; refine (anchor_any _).mono ?_; rintro e w1 ⟨rfl, hbel⟩; (have HB := Lib.hid hbel); clear hbel)
      | (go_at_call 9; refine (count_no (HX.out.below HB.out) hn hl).mono ?_; rintro e w2 ⟨rfl, rfl⟩)
      | (go_at_call 10; refine (nth_bad (HX.out.below HB.out) hn hl).mono ?_; rintro e w2 ⟨rfl, rfl⟩)
      | (go_at_call 11; refine (limited_any (HX.out.below HB.out) hn).mono ?_; rintro e w2 ⟨rfl, rfl⟩))
    go_ret
    exact ⟨rfl, HB.out⟩
end Go.Proofs.Ytocmflnieagfcad
