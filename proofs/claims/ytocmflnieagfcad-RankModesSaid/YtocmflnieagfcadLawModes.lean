/-
  THE WALK of the statement RankModes: whatever the count and the current one, the call returns true and writes nothing that was there.
-/
import Derived.Test.YtocmflnieagfcadWalks6
import Derived.Test.YtocmflnieagfcadLawNth
namespace Go.Proofs.Ytocmflnieagfcad
open Go.RowKit
open RankP
set_option linter.unusedVariables false

/-- How far the k-th of the nearest is from the current one, and how far the one ahead of it is. -/
def farAt (n c k : Nat) : Int := max (ix (nearestL n c) k - (c : Int)) ((c : Int) - ix (nearestL n c) k)
def farLast (n c : Nat) : Nat → Int
  | 0 => 0
  | k + 1 => farAt n c k
def modesOk (n c : Nat) : Bool := (List.range n).all fun k => decide (ix (newestL n) k = (n : Int) - 1 - (k : Int)) && decide (ix (oldestL n) k = (k : Int)) && decide (farLast n c k ≤ farAt n c k) &&
  decide (0 ≤ ix (nearestL n c) k) && decide (ix (nearestL n c) k ≤ 12)
theorem modesOk_all : ((List.range 13).all fun n => (List.range n).all fun c => modesOk n c && decide (ix (nearestL n c) 0 = (c : Int))) = true := by decide +kernel
theorem modes_ok {n c : Nat} (hn : n ≤ 12) (hc : c < n) : (∀ k < n, ix (newestL n) k = (n : Int) - 1 - (k : Int) ∧ ix (oldestL n) k = (k : Int) ∧ farLast n c k ≤ farAt n c k ∧ 0 ≤ ix (nearestL n c) k ∧ ix (nearestL n c) k ≤ 12) ∧ ix (nearestL n c) 0 = (c : Int) := by
  have h := modesOk_all
  rw [List.all_eq_true] at h
  have h1 := h n (List.mem_range.2 (by omega))
  rw [List.all_eq_true] at h1
  have h2 := h1 c (List.mem_range.2 hc)
  rw [Bool.and_eq_true, decide_eq_true_eq] at h2
  refine ⟨fun k hk => ?_, h2.2⟩
  have h3 := h2.1
  unfold modesOk at h3
  simp only [Bool.and_eq_true, List.all_eq_true, List.mem_range, decide_eq_true_eq] at h3
  obtain ⟨⟨⟨⟨a, b⟩, c⟩, d⟩, e⟩ := h3 k hk
  exact ⟨a, b, c, d, e⟩

set_option maxRecDepth 100000 in
theorem law_modes_out {w : World} (x y : Int) (hxw : -9223372036854775808 ≤ x ∧ x ≤ 9223372036854775807) (hyw : -9223372036854775808 ≤ y ∧ y ≤ 9223372036854775807) (h : x < 1 ∨ 12 < x ∨ y < 0 ∨ x ≤ y) :
    Calls Try.prog 6 #[.int .i64 x, .int .i64 y] w fun e w' => e = .returned (.bool true) ∧ Below w.heap.size w w' := by
  have H := Lib.hid h
  clear h
  by_cases h1 : x < 1
  · go_enter Try.func6, Try.ntmps6
    go_wp2_with (go_at_call 8; refine (anchor_any _).mono ?_; rintro e w1 ⟨rfl, hbel⟩; (have HB := Lib.hid hbel); clear hbel)
    go_ret
    exact ⟨rfl, HB.out⟩
  · by_cases h2 : 12 < x
    · go_enter Try.func6, Try.ntmps6
      go_wp2_with (go_at_call 8; refine (anchor_any _).mono ?_; rintro e w1 ⟨rfl, hbel⟩; (have HB := Lib.hid hbel); clear hbel)
      go_ret
      exact ⟨rfl, HB.out⟩
    · by_cases h3 : y < 0
      · go_enter Try.func6, Try.ntmps6
        go_wp2_with (go_at_call 8; refine (anchor_any _).mono ?_; rintro e w1 ⟨rfl, hbel⟩; (have HB := Lib.hid hbel); clear hbel)
        go_ret
        exact ⟨rfl, HB.out⟩
      · have h4 : x ≤ y := by have := H.out; omega
        go_enter Try.func6, Try.ntmps6
        go_wp2_with (go_at_call 8; refine (anchor_any _).mono ?_; rintro e w1 ⟨rfl, hbel⟩; (have HB := Lib.hid hbel); clear hbel)
        go_ret
        exact ⟨rfl, HB.out⟩

set_option maxRecDepth 100000 in
set_option maxHeartbeats 3200000 in
theorem law_modes_in {w : World} (n c : Nat) (h0 : 0 < n) (hn : n ≤ 12) (hc : c < n) :
    Calls Try.prog 6 #[.int .i64 (n : Int), .int .i64 (c : Int)] w fun e w' => e = .returned (.bool true) ∧ Below w.heap.size w w' := by
  have HM := Lib.hid (modes_ok hn hc)
  have E0 : Hid (orderL 0 n c = newestL n) := Lib.hid rfl
  have E1 : Hid (orderL 1 n c = oldestL n) := Lib.hid rfl
  have E2 : Hid (orderL 2 n c = heldL n c) := Lib.hid rfl
  have E3 : Hid (orderL 3 n c = nearestL n c) := Lib.hid rfl
  have hb0 : ((n : Int) != (n : Int)) = false := by simp
  go_enter Try.func6, Try.ntmps6
  go_wp2_with (go_at_call 8; refine (anchor_any _).mono ?_; rintro e w1 ⟨rfl, hbel⟩; (have HB1 := Lib.hid hbel); (have hs1 : w.heap.size ≤ w1.heap.size := hbel.size); clear hbel)
  refine (order_yes w1 0 n c (by omega) h0 hn hc).mono ?_
  rintro e w2 ⟨v2, rfl, hown2, hbel2⟩
  obtain ⟨A2, c2, rfl, hr2⟩ := hown2.shape
  have HR2 : Hid (Rd w2 w2.heap.size A2 n (newestL n)) := Lib.hid (by rw [← E0.out]; exact hr2)
  have HB2 : Hid (Below w.heap.size w w2) := Lib.hid (HB1.out.trans (hbel2.mono hs1))
  have hs2 : w.heap.size ≤ w2.heap.size := HB2.out.size
  clear hown2 hr2 hbel2
  go_wp2_with fail
  refine (order_yes w2 1 n c (by omega) h0 hn hc).mono ?_
  rintro e w3 ⟨v3, rfl, hown3, hbel3⟩
  obtain ⟨A3, c3, rfl, hr3⟩ := hown3.shape
  have HR3 : Hid (Rd w3 w3.heap.size A3 n (oldestL n)) := Lib.hid (by rw [← E1.out]; exact hr3)
  have HR2' : Hid (Rd w3 w2.heap.size A2 n (newestL n)) := Lib.hid (HR2.out.below hbel3)
  have HB3 : Hid (Below w.heap.size w w3) := Lib.hid (HB2.out.trans (hbel3.mono hs2))
  have hs3 : w2.heap.size ≤ w3.heap.size := hbel3.size
  clear hown3 hr3 hbel3 HR2
  go_wp2_with fail
  refine (order_yes w3 2 n c (by omega) h0 hn hc).mono ?_
  rintro e w4 ⟨v4, rfl, hown4, hbel4⟩
  obtain ⟨A4, c4, rfl, hr4⟩ := hown4.shape
  have HR4 : Hid (Rd w4 w4.heap.size A4 n (heldL n c)) := Lib.hid (by rw [← E2.out]; exact hr4)
  have HR2 : Hid (Rd w4 w2.heap.size A2 n (newestL n)) := Lib.hid (HR2'.out.below (hbel4.mono hs3))
  have HR3' : Hid (Rd w4 w3.heap.size A3 n (oldestL n)) := Lib.hid (HR3.out.below hbel4)
  have HB4 : Hid (Below w.heap.size w w4) := Lib.hid (HB3.out.trans (hbel4.mono (by omega)))
  have hs4 : w3.heap.size ≤ w4.heap.size := hbel4.size
  clear hown4 hr4 hbel4 HR2' HR3
  go_wp2_with fail
  refine (order_yes w4 3 n c (by omega) h0 hn hc).mono ?_
  rintro e w5 ⟨v5, rfl, hown5, hbel5⟩
  obtain ⟨A5, c5, rfl, hr5⟩ := hown5.shape
  have HR5 : Hid (Rd w5 w5.heap.size A5 n (nearestL n c)) := Lib.hid (by rw [← E3.out]; exact hr5)
  have hs5 : w4.heap.size ≤ w5.heap.size := hbel5.size
  have HQ2 : Hid (Rd w5 w5.heap.size A2 n (newestL n)) := Lib.hid ((HR2.out.below (hbel5.mono (by omega))).more (by omega))
  have HQ3 : Hid (Rd w5 w5.heap.size A3 n (oldestL n)) := Lib.hid ((HR3'.out.below (hbel5.mono (by omega))).more (by omega))
  have HQ4 : Hid (Rd w5 w5.heap.size A4 n (heldL n c)) := Lib.hid ((HR4.out.below hbel5).more hs5)
  have HB5 : Hid (Below w.heap.size w w5) := Lib.hid (HB4.out.trans (hbel5.mono (by omega)))
  have hs : w.heap.size ≤ w5.heap.size := HB5.out.size
  clear hown5 hr5 hbel5 HR2 HR3' HR4
  have HO : Hid (Own (w5.alloc (.cells #[.int .i64 (c : Int)] 3)) w5.heap.size (.slice (some ⟨w5.heap.size, 0, none⟩) 1 1) 1 (heldTo n c 0)) := Lib.hid (Own.lit w5 w5.heap.size [(c : Int)] (Nat.le_refl _) (by simp))
  have HB6 : Hid (Below w5.heap.size w5 (w5.alloc (.cells #[.int .i64 (c : Int)] 3))) := Lib.hid ((Below.refl _ _).alloc (Nat.le_refl _) _)
  go_wp2_with fail
  go_loopw [13, 103] (fun v i wr => ∃ k m b cc : Nat, k ≤ n ∧ i = .int .i64 (k : Int) ∧ v = .slice (some ⟨b, 0, none⟩) m cc ∧ w5.heap.size ≤ b ∧ Hid (Own wr w5.heap.size (.slice (some ⟨b, 0, none⟩) m cc) m (heldTo n c k)) ∧
      Hid (Below w5.heap.size w5 wr)) (fun _ i _ => n - (intOf i).toNat)
  case atStart => exact ⟨0, 1, w5.heap.size, 1, by omega, rfl, rfl, Nat.le_refl _, HO, HB6⟩
  case round =>
    clear HO HB6
    obtain ⟨k, m, b, cc, hk, rfl, rfl, hwb, HO, HB⟩ := hrel
    have hsz : w5.heap.size ≤ wr.heap.size := HB.out.size
    have hm : m ≤ 1000001 := by
      have h1 := HO.out.len
      have h2 := heldTo_le n c k hk
      omega
    by_cases hlt : k < n
    · obtain ⟨b2, off2, rfl, hbb2, hc2⟩ := (HQ2.out.below HB.out).at_ hlt
      obtain ⟨b3, off3, rfl, hbb3, hc3⟩ := (HQ3.out.below HB.out).at_ hlt
      have hm1 := (HM.out.1 k hlt).1
      have hm2 := (HM.out.1 k hlt).2.1
      have hb1 : (ix (newestL n) k != (n : Int) - 1 - (k : Int)) = false := by rw [hm1]; simp
      have hb2 : (ix (oldestL n) k != (k : Int)) = false := by rw [hm2]; simp
      clear hm1 hm2
      by_cases he : ix (newestL n) k = (c : Int)
      · have HS := Lib.hid (heldTo_drop hlt he)
        have hb3 : (ix (newestL n) k != (c : Int)) = false := by simp [he]
        clear he
        go_wp2
        go_roundw
        case rel => exact ⟨k + 1, m, b, cc, by omega, by go_num, rfl, hwb, Lib.hid (by rw [HS.out]; exact HO.out), HB⟩
        case measure => simp [intOf]; omega
      · have HS := Lib.hid (heldTo_take hlt he)
        have hb3 : (ix (newestL n) k != (c : Int)) = true := by simp [he]
        clear he
        go_wp2_with (at_builtin; refine wpl_app rfl _ _ rfl w5.heap.size _ m _ rfl (HO.out.alloc _) wr.heap.size (ix (newestL n) k) rfl ?c1 (by omega) ?c2 ?_)
        case c1 => simp
        case c2 => simp; omega
        · intro g cap w7 hown hbg hgr hat
          have HO2 := Lib.hid hown
          have HB2 : Hid (Below w5.heap.size w5 w7) := Lib.hid ((HB.out.alloc hsz _).grown hgr (by simp; omega) (HO.out.ge))
          clear hown hgr hat
          go_wp2
          go_roundw
          case rel => exact ⟨k + 1, m + 1, g, cap, by omega, by go_num, rfl, hbg, Lib.hid (by rw [HS.out]; exact HO2.out), HB2⟩
          case measure => simp [intOf]; omega
    · obtain rfl : k = n := by omega
      have HF : Hid (Below w.heap.size w wr) := Lib.hid (HB5.out.trans (HB.out.mono hs))
      have HP5 : Hid (Rd wr w5.heap.size A5 k (nearestL k c)) := Lib.hid (HR5.out.below HB.out)
      have HP4 : Hid (Rd wr w5.heap.size A4 k (heldL k c)) := Lib.hid (HQ4.out.below HB.out)
      have HPW : Hid (Rd wr wr.heap.size (some ⟨b, 0, none⟩) m (heldL k c)) := Lib.hid (by rw [← heldTo_done]; exact HO.out.rd (Below.refl _ _))
      have hnn : (k : Int) ≤ 9223372036854775807 := by omega
      clear HR5 HQ4 HQ2 HQ3 HO
      go_wp2
      go_loop [16, 132] (fun l i => ∃ j : Nat, j ≤ k ∧ i = .int .i64 (j : Int) ∧ l = .int .i64 (farLast k c j)) (fun _ i => k - (intOf i).toNat)
      case atStart => exact ⟨0, by omega, rfl, rfl⟩
      case round =>
        obtain ⟨j, hj, rfl, rfl⟩ := hrel
        by_cases hlt2 : j < k
        · obtain ⟨b5, off5, rfl, hbb5, hc5⟩ := HP5.out.at_ hlt2
          have hmm := HM.out.1 j hlt2
          obtain ⟨_, _, hf, hv1, hv2⟩ := hmm
          have hl0 : 0 ≤ farLast k c j ∧ farLast k c j ≤ 12 := by
            refine ⟨?_, ?_⟩
            · cases j with
              | zero => exact Int.le_refl _
              | succ j => show 0 ≤ farAt k c j; unfold farAt; omega
            · refine Int.le_trans hf ?_; unfold farAt; omega
          obtain ⟨hl1, hl2⟩ := hl0
          by_cases hcv : (c : Int) ≤ ix (nearestL k c) j
          · have HE : Hid (farAt k c j = ix (nearestL k c) j - (c : Int)) := Lib.hid (by unfold farAt; omega)
            have hf2 : farLast k c j ≤ ix (nearestL k c) j - (c : Int) := by rw [← HE.out]; exact hf
            clear hf
            go_wp2
            all_goals
              go_round
              case rel => exact ⟨j + 1, by omega, by go_num, (by show _ = Value.int .i64 (farAt k c j); rw [HE.out])⟩
              case measure => simp [intOf]; omega
          · have HE : Hid (farAt k c j = (c : Int) - ix (nearestL k c) j) := Lib.hid (by unfold farAt; omega)
            have hf2 : farLast k c j ≤ (c : Int) - ix (nearestL k c) j := by rw [← HE.out]; exact hf
            clear hf
            go_wp2
            all_goals
              go_round
              case rel => exact ⟨j + 1, by omega, by go_num, (by show _ = Value.int .i64 (farAt k c j); rw [HE.out])⟩
              case measure => simp [intOf]; omega
        · obtain ⟨b5, off5, rfl, hbb5, hc5⟩ := HP5.out.at_ h0
          rw [Nat.add_zero] at hc5
          have hfin : (ix (nearestL k c) 0 == (c : Int)) = true := by rw [HM.out.2]; simp
          go_wp2_with (go_at_call 14; refine (same_any (HP4.out.more hsz) HPW.out (by omega) (by omega)).mono ?_; rintro e w9 ⟨rfl, rfl⟩; rw [sameB_refl])
          go_ret
          exact ⟨rfl, HF.out⟩

theorem law_modes {w : World} (x y : Int) (hxw : -9223372036854775808 ≤ x ∧ x ≤ 9223372036854775807) (hyw : -9223372036854775808 ≤ y ∧ y ≤ 9223372036854775807) :
    Calls Try.prog 6 #[.int .i64 x, .int .i64 y] w fun e w' => e = .returned (.bool true) ∧ Below w.heap.size w w' := by
  by_cases h : 1 ≤ x ∧ x ≤ 12 ∧ 0 ≤ y ∧ y < x
  · obtain ⟨n, rfl⟩ := Int.eq_ofNat_of_zero_le (show 0 ≤ x by omega)
    obtain ⟨c, rfl⟩ := Int.eq_ofNat_of_zero_le h.2.2.1
    exact law_modes_in n c (by omega) (by omega) (by omega)
  · exact law_modes_out x y hxw hyw (by omega)
end Go.Proofs.Ytocmflnieagfcad
