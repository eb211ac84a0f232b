/-
  THE WALK of the statement RankAll: whatever the limits, the call returns true and writes nothing that was there.
-/
import Derived.Test.YtocmflnieagfcadWalks6
import Derived.Test.YtocmflnieagfcadLawNth
namespace Go.Proofs.Ytocmflnieagfcad
open Go.RowKit
open RankP
set_option linter.unusedVariables false

theorem ix_replicate (n j : Nat) : ix (List.replicate n 0) j = 0 := by
  unfold ix
  by_cases h : j < n <;> simp [List.getD, h]
theorem cho_zero {ls : List Int} (hl : Lim ls) (n : Nat) (h : ls.length = n) : Cho ls (List.replicate n 0) :=
  ⟨by simp [h], fun i hi => by rw [ix_replicate]; have := (hl.2 i hi).1; omega⟩
theorem idx_zero (ls : List Int) (n : Nat) : idx ls (List.replicate n 0) = 0 := by
  have h := acc_zero (ls := ls) (cs := List.replicate n 0) 0 (fun j _ _ => ix_replicate n j) ls.length (by omega)
  simp only [Nat.zero_add, pD_end ls _ (Nat.le_refl _), Int.mul_one, acc, Int.zero_mul] at h
  exact h

/-- What the loop of RankAll holds of the choice at index k. -/
def AllTo (ls : List Int) (w : World) (n : Nat) (G : Option Addr) (m : Nat) (k : Int) : Prop :=
  k < cnt ls → m = n ∧ ∃ cs, Rd w w.heap.size G n cs ∧ Cho ls cs ∧ idx ls cs = k

set_option maxHeartbeats 3200000 in
theorem law_all {w : World} {n c : Nat} {A : Option Addr} {ls : List Int} (hx : Rd w w.heap.size A n ls) (hn : n ≤ 9223372036854775807) :
    Calls Try.prog 7 #[.slice A n c] w fun e w' => e = .returned (.bool true) ∧ Below w.heap.size w w' := by
  have HX := Lib.hid hx
  have HXL := Lib.hid hx.1
  clear hx
  by_cases hl : limB ls = true
  · have HLim := Lib.hid (limB_iff.1 hl)
    have h12 : n ≤ 12 := by have := HLim.out.1; rw [HXL.out] at this; exact this
    have hc1 : 1 ≤ cnt ls := (pT_le HLim.out _ (Nat.le_refl _)).1
    by_cases h500 : 500 < cnt ls
    · go_enter Try.func7, Try.ntmps7
      go_wp2_with (first
        | (go_at_call 8; refine (anchor_any _).mono ?_; rintro e w1 ⟨rfl, hbel⟩; (have HB := Lib.hid hbel); (have HX1 : Hid (Rd w1 w.heap.size A n ls) := Lib.hid (HX.out.below hbel)); clear hbel)
        | (go_at_call 11; refine (limited_any HX1.out hn).mono ?_; rintro e w2 ⟨rfl, rfl⟩)
        | (go_at_call 9; refine (count_yes HX1.out hn hl).mono ?_; rintro e w2 ⟨rfl, rfl⟩))
      go_ret
      exact ⟨rfl, HB.out⟩
    · go_enter Try.func7, Try.ntmps7
      go_wp2_with (first
        | (go_at_call 8; refine (anchor_any _).mono ?_; rintro e w1 ⟨rfl, hbel⟩; (have HB := Lib.hid hbel); (have HX1 : Hid (Rd w1 w.heap.size A n ls) := Lib.hid (HX.out.below hbel)); (have hs1 : w.heap.size ≤ w1.heap.size := hbel.size); clear hbel)
        | (go_at_call 11; refine (limited_any HX1.out hn).mono ?_; rintro e w2 ⟨rfl, rfl⟩)
        | (go_at_call 9; refine (count_yes HX1.out hn hl).mono ?_; rintro e w2 ⟨rfl, rfl⟩)
        | (at_make; refine wpl_make rfl _ _ rfl w1.heap.size n rfl rfl (by omega) (Nat.le_refl _) ?_; intro w2 hown hg))
      have hbel2 : Below w1.heap.size w1 w2 := (Below.refl _ _).grown hg (Nat.le_refl _) (fun _ h => by cases h)
      have HX2 : Hid (Rd w2 w.heap.size A n ls) := Lib.hid (HX1.out.below (hbel2.mono hs1))
      have HB2 : Hid (Below w.heap.size w w2) := Lib.hid (HB.out.trans (hbel2.mono hs1))
      have hs2 : w.heap.size ≤ w2.heap.size := HB2.out.size
      have HT : Hid (AllTo ls w2 n (some ⟨w1.heap.size, 0, none⟩) n 0) := Lib.hid (fun _ => ⟨rfl, _, hown.rd (Below.refl _ _), cho_zero HLim.out n HXL.out, idx_zero ls n⟩)
      clear hown hg hbel2
      go_loopw [5, 6] (fun v i wr => ∃ (G : Option Addr) (m g : Nat) (k : Int), 0 ≤ k ∧ k ≤ cnt ls ∧ v = .slice G m g ∧ i = .int .i64 k ∧ Hid (AllTo ls wr n G m k) ∧ Hid (Rd wr w.heap.size A n ls) ∧ Hid (Below w.heap.size w wr))
        (fun _ i _ => (cnt ls - intOf i).toNat)
      case atStart => exact ⟨_, _, _, 0, by omega, by omega, rfl, rfl, HT, HX2, HB2⟩
      case round =>
        clear HT HX2 HB2
        obtain ⟨G, m, g, k, hk0, hk1, rfl, rfl, HT, HXr, HBr⟩ := hrel
        have hsr : w.heap.size ≤ wr.heap.size := HBr.out.size
        by_cases hlt : k < cnt ls
        · obtain ⟨rfl, cs, hrd, hcho, hidx⟩ := HT.out hlt
          have HR := Lib.hid hrd
          have HC := Lib.hid hcho
          have HI := Lib.hid hidx
          have hcb : choB ls cs = true := choB_iff.2 ⟨HLim.out, hcho⟩
          have hb1 : (k != k) = false := by simp
          clear hrd hcho hidx
          go_wp2_with (go_at_call 12; refine (index_yes (HXr.out.more hsr) HR.out hn hn hcb).mono ?_; rintro e w4 ⟨rfl, rfl⟩; rw [HI.out])
          refine (next_yes (HXr.out.more hsr) HR.out hn hn hcb (Nat.le_refl _)).mono ?_
          rintro e w4 ⟨hpost, hbel4⟩
          have HX4 : Hid (Rd w4 w.heap.size A m ls) := Lib.hid (HXr.out.below (hbel4.mono hsr))
          have HB4 : Hid (Below w.heap.size w w4) := Lib.hid (HBr.out.trans (hbel4.mono hsr))
          clear hbel4
          rcases hpost with ⟨v, i, rfl, hown, hi, ht, hix⟩ | ⟨rfl, ht⟩
          · obtain ⟨E, q, rfl, hrd⟩ := hown.shape
            have hcn := nextAt_cho HLim.out HC.out i hi hix
            have hin : idx ls (nextAt ls cs i) = k + 1 := by rw [idx_next i hi ht, HI.out]
            have hlt2 : k + 1 < cnt ls := by rw [← hin]; exact (idx_bd HLim.out hcn).2
            have HT4 : Hid (AllTo ls w4 m E m (k + 1)) := Lib.hid (fun _ => ⟨rfl, _, hrd, hcn, hin⟩)
            clear hown hrd hi ht hix hin hcn
            go_wp2
            go_roundw
            case rel => exact ⟨_, _, _, k + 1, by omega, by omega, rfl, rfl, HT4, HX4, HB4⟩
            case measure => simp [intOf]; omega
          · have hge : k + 1 = cnt ls := by rw [← idx_top ht, HI.out]
            have hge2 : ¬ k + 1 < cnt ls := by omega
            have HT4 : Hid (AllTo ls w4 m none 0 (k + 1)) := Lib.hid (fun h => absurd h hge2)
            have HG := Lib.hid hge
            clear ht hge
            go_wp2
            go_roundw
            case rel => exact ⟨none, 0, 0, k + 1, by omega, by have := HG.out; omega, rfl, rfl, HT4, HX4, HB4⟩
            case measure => simp [intOf]; omega
        · go_wp2
          go_ret
          exact ⟨rfl, HBr.out⟩
  · rw [Bool.not_eq_true] at hl
    go_enter Try.func7, Try.ntmps7
    go_wp2_with (first
      | (go_at_call 8; refine (anchor_any _).mono ?_; rintro e w1 ⟨rfl, hbel⟩; (have HB := Lib.hid hbel); (have HX1 : Hid (Rd w1 w.heap.size A n ls) := Lib.hid (HX.out.below hbel)); clear hbel)
      | (go_at_call 11; refine (limited_any HX1.out hn).mono ?_; rintro e w2 ⟨rfl, rfl⟩))
    go_ret
    exact ⟨rfl, HB.out⟩
end Go.Proofs.Ytocmflnieagfcad
