/-
  THE WALK of the statement RankNext: whatever the limits and the index, the call returns true and writes nothing that was there.
-/
import Derived.Test.YtocmflnieagfcadWalks6
import Derived.Test.YtocmflnieagfcadLawNth
namespace Go.Proofs.Ytocmflnieagfcad
open Go.RowKit
open RankP
set_option linter.unusedVariables false

set_option maxHeartbeats 3200000 in
theorem law_next {w : World} {n c : Nat} {A : Option Addr} {ls : List Int} (hx : Rd w w.heap.size A n ls) (hn : n ≤ 9223372036854775807) (x : Int) (hxw : -9223372036854775808 ≤ x ∧ x ≤ 9223372036854775807) :
    Calls Try.prog 5 #[.slice A n c, .int .i64 x] w fun e w' => e = .returned (.bool true) ∧ Below w.heap.size w w' := by
  have HX := Lib.hid hx
  have HXL := Lib.hid hx.1
  clear hx
  by_cases hl : limB ls = true
  · have HLim := Lib.hid (limB_iff.1 hl)
    have h12 : n ≤ 12 := by have := HLim.out.1; rw [HXL.out] at this; exact this
    by_cases hr : 0 ≤ x ∧ x < cnt ls
    · obtain ⟨hr0, hr1⟩ := hr
      have HR1 := Lib.hid hr1
      have hx13 : x < 8916100448256 := by
        have := (pT_le HLim.out ls.length (Nat.le_refl _)).2
        unfold cnt at hr1; omega
      have HI := Lib.hid (idx_nth HLim.out x hr0 hr1)
      have HC := Lib.hid (nth_cho HLim.out x)
      have hcb : choB ls (nthL ls x) = true := choB_iff.2 ⟨HLim.out, HC.out⟩
      obtain ⟨cs, hcs⟩ : ∃ cs, nthL ls x = cs := ⟨_, rfl⟩
      rw [hcs] at HI HC hcb
      have HCS := Lib.hid hcs
      clear hcs hr1
      go_enter Try.func5, Try.ntmps5
      go_wp2_with (first
        | (go_at_call 8; refine (anchor_any _).mono ?_; rintro e w1 ⟨rfl, hbel⟩; (have HB := Lib.hid hbel); (have hs1 : w.heap.size ≤ w1.heap.size := hbel.size); (have HX1 : Hid (Rd w1 w.heap.size A n ls) := Lib.hid (HX.out.below hbel)); clear hbel)
        | (go_at_call 10; refine (nth_yes HX1.out hn hl hr0 HR1.out hs1).mono ?_; rintro e w2 ⟨v, rfl, hown, hbel2⟩; obtain ⟨D, d, rfl, hrd⟩ := hown.shape; (have HD2 : Hid (Rd w2 w2.heap.size D n cs) := Lib.hid (by rw [← HCS.out]; exact hrd)); (have HB2 : Hid (Below w.heap.size w w2) := Lib.hid (HB.out.trans (hbel2.mono hs1))); (have HX2 : Hid (Rd w2 w.heap.size A n ls) := Lib.hid (HX1.out.below (hbel2.mono hs1))); (have hs2 : w.heap.size ≤ w2.heap.size := Nat.le_trans hs1 hbel2.size); clear hbel2 hown hrd)
        | (go_at_call 9; refine (count_yes HX2.out hn hl).mono ?_; rintro e w2 ⟨rfl, rfl⟩)
        | (at_builtin; refine wpl_apps rfl (.tmp 32) (.tmp 33) rfl w2.heap.size _ 0 [] rfl (Own.empty w2 w2.heap.size (Nat.le_refl _)) w2.heap.size D n d cs rfl (HD2.out.alloc (Nat.le_refl _) _) (by omega) (by simp) ?_; intro v' w3 hown3 hg3 hat3))
      obtain ⟨G, g, rfl, hrg⟩ := hown3.shape
      have hbel3 : Below w2.heap.size w2 w3 := ((Below.refl _ w2).alloc (Nat.le_refl _) _).grown hg3 (by simp) (fun k h => by have h' : some w2.heap.size = some k := h; cases h'; exact Nat.le_refl _)
      have HG3 : Hid (Rd w3 w3.heap.size G n cs) := Lib.hid (by simpa using hrg)
      have HD3 : Hid (Rd w3 w2.heap.size D n cs) := Lib.hid (HD2.out.below hbel3)
      have HX3 : Hid (Rd w3 w.heap.size A n ls) := Lib.hid (HX2.out.below (hbel3.mono hs2))
      have HB3 : Hid (Below w.heap.size w w3) := Lib.hid (HB2.out.trans (hbel3.mono hs2))
      have hs3 : w2.heap.size ≤ w3.heap.size := hbel3.size
      simp only [Nat.zero_add]
      clear hown3 hg3 hat3 hrg hbel3
      go_wp2_with fail
      refine (next_yes (HX3.out.more (Nat.le_trans hs2 hs3)) HG3.out hn hn hcb (Nat.le_refl _)).mono ?_
      rintro e w4 ⟨hpost, hbel4⟩
      have HG4 : Hid (Rd w4 w3.heap.size G n cs) := Lib.hid (HG3.out.below hbel4)
      have HD4 : Hid (Rd w4 w2.heap.size D n cs) := Lib.hid (HD3.out.below (hbel4.mono hs3))
      have HX4 : Hid (Rd w4 w.heap.size A n ls) := Lib.hid (HX3.out.below (hbel4.mono (Nat.le_trans hs2 hs3)))
      have HB4 : Hid (Below w.heap.size w w4) := Lib.hid (HB3.out.trans (hbel4.mono (Nat.le_trans hs2 hs3)))
      have hs4 : w3.heap.size ≤ w4.heap.size := hbel4.size
      clear hbel4
      rcases hpost with ⟨v, i, rfl, hown, hi, ht, hix⟩ | ⟨rfl, ht⟩
      · obtain ⟨E, q, rfl, hrd⟩ := hown.shape
        have HE4 := Lib.hid hrd
        have HCN := Lib.hid (nextAt_cho HLim.out HC.out i hi hix)
        have hcb2 : choB ls (nextAt ls cs i) = true := choB_iff.2 ⟨HLim.out, HCN.out⟩
        have hin : idx ls (nextAt ls cs i) = x + 1 := by rw [idx_next i hi ht, HI.out]
        have HIN := Lib.hid hin
        have hlt : x + 1 < cnt ls := by rw [← hin]; exact (idx_bd HLim.out HCN.out).2
        have HLC := Lib.hid (lcmp_next HC.out.1 i hi)
        clear hown hrd hi ht hix hin
        go_wp2_with (first
          | (go_at_call 14; refine (same_any HG4.out (HD4.out.more hs3) hn hn).mono ?_; rintro e w5 ⟨rfl, rfl⟩; rw [sameB_refl])
          | (go_at_call 12; refine (index_yes (HX4.out.more (by omega)) HE4.out hn hn hcb2).mono ?_; rintro e w5 ⟨rfl, rfl⟩; rw [HIN.out])
          | (go_at_call 15; refine (rcmp_any (HD4.out.more (by omega)) HE4.out hn hn).mono ?_; rintro e w5 ⟨rfl, rfl⟩; rw [HLC.out]))
        go_ret
        exact ⟨rfl, HB4.out⟩
      · have hge : ¬ x + 1 < cnt ls := by rw [← idx_top ht, HI.out]; omega
        clear ht
        go_wp2_with (go_at_call 14; refine (same_any HG4.out (HD4.out.more hs3) hn hn).mono ?_; rintro e w5 ⟨rfl, rfl⟩; rw [sameB_refl])
        go_ret
        exact ⟨rfl, HB4.out⟩
    · have hr' : x < 0 ∨ cnt ls ≤ x := by omega
      have HR := Lib.hid hr'
      clear hr hr'
      go_enter Try.func5, Try.ntmps5
      go_wp2_with (first
        | (go_at_call 8; refine (anchor_any _).mono ?_; rintro e w1 ⟨rfl, hbel⟩; (have HB := Lib.hid hbel); (have hs1 : w.heap.size ≤ w1.heap.size := hbel.size); clear hbel)
        | (go_at_call 10; refine (nth_big (HX.out.below HB.out) hn hl HR.out).mono ?_; rintro e w3 ⟨rfl, rfl⟩))
      go_ret
      exact ⟨rfl, HB.out⟩
  · rw [Bool.not_eq_true] at hl
    go_enter Try.func5, Try.ntmps5
    go_wp2_with (first
      | (go_at_call 8; refine (anchor_any _).mono ?_; rintro e w1 ⟨rfl, hbel⟩; (have HB := Lib.hid hbel); clear hbel)
      | (go_at_call 10; refine (nth_bad (HX.out.below HB.out) hn hl).mono ?_; rintro e w2 ⟨rfl, rfl⟩))
    go_ret
    exact ⟨rfl, HB.out⟩
end Go.Proofs.Ytocmflnieagfcad
