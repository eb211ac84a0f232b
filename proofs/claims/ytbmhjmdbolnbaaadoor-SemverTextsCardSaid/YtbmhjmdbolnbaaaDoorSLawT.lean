/-
  THE LAW SemverTexts (printed by genlawt.py).
-/
import Derived.Test.YtbmhjmdbolnbaaaDoorSBump
import Derived.Test.YtbmhjmdbolnbaaaDoorSMore
import Derived.Test.YtbmhjmdbolnbaaaDoorSText
namespace Go.Proofs.YtbmhjmdbolnbaaaDoor
open Go.RowKit
open SemP
set_option linter.unusedVariables false
set_option linter.unusedSimpArgs false
set_option maxRecDepth 100000
attribute [local go_sem ↓] eqVer

theorem mk_ne {x y : Str} (h : x ≠ y) : ((mk x).toList == (mk y).toList) = false := by
  rw [ByteArray.toList_eq, ByteArray.toList_eq]
  show (x == y) = false
  rw [beq_eq_false_iff_ne]; exact h
set_option maxHeartbeats 8000000 in
theorem law_texts (ma1 mi1 pa1 : Int) (s1 : ByteArray) (ma2 mi2 pa2 : Int) (s2 : ByteArray) (w : World) (hm : LenAt w) (h1 : 1 < w.heap.size) (hp : PowAt w) :
    Calls Tryd.prog 8 #[verV ma1 mi1 pa1 s1, verV ma2 mi2 pa2 s2] w fun e w' => e = .returned (.bool true) ∧ Below w.heap.size w w' := by
  obtain ⟨W0, hW0⟩ : ∃ W0, (w.alloc (verC ma1 mi1 pa1 s1)).alloc (verC ma2 mi2 pa2 s2) = W0 := ⟨_, rfl⟩
  have hb0 : Below w.heap.size w W0 := by rw [← hW0]; exact ((Below.refl _ w).alloc (Nat.le_refl _) _).alloc (by simp) _
  have HBX0 : Hid (BoxesAt [(w.heap.size, verC ma1 mi1 pa1 s1), (w.heap.size + 1, verC ma2 mi2 pa2 s2)] W0) := Lib.hid (by
    rw [← hW0]
    have h := ((BoxesAt.nil w).push (verC ma1 mi1 pa1 s1)).push (verC ma2 mi2 pa2 s2)
    rw [World.size_alloc] at h
    intro x hx
    exact h x (by simp at hx ⊢; rcases hx with rfl | rfl <;> simp))
  have HM0 := Lib.hid (hm.below h1 hb0)
  have HP0 : Hid (PowAt W0) := Lib.hid (hp.below hb0)
  have HAN := Lib.hid (anchor_any W0 HM0.out.1 HM0.out.2)
  have HW0 := Lib.hid hW0
  have HB0 := Lib.hid hb0
  clear hW0 hb0 hm hp
  go_enter Tryd.func8, Tryd.ntmps8
  go_wp2_with fail
  try rw [show (w.alloc (.cells #[.int .i64 ma1, .int .i64 mi1, .int .i64 pa1, .string s1] 25)).alloc (.cells #[.int .i64 ma2, .int .i64 mi2, .int .i64 pa2, .string s2] 25) = W0 from HW0.out]
  refine HAN.out.mono ?_
  rintro e W1 ⟨rfl, hb⟩
  have HBX1 := Lib.hid (HBX0.out.below hb)
  have HB1 : Hid (Below w.heap.size w W1) := Lib.hid (HB0.out.trans (hb.mono HB0.out.size))
  have HM1 := Lib.hid (HM0.out.1.below HM0.out.2 hb)
  have HP1 : Hid (PowAt W1) := Lib.hid (HP0.out.below hb)
  clear hb
  clear HAN
  obtain ⟨x0, x1, x2, x3⟩ := cells4 (HBX1.out.get (w.heap.size) (verC ma1 mi1 pa1 s1) (by simp))
  obtain ⟨y0, y1, y2, y3⟩ := cells4 (HBX1.out.get (w.heap.size + 1) (verC ma2 mi2 pa2 s2) (by simp))
  go_wp2_with fail
  refine (short_any s1 W1).mono ?_
  rintro e w' ⟨rfl, hw⟩
  subst w'
  cases hsh1 : decide (s1.size ≤ 300) with
  | false =>
    go_wp2
    refine bodyPost_ret (results_tmp rfl _ _ _) rfl ⟨rfl, HB1.out⟩
  | true =>
    have HS1 : Hid (s1.size ≤ 300) := Lib.hid (of_decide_eq_true hsh1)
    clear hsh1
    go_wp2_with fail
    refine (short_any s2 W1).mono ?_
    rintro e w' ⟨rfl, hw⟩
    subst w'
    cases hsh2 : decide (s2.size ≤ 300) with
    | false =>
      go_wp2
      refine bodyPost_ret (results_tmp rfl _ _ _) rfl ⟨rfl, HB1.out⟩
    | true =>
      have HS2 : Hid (s2.size ≤ 300) := Lib.hid (of_decide_eq_true hsh2)
      clear hsh2
      have HR := Lib.hid (Right_any ma1 mi1 pa1 s1 W1 (by have := HS1.out; omega) HM1.out.1 HM1.out.2)
      go_wp2_with fail
      refine HR.out.mono ?_
      rintro e W2 ⟨rfl, hb⟩
      clear HR
      clear x0 x1 x2 x3 y0 y1 y2 y3
      have HBX2 := Lib.hid (HBX1.out.below hb)
      have HB2 : Hid (Below w.heap.size w W2) := Lib.hid (HB1.out.trans (hb.mono HB1.out.size))
      have HM2 := Lib.hid (HM1.out.1.below HM1.out.2 hb)
      have HP2 : Hid (PowAt W2) := Lib.hid (HP1.out.below hb)
      clear hb
      obtain ⟨x0, x1, x2, x3⟩ := cells4 (HBX2.out.get (w.heap.size) (verC ma1 mi1 pa1 s1) (by simp))
      obtain ⟨y0, y1, y2, y3⟩ := cells4 (HBX2.out.get (w.heap.size + 1) (verC ma2 mi2 pa2 s2) (by simp))
      cases hr1 : Ver.right ⟨ma1, mi1, pa1, bs s1⟩ with
      | false =>
        go_wp2
        refine bodyPost_ret (results_tmp rfl _ _ _) rfl ⟨rfl, HB2.out⟩
      | true =>
        have HR1 := Lib.hid hr1
        clear hr1
        have HR := Lib.hid (Right_any ma2 mi2 pa2 s2 W2 (by have := HS2.out; omega) HM2.out.1 HM2.out.2)
        go_wp2_with fail
        refine HR.out.mono ?_
        rintro e W3 ⟨rfl, hb⟩
        clear HR
        clear x0 x1 x2 x3 y0 y1 y2 y3
        have HBX3 := Lib.hid (HBX2.out.below hb)
        have HB3 : Hid (Below w.heap.size w W3) := Lib.hid (HB2.out.trans (hb.mono HB2.out.size))
        have HM3 := Lib.hid (HM2.out.1.below HM2.out.2 hb)
        have HP3 : Hid (PowAt W3) := Lib.hid (HP2.out.below hb)
        clear hb
        obtain ⟨x0, x1, x2, x3⟩ := cells4 (HBX3.out.get (w.heap.size) (verC ma1 mi1 pa1 s1) (by simp))
        obtain ⟨y0, y1, y2, y3⟩ := cells4 (HBX3.out.get (w.heap.size + 1) (verC ma2 mi2 pa2 s2) (by simp))
        cases hr2 : Ver.right ⟨ma2, mi2, pa2, bs s2⟩ with
        | false =>
          go_wp2
          refine bodyPost_ret (results_tmp rfl _ _ _) rfl ⟨rfl, HB3.out⟩
        | true =>
          have HR2 := Lib.hid hr2
          clear hr2
          have HT := Lib.hid (Text_any ma1 mi1 pa1 s1 W3 (by have := HS1.out; omega) HM3.out.1 HM3.out.2 HP3.out)
          go_wp2_with fail
          refine HT.out.mono ?_
          rintro e W4 ⟨rfl, hb⟩
          clear HT
          rw [show textR ⟨ma1, mi1, pa1, bs s1⟩ = .tuple #[.string (mk (Ver.text ⟨ma1, mi1, pa1, bs s1⟩)), .int .i64 0] from by unfold textR; rw [HR1.out]; rfl]
          clear x0 x1 x2 x3 y0 y1 y2 y3
          have HBX4 := Lib.hid (HBX3.out.below hb)
          have HB4 : Hid (Below w.heap.size w W4) := Lib.hid (HB3.out.trans (hb.mono HB3.out.size))
          have HM4 := Lib.hid (HM3.out.1.below HM3.out.2 hb)
          have HP4 : Hid (PowAt W4) := Lib.hid (HP3.out.below hb)
          clear hb
          obtain ⟨x0, x1, x2, x3⟩ := cells4 (HBX4.out.get (w.heap.size) (verC ma1 mi1 pa1 s1) (by simp))
          obtain ⟨y0, y1, y2, y3⟩ := cells4 (HBX4.out.get (w.heap.size + 1) (verC ma2 mi2 pa2 s2) (by simp))
          have HT := Lib.hid (Text_any ma2 mi2 pa2 s2 W4 (by have := HS2.out; omega) HM4.out.1 HM4.out.2 HP4.out)
          go_wp2_with fail
          refine HT.out.mono ?_
          rintro e W5 ⟨rfl, hb⟩
          clear HT
          rw [show textR ⟨ma2, mi2, pa2, bs s2⟩ = .tuple #[.string (mk (Ver.text ⟨ma2, mi2, pa2, bs s2⟩)), .int .i64 0] from by unfold textR; rw [HR2.out]; rfl]
          clear x0 x1 x2 x3 y0 y1 y2 y3
          have HBX5 := Lib.hid (HBX4.out.below hb)
          have HB5 : Hid (Below w.heap.size w W5) := Lib.hid (HB4.out.trans (hb.mono HB4.out.size))
          have HM5 := Lib.hid (HM4.out.1.below HM4.out.2 hb)
          have HP5 : Hid (PowAt W5) := Lib.hid (HP4.out.below hb)
          clear hb
          obtain ⟨x0, x1, x2, x3⟩ := cells4 (HBX5.out.get (w.heap.size) (verC ma1 mi1 pa1 s1) (by simp))
          obtain ⟨y0, y1, y2, y3⟩ := cells4 (HBX5.out.get (w.heap.size + 1) (verC ma2 mi2 pa2 s2) (by simp))
          have HC := Lib.hid (Compare_any ma1 mi1 pa1 s1 ma2 mi2 pa2 s2 W5 (by have := HS1.out; omega) (by have := HS2.out; omega) HM5.out.1 HM5.out.2)
          by_cases he : ma1 = ma2 ∧ mi1 = mi2 ∧ pa1 = pa2 ∧ s1 = s2
          · obtain ⟨e1, e2, e3, e4⟩ := he
            subst e1 e2 e3 e4
            have hq : verEq ma1 mi1 pa1 s1 ma1 mi1 pa1 s1 = true := verEq_true _ _ _ _
            go_wp2_with fail
            refine HC.out.mono ?_
            rintro e W6 ⟨rfl, hb⟩
            clear HC
            rw [cmpV_tot.refl]
            clear x0 x1 x2 x3 y0 y1 y2 y3
            have HBX6 := Lib.hid (HBX5.out.below hb)
            have HB6 : Hid (Below w.heap.size w W6) := Lib.hid (HB5.out.trans (hb.mono HB5.out.size))
            have HM6 := Lib.hid (HM5.out.1.below HM5.out.2 hb)
            have HP6 : Hid (PowAt W6) := Lib.hid (HP5.out.below hb)
            clear hb
            go_wp2
            refine bodyPost_ret (results_tmp rfl _ _ _) rfl ⟨rfl, HB6.out⟩
          · have hq : verEq ma1 mi1 pa1 s1 ma2 mi2 pa2 s2 = false := verEq_false he
            have HNV : Hid ((⟨ma1, mi1, pa1, bs s1⟩ : Ver) ≠ ⟨ma2, mi2, pa2, bs s2⟩) := Lib.hid (fun h => by
              injection h with e1 e2 e3 e4
              exact he ⟨e1, e2, e3, by rw [← mk_bs s1, ← mk_bs s2, e4]⟩)
            have hst : ((mk (Ver.text ⟨ma1, mi1, pa1, bs s1⟩)).toList == (mk (Ver.text ⟨ma2, mi2, pa2, bs s2⟩)).toList) = false := mk_ne (fun e => HNV.out (text_inj HR1.out HR2.out e))
            obtain ⟨t1, ht1⟩ : ∃ t1, mk (Ver.text ⟨ma1, mi1, pa1, bs s1⟩) = t1 := ⟨_, rfl⟩
            obtain ⟨t2, ht2⟩ : ∃ t2, mk (Ver.text ⟨ma2, mi2, pa2, bs s2⟩) = t2 := ⟨_, rfl⟩
            rw [ht1, ht2] at hst ⊢
            obtain ⟨z, hz⟩ : ∃ z, cmpV ⟨ma1, mi1, pa1, bs s1⟩ ⟨ma2, mi2, pa2, bs s2⟩ = z := ⟨_, rfl⟩
            have hz0 : (z == 0) = false := by rw [beq_eq_false_iff_ne, ← hz]; exact fun e => HNV.out ((cmpV_tot.eq _ _).1 e)
            have HZ := Lib.hid hz
            clear ht1 ht2 he hz
            go_wp2_with fail
            refine HC.out.mono ?_
            rintro e W6 ⟨rfl, hb⟩
            clear HC
            rw [HZ.out]
            clear x0 x1 x2 x3 y0 y1 y2 y3
            have HBX6 := Lib.hid (HBX5.out.below hb)
            have HB6 : Hid (Below w.heap.size w W6) := Lib.hid (HB5.out.trans (hb.mono HB5.out.size))
            have HM6 := Lib.hid (HM5.out.1.below HM5.out.2 hb)
            have HP6 : Hid (PowAt W6) := Lib.hid (HP5.out.below hb)
            clear hb
            go_wp2
            refine bodyPost_ret (results_tmp rfl _ _ _) rfl ⟨rfl, HB6.out⟩
end Go.Proofs.YtbmhjmdbolnbaaaDoor
