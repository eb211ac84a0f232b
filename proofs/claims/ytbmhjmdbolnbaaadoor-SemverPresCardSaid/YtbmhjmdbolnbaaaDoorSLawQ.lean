/-
  THE LAW SemverPres (printed by genlawq.py).
-/
import Derived.Test.YtbmhjmdbolnbaaaDoorSBump
import Derived.Test.YtbmhjmdbolnbaaaDoorSMore
import Derived.Test.YtbmhjmdbolnbaaaDoorSRefS
namespace Go.Proofs.YtbmhjmdbolnbaaaDoor
open Go.RowKit
open SemP
set_option linter.unusedVariables false
set_option linter.unusedSimpArgs false
set_option maxRecDepth 100000
attribute [local go_sem ↓] eqVer

theorem bs_app (s t : ByteArray) : bs (s ++ t) = bs s ++ bs t := by
  show (s ++ t).data.toList = _
  rw [ByteArray.data_append]; simp [bs]
theorem bs_more (s t : ByteArray) : bs (s ++ (⟨#[46]⟩ ++ t)) = bs s ++ 46 :: bs t := by
  rw [bs_app, bs_app]; rfl
set_option maxHeartbeats 8000000 in
theorem law_pres (ma1 mi1 pa1 : Int) (s1 : ByteArray) (ma2 mi2 pa2 : Int) (s2 : ByteArray) (s3 : ByteArray) (w : World) (hm : LenAt w) (h1 : 1 < w.heap.size) :
    Calls Tryd.prog 9 #[verV ma1 mi1 pa1 s1, verV ma2 mi2 pa2 s2, .string s3] w fun e w' => e = .returned (.bool true) ∧ Below w.heap.size w w' := by
  obtain ⟨W0, hW0⟩ : ∃ W0, (w.alloc (verC ma1 mi1 pa1 s1)).alloc (verC ma2 mi2 pa2 s2) = W0 := ⟨_, rfl⟩
  have hb0 : Below w.heap.size w W0 := by rw [← hW0]; exact ((Below.refl _ w).alloc (Nat.le_refl _) _).alloc (by simp) _
  have HBX0 : Hid (BoxesAt [(w.heap.size, verC ma1 mi1 pa1 s1), (w.heap.size + 1, verC ma2 mi2 pa2 s2)] W0) := Lib.hid (by
    rw [← hW0]
    have h := ((BoxesAt.nil w).push (verC ma1 mi1 pa1 s1)).push (verC ma2 mi2 pa2 s2)
    rw [World.size_alloc] at h
    intro x hx
    exact h x (by simp at hx ⊢; rcases hx with rfl | rfl <;> simp))
  have HM0 := Lib.hid (hm.below h1 hb0)
  have HAN := Lib.hid (anchor_any W0 HM0.out.1 HM0.out.2)
  have HW0 := Lib.hid hW0
  have HB0 := Lib.hid hb0
  clear hW0 hb0 hm
  go_enter Tryd.func9, Tryd.ntmps9
  go_wp2_with fail
  try rw [show (w.alloc (.cells #[.int .i64 ma1, .int .i64 mi1, .int .i64 pa1, .string s1] 25)).alloc (.cells #[.int .i64 ma2, .int .i64 mi2, .int .i64 pa2, .string s2] 25) = W0 from HW0.out]
  refine HAN.out.mono ?_
  rintro e W1 ⟨rfl, hb⟩
  have HBX1 := Lib.hid (HBX0.out.below hb)
  have HB1 : Hid (Below w.heap.size w W1) := Lib.hid (HB0.out.trans (hb.mono HB0.out.size))
  have HM1 := Lib.hid (HM0.out.1.below HM0.out.2 hb)
  clear hb
  clear HAN
  obtain ⟨x0, x1, x2, x3⟩ := cells4 (HBX1.out.get (w.heap.size) (verC ma1 mi1 pa1 s1) (by simp))
  obtain ⟨y0, y1, y2, y3⟩ := cells4 (HBX1.out.get (w.heap.size + 1) (verC ma2 mi2 pa2 s2) (by simp))
  go_wp2_with fail
  refine (short_any s1 W1).mono ?_
  rintro e w' ⟨rfl, hw⟩
  subst w'
  cases hsh1 : decide (s1.size ≤ 300) with
  | false =>
    go_wp2
    refine bodyPost_ret (results_tmp rfl _ _ _) rfl ⟨rfl, HB1.out⟩
  | true =>
    have HS1 : Hid (s1.size ≤ 300) := Lib.hid (of_decide_eq_true hsh1)
    clear hsh1
    go_wp2_with fail
    refine (short_any s2 W1).mono ?_
    rintro e w' ⟨rfl, hw⟩
    subst w'
    cases hsh2 : decide (s2.size ≤ 300) with
    | false =>
      go_wp2
      refine bodyPost_ret (results_tmp rfl _ _ _) rfl ⟨rfl, HB1.out⟩
    | true =>
      have HS2 : Hid (s2.size ≤ 300) := Lib.hid (of_decide_eq_true hsh2)
      clear hsh2
      go_wp2_with fail
      refine (short_any s3 W1).mono ?_
      rintro e w' ⟨rfl, hw⟩
      subst w'
      cases hsh3 : decide (s3.size ≤ 300) with
      | false =>
        go_wp2
        refine bodyPost_ret (results_tmp rfl _ _ _) rfl ⟨rfl, HB1.out⟩
      | true =>
        have HS3 : Hid (s3.size ≤ 300) := Lib.hid (of_decide_eq_true hsh3)
        clear hsh3
        have HR := Lib.hid (Right_any ma1 mi1 pa1 s1 W1 (by have := HS1.out; omega) HM1.out.1 HM1.out.2)
        go_wp2_with fail
        refine HR.out.mono ?_
        rintro e W2 ⟨rfl, hb⟩
        clear HR
        clear x0 x1 x2 x3 y0 y1 y2 y3
        have HBX2 := Lib.hid (HBX1.out.below hb)
        have HB2 : Hid (Below w.heap.size w W2) := Lib.hid (HB1.out.trans (hb.mono HB1.out.size))
        have HM2 := Lib.hid (HM1.out.1.below HM1.out.2 hb)
        clear hb
        obtain ⟨x0, x1, x2, x3⟩ := cells4 (HBX2.out.get (w.heap.size) (verC ma1 mi1 pa1 s1) (by simp))
        obtain ⟨y0, y1, y2, y3⟩ := cells4 (HBX2.out.get (w.heap.size + 1) (verC ma2 mi2 pa2 s2) (by simp))
        cases hr1 : Ver.right ⟨ma1, mi1, pa1, bs s1⟩ with
        | false =>
          go_wp2
          refine bodyPost_ret (results_tmp rfl _ _ _) rfl ⟨rfl, HB2.out⟩
        | true =>
          clear hr1
          have HR := Lib.hid (Right_any ma2 mi2 pa2 s2 W2 (by have := HS2.out; omega) HM2.out.1 HM2.out.2)
          go_wp2_with fail
          refine HR.out.mono ?_
          rintro e W3 ⟨rfl, hb⟩
          clear HR
          clear x0 x1 x2 x3 y0 y1 y2 y3
          have HBX3 := Lib.hid (HBX2.out.below hb)
          have HB3 : Hid (Below w.heap.size w W3) := Lib.hid (HB2.out.trans (hb.mono HB2.out.size))
          have HM3 := Lib.hid (HM2.out.1.below HM2.out.2 hb)
          clear hb
          obtain ⟨x0, x1, x2, x3⟩ := cells4 (HBX3.out.get (w.heap.size) (verC ma1 mi1 pa1 s1) (by simp))
          obtain ⟨y0, y1, y2, y3⟩ := cells4 (HBX3.out.get (w.heap.size + 1) (verC ma2 mi2 pa2 s2) (by simp))
          cases hr2 : Ver.right ⟨ma2, mi2, pa2, bs s2⟩ with
          | false =>
            go_wp2
            refine bodyPost_ret (results_tmp rfl _ _ _) rfl ⟨rfl, HB3.out⟩
          | true =>
            clear hr2
            have HSE := Lib.hid (show s1.toList.isEmpty = (bs s1).isEmpty by rw [ByteArray.toList_eq])
            cases hee : (bs s1).isEmpty with
            | true =>
              have hse : s1.toList.isEmpty = true := by rw [HSE.out]; exact hee
              clear hee
              go_wp2
              refine bodyPost_ret (results_tmp rfl _ _ _) rfl ⟨rfl, HB3.out⟩
            | false =>
              have hse : s1.toList.isEmpty = false := by rw [HSE.out]; exact hee
              have HNE : Hid (bs s1 ≠ []) := Lib.hid (fun e => by rw [e] at hee; cases hee)
              clear hee
              clear x0 x1 x2 x3 y0 y1 y2 y3
              obtain ⟨u0, u1, u2, u3⟩ := cells4 (HBX3.out.get (w.heap.size) (verC ma1 mi1 pa1 s1) (by simp))
              obtain ⟨W4, hW4⟩ : ∃ W4, W3.alloc (verC ma1 mi1 pa1 ⟨#[]⟩) = W4 := ⟨_, rfl⟩
              have HBX4 : Hid (BoxesAt [(W3.heap.size, verC ma1 mi1 pa1 ⟨#[]⟩), (w.heap.size, verC ma1 mi1 pa1 s1), (w.heap.size + 1, verC ma2 mi2 pa2 s2)] W4) := Lib.hid (by rw [← hW4]; exact HBX3.out.push _)
              have HB4 : Hid (Below w.heap.size w W4) := Lib.hid (by rw [← hW4]; exact HB3.out.alloc HB3.out.size _)
              have HM4 := Lib.hid (HM3.out.1.below HM3.out.2 (show Below W3.heap.size W3 W4 by rw [← hW4]; exact (Below.refl _ W3).alloc (Nat.le_refl _) _))
              have HW4 := Lib.hid hW4
              obtain ⟨p0, p1, p2, p3⟩ := cells4 (HBX4.out.get (W3.heap.size) (verC ma1 mi1 pa1 ⟨#[]⟩) (by simp))
              obtain ⟨x0, x1, x2, x3⟩ := cells4 (HBX4.out.get (w.heap.size) (verC ma1 mi1 pa1 s1) (by simp))
              obtain ⟨y0, y1, y2, y3⟩ := cells4 (HBX4.out.get (w.heap.size + 1) (verC ma2 mi2 pa2 s2) (by simp))
              rw [← hW4] at p0 p1 p2 p3 x0 x1 x2 x3 y0 y1 y2 y3
              simp only [verC] at p0 p1 p2 p3 x0 x1 x2 x3 y0 y1 y2 y3
              clear hW4
              have HC := Lib.hid (Compare_any ma1 mi1 pa1 s1 ma1 mi1 pa1 ⟨#[]⟩ W4 (by have := HS1.out; omega) (by decide) HM4.out.1 HM4.out.2)
              go_wp2_with fail
              try rw [show W3.alloc (.cells #[.int .i64 ma1, .int .i64 mi1, .int .i64 pa1, .string ⟨#[]⟩] 25) = W4 from HW4.out]
              clear u0 u1 u2 u3
              clear p0 p1 p2 p3 x0 x1 x2 x3 y0 y1 y2 y3
              refine HC.out.mono ?_
              rintro e W5 ⟨rfl, hb⟩
              clear HC
              have HBX5 := Lib.hid (HBX4.out.below hb)
              have HB5 : Hid (Below w.heap.size w W5) := Lib.hid (HB4.out.trans (hb.mono HB4.out.size))
              have HM5 := Lib.hid (HM4.out.1.below HM4.out.2 hb)
              clear hb
              rw [show cmpV ⟨ma1, mi1, pa1, bs s1⟩ ⟨ma1, mi1, pa1, bs ⟨#[]⟩⟩ = -1 from cmpV_pre (cmpPre_bare HNE.out)]
              obtain ⟨u0, u1, u2, u3⟩ := cells4 (HBX5.out.get (w.heap.size + 1) (verC ma2 mi2 pa2 s2) (by simp))
              obtain ⟨W6, hW6⟩ : ∃ W6, W5.alloc (verC ma2 mi2 pa2 ⟨#[]⟩) = W6 := ⟨_, rfl⟩
              have HBX6 : Hid (BoxesAt [(W5.heap.size, verC ma2 mi2 pa2 ⟨#[]⟩), (W3.heap.size, verC ma1 mi1 pa1 ⟨#[]⟩), (w.heap.size, verC ma1 mi1 pa1 s1), (w.heap.size + 1, verC ma2 mi2 pa2 s2)] W6) := Lib.hid (by rw [← hW6]; exact HBX5.out.push _)
              have HB6 : Hid (Below w.heap.size w W6) := Lib.hid (by rw [← hW6]; exact HB5.out.alloc HB5.out.size _)
              have HM6 := Lib.hid (HM5.out.1.below HM5.out.2 (show Below W5.heap.size W5 W6 by rw [← hW6]; exact (Below.refl _ W5).alloc (Nat.le_refl _) _))
              have HW6 := Lib.hid hW6
              obtain ⟨q0, q1, q2, q3⟩ := cells4 (HBX6.out.get (W5.heap.size) (verC ma2 mi2 pa2 ⟨#[]⟩) (by simp))
              obtain ⟨p0, p1, p2, p3⟩ := cells4 (HBX6.out.get (W3.heap.size) (verC ma1 mi1 pa1 ⟨#[]⟩) (by simp))
              obtain ⟨x0, x1, x2, x3⟩ := cells4 (HBX6.out.get (w.heap.size) (verC ma1 mi1 pa1 s1) (by simp))
              obtain ⟨y0, y1, y2, y3⟩ := cells4 (HBX6.out.get (w.heap.size + 1) (verC ma2 mi2 pa2 s2) (by simp))
              rw [← hW6] at q0 q1 q2 q3 p0 p1 p2 p3 x0 x1 x2 x3 y0 y1 y2 y3
              simp only [verC] at q0 q1 q2 q3 p0 p1 p2 p3 x0 x1 x2 x3 y0 y1 y2 y3
              clear hW6
              have HC := Lib.hid (Compare_any ma2 mi2 pa2 ⟨#[]⟩ ma1 mi1 pa1 ⟨#[]⟩ W6 (by decide) (by decide) HM6.out.1 HM6.out.2)
              go_wp2_with fail
              try rw [show W5.alloc (.cells #[.int .i64 ma2, .int .i64 mi2, .int .i64 pa2, .string ⟨#[]⟩] 25) = W6 from HW6.out]
              clear u0 u1 u2 u3
              clear q0 q1 q2 q3 p0 p1 p2 p3 x0 x1 x2 x3 y0 y1 y2 y3
              refine HC.out.mono ?_
              rintro e W7 ⟨rfl, hb⟩
              clear HC
              have HBX7 := Lib.hid (HBX6.out.below hb)
              have HB7 : Hid (Below w.heap.size w W7) := Lib.hid (HB6.out.trans (hb.mono HB6.out.size))
              have HM7 := Lib.hid (HM6.out.1.below HM6.out.2 hb)
              clear hb
              obtain ⟨z, hz⟩ : ∃ z, cmpV ⟨ma2, mi2, pa2, bs ⟨#[]⟩⟩ ⟨ma1, mi1, pa1, bs ⟨#[]⟩⟩ = z := ⟨_, rfl⟩
              rw [hz]
              by_cases hz1 : z = -1
              · subst hz1
                have HLO : Hid (cmpV ⟨ma2, mi2, pa2, bs s2⟩ ⟨ma1, mi1, pa1, bs s1⟩ = -1) := Lib.hid (cmpV_low hz)
                clear hz
                obtain ⟨x0, x1, x2, x3⟩ := cells4 (HBX7.out.get (w.heap.size) (verC ma1 mi1 pa1 s1) (by simp))
                obtain ⟨y0, y1, y2, y3⟩ := cells4 (HBX7.out.get (w.heap.size + 1) (verC ma2 mi2 pa2 s2) (by simp))
                have HC := Lib.hid (Compare_any ma2 mi2 pa2 s2 ma1 mi1 pa1 s1 W7 (by have := HS2.out; omega) (by have := HS1.out; omega) HM7.out.1 HM7.out.2)
                go_wp2_with fail
                refine HC.out.mono ?_
                rintro e W8 ⟨rfl, hb⟩
                clear HC x0 x1 x2 x3 y0 y1 y2 y3
                have HBX8 := Lib.hid (HBX7.out.below hb)
                have HB8 : Hid (Below w.heap.size w W8) := Lib.hid (HB7.out.trans (hb.mono HB7.out.size))
                have HM8 := Lib.hid (HM7.out.1.below HM7.out.2 hb)
                clear hb
                rw [HLO.out]
                obtain ⟨u0, u1, u2, u3⟩ := cells4 (HBX8.out.get (w.heap.size) (verC ma1 mi1 pa1 s1) (by simp))
                have hcat1 := fun (w : World) => run_string_add_sum (P := Tryd.prog) (w := w) ⟨#[46]⟩ s3 (by have := HS3.out; have : (⟨#[46]⟩ : ByteArray).size = 1 := rfl; omega)
                have hcat2 := fun (w : World) => run_string_add_sum (P := Tryd.prog) (w := w) s1 (⟨#[46]⟩ ++ s3) (by have := HS1.out; have := HS3.out; rw [ByteArray.size_append, show (⟨#[46]⟩ : ByteArray).size = 1 from rfl]; omega)
                have HSZ : Hid ((s1 ++ (⟨#[46]⟩ ++ s3)).size < 4294967281) := Lib.hid (by have := HS1.out; have := HS3.out; rw [ByteArray.size_append, ByteArray.size_append, show (⟨#[46]⟩ : ByteArray).size = 1 from rfl]; omega)
                obtain ⟨W9, hW9⟩ : ∃ W9, W8.alloc (verC ma1 mi1 pa1 (s1 ++ (⟨#[46]⟩ ++ s3))) = W9 := ⟨_, rfl⟩
                have HBX9 : Hid (BoxesAt [(W8.heap.size, verC ma1 mi1 pa1 (s1 ++ (⟨#[46]⟩ ++ s3))), (W5.heap.size, verC ma2 mi2 pa2 ⟨#[]⟩), (W3.heap.size, verC ma1 mi1 pa1 ⟨#[]⟩), (w.heap.size, verC ma1 mi1 pa1 s1), (w.heap.size + 1, verC ma2 mi2 pa2 s2)] W9) := Lib.hid (by rw [← hW9]; exact HBX8.out.push _)
                have HB9 : Hid (Below w.heap.size w W9) := Lib.hid (by rw [← hW9]; exact HB8.out.alloc HB8.out.size _)
                have HM9 := Lib.hid (HM8.out.1.below HM8.out.2 (show Below W8.heap.size W8 W9 by rw [← hW9]; exact (Below.refl _ W8).alloc (Nat.le_refl _) _))
                have HW9 := Lib.hid hW9
                have HC := Lib.hid (Right_any ma1 mi1 pa1 (s1 ++ (⟨#[46]⟩ ++ s3)) W9 HSZ.out HM9.out.1 HM9.out.2)
                clear hW9
                go_wp2_with fail
                try rw [show W8.alloc (.cells #[.int .i64 ma1, .int .i64 mi1, .int .i64 pa1, .string (s1 ++ (⟨#[46]⟩ ++ s3))] 25) = W9 from HW9.out]
                clear u0 u1 u2 u3 hcat1 hcat2
                refine HC.out.mono ?_
                rintro e W10 ⟨rfl, hb⟩
                clear HC
                have HBX10 := Lib.hid (HBX9.out.below hb)
                have HB10 : Hid (Below w.heap.size w W10) := Lib.hid (HB9.out.trans (hb.mono HB9.out.size))
                have HM10 := Lib.hid (HM9.out.1.below HM9.out.2 hb)
                clear hb
                have HBS := Lib.hid (bs_more s1 s3)
                cases hrm : Ver.right ⟨ma1, mi1, pa1, bs (s1 ++ (⟨#[46]⟩ ++ s3))⟩ with
                | false =>
                  clear hrm
                  go_wp2
                  refine bodyPost_ret (results_tmp rfl _ _ _) rfl ⟨rfl, HB10.out⟩
                | true =>
                  clear hrm
                  obtain ⟨x0, x1, x2, x3⟩ := cells4 (HBX10.out.get (w.heap.size) (verC ma1 mi1 pa1 s1) (by simp))
                  obtain ⟨r0, r1, r2, r3⟩ := cells4 (HBX10.out.get (W8.heap.size) (verC ma1 mi1 pa1 (s1 ++ (⟨#[46]⟩ ++ s3))) (by simp))
                  have HC := Lib.hid (Compare_any ma1 mi1 pa1 s1 ma1 mi1 pa1 (s1 ++ (⟨#[46]⟩ ++ s3)) W10 (by have := HS1.out; omega) HSZ.out HM10.out.1 HM10.out.2)
                  go_wp2_with fail
                  refine HC.out.mono ?_
                  rintro e W11 ⟨rfl, hb⟩
                  clear HC x0 x1 x2 x3 r0 r1 r2 r3
                  have HBX11 := Lib.hid (HBX10.out.below hb)
                  have HB11 : Hid (Below w.heap.size w W11) := Lib.hid (HB10.out.trans (hb.mono HB10.out.size))
                  have HM11 := Lib.hid (HM10.out.1.below HM10.out.2 hb)
                  clear hb
                  rw [show cmpV ⟨ma1, mi1, pa1, bs s1⟩ ⟨ma1, mi1, pa1, bs (s1 ++ (⟨#[46]⟩ ++ s3))⟩ = -1 from by rw [HBS.out]; exact cmpV_pre (cmpPre_more HNE.out)]
                  obtain ⟨p0, p1, p2, p3⟩ := cells4 (HBX11.out.get (W3.heap.size) (verC ma1 mi1 pa1 ⟨#[]⟩) (by simp))
                  obtain ⟨r0, r1, r2, r3⟩ := cells4 (HBX11.out.get (W8.heap.size) (verC ma1 mi1 pa1 (s1 ++ (⟨#[46]⟩ ++ s3))) (by simp))
                  have HC := Lib.hid (Compare_any ma1 mi1 pa1 (s1 ++ (⟨#[46]⟩ ++ s3)) ma1 mi1 pa1 ⟨#[]⟩ W11 HSZ.out (by decide) HM11.out.1 HM11.out.2)
                  go_wp2_with fail
                  refine HC.out.mono ?_
                  rintro e W12 ⟨rfl, hb⟩
                  clear HC p0 p1 p2 p3 r0 r1 r2 r3
                  have HBX12 := Lib.hid (HBX11.out.below hb)
                  have HB12 : Hid (Below w.heap.size w W12) := Lib.hid (HB11.out.trans (hb.mono HB11.out.size))
                  have HM12 := Lib.hid (HM11.out.1.below HM11.out.2 hb)
                  clear hb
                  rw [show cmpV ⟨ma1, mi1, pa1, bs (s1 ++ (⟨#[46]⟩ ++ s3))⟩ ⟨ma1, mi1, pa1, bs ⟨#[]⟩⟩ = -1 from by rw [HBS.out]; exact cmpV_pre (cmpPre_bare (by simp))]
                  go_wp2
                  refine bodyPost_ret (results_tmp rfl _ _ _) rfl ⟨rfl, HB12.out⟩
              · have dz : (z == -1) = false := by rw [beq_eq_false_iff_ne]; exact hz1
                clear hz
                obtain ⟨u0, u1, u2, u3⟩ := cells4 (HBX7.out.get (w.heap.size) (verC ma1 mi1 pa1 s1) (by simp))
                have hcat1 := fun (w : World) => run_string_add_sum (P := Tryd.prog) (w := w) ⟨#[46]⟩ s3 (by have := HS3.out; have : (⟨#[46]⟩ : ByteArray).size = 1 := rfl; omega)
                have hcat2 := fun (w : World) => run_string_add_sum (P := Tryd.prog) (w := w) s1 (⟨#[46]⟩ ++ s3) (by have := HS1.out; have := HS3.out; rw [ByteArray.size_append, show (⟨#[46]⟩ : ByteArray).size = 1 from rfl]; omega)
                have HSZ : Hid ((s1 ++ (⟨#[46]⟩ ++ s3)).size < 4294967281) := Lib.hid (by have := HS1.out; have := HS3.out; rw [ByteArray.size_append, ByteArray.size_append, show (⟨#[46]⟩ : ByteArray).size = 1 from rfl]; omega)
                obtain ⟨W8, hW8⟩ : ∃ W8, W7.alloc (verC ma1 mi1 pa1 (s1 ++ (⟨#[46]⟩ ++ s3))) = W8 := ⟨_, rfl⟩
                have HBX8 : Hid (BoxesAt [(W7.heap.size, verC ma1 mi1 pa1 (s1 ++ (⟨#[46]⟩ ++ s3))), (W5.heap.size, verC ma2 mi2 pa2 ⟨#[]⟩), (W3.heap.size, verC ma1 mi1 pa1 ⟨#[]⟩), (w.heap.size, verC ma1 mi1 pa1 s1), (w.heap.size + 1, verC ma2 mi2 pa2 s2)] W8) := Lib.hid (by rw [← hW8]; exact HBX7.out.push _)
                have HB8 : Hid (Below w.heap.size w W8) := Lib.hid (by rw [← hW8]; exact HB7.out.alloc HB7.out.size _)
                have HM8 := Lib.hid (HM7.out.1.below HM7.out.2 (show Below W7.heap.size W7 W8 by rw [← hW8]; exact (Below.refl _ W7).alloc (Nat.le_refl _) _))
                have HW8 := Lib.hid hW8
                have HC := Lib.hid (Right_any ma1 mi1 pa1 (s1 ++ (⟨#[46]⟩ ++ s3)) W8 HSZ.out HM8.out.1 HM8.out.2)
                clear hW8
                go_wp2_with fail
                try rw [show W7.alloc (.cells #[.int .i64 ma1, .int .i64 mi1, .int .i64 pa1, .string (s1 ++ (⟨#[46]⟩ ++ s3))] 25) = W8 from HW8.out]
                clear u0 u1 u2 u3 hcat1 hcat2
                refine HC.out.mono ?_
                rintro e W9 ⟨rfl, hb⟩
                clear HC
                have HBX9 := Lib.hid (HBX8.out.below hb)
                have HB9 : Hid (Below w.heap.size w W9) := Lib.hid (HB8.out.trans (hb.mono HB8.out.size))
                have HM9 := Lib.hid (HM8.out.1.below HM8.out.2 hb)
                clear hb
                have HBS := Lib.hid (bs_more s1 s3)
                cases hrm : Ver.right ⟨ma1, mi1, pa1, bs (s1 ++ (⟨#[46]⟩ ++ s3))⟩ with
                | false =>
                  clear hrm
                  go_wp2
                  refine bodyPost_ret (results_tmp rfl _ _ _) rfl ⟨rfl, HB9.out⟩
                | true =>
                  clear hrm
                  obtain ⟨x0, x1, x2, x3⟩ := cells4 (HBX9.out.get (w.heap.size) (verC ma1 mi1 pa1 s1) (by simp))
                  obtain ⟨r0, r1, r2, r3⟩ := cells4 (HBX9.out.get (W7.heap.size) (verC ma1 mi1 pa1 (s1 ++ (⟨#[46]⟩ ++ s3))) (by simp))
                  have HC := Lib.hid (Compare_any ma1 mi1 pa1 s1 ma1 mi1 pa1 (s1 ++ (⟨#[46]⟩ ++ s3)) W9 (by have := HS1.out; omega) HSZ.out HM9.out.1 HM9.out.2)
                  go_wp2_with fail
                  refine HC.out.mono ?_
                  rintro e W10 ⟨rfl, hb⟩
                  clear HC x0 x1 x2 x3 r0 r1 r2 r3
                  have HBX10 := Lib.hid (HBX9.out.below hb)
                  have HB10 : Hid (Below w.heap.size w W10) := Lib.hid (HB9.out.trans (hb.mono HB9.out.size))
                  have HM10 := Lib.hid (HM9.out.1.below HM9.out.2 hb)
                  clear hb
                  rw [show cmpV ⟨ma1, mi1, pa1, bs s1⟩ ⟨ma1, mi1, pa1, bs (s1 ++ (⟨#[46]⟩ ++ s3))⟩ = -1 from by rw [HBS.out]; exact cmpV_pre (cmpPre_more HNE.out)]
                  obtain ⟨p0, p1, p2, p3⟩ := cells4 (HBX10.out.get (W3.heap.size) (verC ma1 mi1 pa1 ⟨#[]⟩) (by simp))
                  obtain ⟨r0, r1, r2, r3⟩ := cells4 (HBX10.out.get (W7.heap.size) (verC ma1 mi1 pa1 (s1 ++ (⟨#[46]⟩ ++ s3))) (by simp))
                  have HC := Lib.hid (Compare_any ma1 mi1 pa1 (s1 ++ (⟨#[46]⟩ ++ s3)) ma1 mi1 pa1 ⟨#[]⟩ W10 HSZ.out (by decide) HM10.out.1 HM10.out.2)
                  go_wp2_with fail
                  refine HC.out.mono ?_
                  rintro e W11 ⟨rfl, hb⟩
                  clear HC p0 p1 p2 p3 r0 r1 r2 r3
                  have HBX11 := Lib.hid (HBX10.out.below hb)
                  have HB11 : Hid (Below w.heap.size w W11) := Lib.hid (HB10.out.trans (hb.mono HB10.out.size))
                  have HM11 := Lib.hid (HM10.out.1.below HM10.out.2 hb)
                  clear hb
                  rw [show cmpV ⟨ma1, mi1, pa1, bs (s1 ++ (⟨#[46]⟩ ++ s3))⟩ ⟨ma1, mi1, pa1, bs ⟨#[]⟩⟩ = -1 from by rw [HBS.out]; exact cmpV_pre (cmpPre_bare (by simp))]
                  go_wp2
                  refine bodyPost_ret (results_tmp rfl _ _ _) rfl ⟨rfl, HB11.out⟩
end Go.Proofs.YtbmhjmdbolnbaaaDoor
