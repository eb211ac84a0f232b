/-
  THE LAW RangesTilde (printed by genlawrt.py).
-/
import Derived.Test.YtbmhjmdbolnbaaaDoorRTilP
import Derived.Test.YtbmhjmdbolnbaaaDoorInv
import Derived.Deep.DeepCutAuto
namespace Go.Proofs.YtbmhjmdbolnbaaaDoor
open Go.RowKit
open SemP
set_option linter.unusedVariables false
set_option linter.unusedSimpArgs false
set_option maxRecDepth 100000

/-- The range of one comparison, in memory. -/
def OfAt (w : World) (x : CV) (v : Value) : Prop := ∃ g B, v = .agg #[.slice (some ⟨g, 0, none⟩) 1 1] ∧ B ≤ w.heap.size ∧ RdR w B (some ⟨g, 0, none⟩) 1 [[x]]
theorem OfAt.below {w w' : World} {x : CV} {v : Value} (h : OfAt w x v) (hb : Below w.heap.size w w') : OfAt w' x v := by
  obtain ⟨g, B, e, hB, hr⟩ := h
  exact ⟨g, B, e, Nat.le_trans hB hb.size, hr.below (hb.mono hB)⟩
theorem OfAt.drew {w : World} {x : CV} {v : Value} (h : OfAt w x v) : OfAt { w with drawn := w.drawn + 1 } x v := h
theorem fits_one {x : CV} (h : x.s.size < 4294967281) : Fits [[x]] := by
  intro l hl
  simp at hl
  subst hl
  exact ⟨fun y hy => by simp at hy; subst hy; exact h, by simp⟩
theorem hasOf_any (x : CV) (v : Value) (a b c : Int) (s : ByteArray) (w : World) (ho : OfAt w x v) (hx : x.s.size < 4294967281) (hs : s.size < 4294967281) (hm : LenAt w) (h1 : 1 < w.heap.size) :
    Calls Tryd.prog 36 #[v, verV a b c s] w fun e w' => e = .returned (.bool (hasR [[x]] ⟨a, b, c, bs s⟩)) ∧ Below w.heap.size w w' := by
  obtain ⟨g, B, rfl, hB, hr⟩ := ho
  exact RgHas_any _ 1 1 [[x]] a b c s w B hr hB (fits_one hx) hs (by decide) hm h1
theorem ofAt_any (op a b c : Int) (s : ByteArray) (w : World) :
    Calls Tryd.prog 43 #[.int .i64 op, verV a b c s] w fun e w' => ∃ v, e = .returned v ∧ OfAt w' ⟨op, a, b, c, s⟩ v ∧ Below w.heap.size w w' := by
  refine (of_any op a b c s w).mono ?_
  rintro e w' ⟨g, he, hr, hb⟩
  exact ⟨_, he, ⟨g, w'.heap.size, rfl, Nat.le_refl _, hr⟩, hb⟩
structure TlSt (w0 : World) (ma1 mi1 pa1 : Int) (s1 : ByteArray) (ma2 mi2 pa2 : Int) (s2 : ByteArray) (q6 q7 : Bool) (b0 b1 b2 b3 b4 b5 b6 b7 b8 b9 : Bool) (v5 v6 v29 v30 v31 v32 v33 v34 v35 v36 : Value) (w' : World) : Prop where
  bel : Below w0.heap.size w0 w'
  h0 : b0 = true → v29 = verV ma1 mi1 pa1 s1
  h1 : b1 = true → OfAt w' ⟨6, ma1, mi1, pa1, s1⟩ v30
  h2 : b2 = true → v31 = verV ma2 mi2 pa2 s2
  h3 : b3 = true → v32 = .bool q6
  h4 : b4 = true → v33 = verV ma1 mi1 pa1 s1
  h5 : b5 = true → OfAt w' ⟨7, ma1, mi1, pa1, s1⟩ v34
  h6 : b6 = true → v35 = verV ma2 mi2 pa2 s2
  h7 : b7 = true → v36 = .bool q7
  h8 : b8 = true → v5 = .bool q6
  h9 : b9 = true → v6 = .bool q7
def TlJ (w0 : World) (ma1 mi1 pa1 : Int) (s1 : ByteArray) (ma2 mi2 pa2 : Int) (s2 : ByteArray) (q6 q7 : Bool) (p0 p1 p2 p3 p4 p7 p8 p9 p10 p11 p12 p13 p14 p15 p16 p17 p18 p19 p20 p21 p22 p23 p24 p25 p26 p27 p28 p37 p38 p39 p40 p41 p42 p43 p44 p45 p46 p47 p48 p49 p50 p51 p52 p53 p54 p55 p56 p57 p58 p59 p60 p61 p62 p63 p64 : Value) (l : Array Bool) (a' : Act) (w' : World) : Prop :=
  ∃ (b0 b1 b2 b3 b4 b5 b6 b7 b8 b9 : Bool) (v5 v6 v29 v30 v31 v32 v33 v34 v35 v36 : Value), l = #[b0, b1, b2, b3, b4, b5, b6, b7, b8, b9] ∧ a' = { tmps := List.toArray (p0 :: p1 :: p2 :: p3 :: p4 :: v5 :: v6 :: p7 :: p8 :: p9 :: p10 :: p11 :: p12 :: p13 :: p14 :: p15 :: p16 :: p17 :: p18 :: p19 :: p20 :: p21 :: p22 :: p23 :: p24 :: p25 :: p26 :: p27 :: p28 :: v29 :: v30 :: v31 :: v32 :: v33 :: v34 :: v35 :: v36 :: p37 :: p38 :: p39 :: p40 :: p41 :: p42 :: p43 :: p44 :: p45 :: p46 :: p47 :: p48 :: p49 :: p50 :: p51 :: p52 :: p53 :: p54 :: p55 :: p56 :: p57 :: p58 :: p59 :: p60 :: p61 :: p62 :: p63 :: p64 :: []), defers := [] } ∧ TlSt w0 ma1 mi1 pa1 s1 ma2 mi2 pa2 s2 q6 q7 b0 b1 b2 b3 b4 b5 b6 b7 b8 b9 v5 v6 v29 v30 v31 v32 v33 v34 v35 v36 w'
set_option maxHeartbeats 8000000 in
theorem law_tilde (ma1 mi1 pa1 : Int) (s1 : ByteArray) (ma2 mi2 pa2 : Int) (s2 : ByteArray) (w : World) (hg : SignsAt w) (hm : LenAt w) (h1 : 1 < w.heap.size) :
    Calls Tryd.prog 18 #[verV ma1 mi1 pa1 s1, verV ma2 mi2 pa2 s2] w fun e w' => e = .returned (.bool true) ∧ Below w.heap.size w w' := by
  obtain ⟨W0, hW0⟩ : ∃ W0, (w.alloc (verC ma1 mi1 pa1 s1)).alloc (verC ma2 mi2 pa2 s2) = W0 := ⟨_, rfl⟩
  have hb0 : Below w.heap.size w W0 := by rw [← hW0]; exact ((Below.refl _ w).alloc (Nat.le_refl _) _).alloc (by simp) _
  have HBX0 : Hid (BoxesAt [(w.heap.size, verC ma1 mi1 pa1 s1), (w.heap.size + 1, verC ma2 mi2 pa2 s2)] W0) := Lib.hid (by
    rw [← hW0]
    have h := ((BoxesAt.nil w).push (verC ma1 mi1 pa1 s1)).push (verC ma2 mi2 pa2 s2)
    rw [World.size_alloc] at h
    intro x hx
    exact h x (by simp at hx ⊢; rcases hx with rfl | rfl <;> simp))
  have HM0 := Lib.hid (hm.below h1 hb0)
  have HG0 : Hid (SignsAt W0) := Lib.hid (hg.below hb0 (by omega))
  have HAN := Lib.hid (ranchor_any W0 HG0.out HM0.out.1 HM0.out.2)
  have HW0 := Lib.hid hW0
  have HB0 := Lib.hid hb0
  clear hW0 hb0 hm hg
  go_enter Tryd.func18, Tryd.ntmps18
  go_wp2_with fail
  try rw [show (w.alloc (.cells #[.int .i64 ma1, .int .i64 mi1, .int .i64 pa1, .string s1] 25)).alloc (.cells #[.int .i64 ma2, .int .i64 mi2, .int .i64 pa2, .string s2] 25) = W0 from HW0.out]
  refine HAN.out.mono ?_
  rintro e W1 ⟨rfl, hb⟩
  have HBX1 := Lib.hid (HBX0.out.below hb)
  have HB1 : Hid (Below w.heap.size w W1) := Lib.hid (HB0.out.trans (hb.mono HB0.out.size))
  have HM1 := Lib.hid (HM0.out.1.below HM0.out.2 hb)
  clear hb
  clear HAN
  obtain ⟨x0, x1, x2, x3⟩ := cells4 (HBX1.out.get (w.heap.size) (verC ma1 mi1 pa1 s1) (by simp))
  obtain ⟨y0, y1, y2, y3⟩ := cells4 (HBX1.out.get (w.heap.size + 1) (verC ma2 mi2 pa2 s2) (by simp))
  by_cases hsh1 : 100 < s1.size
  · have dsh1 : decide (100 < (s1.size : Int)) = true := decide_eq_true (by omega)
    go_wp2
    refine bodyPost_ret (results_tmp rfl _ _ _) rfl ⟨rfl, HB1.out⟩
  have HS1 : Hid (s1.size ≤ 100) := Lib.hid (by omega)
  have dsh1 : decide (100 < (s1.size : Int)) = false := decide_eq_false (by omega)
  clear hsh1
  by_cases hsh2 : 100 < s2.size
  · have dsh2 : decide (100 < (s2.size : Int)) = true := decide_eq_true (by omega)
    go_wp2
    refine bodyPost_ret (results_tmp rfl _ _ _) rfl ⟨rfl, HB1.out⟩
  have HS2 : Hid (s2.size ≤ 100) := Lib.hid (by omega)
  have dsh2 : decide (100 < (s2.size : Int)) = false := decide_eq_false (by omega)
  clear hsh2
  have HR := Lib.hid (Right_any ma1 mi1 pa1 s1 W1 (by have := HS1.out; omega) HM1.out.1 HM1.out.2)
  go_wp2_with fail
  refine HR.out.mono ?_
  rintro e W2 ⟨rfl, hb⟩
  clear HR
  clear x0 x1 x2 x3 y0 y1 y2 y3
  have HBX2 := Lib.hid (HBX1.out.below hb)
  have HB2 : Hid (Below w.heap.size w W2) := Lib.hid (HB1.out.trans (hb.mono HB1.out.size))
  have HM2 := Lib.hid (HM1.out.1.below HM1.out.2 hb)
  clear hb
  obtain ⟨x0, x1, x2, x3⟩ := cells4 (HBX2.out.get (w.heap.size) (verC ma1 mi1 pa1 s1) (by simp))
  obtain ⟨y0, y1, y2, y3⟩ := cells4 (HBX2.out.get (w.heap.size + 1) (verC ma2 mi2 pa2 s2) (by simp))
  cases hr1 : Ver.right ⟨ma1, mi1, pa1, bs s1⟩ with
  | false =>
    go_wp2
    refine bodyPost_ret (results_tmp rfl _ _ _) rfl ⟨rfl, HB2.out⟩
  | true =>
    have HR1 := Lib.hid hr1
    clear hr1
    have HR := Lib.hid (Right_any ma2 mi2 pa2 s2 W2 (by have := HS2.out; omega) HM2.out.1 HM2.out.2)
    go_wp2_with fail
    refine HR.out.mono ?_
    rintro e W3 ⟨rfl, hb⟩
    clear HR
    clear x0 x1 x2 x3 y0 y1 y2 y3
    have HBX3 := Lib.hid (HBX2.out.below hb)
    have HB3 : Hid (Below w.heap.size w W3) := Lib.hid (HB2.out.trans (hb.mono HB2.out.size))
    have HM3 := Lib.hid (HM2.out.1.below HM2.out.2 hb)
    clear hb
    obtain ⟨x0, x1, x2, x3⟩ := cells4 (HBX3.out.get (w.heap.size) (verC ma1 mi1 pa1 s1) (by simp))
    obtain ⟨y0, y1, y2, y3⟩ := cells4 (HBX3.out.get (w.heap.size + 1) (verC ma2 mi2 pa2 s2) (by simp))
    cases hr2 : Ver.right ⟨ma2, mi2, pa2, bs s2⟩ with
    | false =>
      go_wp2
      refine bodyPost_ret (results_tmp rfl _ _ _) rfl ⟨rfl, HB3.out⟩
    | true =>
      have HR2 := Lib.hid hr2
      clear hr2
      clear x0 x1 x2 x3 y0 y1 y2 y3
      obtain ⟨q6, hq6⟩ : ∃ q, hasC 6 ⟨ma1, mi1, pa1, bs s1⟩ ⟨ma2, mi2, pa2, bs s2⟩ = q := ⟨_, rfl⟩
      have HQ6 : Hid (hasR [[⟨6, ma1, mi1, pa1, s1⟩]] ⟨ma2, mi2, pa2, bs s2⟩ = q6) := Lib.hid (by rw [← hq6]; exact hasR_one (cv_right (by omega) HR1.out) HR2.out)
      have HC6 := Lib.hid hq6
      clear hq6
      obtain ⟨q7, hq7⟩ : ∃ q, hasC 7 ⟨ma1, mi1, pa1, bs s1⟩ ⟨ma2, mi2, pa2, bs s2⟩ = q := ⟨_, rfl⟩
      have HQ7 : Hid (hasR [[⟨7, ma1, mi1, pa1, s1⟩]] ⟨ma2, mi2, pa2, bs s2⟩ = q7) := Lib.hid (by rw [← hq7]; exact hasR_one (cv_right (by omega) HR1.out) HR2.out)
      have HC7 := Lib.hid hq7
      clear hq7
      have HL0 : Hid (w.heap.size < W3.heap.size) := Lib.hid (HBX3.out _ (by simp : (w.heap.size, verC ma1 mi1 pa1 s1) ∈ _)).1
      have HL1 : Hid (w.heap.size + 1 < W3.heap.size) := Lib.hid (HBX3.out _ (by simp : (w.heap.size + 1, verC ma2 mi2 pa2 s2) ∈ _)).1
      go_wp2_with fail
      go_cut [5, 6] (fun v5 v6 w' => v5 = .bool q6 ∧ v6 = .bool q7 ∧ Below W3.heap.size W3 w')
      case first =>
        refine wp_region_inv (by kernel_rfl) (I := TlJ W3 ma1 mi1 pa1 s1 ma2 mi2 pa2 s2 q6 q7 _ _ _ _ _ _ _ _ _ _ _ _ _ _ _ _ _ _ _ _ _ _ _ _ _ _ _ _ _ _ _ _ _ _ _ _ _ _ _ _ _ _ _ _ _ _ _ _ _ _ _ _ _ _ _) ⟨false, false, false, false, false, false, false, false, false, false, _, _, _, _, _, _, _, _, _, _, rfl, rfl, ⟨(Below.refl _ W3).drew, nofun, nofun, nofun, nofun, nofun, nofun, nofun, nofun, nofun, nofun⟩⟩ ?step ?fin
        case step =>
          rintro l a' w' i ⟨b0, b1, b2, b3, b4, b5, b6, b7, b8, b9, v5, v6, v29, v30, v31, v32, v33, v34, v35, v36, rfl, rfl, HT⟩ hi
          obtain ⟨hi_, hib⟩ := ready_lt hi
          have HTH := Lib.hid HT
          match i, hi_, hi, hib with
          | 0, _, hi, hib =>
            obtain ⟨x0, x1, x2, x3⟩ := cells4 ((HT.bel.block _ HL0.out).trans (HBX3.out.get (w.heap.size) (verC ma1 mi1 pa1 s1) (by simp)))
            clear HT
            refine wpOp_one rfl rfl (fun K hK => ?_)
            go_simp
            exact hK.out _ _ ⟨true, b1, b2, b3, b4, b5, b6, b7, b8, b9, _, _, _, _, _, _, _, _, _, _, rfl, rfl, { HTH.out with h0 := fun _ => rfl }⟩
          | 1, _, hi, hib =>
            have d0 : b0 = true := ready_dep hi rfl 0 (by kernel_rfl)
            obtain rfl := HT.h0 d0
            have HC := Lib.hid (ofAt_any 6 ma1 mi1 pa1 s1 w')
            clear HT
            refine wpOp_one rfl rfl (fun K hK => ?_)
            go_simp
            refine HC.out.mono ?_
            rintro e w2 ⟨v, rfl, ho, hb⟩
            exact hK.out _ _ ⟨b0, true, b2, b3, b4, b5, b6, b7, b8, b9, _, _, _, _, _, _, _, _, _, _, rfl, rfl, { HTH.out with bel := HTH.out.bel.trans (hb.mono HTH.out.bel.size), h1 := fun _ => ho, h5 := fun h => (HTH.out.h5 h).below hb }⟩
          | 2, _, hi, hib =>
            obtain ⟨x0, x1, x2, x3⟩ := cells4 ((HT.bel.block _ HL1.out).trans (HBX3.out.get (w.heap.size + 1) (verC ma2 mi2 pa2 s2) (by simp)))
            clear HT
            refine wpOp_one rfl rfl (fun K hK => ?_)
            go_simp
            exact hK.out _ _ ⟨b0, b1, true, b3, b4, b5, b6, b7, b8, b9, _, _, _, _, _, _, _, _, _, _, rfl, rfl, { HTH.out with h2 := fun _ => rfl }⟩
          | 3, _, hi, hib =>
            have d1 : b1 = true := ready_dep hi rfl 1 (by kernel_rfl)
            have HO := Lib.hid (HT.h1 d1)
            have d2 : b2 = true := ready_dep hi rfl 2 (by kernel_rfl)
            obtain rfl := HT.h2 d2
            have hM := HM3.out.1.below HM3.out.2 HT.bel
            have HC := Lib.hid (hasOf_any ⟨6, ma1, mi1, pa1, s1⟩ _ ma2 mi2 pa2 s2 w' HO.out (by have := HS1.out; show s1.size < _; omega) (by have := HS2.out; omega) hM.1 hM.2)
            rw [HQ6.out] at HC
            clear hM
            clear HT
            refine wpOp_one rfl rfl (fun K hK => ?_)
            go_simp
            refine HC.out.mono ?_
            rintro e w2 ⟨rfl, hb⟩
            exact hK.out _ _ ⟨b0, b1, b2, true, b4, b5, b6, b7, b8, b9, _, _, _, _, _, _, _, _, _, _, rfl, rfl, { HTH.out with bel := HTH.out.bel.trans (hb.mono HTH.out.bel.size), h3 := fun _ => rfl, h1 := fun h => (HTH.out.h1 h).below hb, h5 := fun h => (HTH.out.h5 h).below hb }⟩
          | 4, _, hi, hib =>
            obtain ⟨x0, x1, x2, x3⟩ := cells4 ((HT.bel.block _ HL0.out).trans (HBX3.out.get (w.heap.size) (verC ma1 mi1 pa1 s1) (by simp)))
            clear HT
            refine wpOp_one rfl rfl (fun K hK => ?_)
            go_simp
            exact hK.out _ _ ⟨b0, b1, b2, b3, true, b5, b6, b7, b8, b9, _, _, _, _, _, _, _, _, _, _, rfl, rfl, { HTH.out with h4 := fun _ => rfl }⟩
          | 5, _, hi, hib =>
            have d4 : b4 = true := ready_dep hi rfl 4 (by kernel_rfl)
            obtain rfl := HT.h4 d4
            have HC := Lib.hid (ofAt_any 7 ma1 mi1 pa1 s1 w')
            clear HT
            refine wpOp_one rfl rfl (fun K hK => ?_)
            go_simp
            refine HC.out.mono ?_
            rintro e w2 ⟨v, rfl, ho, hb⟩
            exact hK.out _ _ ⟨b0, b1, b2, b3, b4, true, b6, b7, b8, b9, _, _, _, _, _, _, _, _, _, _, rfl, rfl, { HTH.out with bel := HTH.out.bel.trans (hb.mono HTH.out.bel.size), h5 := fun _ => ho, h1 := fun h => (HTH.out.h1 h).below hb }⟩
          | 6, _, hi, hib =>
            obtain ⟨x0, x1, x2, x3⟩ := cells4 ((HT.bel.block _ HL1.out).trans (HBX3.out.get (w.heap.size + 1) (verC ma2 mi2 pa2 s2) (by simp)))
            clear HT
            refine wpOp_one rfl rfl (fun K hK => ?_)
            go_simp
            exact hK.out _ _ ⟨b0, b1, b2, b3, b4, b5, true, b7, b8, b9, _, _, _, _, _, _, _, _, _, _, rfl, rfl, { HTH.out with h6 := fun _ => rfl }⟩
          | 7, _, hi, hib =>
            have d5 : b5 = true := ready_dep hi rfl 5 (by kernel_rfl)
            have HO := Lib.hid (HT.h5 d5)
            have d6 : b6 = true := ready_dep hi rfl 6 (by kernel_rfl)
            obtain rfl := HT.h6 d6
            have hM := HM3.out.1.below HM3.out.2 HT.bel
            have HC := Lib.hid (hasOf_any ⟨7, ma1, mi1, pa1, s1⟩ _ ma2 mi2 pa2 s2 w' HO.out (by have := HS1.out; show s1.size < _; omega) (by have := HS2.out; omega) hM.1 hM.2)
            rw [HQ7.out] at HC
            clear hM
            clear HT
            refine wpOp_one rfl rfl (fun K hK => ?_)
            go_simp
            refine HC.out.mono ?_
            rintro e w2 ⟨rfl, hb⟩
            exact hK.out _ _ ⟨b0, b1, b2, b3, b4, b5, b6, true, b8, b9, _, _, _, _, _, _, _, _, _, _, rfl, rfl, { HTH.out with bel := HTH.out.bel.trans (hb.mono HTH.out.bel.size), h7 := fun _ => rfl, h1 := fun h => (HTH.out.h1 h).below hb, h5 := fun h => (HTH.out.h5 h).below hb }⟩
          | 8, _, hi, hib =>
            have d3 : b3 = true := ready_dep hi rfl 3 (by kernel_rfl)
            obtain rfl := HT.h3 d3
            clear HT
            refine wpOp_one rfl rfl (fun K hK => ?_)
            go_simp
            exact hK.out _ _ ⟨b0, b1, b2, b3, b4, b5, b6, b7, true, b9, _, _, _, _, _, _, _, _, _, _, rfl, rfl, { HTH.out with h8 := fun _ => rfl }⟩
          | 9, _, hi, hib =>
            have d7 : b7 = true := ready_dep hi rfl 7 (by kernel_rfl)
            obtain rfl := HT.h7 d7
            clear HT
            refine wpOp_one rfl rfl (fun K hK => ?_)
            go_simp
            exact hK.out _ _ ⟨b0, b1, b2, b3, b4, b5, b6, b7, b8, true, _, _, _, _, _, _, _, _, _, _, rfl, rfl, { HTH.out with h9 := fun _ => rfl }⟩
        case fin =>
          rintro l a' w' ⟨b0, b1, b2, b3, b4, b5, b6, b7, b8, b9, v5, v6, v29, v30, v31, v32, v33, v34, v35, v36, rfl, rfl, HT⟩ hr
          obtain rfl : b0 = true := by
            cases b0 with
            | true => rfl
            | false => exact (ready_in 0 rfl rfl (by simp [Region.binds]) hr).elim
          obtain rfl : b1 = true := by
            cases b1 with
            | true => rfl
            | false => exact (ready_in 1 rfl rfl (by simp [Region.binds]) hr).elim
          obtain rfl : b2 = true := by
            cases b2 with
            | true => rfl
            | false => exact (ready_in 2 rfl rfl (by simp [Region.binds]) hr).elim
          obtain rfl : b3 = true := by
            cases b3 with
            | true => rfl
            | false => exact (ready_in 3 rfl rfl (by simp [Region.binds]) hr).elim
          obtain rfl : b4 = true := by
            cases b4 with
            | true => rfl
            | false => exact (ready_in 4 rfl rfl (by simp [Region.binds]) hr).elim
          obtain rfl : b5 = true := by
            cases b5 with
            | true => rfl
            | false => exact (ready_in 5 rfl rfl (by simp [Region.binds]) hr).elim
          obtain rfl : b6 = true := by
            cases b6 with
            | true => rfl
            | false => exact (ready_in 6 rfl rfl (by simp [Region.binds]) hr).elim
          obtain rfl : b7 = true := by
            cases b7 with
            | true => rfl
            | false => exact (ready_in 7 rfl rfl (by simp [Region.binds]) hr).elim
          obtain rfl : b8 = true := by
            cases b8 with
            | true => rfl
            | false => exact (ready_in 8 rfl rfl (by simp [Region.binds]) hr).elim
          obtain rfl : b9 = true := by
            cases b9 with
            | true => rfl
            | false => exact (ready_in 9 rfl rfl (by simp [Region.binds]) hr).elim
          obtain rfl := HT.h0 rfl
          obtain rfl := HT.h2 rfl
          obtain rfl := HT.h3 rfl
          obtain rfl := HT.h4 rfl
          obtain rfl := HT.h6 rfl
          obtain rfl := HT.h7 rfl
          obtain rfl := HT.h8 rfl
          obtain rfl := HT.h9 rfl
          have HF := HT.bel
          clear HT hr
          show _
          go_wp2_with fail
          go_meet
          exact ⟨rfl, rfl, HF⟩
      case rest =>
        obtain ⟨rfl, rfl, hb⟩ := hcut
        rename World => W4
        have HBX4 := Lib.hid (HBX3.out.below hb)
        have HB4 : Hid (Below w.heap.size w W4) := Lib.hid (HB3.out.trans (hb.mono HB3.out.size))
        have HM4 := Lib.hid (HM3.out.1.below HM3.out.2 hb)
        clear hb
        obtain ⟨x0, x1, x2, x3⟩ := cells4 (HBX4.out.get (w.heap.size) (verC ma1 mi1 pa1 s1) (by simp))
        by_cases ha : 0 < ma1
        · have da : decide (0 < ma1) = true := decide_eq_true ha
          by_cases hb9 : mi1 < 999999
          · have db : decide (mi1 < 999999) = true := decide_eq_true hb9
            have HIM : Hid (q7 = true → q6 = true) := Lib.hid (fun h => by rw [← HC6.out]; exact tilde_caret HR1.out ha hb9 (by rw [HC7.out]; exact h))
            clear ha hb9
            cases q7 with
            | true =>
              obtain rfl : q6 = true := HIM.out rfl
              go_wp2
              refine bodyPost_ret (results_tmp rfl _ _ _) rfl ⟨rfl, HB4.out⟩
            | false =>
              go_wp2
              refine bodyPost_ret (results_tmp rfl _ _ _) rfl ⟨rfl, HB4.out⟩
          · have db : decide (mi1 < 999999) = false := decide_eq_false hb9
            clear ha hb9
            go_wp2
            refine bodyPost_ret (results_tmp rfl _ _ _) rfl ⟨rfl, HB4.out⟩
        · have da : decide (0 < ma1) = false := decide_eq_false ha
          by_cases h9 : pa1 = 999999
          · subst h9
            clear ha
            cases q6 with
            | false =>
              go_wp2
              refine bodyPost_ret (results_tmp rfl _ _ _) rfl ⟨rfl, HB4.out⟩
            | true =>
              cases q7 with
              | true =>
                go_wp2
                refine bodyPost_ret (results_tmp rfl _ _ _) rfl ⟨rfl, HB4.out⟩
              | false =>
                go_wp2
                refine bodyPost_ret (results_tmp rfl _ _ _) rfl ⟨rfl, HB4.out⟩
          · have d9 : (pa1 == 999999) = false := by rw [beq_eq_false_iff_ne]; exact h9
            have HIM : Hid (q6 = true → q7 = true) := Lib.hid (fun h => by rw [← HC7.out]; exact caret_tilde HR1.out ha h9 (by rw [HC6.out]; exact h))
            clear ha h9
            cases q6 with
            | true =>
              obtain rfl : q7 = true := HIM.out rfl
              go_wp2
              refine bodyPost_ret (results_tmp rfl _ _ _) rfl ⟨rfl, HB4.out⟩
            | false =>
              go_wp2
              refine bodyPost_ret (results_tmp rfl _ _ _) rfl ⟨rfl, HB4.out⟩
end Go.Proofs.YtbmhjmdbolnbaaaDoor
