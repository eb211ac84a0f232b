/-
  THE LAW SemverOrder (printed by genlawo.py).
-/
import Derived.Test.YtbmhjmdbolnbaaaDoorSBump
import Derived.Test.YtbmhjmdbolnbaaaDoorSRefS
import Derived.Test.YtbmhjmdbolnbaaaDoorInv
import Derived.Test.YtbmhjmdbolnbaaaDoorSEq
namespace Go.Proofs.YtbmhjmdbolnbaaaDoor
open Go.RowKit
open SemP
set_option linter.unusedVariables false
set_option linter.unusedSimpArgs false
set_option maxRecDepth 100000
attribute [local go_sem ↓] eqVer

structure OrdSt (w0 : World) (ma1 mi1 pa1 : Int) (s1 : ByteArray) (ma2 mi2 pa2 : Int) (s2 : ByteArray) (ma3 mi3 pa3 : Int) (s3 : ByteArray) (b0 b1 b2 b3 b4 b5 b6 b7 b8 b9 b10 b11 : Bool) (v7 v8 v9 v43 v44 v45 v46 v47 v48 v49 v50 v51 : Value) (w' : World) : Prop where
  bel : Below w0.heap.size w0 w'
  h0 : b0 = true → v43 = verV ma1 mi1 pa1 s1
  h1 : b1 = true → v44 = verV ma2 mi2 pa2 s2
  h2 : b2 = true → v45 = .int .i64 (cmpV ⟨ma1, mi1, pa1, bs s1⟩ ⟨ma2, mi2, pa2, bs s2⟩)
  h3 : b3 = true → v46 = verV ma2 mi2 pa2 s2
  h4 : b4 = true → v47 = verV ma3 mi3 pa3 s3
  h5 : b5 = true → v48 = .int .i64 (cmpV ⟨ma2, mi2, pa2, bs s2⟩ ⟨ma3, mi3, pa3, bs s3⟩)
  h6 : b6 = true → v49 = verV ma1 mi1 pa1 s1
  h7 : b7 = true → v50 = verV ma3 mi3 pa3 s3
  h8 : b8 = true → v51 = .int .i64 (cmpV ⟨ma1, mi1, pa1, bs s1⟩ ⟨ma3, mi3, pa3, bs s3⟩)
  h9 : b9 = true → v7 = .int .i64 (cmpV ⟨ma1, mi1, pa1, bs s1⟩ ⟨ma2, mi2, pa2, bs s2⟩)
  h10 : b10 = true → v8 = .int .i64 (cmpV ⟨ma2, mi2, pa2, bs s2⟩ ⟨ma3, mi3, pa3, bs s3⟩)
  h11 : b11 = true → v9 = .int .i64 (cmpV ⟨ma1, mi1, pa1, bs s1⟩ ⟨ma3, mi3, pa3, bs s3⟩)
def OrdJ (w0 : World) (ma1 mi1 pa1 : Int) (s1 : ByteArray) (ma2 mi2 pa2 : Int) (s2 : ByteArray) (ma3 mi3 pa3 : Int) (s3 : ByteArray) (p0 p1 p2 p3 p4 p5 p6 p10 p11 p12 p13 p14 p15 p16 p17 p18 p19 p20 p21 p22 p23 p24 p25 p26 p27 p28 p29 p30 p31 p32 p33 p34 p35 p36 p37 p38 p39 p40 p41 p42 p52 p53 p54 p55 p56 p57 p58 p59 p60 p61 p62 p63 p64 p65 p66 p67 p68 p69 p70 p71 p72 p73 p74 p75 p76 p77 p78 p79 p80 p81 p82 p83 p84 p85 p86 p87 p88 p89 p90 p91 p92 p93 p94 p95 p96 p97 p98 p99 : Value) (l : Array Bool) (a' : Act) (w' : World) : Prop :=
  ∃ (b0 b1 b2 b3 b4 b5 b6 b7 b8 b9 b10 b11 : Bool) (v7 v8 v9 v43 v44 v45 v46 v47 v48 v49 v50 v51 : Value), l = #[b0, b1, b2, b3, b4, b5, b6, b7, b8, b9, b10, b11] ∧ a' = { tmps := List.toArray (p0 :: p1 :: p2 :: p3 :: p4 :: p5 :: p6 :: v7 :: v8 :: v9 :: p10 :: p11 :: p12 :: p13 :: p14 :: p15 :: p16 :: p17 :: p18 :: p19 :: p20 :: p21 :: p22 :: p23 :: p24 :: p25 :: p26 :: p27 :: p28 :: p29 :: p30 :: p31 :: p32 :: p33 :: p34 :: p35 :: p36 :: p37 :: p38 :: p39 :: p40 :: p41 :: p42 :: v43 :: v44 :: v45 :: v46 :: v47 :: v48 :: v49 :: v50 :: v51 :: p52 :: p53 :: p54 :: p55 :: p56 :: p57 :: p58 :: p59 :: p60 :: p61 :: p62 :: p63 :: p64 :: p65 :: p66 :: p67 :: p68 :: p69 :: p70 :: p71 :: p72 :: p73 :: p74 :: p75 :: p76 :: p77 :: p78 :: p79 :: p80 :: p81 :: p82 :: p83 :: p84 :: p85 :: p86 :: p87 :: p88 :: p89 :: p90 :: p91 :: p92 :: p93 :: p94 :: p95 :: p96 :: p97 :: p98 :: p99 :: []), defers := [] } ∧ OrdSt w0 ma1 mi1 pa1 s1 ma2 mi2 pa2 s2 ma3 mi3 pa3 s3 b0 b1 b2 b3 b4 b5 b6 b7 b8 b9 b10 b11 v7 v8 v9 v43 v44 v45 v46 v47 v48 v49 v50 v51 w'

set_option maxHeartbeats 8000000 in
theorem law_order (ma1 mi1 pa1 : Int) (s1 : ByteArray) (ma2 mi2 pa2 : Int) (s2 : ByteArray) (ma3 mi3 pa3 : Int) (s3 : ByteArray) (w : World) (hm : LenAt w) (h1 : 1 < w.heap.size) :
    Calls Tryd.prog 6 #[verV ma1 mi1 pa1 s1, verV ma2 mi2 pa2 s2, verV ma3 mi3 pa3 s3] w fun e w' => e = .returned (.bool true) ∧ Below w.heap.size w w' := by
  obtain ⟨W0, hW0⟩ : ∃ W0, ((w.alloc (verC ma1 mi1 pa1 s1)).alloc (verC ma2 mi2 pa2 s2)).alloc (verC ma3 mi3 pa3 s3) = W0 := ⟨_, rfl⟩
  have hz0 : W0.heap.size = w.heap.size + 3 := by rw [← hW0]; simp
  have hb0 : Below w.heap.size w W0 := by rw [← hW0]; exact (((Below.refl _ w).alloc (Nat.le_refl _) _).alloc (by simp) _).alloc (by simp; omega) _
  have HX0 : Hid (W0.heap[w.heap.size]? = some (verC ma1 mi1 pa1 s1)) := Lib.hid (by
    rw [← hW0, Below.heap_alloc _ _ _ (by simp; omega), Below.heap_alloc _ _ _ (by simp)]; exact World.alloc_heap_new _ _)
  have HX1 : Hid (W0.heap[w.heap.size + 1]? = some (verC ma2 mi2 pa2 s2)) := Lib.hid (by
    rw [← hW0, Below.heap_alloc _ _ _ (by simp)]
    have := World.alloc_heap_new (w.alloc (verC ma1 mi1 pa1 s1)) (verC ma2 mi2 pa2 s2)
    rw [World.size_alloc] at this; exact this)
  have HX2 : Hid (W0.heap[w.heap.size + 2]? = some (verC ma3 mi3 pa3 s3)) := Lib.hid (by
    rw [← hW0]
    have := World.alloc_heap_new ((w.alloc (verC ma1 mi1 pa1 s1)).alloc (verC ma2 mi2 pa2 s2)) (verC ma3 mi3 pa3 s3)
    rw [World.size_alloc, World.size_alloc] at this; exact this)
  have HLT : Hid (∀ k, k < 3 → w.heap.size + k < W0.heap.size) := Lib.hid (fun k hk => by omega)
  have HLT0 : Hid (w.heap.size < W0.heap.size) := Lib.hid (by omega)
  have HM0 := Lib.hid (hm.below h1 hb0)
  have HAN := Lib.hid (anchor_any W0 HM0.out.1 HM0.out.2)
  have HW0 := Lib.hid hW0
  have HB0 := Lib.hid hb0
  have HZ0 := Lib.hid hz0
  clear hW0 hb0 hm hz0
  go_enter Tryd.func6, Tryd.ntmps6
  go_wp2_with fail
  try rw [show ((w.alloc (.cells #[.int .i64 ma1, .int .i64 mi1, .int .i64 pa1, .string s1] 25)).alloc (.cells #[.int .i64 ma2, .int .i64 mi2, .int .i64 pa2, .string s2] 25)).alloc (.cells #[.int .i64 ma3, .int .i64 mi3, .int .i64 pa3, .string s3] 25) = W0 from HW0.out]
  refine HAN.out.mono ?_
  rintro e W1 ⟨rfl, hb⟩
  have HB1 := Lib.hid hb
  have HM1 := Lib.hid (HM0.out.1.below HM0.out.2 hb)
  obtain ⟨x0, x1, x2, x3⟩ := cells4 ((hb.block _ HLT0.out).trans HX0.out)
  obtain ⟨y0, y1, y2, y3⟩ := cells4 ((hb.block _ (HLT.out 1 (by decide))).trans HX1.out)
  obtain ⟨z0, z1, z2, z3⟩ := cells4 ((hb.block _ (HLT.out 2 (by decide))).trans HX2.out)
  have HEND : Hid (∀ W, Below W0.heap.size W0 W → Below w.heap.size w W) := Lib.hid (fun W h => HB0.out.trans (h.mono HB0.out.size))
  clear hb HAN
  go_wp2_with fail
  refine (short_any s1 W1).mono ?_
  rintro e w' ⟨rfl, hw⟩
  subst w'
  cases hsh1 : decide (s1.size ≤ 300) with
  | false =>
    go_wp2
    refine bodyPost_ret (results_tmp rfl _ _ _) rfl ⟨rfl, HEND.out _ HB1.out⟩
  | true =>
    have HS1 : Hid (s1.size ≤ 300) := Lib.hid (of_decide_eq_true hsh1)
    clear hsh1
    go_wp2_with fail
    refine (short_any s2 W1).mono ?_
    rintro e w' ⟨rfl, hw⟩
    subst w'
    cases hsh2 : decide (s2.size ≤ 300) with
    | false =>
      go_wp2
      refine bodyPost_ret (results_tmp rfl _ _ _) rfl ⟨rfl, HEND.out _ HB1.out⟩
    | true =>
      have HS2 : Hid (s2.size ≤ 300) := Lib.hid (of_decide_eq_true hsh2)
      clear hsh2
      go_wp2_with fail
      refine (short_any s3 W1).mono ?_
      rintro e w' ⟨rfl, hw⟩
      subst w'
      cases hsh3 : decide (s3.size ≤ 300) with
      | false =>
        go_wp2
        refine bodyPost_ret (results_tmp rfl _ _ _) rfl ⟨rfl, HEND.out _ HB1.out⟩
      | true =>
        have HS3 : Hid (s3.size ≤ 300) := Lib.hid (of_decide_eq_true hsh3)
        clear hsh3
        have HR1 := Lib.hid (Right_any ma1 mi1 pa1 s1 W1 (by have := HS1.out; omega) HM1.out.1 HM1.out.2)
        go_wp2_with fail
        refine HR1.out.mono ?_
        rintro e W2 ⟨rfl, hb⟩
        have HB2 : Hid (Below W0.heap.size W0 W2) := Lib.hid (HB1.out.trans (hb.mono HB1.out.size))
        have HM2 := Lib.hid (HM1.out.1.below HM1.out.2 hb)
        clear x0 x1 x2 x3 y0 y1 y2 y3 z0 z1 z2 z3 HR1 hb
        obtain ⟨x0, x1, x2, x3⟩ := cells4 ((HB2.out.block _ HLT0.out).trans HX0.out)
        obtain ⟨y0, y1, y2, y3⟩ := cells4 ((HB2.out.block _ (HLT.out 1 (by decide))).trans HX1.out)
        obtain ⟨z0, z1, z2, z3⟩ := cells4 ((HB2.out.block _ (HLT.out 2 (by decide))).trans HX2.out)
        cases hr1 : Ver.right ⟨ma1, mi1, pa1, bs s1⟩ with
        | false =>
          go_wp2
          refine bodyPost_ret (results_tmp rfl _ _ _) rfl ⟨rfl, HEND.out _ HB2.out⟩
        | true =>
          clear hr1
          have HR2 := Lib.hid (Right_any ma2 mi2 pa2 s2 W2 (by have := HS2.out; omega) HM2.out.1 HM2.out.2)
          go_wp2_with fail
          refine HR2.out.mono ?_
          rintro e W3 ⟨rfl, hb⟩
          have HB3 : Hid (Below W0.heap.size W0 W3) := Lib.hid (HB2.out.trans (hb.mono HB2.out.size))
          have HM3 := Lib.hid (HM2.out.1.below HM2.out.2 hb)
          clear x0 x1 x2 x3 y0 y1 y2 y3 z0 z1 z2 z3 HR2 hb
          obtain ⟨x0, x1, x2, x3⟩ := cells4 ((HB3.out.block _ HLT0.out).trans HX0.out)
          obtain ⟨y0, y1, y2, y3⟩ := cells4 ((HB3.out.block _ (HLT.out 1 (by decide))).trans HX1.out)
          obtain ⟨z0, z1, z2, z3⟩ := cells4 ((HB3.out.block _ (HLT.out 2 (by decide))).trans HX2.out)
          cases hr2 : Ver.right ⟨ma2, mi2, pa2, bs s2⟩ with
          | false =>
            go_wp2
            refine bodyPost_ret (results_tmp rfl _ _ _) rfl ⟨rfl, HEND.out _ HB3.out⟩
          | true =>
            clear hr2
            have HR3 := Lib.hid (Right_any ma3 mi3 pa3 s3 W3 (by have := HS3.out; omega) HM3.out.1 HM3.out.2)
            go_wp2_with fail
            refine HR3.out.mono ?_
            rintro e W4 ⟨rfl, hb⟩
            have HB4 : Hid (Below W0.heap.size W0 W4) := Lib.hid (HB3.out.trans (hb.mono HB3.out.size))
            have HM4 := Lib.hid (HM3.out.1.below HM3.out.2 hb)
            clear x0 x1 x2 x3 y0 y1 y2 y3 z0 z1 z2 z3 HR3 hb
            obtain ⟨x0, x1, x2, x3⟩ := cells4 ((HB4.out.block _ HLT0.out).trans HX0.out)
            obtain ⟨y0, y1, y2, y3⟩ := cells4 ((HB4.out.block _ (HLT.out 1 (by decide))).trans HX1.out)
            obtain ⟨z0, z1, z2, z3⟩ := cells4 ((HB4.out.block _ (HLT.out 2 (by decide))).trans HX2.out)
            cases hr3 : Ver.right ⟨ma3, mi3, pa3, bs s3⟩ with
            | false =>
              go_wp2
              refine bodyPost_ret (results_tmp rfl _ _ _) rfl ⟨rfl, HEND.out _ HB4.out⟩
            | true =>
              clear hr3
              have HBX : Hid (Below W0.heap.size W0 { W4 with drawn := W4.drawn + 1 }) := Lib.hid HB4.out.drew
              clear x0 x1 x2 x3 y0 y1 y2 y3 z0 z1 z2 z3
              go_wp2_with fail
              refine wp_region_inv (by kernel_rfl) (I := OrdJ W0 ma1 mi1 pa1 s1 ma2 mi2 pa2 s2 ma3 mi3 pa3 s3 _ _ _ _ _ _ _ _ _ _ _ _ _ _ _ _ _ _ _ _ _ _ _ _ _ _ _ _ _ _ _ _ _ _ _ _ _ _ _ _ _ _ _ _ _ _ _ _ _ _ _ _ _ _ _ _ _ _ _ _ _ _ _ _ _ _ _ _ _ _ _ _ _ _ _ _ _ _ _ _ _ _ _ _ _ _ _ _) ⟨false, false, false, false, false, false, false, false, false, false, false, false, _, _, _, _, _, _, _, _, _, _, _, _, rfl, rfl, ⟨HBX.out, nofun, nofun, nofun, nofun, nofun, nofun, nofun, nofun, nofun, nofun, nofun, nofun⟩⟩ ?step ?fin
              case step =>
                rintro l a' w' i ⟨b0, b1, b2, b3, b4, b5, b6, b7, b8, b9, b10, b11, v7, v8, v9, v43, v44, v45, v46, v47, v48, v49, v50, v51, rfl, rfl, HT⟩ hi
                obtain ⟨hi_, hib⟩ := ready_lt hi
                have HTH := Lib.hid HT
                match i, hi_, hi, hib with
                | 0, _, hi, hib =>
                  obtain ⟨x0, x1, x2, x3⟩ := cells4 ((HT.bel.block _ HLT0.out).trans HX0.out)
                  clear HT
                  refine wpOp_one rfl rfl (fun K hK => ?_)
                  go_simp
                  exact hK.out _ _ ⟨true, b1, b2, b3, b4, b5, b6, b7, b8, b9, b10, b11, _, _, _, _, _, _, _, _, _, _, _, _, rfl, rfl, { HTH.out with h0 := fun _ => rfl }⟩
                | 1, _, hi, hib =>
                  obtain ⟨y0, y1, y2, y3⟩ := cells4 ((HT.bel.block _ (HLT.out 1 (by decide))).trans HX1.out)
                  clear HT
                  refine wpOp_one rfl rfl (fun K hK => ?_)
                  go_simp
                  exact hK.out _ _ ⟨b0, true, b2, b3, b4, b5, b6, b7, b8, b9, b10, b11, _, _, _, _, _, _, _, _, _, _, _, _, rfl, rfl, { HTH.out with h1 := fun _ => rfl }⟩
                | 2, _, hi, hib =>
                  have d0 : b0 = true := ready_dep hi rfl 0 (by kernel_rfl)
                  obtain rfl := HT.h0 d0
                  have d1 : b1 = true := ready_dep hi rfl 1 (by kernel_rfl)
                  obtain rfl := HT.h1 d1
                  have hM := HM0.out.1.below HM0.out.2 HT.bel
                  have HC := Lib.hid (Compare_any ma1 mi1 pa1 s1 ma2 mi2 pa2 s2 w' (by have := HS1.out; omega) (by have := HS2.out; omega) hM.1 hM.2)
                  clear hM
                  clear HT
                  refine wpOp_one rfl rfl (fun K hK => ?_)
                  go_simp
                  refine HC.out.mono ?_
                  rintro e w2 ⟨rfl, hb⟩
                  try go_simp
                  exact hK.out _ _ ⟨b0, b1, true, b3, b4, b5, b6, b7, b8, b9, b10, b11, _, _, _, _, _, _, _, _, _, _, _, _, rfl, rfl, { HTH.out with bel := HTH.out.bel.trans (hb.mono HTH.out.bel.size), h2 := fun _ => rfl }⟩
                | 3, _, hi, hib =>
                  obtain ⟨y0, y1, y2, y3⟩ := cells4 ((HT.bel.block _ (HLT.out 1 (by decide))).trans HX1.out)
                  clear HT
                  refine wpOp_one rfl rfl (fun K hK => ?_)
                  go_simp
                  exact hK.out _ _ ⟨b0, b1, b2, true, b4, b5, b6, b7, b8, b9, b10, b11, _, _, _, _, _, _, _, _, _, _, _, _, rfl, rfl, { HTH.out with h3 := fun _ => rfl }⟩
                | 4, _, hi, hib =>
                  obtain ⟨z0, z1, z2, z3⟩ := cells4 ((HT.bel.block _ (HLT.out 2 (by decide))).trans HX2.out)
                  clear HT
                  refine wpOp_one rfl rfl (fun K hK => ?_)
                  go_simp
                  exact hK.out _ _ ⟨b0, b1, b2, b3, true, b5, b6, b7, b8, b9, b10, b11, _, _, _, _, _, _, _, _, _, _, _, _, rfl, rfl, { HTH.out with h4 := fun _ => rfl }⟩
                | 5, _, hi, hib =>
                  have d3 : b3 = true := ready_dep hi rfl 3 (by kernel_rfl)
                  obtain rfl := HT.h3 d3
                  have d4 : b4 = true := ready_dep hi rfl 4 (by kernel_rfl)
                  obtain rfl := HT.h4 d4
                  have hM := HM0.out.1.below HM0.out.2 HT.bel
                  have HC := Lib.hid (Compare_any ma2 mi2 pa2 s2 ma3 mi3 pa3 s3 w' (by have := HS2.out; omega) (by have := HS3.out; omega) hM.1 hM.2)
                  clear hM
                  clear HT
                  refine wpOp_one rfl rfl (fun K hK => ?_)
                  go_simp
                  refine HC.out.mono ?_
                  rintro e w2 ⟨rfl, hb⟩
                  try go_simp
                  exact hK.out _ _ ⟨b0, b1, b2, b3, b4, true, b6, b7, b8, b9, b10, b11, _, _, _, _, _, _, _, _, _, _, _, _, rfl, rfl, { HTH.out with bel := HTH.out.bel.trans (hb.mono HTH.out.bel.size), h5 := fun _ => rfl }⟩
                | 6, _, hi, hib =>
                  obtain ⟨x0, x1, x2, x3⟩ := cells4 ((HT.bel.block _ HLT0.out).trans HX0.out)
                  clear HT
                  refine wpOp_one rfl rfl (fun K hK => ?_)
                  go_simp
                  exact hK.out _ _ ⟨b0, b1, b2, b3, b4, b5, true, b7, b8, b9, b10, b11, _, _, _, _, _, _, _, _, _, _, _, _, rfl, rfl, { HTH.out with h6 := fun _ => rfl }⟩
                | 7, _, hi, hib =>
                  obtain ⟨z0, z1, z2, z3⟩ := cells4 ((HT.bel.block _ (HLT.out 2 (by decide))).trans HX2.out)
                  clear HT
                  refine wpOp_one rfl rfl (fun K hK => ?_)
                  go_simp
                  exact hK.out _ _ ⟨b0, b1, b2, b3, b4, b5, b6, true, b8, b9, b10, b11, _, _, _, _, _, _, _, _, _, _, _, _, rfl, rfl, { HTH.out with h7 := fun _ => rfl }⟩
                | 8, _, hi, hib =>
                  have d6 : b6 = true := ready_dep hi rfl 6 (by kernel_rfl)
                  obtain rfl := HT.h6 d6
                  have d7 : b7 = true := ready_dep hi rfl 7 (by kernel_rfl)
                  obtain rfl := HT.h7 d7
                  have hM := HM0.out.1.below HM0.out.2 HT.bel
                  have HC := Lib.hid (Compare_any ma1 mi1 pa1 s1 ma3 mi3 pa3 s3 w' (by have := HS1.out; omega) (by have := HS3.out; omega) hM.1 hM.2)
                  clear hM
                  clear HT
                  refine wpOp_one rfl rfl (fun K hK => ?_)
                  go_simp
                  refine HC.out.mono ?_
                  rintro e w2 ⟨rfl, hb⟩
                  try go_simp
                  exact hK.out _ _ ⟨b0, b1, b2, b3, b4, b5, b6, b7, true, b9, b10, b11, _, _, _, _, _, _, _, _, _, _, _, _, rfl, rfl, { HTH.out with bel := HTH.out.bel.trans (hb.mono HTH.out.bel.size), h8 := fun _ => rfl }⟩
                | 9, _, hi, hib =>
                  have d2 : b2 = true := ready_dep hi rfl 2 (by kernel_rfl)
                  obtain rfl := HT.h2 d2
                  clear HT
                  refine wpOp_one rfl rfl (fun K hK => ?_)
                  go_simp
                  exact hK.out _ _ ⟨b0, b1, b2, b3, b4, b5, b6, b7, b8, true, b10, b11, _, _, _, _, _, _, _, _, _, _, _, _, rfl, rfl, { HTH.out with h9 := fun _ => rfl }⟩
                | 10, _, hi, hib =>
                  have d5 : b5 = true := ready_dep hi rfl 5 (by kernel_rfl)
                  obtain rfl := HT.h5 d5
                  clear HT
                  refine wpOp_one rfl rfl (fun K hK => ?_)
                  go_simp
                  exact hK.out _ _ ⟨b0, b1, b2, b3, b4, b5, b6, b7, b8, b9, true, b11, _, _, _, _, _, _, _, _, _, _, _, _, rfl, rfl, { HTH.out with h10 := fun _ => rfl }⟩
                | 11, _, hi, hib =>
                  have d8 : b8 = true := ready_dep hi rfl 8 (by kernel_rfl)
                  obtain rfl := HT.h8 d8
                  clear HT
                  refine wpOp_one rfl rfl (fun K hK => ?_)
                  go_simp
                  exact hK.out _ _ ⟨b0, b1, b2, b3, b4, b5, b6, b7, b8, b9, b10, true, _, _, _, _, _, _, _, _, _, _, _, _, rfl, rfl, { HTH.out with h11 := fun _ => rfl }⟩
              case fin =>
                rintro l a' w' ⟨b0, b1, b2, b3, b4, b5, b6, b7, b8, b9, b10, b11, v7, v8, v9, v43, v44, v45, v46, v47, v48, v49, v50, v51, rfl, rfl, HT⟩ hr
                obtain rfl : b0 = true := by
                  cases b0 with
                  | true => rfl
                  | false => exact (ready_in 0 rfl rfl (by simp [Region.binds]) hr).elim
                obtain rfl : b1 = true := by
                  cases b1 with
                  | true => rfl
                  | false => exact (ready_in 1 rfl rfl (by simp [Region.binds]) hr).elim
                obtain rfl : b2 = true := by
                  cases b2 with
                  | true => rfl
                  | false => exact (ready_in 2 rfl rfl (by simp [Region.binds]) hr).elim
                obtain rfl : b3 = true := by
                  cases b3 with
                  | true => rfl
                  | false => exact (ready_in 3 rfl rfl (by simp [Region.binds]) hr).elim
                obtain rfl : b4 = true := by
                  cases b4 with
                  | true => rfl
                  | false => exact (ready_in 4 rfl rfl (by simp [Region.binds]) hr).elim
                obtain rfl : b5 = true := by
                  cases b5 with
                  | true => rfl
                  | false => exact (ready_in 5 rfl rfl (by simp [Region.binds]) hr).elim
                obtain rfl : b6 = true := by
                  cases b6 with
                  | true => rfl
                  | false => exact (ready_in 6 rfl rfl (by simp [Region.binds]) hr).elim
                obtain rfl : b7 = true := by
                  cases b7 with
                  | true => rfl
                  | false => exact (ready_in 7 rfl rfl (by simp [Region.binds]) hr).elim
                obtain rfl : b8 = true := by
                  cases b8 with
                  | true => rfl
                  | false => exact (ready_in 8 rfl rfl (by simp [Region.binds]) hr).elim
                obtain rfl : b9 = true := by
                  cases b9 with
                  | true => rfl
                  | false => exact (ready_in 9 rfl rfl (by simp [Region.binds]) hr).elim
                obtain rfl : b10 = true := by
                  cases b10 with
                  | true => rfl
                  | false => exact (ready_in 10 rfl rfl (by simp [Region.binds]) hr).elim
                obtain rfl : b11 = true := by
                  cases b11 with
                  | true => rfl
                  | false => exact (ready_in 11 rfl rfl (by simp [Region.binds]) hr).elim
                obtain rfl := HT.h0 rfl
                obtain rfl := HT.h1 rfl
                obtain rfl := HT.h2 rfl
                obtain rfl := HT.h3 rfl
                obtain rfl := HT.h4 rfl
                obtain rfl := HT.h5 rfl
                obtain rfl := HT.h6 rfl
                obtain rfl := HT.h7 rfl
                obtain rfl := HT.h8 rfl
                obtain rfl := HT.h9 rfl
                obtain rfl := HT.h10 rfl
                obtain rfl := HT.h11 rfl
                have HB9 := Lib.hid HT.bel
                have HM9 := Lib.hid (HM0.out.1.below HM0.out.2 HT.bel)
                obtain ⟨x0, x1, x2, x3⟩ := cells4 ((HT.bel.block _ HLT0.out).trans HX0.out)
                obtain ⟨y0, y1, y2, y3⟩ := cells4 ((HT.bel.block _ (HLT.out 1 (by decide))).trans HX1.out)
                have HC := Lib.hid (Compare_any ma2 mi2 pa2 s2 ma1 mi1 pa1 s1 w' (by have := HS2.out; omega) (by have := HS1.out; omega) HM9.out.1 HM9.out.2)
                clear HT
                obtain ⟨x, hx⟩ : ∃ x, cmpV ⟨ma1, mi1, pa1, bs s1⟩ ⟨ma2, mi2, pa2, bs s2⟩ = x := ⟨_, rfl⟩
                obtain ⟨y, hy⟩ : ∃ y, cmpV ⟨ma2, mi2, pa2, bs s2⟩ ⟨ma3, mi3, pa3, bs s3⟩ = y := ⟨_, rfl⟩
                obtain ⟨z, hz⟩ : ∃ z, cmpV ⟨ma1, mi1, pa1, bs s1⟩ ⟨ma3, mi3, pa3, bs s3⟩ = z := ⟨_, rfl⟩
                obtain ⟨u, hu⟩ : ∃ u, cmpV ⟨ma2, mi2, pa2, bs s2⟩ ⟨ma1, mi1, pa1, bs s1⟩ = u := ⟨_, rfl⟩
                have HXR := Lib.hid (hx ▸ cmpV_tot.range ⟨ma1, mi1, pa1, bs s1⟩ ⟨ma2, mi2, pa2, bs s2⟩)
                have HUX : Hid (u = -x) := Lib.hid (by rw [← hu, ← hx]; exact cmpV_tot.anti _ _)
                have HEQ : Hid (x = 0 → ma1 = ma2 ∧ mi1 = mi2 ∧ pa1 = pa2 ∧ s1 = s2) := Lib.hid (fun h => by
                  have := (cmpV_tot.eq ⟨ma1, mi1, pa1, bs s1⟩ ⟨ma2, mi2, pa2, bs s2⟩).1 (hx.trans h)
                  injection this with e1 e2 e3 e4
                  exact ⟨e1, e2, e3, by rw [← mk_bs s1, ← mk_bs s2, e4]⟩)
                have HT1 : Hid (x ≤ 0 → y ≤ 0 → z ≤ 0) := Lib.hid (by rw [← hx, ← hy, ← hz]; exact cmpV_tot.trans _ _ _)
                have HT2 : Hid (0 ≤ x → 0 ≤ y → 0 ≤ z) := Lib.hid (by rw [← hx, ← hy, ← hz]; exact cmpV_tot.trans')
                have HU := Lib.hid hu
                have HUN := Lib.hid hu
                rw [hx, hy, hz]
                clear hx hy hz hu
                rcases HXR.out with hxx | hxx | hxx
                · subst hxx
                  have hq : verEq ma1 mi1 pa1 s1 ma2 mi2 pa2 s2 = false := verEq_false (fun h => by
                    have h2 := HUX.out
                    have h3 := cmpV_tot.refl ⟨ma2, mi2, pa2, bs s2⟩
                    rw [h.1, h.2.1, h.2.2.1, h.2.2.2] at HUN
                    have := HUN.out.symm.trans h3
                    omega)
                  go_wp2_with fail
                  refine HC.out.mono ?_
                  rintro e W8 ⟨rfl, hb8⟩
                  rw [HU.out, HUX.out]
                  have HB8 : Hid (Below W0.heap.size W0 W8) := Lib.hid (HB9.out.trans (hb8.mono HB9.out.size))
                  have HM8 := Lib.hid (HM9.out.1.below HM9.out.2 hb8)
                  clear x0 x1 x2 x3 y0 y1 y2 y3 hb8 HC
                  obtain ⟨x0, x1, x2, x3⟩ := cells4 ((HB8.out.block _ HLT0.out).trans HX0.out)
                  obtain ⟨y0, y1, y2, y3⟩ := cells4 ((HB8.out.block _ (HLT.out 1 (by decide))).trans HX1.out)
                  have HC := Lib.hid (Compare_any ma1 mi1 pa1 s1 ma1 mi1 pa1 s1 W8 (by have := HS1.out; omega) (by have := HS1.out; omega) HM8.out.1 HM8.out.2)
                  by_cases hy : y ≤ 0
                  · have dy : decide (y ≤ 0) = true := decide_eq_true hy
                    have dz : decide (0 < z) = false := by have := HT1.out (by decide) hy; exact decide_eq_false (by omega)
                    clear hy
                    go_wp2_with fail
                    refine HC.out.mono ?_
                    rintro e W9 ⟨rfl, hb9⟩
                    rw [cmpV_tot.refl]
                    have HB10 : Hid (Below W0.heap.size W0 W9) := Lib.hid (HB8.out.trans (hb9.mono HB8.out.size))
                    clear hb9 HC x0 x1 x2 x3 y0 y1 y2 y3
                    go_wp2
                    refine bodyPost_ret (results_tmp rfl _ _ _) rfl ⟨rfl, HEND.out _ HB10.out⟩
                  · have dy : decide (y ≤ 0) = false := decide_eq_false hy
                    clear hy
                    go_wp2_with fail
                    refine HC.out.mono ?_
                    rintro e W9 ⟨rfl, hb9⟩
                    rw [cmpV_tot.refl]
                    have HB10 : Hid (Below W0.heap.size W0 W9) := Lib.hid (HB8.out.trans (hb9.mono HB8.out.size))
                    clear hb9 HC x0 x1 x2 x3 y0 y1 y2 y3
                    go_wp2
                    refine bodyPost_ret (results_tmp rfl _ _ _) rfl ⟨rfl, HEND.out _ HB10.out⟩
                · subst hxx
                  obtain ⟨e1, e2, e3, e4⟩ := HEQ.out rfl
                  subst e1 e2 e3 e4
                  have hq : verEq ma1 mi1 pa1 s1 ma1 mi1 pa1 s1 = true := verEq_true _ _ _ _
                  go_wp2_with fail
                  refine HC.out.mono ?_
                  rintro e W8 ⟨rfl, hb8⟩
                  rw [HU.out, HUX.out]
                  have HB8 : Hid (Below W0.heap.size W0 W8) := Lib.hid (HB9.out.trans (hb8.mono HB9.out.size))
                  have HM8 := Lib.hid (HM9.out.1.below HM9.out.2 hb8)
                  clear x0 x1 x2 x3 y0 y1 y2 y3 hb8 HC
                  obtain ⟨x0, x1, x2, x3⟩ := cells4 ((HB8.out.block _ HLT0.out).trans HX0.out)
                  obtain ⟨y0, y1, y2, y3⟩ := cells4 ((HB8.out.block _ (HLT.out 1 (by decide))).trans HX1.out)
                  have HC := Lib.hid (Compare_any ma1 mi1 pa1 s1 ma1 mi1 pa1 s1 W8 (by have := HS1.out; omega) (by have := HS1.out; omega) HM8.out.1 HM8.out.2)
                  by_cases hy : y ≤ 0
                  · have dy : decide (y ≤ 0) = true := decide_eq_true hy
                    have dz : decide (0 < z) = false := by have := HT1.out (by decide) hy; exact decide_eq_false (by omega)
                    by_cases hy2 : 0 ≤ y
                    · have dy2 : decide (0 ≤ y) = true := decide_eq_true hy2
                      have dz2 : decide (z < 0) = false := by have := HT2.out (by decide) hy2; exact decide_eq_false (by omega)
                      clear hy hy2
                      go_wp2_with fail
                      refine HC.out.mono ?_
                      rintro e W9 ⟨rfl, hb9⟩
                      rw [cmpV_tot.refl]
                      have HB10 : Hid (Below W0.heap.size W0 W9) := Lib.hid (HB8.out.trans (hb9.mono HB8.out.size))
                      clear hb9 HC x0 x1 x2 x3 y0 y1 y2 y3
                      go_wp2
                      refine bodyPost_ret (results_tmp rfl _ _ _) rfl ⟨rfl, HEND.out _ HB10.out⟩
                    · have dy2 : decide (0 ≤ y) = false := decide_eq_false hy2
                      clear hy hy2
                      go_wp2_with fail
                      refine HC.out.mono ?_
                      rintro e W9 ⟨rfl, hb9⟩
                      rw [cmpV_tot.refl]
                      have HB10 : Hid (Below W0.heap.size W0 W9) := Lib.hid (HB8.out.trans (hb9.mono HB8.out.size))
                      clear hb9 HC x0 x1 x2 x3 y0 y1 y2 y3
                      go_wp2
                      refine bodyPost_ret (results_tmp rfl _ _ _) rfl ⟨rfl, HEND.out _ HB10.out⟩
                  · have dy : decide (y ≤ 0) = false := decide_eq_false hy
                    have dy2 : decide (0 ≤ y) = true := decide_eq_true (by omega)
                    have dz2 : decide (z < 0) = false := by have := HT2.out (by decide) (by omega); exact decide_eq_false (by omega)
                    clear hy
                    go_wp2_with fail
                    refine HC.out.mono ?_
                    rintro e W9 ⟨rfl, hb9⟩
                    rw [cmpV_tot.refl]
                    have HB10 : Hid (Below W0.heap.size W0 W9) := Lib.hid (HB8.out.trans (hb9.mono HB8.out.size))
                    clear hb9 HC x0 x1 x2 x3 y0 y1 y2 y3
                    go_wp2
                    refine bodyPost_ret (results_tmp rfl _ _ _) rfl ⟨rfl, HEND.out _ HB10.out⟩
                · subst hxx
                  have hq : verEq ma1 mi1 pa1 s1 ma2 mi2 pa2 s2 = false := verEq_false (fun h => by
                    have h2 := HUX.out
                    have h3 := cmpV_tot.refl ⟨ma2, mi2, pa2, bs s2⟩
                    rw [h.1, h.2.1, h.2.2.1, h.2.2.2] at HUN
                    have := HUN.out.symm.trans h3
                    omega)
                  go_wp2_with fail
                  refine HC.out.mono ?_
                  rintro e W8 ⟨rfl, hb8⟩
                  rw [HU.out, HUX.out]
                  have HB8 : Hid (Below W0.heap.size W0 W8) := Lib.hid (HB9.out.trans (hb8.mono HB9.out.size))
                  have HM8 := Lib.hid (HM9.out.1.below HM9.out.2 hb8)
                  clear x0 x1 x2 x3 y0 y1 y2 y3 hb8 HC
                  obtain ⟨x0, x1, x2, x3⟩ := cells4 ((HB8.out.block _ HLT0.out).trans HX0.out)
                  obtain ⟨y0, y1, y2, y3⟩ := cells4 ((HB8.out.block _ (HLT.out 1 (by decide))).trans HX1.out)
                  have HC := Lib.hid (Compare_any ma1 mi1 pa1 s1 ma1 mi1 pa1 s1 W8 (by have := HS1.out; omega) (by have := HS1.out; omega) HM8.out.1 HM8.out.2)
                  by_cases hy : 0 ≤ y
                  · have dy : decide (0 ≤ y) = true := decide_eq_true hy
                    have dz : decide (z < 0) = false := by have := HT2.out (by decide) hy; exact decide_eq_false (by omega)
                    clear hy
                    go_wp2_with fail
                    refine HC.out.mono ?_
                    rintro e W9 ⟨rfl, hb9⟩
                    rw [cmpV_tot.refl]
                    have HB10 : Hid (Below W0.heap.size W0 W9) := Lib.hid (HB8.out.trans (hb9.mono HB8.out.size))
                    clear hb9 HC x0 x1 x2 x3 y0 y1 y2 y3
                    go_wp2
                    refine bodyPost_ret (results_tmp rfl _ _ _) rfl ⟨rfl, HEND.out _ HB10.out⟩
                  · have dy : decide (0 ≤ y) = false := decide_eq_false hy
                    clear hy
                    go_wp2_with fail
                    refine HC.out.mono ?_
                    rintro e W9 ⟨rfl, hb9⟩
                    rw [cmpV_tot.refl]
                    have HB10 : Hid (Below W0.heap.size W0 W9) := Lib.hid (HB8.out.trans (hb9.mono HB8.out.size))
                    clear hb9 HC x0 x1 x2 x3 y0 y1 y2 y3
                    go_wp2
                    refine bodyPost_ret (results_tmp rfl _ _ _) rfl ⟨rfl, HEND.out _ HB10.out⟩
end Go.Proofs.YtbmhjmdbolnbaaaDoor
