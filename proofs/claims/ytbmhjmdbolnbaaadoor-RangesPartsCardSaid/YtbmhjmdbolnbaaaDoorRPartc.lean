/-
  RangesParts: the case 1 (printed by genlawrp2.py).
-/
import Derived.Test.YtbmhjmdbolnbaaaDoorRPart
namespace Go.Proofs.YtbmhjmdbolnbaaaDoor
open Go.RowKit
open SemP
set_option linter.unusedVariables false
set_option linter.unusedSimpArgs false
set_option maxRecDepth 100000
attribute [local go_sem ↓] eqVer
structure PcSt (w0 : World) (ma1 mi1 pa1 : Int) (s1 : ByteArray) (ma2 mi2 pa2 : Int) (s2 : ByteArray) (b0 b1 b2 b3 b4 b5 b6 b7 b8 b9 b10 b11 b12 b13 b14 b15 b16 b17 b18 b19 b20 b21 b22 b23 b24 b25 b26 b27 b28 b29 b30 b31 b32 b33 b34 b35 b36 b37 : Bool) (v4 v58 v59 v60 v61 v62 v63 v64 v65 v66 v67 v68 v69 v70 v71 v72 v73 v74 v75 v76 v77 v78 v79 v80 v81 v82 v83 v84 v85 v86 v87 v88 v89 v90 v91 v92 v93 v94 : Value) (w' : World) : Prop where
  bel : Below w0.heap.size w0 w'
  h0 : b0 = true → v58 = .int .i64 1
  h1 : b1 = true → v59 = .bool true
  h2 : b2 = true → v60 = .bool true
  h3 : b3 = true → v61 = verV ma2 mi2 pa2 s2
  h4 : b4 = true → OfAt w' ⟨3, ma2, mi2, pa2, s2⟩ v62
  h5 : b5 = true → v63 = verV ma1 mi1 pa1 s1
  h6 : b6 = true → v64 = .bool false
  h7 : b7 = true → v65 = .bool false
  h8 : b8 = true → v66 = .bool false
  h9 : b9 = true → v67 = .bool false
  h10 : b10 = true → v68 = .bool false
  h11 : b11 = true → v69 = .bool true
  h12 : b12 = true → v70 = .bool true
  h13 : b13 = true → v71 = .bool true
  h14 : b14 = true → v72 = verV ma2 mi2 pa2 s2
  h15 : b15 = true → OfAt w' ⟨5, ma2, mi2, pa2, s2⟩ v73
  h16 : b16 = true → v74 = verV ma1 mi1 pa1 s1
  h17 : b17 = true → v75 = .bool true
  h18 : b18 = true → v76 = .bool true
  h19 : b19 = true → v77 = .bool true
  h20 : b20 = true → v78 = undef
  h21 : b21 = true → v79 = .bool true
  h22 : b22 = true → v80 = .bool true
  h23 : b23 = true → v81 = .bool true
  h24 : b24 = true → v82 = .bool true
  h25 : b25 = true → v83 = verV 0 0 0 ⟨#[]⟩
  h26 : b26 = true → OfAt w' ⟨0, 0, 0, 0, ⟨#[]⟩⟩ v84
  h27 : b27 = true → v85 = verV ma1 mi1 pa1 s1
  h28 : b28 = true → v86 = .bool true
  h29 : b29 = true → v87 = .bool true
  h30 : b30 = true → v88 = .bool true
  h31 : b31 = true → v89 = .bool false
  h32 : b32 = true → v90 = verV ma1 mi1 pa1 s1
  h33 : b33 = true → v91 = verV ma2 mi2 pa2 s2
  h34 : b34 = true → v92 = .bool false
  h35 : b35 = true → v93 = .bool true
  h36 : b36 = true → v94 = .bool true
  h37 : b37 = true → v4 = .bool true
def PcJ (w0 : World) (ma1 mi1 pa1 : Int) (s1 : ByteArray) (ma2 mi2 pa2 : Int) (s2 : ByteArray) (p0 p1 p2 p3 p5 p6 p7 p8 p9 p10 p11 p12 p13 p14 p15 p16 p17 p18 p19 p20 p21 p22 p23 p24 p25 p26 p27 p28 p29 p30 p31 p32 p33 p34 p35 p36 p37 p38 p39 p40 p41 p42 p43 p44 p45 p46 p47 p48 p49 p50 p51 p52 p53 p54 p55 p56 p57 : Value) (l : Array Bool) (a' : Act) (w' : World) : Prop :=
  ∃ (b0 b1 b2 b3 b4 b5 b6 b7 b8 b9 b10 b11 b12 b13 b14 b15 b16 b17 b18 b19 b20 b21 b22 b23 b24 b25 b26 b27 b28 b29 b30 b31 b32 b33 b34 b35 b36 b37 : Bool) (v4 v58 v59 v60 v61 v62 v63 v64 v65 v66 v67 v68 v69 v70 v71 v72 v73 v74 v75 v76 v77 v78 v79 v80 v81 v82 v83 v84 v85 v86 v87 v88 v89 v90 v91 v92 v93 v94 : Value), l = #[b0, b1, b2, b3, b4, b5, b6, b7, b8, b9, b10, b11, b12, b13, b14, b15, b16, b17, b18, b19, b20, b21, b22, b23, b24, b25, b26, b27, b28, b29, b30, b31, b32, b33, b34, b35, b36, b37] ∧ a' = { tmps := List.toArray (p0 :: p1 :: p2 :: p3 :: v4 :: p5 :: p6 :: p7 :: p8 :: p9 :: p10 :: p11 :: p12 :: p13 :: p14 :: p15 :: p16 :: p17 :: p18 :: p19 :: p20 :: p21 :: p22 :: p23 :: p24 :: p25 :: p26 :: p27 :: p28 :: p29 :: p30 :: p31 :: p32 :: p33 :: p34 :: p35 :: p36 :: p37 :: p38 :: p39 :: p40 :: p41 :: p42 :: p43 :: p44 :: p45 :: p46 :: p47 :: p48 :: p49 :: p50 :: p51 :: p52 :: p53 :: p54 :: p55 :: p56 :: p57 :: v58 :: v59 :: v60 :: v61 :: v62 :: v63 :: v64 :: v65 :: v66 :: v67 :: v68 :: v69 :: v70 :: v71 :: v72 :: v73 :: v74 :: v75 :: v76 :: v77 :: v78 :: v79 :: v80 :: v81 :: v82 :: v83 :: v84 :: v85 :: v86 :: v87 :: v88 :: v89 :: v90 :: v91 :: v92 :: v93 :: v94 :: []), defers := [] } ∧ PcSt w0 ma1 mi1 pa1 s1 ma2 mi2 pa2 s2 b0 b1 b2 b3 b4 b5 b6 b7 b8 b9 b10 b11 b12 b13 b14 b15 b16 b17 b18 b19 b20 b21 b22 b23 b24 b25 b26 b27 b28 b29 b30 b31 b32 b33 b34 b35 b36 b37 v4 v58 v59 v60 v61 v62 v63 v64 v65 v66 v67 v68 v69 v70 v71 v72 v73 v74 v75 v76 v77 v78 v79 v80 v81 v82 v83 v84 v85 v86 v87 v88 v89 v90 v91 v92 v93 v94 w'
set_option maxHeartbeats 16000000 in
theorem law_parts_c (ma1 mi1 pa1 : Int) (s1 : ByteArray) (ma2 mi2 pa2 : Int) (s2 : ByteArray) (w : World) (hg : SignsAt w) (hm : LenAt w) (h1 : 1 < w.heap.size)
    (hzz : cmpV ⟨ma1, mi1, pa1, bs s1⟩ ⟨ma2, mi2, pa2, bs s2⟩ = 1) :
    Calls Tryd.prog 16 #[verV ma1 mi1 pa1 s1, verV ma2 mi2 pa2 s2] w fun e w' => e = .returned (.bool true) ∧ Below w.heap.size w w' := by
  have HZ := Lib.hid hzz
  clear hzz
  obtain ⟨W0, hW0⟩ : ∃ W0, (w.alloc (verC ma1 mi1 pa1 s1)).alloc (verC ma2 mi2 pa2 s2) = W0 := ⟨_, rfl⟩
  have hb0 : Below w.heap.size w W0 := by rw [← hW0]; exact ((Below.refl _ w).alloc (Nat.le_refl _) _).alloc (by simp) _
  have HBX0 : Hid (BoxesAt [(w.heap.size, verC ma1 mi1 pa1 s1), (w.heap.size + 1, verC ma2 mi2 pa2 s2)] W0) := Lib.hid (by
    rw [← hW0]
    have h := ((BoxesAt.nil w).push (verC ma1 mi1 pa1 s1)).push (verC ma2 mi2 pa2 s2)
    rw [World.size_alloc] at h
    intro x hx
    exact h x (by simp at hx ⊢; rcases hx with rfl | rfl <;> simp))
  have HM0 := Lib.hid (hm.below h1 hb0)
  have HG0 : Hid (SignsAt W0) := Lib.hid (hg.below hb0 (by omega))
  have HAN := Lib.hid (ranchor_any W0 HG0.out HM0.out.1 HM0.out.2)
  have HW0 := Lib.hid hW0
  have HB0 := Lib.hid hb0
  clear hW0 hb0 hm hg
  go_enter Tryd.func16, Tryd.ntmps16
  go_wp2_with fail
  try rw [show (w.alloc (.cells #[.int .i64 ma1, .int .i64 mi1, .int .i64 pa1, .string s1] 25)).alloc (.cells #[.int .i64 ma2, .int .i64 mi2, .int .i64 pa2, .string s2] 25) = W0 from HW0.out]
  refine HAN.out.mono ?_
  rintro e W1 ⟨rfl, hb⟩
  have HBX1 := Lib.hid (HBX0.out.below hb)
  have HB1 : Hid (Below w.heap.size w W1) := Lib.hid (HB0.out.trans (hb.mono HB0.out.size))
  have HM1 := Lib.hid (HM0.out.1.below HM0.out.2 hb)
  clear hb
  clear HAN
  obtain ⟨x0, x1, x2, x3⟩ := cells4 (HBX1.out.get (w.heap.size) (verC ma1 mi1 pa1 s1) (by simp))
  obtain ⟨y0, y1, y2, y3⟩ := cells4 (HBX1.out.get (w.heap.size + 1) (verC ma2 mi2 pa2 s2) (by simp))
  by_cases hsh1 : 100 < s1.size
  · have dsh1 : decide (100 < (s1.size : Int)) = true := decide_eq_true (by omega)
    go_wp2
    refine bodyPost_ret (results_tmp rfl _ _ _) rfl ⟨rfl, HB1.out⟩
  have HS1 : Hid (s1.size ≤ 100) := Lib.hid (by omega)
  have dsh1 : decide (100 < (s1.size : Int)) = false := decide_eq_false (by omega)
  clear hsh1
  by_cases hsh2 : 100 < s2.size
  · have dsh2 : decide (100 < (s2.size : Int)) = true := decide_eq_true (by omega)
    go_wp2
    refine bodyPost_ret (results_tmp rfl _ _ _) rfl ⟨rfl, HB1.out⟩
  have HS2 : Hid (s2.size ≤ 100) := Lib.hid (by omega)
  have dsh2 : decide (100 < (s2.size : Int)) = false := decide_eq_false (by omega)
  clear hsh2
  have HR := Lib.hid (Right_any ma1 mi1 pa1 s1 W1 (by have := HS1.out; omega) HM1.out.1 HM1.out.2)
  go_wp2_with fail
  refine HR.out.mono ?_
  rintro e W2 ⟨rfl, hb⟩
  clear HR
  clear x0 x1 x2 x3 y0 y1 y2 y3
  have HBX2 := Lib.hid (HBX1.out.below hb)
  have HB2 : Hid (Below w.heap.size w W2) := Lib.hid (HB1.out.trans (hb.mono HB1.out.size))
  have HM2 := Lib.hid (HM1.out.1.below HM1.out.2 hb)
  clear hb
  obtain ⟨x0, x1, x2, x3⟩ := cells4 (HBX2.out.get (w.heap.size) (verC ma1 mi1 pa1 s1) (by simp))
  obtain ⟨y0, y1, y2, y3⟩ := cells4 (HBX2.out.get (w.heap.size + 1) (verC ma2 mi2 pa2 s2) (by simp))
  cases hr1 : Ver.right ⟨ma1, mi1, pa1, bs s1⟩ with
  | false =>
    go_wp2
    refine bodyPost_ret (results_tmp rfl _ _ _) rfl ⟨rfl, HB2.out⟩
  | true =>
    have HR1 := Lib.hid hr1
    clear hr1
    have HR := Lib.hid (Right_any ma2 mi2 pa2 s2 W2 (by have := HS2.out; omega) HM2.out.1 HM2.out.2)
    go_wp2_with fail
    refine HR.out.mono ?_
    rintro e W3 ⟨rfl, hb⟩
    clear HR
    clear x0 x1 x2 x3 y0 y1 y2 y3
    have HBX3 := Lib.hid (HBX2.out.below hb)
    have HB3 : Hid (Below w.heap.size w W3) := Lib.hid (HB2.out.trans (hb.mono HB2.out.size))
    have HM3 := Lib.hid (HM2.out.1.below HM2.out.2 hb)
    clear hb
    obtain ⟨x0, x1, x2, x3⟩ := cells4 (HBX3.out.get (w.heap.size) (verC ma1 mi1 pa1 s1) (by simp))
    obtain ⟨y0, y1, y2, y3⟩ := cells4 (HBX3.out.get (w.heap.size + 1) (verC ma2 mi2 pa2 s2) (by simp))
    cases hr2 : Ver.right ⟨ma2, mi2, pa2, bs s2⟩ with
    | false =>
      go_wp2
      refine bodyPost_ret (results_tmp rfl _ _ _) rfl ⟨rfl, HB3.out⟩
    | true =>
      have HR2 := Lib.hid hr2
      clear hr2
      clear x0 x1 x2 x3 y0 y1 y2 y3
      have HL0 : Hid (w.heap.size < W3.heap.size) := Lib.hid (HBX3.out _ (by simp : (w.heap.size, verC ma1 mi1 pa1 s1) ∈ _)).1
      have HL1 : Hid (w.heap.size + 1 < W3.heap.size) := Lib.hid (HBX3.out _ (by simp : (w.heap.size + 1, verC ma2 mi2 pa2 s2) ∈ _)).1
      have HBB := HBX3
      have HMB := HM3
      have HH : Hid (∀ op, 0 < op ∧ op ≤ 7 → hasR [[⟨op, ma2, mi2, pa2, s2⟩]] ⟨ma1, mi1, pa1, bs s1⟩ = hasC op ⟨ma2, mi2, pa2, bs s2⟩ ⟨ma1, mi1, pa1, bs s1⟩) := Lib.hid (fun op h => hasR_one (cv_right h HR2.out) HR1.out)
      have HQ0 : Hid (hasR [[⟨0, 0, 0, 0, ⟨#[]⟩⟩]] ⟨ma1, mi1, pa1, bs s1⟩ = true) := Lib.hid (by rw [hasR_one right_zero HR1.out]; rfl)
      go_wp2_with fail
      have HQ2 : Hid (hasR [[⟨2, ma2, mi2, pa2, s2⟩]] ⟨ma1, mi1, pa1, bs s1⟩ = false) := Lib.hid (by rw [HH.out 2 (by omega)]; unfold hasC; rw [HZ.out]; rfl)
      have HQ1 : Hid (hasR [[⟨1, ma2, mi2, pa2, s2⟩]] ⟨ma1, mi1, pa1, bs s1⟩ = false) := Lib.hid (by rw [HH.out 1 (by omega)]; unfold hasC; rw [HZ.out]; rfl)
      have HQ4 : Hid (hasR [[⟨4, ma2, mi2, pa2, s2⟩]] ⟨ma1, mi1, pa1, bs s1⟩ = true) := Lib.hid (by rw [HH.out 4 (by omega)]; unfold hasC; rw [HZ.out]; rfl)
      have HQ3 : Hid (hasR [[⟨3, ma2, mi2, pa2, s2⟩]] ⟨ma1, mi1, pa1, bs s1⟩ = false) := Lib.hid (by rw [HH.out 3 (by omega)]; unfold hasC; rw [HZ.out]; rfl)
      have HQ5 : Hid (hasR [[⟨5, ma2, mi2, pa2, s2⟩]] ⟨ma1, mi1, pa1, bs s1⟩ = true) := Lib.hid (by rw [HH.out 5 (by omega)]; unfold hasC; rw [HZ.out]; rfl)
      have HEQ : Hid (verEq ma1 mi1 pa1 s1 ma2 mi2 pa2 s2 = false) := Lib.hid (by
        refine verEq_false (fun h => ?_)
        have h2 := HZ.out
        rw [h.1, h.2.1, h.2.2.1, h.2.2.2, cmpV_tot.refl] at h2
        exact absurd h2 (by decide))
      go_cut [5, 6, 7] (fun v5 v6 v7 w' => v5 = .bool false ∧ v6 = .bool false ∧ v7 = .bool true ∧ Below W3.heap.size W3 w')
      case first =>
        refine wp_region_inv (by kernel_rfl) (I := PfJ W3 ma1 mi1 pa1 s1 ma2 mi2 pa2 s2 false false true _ _ _ _ _ _ _ _ _ _ _ _ _ _ _ _ _ _ _ _ _ _ _ _ _ _ _ _ _ _ _ _ _ _ _ _ _ _ _ _ _ _ _ _ _ _ _ _ _ _ _ _ _ _ _ _ _ _ _ _ _ _ _ _ _ _ _ _ _ _ _ _ _ _ _ _ _ _ _ _) ⟨false, false, false, false, false, false, false, false, false, false, false, false, false, false, false, _, _, _, _, _, _, _, _, _, _, _, _, _, _, _, rfl, rfl, ⟨(Below.refl _ W3).drew, nofun, nofun, nofun, nofun, nofun, nofun, nofun, nofun, nofun, nofun, nofun, nofun, nofun, nofun, nofun⟩⟩ ?step ?fin
        case step =>
          rintro l a' w' i ⟨b0, b1, b2, b3, b4, b5, b6, b7, b8, b9, b10, b11, b12, b13, b14, v5, v6, v7, v33, v34, v35, v36, v37, v38, v39, v40, v41, v42, v43, v44, rfl, rfl, HT⟩ hi
          obtain ⟨hi_, hib⟩ := ready_lt hi
          have HTH := Lib.hid HT
          match i, hi_, hi, hib with
          | 0, _, hi, hib =>
            obtain ⟨x0, x1, x2, x3⟩ := cells4 ((HT.bel.block _ HL1.out).trans (HBB.out.get (w.heap.size + 1) (verC ma2 mi2 pa2 s2) (by simp)))
            clear HT
            refine wpOp_one rfl rfl (fun K hK => ?_)
            go_simp
            exact hK.out _ _ ⟨true, b1, b2, b3, b4, b5, b6, b7, b8, b9, b10, b11, b12, b13, b14, _, _, _, _, _, _, _, _, _, _, _, _, _, _, _, rfl, rfl, { HTH.out with h0 := fun _ => rfl }⟩
          | 1, _, hi, hib =>
            have d0 : b0 = true := ready_dep hi rfl 0 (by kernel_rfl)
            have hd0 := HT.h0 d0
            subst hd0
            have HC := Lib.hid (ofAt_any 2 ma2 mi2 pa2 s2 w')
            clear HT
            refine wpOp_one rfl rfl (fun K hK => ?_)
            go_simp
            refine HC.out.mono ?_
            rintro e w2 ⟨v, rfl, ho, hb⟩
            exact hK.out _ _ ⟨b0, true, b2, b3, b4, b5, b6, b7, b8, b9, b10, b11, b12, b13, b14, _, _, _, _, _, _, _, _, _, _, _, _, _, _, _, rfl, rfl, { HTH.out with bel := HTH.out.bel.trans (hb.mono HTH.out.bel.size), h1 := fun _ => ho, h5 := fun h => (HTH.out.h5 h).below hb, h9 := fun h => (HTH.out.h9 h).below hb }⟩
          | 2, _, hi, hib =>
            obtain ⟨x0, x1, x2, x3⟩ := cells4 ((HT.bel.block _ HL0.out).trans (HBB.out.get (w.heap.size) (verC ma1 mi1 pa1 s1) (by simp)))
            clear HT
            refine wpOp_one rfl rfl (fun K hK => ?_)
            go_simp
            exact hK.out _ _ ⟨b0, b1, true, b3, b4, b5, b6, b7, b8, b9, b10, b11, b12, b13, b14, _, _, _, _, _, _, _, _, _, _, _, _, _, _, _, rfl, rfl, { HTH.out with h2 := fun _ => rfl }⟩
          | 3, _, hi, hib =>
            have d1 : b1 = true := ready_dep hi rfl 1 (by kernel_rfl)
            have HO := Lib.hid (HT.h1 d1)
            have d2 : b2 = true := ready_dep hi rfl 2 (by kernel_rfl)
            have hd2 := HT.h2 d2
            subst hd2
            have hM := HMB.out.1.below HMB.out.2 HT.bel
            have HC := Lib.hid (hasOf_any ⟨2, ma2, mi2, pa2, s2⟩ _ ma1 mi1 pa1 s1 w' HO.out (by have := HS2.out; show s2.size < _; omega) (by have := HS1.out; omega) hM.1 hM.2)
            rw [HQ2.out] at HC
            clear hM
            clear HT
            refine wpOp_one rfl rfl (fun K hK => ?_)
            go_simp
            refine HC.out.mono ?_
            rintro e w2 ⟨rfl, hb⟩
            exact hK.out _ _ ⟨b0, b1, b2, true, b4, b5, b6, b7, b8, b9, b10, b11, b12, b13, b14, _, _, _, _, _, _, _, _, _, _, _, _, _, _, _, rfl, rfl, { HTH.out with bel := HTH.out.bel.trans (hb.mono HTH.out.bel.size), h3 := fun _ => rfl, h1 := fun h => (HTH.out.h1 h).below hb, h5 := fun h => (HTH.out.h5 h).below hb, h9 := fun h => (HTH.out.h9 h).below hb }⟩
          | 4, _, hi, hib =>
            obtain ⟨x0, x1, x2, x3⟩ := cells4 ((HT.bel.block _ HL1.out).trans (HBB.out.get (w.heap.size + 1) (verC ma2 mi2 pa2 s2) (by simp)))
            clear HT
            refine wpOp_one rfl rfl (fun K hK => ?_)
            go_simp
            exact hK.out _ _ ⟨b0, b1, b2, b3, true, b5, b6, b7, b8, b9, b10, b11, b12, b13, b14, _, _, _, _, _, _, _, _, _, _, _, _, _, _, _, rfl, rfl, { HTH.out with h4 := fun _ => rfl }⟩
          | 5, _, hi, hib =>
            have d4 : b4 = true := ready_dep hi rfl 4 (by kernel_rfl)
            have hd4 := HT.h4 d4
            subst hd4
            have HC := Lib.hid (ofAt_any 1 ma2 mi2 pa2 s2 w')
            clear HT
            refine wpOp_one rfl rfl (fun K hK => ?_)
            go_simp
            refine HC.out.mono ?_
            rintro e w2 ⟨v, rfl, ho, hb⟩
            exact hK.out _ _ ⟨b0, b1, b2, b3, b4, true, b6, b7, b8, b9, b10, b11, b12, b13, b14, _, _, _, _, _, _, _, _, _, _, _, _, _, _, _, rfl, rfl, { HTH.out with bel := HTH.out.bel.trans (hb.mono HTH.out.bel.size), h5 := fun _ => ho, h1 := fun h => (HTH.out.h1 h).below hb, h9 := fun h => (HTH.out.h9 h).below hb }⟩
          | 6, _, hi, hib =>
            obtain ⟨x0, x1, x2, x3⟩ := cells4 ((HT.bel.block _ HL0.out).trans (HBB.out.get (w.heap.size) (verC ma1 mi1 pa1 s1) (by simp)))
            clear HT
            refine wpOp_one rfl rfl (fun K hK => ?_)
            go_simp
            exact hK.out _ _ ⟨b0, b1, b2, b3, b4, b5, true, b7, b8, b9, b10, b11, b12, b13, b14, _, _, _, _, _, _, _, _, _, _, _, _, _, _, _, rfl, rfl, { HTH.out with h6 := fun _ => rfl }⟩
          | 7, _, hi, hib =>
            have d5 : b5 = true := ready_dep hi rfl 5 (by kernel_rfl)
            have HO := Lib.hid (HT.h5 d5)
            have d6 : b6 = true := ready_dep hi rfl 6 (by kernel_rfl)
            have hd6 := HT.h6 d6
            subst hd6
            have hM := HMB.out.1.below HMB.out.2 HT.bel
            have HC := Lib.hid (hasOf_any ⟨1, ma2, mi2, pa2, s2⟩ _ ma1 mi1 pa1 s1 w' HO.out (by have := HS2.out; show s2.size < _; omega) (by have := HS1.out; omega) hM.1 hM.2)
            rw [HQ1.out] at HC
            clear hM
            clear HT
            refine wpOp_one rfl rfl (fun K hK => ?_)
            go_simp
            refine HC.out.mono ?_
            rintro e w2 ⟨rfl, hb⟩
            exact hK.out _ _ ⟨b0, b1, b2, b3, b4, b5, b6, true, b8, b9, b10, b11, b12, b13, b14, _, _, _, _, _, _, _, _, _, _, _, _, _, _, _, rfl, rfl, { HTH.out with bel := HTH.out.bel.trans (hb.mono HTH.out.bel.size), h7 := fun _ => rfl, h1 := fun h => (HTH.out.h1 h).below hb, h5 := fun h => (HTH.out.h5 h).below hb, h9 := fun h => (HTH.out.h9 h).below hb }⟩
          | 8, _, hi, hib =>
            obtain ⟨x0, x1, x2, x3⟩ := cells4 ((HT.bel.block _ HL1.out).trans (HBB.out.get (w.heap.size + 1) (verC ma2 mi2 pa2 s2) (by simp)))
            clear HT
            refine wpOp_one rfl rfl (fun K hK => ?_)
            go_simp
            exact hK.out _ _ ⟨b0, b1, b2, b3, b4, b5, b6, b7, true, b9, b10, b11, b12, b13, b14, _, _, _, _, _, _, _, _, _, _, _, _, _, _, _, rfl, rfl, { HTH.out with h8 := fun _ => rfl }⟩
          | 9, _, hi, hib =>
            have d8 : b8 = true := ready_dep hi rfl 8 (by kernel_rfl)
            have hd8 := HT.h8 d8
            subst hd8
            have HC := Lib.hid (ofAt_any 4 ma2 mi2 pa2 s2 w')
            clear HT
            refine wpOp_one rfl rfl (fun K hK => ?_)
            go_simp
            refine HC.out.mono ?_
            rintro e w2 ⟨v, rfl, ho, hb⟩
            exact hK.out _ _ ⟨b0, b1, b2, b3, b4, b5, b6, b7, b8, true, b10, b11, b12, b13, b14, _, _, _, _, _, _, _, _, _, _, _, _, _, _, _, rfl, rfl, { HTH.out with bel := HTH.out.bel.trans (hb.mono HTH.out.bel.size), h9 := fun _ => ho, h1 := fun h => (HTH.out.h1 h).below hb, h5 := fun h => (HTH.out.h5 h).below hb }⟩
          | 10, _, hi, hib =>
            obtain ⟨x0, x1, x2, x3⟩ := cells4 ((HT.bel.block _ HL0.out).trans (HBB.out.get (w.heap.size) (verC ma1 mi1 pa1 s1) (by simp)))
            clear HT
            refine wpOp_one rfl rfl (fun K hK => ?_)
            go_simp
            exact hK.out _ _ ⟨b0, b1, b2, b3, b4, b5, b6, b7, b8, b9, true, b11, b12, b13, b14, _, _, _, _, _, _, _, _, _, _, _, _, _, _, _, rfl, rfl, { HTH.out with h10 := fun _ => rfl }⟩
          | 11, _, hi, hib =>
            have d9 : b9 = true := ready_dep hi rfl 9 (by kernel_rfl)
            have HO := Lib.hid (HT.h9 d9)
            have d10 : b10 = true := ready_dep hi rfl 10 (by kernel_rfl)
            have hd10 := HT.h10 d10
            subst hd10
            have hM := HMB.out.1.below HMB.out.2 HT.bel
            have HC := Lib.hid (hasOf_any ⟨4, ma2, mi2, pa2, s2⟩ _ ma1 mi1 pa1 s1 w' HO.out (by have := HS2.out; show s2.size < _; omega) (by have := HS1.out; omega) hM.1 hM.2)
            rw [HQ4.out] at HC
            clear hM
            clear HT
            refine wpOp_one rfl rfl (fun K hK => ?_)
            go_simp
            refine HC.out.mono ?_
            rintro e w2 ⟨rfl, hb⟩
            exact hK.out _ _ ⟨b0, b1, b2, b3, b4, b5, b6, b7, b8, b9, b10, true, b12, b13, b14, _, _, _, _, _, _, _, _, _, _, _, _, _, _, _, rfl, rfl, { HTH.out with bel := HTH.out.bel.trans (hb.mono HTH.out.bel.size), h11 := fun _ => rfl, h1 := fun h => (HTH.out.h1 h).below hb, h5 := fun h => (HTH.out.h5 h).below hb, h9 := fun h => (HTH.out.h9 h).below hb }⟩
          | 12, _, hi, hib =>
            have d3 : b3 = true := ready_dep hi rfl 3 (by kernel_rfl)
            have hd3 := HT.h3 d3
            subst hd3
            clear HT
            refine wpOp_one rfl rfl (fun K hK => ?_)
            go_simp
            exact hK.out _ _ ⟨b0, b1, b2, b3, b4, b5, b6, b7, b8, b9, b10, b11, true, b13, b14, _, _, _, _, _, _, _, _, _, _, _, _, _, _, _, rfl, rfl, { HTH.out with h12 := fun _ => rfl }⟩
          | 13, _, hi, hib =>
            have d7 : b7 = true := ready_dep hi rfl 7 (by kernel_rfl)
            have hd7 := HT.h7 d7
            subst hd7
            clear HT
            refine wpOp_one rfl rfl (fun K hK => ?_)
            go_simp
            exact hK.out _ _ ⟨b0, b1, b2, b3, b4, b5, b6, b7, b8, b9, b10, b11, b12, true, b14, _, _, _, _, _, _, _, _, _, _, _, _, _, _, _, rfl, rfl, { HTH.out with h13 := fun _ => rfl }⟩
          | 14, _, hi, hib =>
            have d11 : b11 = true := ready_dep hi rfl 11 (by kernel_rfl)
            have hd11 := HT.h11 d11
            subst hd11
            clear HT
            refine wpOp_one rfl rfl (fun K hK => ?_)
            go_simp
            exact hK.out _ _ ⟨b0, b1, b2, b3, b4, b5, b6, b7, b8, b9, b10, b11, b12, b13, true, _, _, _, _, _, _, _, _, _, _, _, _, _, _, _, rfl, rfl, { HTH.out with h14 := fun _ => rfl }⟩
        case fin =>
          rintro l a' w' ⟨b0, b1, b2, b3, b4, b5, b6, b7, b8, b9, b10, b11, b12, b13, b14, v5, v6, v7, v33, v34, v35, v36, v37, v38, v39, v40, v41, v42, v43, v44, rfl, rfl, HT⟩ hr
          obtain rfl : b0 = true := by
            cases b0 with
            | true => rfl
            | false => exact (ready_in 0 rfl rfl (by simp [Region.binds]) hr).elim
          obtain rfl : b1 = true := by
            cases b1 with
            | true => rfl
            | false => exact (ready_in 1 rfl rfl (by simp [Region.binds]) hr).elim
          obtain rfl : b2 = true := by
            cases b2 with
            | true => rfl
            | false => exact (ready_in 2 rfl rfl (by simp [Region.binds]) hr).elim
          obtain rfl : b3 = true := by
            cases b3 with
            | true => rfl
            | false => exact (ready_in 3 rfl rfl (by simp [Region.binds]) hr).elim
          obtain rfl : b4 = true := by
            cases b4 with
            | true => rfl
            | false => exact (ready_in 4 rfl rfl (by simp [Region.binds]) hr).elim
          obtain rfl : b5 = true := by
            cases b5 with
            | true => rfl
            | false => exact (ready_in 5 rfl rfl (by simp [Region.binds]) hr).elim
          obtain rfl : b6 = true := by
            cases b6 with
            | true => rfl
            | false => exact (ready_in 6 rfl rfl (by simp [Region.binds]) hr).elim
          obtain rfl : b7 = true := by
            cases b7 with
            | true => rfl
            | false => exact (ready_in 7 rfl rfl (by simp [Region.binds]) hr).elim
          obtain rfl : b8 = true := by
            cases b8 with
            | true => rfl
            | false => exact (ready_in 8 rfl rfl (by simp [Region.binds]) hr).elim
          obtain rfl : b9 = true := by
            cases b9 with
            | true => rfl
            | false => exact (ready_in 9 rfl rfl (by simp [Region.binds]) hr).elim
          obtain rfl : b10 = true := by
            cases b10 with
            | true => rfl
            | false => exact (ready_in 10 rfl rfl (by simp [Region.binds]) hr).elim
          obtain rfl : b11 = true := by
            cases b11 with
            | true => rfl
            | false => exact (ready_in 11 rfl rfl (by simp [Region.binds]) hr).elim
          obtain rfl : b12 = true := by
            cases b12 with
            | true => rfl
            | false => exact (ready_in 12 rfl rfl (by simp [Region.binds]) hr).elim
          obtain rfl : b13 = true := by
            cases b13 with
            | true => rfl
            | false => exact (ready_in 13 rfl rfl (by simp [Region.binds]) hr).elim
          obtain rfl : b14 = true := by
            cases b14 with
            | true => rfl
            | false => exact (ready_in 14 rfl rfl (by simp [Region.binds]) hr).elim
          have k0 := HT.h0 rfl
          subst k0
          have k2 := HT.h2 rfl
          subst k2
          have k3 := HT.h3 rfl
          subst k3
          have k4 := HT.h4 rfl
          subst k4
          have k6 := HT.h6 rfl
          subst k6
          have k7 := HT.h7 rfl
          subst k7
          have k8 := HT.h8 rfl
          subst k8
          have k10 := HT.h10 rfl
          subst k10
          have k11 := HT.h11 rfl
          subst k11
          have k12 := HT.h12 rfl
          subst k12
          have k13 := HT.h13 rfl
          subst k13
          have k14 := HT.h14 rfl
          subst k14
          have HF := HT.bel
          clear HT hr
          show _
          go_wp2_with fail
          go_meet
          exact ⟨rfl, rfl, rfl, HF⟩
      case rest =>
        obtain ⟨rfl, rfl, rfl, hb⟩ := hcut
        rename World => W4
        have HBX4 := Lib.hid (HBX3.out.below hb)
        have HB4 : Hid (Below w.heap.size w W4) := Lib.hid (HB3.out.trans (hb.mono HB3.out.size))
        have HM4 := Lib.hid (HM3.out.1.below HM3.out.2 hb)
        clear hb
        obtain ⟨W5, hW5⟩ : ∃ W5, W4.alloc (.cells #[.bool false, .bool false, .bool true] 4) = W5 := ⟨_, rfl⟩
        have hb45 : Below W4.heap.size W4 W5 := by rw [← hW5]; exact (Below.refl _ W4).alloc (Nat.le_refl _) _
        have HBX5 := Lib.hid (HBX4.out.below hb45)
        have HB5 : Hid (Below w.heap.size w W5) := Lib.hid (HB4.out.trans (hb45.mono HB4.out.size))
        have HM5 := Lib.hid (HM4.out.1.below HM4.out.2 hb45)
        have hz5 : W5.heap[W4.heap.size]? = some (.cells #[.bool false, .bool false, .bool true] 4) := by rw [← hW5]; exact World.alloc_heap_new _ _
        have HW5 := Lib.hid hW5
        have k0 : W5.cell? ⟨W4.heap.size, 0, none⟩ = some (.bool false) := by simp [World.cell?, hz5]
        have k1 : W5.cell? ⟨W4.heap.size, 1, none⟩ = some (.bool false) := by simp [World.cell?, hz5]
        have k2 : W5.cell? ⟨W4.heap.size, 2, none⟩ = some (.bool true) := by simp [World.cell?, hz5]
        clear hz5 hW5 hb45
        have HL0 : Hid (w.heap.size < W5.heap.size) := Lib.hid (HBX5.out _ (by simp : (w.heap.size, verC ma1 mi1 pa1 s1) ∈ _)).1
        have HL1 : Hid (w.heap.size + 1 < W5.heap.size) := Lib.hid (HBX5.out _ (by simp : (w.heap.size + 1, verC ma2 mi2 pa2 s2) ∈ _)).1
        have HBB := HBX5
        have HMB := HM5
        go_wp2
        try rw [HW5.out]
        refine wp_loop_rounds 4 ?_
        rw [rounds_succ]
        go_wp2
        rw [rounds_succ]
        go_wp2
        rw [rounds_succ]
        go_wp2
        rw [rounds_succ]
        go_wp2_with fail
        refine wp_region_inv (by kernel_rfl) (I := PcJ W5 ma1 mi1 pa1 s1 ma2 mi2 pa2 s2  _ _ _ _ _ _ _ _ _ _ _ _ _ _ _ _ _ _ _ _ _ _ _ _ _ _ _ _ _ _ _ _ _ _ _ _ _ _ _ _ _ _ _ _ _ _ _ _ _ _ _ _ _ _ _ _ _) ⟨false, false, false, false, false, false, false, false, false, false, false, false, false, false, false, false, false, false, false, false, false, false, false, false, false, false, false, false, false, false, false, false, false, false, false, false, false, false, _, _, _, _, _, _, _, _, _, _, _, _, _, _, _, _, _, _, _, _, _, _, _, _, _, _, _, _, _, _, _, _, _, _, _, _, _, _, rfl, rfl, ⟨(Below.refl _ W5).drew, nofun, nofun, nofun, nofun, nofun, nofun, nofun, nofun, nofun, nofun, nofun, nofun, nofun, nofun, nofun, nofun, nofun, nofun, nofun, nofun, nofun, nofun, nofun, nofun, nofun, nofun, nofun, nofun, nofun, nofun, nofun, nofun, nofun, nofun, nofun, nofun, nofun, nofun⟩⟩ ?step ?fin
        case step =>
          rintro l a' w' i ⟨b0, b1, b2, b3, b4, b5, b6, b7, b8, b9, b10, b11, b12, b13, b14, b15, b16, b17, b18, b19, b20, b21, b22, b23, b24, b25, b26, b27, b28, b29, b30, b31, b32, b33, b34, b35, b36, b37, v4, v58, v59, v60, v61, v62, v63, v64, v65, v66, v67, v68, v69, v70, v71, v72, v73, v74, v75, v76, v77, v78, v79, v80, v81, v82, v83, v84, v85, v86, v87, v88, v89, v90, v91, v92, v93, v94, rfl, rfl, HT⟩ hi
          obtain ⟨hi_, hib⟩ := ready_lt hi
          have HTH := Lib.hid HT
          match i, hi_, hi, hib with
          | 0, _, hi, hib =>
            clear HT
            refine wpOp_one rfl rfl (fun K hK => ?_)
            go_simp
            exact hK.out _ _ ⟨true, b1, b2, b3, b4, b5, b6, b7, b8, b9, b10, b11, b12, b13, b14, b15, b16, b17, b18, b19, b20, b21, b22, b23, b24, b25, b26, b27, b28, b29, b30, b31, b32, b33, b34, b35, b36, b37, _, _, _, _, _, _, _, _, _, _, _, _, _, _, _, _, _, _, _, _, _, _, _, _, _, _, _, _, _, _, _, _, _, _, _, _, _, _, rfl, rfl, { HTH.out with h0 := fun _ => rfl }⟩
          | 1, _, hi, hib =>
            have d0 : b0 = true := ready_dep hi rfl 0 (by kernel_rfl)
            have hd0 := HT.h0 d0
            subst hd0
            clear HT
            refine wpOp_one rfl rfl (fun K hK => ?_)
            go_simp
            exact hK.out _ _ ⟨b0, true, b2, b3, b4, b5, b6, b7, b8, b9, b10, b11, b12, b13, b14, b15, b16, b17, b18, b19, b20, b21, b22, b23, b24, b25, b26, b27, b28, b29, b30, b31, b32, b33, b34, b35, b36, b37, _, _, _, _, _, _, _, _, _, _, _, _, _, _, _, _, _, _, _, _, _, _, _, _, _, _, _, _, _, _, _, _, _, _, _, _, _, _, rfl, rfl, { HTH.out with h1 := fun _ => rfl }⟩
          | 2, _, hi, hib =>
            have d1 : b1 = true := ready_dep hi rfl 1 (by kernel_rfl)
            have hd1 := HT.h1 d1
            subst hd1
            clear HT
            refine wpOp_one rfl rfl (fun K hK => ?_)
            go_simp
            exact hK.out _ _ ⟨b0, b1, true, b3, b4, b5, b6, b7, b8, b9, b10, b11, b12, b13, b14, b15, b16, b17, b18, b19, b20, b21, b22, b23, b24, b25, b26, b27, b28, b29, b30, b31, b32, b33, b34, b35, b36, b37, _, _, _, _, _, _, _, _, _, _, _, _, _, _, _, _, _, _, _, _, _, _, _, _, _, _, _, _, _, _, _, _, _, _, _, _, _, _, rfl, rfl, { HTH.out with h2 := fun _ => rfl }⟩
          | 3, _, hi, hib =>
            have e2 : b2 = true := ready_dep hi rfl 2 (by kernel_rfl)
            have he2 := HT.h2 e2
            subst he2
            obtain ⟨x0, x1, x2, x3⟩ := cells4 ((HT.bel.block _ HL1.out).trans (HBB.out.get (w.heap.size + 1) (verC ma2 mi2 pa2 s2) (by simp)))
            clear HT
            refine wpOp_want rfl 2 true rfl rfl (fun K hK => ?_)
            go_simp
            exact hK.out _ _ ⟨b0, b1, b2, true, b4, b5, b6, b7, b8, b9, b10, b11, b12, b13, b14, b15, b16, b17, b18, b19, b20, b21, b22, b23, b24, b25, b26, b27, b28, b29, b30, b31, b32, b33, b34, b35, b36, b37, _, _, _, _, _, _, _, _, _, _, _, _, _, _, _, _, _, _, _, _, _, _, _, _, _, _, _, _, _, _, _, _, _, _, _, _, _, _, rfl, rfl, { HTH.out with h3 := fun _ => rfl }⟩
          | 4, _, hi, hib =>
            have e2 : b2 = true := ready_dep hi rfl 2 (by kernel_rfl)
            have he2 := HT.h2 e2
            subst he2
            have d3 : b3 = true := ready_dep hi rfl 3 (by kernel_rfl)
            have hd3 := HT.h3 d3
            subst hd3
            have HC := Lib.hid (ofAt_any 3 ma2 mi2 pa2 s2 w')
            clear HT
            refine wpOp_want rfl 2 true rfl rfl (fun K hK => ?_)
            go_simp
            refine HC.out.mono ?_
            rintro e w2 ⟨v, rfl, ho, hb⟩
            exact hK.out _ _ ⟨b0, b1, b2, b3, true, b5, b6, b7, b8, b9, b10, b11, b12, b13, b14, b15, b16, b17, b18, b19, b20, b21, b22, b23, b24, b25, b26, b27, b28, b29, b30, b31, b32, b33, b34, b35, b36, b37, _, _, _, _, _, _, _, _, _, _, _, _, _, _, _, _, _, _, _, _, _, _, _, _, _, _, _, _, _, _, _, _, _, _, _, _, _, _, rfl, rfl, { HTH.out with bel := HTH.out.bel.trans (hb.mono HTH.out.bel.size), h4 := fun _ => ho, h15 := fun h => (HTH.out.h15 h).below hb, h26 := fun h => (HTH.out.h26 h).below hb }⟩
          | 5, _, hi, hib =>
            have e2 : b2 = true := ready_dep hi rfl 2 (by kernel_rfl)
            have he2 := HT.h2 e2
            subst he2
            obtain ⟨x0, x1, x2, x3⟩ := cells4 ((HT.bel.block _ HL0.out).trans (HBB.out.get (w.heap.size) (verC ma1 mi1 pa1 s1) (by simp)))
            clear HT
            refine wpOp_want rfl 2 true rfl rfl (fun K hK => ?_)
            go_simp
            exact hK.out _ _ ⟨b0, b1, b2, b3, b4, true, b6, b7, b8, b9, b10, b11, b12, b13, b14, b15, b16, b17, b18, b19, b20, b21, b22, b23, b24, b25, b26, b27, b28, b29, b30, b31, b32, b33, b34, b35, b36, b37, _, _, _, _, _, _, _, _, _, _, _, _, _, _, _, _, _, _, _, _, _, _, _, _, _, _, _, _, _, _, _, _, _, _, _, _, _, _, rfl, rfl, { HTH.out with h5 := fun _ => rfl }⟩
          | 6, _, hi, hib =>
            have e2 : b2 = true := ready_dep hi rfl 2 (by kernel_rfl)
            have he2 := HT.h2 e2
            subst he2
            have d4 : b4 = true := ready_dep hi rfl 4 (by kernel_rfl)
            have HO := Lib.hid (HT.h4 d4)
            have d5 : b5 = true := ready_dep hi rfl 5 (by kernel_rfl)
            have hd5 := HT.h5 d5
            subst hd5
            have hM := HMB.out.1.below HMB.out.2 HT.bel
            have HC := Lib.hid (hasOf_any ⟨3, ma2, mi2, pa2, s2⟩ _ ma1 mi1 pa1 s1 w' HO.out (by have := HS2.out; show s2.size < _; omega) (by have := HS1.out; omega) hM.1 hM.2)
            rw [HQ3.out] at HC
            clear hM
            clear HT
            refine wpOp_want rfl 2 true rfl rfl (fun K hK => ?_)
            go_simp
            refine HC.out.mono ?_
            rintro e w2 ⟨rfl, hb⟩
            exact hK.out _ _ ⟨b0, b1, b2, b3, b4, b5, true, b7, b8, b9, b10, b11, b12, b13, b14, b15, b16, b17, b18, b19, b20, b21, b22, b23, b24, b25, b26, b27, b28, b29, b30, b31, b32, b33, b34, b35, b36, b37, _, _, _, _, _, _, _, _, _, _, _, _, _, _, _, _, _, _, _, _, _, _, _, _, _, _, _, _, _, _, _, _, _, _, _, _, _, _, rfl, rfl, { HTH.out with bel := HTH.out.bel.trans (hb.mono HTH.out.bel.size), h6 := fun _ => rfl, h4 := fun h => (HTH.out.h4 h).below hb, h15 := fun h => (HTH.out.h15 h).below hb, h26 := fun h => (HTH.out.h26 h).below hb }⟩
          | 7, _, hi, hib =>
            have e2 : b2 = true := ready_dep hi rfl 2 (by kernel_rfl)
            have he2 := HT.h2 e2
            subst he2
            clear HT
            refine wpOp_want rfl 2 true rfl rfl (fun K hK => ?_)
            go_simp
            exact hK.out _ _ ⟨b0, b1, b2, b3, b4, b5, b6, true, b8, b9, b10, b11, b12, b13, b14, b15, b16, b17, b18, b19, b20, b21, b22, b23, b24, b25, b26, b27, b28, b29, b30, b31, b32, b33, b34, b35, b36, b37, _, _, _, _, _, _, _, _, _, _, _, _, _, _, _, _, _, _, _, _, _, _, _, _, _, _, _, _, _, _, _, _, _, _, _, _, _, _, rfl, rfl, { HTH.out with h7 := fun _ => rfl }⟩
          | 8, _, hi, hib =>
            have e2 : b2 = true := ready_dep hi rfl 2 (by kernel_rfl)
            have he2 := HT.h2 e2
            subst he2
            have d7 : b7 = true := ready_dep hi rfl 7 (by kernel_rfl)
            have hd7 := HT.h7 d7
            subst hd7
            clear HT
            refine wpOp_want rfl 2 true rfl rfl (fun K hK => ?_)
            go_simp
            exact hK.out _ _ ⟨b0, b1, b2, b3, b4, b5, b6, b7, true, b9, b10, b11, b12, b13, b14, b15, b16, b17, b18, b19, b20, b21, b22, b23, b24, b25, b26, b27, b28, b29, b30, b31, b32, b33, b34, b35, b36, b37, _, _, _, _, _, _, _, _, _, _, _, _, _, _, _, _, _, _, _, _, _, _, _, _, _, _, _, _, _, _, _, _, _, _, _, _, _, _, rfl, rfl, { HTH.out with h8 := fun _ => rfl }⟩
          | 9, _, hi, hib =>
            have e8 : b8 = true := ready_dep hi rfl 8 (by kernel_rfl)
            have he8 := HT.h8 e8
            subst he8
            clear HT
            refine wpOp_want rfl 8 false rfl rfl (fun K hK => ?_)
            go_simp
            exact hK.out _ _ ⟨b0, b1, b2, b3, b4, b5, b6, b7, b8, true, b10, b11, b12, b13, b14, b15, b16, b17, b18, b19, b20, b21, b22, b23, b24, b25, b26, b27, b28, b29, b30, b31, b32, b33, b34, b35, b36, b37, _, _, _, _, _, _, _, _, _, _, _, _, _, _, _, _, _, _, _, _, _, _, _, _, _, _, _, _, _, _, _, _, _, _, _, _, _, _, rfl, rfl, { HTH.out with h9 := fun _ => rfl }⟩
          | 10, _, hi, hib =>
            have e2 : b2 = true := ready_dep hi rfl 2 (by kernel_rfl)
            have he2 := HT.h2 e2
            subst he2
            have d8 : b8 = true := ready_dep hi rfl 8 (by kernel_rfl)
            have hd8 := HT.h8 d8
            subst hd8
            have d9 : b9 = true := ready_dep hi rfl 9 (by kernel_rfl)
            have hd9 := HT.h9 d9
            subst hd9
            clear HT
            refine wpOp_want rfl 2 true rfl rfl (fun K hK => ?_)
            go_simp
            exact hK.out _ _ ⟨b0, b1, b2, b3, b4, b5, b6, b7, b8, b9, true, b11, b12, b13, b14, b15, b16, b17, b18, b19, b20, b21, b22, b23, b24, b25, b26, b27, b28, b29, b30, b31, b32, b33, b34, b35, b36, b37, _, _, _, _, _, _, _, _, _, _, _, _, _, _, _, _, _, _, _, _, _, _, _, _, _, _, _, _, _, _, _, _, _, _, _, _, _, _, rfl, rfl, { HTH.out with h10 := fun _ => rfl }⟩
          | 11, _, hi, hib =>
            have e2 : b2 = true := ready_dep hi rfl 2 (by kernel_rfl)
            have he2 := HT.h2 e2
            subst he2
            have d6 : b6 = true := ready_dep hi rfl 6 (by kernel_rfl)
            have hd6 := HT.h6 d6
            subst hd6
            have d10 : b10 = true := ready_dep hi rfl 10 (by kernel_rfl)
            have hd10 := HT.h10 d10
            subst hd10
            clear HT
            refine wpOp_want rfl 2 true rfl rfl (fun K hK => ?_)
            go_simp
            exact hK.out _ _ ⟨b0, b1, b2, b3, b4, b5, b6, b7, b8, b9, b10, true, b12, b13, b14, b15, b16, b17, b18, b19, b20, b21, b22, b23, b24, b25, b26, b27, b28, b29, b30, b31, b32, b33, b34, b35, b36, b37, _, _, _, _, _, _, _, _, _, _, _, _, _, _, _, _, _, _, _, _, _, _, _, _, _, _, _, _, _, _, _, _, _, _, _, _, _, _, rfl, rfl, { HTH.out with h11 := fun _ => rfl }⟩
          | 12, _, hi, hib =>
            have d2 : b2 = true := ready_dep hi rfl 2 (by kernel_rfl)
            have hd2 := HT.h2 d2
            subst hd2
            have d11 : b11 = true := ready_dep hi rfl 11 (by kernel_rfl)
            have hd11 := HT.h11 d11
            subst hd11
            clear HT
            refine wpOp_one rfl rfl (fun K hK => ?_)
            go_simp
            exact hK.out _ _ ⟨b0, b1, b2, b3, b4, b5, b6, b7, b8, b9, b10, b11, true, b13, b14, b15, b16, b17, b18, b19, b20, b21, b22, b23, b24, b25, b26, b27, b28, b29, b30, b31, b32, b33, b34, b35, b36, b37, _, _, _, _, _, _, _, _, _, _, _, _, _, _, _, _, _, _, _, _, _, _, _, _, _, _, _, _, _, _, _, _, _, _, _, _, _, _, rfl, rfl, { HTH.out with h12 := fun _ => rfl }⟩
          | 13, _, hi, hib =>
            have d12 : b12 = true := ready_dep hi rfl 12 (by kernel_rfl)
            have hd12 := HT.h12 d12
            subst hd12
            clear HT
            refine wpOp_one rfl rfl (fun K hK => ?_)
            go_simp
            exact hK.out _ _ ⟨b0, b1, b2, b3, b4, b5, b6, b7, b8, b9, b10, b11, b12, true, b14, b15, b16, b17, b18, b19, b20, b21, b22, b23, b24, b25, b26, b27, b28, b29, b30, b31, b32, b33, b34, b35, b36, b37, _, _, _, _, _, _, _, _, _, _, _, _, _, _, _, _, _, _, _, _, _, _, _, _, _, _, _, _, _, _, _, _, _, _, _, _, _, _, rfl, rfl, { HTH.out with h13 := fun _ => rfl }⟩
          | 14, _, hi, hib =>
            have e13 : b13 = true := ready_dep hi rfl 13 (by kernel_rfl)
            have he13 := HT.h13 e13
            subst he13
            obtain ⟨x0, x1, x2, x3⟩ := cells4 ((HT.bel.block _ HL1.out).trans (HBB.out.get (w.heap.size + 1) (verC ma2 mi2 pa2 s2) (by simp)))
            clear HT
            refine wpOp_want rfl 13 true rfl rfl (fun K hK => ?_)
            go_simp
            exact hK.out _ _ ⟨b0, b1, b2, b3, b4, b5, b6, b7, b8, b9, b10, b11, b12, b13, true, b15, b16, b17, b18, b19, b20, b21, b22, b23, b24, b25, b26, b27, b28, b29, b30, b31, b32, b33, b34, b35, b36, b37, _, _, _, _, _, _, _, _, _, _, _, _, _, _, _, _, _, _, _, _, _, _, _, _, _, _, _, _, _, _, _, _, _, _, _, _, _, _, rfl, rfl, { HTH.out with h14 := fun _ => rfl }⟩
          | 15, _, hi, hib =>
            have e13 : b13 = true := ready_dep hi rfl 13 (by kernel_rfl)
            have he13 := HT.h13 e13
            subst he13
            have d14 : b14 = true := ready_dep hi rfl 14 (by kernel_rfl)
            have hd14 := HT.h14 d14
            subst hd14
            have HC := Lib.hid (ofAt_any 5 ma2 mi2 pa2 s2 w')
            clear HT
            refine wpOp_want rfl 13 true rfl rfl (fun K hK => ?_)
            go_simp
            refine HC.out.mono ?_
            rintro e w2 ⟨v, rfl, ho, hb⟩
            exact hK.out _ _ ⟨b0, b1, b2, b3, b4, b5, b6, b7, b8, b9, b10, b11, b12, b13, b14, true, b16, b17, b18, b19, b20, b21, b22, b23, b24, b25, b26, b27, b28, b29, b30, b31, b32, b33, b34, b35, b36, b37, _, _, _, _, _, _, _, _, _, _, _, _, _, _, _, _, _, _, _, _, _, _, _, _, _, _, _, _, _, _, _, _, _, _, _, _, _, _, rfl, rfl, { HTH.out with bel := HTH.out.bel.trans (hb.mono HTH.out.bel.size), h15 := fun _ => ho, h4 := fun h => (HTH.out.h4 h).below hb, h26 := fun h => (HTH.out.h26 h).below hb }⟩
          | 16, _, hi, hib =>
            have e13 : b13 = true := ready_dep hi rfl 13 (by kernel_rfl)
            have he13 := HT.h13 e13
            subst he13
            obtain ⟨x0, x1, x2, x3⟩ := cells4 ((HT.bel.block _ HL0.out).trans (HBB.out.get (w.heap.size) (verC ma1 mi1 pa1 s1) (by simp)))
            clear HT
            refine wpOp_want rfl 13 true rfl rfl (fun K hK => ?_)
            go_simp
            exact hK.out _ _ ⟨b0, b1, b2, b3, b4, b5, b6, b7, b8, b9, b10, b11, b12, b13, b14, b15, true, b17, b18, b19, b20, b21, b22, b23, b24, b25, b26, b27, b28, b29, b30, b31, b32, b33, b34, b35, b36, b37, _, _, _, _, _, _, _, _, _, _, _, _, _, _, _, _, _, _, _, _, _, _, _, _, _, _, _, _, _, _, _, _, _, _, _, _, _, _, rfl, rfl, { HTH.out with h16 := fun _ => rfl }⟩
          | 17, _, hi, hib =>
            have e13 : b13 = true := ready_dep hi rfl 13 (by kernel_rfl)
            have he13 := HT.h13 e13
            subst he13
            have d15 : b15 = true := ready_dep hi rfl 15 (by kernel_rfl)
            have HO := Lib.hid (HT.h15 d15)
            have d16 : b16 = true := ready_dep hi rfl 16 (by kernel_rfl)
            have hd16 := HT.h16 d16
            subst hd16
            have hM := HMB.out.1.below HMB.out.2 HT.bel
            have HC := Lib.hid (hasOf_any ⟨5, ma2, mi2, pa2, s2⟩ _ ma1 mi1 pa1 s1 w' HO.out (by have := HS2.out; show s2.size < _; omega) (by have := HS1.out; omega) hM.1 hM.2)
            rw [HQ5.out] at HC
            clear hM
            clear HT
            refine wpOp_want rfl 13 true rfl rfl (fun K hK => ?_)
            go_simp
            refine HC.out.mono ?_
            rintro e w2 ⟨rfl, hb⟩
            exact hK.out _ _ ⟨b0, b1, b2, b3, b4, b5, b6, b7, b8, b9, b10, b11, b12, b13, b14, b15, b16, true, b18, b19, b20, b21, b22, b23, b24, b25, b26, b27, b28, b29, b30, b31, b32, b33, b34, b35, b36, b37, _, _, _, _, _, _, _, _, _, _, _, _, _, _, _, _, _, _, _, _, _, _, _, _, _, _, _, _, _, _, _, _, _, _, _, _, _, _, rfl, rfl, { HTH.out with bel := HTH.out.bel.trans (hb.mono HTH.out.bel.size), h17 := fun _ => rfl, h4 := fun h => (HTH.out.h4 h).below hb, h15 := fun h => (HTH.out.h15 h).below hb, h26 := fun h => (HTH.out.h26 h).below hb }⟩
          | 18, _, hi, hib =>
            have e13 : b13 = true := ready_dep hi rfl 13 (by kernel_rfl)
            have he13 := HT.h13 e13
            subst he13
            clear HT
            refine wpOp_want rfl 13 true rfl rfl (fun K hK => ?_)
            go_simp
            exact hK.out _ _ ⟨b0, b1, b2, b3, b4, b5, b6, b7, b8, b9, b10, b11, b12, b13, b14, b15, b16, b17, true, b19, b20, b21, b22, b23, b24, b25, b26, b27, b28, b29, b30, b31, b32, b33, b34, b35, b36, b37, _, _, _, _, _, _, _, _, _, _, _, _, _, _, _, _, _, _, _, _, _, _, _, _, _, _, _, _, _, _, _, _, _, _, _, _, _, _, rfl, rfl, { HTH.out with h18 := fun _ => rfl }⟩
          | 19, _, hi, hib =>
            have e13 : b13 = true := ready_dep hi rfl 13 (by kernel_rfl)
            have he13 := HT.h13 e13
            subst he13
            have d18 : b18 = true := ready_dep hi rfl 18 (by kernel_rfl)
            have hd18 := HT.h18 d18
            subst hd18
            clear HT
            refine wpOp_want rfl 13 true rfl rfl (fun K hK => ?_)
            go_simp
            exact hK.out _ _ ⟨b0, b1, b2, b3, b4, b5, b6, b7, b8, b9, b10, b11, b12, b13, b14, b15, b16, b17, b18, true, b20, b21, b22, b23, b24, b25, b26, b27, b28, b29, b30, b31, b32, b33, b34, b35, b36, b37, _, _, _, _, _, _, _, _, _, _, _, _, _, _, _, _, _, _, _, _, _, _, _, _, _, _, _, _, _, _, _, _, _, _, _, _, _, _, rfl, rfl, { HTH.out with h19 := fun _ => rfl }⟩
          | 20, _, hi, hib =>
            have e19 : b19 = true := ready_dep hi rfl 19 (by kernel_rfl)
            have he19 := HT.h19 e19
            subst he19
            refine wpOp_skip rfl 19 false rfl rfl ?_
            exact ⟨b0, b1, b2, b3, b4, b5, b6, b7, b8, b9, b10, b11, b12, b13, b14, b15, b16, b17, b18, b19, true, b21, b22, b23, b24, b25, b26, b27, b28, b29, b30, b31, b32, b33, b34, b35, b36, b37, _, _, _, _, _, _, _, _, _, _, _, _, _, _, _, _, _, _, _, _, _, _, _, _, _, _, _, _, _, _, _, _, _, _, _, _, _, _, rfl, rfl, { HT with h20 := fun _ => rfl }⟩
          | 21, _, hi, hib =>
            have e13 : b13 = true := ready_dep hi rfl 13 (by kernel_rfl)
            have he13 := HT.h13 e13
            subst he13
            have d19 : b19 = true := ready_dep hi rfl 19 (by kernel_rfl)
            have hd19 := HT.h19 d19
            subst hd19
            have d20 : b20 = true := ready_dep hi rfl 20 (by kernel_rfl)
            have hd20 := HT.h20 d20
            subst hd20
            clear HT
            refine wpOp_want rfl 13 true rfl rfl (fun K hK => ?_)
            go_simp
            exact hK.out _ _ ⟨b0, b1, b2, b3, b4, b5, b6, b7, b8, b9, b10, b11, b12, b13, b14, b15, b16, b17, b18, b19, b20, true, b22, b23, b24, b25, b26, b27, b28, b29, b30, b31, b32, b33, b34, b35, b36, b37, _, _, _, _, _, _, _, _, _, _, _, _, _, _, _, _, _, _, _, _, _, _, _, _, _, _, _, _, _, _, _, _, _, _, _, _, _, _, rfl, rfl, { HTH.out with h21 := fun _ => rfl }⟩
          | 22, _, hi, hib =>
            have e13 : b13 = true := ready_dep hi rfl 13 (by kernel_rfl)
            have he13 := HT.h13 e13
            subst he13
            have d17 : b17 = true := ready_dep hi rfl 17 (by kernel_rfl)
            have hd17 := HT.h17 d17
            subst hd17
            have d21 : b21 = true := ready_dep hi rfl 21 (by kernel_rfl)
            have hd21 := HT.h21 d21
            subst hd21
            clear HT
            refine wpOp_want rfl 13 true rfl rfl (fun K hK => ?_)
            go_simp
            exact hK.out _ _ ⟨b0, b1, b2, b3, b4, b5, b6, b7, b8, b9, b10, b11, b12, b13, b14, b15, b16, b17, b18, b19, b20, b21, true, b23, b24, b25, b26, b27, b28, b29, b30, b31, b32, b33, b34, b35, b36, b37, _, _, _, _, _, _, _, _, _, _, _, _, _, _, _, _, _, _, _, _, _, _, _, _, _, _, _, _, _, _, _, _, _, _, _, _, _, _, rfl, rfl, { HTH.out with h22 := fun _ => rfl }⟩
          | 23, _, hi, hib =>
            have d13 : b13 = true := ready_dep hi rfl 13 (by kernel_rfl)
            have hd13 := HT.h13 d13
            subst hd13
            have d22 : b22 = true := ready_dep hi rfl 22 (by kernel_rfl)
            have hd22 := HT.h22 d22
            subst hd22
            clear HT
            refine wpOp_one rfl rfl (fun K hK => ?_)
            go_simp
            exact hK.out _ _ ⟨b0, b1, b2, b3, b4, b5, b6, b7, b8, b9, b10, b11, b12, b13, b14, b15, b16, b17, b18, b19, b20, b21, b22, true, b24, b25, b26, b27, b28, b29, b30, b31, b32, b33, b34, b35, b36, b37, _, _, _, _, _, _, _, _, _, _, _, _, _, _, _, _, _, _, _, _, _, _, _, _, _, _, _, _, _, _, _, _, _, _, _, _, _, _, rfl, rfl, { HTH.out with h23 := fun _ => rfl }⟩
          | 24, _, hi, hib =>
            have d23 : b23 = true := ready_dep hi rfl 23 (by kernel_rfl)
            have hd23 := HT.h23 d23
            subst hd23
            clear HT
            refine wpOp_one rfl rfl (fun K hK => ?_)
            go_simp
            exact hK.out _ _ ⟨b0, b1, b2, b3, b4, b5, b6, b7, b8, b9, b10, b11, b12, b13, b14, b15, b16, b17, b18, b19, b20, b21, b22, b23, true, b25, b26, b27, b28, b29, b30, b31, b32, b33, b34, b35, b36, b37, _, _, _, _, _, _, _, _, _, _, _, _, _, _, _, _, _, _, _, _, _, _, _, _, _, _, _, _, _, _, _, _, _, _, _, _, _, _, rfl, rfl, { HTH.out with h24 := fun _ => rfl }⟩
          | 25, _, hi, hib =>
            have e24 : b24 = true := ready_dep hi rfl 24 (by kernel_rfl)
            have he24 := HT.h24 e24
            subst he24
            clear HT
            refine wpOp_want rfl 24 true rfl rfl (fun K hK => ?_)
            go_simp
            exact hK.out _ _ ⟨b0, b1, b2, b3, b4, b5, b6, b7, b8, b9, b10, b11, b12, b13, b14, b15, b16, b17, b18, b19, b20, b21, b22, b23, b24, true, b26, b27, b28, b29, b30, b31, b32, b33, b34, b35, b36, b37, _, _, _, _, _, _, _, _, _, _, _, _, _, _, _, _, _, _, _, _, _, _, _, _, _, _, _, _, _, _, _, _, _, _, _, _, _, _, rfl, rfl, { HTH.out with h25 := fun _ => rfl }⟩
          | 26, _, hi, hib =>
            have e24 : b24 = true := ready_dep hi rfl 24 (by kernel_rfl)
            have he24 := HT.h24 e24
            subst he24
            have d25 : b25 = true := ready_dep hi rfl 25 (by kernel_rfl)
            have hd25 := HT.h25 d25
            subst hd25
            have HC := Lib.hid (ofAt_any 0 0 0 0 ⟨#[]⟩ w')
            clear HT
            refine wpOp_want rfl 24 true rfl rfl (fun K hK => ?_)
            go_simp
            refine HC.out.mono ?_
            rintro e w2 ⟨v, rfl, ho, hb⟩
            exact hK.out _ _ ⟨b0, b1, b2, b3, b4, b5, b6, b7, b8, b9, b10, b11, b12, b13, b14, b15, b16, b17, b18, b19, b20, b21, b22, b23, b24, b25, true, b27, b28, b29, b30, b31, b32, b33, b34, b35, b36, b37, _, _, _, _, _, _, _, _, _, _, _, _, _, _, _, _, _, _, _, _, _, _, _, _, _, _, _, _, _, _, _, _, _, _, _, _, _, _, rfl, rfl, { HTH.out with bel := HTH.out.bel.trans (hb.mono HTH.out.bel.size), h26 := fun _ => ho, h4 := fun h => (HTH.out.h4 h).below hb, h15 := fun h => (HTH.out.h15 h).below hb }⟩
          | 27, _, hi, hib =>
            have e24 : b24 = true := ready_dep hi rfl 24 (by kernel_rfl)
            have he24 := HT.h24 e24
            subst he24
            obtain ⟨x0, x1, x2, x3⟩ := cells4 ((HT.bel.block _ HL0.out).trans (HBB.out.get (w.heap.size) (verC ma1 mi1 pa1 s1) (by simp)))
            clear HT
            refine wpOp_want rfl 24 true rfl rfl (fun K hK => ?_)
            go_simp
            exact hK.out _ _ ⟨b0, b1, b2, b3, b4, b5, b6, b7, b8, b9, b10, b11, b12, b13, b14, b15, b16, b17, b18, b19, b20, b21, b22, b23, b24, b25, b26, true, b28, b29, b30, b31, b32, b33, b34, b35, b36, b37, _, _, _, _, _, _, _, _, _, _, _, _, _, _, _, _, _, _, _, _, _, _, _, _, _, _, _, _, _, _, _, _, _, _, _, _, _, _, rfl, rfl, { HTH.out with h27 := fun _ => rfl }⟩
          | 28, _, hi, hib =>
            have e24 : b24 = true := ready_dep hi rfl 24 (by kernel_rfl)
            have he24 := HT.h24 e24
            subst he24
            have d26 : b26 = true := ready_dep hi rfl 26 (by kernel_rfl)
            have HO := Lib.hid (HT.h26 d26)
            have d27 : b27 = true := ready_dep hi rfl 27 (by kernel_rfl)
            have hd27 := HT.h27 d27
            subst hd27
            have hM := HMB.out.1.below HMB.out.2 HT.bel
            have HC := Lib.hid (hasOf_any ⟨0, 0, 0, 0, ⟨#[]⟩⟩ _ ma1 mi1 pa1 s1 w' HO.out (by decide) (by have := HS1.out; omega) hM.1 hM.2)
            rw [HQ0.out] at HC
            clear hM
            clear HT
            refine wpOp_want rfl 24 true rfl rfl (fun K hK => ?_)
            go_simp
            refine HC.out.mono ?_
            rintro e w2 ⟨rfl, hb⟩
            exact hK.out _ _ ⟨b0, b1, b2, b3, b4, b5, b6, b7, b8, b9, b10, b11, b12, b13, b14, b15, b16, b17, b18, b19, b20, b21, b22, b23, b24, b25, b26, b27, true, b29, b30, b31, b32, b33, b34, b35, b36, b37, _, _, _, _, _, _, _, _, _, _, _, _, _, _, _, _, _, _, _, _, _, _, _, _, _, _, _, _, _, _, _, _, _, _, _, _, _, _, rfl, rfl, { HTH.out with bel := HTH.out.bel.trans (hb.mono HTH.out.bel.size), h28 := fun _ => rfl, h4 := fun h => (HTH.out.h4 h).below hb, h15 := fun h => (HTH.out.h15 h).below hb, h26 := fun h => (HTH.out.h26 h).below hb }⟩
          | 29, _, hi, hib =>
            have d24 : b24 = true := ready_dep hi rfl 24 (by kernel_rfl)
            have hd24 := HT.h24 d24
            subst hd24
            have d28 : b28 = true := ready_dep hi rfl 28 (by kernel_rfl)
            have hd28 := HT.h28 d28
            subst hd28
            clear HT
            refine wpOp_one rfl rfl (fun K hK => ?_)
            go_simp
            exact hK.out _ _ ⟨b0, b1, b2, b3, b4, b5, b6, b7, b8, b9, b10, b11, b12, b13, b14, b15, b16, b17, b18, b19, b20, b21, b22, b23, b24, b25, b26, b27, b28, true, b30, b31, b32, b33, b34, b35, b36, b37, _, _, _, _, _, _, _, _, _, _, _, _, _, _, _, _, _, _, _, _, _, _, _, _, _, _, _, _, _, _, _, _, _, _, _, _, _, _, rfl, rfl, { HTH.out with h29 := fun _ => rfl }⟩
          | 30, _, hi, hib =>
            have d29 : b29 = true := ready_dep hi rfl 29 (by kernel_rfl)
            have hd29 := HT.h29 d29
            subst hd29
            clear HT
            refine wpOp_one rfl rfl (fun K hK => ?_)
            go_simp
            exact hK.out _ _ ⟨b0, b1, b2, b3, b4, b5, b6, b7, b8, b9, b10, b11, b12, b13, b14, b15, b16, b17, b18, b19, b20, b21, b22, b23, b24, b25, b26, b27, b28, b29, true, b31, b32, b33, b34, b35, b36, b37, _, _, _, _, _, _, _, _, _, _, _, _, _, _, _, _, _, _, _, _, _, _, _, _, _, _, _, _, _, _, _, _, _, _, _, _, _, _, rfl, rfl, { HTH.out with h30 := fun _ => rfl }⟩
          | 31, _, hi, hib =>
            have e30 : b30 = true := ready_dep hi rfl 30 (by kernel_rfl)
            have he30 := HT.h30 e30
            subst he30
            clear HT
            refine wpOp_want rfl 30 true rfl rfl (fun K hK => ?_)
            go_simp
            exact hK.out _ _ ⟨b0, b1, b2, b3, b4, b5, b6, b7, b8, b9, b10, b11, b12, b13, b14, b15, b16, b17, b18, b19, b20, b21, b22, b23, b24, b25, b26, b27, b28, b29, b30, true, b32, b33, b34, b35, b36, b37, _, _, _, _, _, _, _, _, _, _, _, _, _, _, _, _, _, _, _, _, _, _, _, _, _, _, _, _, _, _, _, _, _, _, _, _, _, _, rfl, rfl, { HTH.out with h31 := fun _ => rfl }⟩
          | 32, _, hi, hib =>
            have e30 : b30 = true := ready_dep hi rfl 30 (by kernel_rfl)
            have he30 := HT.h30 e30
            subst he30
            obtain ⟨x0, x1, x2, x3⟩ := cells4 ((HT.bel.block _ HL0.out).trans (HBB.out.get (w.heap.size) (verC ma1 mi1 pa1 s1) (by simp)))
            clear HT
            refine wpOp_want rfl 30 true rfl rfl (fun K hK => ?_)
            go_simp
            exact hK.out _ _ ⟨b0, b1, b2, b3, b4, b5, b6, b7, b8, b9, b10, b11, b12, b13, b14, b15, b16, b17, b18, b19, b20, b21, b22, b23, b24, b25, b26, b27, b28, b29, b30, b31, true, b33, b34, b35, b36, b37, _, _, _, _, _, _, _, _, _, _, _, _, _, _, _, _, _, _, _, _, _, _, _, _, _, _, _, _, _, _, _, _, _, _, _, _, _, _, rfl, rfl, { HTH.out with h32 := fun _ => rfl }⟩
          | 33, _, hi, hib =>
            have e30 : b30 = true := ready_dep hi rfl 30 (by kernel_rfl)
            have he30 := HT.h30 e30
            subst he30
            obtain ⟨x0, x1, x2, x3⟩ := cells4 ((HT.bel.block _ HL1.out).trans (HBB.out.get (w.heap.size + 1) (verC ma2 mi2 pa2 s2) (by simp)))
            clear HT
            refine wpOp_want rfl 30 true rfl rfl (fun K hK => ?_)
            go_simp
            exact hK.out _ _ ⟨b0, b1, b2, b3, b4, b5, b6, b7, b8, b9, b10, b11, b12, b13, b14, b15, b16, b17, b18, b19, b20, b21, b22, b23, b24, b25, b26, b27, b28, b29, b30, b31, b32, true, b34, b35, b36, b37, _, _, _, _, _, _, _, _, _, _, _, _, _, _, _, _, _, _, _, _, _, _, _, _, _, _, _, _, _, _, _, _, _, _, _, _, _, _, rfl, rfl, { HTH.out with h33 := fun _ => rfl }⟩
          | 34, _, hi, hib =>
            have e30 : b30 = true := ready_dep hi rfl 30 (by kernel_rfl)
            have he30 := HT.h30 e30
            subst he30
            have d32 : b32 = true := ready_dep hi rfl 32 (by kernel_rfl)
            have hd32 := HT.h32 d32
            subst hd32
            have d33 : b33 = true := ready_dep hi rfl 33 (by kernel_rfl)
            have hd33 := HT.h33 d33
            subst hd33
            have heq := HEQ.out
            clear HT
            refine wpOp_want rfl 30 true rfl rfl (fun K hK => ?_)
            go_simp
            exact hK.out _ _ ⟨b0, b1, b2, b3, b4, b5, b6, b7, b8, b9, b10, b11, b12, b13, b14, b15, b16, b17, b18, b19, b20, b21, b22, b23, b24, b25, b26, b27, b28, b29, b30, b31, b32, b33, true, b35, b36, b37, _, _, _, _, _, _, _, _, _, _, _, _, _, _, _, _, _, _, _, _, _, _, _, _, _, _, _, _, _, _, _, _, _, _, _, _, _, _, rfl, rfl, { HTH.out with h34 := fun _ => rfl }⟩
          | 35, _, hi, hib =>
            have e30 : b30 = true := ready_dep hi rfl 30 (by kernel_rfl)
            have he30 := HT.h30 e30
            subst he30
            have d31 : b31 = true := ready_dep hi rfl 31 (by kernel_rfl)
            have hd31 := HT.h31 d31
            subst hd31
            have d34 : b34 = true := ready_dep hi rfl 34 (by kernel_rfl)
            have hd34 := HT.h34 d34
            subst hd34
            clear HT
            refine wpOp_want rfl 30 true rfl rfl (fun K hK => ?_)
            go_simp
            exact hK.out _ _ ⟨b0, b1, b2, b3, b4, b5, b6, b7, b8, b9, b10, b11, b12, b13, b14, b15, b16, b17, b18, b19, b20, b21, b22, b23, b24, b25, b26, b27, b28, b29, b30, b31, b32, b33, b34, true, b36, b37, _, _, _, _, _, _, _, _, _, _, _, _, _, _, _, _, _, _, _, _, _, _, _, _, _, _, _, _, _, _, _, _, _, _, _, _, _, _, rfl, rfl, { HTH.out with h35 := fun _ => rfl }⟩
          | 36, _, hi, hib =>
            have d30 : b30 = true := ready_dep hi rfl 30 (by kernel_rfl)
            have hd30 := HT.h30 d30
            subst hd30
            have d35 : b35 = true := ready_dep hi rfl 35 (by kernel_rfl)
            have hd35 := HT.h35 d35
            subst hd35
            clear HT
            refine wpOp_one rfl rfl (fun K hK => ?_)
            go_simp
            exact hK.out _ _ ⟨b0, b1, b2, b3, b4, b5, b6, b7, b8, b9, b10, b11, b12, b13, b14, b15, b16, b17, b18, b19, b20, b21, b22, b23, b24, b25, b26, b27, b28, b29, b30, b31, b32, b33, b34, b35, true, b37, _, _, _, _, _, _, _, _, _, _, _, _, _, _, _, _, _, _, _, _, _, _, _, _, _, _, _, _, _, _, _, _, _, _, _, _, _, _, rfl, rfl, { HTH.out with h36 := fun _ => rfl }⟩
          | 37, _, hi, hib =>
            have d36 : b36 = true := ready_dep hi rfl 36 (by kernel_rfl)
            have hd36 := HT.h36 d36
            subst hd36
            clear HT
            refine wpOp_one rfl rfl (fun K hK => ?_)
            go_simp
            exact hK.out _ _ ⟨b0, b1, b2, b3, b4, b5, b6, b7, b8, b9, b10, b11, b12, b13, b14, b15, b16, b17, b18, b19, b20, b21, b22, b23, b24, b25, b26, b27, b28, b29, b30, b31, b32, b33, b34, b35, b36, true, _, _, _, _, _, _, _, _, _, _, _, _, _, _, _, _, _, _, _, _, _, _, _, _, _, _, _, _, _, _, _, _, _, _, _, _, _, _, rfl, rfl, { HTH.out with h37 := fun _ => rfl }⟩
        case fin =>
          rintro l a' w' ⟨b0, b1, b2, b3, b4, b5, b6, b7, b8, b9, b10, b11, b12, b13, b14, b15, b16, b17, b18, b19, b20, b21, b22, b23, b24, b25, b26, b27, b28, b29, b30, b31, b32, b33, b34, b35, b36, b37, v4, v58, v59, v60, v61, v62, v63, v64, v65, v66, v67, v68, v69, v70, v71, v72, v73, v74, v75, v76, v77, v78, v79, v80, v81, v82, v83, v84, v85, v86, v87, v88, v89, v90, v91, v92, v93, v94, rfl, rfl, HT⟩ hr
          obtain rfl : b0 = true := by
            cases b0 with
            | true => rfl
            | false => exact (ready_in 0 rfl rfl (by simp [Region.binds]) hr).elim
          obtain rfl : b1 = true := by
            cases b1 with
            | true => rfl
            | false => exact (ready_in 1 rfl rfl (by simp [Region.binds]) hr).elim
          obtain rfl : b2 = true := by
            cases b2 with
            | true => rfl
            | false => exact (ready_in 2 rfl rfl (by simp [Region.binds]) hr).elim
          obtain rfl : b3 = true := by
            cases b3 with
            | true => rfl
            | false => exact (ready_in 3 rfl rfl (by simp [Region.binds]) hr).elim
          obtain rfl : b4 = true := by
            cases b4 with
            | true => rfl
            | false => exact (ready_in 4 rfl rfl (by simp [Region.binds]) hr).elim
          obtain rfl : b5 = true := by
            cases b5 with
            | true => rfl
            | false => exact (ready_in 5 rfl rfl (by simp [Region.binds]) hr).elim
          obtain rfl : b6 = true := by
            cases b6 with
            | true => rfl
            | false => exact (ready_in 6 rfl rfl (by simp [Region.binds]) hr).elim
          obtain rfl : b7 = true := by
            cases b7 with
            | true => rfl
            | false => exact (ready_in 7 rfl rfl (by simp [Region.binds]) hr).elim
          obtain rfl : b8 = true := by
            cases b8 with
            | true => rfl
            | false => exact (ready_in 8 rfl rfl (by simp [Region.binds]) hr).elim
          obtain rfl : b9 = true := by
            cases b9 with
            | true => rfl
            | false => exact (ready_in 9 rfl rfl (by simp [Region.binds]) hr).elim
          obtain rfl : b10 = true := by
            cases b10 with
            | true => rfl
            | false => exact (ready_in 10 rfl rfl (by simp [Region.binds]) hr).elim
          obtain rfl : b11 = true := by
            cases b11 with
            | true => rfl
            | false => exact (ready_in 11 rfl rfl (by simp [Region.binds]) hr).elim
          obtain rfl : b12 = true := by
            cases b12 with
            | true => rfl
            | false => exact (ready_in 12 rfl rfl (by simp [Region.binds]) hr).elim
          obtain rfl : b13 = true := by
            cases b13 with
            | true => rfl
            | false => exact (ready_in 13 rfl rfl (by simp [Region.binds]) hr).elim
          obtain rfl : b14 = true := by
            cases b14 with
            | true => rfl
            | false => exact (ready_in 14 rfl rfl (by simp [Region.binds]) hr).elim
          obtain rfl : b15 = true := by
            cases b15 with
            | true => rfl
            | false => exact (ready_in 15 rfl rfl (by simp [Region.binds]) hr).elim
          obtain rfl : b16 = true := by
            cases b16 with
            | true => rfl
            | false => exact (ready_in 16 rfl rfl (by simp [Region.binds]) hr).elim
          obtain rfl : b17 = true := by
            cases b17 with
            | true => rfl
            | false => exact (ready_in 17 rfl rfl (by simp [Region.binds]) hr).elim
          obtain rfl : b18 = true := by
            cases b18 with
            | true => rfl
            | false => exact (ready_in 18 rfl rfl (by simp [Region.binds]) hr).elim
          obtain rfl : b19 = true := by
            cases b19 with
            | true => rfl
            | false => exact (ready_in 19 rfl rfl (by simp [Region.binds]) hr).elim
          obtain rfl : b20 = true := by
            cases b20 with
            | true => rfl
            | false => exact (ready_in 20 rfl rfl (by simp [Region.binds]) hr).elim
          obtain rfl : b21 = true := by
            cases b21 with
            | true => rfl
            | false => exact (ready_in 21 rfl rfl (by simp [Region.binds]) hr).elim
          obtain rfl : b22 = true := by
            cases b22 with
            | true => rfl
            | false => exact (ready_in 22 rfl rfl (by simp [Region.binds]) hr).elim
          obtain rfl : b23 = true := by
            cases b23 with
            | true => rfl
            | false => exact (ready_in 23 rfl rfl (by simp [Region.binds]) hr).elim
          obtain rfl : b24 = true := by
            cases b24 with
            | true => rfl
            | false => exact (ready_in 24 rfl rfl (by simp [Region.binds]) hr).elim
          obtain rfl : b25 = true := by
            cases b25 with
            | true => rfl
            | false => exact (ready_in 25 rfl rfl (by simp [Region.binds]) hr).elim
          obtain rfl : b26 = true := by
            cases b26 with
            | true => rfl
            | false => exact (ready_in 26 rfl rfl (by simp [Region.binds]) hr).elim
          obtain rfl : b27 = true := by
            cases b27 with
            | true => rfl
            | false => exact (ready_in 27 rfl rfl (by simp [Region.binds]) hr).elim
          obtain rfl : b28 = true := by
            cases b28 with
            | true => rfl
            | false => exact (ready_in 28 rfl rfl (by simp [Region.binds]) hr).elim
          obtain rfl : b29 = true := by
            cases b29 with
            | true => rfl
            | false => exact (ready_in 29 rfl rfl (by simp [Region.binds]) hr).elim
          obtain rfl : b30 = true := by
            cases b30 with
            | true => rfl
            | false => exact (ready_in 30 rfl rfl (by simp [Region.binds]) hr).elim
          obtain rfl : b31 = true := by
            cases b31 with
            | true => rfl
            | false => exact (ready_in 31 rfl rfl (by simp [Region.binds]) hr).elim
          obtain rfl : b32 = true := by
            cases b32 with
            | true => rfl
            | false => exact (ready_in 32 rfl rfl (by simp [Region.binds]) hr).elim
          obtain rfl : b33 = true := by
            cases b33 with
            | true => rfl
            | false => exact (ready_in 33 rfl rfl (by simp [Region.binds]) hr).elim
          obtain rfl : b34 = true := by
            cases b34 with
            | true => rfl
            | false => exact (ready_in 34 rfl rfl (by simp [Region.binds]) hr).elim
          obtain rfl : b35 = true := by
            cases b35 with
            | true => rfl
            | false => exact (ready_in 35 rfl rfl (by simp [Region.binds]) hr).elim
          obtain rfl : b36 = true := by
            cases b36 with
            | true => rfl
            | false => exact (ready_in 36 rfl rfl (by simp [Region.binds]) hr).elim
          obtain rfl : b37 = true := by
            cases b37 with
            | true => rfl
            | false => exact (ready_in 37 rfl rfl (by simp [Region.binds]) hr).elim
          have k0 := HT.h0 rfl
          subst k0
          have k1 := HT.h1 rfl
          subst k1
          have k2 := HT.h2 rfl
          subst k2
          have k3 := HT.h3 rfl
          subst k3
          have k5 := HT.h5 rfl
          subst k5
          have k6 := HT.h6 rfl
          subst k6
          have k7 := HT.h7 rfl
          subst k7
          have k8 := HT.h8 rfl
          subst k8
          have k9 := HT.h9 rfl
          subst k9
          have k10 := HT.h10 rfl
          subst k10
          have k11 := HT.h11 rfl
          subst k11
          have k12 := HT.h12 rfl
          subst k12
          have k13 := HT.h13 rfl
          subst k13
          have k14 := HT.h14 rfl
          subst k14
          have k16 := HT.h16 rfl
          subst k16
          have k17 := HT.h17 rfl
          subst k17
          have k18 := HT.h18 rfl
          subst k18
          have k19 := HT.h19 rfl
          subst k19
          have k20 := HT.h20 rfl
          subst k20
          have k21 := HT.h21 rfl
          subst k21
          have k22 := HT.h22 rfl
          subst k22
          have k23 := HT.h23 rfl
          subst k23
          have k24 := HT.h24 rfl
          subst k24
          have k25 := HT.h25 rfl
          subst k25
          have k27 := HT.h27 rfl
          subst k27
          have k28 := HT.h28 rfl
          subst k28
          have k29 := HT.h29 rfl
          subst k29
          have k30 := HT.h30 rfl
          subst k30
          have k31 := HT.h31 rfl
          subst k31
          have k32 := HT.h32 rfl
          subst k32
          have k33 := HT.h33 rfl
          subst k33
          have k34 := HT.h34 rfl
          subst k34
          have k35 := HT.h35 rfl
          subst k35
          have k36 := HT.h36 rfl
          subst k36
          have k37 := HT.h37 rfl
          subst k37
          have HB7 : Hid (Below w.heap.size w w') := Lib.hid (HB5.out.trans (HT.bel.mono HB5.out.size))
          clear HT hr
          show _
          go_wp2
          refine bodyPost_ret (results_tmp rfl _ _ _) rfl ⟨rfl, HB7.out⟩
end Go.Proofs.YtbmhjmdbolnbaaaDoor
