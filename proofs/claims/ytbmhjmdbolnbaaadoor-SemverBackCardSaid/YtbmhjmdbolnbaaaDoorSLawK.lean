/-
  THE LAW SemverBack (printed by genlawk.py).
-/
import Derived.Test.YtbmhjmdbolnbaaaDoorSBump
import Derived.Test.YtbmhjmdbolnbaaaDoorSMore
import Derived.Test.YtbmhjmdbolnbaaaDoorSText
import Derived.Test.YtbmhjmdbolnbaaaDoorSRefS
namespace Go.Proofs.YtbmhjmdbolnbaaaDoor
open Go.RowKit
open SemP
set_option linter.unusedVariables false
set_option linter.unusedSimpArgs false
set_option maxRecDepth 100000
attribute [local go_sem ↓] eqVer

structure KSt (w0 : World) (ma mi pa : Int) (s : ByteArray) (ok : Bool) (b0 b1 b2 b3 b4 : Bool) (v20 v21 v22 v23 v24 : Value) (w' : World) : Prop where
  bel : Below w0.heap.size w0 w'
  h0 : b0 = true → v20 = verV ma mi pa s
  h1 : b1 = true → v21 = .bool ok
  h2 : b2 = true → v22 = verV ma mi pa s
  h3 : b3 = true → v23 = .bool ok
  h4 : b4 = true → v24 = .bool false
def KJ (w0 : World) (ma mi pa : Int) (s : ByteArray) (ok : Bool) (p0 p1 p2 p3 p4 p5 p6 p7 p8 p9 p10 p11 p12 p13 p14 p15 p16 p17 p18 p19 p25 p26 p27 p28 p29 p30 p31 p32 p33 p34 p35 p36 p37 p38 p39 p40 p41 p42 p43 p44 p45 p46 p47 p48 p49 p50 p51 p52 p53 p54 p55 : Value) (l : Array Bool) (a' : Act) (w' : World) : Prop :=
  ∃ (b0 b1 b2 b3 b4 : Bool) (v20 v21 v22 v23 v24 : Value), l = #[b0, b1, b2, b3, b4] ∧ a' = { tmps := List.toArray (p0 :: p1 :: p2 :: p3 :: p4 :: p5 :: p6 :: p7 :: p8 :: p9 :: p10 :: p11 :: p12 :: p13 :: p14 :: p15 :: p16 :: p17 :: p18 :: p19 :: v20 :: v21 :: v22 :: v23 :: v24 :: p25 :: p26 :: p27 :: p28 :: p29 :: p30 :: p31 :: p32 :: p33 :: p34 :: p35 :: p36 :: p37 :: p38 :: p39 :: p40 :: p41 :: p42 :: p43 :: p44 :: p45 :: p46 :: p47 :: p48 :: p49 :: p50 :: p51 :: p52 :: p53 :: p54 :: p55 :: []), defers := [] } ∧ KSt w0 ma mi pa s ok b0 b1 b2 b3 b4 v20 v21 v22 v23 v24 w'
theorem text_len {v : Ver} (h : v.right = true) (hp : v.pre.length ≤ 300) : (mk v.text).size ≤ 1000 := by
  obtain ⟨a, b, c, p⟩ := v
  have hn := right_parts h
  have h1 := dec_len a.toNat (by omega)
  have h2 := dec_len b.toNat (by omega)
  have h3 := dec_len c.toNat (by omega)
  simp only at hp
  rw [mk_size]
  unfold Ver.text
  simp only [List.length_append, List.length_cons]
  split
  · simp; omega
  · simp; omega
set_option maxHeartbeats 8000000 in
theorem law_back (ma mi pa : Int) (s : ByteArray) (w : World) (hm : LenAt w) (h1 : 1 < w.heap.size) (hp : PowAt w) :
    Calls Tryd.prog 4 #[verV ma mi pa s] w fun e w' => e = .returned (.bool true) ∧ Below w.heap.size w w' := by
  obtain ⟨W0, hW0⟩ : ∃ W0, w.alloc (verC ma mi pa s) = W0 := ⟨_, rfl⟩
  have hb0 : Below w.heap.size w W0 := by rw [← hW0]; exact (Below.refl _ w).alloc (Nat.le_refl _) _
  have HBX0 : Hid (BoxesAt [(w.heap.size, verC ma mi pa s)] W0) := Lib.hid (by rw [← hW0]; exact (BoxesAt.nil w).push _)
  have HM0 := Lib.hid (hm.below h1 hb0)
  have HP0 : Hid (PowAt W0) := Lib.hid (hp.below hb0)
  have HAN := Lib.hid (anchor_any W0 HM0.out.1 HM0.out.2)
  have HW0 := Lib.hid hW0
  have HB0 := Lib.hid hb0
  clear hW0 hb0 hm hp
  go_enter Tryd.func4, Tryd.ntmps4
  go_wp2_with fail
  try rw [show w.alloc (.cells #[.int .i64 ma, .int .i64 mi, .int .i64 pa, .string s] 25) = W0 from HW0.out]
  refine HAN.out.mono ?_
  rintro e W1 ⟨rfl, hb⟩
  have HBX1 := Lib.hid (HBX0.out.below hb)
  have HB1 : Hid (Below w.heap.size w W1) := Lib.hid (HB0.out.trans (hb.mono HB0.out.size))
  have HM1 := Lib.hid (HM0.out.1.below HM0.out.2 hb)
  have HP1 : Hid (PowAt W1) := Lib.hid (HP0.out.below hb)
  clear hb
  clear HAN
  obtain ⟨x0, x1, x2, x3⟩ := cells4 (HBX1.out.get (w.heap.size) (verC ma mi pa s) (by simp))
  go_wp2_with fail
  refine (short_any s W1).mono ?_
  rintro e w' ⟨rfl, hw⟩
  subst w'
  cases hsh : decide (s.size ≤ 300) with
  | false =>
    go_wp2
    refine bodyPost_ret (results_tmp rfl _ _ _) rfl ⟨rfl, HB1.out⟩
  | true =>
    have HS : Hid (s.size ≤ 300) := Lib.hid (of_decide_eq_true hsh)
    clear hsh
    obtain ⟨W2, hW2⟩ : ∃ W2, W1.alloc (refC ma mi pa s) = W2 := ⟨_, rfl⟩
    have HBX2 : Hid (BoxesAt [(W1.heap.size, refC ma mi pa s), (w.heap.size, verC ma mi pa s)] W2) := Lib.hid (by rw [← hW2]; exact HBX1.out.push _)
    have HB2 : Hid (Below w.heap.size w W2) := Lib.hid (by rw [← hW2]; exact HB1.out.alloc HB1.out.size _)
    have hb12 : Below W1.heap.size W1 W2 := by rw [← hW2]; exact (Below.refl _ W1).alloc (Nat.le_refl _) _
    have HM2 := Lib.hid (HM1.out.1.below HM1.out.2 hb12)
    have HP2 : Hid (PowAt W2) := Lib.hid (HP1.out.below hb12)
    have HW2 := Lib.hid hW2
    have HT := Lib.hid (Text_any ma mi pa s W2 (by have := HS.out; omega) HM2.out.1 HM2.out.2 HP2.out)
    obtain ⟨u0, u1, u2, u3⟩ := cells4 (HBX2.out.get (w.heap.size) (verC ma mi pa s) (by simp))
    obtain ⟨y0, y1, y2, y3⟩ := cells4 (HBX2.out.get (W1.heap.size) (refC ma mi pa s) (by simp))
    rw [← hW2] at u0 u1 u2 u3 y0 y1 y2 y3
    simp only [refC] at u0 u1 u2 u3 y0 y1 y2 y3
    clear hW2 hb12
    go_wp2_with fail
    try rw [show W1.alloc (.cells #[.int .i64 ma, .int .i64 mi, .int .i64 pa, .string s] 29) = W2 from HW2.out]
    clear x0 x1 x2 x3 u0 u1 u2 u3 y0 y1 y2 y3
    refine HT.out.mono ?_
    rintro e W3 ⟨rfl, hb⟩
    clear HT
    have HBX3 := Lib.hid (HBX2.out.below hb)
    have HB3 : Hid (Below w.heap.size w W3) := Lib.hid (HB2.out.trans (hb.mono HB2.out.size))
    have HM3 := Lib.hid (HM2.out.1.below HM2.out.2 hb)
    have HP3 : Hid (PowAt W3) := Lib.hid (HP2.out.below hb)
    clear hb
    obtain ⟨ok, hok⟩ : ∃ ok, Ver.right ⟨ma, mi, pa, bs s⟩ = ok := ⟨_, rfl⟩
    have HOK := Lib.hid hok
    have HTR : Hid (∃ t e, textR ⟨ma, mi, pa, bs s⟩ = .tuple #[.string t, .int .i64 e] ∧ ((ok = true ∧ t = mk (Ver.text ⟨ma, mi, pa, bs s⟩) ∧ e = 0) ∨ (ok = false ∧ t = ⟨#[]⟩ ∧ e = 12))) := Lib.hid (by
      unfold textR
      rw [hok]
      cases ok with
      | true => exact ⟨_, _, rfl, .inl ⟨rfl, rfl, rfl⟩⟩
      | false => exact ⟨_, _, rfl, .inr ⟨rfl, rfl, rfl⟩⟩)
    obtain ⟨t, er, htr, hcase⟩ := HTR.out
    have HCASE := Lib.hid hcase
    rw [htr]
    clear htr HTR hok hcase
    have HL0 : Hid (w.heap.size < W3.heap.size) := Lib.hid (HBX3.out _ (by simp : (w.heap.size, verC ma mi pa s) ∈ _)).1
    have HL1 : Hid (W1.heap.size < W3.heap.size) := Lib.hid (HBX3.out _ (by simp : (W1.heap.size, refC ma mi pa s) ∈ _)).1
    go_wp2_with fail
    go_cut [24] (fun v24 w' => v24 = .bool false ∧ Below W3.heap.size W3 w')
    case first =>
      refine wp_region_inv (by kernel_rfl) (I := KJ W3 ma mi pa s ok _ _ _ _ _ _ _ _ _ _ _ _ _ _ _ _ _ _ _ _ _ _ _ _ _ _ _ _ _ _ _ _ _ _ _ _ _ _ _ _ _ _ _ _ _ _ _ _ _ _ _) ⟨false, false, false, false, false, _, _, _, _, _, rfl, rfl, ⟨(Below.refl _ W3).drew, nofun, nofun, nofun, nofun, nofun⟩⟩ ?step ?fin
      case step =>
        rintro l a' w' i ⟨b0, b1, b2, b3, b4, v20, v21, v22, v23, v24, rfl, rfl, HT⟩ hi
        obtain ⟨hi_, hib⟩ := ready_lt hi
        have HTH := Lib.hid HT
        match i, hi_, hi, hib with
        | 0, _, hi, hib =>
          obtain ⟨x0, x1, x2, x3⟩ := cells4 ((HT.bel.block _ HL0.out).trans (HBX3.out.get (w.heap.size) (verC ma mi pa s) (by simp)))
          clear HT
          refine wpOp_one rfl rfl (fun K hK => ?_)
          go_simp
          exact hK.out _ _ ⟨true, b1, b2, b3, b4, _, _, _, _, _, rfl, rfl, { HTH.out with h0 := fun _ => rfl }⟩
        | 1, _, hi, hib =>
          have d0 : b0 = true := ready_dep hi rfl 0 (by kernel_rfl)
          obtain rfl := HT.h0 d0
          have hM := HM3.out.1.below HM3.out.2 HT.bel
          have HC := Lib.hid (Right_any ma mi pa s w' (by have := HS.out; omega) hM.1 hM.2)
          rw [HOK.out] at HC
          clear hM
          clear HT
          refine wpOp_one rfl rfl (fun K hK => ?_)
          go_simp
          refine HC.out.mono ?_
          rintro e w2 ⟨rfl, hb⟩
          exact hK.out _ _ ⟨b0, true, b2, b3, b4, _, _, _, _, _, rfl, rfl, { HTH.out with bel := HTH.out.bel.trans (hb.mono HTH.out.bel.size), h1 := fun _ => rfl }⟩
        | 2, _, hi, hib =>
          obtain ⟨x0, x1, x2, x3⟩ := cells4 ((HT.bel.block _ HL1.out).trans (HBX3.out.get (W1.heap.size) (refC ma mi pa s) (by simp)))
          clear HT
          refine wpOp_one rfl rfl (fun K hK => ?_)
          go_simp
          exact hK.out _ _ ⟨b0, b1, true, b3, b4, _, _, _, _, _, rfl, rfl, { HTH.out with h2 := fun _ => rfl }⟩
        | 3, _, hi, hib =>
          have d2 : b2 = true := ready_dep hi rfl 2 (by kernel_rfl)
          obtain rfl := HT.h2 d2
          have HC := Lib.hid (RefRight_any ma mi pa s w' (by have := HS.out; omega))
          rw [HOK.out] at HC
          clear HT
          refine wpOp_one rfl rfl (fun K hK => ?_)
          go_simp
          refine HC.out.mono ?_
          rintro e w2 ⟨rfl, hb⟩
          exact hK.out _ _ ⟨b0, b1, b2, true, b4, _, _, _, _, _, rfl, rfl, { HTH.out with bel := HTH.out.bel.trans (hb.mono HTH.out.bel.size), h3 := fun _ => rfl }⟩
        | 4, _, hi, hib =>
          have d1 : b1 = true := ready_dep hi rfl 1 (by kernel_rfl)
          obtain rfl := HT.h1 d1
          have d3 : b3 = true := ready_dep hi rfl 3 (by kernel_rfl)
          obtain rfl := HT.h3 d3
          clear HT
          refine wpOp_one rfl rfl (fun K hK => ?_)
          go_simp
          exact hK.out _ _ ⟨b0, b1, b2, b3, true, _, _, _, _, _, rfl, rfl, { HTH.out with h4 := fun _ => rfl }⟩
      case fin =>
        rintro l a' w' ⟨b0, b1, b2, b3, b4, v20, v21, v22, v23, v24, rfl, rfl, HT⟩ hr
        obtain rfl : b0 = true := by
          cases b0 with
          | true => rfl
          | false => exact (ready_in 0 rfl rfl (by simp [Region.binds]) hr).elim
        obtain rfl : b1 = true := by
          cases b1 with
          | true => rfl
          | false => exact (ready_in 1 rfl rfl (by simp [Region.binds]) hr).elim
        obtain rfl : b2 = true := by
          cases b2 with
          | true => rfl
          | false => exact (ready_in 2 rfl rfl (by simp [Region.binds]) hr).elim
        obtain rfl : b3 = true := by
          cases b3 with
          | true => rfl
          | false => exact (ready_in 3 rfl rfl (by simp [Region.binds]) hr).elim
        obtain rfl : b4 = true := by
          cases b4 with
          | true => rfl
          | false => exact (ready_in 4 rfl rfl (by simp [Region.binds]) hr).elim
        obtain rfl := HT.h0 rfl
        obtain rfl := HT.h1 rfl
        obtain rfl := HT.h2 rfl
        obtain rfl := HT.h3 rfl
        obtain rfl := HT.h4 rfl
        have HF := HT.bel
        clear HT hr
        show _
        go_wp2_with fail
        go_meet
        exact ⟨rfl, HF⟩
    case rest =>
      obtain ⟨rfl, hb⟩ := hcut
      rename World => W4
      have HBX4 := Lib.hid (HBX3.out.below hb)
      have HB4 : Hid (Below w.heap.size w W4) := Lib.hid (HB3.out.trans (hb.mono HB3.out.size))
      have HM4 := Lib.hid (HM3.out.1.below HM3.out.2 hb)
      have HP4 : Hid (PowAt W4) := Lib.hid (HP3.out.below hb)
      clear hb
      obtain ⟨y0, y1, y2, y3⟩ := cells4 (HBX4.out.get (W1.heap.size) (refC ma mi pa s) (by simp))
      have HC := Lib.hid (RefRight_any ma mi pa s W4 (by have := HS.out; omega))
      go_wp2_with fail
      refine HC.out.mono ?_
      rintro e W5 ⟨rfl, hb⟩
      clear HC y0 y1 y2 y3
      have HBX5 := Lib.hid (HBX4.out.below hb)
      have HB5 : Hid (Below w.heap.size w W5) := Lib.hid (HB4.out.trans (hb.mono HB4.out.size))
      have HM5 := Lib.hid (HM4.out.1.below HM4.out.2 hb)
      have HP5 : Hid (PowAt W5) := Lib.hid (HP4.out.below hb)
      clear hb
      rw [HOK.out]
      cases ok with
      | false =>
        obtain ⟨rfl, rfl⟩ : t = ⟨#[]⟩ ∧ er = 12 := by
          rcases HCASE.out with ⟨h, _⟩ | ⟨_, h⟩
          · cases h
          · exact h
        go_wp2
        refine bodyPost_ret (results_tmp rfl _ _ _) rfl ⟨rfl, HB5.out⟩
      | true =>
        obtain ⟨ht, rfl⟩ : t = mk (Ver.text ⟨ma, mi, pa, bs s⟩) ∧ er = 0 := by
          rcases HCASE.out with ⟨_, h⟩ | ⟨h, _⟩
          · exact h
          · cases h
        have HTT := Lib.hid ht
        have HLT : Hid (t.size ≤ 1000) := Lib.hid (by rw [ht]; exact text_len HOK.out (by rw [show (bs s).length = s.size from (Lib.size_eq s).symm]; exact HS.out))
        clear ht
        have HC := Lib.hid (Parse_any t W5 (by have := HLT.out; omega) HM5.out.1 HM5.out.2)
        go_wp2_with fail
        refine HC.out.mono ?_
        rintro e W6 ⟨rfl, hb⟩
        clear HC
        have HBX6 := Lib.hid (HBX5.out.below hb)
        have HB6 : Hid (Below w.heap.size w W6) := Lib.hid (HB5.out.trans (hb.mono HB5.out.size))
        have HM6 := Lib.hid (HM5.out.1.below HM5.out.2 hb)
        have HP6 : Hid (PowAt W6) := Lib.hid (HP5.out.below hb)
        clear hb
        rw [show parseR (parseV (bs t)) = .tuple #[verV ma mi pa s, .int .i64 0] from by
          rw [HTT.out, bs_mk, parse_text _ HOK.out]
          show Value.tuple #[verV ma mi pa (mk (bs s)), .int .i64 0] = _
          rw [mk_bs]]
        obtain ⟨W7, hW7⟩ : ∃ W7, W6.alloc (verC ma mi pa s) = W7 := ⟨_, rfl⟩
        have HBX7 : Hid (BoxesAt [(W6.heap.size, verC ma mi pa s), (W1.heap.size, refC ma mi pa s), (w.heap.size, verC ma mi pa s)] W7) := Lib.hid (by rw [← hW7]; exact HBX6.out.push _)
        have HB7 : Hid (Below w.heap.size w W7) := Lib.hid (by rw [← hW7]; exact HB6.out.alloc HB6.out.size _)
        have HW7 := Lib.hid hW7
        have HC := Lib.hid (RefText_any ma mi pa s W7 (by have := HS.out; omega) HOK.out)
        obtain ⟨y0, y1, y2, y3⟩ := cells4 (HBX7.out.get (W1.heap.size) (refC ma mi pa s) (by simp))
        rw [← hW7] at y0 y1 y2 y3
        simp only [verC] at y0 y1 y2 y3
        clear hW7
        go_wp2_with fail
        try rw [show W6.alloc (.cells #[.int .i64 ma, .int .i64 mi, .int .i64 pa, .string s] 25) = W7 from HW7.out]
        refine HC.out.mono ?_
        rintro e W8 ⟨rfl, hb⟩
        clear HC y0 y1 y2 y3
        rw [← HTT.out]
        have HBX8 := Lib.hid (HBX7.out.below hb)
        have HB8 : Hid (Below w.heap.size w W8) := Lib.hid (HB7.out.trans (hb.mono HB7.out.size))
        clear hb
        obtain ⟨x0, x1, x2, x3⟩ := cells4 (HBX8.out.get (w.heap.size) (verC ma mi pa s) (by simp))
        obtain ⟨z0, z1, z2, z3⟩ := cells4 (HBX8.out.get (W6.heap.size) (verC ma mi pa s) (by simp))
        have hq : verEq ma mi pa s ma mi pa s = true := verEq_true _ _ _ _
        go_wp2
        refine bodyPost_ret (results_tmp rfl _ _ _) rfl ⟨rfl, HB8.out⟩
end Go.Proofs.YtbmhjmdbolnbaaaDoor
