/-
  THE LAW RangesBack (printed by genmlk.py).
-/
import Derived.Test.YtpnbbbhbbnemlaaGreatDoorRBkG
import Derived.Test.YtpnbbbhbbnemlaaGreatDoorRBkR
namespace Go.Proofs.YtpnbbbhbbnemlaaGreatDoor
open Go.RowKit
open SemP
set_option linter.unusedVariables false
set_option linter.unusedSimpArgs false
set_option maxRecDepth 100000
theorem text_answer (r : List (List CV)) : ∃ (T : ByteArray) (k : Int), (if rightR r = true then Value.tuple #[.string (mk (textG r)), .int .i64 0] else .tuple #[.string ⟨#[]⟩, .int .i64 12]) = .tuple #[.string T, .int .i64 k] ∧ (rightR r = true → T = mk (textG r) ∧ k = 0) ∧ (rightR r = false → T = ⟨#[]⟩ ∧ k = 12) := by
  cases h : rightR r with
  | true => exact ⟨_, _, rfl, fun _ => ⟨rfl, rfl⟩, fun h => absurd h (by decide)⟩
  | false => exact ⟨_, _, rfl, fun h => absurd h (by decide), fun _ => ⟨rfl, rfl⟩⟩
structure LkSt (w0 : World) (vr vd : Value) (q : Bool) (b0 b1 b2 b3 b4 : Bool) (v25 v26 v27 v28 v29 : Value) (w' : World) : Prop where
  bel : Below w0.heap.size w0 w'
  h0 : b0 = true → v25 = vr
  h1 : b1 = true → v26 = .bool q
  h2 : b2 = true → v27 = vd
  h3 : b3 = true → v28 = .bool q
  h4 : b4 = true → v29 = .bool false
inductive LkJ (w0 : World) (vr vd : Value) (q : Bool) (p0 p1 p2 p3 p4 p5 p6 p7 p8 p9 p10 p11 p12 p13 p14 p15 p16 p17 p18 p19 p20 p21 p22 p23 p24 p30 p31 p32 p33 p34 p35 p36 p37 p38 p39 p40 p41 p42 p43 p44 p45 p46 p47 p48 p49 p50 p51 p52 p53 p54 p55 p56 p57 p58 p59 p60 p61 p62 p63 p64 p65 p66 p67 p68 : Value) : Array Bool → Act → World → Prop where
  | mk (b0 b1 b2 b3 b4 : Bool) (v25 v26 v27 v28 v29 : Value) (w' : World) : LkSt w0 vr vd q b0 b1 b2 b3 b4 v25 v26 v27 v28 v29 w' → LkJ w0 vr vd q p0 p1 p2 p3 p4 p5 p6 p7 p8 p9 p10 p11 p12 p13 p14 p15 p16 p17 p18 p19 p20 p21 p22 p23 p24 p30 p31 p32 p33 p34 p35 p36 p37 p38 p39 p40 p41 p42 p43 p44 p45 p46 p47 p48 p49 p50 p51 p52 p53 p54 p55 p56 p57 p58 p59 p60 p61 p62 p63 p64 p65 p66 p67 p68 #[b0, b1, b2, b3, b4] { tmps := List.toArray (p0 :: p1 :: p2 :: p3 :: p4 :: p5 :: p6 :: p7 :: p8 :: p9 :: p10 :: p11 :: p12 :: p13 :: p14 :: p15 :: p16 :: p17 :: p18 :: p19 :: p20 :: p21 :: p22 :: p23 :: p24 :: v25 :: v26 :: v27 :: v28 :: v29 :: p30 :: p31 :: p32 :: p33 :: p34 :: p35 :: p36 :: p37 :: p38 :: p39 :: p40 :: p41 :: p42 :: p43 :: p44 :: p45 :: p46 :: p47 :: p48 :: p49 :: p50 :: p51 :: p52 :: p53 :: p54 :: p55 :: p56 :: p57 :: p58 :: p59 :: p60 :: p61 :: p62 :: p63 :: p64 :: p65 :: p66 :: p67 :: p68 :: []), defers := [] } w'
set_option maxHeartbeats 16000000 in
theorem law_backR (A : Option Addr) (m cp : Nat) (r : List (List CV)) (w : World) (hr : RdR w w.heap.size A m r) (hg : SignsAt w) (hm : LenAt w) (h1 : 1 < w.heap.size) (hpw : PowAt w) :
    Calls Tryz.prog 3 #[.agg #[.slice A m cp]] w fun e w' => e = .returned (.bool true) ∧ Below w.heap.size w w' := by
  obtain ⟨W0, hW0⟩ : ∃ W0, w.alloc (.cells #[.slice A m cp] 24) = W0 := ⟨_, rfl⟩
  have hb0 : Below w.heap.size w W0 := by rw [← hW0]; exact (Below.refl _ w).alloc (Nat.le_refl _) _
  have HX0 : Hid (W0.heap[w.heap.size]? = some (.cells #[.slice A m cp] 24)) := Lib.hid (by rw [← hW0]; exact World.alloc_heap_new _ _)
  have HL0 : Hid (w.heap.size < W0.heap.size) := Lib.hid (by rw [← hW0]; simp)
  have HM0 := Lib.hid (hm.below h1 hb0)
  have HG0 : Hid (SignsAt W0) := Lib.hid (hg.below hb0 (by omega))
  have HP0 : Hid (PowAt W0) := Lib.hid (hpw.below hb0)
  have HAN := Lib.hid (ranchor_any W0 HG0.out HM0.out.1 HM0.out.2)
  have HW0 := Lib.hid hW0
  have HB0 := Lib.hid hb0
  have HR0 : Hid (RdR W0 w.heap.size A m r) := Lib.hid (hr.below hb0)
  have HLE := Lib.hid hr.1
  clear hW0 hb0 hm hg hr hpw
  go_enter Tryz.func3, Tryz.ntmps3
  go_wp2_with fail
  try rw [show w.alloc (.cells #[.slice A m cp] 24) = W0 from HW0.out]
  refine HAN.out.mono ?_
  rintro e W1 ⟨rfl, hb⟩
  have HB1 : Hid (Below W0.heap.size W0 W1) := Lib.hid hb
  have c1 : W1.cell? ⟨w.heap.size, 0, none⟩ = some (.slice A m cp) := cell1 ((hb.block _ HL0.out).trans HX0.out)
  have HPC := Lib.hid (plain_any A m cp r W1 w.heap.size (HR0.out.below (hb.mono HB0.out.size)) (Nat.le_trans HB0.out.size hb.size))
  clear hb HAN
  go_wp2_with fail
  refine HPC.out.mono ?_
  rintro e W2 ⟨hp, hb⟩
  have HB2 : Hid (Below W0.heap.size W0 W2) := Lib.hid (HB1.out.trans (hb.mono HB1.out.size))
  have HBw : Hid (∀ o, Below w.heap.size w (W2.alloc o)) := Lib.hid (fun o => by
    have h := HB0.out.trans (HB2.out.mono HB0.out.size)
    exact h.alloc h.size o)
  clear hb HPC c1
  unfold PlainR at hp
  cases hpl : plainR r with
  | false =>
    rw [hpl, if_neg (by decide)] at hp
    obtain ⟨A2, n2, c2, rfl⟩ := hp
    clear hpl
    go_wp2
    refine bodyPost_ret (results_tmp rfl _ _ _) rfl ⟨rfl, HBw.out _⟩
  | true =>
    rw [hpl, if_pos rfl] at hp
    obtain ⟨A2, c2, rfl, hrd⟩ := hp
    have HPL := Lib.hid hpl
    have hpf := plain_fits hpl
    have HM20 : Hid (m ≤ 20) := Lib.hid (by rw [← HLE.out]; exact hpf.1)
    have HFI := Lib.hid hpf.2.1
    have HSM := Lib.hid hpf.2.2
    obtain ⟨W3, hW3⟩ : ∃ W3, W2.alloc (.cells #[.slice A2 r.length c2] 28) = W3 := ⟨_, rfl⟩
    have hb3 : Below W2.heap.size W2 W3 := by rw [← hW3]; exact (Below.refl _ W2).alloc (Nat.le_refl _) _
    have hb03 : Below W0.heap.size W0 W3 := HB2.out.trans (hb3.mono HB2.out.size)
    have HX3 : Hid (W3.heap[w.heap.size]? = some (.cells #[.slice A m cp] 24) ∧ W3.heap[W2.heap.size]? = some (.cells #[.slice A2 r.length c2] 28)) := Lib.hid ⟨(hb03.block _ HL0.out).trans HX0.out, by rw [← hW3]; exact World.alloc_heap_new _ _⟩
    have HL3 : Hid (w.heap.size < W3.heap.size ∧ W2.heap.size < W3.heap.size) := Lib.hid ⟨Nat.lt_of_lt_of_le HL0.out hb03.size, by rw [← hW3]; simp⟩
    have HR3 : Hid (RdR W3 w.heap.size A m r) := Lib.hid (HR0.out.below (hb03.mono HB0.out.size))
    have HR4' : Hid (RdR W3 W2.heap.size A2 r.length r) := Lib.hid (hrd.below hb3)
    have HS3 : Hid (w.heap.size ≤ W3.heap.size ∧ W2.heap.size ≤ W3.heap.size) := Lib.hid ⟨Nat.le_trans HB0.out.size hb03.size, hb3.size⟩
    have HM3 := Lib.hid (HM0.out.1.below HM0.out.2 hb03)
    have HG3 : Hid (SignsAt W3) := Lib.hid (HG0.out.below hb03 (by have := HM0.out.2; omega))
    have HP3 : Hid (PowAt W3) := Lib.hid (HP0.out.below hb03)
    have HB3 : Hid (Below w.heap.size w W3) := Lib.hid (by rw [← hW3]; exact HBw.out _)
    have y1 := cell1 HX3.out.1
    rw [← hW3] at y1
    have HW3 := Lib.hid hW3
    obtain ⟨T, k, hT, hT1, hT2⟩ := text_answer r
    have HTX := Lib.hid (RgText_any A m cp r W3 w.heap.size HR3.out HS3.out.1 HFI.out HSM.out (by have := HM20.out; omega) HG3.out HM3.out.1 HM3.out.2 HP3.out)
    rw [hT] at HTX
    have HT1 := Lib.hid hT1
    have HT2 := Lib.hid hT2
    obtain ⟨q, hq⟩ : ∃ q, rightR r = q := ⟨_, rfl⟩
    have HQ := Lib.hid hq
    clear hpl hpf hrd hb3 hb03 hW3 hT hT1 hT2 hq
    go_wp2_with fail
    try rw [show W2.alloc (.cells #[.slice A2 r.length c2] 28) = W3 from HW3.out]
    clear y1
    refine HTX.out.mono ?_
    rintro e W4 ⟨rfl, hb⟩
    have HB4 : Hid (Below w.heap.size w W4) := Lib.hid (HB3.out.trans (hb.mono HB3.out.size))
    have HX4 : Hid (W4.heap[w.heap.size]? = some (.cells #[.slice A m cp] 24) ∧ W4.heap[W2.heap.size]? = some (.cells #[.slice A2 r.length c2] 28)) := Lib.hid ⟨(hb.block _ HL3.out.1).trans HX3.out.1, (hb.block _ HL3.out.2).trans HX3.out.2⟩
    have HL4 : Hid (w.heap.size < W4.heap.size ∧ W2.heap.size < W4.heap.size) := Lib.hid ⟨Nat.lt_of_lt_of_le HL3.out.1 hb.size, Nat.lt_of_lt_of_le HL3.out.2 hb.size⟩
    have HR4 : Hid (RdR W4 w.heap.size A m r ∧ RdR W4 W2.heap.size A2 r.length r) := Lib.hid ⟨HR3.out.below (hb.mono HS3.out.1), HR4'.out.below (hb.mono HS3.out.2)⟩
    have HS4 : Hid (w.heap.size ≤ W4.heap.size ∧ W2.heap.size ≤ W4.heap.size) := Lib.hid ⟨Nat.le_trans HS3.out.1 hb.size, Nat.le_trans HS3.out.2 hb.size⟩
    have HM4 := Lib.hid (HM3.out.1.below HM3.out.2 hb)
    have HG4 : Hid (SignsAt W4) := Lib.hid (HG3.out.below hb (by have := HM3.out.2; omega))
    clear hb HTX
    go_upto_region 7 with fail
    refine wp_region_inv (by kernel_rfl) (I := LkJ W4 (.agg #[.slice A m cp]) (.agg #[.slice A2 r.length c2]) q _ _ _ _ _ _ _ _ _ _ _ _ _ _ _ _ _ _ _ _ _ _ _ _ _ _ _ _ _ _ _ _ _ _ _ _ _ _ _ _ _ _ _ _ _ _ _ _ _ _ _ _ _ _ _ _ _ _ _ _ _ _ _ _) (.mk false false false false false _ _ _ _ _ _ ⟨(Below.refl _ W4).drew, nofun, nofun, nofun, nofun, nofun⟩) ?step ?fin
    case step =>
      rintro lq a' w' ix ⟨b0, b1, b2, b3, b4, v25, v26, v27, v28, v29, _, HT⟩ hi
      obtain ⟨hi_, hib⟩ := ready_lt hi
      have HTH := Lib.hid HT
      match ix, hi_, hi, hib with
      | 0, _, hi, hib =>
        have c1 : w'.cell? ⟨w.heap.size, 0, none⟩ = some (.slice A m cp) := cell1 ((HT.bel.block _ HL4.out.1).trans HX4.out.1)
        clear HT
        refine wpOp_one rfl rfl (fun K hK => ?_)
        go_simp
        exact hK.out _ _ (.mk true b1 b2 b3 b4 _ _ _ _ _ _ { HTH.out with h0 := fun _ => rfl })
      | 1, _, hi, hib =>
        have d0 : b0 = true := ready_dep hi rfl 0 (by kernel_rfl)
        have hd0 := HT.h0 d0
        subst hd0
        have hM := HM4.out.1.below HM4.out.2 HT.bel
        have HC := Lib.hid (RgRight_any A m cp r w' w.heap.size (HR4.out.1.below (HT.bel.mono HS4.out.1)) (Nat.le_trans HS4.out.1 HT.bel.size) HFI.out (by have := HM20.out; omega) hM.1 hM.2)
        rw [HQ.out] at HC
        clear hM
        clear HT
        refine wpOp_one rfl rfl (fun K hK => ?_)
        go_simp
        refine HC.out.mono ?_
        rintro e w2 ⟨rfl, hb⟩
        exact hK.out _ _ (.mk b0 true b2 b3 b4 _ _ _ _ _ _ { HTH.out with bel := HTH.out.bel.trans (hb.mono HTH.out.bel.size), h1 := fun _ => rfl })
      | 2, _, hi, hib =>
        have c5 : w'.cell? ⟨W2.heap.size, 0, none⟩ = some (.slice A2 r.length c2) := cell1 ((HT.bel.block _ HL4.out.2).trans HX4.out.2)
        clear HT
        refine wpOp_one rfl rfl (fun K hK => ?_)
        go_simp
        exact hK.out _ _ (.mk b0 b1 true b3 b4 _ _ _ _ _ _ { HTH.out with h2 := fun _ => rfl })
      | 3, _, hi, hib =>
        have d2 : b2 = true := ready_dep hi rfl 2 (by kernel_rfl)
        have hd2 := HT.h2 d2
        subst hd2
        have HC := Lib.hid (RefRgRight_any A2 r.length c2 r w' W2.heap.size (HR4.out.2.below (HT.bel.mono HS4.out.2)) (Nat.le_trans HS4.out.2 HT.bel.size) HSM.out)
        rw [HQ.out] at HC
        clear HT
        refine wpOp_one rfl rfl (fun K hK => ?_)
        go_simp
        refine HC.out.mono ?_
        rintro e w2 ⟨rfl, hb⟩
        exact hK.out _ _ (.mk b0 b1 b2 true b4 _ _ _ _ _ _ { HTH.out with bel := HTH.out.bel.trans (hb.mono HTH.out.bel.size), h3 := fun _ => rfl })
      | 4, _, hi, hib =>
        have d1 : b1 = true := ready_dep hi rfl 1 (by kernel_rfl)
        have hd1 := HT.h1 d1
        subst hd1
        have d3 : b3 = true := ready_dep hi rfl 3 (by kernel_rfl)
        have hd3 := HT.h3 d3
        subst hd3
        clear HT
        refine wpOp_one rfl rfl (fun K hK => ?_)
        go_simp
        exact hK.out _ _ (.mk b0 b1 b2 b3 true _ _ _ _ _ _ { HTH.out with h4 := fun _ => rfl })
    case fin =>
      rintro lq a' w' ⟨b0, b1, b2, b3, b4, v25, v26, v27, v28, v29, _, HT⟩ hr
      obtain rfl : b0 = true := by
        cases b0 with
        | true => rfl
        | false => exact (ready_in 0 rfl rfl (by simp [Region.binds]) hr).elim
      obtain rfl : b1 = true := by
        cases b1 with
        | true => rfl
        | false => exact (ready_in 1 rfl rfl (by simp [Region.binds]) hr).elim
      obtain rfl : b2 = true := by
        cases b2 with
        | true => rfl
        | false => exact (ready_in 2 rfl rfl (by simp [Region.binds]) hr).elim
      obtain rfl : b3 = true := by
        cases b3 with
        | true => rfl
        | false => exact (ready_in 3 rfl rfl (by simp [Region.binds]) hr).elim
      obtain rfl : b4 = true := by
        cases b4 with
        | true => rfl
        | false => exact (ready_in 4 rfl rfl (by simp [Region.binds]) hr).elim
      have k0 := HT.h0 rfl
      subst k0
      have k1 := HT.h1 rfl
      subst k1
      have k2 := HT.h2 rfl
      subst k2
      have k3 := HT.h3 rfl
      subst k3
      have k4 := HT.h4 rfl
      subst k4
      obtain ⟨W5, hW5⟩ : ∃ W5, W5 = w' := ⟨_, rfl⟩
      subst hW5
      have hb := HT.bel
      have HB5 : Hid (Below w.heap.size w W5) := Lib.hid (HB4.out.trans (hb.mono HB4.out.size))
      have HX5 : Hid (W5.heap[W2.heap.size]? = some (.cells #[.slice A2 r.length c2] 28)) := Lib.hid ((hb.block _ HL4.out.2).trans HX4.out.2)
      have HL5 : Hid (W2.heap.size < W5.heap.size) := Lib.hid (Nat.lt_of_lt_of_le HL4.out.2 hb.size)
      have HR5 : Hid (RdR W5 W2.heap.size A2 r.length r) := Lib.hid (HR4.out.2.below (hb.mono HS4.out.2))
      have HM5 := Lib.hid (HM4.out.1.below HM4.out.2 hb)
      have HG5 : Hid (SignsAt W5) := Lib.hid (HG4.out.below hb (by have := HM4.out.2; omega))
      have c5 := cell1 HX5.out
      have HRX := Lib.hid (RefRgRight_any A2 r.length c2 r W5 W2.heap.size HR5.out (Nat.le_of_lt HL5.out) HSM.out)
      rw [HQ.out] at HRX
      clear HT hr hb
      show _
      go_wp2_with fail
      refine HRX.out.mono ?_
      rintro e W6 ⟨rfl, hb⟩
      have HB6 : Hid (Below w.heap.size w W6) := Lib.hid (HB5.out.trans (hb.mono HB5.out.size))
      have HX6 : Hid (W6.heap[W2.heap.size]? = some (.cells #[.slice A2 r.length c2] 28)) := Lib.hid ((hb.block _ HL5.out).trans HX5.out)
      have HL6 : Hid (W2.heap.size < W6.heap.size) := Lib.hid (Nat.lt_of_lt_of_le HL5.out hb.size)
      have HR6 : Hid (RdR W6 W2.heap.size A2 r.length r) := Lib.hid (HR5.out.below (hb.mono (Nat.le_of_lt HL5.out)))
      have HM6 := Lib.hid (HM5.out.1.below HM5.out.2 hb)
      have HG6 : Hid (SignsAt W6) := Lib.hid (HG5.out.below hb (by have := HM5.out.2; omega))
      clear hb c5 HRX
      cases q with
      | false =>
        obtain ⟨rfl, rfl⟩ := HT2.out HQ.out
        go_wp2
        refine bodyPost_ret (results_tmp rfl _ _ _) rfl ⟨rfl, HB6.out⟩
      | true =>
        obtain ⟨hT, rfl⟩ := HT1.out HQ.out
        have HTE := Lib.hid hT
        have HSZ : Hid (T.size ≤ 4320) := Lib.hid (by rw [hT, mk_len]; exact textG_len HQ.out)
        have HPA := Lib.hid (RgParse_any T W6 (by have := HSZ.out; omega) HG6.out HM6.out.1 HM6.out.2)
        have HPT : Hid (parseG T = some r) := Lib.hid (by rw [hT]; exact parse_textG HQ.out)
        rw [HPT.out] at HPA
        clear hT
        go_wp2_with fail
        refine HPA.out.mono ?_
        rintro e W7 ⟨hp, hb⟩
        obtain ⟨A7, c7, rfl, hrd⟩ := hp.some_ rfl
        obtain ⟨W8, hW8⟩ : ∃ W8, W7.alloc (.cells #[.slice A7 r.length c7] 24) = W8 := ⟨_, rfl⟩
        have hb8 : Below W7.heap.size W7 W8 := by rw [← hW8]; exact (Below.refl _ W7).alloc (Nat.le_refl _) _
        have hb68 : Below W6.heap.size W6 W8 := hb.trans (hb8.mono hb.size)
        have HB8 : Hid (Below w.heap.size w W8) := Lib.hid (HB6.out.trans (hb68.mono HB6.out.size))
        have HX8 : Hid (W8.heap[W2.heap.size]? = some (.cells #[.slice A2 r.length c2] 28)) := Lib.hid ((hb68.block _ HL6.out).trans HX6.out)
        have HL8 : Hid (W2.heap.size < W8.heap.size) := Lib.hid (Nat.lt_of_lt_of_le HL6.out hb68.size)
        have HR8 : Hid (RdR W8 W2.heap.size A2 r.length r) := Lib.hid (HR6.out.below (hb68.mono (Nat.le_of_lt HL6.out)))
        have HRD8 : Hid (RdR W8 W7.heap.size A7 r.length r) := Lib.hid (hrd.below hb8)
        have HPC := Lib.hid (plain_any A7 r.length c7 r W8 W7.heap.size HRD8.out hb8.size)
        have z7 : W8.cell? ⟨W7.heap.size, 0, none⟩ = some (.slice A7 r.length c7) := by rw [← hW8]; exact cell1 (World.alloc_heap_new _ _)
        rw [← hW8] at z7
        have HW8 := Lib.hid hW8
        clear hp hb hb8 hb68 hrd hW8 HPA
        go_wp2_with fail
        try rw [show W7.alloc (.cells #[.slice A7 r.length c7] 24) = W8 from HW8.out]
        clear z7
        refine HPC.out.mono ?_
        rintro e W9 ⟨hp, hb⟩
        unfold PlainR at hp
        rw [if_pos HPL.out] at hp
        obtain ⟨A9, c9, rfl, hrd⟩ := hp
        obtain ⟨W10, hW10⟩ : ∃ W10, W9.alloc (.cells #[.slice A9 r.length c9] 28) = W10 := ⟨_, rfl⟩
        have hb10 : Below W9.heap.size W9 W10 := by rw [← hW10]; exact (Below.refl _ W9).alloc (Nat.le_refl _) _
        have hb810 : Below W8.heap.size W8 W10 := hb.trans (hb10.mono hb.size)
        have HB10 : Hid (Below w.heap.size w W10) := Lib.hid (HB8.out.trans (hb810.mono HB8.out.size))
        have HX10 : Hid (W10.heap[W2.heap.size]? = some (.cells #[.slice A2 r.length c2] 28) ∧ W10.heap[W9.heap.size]? = some (.cells #[.slice A9 r.length c9] 28)) := Lib.hid ⟨(hb810.block _ HL8.out).trans HX8.out, by rw [← hW10]; exact World.alloc_heap_new _ _⟩
        have HL10 : Hid (W2.heap.size < W10.heap.size ∧ W9.heap.size < W10.heap.size) := Lib.hid ⟨Nat.lt_of_lt_of_le HL8.out hb810.size, by rw [← hW10]; simp⟩
        have HR10 : Hid (RdR W10 W2.heap.size A2 r.length r) := Lib.hid (HR8.out.below (hb810.mono (Nat.le_of_lt HL8.out)))
        have HRD10 : Hid (RdR W10 W9.heap.size A9 r.length r) := Lib.hid (hrd.below hb10)
        have HRT := Lib.hid (RefRgText_any A2 r.length c2 r W10 W2.heap.size HR10.out (Nat.le_of_lt HL10.out.1) HQ.out)
        rw [← HTE.out] at HRT
        have z3 := cell1 HX10.out.1
        rw [← hW10] at z3
        have HW10 := Lib.hid hW10
        clear hb hb10 hb810 hrd hW10 HPC
        go_wp2_with fail
        try rw [show W9.alloc (.cells #[.slice A9 r.length c9] 28) = W10 from HW10.out]
        clear z3
        refine HRT.out.mono ?_
        rintro e W11 ⟨rfl, hb⟩
        have HB11 : Hid (Below w.heap.size w W11) := Lib.hid (HB10.out.trans (hb.mono HB10.out.size))
        have z3 := cell1 ((hb.block _ HL10.out.1).trans HX10.out.1)
        have z9 := cell1 ((hb.block _ HL10.out.2).trans HX10.out.2)
        have HRL : Hid (r.length ≤ 8) := Lib.hid (rightR_len HQ.out).2
        have HAL := Lib.hid (alike_any A9 A2 r.length c9 c2 r W11 W9.heap.size W2.heap.size (HRD10.out.below (hb.mono (Nat.le_of_lt HL10.out.2))) (HR10.out.below (hb.mono (Nat.le_of_lt HL10.out.1))) (Nat.le_trans (Nat.le_of_lt HL10.out.2) hb.size) (Nat.le_trans (Nat.le_of_lt HL10.out.1) hb.size) (by have := HRL.out; omega) (fun l hl => by have := (rightR_list HQ.out hl).1; omega))
        clear hb HRT
        go_wp2_with fail
        refine HAL.out.mono ?_
        rintro e W12 ⟨rfl, hb⟩
        have HB12 : Hid (Below w.heap.size w W12) := Lib.hid (HB11.out.trans (hb.mono HB11.out.size))
        clear hb z3 z9 HAL
        go_wp2
        refine bodyPost_ret (results_tmp rfl _ _ _) rfl ⟨rfl, HB12.out⟩
end Go.Proofs.YtpnbbbhbbnemlaaGreatDoor
