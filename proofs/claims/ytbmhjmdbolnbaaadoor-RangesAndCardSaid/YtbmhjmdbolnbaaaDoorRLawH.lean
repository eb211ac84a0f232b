/-
  THE LAW RangesHas (printed by genlawrh.py).
-/
import Derived.Test.YtbmhjmdbolnbaaaDoorRRef
import Derived.Test.YtbmhjmdbolnbaaaDoorRPl
import Derived.Test.YtbmhjmdbolnbaaaDoorRAnch
namespace Go.Proofs.YtbmhjmdbolnbaaaDoor
open Go.RowKit
open SemP
set_option linter.unusedVariables false
set_option linter.unusedSimpArgs false
set_option maxRecDepth 100000
theorem plain_fits {r : List (List CV)} (h : plainR r = true) : r.length ≤ 20 ∧ Fits r ∧ Small r := by
  unfold plainR at h
  rw [Bool.and_eq_true, decide_eq_true_eq, List.all_eq_true] at h
  have hl : ∀ l ∈ r, l.length ≤ 20 ∧ ∀ x ∈ l, x.s.size ≤ 100 := fun l hl => by
    have h2 := h.2 l hl
    unfold plainL at h2
    rw [Bool.and_eq_true, decide_eq_true_eq, List.all_eq_true] at h2
    exact ⟨h2.1, fun x hx => of_decide_eq_true (h2.2 x hx)⟩
  exact ⟨h.1, fun l hm => ⟨fun x hx => by have := (hl l hm).2 x hx; omega, by have := (hl l hm).1; omega⟩, fun l hm x hx => by have := (hl l hm).2 x hx; omega⟩
structure LhSt (w0 : World) (vr vv vd : Value) (q : Bool) (b0 b1 b2 b3 b4 b5 b6 b7 : Bool) (v4 v22 v23 v24 v25 v26 v27 v28 : Value) (w' : World) : Prop where
  bel : Below w0.heap.size w0 w'
  h0 : b0 = true → v22 = vr
  h1 : b1 = true → v23 = vv
  h2 : b2 = true → v24 = .bool q
  h3 : b3 = true → v25 = vd
  h4 : b4 = true → v26 = vv
  h5 : b5 = true → v27 = .bool q
  h6 : b6 = true → v28 = .bool true
  h7 : b7 = true → v4 = .bool true
inductive LhJ (w0 : World) (vr vv vd : Value) (q : Bool) (p0 p1 p2 p3 p5 p6 p7 p8 p9 p10 p11 p12 p13 p14 p15 p16 p17 p18 p19 p20 p21 : Value) : Array Bool → Act → World → Prop where
  | mk (b0 b1 b2 b3 b4 b5 b6 b7 : Bool) (v4 v22 v23 v24 v25 v26 v27 v28 : Value) (w' : World) : LhSt w0 vr vv vd q b0 b1 b2 b3 b4 b5 b6 b7 v4 v22 v23 v24 v25 v26 v27 v28 w' → LhJ w0 vr vv vd q p0 p1 p2 p3 p5 p6 p7 p8 p9 p10 p11 p12 p13 p14 p15 p16 p17 p18 p19 p20 p21 #[b0, b1, b2, b3, b4, b5, b6, b7] { tmps := List.toArray (p0 :: p1 :: p2 :: p3 :: v4 :: p5 :: p6 :: p7 :: p8 :: p9 :: p10 :: p11 :: p12 :: p13 :: p14 :: p15 :: p16 :: p17 :: p18 :: p19 :: p20 :: p21 :: v22 :: v23 :: v24 :: v25 :: v26 :: v27 :: v28 :: []), defers := [] } w'
set_option maxHeartbeats 16000000 in
theorem law_has (A : Option Addr) (m cp : Nat) (r : List (List CV)) (a c d : Int) (s : ByteArray) (w : World) (hr : RdR w w.heap.size A m r) (hg : SignsAt w) (hm : LenAt w) (h1 : 1 < w.heap.size) :
    Calls Tryd.prog 12 #[.agg #[.slice A m cp], verV a c d s] w fun e w' => e = .returned (.bool true) ∧ Below w.heap.size w w' := by
  obtain ⟨W0, hW0⟩ : ∃ W0, (w.alloc (.cells #[.slice A m cp] 48)).alloc (verC a c d s) = W0 := ⟨_, rfl⟩
  have hz0 : W0.heap.size = w.heap.size + 2 := by rw [← hW0]; simp
  have hb0 : Below w.heap.size w W0 := by rw [← hW0]; exact ((Below.refl _ w).alloc (Nat.le_refl _) _).alloc (by simp) _
  have HX0 : Hid (W0.heap[w.heap.size]? = some (.cells #[.slice A m cp] 48)) := Lib.hid (by
    rw [← hW0, Below.heap_alloc _ _ _ (by simp)]; exact World.alloc_heap_new _ _)
  have HX1 : Hid (W0.heap[w.heap.size + 1]? = some (verC a c d s)) := Lib.hid (by
    rw [← hW0]
    have := World.alloc_heap_new (w.alloc (.cells #[.slice A m cp] 48)) (verC a c d s)
    rw [World.size_alloc] at this; exact this)
  have HL0 : Hid (w.heap.size < W0.heap.size ∧ w.heap.size + 1 < W0.heap.size) := Lib.hid (by omega)
  have HM0 := Lib.hid (hm.below h1 hb0)
  have HG0 : Hid (SignsAt W0) := Lib.hid (hg.below hb0 (by omega))
  have HAN := Lib.hid (ranchor_any W0 HG0.out HM0.out.1 HM0.out.2)
  have HW0 := Lib.hid hW0
  have HB0 := Lib.hid hb0
  have HR0 : Hid (RdR W0 w.heap.size A m r) := Lib.hid (hr.below hb0)
  have HLE := Lib.hid hr.1
  clear hW0 hb0 hm hg hr hz0
  go_enter Tryd.func12, Tryd.ntmps12
  go_wp2_with fail
  try rw [show (w.alloc (.cells #[.slice A m cp] 48)).alloc (.cells #[.int .i64 a, .int .i64 c, .int .i64 d, .string s] 25) = W0 from HW0.out]
  refine HAN.out.mono ?_
  rintro e W1 ⟨rfl, hb⟩
  have HB1 : Hid (Below W0.heap.size W0 W1) := Lib.hid hb
  have HM1 := Lib.hid (HM0.out.1.below HM0.out.2 hb)
  have c1 : W1.cell? ⟨w.heap.size, 0, none⟩ = some (.slice A m cp) := cell1 ((hb.block _ HL0.out.1).trans HX0.out)
  have HPC := Lib.hid (plain_any A m cp r W1 w.heap.size (HR0.out.below (hb.mono HB0.out.size)) (Nat.le_trans HB0.out.size hb.size))
  clear hb HAN
  go_wp2_with fail
  refine HPC.out.mono ?_
  rintro e W2 ⟨hp, hb⟩
  have HB2 : Hid (Below W0.heap.size W0 W2) := Lib.hid (HB1.out.trans (hb.mono HB1.out.size))
  have HM2 := Lib.hid (HM1.out.1.below HM1.out.2 hb)
  have HBw : Hid (∀ o, Below w.heap.size w (W2.alloc o)) := Lib.hid (fun o => by
    have h := HB0.out.trans (HB2.out.mono HB0.out.size)
    exact h.alloc h.size o)
  clear hb HPC c1
  unfold PlainR at hp
  cases hpl : plainR r with
  | false =>
    rw [hpl, if_neg (by decide)] at hp
    obtain ⟨A2, n2, c2, rfl⟩ := hp
    clear hpl
    go_wp2
    refine bodyPost_ret (results_tmp rfl _ _ _) rfl ⟨rfl, HBw.out _⟩
  | true =>
    rw [hpl, if_pos rfl] at hp
    obtain ⟨A2, c2, rfl, hrd⟩ := hp
    have hpf := plain_fits hpl
    have HM20 : Hid (m ≤ 20) := Lib.hid (by rw [← HLE.out]; exact hpf.1)
    have HFI := Lib.hid hpf.2.1
    have HSM := Lib.hid hpf.2.2
    obtain ⟨W3, hW3⟩ : ∃ W3, W2.alloc (.cells #[.slice A2 r.length c2] 53) = W3 := ⟨_, rfl⟩
    have hb3 : Below W2.heap.size W2 W3 := by rw [← hW3]; exact (Below.refl _ W2).alloc (Nat.le_refl _) _
    have hb03 : Below W0.heap.size W0 W3 := HB2.out.trans (hb3.mono HB2.out.size)
    have HX3 : Hid (W3.heap[w.heap.size]? = some (.cells #[.slice A m cp] 48) ∧ W3.heap[w.heap.size + 1]? = some (verC a c d s) ∧ W3.heap[W2.heap.size]? = some (.cells #[.slice A2 r.length c2] 53)) := Lib.hid ⟨(hb03.block _ HL0.out.1).trans HX0.out, (hb03.block _ HL0.out.2).trans HX1.out, by rw [← hW3]; exact World.alloc_heap_new _ _⟩
    have HL3 : Hid (w.heap.size < W3.heap.size ∧ w.heap.size + 1 < W3.heap.size ∧ W2.heap.size < W3.heap.size) := Lib.hid ⟨Nat.lt_of_lt_of_le HL0.out.1 hb03.size, Nat.lt_of_lt_of_le HL0.out.2 hb03.size, by rw [← hW3]; simp⟩
    have HR3 : Hid (RdR W3 w.heap.size A m r) := Lib.hid (HR0.out.below (hb03.mono HB0.out.size))
    have HR4 : Hid (RdR W3 W2.heap.size A2 r.length r) := Lib.hid (hrd.below hb3)
    have HS3 : Hid (w.heap.size ≤ W3.heap.size ∧ W2.heap.size ≤ W3.heap.size) := Lib.hid ⟨Nat.le_trans HB0.out.size hb03.size, hb3.size⟩
    have HM3 := Lib.hid (HM2.out.1.below HM2.out.2 hb3)
    have HB3 : Hid (Below w.heap.size w W3) := Lib.hid (by rw [← hW3]; exact HBw.out _)
    obtain ⟨y0, y1, y2, y3⟩ := cells4 HX3.out.2.1
    rw [← hW3] at y0 y1 y2 y3
    have HW3 := Lib.hid hW3
    clear hpl hpf hrd hb3 hb03 hW3
    by_cases hsh : 100 < s.size
    · have dsh : decide (100 < (s.size : Int)) = true := decide_eq_true (by omega)
      go_wp2
      refine bodyPost_ret (results_tmp rfl _ _ _) rfl ⟨rfl, HBw.out _⟩
    · have HSS : Hid (s.size ≤ 100) := Lib.hid (by omega)
      have dsh : decide (100 < (s.size : Int)) = false := decide_eq_false (by omega)
      obtain ⟨q, hq⟩ : ∃ q, hasR r ⟨a, c, d, bs s⟩ = q := ⟨_, rfl⟩
      have HQ := Lib.hid hq
      clear hsh hq
      go_upto_region 6 with fail
      rw [show W2.alloc (.cells #[.slice A2 r.length c2] 53) = W3 from HW3.out]
      clear y0 y1 y2 y3
      refine wp_region_inv (by kernel_rfl) (I := LhJ W3 (.agg #[.slice A m cp]) (verV a c d s) (.agg #[.slice A2 r.length c2]) q _ _ _ _ _ _ _ _ _ _ _ _ _ _ _ _ _ _ _ _ _) (.mk false false false false false false false false _ _ _ _ _ _ _ _ _ ⟨(Below.refl _ W3).drew, nofun, nofun, nofun, nofun, nofun, nofun, nofun, nofun⟩) ?step ?fin
      case step =>
        rintro lq a' w' ix ⟨b0, b1, b2, b3, b4, b5, b6, b7, v4, v22, v23, v24, v25, v26, v27, v28, _, HT⟩ hi
        obtain ⟨hi_, hib⟩ := ready_lt hi
        have HTH := Lib.hid HT
        match ix, hi_, hi, hib with
        | 0, _, hi, hib =>
          have c1 : w'.cell? ⟨w.heap.size, 0, none⟩ = some (.slice A m cp) := cell1 ((HT.bel.block _ HL3.out.1).trans HX3.out.1)
          clear HT
          refine wpOp_one rfl rfl (fun K hK => ?_)
          go_simp
          exact hK.out _ _ (.mk true b1 b2 b3 b4 b5 b6 b7 _ _ _ _ _ _ _ _ _ { HTH.out with h0 := fun _ => rfl })
        | 1, _, hi, hib =>
          obtain ⟨y0, y1, y2, y3⟩ := cells4 ((HT.bel.block _ HL3.out.2.1).trans HX3.out.2.1)
          clear HT
          refine wpOp_one rfl rfl (fun K hK => ?_)
          go_simp
          exact hK.out _ _ (.mk b0 true b2 b3 b4 b5 b6 b7 _ _ _ _ _ _ _ _ _ { HTH.out with h1 := fun _ => rfl })
        | 2, _, hi, hib =>
          have d0 : b0 = true := ready_dep hi rfl 0 (by kernel_rfl)
          have hd0 := HT.h0 d0
          subst hd0
          have d1 : b1 = true := ready_dep hi rfl 1 (by kernel_rfl)
          have hd1 := HT.h1 d1
          subst hd1
          have hM := HM3.out.1.below HM3.out.2 HT.bel
          have HC := Lib.hid (RgHas_any A m cp r a c d s w' w.heap.size (HR3.out.below (HT.bel.mono HS3.out.1)) (Nat.le_trans HS3.out.1 HT.bel.size) HFI.out (by have := HSS.out; omega) (by have := HM20.out; omega) hM.1 hM.2)
          rw [HQ.out] at HC
          clear hM
          clear HT
          refine wpOp_one rfl rfl (fun K hK => ?_)
          go_simp
          refine HC.out.mono ?_
          rintro e w2 ⟨rfl, hb⟩
          exact hK.out _ _ (.mk b0 b1 true b3 b4 b5 b6 b7 _ _ _ _ _ _ _ _ _ { HTH.out with bel := HTH.out.bel.trans (hb.mono HTH.out.bel.size), h2 := fun _ => rfl })
        | 3, _, hi, hib =>
          have c5 : w'.cell? ⟨W2.heap.size, 0, none⟩ = some (.slice A2 r.length c2) := cell1 ((HT.bel.block _ HL3.out.2.2).trans HX3.out.2.2)
          clear HT
          refine wpOp_one rfl rfl (fun K hK => ?_)
          go_simp
          exact hK.out _ _ (.mk b0 b1 b2 true b4 b5 b6 b7 _ _ _ _ _ _ _ _ _ { HTH.out with h3 := fun _ => rfl })
        | 4, _, hi, hib =>
          obtain ⟨y0, y1, y2, y3⟩ := cells4 ((HT.bel.block _ HL3.out.2.1).trans HX3.out.2.1)
          clear HT
          refine wpOp_one rfl rfl (fun K hK => ?_)
          go_simp
          exact hK.out _ _ (.mk b0 b1 b2 b3 true b5 b6 b7 _ _ _ _ _ _ _ _ _ { HTH.out with h4 := fun _ => rfl })
        | 5, _, hi, hib =>
          have d3 : b3 = true := ready_dep hi rfl 3 (by kernel_rfl)
          have hd3 := HT.h3 d3
          subst hd3
          have d4 : b4 = true := ready_dep hi rfl 4 (by kernel_rfl)
          have hd4 := HT.h4 d4
          subst hd4
          have HC := Lib.hid (RefHas_any A2 r.length c2 r a c d s w' W2.heap.size (HR4.out.below (HT.bel.mono HS3.out.2)) (Nat.le_trans HS3.out.2 HT.bel.size) HSM.out (by have := HSS.out; omega))
          rw [HQ.out] at HC
          clear HT
          refine wpOp_one rfl rfl (fun K hK => ?_)
          go_simp
          refine HC.out.mono ?_
          rintro e w2 ⟨rfl, hb⟩
          exact hK.out _ _ (.mk b0 b1 b2 b3 b4 true b6 b7 _ _ _ _ _ _ _ _ _ { HTH.out with bel := HTH.out.bel.trans (hb.mono HTH.out.bel.size), h5 := fun _ => rfl })
        | 6, _, hi, hib =>
          have d2 : b2 = true := ready_dep hi rfl 2 (by kernel_rfl)
          have hd2 := HT.h2 d2
          subst hd2
          have d5 : b5 = true := ready_dep hi rfl 5 (by kernel_rfl)
          have hd5 := HT.h5 d5
          subst hd5
          clear HT
          refine wpOp_one rfl rfl (fun K hK => ?_)
          go_simp
          exact hK.out _ _ (.mk b0 b1 b2 b3 b4 b5 true b7 _ _ _ _ _ _ _ _ _ { HTH.out with h6 := fun _ => rfl })
        | 7, _, hi, hib =>
          have d6 : b6 = true := ready_dep hi rfl 6 (by kernel_rfl)
          have hd6 := HT.h6 d6
          subst hd6
          clear HT
          refine wpOp_one rfl rfl (fun K hK => ?_)
          go_simp
          exact hK.out _ _ (.mk b0 b1 b2 b3 b4 b5 b6 true _ _ _ _ _ _ _ _ _ { HTH.out with h7 := fun _ => rfl })
      case fin =>
        rintro lq a' w' ⟨b0, b1, b2, b3, b4, b5, b6, b7, v4, v22, v23, v24, v25, v26, v27, v28, _, HT⟩ hr
        obtain rfl : b0 = true := by
          cases b0 with
          | true => rfl
          | false => exact (ready_in 0 rfl rfl (by simp [Region.binds]) hr).elim
        obtain rfl : b1 = true := by
          cases b1 with
          | true => rfl
          | false => exact (ready_in 1 rfl rfl (by simp [Region.binds]) hr).elim
        obtain rfl : b2 = true := by
          cases b2 with
          | true => rfl
          | false => exact (ready_in 2 rfl rfl (by simp [Region.binds]) hr).elim
        obtain rfl : b3 = true := by
          cases b3 with
          | true => rfl
          | false => exact (ready_in 3 rfl rfl (by simp [Region.binds]) hr).elim
        obtain rfl : b4 = true := by
          cases b4 with
          | true => rfl
          | false => exact (ready_in 4 rfl rfl (by simp [Region.binds]) hr).elim
        obtain rfl : b5 = true := by
          cases b5 with
          | true => rfl
          | false => exact (ready_in 5 rfl rfl (by simp [Region.binds]) hr).elim
        obtain rfl : b6 = true := by
          cases b6 with
          | true => rfl
          | false => exact (ready_in 6 rfl rfl (by simp [Region.binds]) hr).elim
        obtain rfl : b7 = true := by
          cases b7 with
          | true => rfl
          | false => exact (ready_in 7 rfl rfl (by simp [Region.binds]) hr).elim
        have k0 := HT.h0 rfl
        subst k0
        have k1 := HT.h1 rfl
        subst k1
        have k2 := HT.h2 rfl
        subst k2
        have k3 := HT.h3 rfl
        subst k3
        have k4 := HT.h4 rfl
        subst k4
        have k5 := HT.h5 rfl
        subst k5
        have k6 := HT.h6 rfl
        subst k6
        have k7 := HT.h7 rfl
        subst k7
        have HF2 : Hid (Below w.heap.size w w') := Lib.hid (HB3.out.trans (HT.bel.mono HB3.out.size))
        clear HT hr
        show _
        go_wp2
        refine bodyPost_ret (results_tmp rfl _ _ _) rfl ⟨rfl, HF2.out⟩
end Go.Proofs.YtbmhjmdbolnbaaaDoor
