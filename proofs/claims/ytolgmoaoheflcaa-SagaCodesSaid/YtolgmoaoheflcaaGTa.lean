/-
 CONTRACT: Take (printed by gengta.py).
-/
import Derived.Test.YtolgmoaoheflcaaGCh
import Derived.Test.YtolgmoaoheflcaaGBh
namespace Go.Proofs.Ytolgmoaoheflcaa.Sa
open Go.RowKit
open DiP
set_option linter.unusedVariables false
set_option linter.unusedSimpArgs false
set_option maxRecDepth 10000
set_option maxHeartbeats 16000000 in
theorem take_any {w : World} {base B : Nat} {num ph : Int} {AF AT AS AE AO AD : Option Addr} {nF nT nS nE nO nD cF cT cS cE cO cD : Nat} {kd sp : Int} {BF BT BS BE : Option Addr} {mF mT mS mE dF dT dS dE : Nat} {s : StV} {r : RcV} (ho : StO w base num ph AF nF cF AT nT cT AS nS cS AE nE cE AO nO cO AD nD cD s) (hi : InvS s) (hr0 : RcW w B kd sp BF mF BT mT BS mS BE mE r) (hB0 : B ≤ w.heap.size) :
 Calls Try.prog 11 #[.agg #[.int .i64 num, .int .i64 ph, .slice AF nF cF, .slice AT nT cT, .slice AS nS cS, .slice AE nE cE, .slice AO nO cO, .slice AD nD cD], .agg #[.int .i64 kd, .int .i64 sp, .slice BF mF dF, .slice BT mT dT, .slice BS mS dS, .slice BE mE dE]] w fun e w' => Below w.heap.size w w' ∧ ((takeE s r ≠ 0 ∧ e = .returned (.tuple #[.agg #[.int .i64 0, .int .i64 0, .slice none 0 0, .slice none 0 0, .slice none 0 0, .slice none 0 0, .slice none 0 0, .slice none 0 0], .int .i64 (takeE s r)])) ∨ (takeE s r = 0 ∧ ∃ num' ph' A1 n1 c1 A2 n2 c2 A3 n3 c3 A4 n4 c4 A5 n5 c5 A6 n6 c6, e = .returned (.tuple #[.agg #[.int .i64 num', .int .i64 ph', .slice A1 n1 c1, .slice A2 n2 c2, .slice A3 n3 c3, .slice A4 n4 c4, .slice A5 n5 c5, .slice A6 n6 c6], .int .i64 0]) ∧ StO w' w.heap.size num' ph' A1 n1 c1 A2 n2 c2 A3 n3 c3 A4 n4 c4 A5 n5 c5 A6 n6 c6 (takeS s r))) := by
 have h := ho.stw hi
 have hr := hr0.more hB0
 have hB : w.heap.size ≤ w.heap.size := Nat.le_refl _
 clear ho hr0 hB0
 obtain ⟨W, HW⟩ : ∃ W, Hid (W = ((w.alloc (.cells #[.int .i64 num, .int .i64 ph, .slice AF nF cF, .slice AT nT cT, .slice AS nS cS, .slice AE nE cE, .slice AO nO cO, .slice AD nD cD] 31)).alloc (.cells #[.int .i64 kd, .int .i64 sp, .slice BF mF dF, .slice BT mT dT, .slice BS mS dS, .slice BE mE dE] 33)).alloc (.cells #[.int .i64 0, .int .i64 0, .slice none 0 0, .slice none 0 0, .slice none 0 0, .slice none 0 0, .slice none 0 0, .slice none 0 0] 31)) := ⟨_, Lib.hid rfl⟩
 have hbl : Below w.heap.size w W := by rw [HW.out]; exact (((Below.refl _ w).alloc (Nat.le_refl _) _).alloc (by simp) _).alloc (by simp; omega) _
 have H0 : Hid (W.heap[w.heap.size]? = some (.cells #[.int .i64 num, .int .i64 ph, .slice AF nF cF, .slice AT nT cT, .slice AS nS cS, .slice AE nE cE, .slice AO nO cO, .slice AD nD cD] 31 (0, 0))) := Lib.hid (by rw [HW.out, Below.heap_alloc _ _ _ (by simp; omega), Below.heap_alloc _ _ _ (by simp)]; exact heap_new w _)
 have H1 : Hid (W.heap[w.heap.size + 1]? = some (.cells #[.int .i64 kd, .int .i64 sp, .slice BF mF dF, .slice BT mT dT, .slice BS mS dS, .slice BE mE dE] 33 (0, 0))) := Lib.hid (by
  rw [HW.out, Below.heap_alloc _ _ _ (by simp)]
  have h := heap_new (w.alloc (.cells #[.int .i64 num, .int .i64 ph, .slice AF nF cF, .slice AT nT cT, .slice AS nS cS, .slice AE nE cE, .slice AO nO cO, .slice AD nD cD] 31)) (.cells #[.int .i64 kd, .int .i64 sp, .slice BF mF dF, .slice BT mT dT, .slice BS mS dS, .slice BE mE dE] 33)
  rw [World.size_alloc] at h; exact h)
 have H2 : Hid (W.heap[w.heap.size + 2]? = some (.cells #[.int .i64 0, .int .i64 0, .slice none 0 0, .slice none 0 0, .slice none 0 0, .slice none 0 0, .slice none 0 0, .slice none 0 0] 31 (0, 0))) := Lib.hid (by
  rw [HW.out]
  have h := heap_new ((w.alloc (.cells #[.int .i64 num, .int .i64 ph, .slice AF nF cF, .slice AT nT cT, .slice AS nS cS, .slice AE nE cE, .slice AO nO cO, .slice AD nD cD] 31)).alloc (.cells #[.int .i64 kd, .int .i64 sp, .slice BF mF dF, .slice BT mT dT, .slice BS mS dS, .slice BE mE dE] 33)) (.cells #[.int .i64 0, .int .i64 0, .slice none 0 0, .slice none 0 0, .slice none 0 0, .slice none 0 0, .slice none 0 0, .slice none 0 0] 31)
  rw [World.size_alloc, World.size_alloc] at h; exact h)
 have HBL := Lib.hid hbl
 have HS := Lib.hid (h.below (hbl.mono hB))
 have HR := Lib.hid (hr.below (hbl.mono hB))
 have HBB : Hid (w.heap.size ≤ W.heap.size) := Lib.hid (Nat.le_trans hB hbl.size)
 have HKD : Hid (r.kind = kd) := Lib.hid hr.kind
 have HSP : Hid (r.step = sp) := Lib.hid hr.step
 have ho100 := h.so
 have hd100 := h.sd
 clear h hr hbl hB
 have HX3 : Hid (∀ Z, Below W.heap.size W Z → Z.heap[w.heap.size + 2]? = some (.cells #[.int .i64 0, .int .i64 0, .slice none 0 0, .slice none 0 0, .slice none 0 0, .slice none 0 0, .slice none 0 0, .slice none 0 0] 31 (0, 0))) := Lib.hid (fun Z hZ => (hZ.block (w.heap.size + 2) (heapE_lt H2.out)).trans H2.out)
 have HX : Hid (∀ Z, Below W.heap.size W Z → (Z.cell? ⟨w.heap.size, 0, none⟩ = some (.int .i64 num) ∧ Z.cell? ⟨w.heap.size, 1, none⟩ = some (.int .i64 ph) ∧ Z.cell? ⟨w.heap.size, 2, none⟩ = some (.slice AF nF cF) ∧ Z.cell? ⟨w.heap.size, 3, none⟩ = some (.slice AT nT cT) ∧ Z.cell? ⟨w.heap.size, 4, none⟩ = some (.slice AS nS cS) ∧ Z.cell? ⟨w.heap.size, 5, none⟩ = some (.slice AE nE cE) ∧ Z.cell? ⟨w.heap.size, 6, none⟩ = some (.slice AO nO cO) ∧ Z.cell? ⟨w.heap.size, 7, none⟩ = some (.slice AD nD cD)) ∧ (Z.cell? ⟨w.heap.size + 1, 0, none⟩ = some (.int .i64 kd) ∧ Z.cell? ⟨w.heap.size + 1, 1, none⟩ = some (.int .i64 sp) ∧ Z.cell? ⟨w.heap.size + 1, 2, none⟩ = some (.slice BF mF dF) ∧ Z.cell? ⟨w.heap.size + 1, 3, none⟩ = some (.slice BT mT dT) ∧ Z.cell? ⟨w.heap.size + 1, 4, none⟩ = some (.slice BS mS dS) ∧ Z.cell? ⟨w.heap.size + 1, 5, none⟩ = some (.slice BE mE dE))) := Lib.hid (fun Z hZ => ⟨row8 ((hZ.block w.heap.size (heapE_lt H0.out)).trans H0.out), row6 ((hZ.block (w.heap.size + 1) (heapE_lt H1.out)).trans H1.out)⟩)
 have HPH : Hid (s.ph = ph) := Lib.hid HS.out.ph
 obtain ⟨⟨x0, x1, x2, x3, x4, x5, x6, x7⟩, y0, y1, y2, y3, y4, y5⟩ := HX.out W (Below.refl _ _)
 obtain ⟨z0, z1, z2, z3, z4, z5, z6, z7⟩ := row8 (HX3.out W (Below.refl _ _))
 have zf := free_row (HX3.out W (Below.refl _ _))
 have HF := Lib.hid (formed_any (dF := dF) (dT := dT) (dS := dS) (dE := dE) HR.out HBB.out)
 obtain ⟨fq, HFQ⟩ : ∃ q, Hid (formB r = q) := ⟨_, Lib.hid rfl⟩
 rw [HFQ.out] at HF
 go_enter Try.func11, Try.ntmps11
 go_upto_region 1 with fail
 change Code.wp _ _ _ _ (((w.alloc (.cells #[.int .i64 num, .int .i64 ph, .slice AF nF cF, .slice AT nT cT, .slice AS nS cS, .slice AE nE cE, .slice AO nO cO, .slice AD nD cD] 31)).alloc (.cells #[.int .i64 kd, .int .i64 sp, .slice BF mF dF, .slice BT mT dT, .slice BS mS dS, .slice BE mE dE] 33)).alloc (.cells #[.int .i64 0, .int .i64 0, .slice none 0 0, .slice none 0 0, .slice none 0 0, .slice none 0 0, .slice none 0 0, .slice none 0 0] 31))
 rw [← HW.out]
 cases fq with
 | false =>
  have HV : Hid (takeE s r = 12) := Lib.hid (by unfold takeE; rw [if_pos HFQ.out])
  go_wp2_with fail
  refine HF.out.mono ?_
  rintro e w1 ⟨rfl, hb⟩
  have HB1 := Lib.hid hb
  clear hb
  clear x0 x1 x2 x3 x4 x5 x6 x7 y0 y1 y2 y3 y4 y5 z0 z1 z2 z3 z4 z5 z6 z7 zf
  obtain ⟨⟨x0, x1, x2, x3, x4, x5, x6, x7⟩, y0, y1, y2, y3, y4, y5⟩ := HX.out w1 HB1.out
  obtain ⟨z0, z1, z2, z3, z4, z5, z6, z7⟩ := row8 (HX3.out w1 HB1.out)
  have zf := free_row (HX3.out w1 HB1.out)
  have HFH : Hid ((set8 w1 (w.heap.size + 2) (.int .i64 0) (.int .i64 0) (.slice none 0 0) (.slice none 0 0) (.slice none 0 0) (.slice none 0 0) (.slice none 0 0) (.slice none 0 0)).heap[w.heap.size + 2]? = _) := Lib.hid (set8_same (HX3.out w1 HB1.out))
  have HBF : Hid (Below w.heap.size w (set8 w1 (w.heap.size + 2) (.int .i64 0) (.int .i64 0) (.slice none 0 0) (.slice none 0 0) (.slice none 0 0) (.slice none 0 0) (.slice none 0 0) (.slice none 0 0))) := Lib.hid (set8_below (HBL.out.trans (Below.mono HB1.out HBL.out.size)) (Nat.le_add_right _ _))
  obtain ⟨r0, r1, r2, r3, r4, r5, r6, r7⟩ := row8 HFH.out
  have HR8 := Lib.hid (And.intro r0 (And.intro r1 (And.intro r2 (And.intro r3 (And.intro r4 (And.intro r5 (And.intro r6 r7)))))))
  clear r0 r1 r2 r3 r4 r5 r6 r7
  go_wp2_with fail
  refine bodyPost_ret (v := .tuple #[.agg #[.int .i64 0, .int .i64 0, .slice none 0 0, .slice none 0 0, .slice none 0 0, .slice none 0 0, .slice none 0 0, .slice none 0 0], .int .i64 (takeE s r)]) ?_ rfl ⟨HBF.out, .inl ⟨by rw [HV.out]; decide, by rw [HV.out]⟩⟩
  obtain ⟨r0, r1, r2, r3, r4, r5, r6, r7⟩ := HR8.out
  unfold set8 at r0 r1 r2 r3 r4 r5 r6 r7
  rw [results_cell_tmp rfl]; go_simp
  exact HV.out.symm
 | true =>
  have HKK : Hid (1 ≤ kd ∧ kd ≤ 8) := Lib.hid (by
   have h := HFQ.out
   unfold formB at h
   simp only [Bool.and_eq_true, decide_eq_true_eq] at h
   have hk := HR.out.kind
   omega)
  have HE0 : Hid (takeE s r = if hearsB s.ph r.kind = false then 70 else checkI s r) := Lib.hid (by unfold takeE; rw [if_neg (by rw [HFQ.out]; decide)])
  go_wp2_with fail
  refine HF.out.mono ?_
  rintro e w1 ⟨rfl, hb⟩
  have HB1 := Lib.hid hb
  have HS1 := Lib.hid (HS.out.below (hb.mono HBB.out))
  have HR1 := Lib.hid (HR.out.below (hb.mono HBB.out))
  clear hb
  clear x0 x1 x2 x3 x4 x5 x6 x7 y0 y1 y2 y3 y4 y5 z0 z1 z2 z3 z4 z5 z6 z7 zf
  obtain ⟨⟨x0, x1, x2, x3, x4, x5, x6, x7⟩, y0, y1, y2, y3, y4, y5⟩ := HX.out w1 HB1.out
  obtain ⟨z0, z1, z2, z3, z4, z5, z6, z7⟩ := row8 (HX3.out w1 HB1.out)
  have zf := free_row (HX3.out w1 HB1.out)
  have HH := Lib.hid (hears_any (cF := cF) (cT := cT) (cS := cS) (cE := cE) (cO := cO) (cD := cD) HS1.out (Nat.le_trans HBB.out HB1.out.size) kd)
  rw [← HKD.out] at HH
  obtain ⟨hq, HHQ⟩ : ∃ q, Hid (hearsB s.ph r.kind = q) := ⟨_, Lib.hid rfl⟩
  rw [HHQ.out] at HH HE0
  rw [HKD.out] at HH
  cases hq with
  | false =>
   have HV : Hid (takeE s r = 70) := Lib.hid (by rw [HE0.out, if_pos rfl])
   go_wp2_with fail
   refine HH.out.mono ?_
   rintro e w2 ⟨rfl, hb⟩
   have HB2 := Lib.hid (HB1.out.trans (hb.mono HB1.out.size))
   clear hb
   clear x0 x1 x2 x3 x4 x5 x6 x7 y0 y1 y2 y3 y4 y5 z0 z1 z2 z3 z4 z5 z6 z7 zf
   obtain ⟨⟨x0, x1, x2, x3, x4, x5, x6, x7⟩, y0, y1, y2, y3, y4, y5⟩ := HX.out w2 HB2.out
   obtain ⟨z0, z1, z2, z3, z4, z5, z6, z7⟩ := row8 (HX3.out w2 HB2.out)
   have zf := free_row (HX3.out w2 HB2.out)
   have HFH : Hid ((set8 w2 (w.heap.size + 2) (.int .i64 0) (.int .i64 0) (.slice none 0 0) (.slice none 0 0) (.slice none 0 0) (.slice none 0 0) (.slice none 0 0) (.slice none 0 0)).heap[w.heap.size + 2]? = _) := Lib.hid (set8_same (HX3.out w2 HB2.out))
   have HBF : Hid (Below w.heap.size w (set8 w2 (w.heap.size + 2) (.int .i64 0) (.int .i64 0) (.slice none 0 0) (.slice none 0 0) (.slice none 0 0) (.slice none 0 0) (.slice none 0 0) (.slice none 0 0))) := Lib.hid (set8_below (HBL.out.trans (Below.mono HB2.out HBL.out.size)) (Nat.le_add_right _ _))
   obtain ⟨r0, r1, r2, r3, r4, r5, r6, r7⟩ := row8 HFH.out
   have HR8 := Lib.hid (And.intro r0 (And.intro r1 (And.intro r2 (And.intro r3 (And.intro r4 (And.intro r5 (And.intro r6 r7)))))))
   clear r0 r1 r2 r3 r4 r5 r6 r7
   go_wp2_with fail
   refine bodyPost_ret (v := .tuple #[.agg #[.int .i64 0, .int .i64 0, .slice none 0 0, .slice none 0 0, .slice none 0 0, .slice none 0 0, .slice none 0 0, .slice none 0 0], .int .i64 (takeE s r)]) ?_ rfl ⟨HBF.out, .inl ⟨by rw [HV.out]; decide, by rw [HV.out]⟩⟩
   obtain ⟨r0, r1, r2, r3, r4, r5, r6, r7⟩ := HR8.out
   unfold set8 at r0 r1 r2 r3 r4 r5 r6 r7
   rw [results_cell_tmp rfl]; go_simp
   exact HV.out.symm
  | true =>
   have HE1 : Hid (takeE s r = checkI s r) := Lib.hid (by rw [HE0.out, if_neg (by decide)])
   clear HE0
   go_wp2_with fail
   refine HH.out.mono ?_
   rintro e w2 ⟨rfl, hb⟩
   have HB2 := Lib.hid (HB1.out.trans (hb.mono HB1.out.size))
   have HS2 := Lib.hid (HS.out.below (HB2.out.mono HBB.out))
   have HR2 := Lib.hid (HR.out.below (HB2.out.mono HBB.out))
   clear hb
   clear x0 x1 x2 x3 x4 x5 x6 x7 y0 y1 y2 y3 y4 y5 z0 z1 z2 z3 z4 z5 z6 z7 zf
   obtain ⟨⟨x0, x1, x2, x3, x4, x5, x6, x7⟩, y0, y1, y2, y3, y4, y5⟩ := HX.out w2 HB2.out
   obtain ⟨z0, z1, z2, z3, z4, z5, z6, z7⟩ := row8 (HX3.out w2 HB2.out)
   have zf := free_row (HX3.out w2 HB2.out)
   have HC := Lib.hid (check_any (cF := cF) (cT := cT) (cS := cS) (cE := cE) (cO := cO) (cD := cD) (dF := dF) (dT := dT) (dS := dS) (dE := dE) HS2.out HR2.out (Nat.le_trans HBB.out HB2.out.size) HKK.out)
   obtain ⟨cq, HCQ⟩ : ∃ q, Hid (checkI s r = q) := ⟨_, Lib.hid rfl⟩
   rw [HCQ.out] at HC HE1
   go_wp2_with fail
   refine HC.out.mono ?_
   rintro e w3 ⟨rfl, hb⟩
   have HB3 := Lib.hid (HB2.out.trans (hb.mono HB2.out.size))
   have HS3 := Lib.hid (HS.out.below (HB3.out.mono HBB.out))
   have HR3 := Lib.hid (HR.out.below (HB3.out.mono HBB.out))
   clear hb
   clear x0 x1 x2 x3 x4 x5 x6 x7 y0 y1 y2 y3 y4 y5 z0 z1 z2 z3 z4 z5 z6 z7 zf
   obtain ⟨⟨x0, x1, x2, x3, x4, x5, x6, x7⟩, y0, y1, y2, y3, y4, y5⟩ := HX.out w3 HB3.out
   obtain ⟨z0, z1, z2, z3, z4, z5, z6, z7⟩ := row8 (HX3.out w3 HB3.out)
   have zf := free_row (HX3.out w3 HB3.out)
   by_cases hcz : cq = 0
   ·subst hcz
    have HTS : Hid (takeS s r = behindS s r) := Lib.hid (by unfold takeS; rw [if_pos HE1.out])
    have HBH := Lib.hid (behind_any (cF := cF) (cT := cT) (cS := cS) (cE := cE) (cO := cO) (cD := cD) (dF := dF) (dT := dT) (dS := dS) (dE := dE) HS3.out HR3.out (Nat.le_trans HBB.out HB3.out.size) HKK.out)
    rw [← HTS.out] at HBH
    go_wp2_with fail
    refine HBH.out.mono ?_
    rintro e w4 ⟨num', ph', A1, n1, c1, A2, n2, c2, A3, n3, c3, A4, n4, c4, A5, n5, c5, A6, n6, c6, rfl, hst, hb⟩
    have HB4 := Lib.hid (HB3.out.trans (hb.mono HB3.out.size))
    have HST := Lib.hid hst
    have HLE : Hid (w.heap.size ≤ w3.heap.size) := Lib.hid (Nat.le_trans HBL.out.size HB3.out.size)
    clear hb hst
    clear x0 x1 x2 x3 x4 x5 x6 x7 y0 y1 y2 y3 y4 y5 z0 z1 z2 z3 z4 z5 z6 z7 zf
    obtain ⟨⟨x0, x1, x2, x3, x4, x5, x6, x7⟩, y0, y1, y2, y3, y4, y5⟩ := HX.out w4 HB4.out
    obtain ⟨z0, z1, z2, z3, z4, z5, z6, z7⟩ := row8 (HX3.out w4 HB4.out)
    have zf := free_row (HX3.out w4 HB4.out)
    have HFH : Hid ((set8 w4 (w.heap.size + 2) (.int .i64 num') (.int .i64 ph') (.slice A1 n1 c1) (.slice A2 n2 c2) (.slice A3 n3 c3) (.slice A4 n4 c4) (.slice A5 n5 c5) (.slice A6 n6 c6)).heap[w.heap.size + 2]? = _) := Lib.hid (set8_same (HX3.out w4 HB4.out))
    have HBF : Hid (Below w.heap.size w (set8 w4 (w.heap.size + 2) (.int .i64 num') (.int .i64 ph') (.slice A1 n1 c1) (.slice A2 n2 c2) (.slice A3 n3 c3) (.slice A4 n4 c4) (.slice A5 n5 c5) (.slice A6 n6 c6))) := Lib.hid (set8_below (HBL.out.trans (HB4.out.mono HBL.out.size)) (Nat.le_add_right _ _))
    have hot : ∀ k, k < w4.heap.size → k ≠ w.heap.size + 2 → (set8 w4 (w.heap.size + 2) (.int .i64 num') (.int .i64 ph') (.slice A1 n1 c1) (.slice A2 n2 c2) (.slice A3 n3 c3) (.slice A4 n4 c4) (.slice A5 n5 c5) (.slice A6 n6 c6)).heap[k]? = w4.heap[k]? := fun k _ hne => set8_other hne
    have HSF := Lib.hid ((HST.out.apart (HX3.out w4 HB4.out) (by decide) (by decide) (by decide) hot).less HLE.out)
    obtain ⟨r0, r1, r2, r3, r4, r5, r6, r7⟩ := row8 HFH.out
    have HR8 := Lib.hid (And.intro r0 (And.intro r1 (And.intro r2 (And.intro r3 (And.intro r4 (And.intro r5 (And.intro r6 r7)))))))
    clear r0 r1 r2 r3 r4 r5 r6 r7 hot
    go_wp2_with fail
    refine bodyPost_ret (v := .tuple #[.agg #[.int .i64 num', .int .i64 ph', .slice A1 n1 c1, .slice A2 n2 c2, .slice A3 n3 c3, .slice A4 n4 c4, .slice A5 n5 c5, .slice A6 n6 c6], .int .i64 0]) ?_ rfl ⟨HBF.out, .inr ⟨HE1.out, num', ph', A1, n1, c1, A2, n2, c2, A3, n3, c3, A4, n4, c4, A5, n5, c5, A6, n6, c6, rfl, HSF.out⟩⟩
    obtain ⟨r0, r1, r2, r3, r4, r5, r6, r7⟩ := HR8.out
    unfold set8 at r0 r1 r2 r3 r4 r5 r6 r7
    rw [results_cell_tmp rfl]; go_simp
   ·have hnb : (cq != 0) = true := by rw [bne_iff_ne]; exact hcz
    have HNZ : Hid (takeE s r ≠ 0) := Lib.hid (by rw [HE1.out]; exact hcz)
    have HV := HE1
    clear hcz
    have HFH : Hid ((set8 w3 (w.heap.size + 2) (.int .i64 0) (.int .i64 0) (.slice none 0 0) (.slice none 0 0) (.slice none 0 0) (.slice none 0 0) (.slice none 0 0) (.slice none 0 0)).heap[w.heap.size + 2]? = _) := Lib.hid (set8_same (HX3.out w3 HB3.out))
    have HBF : Hid (Below w.heap.size w (set8 w3 (w.heap.size + 2) (.int .i64 0) (.int .i64 0) (.slice none 0 0) (.slice none 0 0) (.slice none 0 0) (.slice none 0 0) (.slice none 0 0) (.slice none 0 0))) := Lib.hid (set8_below (HBL.out.trans (Below.mono HB3.out HBL.out.size)) (Nat.le_add_right _ _))
    obtain ⟨r0, r1, r2, r3, r4, r5, r6, r7⟩ := row8 HFH.out
    have HR8 := Lib.hid (And.intro r0 (And.intro r1 (And.intro r2 (And.intro r3 (And.intro r4 (And.intro r5 (And.intro r6 r7)))))))
    clear r0 r1 r2 r3 r4 r5 r6 r7
    go_wp2_with fail
    refine bodyPost_ret (v := .tuple #[.agg #[.int .i64 0, .int .i64 0, .slice none 0 0, .slice none 0 0, .slice none 0 0, .slice none 0 0, .slice none 0 0, .slice none 0 0], .int .i64 (cq)]) ?_ rfl ⟨HBF.out, .inl ⟨HNZ.out, by rw [HV.out]⟩⟩
    obtain ⟨r0, r1, r2, r3, r4, r5, r6, r7⟩ := HR8.out
    unfold set8 at r0 r1 r2 r3 r4 r5 r6 r7
    rw [results_cell_tmp rfl]; go_simp
end Go.Proofs.Ytolgmoaoheflcaa.Sa
