/-
  CONTRACT: the document's Encode.
-/
import Derived.Test.YtolgmoaoheflcaaHEn
namespace Go.Proofs.Ytolgmoaoheflcaa
open Go.RowKit
open ByteP CodeP
set_option linter.unusedVariables false
set_option linter.unusedSimpArgs false
set_option maxRecDepth 10000
set_option maxHeartbeats 16000000 in
theorem encodeQ_any {w : World} {B c1 c2 c3 c4 : Nat} {kd sp : Int} {A1 A2 A3 A4 : Option Addr} {fs ts : List Int} {ps qs : List (Int × Int)} (h : RdPl w B A1 A2 A3 A4 fs ts ps qs) (hB : B ≤ w.heap.size) :
    Calls Try.prog 17 #[.agg #[.int .i64 kd, .int .i64 sp, .slice A1 fs.length c1, .slice A2 ts.length c2, .slice A3 ps.length c3, .slice A4 qs.length c4]] w fun e w' => (∃ A' n' c' er, e = .returned (.tuple #[.slice A' n' c', .int .i64 er]) ∧ WrEnd w' w.heap.size (rcO kd sp fs ts ps qs) (rcB kd sp fs ts ps qs) (.slice A' n' c') er) ∧ Below w.heap.size w w' := by
  obtain ⟨W, HW⟩ : ∃ W, Hid (W = w.alloc (.cells #[.int .i64 kd, .int .i64 sp, .slice A1 fs.length c1, .slice A2 ts.length c2, .slice A3 ps.length c3, .slice A4 qs.length c4] 55)) := ⟨_, Lib.hid rfl⟩
  have HBL : Hid (Below w.heap.size w W) := Lib.hid (by rw [HW.out]; exact (Below.refl _ w).alloc (Nat.le_refl _) _)
  have H0 : Hid (W.heap[w.heap.size]? = some (.cells #[.int .i64 kd, .int .i64 sp, .slice A1 fs.length c1, .slice A2 ts.length c2, .slice A3 ps.length c3, .slice A4 qs.length c4] 55 (0, 0))) := Lib.hid (by rw [HW.out]; exact heap_new w _)
  have HZ : Hid (w.heap.size < W.heap.size) := Lib.hid (heapE_lt H0.out)
  have HX : Hid (∀ Z, Below W.heap.size W Z → Z.cell? ⟨w.heap.size, 0, none⟩ = some (.int .i64 kd) ∧ Z.cell? ⟨w.heap.size, 1, none⟩ = some (.int .i64 sp) ∧ Z.cell? ⟨w.heap.size, 2, none⟩ = some (.slice A1 fs.length c1) ∧ Z.cell? ⟨w.heap.size, 3, none⟩ = some (.slice A2 ts.length c2) ∧ Z.cell? ⟨w.heap.size, 4, none⟩ = some (.slice A3 ps.length c3) ∧ Z.cell? ⟨w.heap.size, 5, none⟩ = some (.slice A4 qs.length c4)) := Lib.hid (fun Z hZ => Sa.row6 ((hZ.block w.heap.size HZ.out).trans H0.out))
  have HR : Hid (RdPl W B A1 A2 A3 A4 fs ts ps qs) := Lib.hid (h.below (HBL.out.mono hB))
  have hBW : B ≤ W.heap.size := by have := HZ.out; omega
  have HF := Lib.hid (Sa.formedQ_any (w := W) (kd := kd) (sp := sp) (BF := A1) (BT := A2) (BS := A3) (BE := A4) (mF := fs.length) (mT := ts.length) (mS := ps.length) (mE := qs.length) (dF := c1) (dT := c2) (dS := c3) (dE := c4) h.l1 h.l2 h.l3 h.l4)
  obtain ⟨fb, HFB⟩ : ∃ q, Hid (fmB kd sp fs ts ps qs = q) := ⟨_, Lib.hid rfl⟩
  have HFB2 : Hid (Sa.fB kd sp fs.length ts.length ps.length qs.length = fb) := Lib.hid HFB.out
  rw [HFB2.out] at HF
  clear h
  obtain ⟨x0, x1, x2, x3, x4, x5⟩ := HX.out W (Below.refl _ _)
  go_enter Try.func17, Try.ntmps17
  go_upto_region 1 with fail
  change Code.wp _ _ _ _ (w.alloc (.cells #[.int .i64 kd, .int .i64 sp, .slice A1 fs.length c1, .slice A2 ts.length c2, .slice A3 ps.length c3, .slice A4 qs.length c4] 55))
  rw [← HW.out]
  go_wp2_with fail
  refine HF.out.mono ?_
  rintro e w1 ⟨rfl, hb1⟩
  have HB1 := Lib.hid (HBL.out.trans (hb1.mono HBL.out.size))
  have HBW1 := Lib.hid hb1
  have HR1 := Lib.hid (HR.out.below (hb1.mono hBW))
  have hz1 := hb1.size
  clear hb1 x0 x1 x2 x3 x4 x5 HF HFB2
  cases fb with
  | false =>
    have HV : Hid (rcB kd sp fs ts ps qs = true) := Lib.hid (by unfold rcB; rw [HFB.out]; rfl)
    go_wp2_with fail
    go_ret2
    exact ⟨⟨none, 0, 0, 12, rfl, fun _ => ⟨rfl, rfl⟩, fun h => by rw [HV.out] at h; cases h⟩, HB1.out⟩
  | true =>
    obtain ⟨hrk, hpl, hst⟩ := fm_parts HFB.out
    have HRK := Lib.hid hrk
    have hm := rk_mod hrk
    have HRB : Hid (rcB kd sp fs ts ps qs = tlB kd sp fs ts ps qs) := Lib.hid (by unfold rcB; rw [HFB.out]; rfl)
    clear hpl hst
    obtain ⟨x0, x1, x2, x3, x4, x5⟩ := HX.out w1 HBW1.out
    obtain ⟨V, HV0⟩ : ∃ V, Hid (V = (w1.alloc (.cells #[.int .u8 kd] 5)).alloc (.cells #[.slice (some ⟨w1.heap.size, 0, none⟩) 1 1, .bool false] 79)) := ⟨_, Lib.hid rfl⟩
    have HZV : Hid (V.heap.size = w1.heap.size + 2) := Lib.hid (by rw [HV0.out]; simp)
    have HQ0 : Hid (Wq V w1.heap.size (w1.heap.size + 1) [kd] false) := Lib.hid (by
      refine ⟨⟨some ⟨w1.heap.size, 0, none⟩, 1, ?_, ?_, ?_⟩, by omega⟩
      · rw [HV0.out]
        have h := heap_new (w1.alloc (.cells #[.int .u8 kd] 5)) (.cells #[.slice (some ⟨w1.heap.size, 0, none⟩) 1 1, .bool false] 79)
        rw [World.size_alloc] at h; exact h
      · rw [HV0.out]; exact (OwnY.lit w1 w1.heap.size [kd] (Nat.le_refl _) (by simp)).alloc _
      · intro g hg
        have h1 : w1.heap.size = g := by simpa [Value.ownBlock] using hg
        omega)
    have HBV : Hid (Below w1.heap.size w1 V) := Lib.hid (by rw [HV0.out]; exact ((Below.refl _ w1).alloc (Nat.le_refl _) _).alloc (by simp) _)
    have HRV : Hid (RdPl V w1.heap.size A1 A2 A3 A4 fs ts ps qs) := Lib.hid (rdPl_more (HR1.out.below (HBV.out.mono (by omega))) (by omega))
    have HBWV : Hid (Below W.heap.size W V) := Lib.hid (HBW1.out.trans (HBV.out.mono hz1))
    have hzw1 := HB1.out.size
    have hzWw := HZ.out
    go_upto_region 4 with fail
    change Code.wp _ _ _ _ ((w1.alloc (.cells #[.int .u8 kd] 5)).alloc (.cells #[.slice (some ⟨w1.heap.size, 0, none⟩) 1 1, .bool false] 79))
    rw [← HV0.out]
    clear x0 x1 x2 x3 x4 x5
    obtain ⟨x0, x1, x2, x3, x4, x5⟩ := HX.out V HBWV.out
    by_cases k1 : kd = 1
    · subst k1
      have HT : Hid (tlO 1 sp fs ts ps qs = plO fs ts ps qs ∧ tlB 1 sp fs ts ps qs = plB fs ts ps qs) := Lib.hid ⟨by unfold tlO; rw [if_pos rfl], by unfold tlB; rw [if_pos rfl]⟩
      have HPP := Lib.hid (planV_any (c1 := c1) (c2 := c2) (c3 := c3) (c4 := c4) HQ0.out (by simp) HRV.out)
      clear hrk hm
      go_wp2_with fail
      refine HPP.out.mono ?_
      rintro e w3 ⟨rfl, hq, hb3, _⟩
      have HQ := Lib.hid hq
      have HB3 : Hid (Below w.heap.size w w3) := Lib.hid (HB1.out.trans ((HBV.out.trans hb3).mono hzw1))
      clear hq hb3 HPP x0 x1 x2 x3 x4 x5
      obtain ⟨A9, c9, hrow, hown, _⟩ := HQ.out.row
      obtain ⟨y0, y1, _, _⟩ := row2 hrow
      have HO9 := Lib.hid (hown.less (base' := w.heap.size + 1) (by omega))
      cases hbad : plB fs ts ps qs with
      | true =>
        rw [hbad] at y1
        have HV : Hid (rcB 1 sp fs ts ps qs = true) := Lib.hid (by rw [HRB.out, HT.out.2, hbad])
        clear hbad hrow hown
        go_wp2_with fail
        go_ret2
        exact ⟨⟨none, 0, 0, 12, rfl, fun _ => ⟨rfl, rfl⟩, fun h => by rw [HV.out] at h; cases h⟩, HB3.out⟩
      | false =>
        rw [hbad] at y1
        have HV : Hid (rcB 1 sp fs ts ps qs = false) := Lib.hid (by rw [HRB.out, HT.out.2, hbad])
        have HRO : Hid (rcO 1 sp fs ts ps qs = [1] ++ plO fs ts ps qs) := Lib.hid (by unfold rcO; rw [HT.out.1]; rfl)
        clear hbad hrow hown
        go_wp2_with fail
        go_ret2
        exact ⟨⟨_, _, _, 0, rfl, fun h => (by rw [HV.out] at h; cases h), fun _ => ⟨rfl, by rw [HRO.out]; exact HO9.out⟩⟩, HB3.out⟩
    · have hk : (kd = 2 ∨ kd = 3 ∨ kd = 4 ∨ kd = 6) ∨ (kd = 5 ∨ kd = 7 ∨ kd = 8) := by have := rk_cases hrk; omega
      clear hm hrk
      rcases hk with hk | hk
      · have HT : Hid (tlO kd sp fs ts ps qs = enc 1 ++ outs [sp] ∧ tlB kd sp fs ts ps qs = bads [sp]) := by
          have ks : Sa.ofStepB kd = true := decide_eq_true hk
          exact Lib.hid ⟨by unfold tlO; rw [if_neg k1, if_pos ks], by unfold tlB; rw [if_neg k1, if_pos ks]⟩
        obtain ⟨zs, HZS⟩ : ∃ zs, Hid ([kd] ++ enc 1 ++ outs [sp] = zs) := ⟨_, Lib.hid rfl⟩
        have HRO : Hid (rcO kd sp fs ts ps qs = zs) := Lib.hid (by unfold rcO; rw [HT.out.1, ← HZS.out]; simp)
        obtain ⟨U, HU0⟩ : ∃ U, Hid (U = V.alloc (.cells #[.int .i64 sp] 3)) := ⟨_, Lib.hid rfl⟩
        have hzV := HZV.out
        have HO1 : Hid (Own U V.heap.size (.slice (some ⟨V.heap.size, 0, none⟩) 1 1) 1 [sp]) := Lib.hid (by rw [HU0.out]; exact Own.lit V V.heap.size [sp] (Nat.le_refl _) (by simp))
        have HPN : Hid (Calls Try.prog 44 #[.pointer (some ⟨w1.heap.size + 1, 0, none⟩), .slice (some ⟨V.heap.size, 0, none⟩) 1 1] U fun e w' => e = .returned (.tuple #[]) ∧ Wq w' w1.heap.size (w1.heap.size + 1) zs (bads [sp]) ∧ Below w1.heap.size U w') := Lib.hid (by
          have hQU : Wq U w1.heap.size (w1.heap.size + 1) [kd] false := by rw [HU0.out]; exact HQ0.out.alloc _
          have hno : ¬ OwnW U (w1.heap.size + 1) V.heap.size := by
            rw [HU0.out]; exact ownWq_new HQ0.out (Nat.le_refl _) (Below.heap_alloc V _ _ (by omega))
          have hrd := Rd.of_own HO1.out
          have hzU : U.heap.size = V.heap.size + 1 := by rw [HU0.out]; simp
          refine (intsK_any (B := U.heap.size) (l := [sp]) hQU (fun w' hk => ?_) (by omega) (by simp)).mono ?_
          · refine ⟨rfl, fun _ => ⟨V.heap.size, 0, rfl, by omega, fun j hj => ?_⟩⟩
            obtain ⟨b, off, e, _, hc⟩ := hrd.at_ hj
            injection e with e
            injection e with e1 e2
            subst e1 e2
            exact (hk.cell (p := ⟨V.heap.size, 0 + j, none⟩) (by show V.heap.size < U.heap.size; omega) (by show V.heap.size ≠ w1.heap.size + 1; omega) hno).trans hc
          · rintro e w' ⟨h1, h2, h3, _⟩; exact ⟨h1, by rw [← HZS.out]; exact h2, h3⟩)
        have HBU : Hid (Below w1.heap.size w1 U) := Lib.hid (by rw [HU0.out]; exact HBV.out.alloc HBV.out.size _)
        rw [HU0.out] at HPN
        clear k1 hzV
        rcases hk with rfl | rfl | rfl | rfl
        all_goals (
          go_wp2_with fail
          refine HPN.out.mono ?_
          rintro e w3 ⟨rfl, hq, hb3⟩
          have HQ := Lib.hid hq
          have HB3 : Hid (Below w.heap.size w w3) := Lib.hid (HB1.out.trans ((HBU.out.trans (by rw [HU0.out]; exact hb3)).mono hzw1))
          clear hq hb3 HPN x0 x1 x2 x3 x4 x5
          obtain ⟨A9, c9, hrow, hown, _⟩ := HQ.out.row
          obtain ⟨y0, y1, _, _⟩ := row2 hrow
          have HO9 := Lib.hid (hown.less (base' := w.heap.size + 1) (by omega))
          cases hbad : bads [sp] with
          | true =>
            rw [hbad] at y1
            have HV : Hid (rcB _ sp fs ts ps qs = true) := Lib.hid (by rw [HRB.out, HT.out.2, hbad])
            clear hbad hrow hown
            go_wp2_with fail
            go_ret2
            exact ⟨⟨none, 0, 0, 12, rfl, fun _ => ⟨rfl, rfl⟩, fun h => by rw [HV.out] at h; cases h⟩, HB3.out⟩
          | false =>
            rw [hbad] at y1
            have HV : Hid (rcB _ sp fs ts ps qs = false) := Lib.hid (by rw [HRB.out, HT.out.2, hbad])
            clear hbad hrow hown
            go_wp2_with fail
            go_ret2
            exact ⟨⟨_, _, _, 0, rfl, fun h => (by rw [HV.out] at h; cases h), fun _ => ⟨rfl, by rw [HRO.out]; exact HO9.out⟩⟩, HB3.out⟩)
      · have HT : Hid (tlO kd sp fs ts ps qs = [] ∧ tlB kd sp fs ts ps qs = false) := by
          have ks : ¬ Sa.ofStepB kd = true := by rw [Bool.not_eq_true]; exact decide_eq_false (by omega)
          exact Lib.hid ⟨by unfold tlO; rw [if_neg k1, if_neg ks], by unfold tlB; rw [if_neg k1, if_neg ks]⟩
        have HB3 : Hid (Below w.heap.size w V) := Lib.hid (HB1.out.trans (HBV.out.mono hzw1))
        obtain ⟨A9, c9, hrow, hown, _⟩ := HQ0.out.row
        obtain ⟨y0, y1, _, _⟩ := row2 hrow
        have HO9 := Lib.hid (hown.less (base' := w.heap.size + 1) (by omega))
        have HV : Hid (rcB kd sp fs ts ps qs = false) := Lib.hid (by rw [HRB.out, HT.out.2])
        have HRO : Hid (rcO kd sp fs ts ps qs = [kd]) := Lib.hid (by unfold rcO; rw [HT.out.1])
        clear hrow hown k1
        rcases hk with rfl | rfl | rfl
        all_goals (
          go_wp2_with fail
          go_ret2
          exact ⟨⟨_, _, _, 0, rfl, fun h => (by rw [HV.out] at h; cases h), fun _ => ⟨rfl, by rw [HRO.out]; exact HO9.out⟩⟩, HB3.out⟩)
end Go.Proofs.Ytolgmoaoheflcaa
