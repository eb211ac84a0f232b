/-
  CodePlans, over this translation.
-/
import Derived.Test.YtmfoammkcokcoaaPLb
namespace Go.Proofs.Ytmfoammkcokcoaa
open Go.RowKit
open ByteP CodeP
set_option linter.unusedVariables false
set_option maxRecDepth 10000
set_option maxHeartbeats 8000000 in
theorem law_plans {w : World} {n c c1 c2 c3 c4 : Nat} {A A1 A2 A3 A4 : Option Addr} {fs ts bs : List Int} {ps qs : List (Int × Int)}
    (r1 : Rd w w.heap.size A1 fs.length fs) (r2 : Rd w w.heap.size A2 ts.length ts) (r3 : RdP w w.heap.size A3 ps.length ps) (r4 : RdP w w.heap.size A4 qs.length qs)
    (hr : RdY w w.heap.size A n bs) (hb : Bytes bs) (hc : CapA A n c) (hn0 : n ≤ 9223372036854775807) :
    Calls Try.prog 6 #[.agg #[.slice A1 fs.length c1, .slice A2 ts.length c2, .slice A3 ps.length c3, .slice A4 qs.length c4], .slice A n c] w fun e w' => e = .returned (.bool true) ∧ Below w.heap.size w w' := by
  obtain ⟨pv, hpv⟩ : ∃ o, o = pcell (.slice A1 fs.length c1) (.slice A2 ts.length c2) (.slice A3 ps.length c3) (.slice A4 qs.length c4) := ⟨_, rfl⟩
  have HR := Lib.hid hr
  have HBY := Lib.hid hb
  have HC := Lib.hid hc
  have HLL := Lib.hid hr.len
  have R1 := Lib.hid r1
  have R2 := Lib.hid r2
  have R3 := Lib.hid r3
  have R4 := Lib.hid r4
  have HB0 : Hid (Below w.heap.size w (w.alloc (pcell (.slice A1 fs.length c1) (.slice A2 ts.length c2) (.slice A3 ps.length c3) (.slice A4 qs.length c4)))) := Lib.hid ((Below.refl _ w).alloc (Nat.le_refl _) _)
  clear hr hb hc r1 r2 r3 r4 hpv pv
  go_enter Try.func6, Try.ntmps6
  go_wp2_with fail
  refine (anchorE_any _).mono ?_
  rintro e w1 ⟨rfl, hb1⟩
  have HB1 : Hid (Below w.heap.size w w1) := Lib.hid (HB0.out.trans (hb1.mono (by simp)))
  have hk1 : w1.heap[w.heap.size]? = some (pcell (.slice A1 fs.length c1) (.slice A2 ts.length c2) (.slice A3 ps.length c3) (.slice A4 qs.length c4)) := (hb1.block w.heap.size (by simp)).trans (heap_alloc_new w _)
  obtain ⟨x0, x1, x2, x3, xf⟩ := pc_cells hk1
  have K1 := Lib.hid hk1
  have hz1 : w.heap.size < w1.heap.size := heapE_lt hk1
  clear hb1 hk1 xf
  by_cases h1 : 50 < fs.length
  · have d1 : decide ((50 : Int) < (fs.length : Int)) = true := by simp; omega
    go_wp2
    go_ret
    exact ⟨rfl, HB1.out⟩
  have d1 : decide ((50 : Int) < (fs.length : Int)) = false := by simp; omega
  by_cases h2 : 50 < ts.length
  · have d2 : decide ((50 : Int) < (ts.length : Int)) = true := by simp; omega
    go_wp2
    go_ret
    exact ⟨rfl, HB1.out⟩
  have d2 : decide ((50 : Int) < (ts.length : Int)) = false := by simp; omega
  by_cases h3 : 100 < ps.length
  · have d3 : decide ((100 : Int) < (ps.length : Int)) = true := by simp; omega
    go_wp2
    go_ret
    exact ⟨rfl, HB1.out⟩
  have d3 : decide ((100 : Int) < (ps.length : Int)) = false := by simp; omega
  by_cases h4 : 200 < qs.length
  · have d4 : decide ((200 : Int) < (qs.length : Int)) = true := by simp; omega
    go_wp2
    go_ret
    exact ⟨rfl, HB1.out⟩
  have d4 : decide ((200 : Int) < (qs.length : Int)) = false := by simp; omega
  by_cases h5 : 1000 < n
  · have d5 : decide ((1000 : Int) < (n : Int)) = true := by simp; omega
    go_wp2
    go_ret
    exact ⟨rfl, HB1.out⟩
  have d5 : decide ((1000 : Int) < (n : Int)) = false := by simp; omega
  go_wp2_with fail
  go_loopw [7, 59] (fun _ v wr => ∃ (j : Nat) (ll : List (Int × Int)) (AL : Option Addr) (cl : Nat), j ≤ ps.length ∧ v = .int .i64 (j : Int) ∧ Hid (ll = ps.take j) ∧ Hid (ll.length = j) ∧ Hid (OwnZ 75 wr (w1.heap.size + 1) (.slice AL ll.length cl) ll) ∧ Hid (Below w1.heap.size w1 wr) ∧ Hid (wr.heap[w1.heap.size]? = some (.cells #[.slice A1 fs.length c1, .slice A2 ts.length c2, .slice AL ll.length cl, .slice A4 qs.length c4] 72 (0, 0)))) (fun _ v _ => ps.length - (intOf v).toNat)
  case atStart => exact ⟨0, [], none, 0, Nat.zero_le _, rfl, Lib.hid rfl, Lib.hid rfl, Lib.hid (OwnZ.nil_ _ _ _), Lib.hid ((Below.refl _ w1).alloc (Nat.le_refl _) _), Lib.hid (heap_new w1 _)⟩
  case round =>
    obtain ⟨j, ll, AL, cl, hj, rfl, HLT, HLN, HO, HB, HP⟩ := hrel
    have hk2 : wr.heap[w.heap.size]? = _ := (HB.out.block w.heap.size hz1).trans K1.out
    obtain ⟨y0, y1, y2, y3, yf⟩ := pc_cells hk2
    obtain ⟨z0, z1, z2, z3, zf⟩ := rc_cells HP.out
    have zf2 := zf 2
    have hwl := heapE_lt HP.out
    clear hk2 yf zf x0 x1 x2 x3
    by_cases hjn : j < ps.length
    · have hd : decide ((j : Int) < (ps.length : Int)) = true := by simp; omega
      have hi : (j : Int) < (ps.length : Int) := by omega
      have hadd : IntKind.i64.wrap ((j : Int) + 1) = ((j + 1 : Nat) : Int) := by rw [IntWalk.i64_in _ (by omega)]; omega
      obtain ⟨b1, o1, rfl, _, hcx, hcy⟩ := (R3.out.below (HB1.out.trans (HB.out.mono (by omega)))).at_ hjn
      obtain ⟨x, HX⟩ : ∃ x, Hid (px ps j = x) := ⟨_, Lib.hid rfl⟩
      obtain ⟨y, HY⟩ : ∃ y, Hid (py ps j = y) := ⟨_, Lib.hid rfl⟩
      rw [HX.out] at hcx
      rw [HY.out] at hcy
      obtain ⟨wz, HWZ⟩ : ∃ wz, Hid (wz = wr.alloc (.cells #[.int .i64 x, .int .i64 y] 74)) := ⟨_, Lib.hid rfl⟩
      have hzs : wz.heap.size = wr.heap.size + 1 := by rw [HWZ.out]; simp
      have hzz := heap_new wr (.cells #[.int .i64 x, .int .i64 y] 74)
      rw [← HWZ.out] at hzz
      obtain ⟨u0, u1, _, _⟩ := row2 hzz
      have k2 : wz.heap[w1.heap.size]? = some (.cells #[.slice A1 fs.length c1, .slice A2 ts.length c2, .slice AL ll.length cl, .slice A4 qs.length c4] 72 (0, 0)) := by rw [HWZ.out]; exact (Below.heap_alloc wr _ w1.heap.size hwl).trans HP.out
      obtain ⟨q0, q1, q2, q3, qf⟩ := rc_cells k2
      have K2 := Lib.hid k2
      have HOZ : Hid (OwnZ 75 wz (w1.heap.size + 1) (.slice AL ll.length cl) ll) := Lib.hid (by rw [HWZ.out]; exact HO.out.alloc _)
      have HBZ : Hid (Below w1.heap.size w1 wz) := Lib.hid (by rw [HWZ.out]; exact HB.out.alloc (by omega) _)
      obtain ⟨d0, d1', _, _⟩ := row2 (heap_new wz (.cells #[.int .i64 x, .int .i64 y] 75))
      have HD0 := Lib.hid d0
      have HD1 := Lib.hid d1'
      have hwlz : w1.heap.size < wz.heap.size := by omega
      have ql2 : (wz.alloc (.cells #[.int .i64 x, .int .i64 y] 75)).cell? ⟨w1.heap.size, 2, none⟩ = some (.slice AL ll.length cl) := (World.cell?_alloc_lt wz _ ⟨w1.heap.size, 2, none⟩ hwlz).trans q2
      clear d0 d1' k2 hzz qf hzs
      go_upto_region 9 with fail
      rw [← HWZ.out]
      go_wp2_with (at_builtin; refine wpl_appZ rfl (.tmp 64) (.tmp 66) rfl (w1.heap.size + 1) (.slice AL ll.length cl) ll rfl (HOZ.out.alloc _) wz.heap.size x y rfl HD0.out HD1.out (by have := HLN.out; omega) (by simp; omega) ?_; intro ga ca w3 hown3 hgr3; (have e2 : w3.heap[w1.heap.size]? = _ := (hgr3.block w1.heap.size (by simp; omega) (fun e => by have := HOZ.out.ge _ e.symm; omega)).trans ((Below.heap_alloc wz _ w1.heap.size hwlz).trans K2.out)); (have HB3 : Hid (Below w1.heap.size w1 w3) := Lib.hid ((HBZ.out.alloc (by omega) _).grown hgr3 (by simp; omega) (fun g hg => by have := HOZ.out.ge g hg; omega))); (have E2 := Lib.hid e2); (have HO3 := Lib.hid hown3); (obtain ⟨v0, v1, v2, v3, vf⟩ := rc_cells e2); (have vff := vf 2); clear hown3 hgr3 e2 vf)
      all_goals (have HPN : Hid ((w3.setCell ⟨w1.heap.size, 2, none⟩ (.slice (some ⟨ga, 0, none⟩) (ll.length + 1) ca)).heap[w1.heap.size]? = some (.cells #[.slice A1 fs.length c1, .slice A2 ts.length c2, .slice (some ⟨ga, 0, none⟩) (ll.length + 1) ca, .slice A4 qs.length c4] 72 (0, 0))) := Lib.hid (heap_setCell_same w3 w1.heap.size 2 _ _ _ E2.out); have HON : Hid (OwnZ 75 (w3.setCell ⟨w1.heap.size, 2, none⟩ (.slice (some ⟨ga, 0, none⟩) (ll.length + 1) ca)) (w1.heap.size + 1) (.slice (some ⟨ga, 0, none⟩) (ll.length + 1) ca) (ll ++ [(x, y)])) := Lib.hid (HO3.out.ff (grown_set w3 w1.heap.size 2 _) (fun g hg => by injection hg with hg; omega)); have HBN := Lib.hid (HB3.out.setCell (p := ⟨w1.heap.size, 2, none⟩) (Nat.le_refl _) (.slice (some ⟨ga, 0, none⟩) (ll.length + 1) ca)))
      all_goals (clear z0 z1 z2 z3 zf2 q0 q1 q2 q3 ql2 u0 u1 y0 y1 y2 y3 v0 v1 v2 v3 vff)
      go_roundw
      all_goals (first | (case rel => exact ⟨j + 1, ll ++ [(x, y)], some ⟨ga, 0, none⟩, ca, by omega, rfl, Lib.hid (by rw [take_px ps j hjn, HX.out, HY.out, HLT.out]), Lib.hid (by rw [List.length_append, HLN.out]; rfl), by rw [List.length_append]; exact HON, HBN, by rw [List.length_append]; exact HPN⟩) | (case measure => simp [intOf]; omega))
    · have hd : decide ((j : Int) < (ps.length : Int)) = false := by simp; omega
      obtain rfl : j = ps.length := by omega
      have hll : ll = ps := by rw [HLT.out]; exact List.take_of_length_le (Nat.le_refl _)
      subst hll
      have HBW : Hid (Below w.heap.size w wr) := Lib.hid (HB1.out.trans (HB.out.mono (by omega)))
      have hzr := HBW.out.size
      obtain ⟨_, hrz⟩ := OwnZ.rd HO.out
      have HRD : Hid (RdPl wr wr.heap.size A1 A2 A3 A4 fs ts ll qs) := Lib.hid ⟨(R1.out.below HBW.out).more hzr, (R2.out.below HBW.out).more hzr, (R3.out.below HBW.out).more hzr, (R4.out.below HBW.out).more hzr, by omega, by omega, by omega, by omega⟩
      have HRL : Hid (RdPl wr wr.heap.size A1 A2 AL A4 fs ts ll qs) := Lib.hid ⟨(R1.out.below HBW.out).more hzr, (R2.out.below HBW.out).more hzr, hrz, (R4.out.below HBW.out).more hzr, by omega, by omega, by omega, by omega⟩
      have HR0 : Hid (RdPl w w.heap.size A1 A2 A3 A4 fs ts ll qs) := Lib.hid ⟨R1.out, R2.out, R3.out, R4.out, by omega, by omega, by omega, by omega⟩
      have HBA := Lib.hid ((Below.refl wr.heap.size wr).alloc (Nat.le_refl _) (.cells #[.slice none 0 0, .bool false] 34))
      have HPW := Lib.hid (planW_any (c1 := c1) (c2 := c2) (c3 := cl) (c4 := c4) (Wr.new (T := 34) wr) (HRL.out.below HBA.out))
      clear hrz HRL
      go_wp2_with fail
      refine HPW.out.mono ?_
      rintro e w2 ⟨rfl, hw2, hb2, _⟩
      have HW2 := Lib.hid hw2
      have HB2 : Hid (Below wr.heap.size wr w2) := Lib.hid (HBA.out.trans hb2)
      have hz2 := HB2.out.size
      have HBW2 : Hid (Below w.heap.size w w2) := Lib.hid (HBW.out.trans (HB2.out.mono hzr))
      have hp2 : w2.heap[w.heap.size]? = _ := (HB2.out.block w.heap.size (by omega)).trans ((HB.out.block w.heap.size hz1).trans K1.out)
      have KP2 := Lib.hid hp2
      obtain ⟨p0, p1, p2, p3, _⟩ := pc_cells hp2
      clear hw2 hb2 hp2 HPW HBA y0 y1 y2 y3 z0 z1 z2 z3 zf2
      have HPP := Lib.hid (putPlan_any (c1 := c1) (c2 := c2) (c3 := c3) (c4 := c4) (HR0.out.below HBW2.out) HBW2.out.size)
      go_wp2_with fail
      refine HPP.out.mono ?_
      rintro e w3 ⟨⟨A5, n5, c5, e5, rfl, hend⟩, hb3⟩
      have HEND := Lib.hid hend
      have HB3 := Lib.hid hb3
      have HW3 := Lib.hid (HW2.out.kept hb3)
      have HBW3 : Hid (Below w.heap.size w w3) := Lib.hid (HBW2.out.trans (hb3.mono HBW2.out.size))
      have hp3 : w3.heap[w.heap.size]? = _ := (hb3.block w.heap.size (heapE_lt KP2.out)).trans KP2.out
      have KP3 := Lib.hid hp3
      obtain ⟨s0, s1, s2, s3, _⟩ := pc_cells hp3
      obtain ⟨AW, cW, hrow, hownW⟩ := HW3.out.row
      obtain ⟨hx0, hx1, _, _⟩ := row2 hrow
      have KW3 := Lib.hid hrow
      have HOW := Lib.hid hownW
      clear hrow hownW hend hb3 hp3 HPP p0 p1 p2 p3
      cases hbad : plB fs ts ll qs with
      | true =>
        rw [hbad] at hx1
        have he := HEND.out
        rw [hbad] at he
        obtain ⟨e4, rfl⟩ := he.1 rfl
        injection e4 with e5 e6 e7
        subst e5 e6 e7
        clear he hbad
        go_wp2
        go_ret
        exact ⟨rfl, HBW3.out⟩
      | false =>
        rw [hbad] at hx1
        have he := HEND.out
        rw [hbad] at he
        obtain ⟨rfl, hown⟩ := he.2 rfl
        obtain ⟨zs, HZS⟩ : ∃ zs, Hid (plO fs ts ll qs = zs) := ⟨_, Lib.hid rfl⟩
        have HZB : Hid (Bytes zs) := Lib.hid (by rw [← HZS.out]; exact plO_bytes hbad)
        have hzl : zs.length ≤ 1000000000 := by rw [← HZS.out]; exact plO_len _ _ _ _ HR0.out.l1 HR0.out.l2 HR0.out.l3 HR0.out.l4
        rw [HZS.out] at hown hx0 HOW KW3
        obtain ⟨A5', c5', e4, _⟩ := OwnY.shape hown
        injection e4 with e5 e6 e7
        subst e5 e6 e7
        have HO5 := Lib.hid hown
        have HBAD := Lib.hid hbad
        have HGP := Lib.hid (getPlan_any (rdY_own HO5.out) (capA_own HO5.out) (Nat.le_refl _) HZB.out hzl)
        clear he hbad hown HEND
        go_wp2_with fail
        refine HGP.out.mono ?_
        rintro e w4 ⟨B1, n1, d1, B2, n2, d2, B3, n3, d3, B4, n4, d4, rfl, hb4, _, hl4⟩
        have hbk := rdPl_back (w := w4) (base := w3.heap.size) (n1 := n1) (n2 := n2) (n3 := n3) (n4 := n4) (d1 := d1) (d2 := d2) (d3 := d3) (d4 := d4) (B1 := B1) (B2 := B2) (B3 := B3) (B4 := B4) HBAD.out HR0.out.l1 HR0.out.l2 HR0.out.l3 HR0.out.l4
        rw [HZS.out] at hbk
        obtain ⟨hE0, hbk⟩ := hbk
        rw [hE0]
        obtain ⟨i1, i2, i3, i4⟩ := hl4 hE0
        obtain ⟨rfl, rfl, rfl, rfl, hrd4⟩ := hbk i1 i2 i3 i4
        have HRD4 := Lib.hid hrd4
        have HB4 := Lib.hid hb4
        have HBA4 := Lib.hid ((Below.refl w4.heap.size w4).alloc (Nat.le_refl _) (pcell (.slice B1 fs.length d1) (.slice B2 ts.length d2) (.slice B3 ll.length d3) (.slice B4 qs.length d4)))
        have HPQ := Lib.hid (putPlan_any (c1 := d1) (c2 := d2) (c3 := d3) (c4 := d4) (HRD4.out.below HBA4.out) (by simp))
        clear hrd4 hb4 hl4 hbk hE0 i1 i2 i3 i4 HGP s0 s1 s2 s3 hx0 hx1
        go_wp2_with fail
        refine HPQ.out.mono ?_
        rintro e w5 ⟨⟨A6, n6, c6, e6, rfl, hend⟩, hb5⟩
        rw [HZS.out, HBAD.out] at hend
        obtain ⟨rfl, hown6⟩ := hend.2 rfl
        obtain ⟨A6', c6', e4, _⟩ := OwnY.shape hown6
        injection e4 with e5 e6 e7
        subst e5 e6 e7
        have HO6 := Lib.hid hown6
        have HB45 : Hid (Below w4.heap.size w4 w5) := Lib.hid (HBA4.out.trans (hb5.mono (by simp)))
        have HB35 : Hid (Below w3.heap.size w3 w5) := Lib.hid (HB4.out.trans (HB45.out.mono HB4.out.size))
        have HBW5 : Hid (Below w.heap.size w w5) := Lib.hid (HBW3.out.trans (HB35.out.mono HBW3.out.size))
        have KP5 : Hid (w5.heap[w.heap.size]? = _) := Lib.hid ((HB35.out.block w.heap.size (heapE_lt KP3.out)).trans KP3.out)
        have KQ5 : Hid (w5.heap[w4.heap.size]? = _) := Lib.hid ((hb5.block w4.heap.size (by simp)).trans (heap_new w4 _))
        have KW5 : Hid (w5.heap[wr.heap.size]? = _) := Lib.hid ((HB35.out.block wr.heap.size (heapE_lt KW3.out)).trans KW3.out)
        have HO55 := Lib.hid (HO5.out.kept HB35.out)
        have HOW5 := Lib.hid (HOW.out.kept HB35.out)
        have HS1 := Lib.hid (sameY_any (c := c5) (d := cW) (rdY_own HO55.out) (rdY_own HOW5.out) (by omega) (by omega))
        obtain ⟨hx0, hx1, _, _⟩ := row2 KW5.out
        clear hown6 hend hb5 HPQ
        go_wp2_with fail
        refine HS1.out.mono ?_
        rintro e w6 ⟨rfl, q, hw6⟩
        rw [sameY_refl]
        have HD6 : Hid (Below w5.heap.size w5 w6) := Lib.hid (by rw [hw6]; exact ⟨rfl, rfl, rfl, Nat.le_refl _, fun _ _ => rfl⟩)
        have HS2 := Lib.hid (sameY_any (c := c6) (d := c5) (rdY_own (HO6.out.kept HD6.out)) (rdY_own (HO55.out.kept HD6.out)) (by omega) (by omega))
        clear hw6 HS1 hx0 hx1
        go_wp2_with fail
        refine HS2.out.mono ?_
        rintro e w7 ⟨rfl, q2, hw7⟩
        rw [sameY_refl]
        have HD7 : Hid (Below w5.heap.size w5 w7) := Lib.hid (HD6.out.trans (by rw [hw7]; exact ⟨rfl, rfl, rfl, Nat.le_refl _, fun _ _ => rfl⟩))
        have HBW7 : Hid (Below w.heap.size w w7) := Lib.hid (HBW5.out.trans (HD7.out.mono HBW5.out.size))
        obtain ⟨s0, s1, s2, s3, _⟩ := pc_cells ((HD7.out.block w.heap.size (heapE_lt KP5.out)).trans KP5.out)
        obtain ⟨t0, t1, t2, t3, _⟩ := pc_cells ((HD7.out.block w4.heap.size (heapE_lt KQ5.out)).trans KQ5.out)
        have hz7 := HBW7.out.size
        have hbl : bs.length ≤ 1000 := by have := HLL.out; omega
        have HG8 := Lib.hid (getPlan_any (HR.out.below HBW7.out) HC.out hz7 HBY.out (by omega))
        clear hw7 HS2
        go_wp2_with fail
        refine HG8.out.mono ?_
        rintro e w8 ⟨F1, m1, g1, F2, m2, g2, F3, m3, g3, F4, m4, g4, rfl, hb8, hz8, hl8⟩
        obtain ⟨h, HH⟩ : ∃ h, Hid (endS (plS4 (.inr bs)) = h) := ⟨_, Lib.hid rfl⟩
        rw [HH.out] at hz8 hl8 ⊢
        have HBW8 : Hid (Below w.heap.size w w8) := Lib.hid (HBW7.out.trans (hb8.mono hz7))
        have HZ8 := Lib.hid hz8
        have HL8 := Lib.hid hl8
        have hzw8 := HBW8.out.size
        clear hb8 hz8 hl8 s0 s1 s2 s3 t0 t1 t2 t3
        obtain ⟨X, HX⟩ : ∃ X, Hid (X = (w8.alloc (pcell (.slice F1 m1 g1) (.slice F2 m2 g2) (.slice F3 m3 g3) (.slice F4 m4 g4))).alloc (.cells #[.slice A n c, .int .i64 0, .int .i64 0] 46)) := ⟨_, Lib.hid rfl⟩
        have hXs : X.heap.size = w8.heap.size + 2 := by rw [HX.out]; simp
        have HBX : Hid (Below w8.heap.size w8 X) := Lib.hid (by rw [HX.out]; exact ((Below.refl _ w8).alloc (Nat.le_refl _) _).alloc (by simp) _)
        have HBWX : Hid (Below w.heap.size w X) := Lib.hid (HBW8.out.trans (HBX.out.mono hzw8))
        have KX : Hid (X.heap[w8.heap.size]? = some (pcell (.slice F1 m1 g1) (.slice F2 m2 g2) (.slice F3 m3 g3) (.slice F4 m4 g4))) := Lib.hid (by rw [HX.out, Below.heap_alloc _ _ _ (by simp)]; exact heap_new w8 _)
        have HRF : Hid (StQ X (w8.heap.size + 1) w.heap.size bs (.inr bs)) := Lib.hid (by
          refine ⟨0, ⟨⟨A, c, ?_, ?_⟩, Nat.zero_le _, by omega⟩, List.drop_zero⟩
          · rw [HX.out, HLL.out]
            have h := heap_alloc_new (w8.alloc (pcell (.slice F1 m1 g1) (.slice F2 m2 g2) (.slice F3 m3 g3) (.slice F4 m4 g4))) (.cells #[.slice A n c, .int .i64 0, .int .i64 0] 46)
            rw [World.size_alloc] at h; exact h
          · rw [HLL.out]; exact HR.out.below HBWX.out)
        have HPR := Lib.hid (planR_any HRF.out (by omega) HBY.out (by omega))
        rw [HX.out] at HPR
        go_wp2_with fail
        refine HPR.out.mono ?_
        rintro e w9 ⟨⟨v9, rfl⟩, hst, hg9⟩
        rw [← HX.out] at hg9
        have HEQ := Lib.hid (endQ_any hst (by omega))
        rw [HH.out] at HEQ
        have HG9 := Lib.hid hg9
        clear hst hg9 HPR
        go_wp2_with fail
        refine HEQ.out.mono ?_
        rintro e w10 ⟨rfl, hg10, hcE⟩
        have hgx : X.grownBy w10 (some (w8.heap.size + 1)) := grown_add HG9.out hg10
        have HBX10 : Hid (Below w8.heap.size w8 w10) := Lib.hid (HBX.out.grown hgx (by omega) (fun g hg => by injection hg with hg; omega))
        have HBW10 : Hid (Below w.heap.size w w10) := Lib.hid (HBW8.out.trans (HBX10.out.mono hzw8))
        have hk10 : w10.heap[w8.heap.size]? = _ := (hgx.block w8.heap.size (by omega) (fun e => by injection e with e; omega)).trans KX.out
        obtain ⟨t0, t1, t2, t3, _⟩ := pc_cells hk10
        clear hgx hg10 hk10 HEQ hXs
        by_cases h0 : h = 0
        · subst h0
          obtain ⟨i1, i2, i3, i4⟩ := HL8.out rfl
          obtain ⟨fs', ts', ps', qs', rfl, rfl, rfl, rfl, hrd, hO, hB⟩ := rdPl_odd HBY.out hbl HH.out i1 i2 i3 i4
          have HP11 := Lib.hid (putPlan_any (c1 := g1) (c2 := g2) (c3 := g3) (c4 := g4) (hrd.below HBX10.out) HBX10.out.size)
          rw [hO, hB] at HP11
          clear i1 i2 i3 i4 hrd hO hB HL8 HZ8
          go_wp2_with fail
          refine HP11.out.mono ?_
          rintro e w11 ⟨⟨A7, n7, c7, e7, rfl, hend⟩, hb11⟩
          obtain ⟨rfl, hown7⟩ := hend.2 rfl
          obtain ⟨A7', c7', e4, _⟩ := OwnY.shape hown7
          injection e4 with e5 e6 e7
          subst e5 e6 e7
          have HO7 := Lib.hid hown7
          have HBW11 : Hid (Below w.heap.size w w11) := Lib.hid (HBW10.out.trans (hb11.mono HBW10.out.size))
          have HSO := Lib.hid (sameY_any (c := c7) (d := c) (rdY_own HO7.out) ((HR.out.below HBW11.out).more HBW11.out.size) (by omega) hn0)
          clear hown7 hend hb11 HP11
          go_wp2_with fail
          refine HSO.out.mono ?_
          rintro e w12 ⟨rfl, q3, rfl⟩
          rw [sameY_refl]
          go_wp2
          go_ret
          exact ⟨rfl, ⟨HBW11.out.os, HBW11.out.tape, HBW11.out.output, HBW11.out.size, HBW11.out.block⟩⟩
        · obtain ⟨rfl, rfl⟩ := HZ8.out h0
          have hne2 : (h != 0) = true := by simp [h0]
          have hself : (h == h) = true := by simp
          clear HL8 HZ8
          go_wp2
          go_ret
          exact ⟨rfl, HBW10.out⟩
end Go.Proofs.Ytmfoammkcokcoaa
