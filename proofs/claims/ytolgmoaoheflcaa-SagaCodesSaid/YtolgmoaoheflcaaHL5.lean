/-
  SagaCodes, over this translation (printed by genhl5.py).
-/
import Derived.Test.YtolgmoaoheflcaaHEq
import Derived.Test.YtolgmoaoheflcaaHDq
import Derived.Test.YtolgmoaoheflcaaHRc
namespace Go.Proofs.Ytolgmoaoheflcaa
open Go.RowKit
open ByteP CodeP
set_option linter.unusedVariables false
set_option linter.unusedSimpArgs false
set_option maxRecDepth 10000
set_option maxHeartbeats 16000000 in
theorem law_codes {w : World} {kd sp : Int} {AF AT AS AE A : Option Addr} {nF nT nS nE cF cT cS cE n c : Nat} {p : Sa.PlV} {bs : List Int} (hi : RcI w w.heap.size kd sp AF nF AT nT AS nS AE nE p)
    (hr : RdY w w.heap.size A n bs) (hb : Bytes bs) (hc : CapA A n c) (hn0 : n ≤ 9223372036854775807) :
    Calls Try.prog 4 #[.agg #[.int .i64 kd, .int .i64 sp, .slice AF nF cF, .slice AT nT cT, .slice AS nS cS, .slice AE nE cE], .slice A n c] w fun e w' => e = .returned (.bool true) ∧ Below w.heap.size w w' := by
  have HP := Lib.hid hi.pl
  have HR := Lib.hid hr
  have HBY := Lib.hid hb
  have HC := Lib.hid hc
  have HLL := Lib.hid hr.len
  obtain ⟨V, HV⟩ : ∃ V, Hid (V = w.alloc (.cells #[.int .i64 kd, .int .i64 sp, .slice AF nF cF, .slice AT nT cT, .slice AS nS cS, .slice AE nE cE] 33)) := ⟨_, Lib.hid rfl⟩
  have HBV : Hid (Below w.heap.size w V) := Lib.hid (by rw [HV.out]; exact (Below.refl _ w).alloc (Nat.le_refl _) _)
  have G0 : Hid (V.heap[w.heap.size]? = some (.cells #[.int .i64 kd, .int .i64 sp, .slice AF nF cF, .slice AT nT cT, .slice AS nS cS, .slice AE nE cE] 33 (0, 0))) := Lib.hid (by rw [HV.out]; exact heap_new w _)
  have HX : Hid (∀ Z, Below V.heap.size V Z → Z.cell? ⟨w.heap.size, 0, none⟩ = some (.int .i64 kd) ∧ Z.cell? ⟨w.heap.size, 1, none⟩ = some (.int .i64 sp) ∧ Z.cell? ⟨w.heap.size, 2, none⟩ = some (.slice AF nF cF) ∧ Z.cell? ⟨w.heap.size, 3, none⟩ = some (.slice AT nT cT) ∧ Z.cell? ⟨w.heap.size, 4, none⟩ = some (.slice AS nS cS) ∧ Z.cell? ⟨w.heap.size, 5, none⟩ = some (.slice AE nE cE)) := Lib.hid (fun Z hZ => Sa.row6 ((hZ.block w.heap.size (heapE_lt G0.out)).trans G0.out))
  have HAN := Lib.hid (Sa.anchor_any V)
  clear hi hr hb hc
  go_enter Try.func4, Try.ntmps4
  go_upto_region 1 with fail
  change Code.wp _ _ _ _ (w.alloc (.cells #[.int .i64 kd, .int .i64 sp, .slice AF nF cF, .slice AT nT cT, .slice AS nS cS, .slice AE nE cE] 33))
  rw [← HV.out]
  go_wp2_with fail
  refine HAN.out.mono ?_
  rintro e w1 ⟨rfl, hb1⟩
  have HW1 := Lib.hid hb1
  have HB1 : Hid (Below w.heap.size w w1) := Lib.hid (HBV.out.trans (hb1.mono HBV.out.size))
  clear hb1 HAN
  obtain ⟨x0, x1, x2, x3, x4, x5⟩ := HX.out w1 HW1.out
  have HMP := Lib.hid (Sa.madeP_any (cF := cF) (cT := cT) (cS := cS) (cE := cE) (HP.out.below HB1.out) HB1.out.size)
  go_wp2_with fail
  refine HMP.out.mono ?_
  rintro e w2 ⟨hb2, hor⟩
  have HW2 := Lib.hid (HW1.out.trans (hb2.mono HW1.out.size))
  have HB2 : Hid (Below w.heap.size w w2) := Lib.hid (HB1.out.trans (hb2.mono HB1.out.size))
  clear hb2 HMP x0 x1 x2 x3 x4 x5
  rcases hor with ⟨hsz, rfl⟩ | ⟨hsz, A', n', c', rfl, hown⟩
  · clear hsz
    go_wp2_with fail
    go_ret
    exact ⟨rfl, HB2.out.alloc HB2.out.size _⟩
  clear hown
  by_cases h5 : 1000 < n
  · have d5 : decide ((1000 : Int) < (n : Int)) = true := by simp; omega
    clear hsz
    go_wp2_with fail
    go_ret
    exact ⟨rfl, HB2.out.alloc HB2.out.size _⟩
  have d5 : decide ((1000 : Int) < (n : Int)) = false := by simp; omega
  have HSZ := Lib.hid hsz
  obtain ⟨Y, HY⟩ : ∃ Y, Hid (Y = w2.alloc (.cells #[.slice AF nF cF, .slice AT nT cT, .slice A' n' c', .slice AE nE cE] 47)) := ⟨_, Lib.hid rfl⟩
  have HWY : Hid (Below V.heap.size V Y) := Lib.hid (by rw [HY.out]; exact HW2.out.alloc HW2.out.size _)
  have HBY0 : Hid (Below w.heap.size w Y) := Lib.hid (HBV.out.trans (HWY.out.mono HBV.out.size))
  go_upto_region 6 with fail
  change Code.wp _ _ _ _ (w2.alloc (.cells #[.slice AF nF cF, .slice AT nT cT, .slice A' n' c', .slice AE nE cE] 47))
  rw [← HY.out]
  clear d5 hsz
  obtain ⟨l1, l2, l3, l4, hrd⟩ := plr_rdPl HP.out HSZ.out
  subst l1 l2 l3 l4
  obtain ⟨fs, hfs⟩ : ∃ fs, fs = p.fs := ⟨_, rfl⟩
  obtain ⟨ts, hts⟩ : ∃ ts, ts = p.ts := ⟨_, rfl⟩
  obtain ⟨ps, hps⟩ : ∃ ps, ps = p.S := ⟨_, rfl⟩
  obtain ⟨qs, hqs⟩ : ∃ qs, qs = p.E := ⟨_, rfl⟩
  obtain ⟨b1, b2, b3, b4⟩ := szB_is HSZ.out
  have HRM0 := Lib.hid (fun (Z : World) (hZ : Below w.heap.size w Z) => recordM_any (w := Z) (kd := kd) (sp := sp) (cF := cF) (cT := cT) (cS := cS) (cE := cE) (HP.out.below hZ) hZ.size HSZ.out)
  rw [← hfs, ← hts, ← hps, ← hqs] at hrd HRM0 HX
  rw [← hfs] at b1
  rw [← hts] at b2
  rw [← hps] at b3
  rw [← hqs] at b4
  rw [← hfs, ← hts, ← hps, ← hqs]
  have HRD := Lib.hid hrd
  have HLEN : Hid (fs.length ≤ 50 ∧ ts.length ≤ 50 ∧ ps.length ≤ 100 ∧ qs.length ≤ 200) := Lib.hid ⟨b1, b2, b3, b4⟩
  clear hrd b1 b2 b3 b4 hfs hts hps hqs
  obtain ⟨x0, x1, x2, x3, x4, x5⟩ := HX.out Y HWY.out
  have HE1 := Lib.hid (encode_any (c1 := cF) (c2 := cT) (c3 := cS) (c4 := cE) (kd := kd) (sp := sp) (HRD.out.below HBY0.out) HBY0.out.size)
  go_wp2_with fail
  refine HE1.out.mono ?_
  rintro e w3 ⟨⟨A1, n1, c1, er1, rfl, hend1⟩, hb3⟩
  have HEND1 := Lib.hid hend1
  have HW3 := Lib.hid (HWY.out.trans (hb3.mono HWY.out.size))
  have HB3 := Lib.hid (HBY0.out.trans (hb3.mono HBY0.out.size))
  clear hb3 hend1 HE1 x0 x1 x2 x3 x4 x5
  obtain ⟨x0, x1, x2, x3, x4, x5⟩ := HX.out w3 HW3.out
  have HRM := Lib.hid (HRM0.out w3 HB3.out)
  go_wp2_with fail
  refine HRM.out.mono ?_
  rintro e w4 ⟨hb4, A2, n2, c2, rfl, hown2⟩
  have hrd2 := Sa.OwnF.rdE hown2
  have hn2 := hrd2.1
  subst hn2
  have H34 := Lib.hid hb4
  have HW4 := Lib.hid (HW3.out.trans (hb4.mono HW3.out.size))
  have HB4 := Lib.hid (HB3.out.trans (hb4.mono HB3.out.size))
  have HRQ : Hid (RdPl w4 w4.heap.size AF AT A2 AE fs ts ps qs) := Lib.hid ⟨(HRD.out.r1.below HB4.out).more HB4.out.size, (HRD.out.r2.below HB4.out).more HB4.out.size, rdP_of_e hrd2, (HRD.out.r4.below HB4.out).more HB4.out.size, HRD.out.l1, HRD.out.l2, HRD.out.l3, HRD.out.l4⟩
  have HEQ := Lib.hid (encodeQ_any (c1 := cF) (c2 := cT) (c3 := c2) (c4 := cE) (kd := kd) (sp := sp) HRQ.out (Nat.le_refl _))
  clear hb4 hown2 hrd2 HRM x0 x1 x2 x3 x4 x5
  go_wp2_with fail
  refine HEQ.out.mono ?_
  rintro e w5 ⟨⟨A3, n3, c3, er3, rfl, hend3⟩, hb5⟩
  have HEND3 := Lib.hid hend3
  have H35 : Hid (Below w3.heap.size w3 w5) := Lib.hid (H34.out.trans (hb5.mono H34.out.size))
  have HW5 := Lib.hid (HW4.out.trans (hb5.mono HW4.out.size))
  have HB5 := Lib.hid (HB4.out.trans (hb5.mono HB4.out.size))
  clear hb5 hend3 HEQ
  cases hbad : rcB kd sp fs ts ps qs with
  | true =>
    have he1 := HEND1.out
    have he3 := HEND3.out
    rw [hbad] at he1 he3
    obtain ⟨v1, rfl⟩ := he1.1 rfl
    obtain ⟨v3, rfl⟩ := he3.1 rfl
    injection v1 with e1 e2 e3
    injection v3 with e4 e5 e6
    subst e1 e2 e3 e4 e5 e6
    have HS := Lib.hid (sameY_any (w := w5) (B := 0) (c := 0) (d := 0) (RdY.nil_ (A := none)) (RdY.nil_ (A := none)) (by omega) (by omega))
    clear he1 he3 hbad HEND1 HEND3
    go_wp2_with fail
    refine HS.out.mono ?_
    rintro e w6 ⟨rfl, q, hw6⟩
    rw [sameY_refl]
    have H56 : Hid (Below w5.heap.size w5 w6) := Lib.hid (by rw [hw6]; exact ⟨rfl, rfl, rfl, Nat.le_refl _, fun _ _ => rfl⟩)
    have HW6 := Lib.hid (HW5.out.trans (H56.out.mono HW5.out.size))
    have HB6 := Lib.hid (HB5.out.trans (H56.out.mono HB5.out.size))
    clear hw6 HS
    have hbl : n ≤ 10000 := by omega
    obtain ⟨ed, HED⟩ : ∃ ed, Hid (decE bs = ed) := ⟨_, Lib.hid rfl⟩
    have HDX := Lib.hid (decode_any (HR.out.below HB6.out) HC.out HB6.out.size HBY.out hbl)
    go_wp2_with fail
    refine HDX.out.mono ?_
    rintro e z1 ⟨k1, s1, B1', m1, g1, B2', m2, g2, B3', m3, g3, B4', m4, g4, ex, rfl, hbz1, hdx⟩
    have HDX1 := Lib.hid hdx
    obtain ⟨hx0, _, _⟩ := hdx
    rw [HED.out] at hx0
    replace hx0 := hx0.symm
    subst hx0
    have HBZ1 := Lib.hid (HB6.out.trans (hbz1.mono HB6.out.size))
    clear hbz1 HDX
    obtain ⟨Z1, HZ1⟩ : ∃ X, Hid (X = z1.alloc (.cells #[.int .i64 k1, .int .i64 s1, .slice B1' m1 g1, .slice B2' m2 g2, .slice B3' m3 g3, .slice B4' m4 g4] 33)) := ⟨_, Lib.hid rfl⟩
    have H11 : Hid (Below z1.heap.size z1 Z1) := Lib.hid (by rw [HZ1.out]; exact (Below.refl _ z1).alloc (Nat.le_refl _) _)
    have HK1 : Hid (Z1.heap[z1.heap.size]? = some (.cells #[.int .i64 k1, .int .i64 s1, .slice B1' m1 g1, .slice B2' m2 g2, .slice B3' m3 g3, .slice B4' m4 g4] 33 (0, 0))) := Lib.hid (by rw [HZ1.out]; exact heap_new z1 _)
    have HBZ1' := Lib.hid (HBZ1.out.trans (H11.out.mono HBZ1.out.size))
    have HDY := Lib.hid (decodeQ_any (HR.out.below HBZ1'.out) HC.out HBZ1'.out.size HBY.out hbl)
    go_upto_region 16 with fail
    change Code.wp _ _ _ _ (z1.alloc (.cells #[.int .i64 k1, .int .i64 s1, .slice B1' m1 g1, .slice B2' m2 g2, .slice B3' m3 g3, .slice B4' m4 g4] 33))
    rw [← HZ1.out]
    go_wp2_with fail
    refine HDY.out.mono ?_
    rintro e z2 ⟨k2, s2, C1, o1, f1, C2, o2, f2, C3, o3, f3, C4, o4, f4, ey, rfl, hbz2, hdy⟩
    obtain ⟨hy0, hy1⟩ := hdy
    rw [HED.out] at hy0
    replace hy0 := hy0.symm
    subst hy0
    have HY1 := Lib.hid hy1
    have H12 := Lib.hid (H11.out.trans (hbz2.mono H11.out.size))
    have HBZ2 := Lib.hid (HBZ1'.out.trans (hbz2.mono HBZ1'.out.size))
    have HK2 : Hid (z2.heap[z1.heap.size]? = _) := Lib.hid ((hbz2.block _ (heapE_lt HK1.out)).trans HK1.out)
    obtain ⟨Z2, HZ2⟩ : ∃ X, Hid (X = z2.alloc (.cells #[.int .i64 k2, .int .i64 s2, .slice C1 o1 f1, .slice C2 o2 f2, .slice C3 o3 f3, .slice C4 o4 f4] 55)) := ⟨_, Lib.hid rfl⟩
    have H22 : Hid (Below z2.heap.size z2 Z2) := Lib.hid (by rw [HZ2.out]; exact (Below.refl _ z2).alloc (Nat.le_refl _) _)
    have HL2 : Hid (Z2.heap[z2.heap.size]? = some (.cells #[.int .i64 k2, .int .i64 s2, .slice C1 o1 f1, .slice C2 o2 f2, .slice C3 o3 f3, .slice C4 o4 f4] 55 (0, 0))) := Lib.hid (by rw [HZ2.out]; exact heap_new z2 _)
    have HK2' : Hid (Z2.heap[z1.heap.size]? = some (.cells #[.int .i64 k1, .int .i64 s1, .slice B1' m1 g1, .slice B2' m2 g2, .slice B3' m3 g3, .slice B4' m4 g4] 33 (0, 0))) := Lib.hid ((H22.out.block _ (heapE_lt HK2.out)).trans HK2.out)
    have H12' := Lib.hid (H12.out.trans (H22.out.mono H12.out.size))
    have HBZ2' := Lib.hid (HBZ2.out.trans (H22.out.mono HBZ2.out.size))
    clear hbz2 hy1 HDY
    go_upto_region 17 with fail
    change Code.wp _ _ _ _ (z2.alloc (.cells #[.int .i64 k2, .int .i64 s2, .slice C1 o1 f1, .slice C2 o2 f2, .slice C3 o3 f3, .slice C4 o4 f4] 55))
    rw [← HZ2.out]
    obtain ⟨u0, u1, u2, u3, u4, u5⟩ := Sa.row6 HK2'.out
    by_cases h0 : ed = 0
    · subst h0
      obtain ⟨fx, tx, px', qx, rfl, rfl, rfl, rfl, hrx, hox, hbx, hsx⟩ := HDX1.out.2.2 rfl
      obtain ⟨hk2, hs2⟩ := HY1.out rfl
      have hk1 : k1 = bs.headD 0 := by rw [← hox]; rfl
      have hk12 : k2 = k1 := by rw [hk1, hk2]
      subst hk12
      have hs12 : s2 = s1 := by rw [hs2, hsx]
      subst hs12
      have HEX := Lib.hid (encode_any (c1 := g1) (c2 := g2) (c3 := g3) (c4 := g4) (kd := k2) (sp := s2) (hrx.below H12'.out) H12'.out.size)
      rw [hox, hbx] at HEX
      clear hrx hox hbx hsx hk1 hk2 hs2 HDX1 HY1
      go_wp2_with fail
      refine HEX.out.mono ?_
      rintro e z3 ⟨⟨A9', n9', c9', er9', rfl, hendx⟩, hbz3⟩
      obtain ⟨rfl, hox⟩ := hendx.2 rfl
      obtain ⟨_, _, vx, _⟩ := OwnY.shape hox
      injection vx with e1 e2 e3
      subst e2
      clear e1 e3
      have HBZ3 := Lib.hid (HBZ2'.out.trans (hbz3.mono HBZ2'.out.size))
      have HOX := Lib.hid hox
      have HK3 : Hid (z3.heap[z1.heap.size]? = _) := Lib.hid ((hbz3.block _ (heapE_lt HK2'.out)).trans HK2'.out)
      have HL3 : Hid (z3.heap[z2.heap.size]? = _) := Lib.hid ((hbz3.block _ (heapE_lt HL2.out)).trans HL2.out)
      have HSX := Lib.hid (sameY_any (c := c9') (d := c) (rdY_own HOX.out) ((HR.out.below HBZ3.out).more HBZ3.out.size) (by have := HLL.out; omega) hn0)
      clear hendx hox hbz3 HEX u0 u1 u2 u3 u4 u5
      go_wp2_with fail
      refine HSX.out.mono ?_
      rintro e z4 ⟨rfl, q4, hz4⟩
      rw [sameY_refl]
      have H34' : Hid (Below z3.heap.size z3 z4) := Lib.hid (by rw [hz4]; exact ⟨rfl, rfl, rfl, Nat.le_refl _, fun _ _ => rfl⟩)
      have HBZ4 := Lib.hid (HBZ3.out.trans (H34'.out.mono HBZ3.out.size))
      obtain ⟨u0, u1, u2, u3, u4, u5⟩ := Sa.row6 ((H34'.out.block _ (heapE_lt HK3.out)).trans HK3.out)
      obtain ⟨t0, t1, t2, t3, t4, t5⟩ := Sa.row6 ((H34'.out.block _ (heapE_lt HL3.out)).trans HL3.out)
      have hself3 : (k2 == k2) = true := by simp
      have hself4 : (s2 == s2) = true := by simp
      clear hz4 HSX
      go_wp2_with fail
      go_ret
      exact ⟨rfl, HBZ4.out⟩
    · obtain ⟨rfl, rfl, rfl⟩ := HDX1.out.2.1 h0
      have hself : (ed != ed) = false := by simp
      have hne : (ed != 0) = true := by rw [bne_iff_ne]; exact h0
      clear h0
      go_wp2_with fail
      go_ret
      exact ⟨rfl, HBZ2'.out⟩
  | false =>
    obtain ⟨D0, D1, D2, D3⟩ := dec_enc hbad HLEN.out.1 HLEN.out.2.1 HLEN.out.2.2.1 HLEN.out.2.2.2
    have hzk : rcO kd sp fs ts ps qs = kd :: tlO kd sp fs ts ps qs := rfl
    obtain ⟨zs, HZS⟩ : ∃ zs, Hid (rcO kd sp fs ts ps qs = zs) := ⟨_, Lib.hid rfl⟩
    have he1 := HEND1.out
    have he3 := HEND3.out
    rw [hbad, HZS.out] at he1 he3
    rw [HZS.out] at D0 D2 D3 hzk
    obtain ⟨rfl, ho1⟩ := he1.2 rfl
    obtain ⟨rfl, ho3⟩ := he3.2 rfl
    obtain ⟨_, _, v1, _⟩ := OwnY.shape ho1
    obtain ⟨_, _, v3, _⟩ := OwnY.shape ho3
    injection v1 with e1 e2 e3
    injection v3 with e4 e5 e6
    subst e2 e5
    clear e1 e3 e4 e6
    have HO1 := Lib.hid (ho1.kept H35.out)
    have HO3 := Lib.hid ho3
    have HD0 := Lib.hid D0
    have HD1 := Lib.hid D1
    have HD2 := Lib.hid D2
    have HD3 := Lib.hid D3
    have HZK := Lib.hid hzk
    have HS := Lib.hid (sameY_any (c := c1) (d := c3) (rdY_own HO1.out) (rdY_own HO3.out) (by omega) (by omega))
    clear he1 he3 hbad HEND1 HEND3 D0 D1 D2 D3 hzk ho1 ho3
    go_wp2_with fail
    refine HS.out.mono ?_
    rintro e w6 ⟨rfl, q, hw6⟩
    rw [sameY_refl]
    have H56 : Hid (Below w5.heap.size w5 w6) := Lib.hid (by rw [hw6]; exact ⟨rfl, rfl, rfl, Nat.le_refl _, fun _ _ => rfl⟩)
    have HW6 := Lib.hid (HW5.out.trans (H56.out.mono HW5.out.size))
    have HB6 := Lib.hid (HB5.out.trans (H56.out.mono HB5.out.size))
    have HO6 := Lib.hid (HO1.out.kept H56.out)
    have HDC := Lib.hid (decode_any (rdY_own HO6.out) (capA_own HO6.out) (Nat.le_refl _) HD2.out (by have := HD3.out; omega))
    clear hw6 HS
    go_wp2_with fail
    refine HDC.out.mono ?_
    rintro e w7 ⟨kq, sq, B1, m1, d1, B2, m2, d2, B3, m3, d3, B4, m4, d4, eq, rfl, hb7, hdp⟩
    obtain ⟨hq0, _, hq2⟩ := hdp
    rw [HD0.out] at hq0
    subst hq0
    obtain ⟨fq, tq, pq, qq, rfl, rfl, rfl, rfl, hrq, hoq, hbq, hsq⟩ := hq2 rfl
    have hkq : kq = kd := by
      have h1 : rcO kq sq fq tq pq qq = kq :: tlO kq sq fq tq pq qq := rfl
      have h2 := (h1.symm.trans hoq).trans HZK.out
      injection h2
    subst hkq
    have hsp : sq = sp := by
      rw [hsq, HZK.out]; exact HD1.out
    subst hsp
    have HW7 := Lib.hid (HW6.out.trans (hb7.mono HW6.out.size))
    have HB7 := Lib.hid (HB6.out.trans (hb7.mono HB6.out.size))
    have HO7 := Lib.hid (HO6.out.kept hb7)
    have HRQ7 := Lib.hid hrq
    have HOQ := Lib.hid hoq
    have HBQ := Lib.hid hbq
    clear hb7 hrq hoq hbq hsq hq2 HDC
    obtain ⟨X8, HX8⟩ : ∃ X, Hid (X = w7.alloc (.cells #[.int .i64 kq, .int .i64 sq, .slice B1 fq.length d1, .slice B2 tq.length d2, .slice B3 pq.length d3, .slice B4 qq.length d4] 33)) := ⟨_, Lib.hid rfl⟩
    have H78 : Hid (Below w7.heap.size w7 X8) := Lib.hid (by rw [HX8.out]; exact (Below.refl _ w7).alloc (Nat.le_refl _) _)
    have HQ8 : Hid (X8.heap[w7.heap.size]? = some (.cells #[.int .i64 kq, .int .i64 sq, .slice B1 fq.length d1, .slice B2 tq.length d2, .slice B3 pq.length d3, .slice B4 qq.length d4] 33 (0, 0))) := Lib.hid (by rw [HX8.out]; exact heap_new w7 _)
    have HW8 := Lib.hid (HW7.out.trans (H78.out.mono HW7.out.size))
    have HB8 := Lib.hid (HB7.out.trans (H78.out.mono HB7.out.size))
    have HO8 := Lib.hid (HO7.out.kept H78.out)
    have HE8 := Lib.hid (encode_any (c1 := d1) (c2 := d2) (c3 := d3) (c4 := d4) (kd := kq) (sp := sq) (HRQ7.out.below H78.out) H78.out.size)
    rw [HOQ.out, HBQ.out] at HE8
    go_upto_region 12 with fail
    change Code.wp _ _ _ _ (w7.alloc (.cells #[.int .i64 kq, .int .i64 sq, .slice B1 fq.length d1, .slice B2 tq.length d2, .slice B3 pq.length d3, .slice B4 qq.length d4] 33))
    rw [← HX8.out]
    obtain ⟨y0, y1, y2, y3, y4, y5⟩ := Sa.row6 HQ8.out
    go_wp2_with fail
    refine HE8.out.mono ?_
    rintro e w9 ⟨⟨A9, n9, c9, er9, rfl, hend9⟩, hb9⟩
    obtain ⟨rfl, ho9⟩ := hend9.2 rfl
    obtain ⟨_, _, v9, _⟩ := OwnY.shape ho9
    injection v9 with e1 e2 e3
    subst e2
    clear e1 e3
    have HW9 := Lib.hid (HW8.out.trans (hb9.mono HW8.out.size))
    have HB9 := Lib.hid (HB8.out.trans (hb9.mono HB8.out.size))
    have HO9 := Lib.hid ho9
    have HOO9 := Lib.hid (HO8.out.kept hb9)
    have HQ9 : Hid (w9.heap[w7.heap.size]? = _) := Lib.hid ((hb9.block _ (heapE_lt HQ8.out)).trans HQ8.out)
    have HS9 := Lib.hid (sameY_any (c := c9) (d := c1) (rdY_own HO9.out) (rdY_own HOO9.out) (by have := HD3.out; omega) (by have := HD3.out; omega))
    clear hend9 ho9 hb9 HE8 y0 y1 y2 y3 y4 y5
    go_wp2_with fail
    refine HS9.out.mono ?_
    rintro e w10 ⟨rfl, q10, hw10⟩
    rw [sameY_refl]
    have H910 : Hid (Below w9.heap.size w9 w10) := Lib.hid (by rw [hw10]; exact ⟨rfl, rfl, rfl, Nat.le_refl _, fun _ _ => rfl⟩)
    have HW10 := Lib.hid (HW9.out.trans (H910.out.mono HW9.out.size))
    have HB10 := Lib.hid (HB9.out.trans (H910.out.mono HB9.out.size))
    have HQ10 : Hid (w10.heap[w7.heap.size]? = some (.cells #[.int .i64 kq, .int .i64 sq, .slice B1 fq.length d1, .slice B2 tq.length d2, .slice B3 pq.length d3, .slice B4 qq.length d4] 33 (0, 0))) := Lib.hid ((H910.out.block _ (heapE_lt HQ9.out)).trans HQ9.out)
    obtain ⟨y0, y1, y2, y3, y4, y5⟩ := Sa.row6 HQ10.out
    obtain ⟨x0, x1, x2, x3, x4, x5⟩ := HX.out w10 HW10.out
    have hself1 : (kq != kq) = false := by simp
    have hself2 : (sq != sq) = false := by simp
    clear hw10 HS9
    have hbl : n ≤ 10000 := by omega
    obtain ⟨ed, HED⟩ : ∃ ed, Hid (decE bs = ed) := ⟨_, Lib.hid rfl⟩
    have HDX := Lib.hid (decode_any (HR.out.below HB10.out) HC.out HB10.out.size HBY.out hbl)
    go_wp2_with fail
    refine HDX.out.mono ?_
    rintro e z1 ⟨k1, s1, B1', m1, g1, B2', m2, g2, B3', m3, g3, B4', m4, g4, ex, rfl, hbz1, hdx⟩
    have HDX1 := Lib.hid hdx
    obtain ⟨hx0, _, _⟩ := hdx
    rw [HED.out] at hx0
    replace hx0 := hx0.symm
    subst hx0
    have HBZ1 := Lib.hid (HB10.out.trans (hbz1.mono HB10.out.size))
    clear hbz1 HDX x0 x1 x2 x3 x4 x5 y0 y1 y2 y3 y4 y5
    obtain ⟨Z1, HZ1⟩ : ∃ X, Hid (X = z1.alloc (.cells #[.int .i64 k1, .int .i64 s1, .slice B1' m1 g1, .slice B2' m2 g2, .slice B3' m3 g3, .slice B4' m4 g4] 33)) := ⟨_, Lib.hid rfl⟩
    have H11 : Hid (Below z1.heap.size z1 Z1) := Lib.hid (by rw [HZ1.out]; exact (Below.refl _ z1).alloc (Nat.le_refl _) _)
    have HK1 : Hid (Z1.heap[z1.heap.size]? = some (.cells #[.int .i64 k1, .int .i64 s1, .slice B1' m1 g1, .slice B2' m2 g2, .slice B3' m3 g3, .slice B4' m4 g4] 33 (0, 0))) := Lib.hid (by rw [HZ1.out]; exact heap_new z1 _)
    have HBZ1' := Lib.hid (HBZ1.out.trans (H11.out.mono HBZ1.out.size))
    have HDY := Lib.hid (decodeQ_any (HR.out.below HBZ1'.out) HC.out HBZ1'.out.size HBY.out hbl)
    go_upto_region 16 with fail
    change Code.wp _ _ _ _ (z1.alloc (.cells #[.int .i64 k1, .int .i64 s1, .slice B1' m1 g1, .slice B2' m2 g2, .slice B3' m3 g3, .slice B4' m4 g4] 33))
    rw [← HZ1.out]
    go_wp2_with fail
    refine HDY.out.mono ?_
    rintro e z2 ⟨k2, s2, C1, o1, f1, C2, o2, f2, C3, o3, f3, C4, o4, f4, ey, rfl, hbz2, hdy⟩
    obtain ⟨hy0, hy1⟩ := hdy
    rw [HED.out] at hy0
    replace hy0 := hy0.symm
    subst hy0
    have HY1 := Lib.hid hy1
    have H12 := Lib.hid (H11.out.trans (hbz2.mono H11.out.size))
    have HBZ2 := Lib.hid (HBZ1'.out.trans (hbz2.mono HBZ1'.out.size))
    have HK2 : Hid (z2.heap[z1.heap.size]? = _) := Lib.hid ((hbz2.block _ (heapE_lt HK1.out)).trans HK1.out)
    obtain ⟨Z2, HZ2⟩ : ∃ X, Hid (X = z2.alloc (.cells #[.int .i64 k2, .int .i64 s2, .slice C1 o1 f1, .slice C2 o2 f2, .slice C3 o3 f3, .slice C4 o4 f4] 55)) := ⟨_, Lib.hid rfl⟩
    have H22 : Hid (Below z2.heap.size z2 Z2) := Lib.hid (by rw [HZ2.out]; exact (Below.refl _ z2).alloc (Nat.le_refl _) _)
    have HL2 : Hid (Z2.heap[z2.heap.size]? = some (.cells #[.int .i64 k2, .int .i64 s2, .slice C1 o1 f1, .slice C2 o2 f2, .slice C3 o3 f3, .slice C4 o4 f4] 55 (0, 0))) := Lib.hid (by rw [HZ2.out]; exact heap_new z2 _)
    have HK2' : Hid (Z2.heap[z1.heap.size]? = some (.cells #[.int .i64 k1, .int .i64 s1, .slice B1' m1 g1, .slice B2' m2 g2, .slice B3' m3 g3, .slice B4' m4 g4] 33 (0, 0))) := Lib.hid ((H22.out.block _ (heapE_lt HK2.out)).trans HK2.out)
    have H12' := Lib.hid (H12.out.trans (H22.out.mono H12.out.size))
    have HBZ2' := Lib.hid (HBZ2.out.trans (H22.out.mono HBZ2.out.size))
    clear hbz2 hy1 HDY
    go_upto_region 17 with fail
    change Code.wp _ _ _ _ (z2.alloc (.cells #[.int .i64 k2, .int .i64 s2, .slice C1 o1 f1, .slice C2 o2 f2, .slice C3 o3 f3, .slice C4 o4 f4] 55))
    rw [← HZ2.out]
    obtain ⟨u0, u1, u2, u3, u4, u5⟩ := Sa.row6 HK2'.out
    by_cases h0 : ed = 0
    · subst h0
      obtain ⟨fx, tx, px', qx, rfl, rfl, rfl, rfl, hrx, hox, hbx, hsx⟩ := HDX1.out.2.2 rfl
      obtain ⟨hk2, hs2⟩ := HY1.out rfl
      have hk1 : k1 = bs.headD 0 := by rw [← hox]; rfl
      have hk12 : k2 = k1 := by rw [hk1, hk2]
      subst hk12
      have hs12 : s2 = s1 := by rw [hs2, hsx]
      subst hs12
      have HEX := Lib.hid (encode_any (c1 := g1) (c2 := g2) (c3 := g3) (c4 := g4) (kd := k2) (sp := s2) (hrx.below H12'.out) H12'.out.size)
      rw [hox, hbx] at HEX
      clear hrx hox hbx hsx hk1 hk2 hs2 HDX1 HY1
      go_wp2_with fail
      refine HEX.out.mono ?_
      rintro e z3 ⟨⟨A9', n9', c9', er9', rfl, hendx⟩, hbz3⟩
      obtain ⟨rfl, hox⟩ := hendx.2 rfl
      obtain ⟨_, _, vx, _⟩ := OwnY.shape hox
      injection vx with e1 e2 e3
      subst e2
      clear e1 e3
      have HBZ3 := Lib.hid (HBZ2'.out.trans (hbz3.mono HBZ2'.out.size))
      have HOX := Lib.hid hox
      have HK3 : Hid (z3.heap[z1.heap.size]? = _) := Lib.hid ((hbz3.block _ (heapE_lt HK2'.out)).trans HK2'.out)
      have HL3 : Hid (z3.heap[z2.heap.size]? = _) := Lib.hid ((hbz3.block _ (heapE_lt HL2.out)).trans HL2.out)
      have HSX := Lib.hid (sameY_any (c := c9') (d := c) (rdY_own HOX.out) ((HR.out.below HBZ3.out).more HBZ3.out.size) (by have := HLL.out; omega) hn0)
      clear hendx hox hbz3 HEX u0 u1 u2 u3 u4 u5
      go_wp2_with fail
      refine HSX.out.mono ?_
      rintro e z4 ⟨rfl, q4, hz4⟩
      rw [sameY_refl]
      have H34' : Hid (Below z3.heap.size z3 z4) := Lib.hid (by rw [hz4]; exact ⟨rfl, rfl, rfl, Nat.le_refl _, fun _ _ => rfl⟩)
      have HBZ4 := Lib.hid (HBZ3.out.trans (H34'.out.mono HBZ3.out.size))
      obtain ⟨u0, u1, u2, u3, u4, u5⟩ := Sa.row6 ((H34'.out.block _ (heapE_lt HK3.out)).trans HK3.out)
      obtain ⟨t0, t1, t2, t3, t4, t5⟩ := Sa.row6 ((H34'.out.block _ (heapE_lt HL3.out)).trans HL3.out)
      have hself3 : (k2 == k2) = true := by simp
      have hself4 : (s2 == s2) = true := by simp
      clear hz4 HSX
      go_wp2_with fail
      go_ret
      exact ⟨rfl, HBZ4.out⟩
    · obtain ⟨rfl, rfl, rfl⟩ := HDX1.out.2.1 h0
      have hself : (ed != ed) = false := by simp
      have hne : (ed != 0) = true := by rw [bne_iff_ne]; exact h0
      clear h0
      go_wp2_with fail
      go_ret
      exact ⟨rfl, HBZ2'.out⟩

end Go.Proofs.Ytolgmoaoheflcaa
