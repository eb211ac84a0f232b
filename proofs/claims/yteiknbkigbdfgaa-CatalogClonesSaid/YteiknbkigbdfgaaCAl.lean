/-
  CATALOGUES THAT ARE THE SAME: the law's alike.
-/
import Derived.Test.YteiknbkigbdfgaaCSh
namespace Go.Proofs.Yteiknbkigbdfgaa
open Go.RowKit
open SemP DiP
set_option linter.unusedVariables false
set_option linter.unusedSimpArgs false
set_option maxRecDepth 10000
theorem eqCompSame (w : World) (op a b c : Int) (s : ByteArray) : (Op.equalIn 10000 50 (.agg #[.int .i64 op, .int .i64 a, .int .i64 b, .int .i64 c, .string s]) (.agg #[.int .i64 op, .int .i64 a, .int .i64 b, .int .i64 c, .string s])).run Try.prog w = .ok true w := by
  rw [show (10000 : Nat) = 9998 + 1 + 1 from rfl]
  go_simp
theorem eqVerSame (w : World) (a b c : Int) (s : ByteArray) : (Op.equalIn 10000 39 (.agg #[.int .i64 a, .int .i64 b, .int .i64 c, .string s]) (.agg #[.int .i64 a, .int .i64 b, .int .i64 c, .string s])).run Try.prog w = .ok true w := by
  rw [show (10000 : Nat) = 9998 + 1 + 1 from rfl]
  go_simp
attribute [local go_sem ↓] eqCompSame eqVerSame
set_option maxHeartbeats 8000000 in
theorem ranged_yes {w : World} {B n c1 c2 : Nat} {A1 A2 : Option Addr} {r : List (List CV)} (h1 : RdR w B A1 n r) (h2 : RdR w B A2 n r) (hB : B ≤ w.heap.size) (hs : SmR r) :
    Calls Try.prog 33 #[.agg #[.slice A1 n c1], .agg #[.slice A2 n c2]] w fun e w' => e = .returned (.bool true) ∧ Below w.heap.size w w' := by
  obtain ⟨W, hW⟩ : ∃ W, W = (w.alloc (.cells #[.slice A1 n c1] 45)).alloc (.cells #[.slice A2 n c2] 45) := ⟨_, rfl⟩
  have hbl : Below w.heap.size w W := by rw [hW]; exact ((Below.refl _ w).alloc (Nat.le_refl _) _).alloc (by simp) _
  have hz : W.heap.size = w.heap.size + 2 := by rw [hW]; simp
  have h0 : W.heap[w.heap.size]? = some (.cells #[.slice A1 n c1] 45 (0, 0)) := by
    rw [hW, Below.heap_alloc _ _ _ (by simp)]; exact heap_new w _
  have h3 : W.heap[w.heap.size + 1]? = some (.cells #[.slice A2 n c2] 45 (0, 0)) := by
    rw [hW]
    have h := heap_new (w.alloc (.cells #[.slice A1 n c1] 45)) (.cells #[.slice A2 n c2] 45)
    rw [World.size_alloc] at h; exact h
  have HBL := Lib.hid hbl
  have H0 := Lib.hid h0
  have H3 := Lib.hid h3
  have HW := Lib.hid hW
  have HR1 : Hid (RdR W B A1 n r) := Lib.hid (h1.below (hbl.mono hB))
  have HR2 : Hid (RdR W B A2 n r) := Lib.hid (h2.below (hbl.mono hB))
  have HLN := Lib.hid h1.1
  have HS := Lib.hid hs
  have hn : n ≤ 12 := by have := h1.1; have := hs.1; omega
  clear hbl h0 h3 hW h1 h2 hs
  go_enter Try.func33, Try.ntmps33
  go_upto_region 1 with fail
  change Code.wp _ _ _ _ ((w.alloc (.cells #[.slice A1 n c1] 45)).alloc (.cells #[.slice A2 n c2] 45))
  rw [← HW.out]
  obtain ⟨a0, _⟩ := row1f H0.out
  obtain ⟨a3, _⟩ := row1f H3.out
  go_wp2_with fail
  go_loopw [5, 6, 7, 8, 19] (fun _ _ _ _ v wr => ∃ j : Nat, j ≤ n ∧ v = .int .i64 (j : Int) ∧ Hid (Below W.heap.size W wr)) (fun _ _ _ _ v _ => n - (intOf v).toNat)
  case atStart => exact ⟨0, Nat.zero_le _, rfl, Lib.hid (Below.refl _ _)⟩
  case round =>
    obtain ⟨wo, hwo⟩ : ∃ x, x = wr := ⟨_, rfl⟩
    subst hwo
    obtain ⟨j, hj, rfl, HB⟩ := hrel
    have hzo := HB.out.size
    clear a0 a3
    obtain ⟨a3, _⟩ := row1f ((HB.out.block (w.heap.size + 1) (by omega)).trans H3.out)
    by_cases hjn : j < n
    · have hd : decide ((j : Int) < (n : Int)) = true := by simp; omega
      have hi : (j : Int) < (n : Int) := by omega
      have hadd : IntKind.i64.wrap ((j : Int) + 1) = ((j + 1 : Nat) : Int) := by rw [IntWalk.i64_in _ (by omega)]; omega
      have hjl : j < r.length := by rw [HLN.out]; exact hjn
      have hsj := HS.out.2 _ (lsAt_mem hjl)
      obtain ⟨b1, o1, Aj, nj, cj, rfl, hb1, k0, k1⟩ := (HR1.out.below (HB.out.mono (by omega))).2 j hjn
      obtain ⟨b2, o2, Ak, nk, ck, rfl, hb2, k2, k3⟩ := (HR2.out.below (HB.out.mono (by omega))).2 j hjn
      obtain rfl : nj = nk := k1.1.symm.trans k3.1
      obtain ⟨x, HX⟩ : ∃ x, Hid (lsAt r j = x) := ⟨_, Lib.hid rfl⟩
      rw [HX.out] at k1 k3 hsj
      have hnj : nj ≤ 12 := by have h1 := k1.1; have h2 := hsj.1; omega
      have HC1 := Lib.hid k1
      have HC2 := Lib.hid k3
      have HK2 : Hid (∀ w', Below W.heap.size wo w' → w'.cell? ⟨b2, o2 + j, none⟩ = some (.slice Ak nj ck)) := Lib.hid (fun w' hb => (hb.cell (p := ⟨b2, o2 + j, none⟩) (by show b2 < W.heap.size; omega)).trans k2)
      clear k1 k3 hsj
      go_wp2_with fail
      go_loopw [7, 8, 35] (fun _ _ v wr => ∃ k : Nat, k ≤ nj ∧ v = .int .i64 (k : Int) ∧ Hid (Below W.heap.size wo wr)) (fun _ _ v _ => nj - (intOf v).toNat)
      case atStart => exact ⟨0, Nat.zero_le _, rfl, Lib.hid (Below.refl _ _)⟩
      case round =>
        obtain ⟨k, hk, rfl, HBk⟩ := hrel
        have hzk := HBk.out.size
        clear a3 k0 k2
        by_cases hkn : k < nj
        · have hd2 : decide ((k : Int) < (nj : Int)) = true := by simp; omega
          have hi2 : (k : Int) < (nj : Int) := by omega
          have hadd2 : IntKind.i64.wrap ((k : Int) + 1) = ((k + 1 : Nat) : Int) := by rw [IntWalk.i64_in _ (by omega)]; omega
          obtain ⟨b3, o3, rfl, hb3, p0, p1, p2, p3, p4⟩ := (HC1.out.below (HBk.out.mono (by omega))).2 k hkn
          obtain ⟨y, HY⟩ : ∃ y, Hid (cvAt x k = y) := ⟨_, Lib.hid rfl⟩
          rw [HY.out] at p0 p1 p2 p3 p4
          obtain ⟨X, HXX⟩ : ∃ X, Hid (X = wr.alloc (ccell 50 y.op y.a y.b y.c y.s)) := ⟨_, Lib.hid rfl⟩
          have hbX : Below W.heap.size wr X := by rw [HXX.out]; exact (Below.refl _ wr).alloc (by omega) _
          have HBX := Lib.hid (HBk.out.trans hbX)
          obtain ⟨b4, o4, rfl, hb4, q0, q1, q2, q3, q4⟩ := (HC2.out.below (HBX.out.mono (by omega))).2 k hkn
          rw [HY.out] at q0 q1 q2 q3 q4
          have hX0 : X.heap[wr.heap.size]? = some (ccell 50 y.op y.a y.b y.c y.s) := by rw [HXX.out]; exact heap_new wr _
          obtain ⟨x0, x1, x2, x3, x4, _⟩ := cc_cells hX0
          have t3 := (row1f ((HBX.out.block (w.heap.size + 1) (by omega)).trans ((HB.out.block (w.heap.size + 1) (by omega)).trans H3.out))).1
          have u2 := HK2.out X HBX.out
          obtain ⟨op, a, b, c, s⟩ := y
          simp only at p0 p1 p2 p3 p4 q0 q1 q2 q3 q4 x0 x1 x2 x3 x4
          clear hX0 hbX
          go_upto_region 11 with fail
          change Code.wp _ _ _ _ (wr.alloc (ccell 50 op a b c s))
          rw [← HXX.out]
          clear p0 p1 p2 p3 p4
          go_wp2_with fail
          go_quiet (fail)
          clear x0 x1 x2 x3 x4 q0 q1 q2 q3 q4 t3 u2
          go_wp2_with fail
          go_roundw
          case rel => exact ⟨k + 1, by omega, by go_num, Lib.hid (Below.drewN' HBX.out _)⟩
          case measure => simp [intOf]; omega
        · have hd2 : decide ((k : Int) < (nj : Int)) = false := by simp; omega
          obtain rfl : k = nj := by omega
          go_wp2_with fail
          go_roundw
          case rel => exact ⟨j + 1, by omega, by go_num, Lib.hid (HB.out.trans HBk.out)⟩
          case measure => simp [intOf]; omega
    · have hd : decide ((j : Int) < (n : Int)) = false := by simp; omega
      go_wp2_with fail
      go_ret
      exact ⟨rfl, HBL.out.trans (HB.out.mono (by omega))⟩
set_option maxHeartbeats 16000000 in
theorem alike_yes {w : World} {B n c1 c2 : Nat} {A1 A2 : Option Addr} {l : List Sv} (h1 : RdJ 2 svI w (fun b => B ≤ b) A1 n l) (h2 : RdJ 2 svI w (fun b => B ≤ b) A2 n l) (hB : B ≤ w.heap.size) (hs : SmCat l) :
    Calls Try.prog 12 #[.agg #[.slice A1 n c1], .agg #[.slice A2 n c2]] w fun e w' => e = .returned (.bool true) ∧ Below w.heap.size w w' := by
  obtain ⟨W, hW⟩ : ∃ W, W = (w.alloc (.cells #[.slice A1 n c1] 24)).alloc (.cells #[.slice A2 n c2] 24) := ⟨_, rfl⟩
  have hbl : Below w.heap.size w W := by rw [hW]; exact ((Below.refl _ w).alloc (Nat.le_refl _) _).alloc (by simp) _
  have hz : W.heap.size = w.heap.size + 2 := by rw [hW]; simp
  have h0 : W.heap[w.heap.size]? = some (.cells #[.slice A1 n c1] 24 (0, 0)) := by
    rw [hW, Below.heap_alloc _ _ _ (by simp)]; exact heap_new w _
  have h3 : W.heap[w.heap.size + 1]? = some (.cells #[.slice A2 n c2] 24 (0, 0)) := by
    rw [hW]
    have h := heap_new (w.alloc (.cells #[.slice A1 n c1] 24)) (.cells #[.slice A2 n c2] 24)
    rw [World.size_alloc] at h; exact h
  have HBL := Lib.hid hbl
  have H0 := Lib.hid h0
  have H3 := Lib.hid h3
  have HW := Lib.hid hW
  have HR1 : Hid (RdJ 2 svI W (fun b => B ≤ b) A1 n l) := Lib.hid (RdJ.below sv_turns h1 (hbl.mono hB))
  have HR2 : Hid (RdJ 2 svI W (fun b => B ≤ b) A2 n l) := Lib.hid (RdJ.below sv_turns h2 (hbl.mono hB))
  have HLN := Lib.hid h1.1
  have HS := Lib.hid hs
  have hn : n ≤ 16 := by have := h1.1; have := hs.1; omega
  clear hbl h0 h3 hW h1 h2 hs
  go_enter Try.func12, Try.ntmps12
  go_upto_region 1 with fail
  change Code.wp _ _ _ _ ((w.alloc (.cells #[.slice A1 n c1] 24)).alloc (.cells #[.slice A2 n c2] 24))
  rw [← HW.out]
  obtain ⟨a0, _⟩ := row1f H0.out
  obtain ⟨a3, _⟩ := row1f H3.out
  go_wp2_with fail
  go_loopw [5, 6, 7, 8, 9, 10, 11, 12, 23] (fun _ _ _ _ _ _ _ _ v wr => ∃ j : Nat, j ≤ n ∧ v = .int .i64 (j : Int) ∧ Hid (Below W.heap.size W wr)) (fun _ _ _ _ _ _ _ _ v _ => n - (intOf v).toNat)
  case atStart => exact ⟨0, Nat.zero_le _, rfl, Lib.hid (Below.refl _ _)⟩
  case round =>
    obtain ⟨wo, hwo⟩ : ∃ x, x = wr := ⟨_, rfl⟩
    subst hwo
    obtain ⟨j, hj, rfl, HB⟩ := hrel
    have hzo := HB.out.size
    clear a0 a3
    by_cases hjn : j < n
    · have hd : decide ((j : Int) < (n : Int)) = true := by simp; omega
      have hi : (j : Int) < (n : Int) := by omega
      have hadd : IntKind.i64.wrap ((j : Int) + 1) = ((j + 1 : Nat) : Int) := by rw [IntWalk.i64_in _ (by omega)]; omega
      have hjl : j < l.length := by rw [HLN.out]; exact hjn
      have hsj := HS.out.2 _ (getD_mem hjl)
      obtain ⟨b1, o1, vs, rfl, _, hb1, _, hcs, hit⟩ := (RdJ.below sv_turns HR1.out (HB.out.mono (by omega))).2 j hjn
      obtain ⟨b2, o2, vs2, rfl, _, hb2, _, hcs2, hit2⟩ := (RdJ.below sv_turns HR2.out (HB.out.mono (by omega))).2 j hjn
      obtain ⟨x, HX⟩ : ∃ x, Hid (l.getD j default = x) := ⟨_, Lib.hid rfl⟩
      rw [HX.out] at hit hit2 hsj
      obtain ⟨sn, rls⟩ := x
      obtain ⟨Aj, nj, cj, rfl, _, hitr⟩ := hit.parts
      obtain ⟨Ak, nk, ck, rfl, _, hitr2⟩ := hit2.parts
      obtain rfl : nj = nk := hitr.1.symm.trans hitr2.1
      have k0 := hcs 0 _ rfl
      have k1 := hcs 1 _ rfl
      have p0 := hcs2 0 _ rfl
      have p1 := hcs2 1 _ rfl
      simp only [Nat.add_zero] at k0 k1 p0 p1
      have hnj : nj ≤ 16 := by have h1 : rls.length = nj := hitr.1; have h2 : rls.length ≤ 16 := hsj.2.1; omega
      have HSJ : Hid (∀ r ∈ rls, SmRl r) := Lib.hid hsj.2.2
      have HNJ : Hid (rls.length = nj) := Lib.hid hitr.1
      obtain ⟨X1, HX1⟩ : ∃ X, Hid (X = wo.alloc (.cells #[.string sn, .slice Aj nj cj] 36)) := ⟨_, Lib.hid rfl⟩
      have hz1 : X1.heap.size = wo.heap.size + 1 := by rw [HX1.out]; simp
      have hb1x : Below wo.heap.size wo X1 := by rw [HX1.out]; exact (Below.refl _ wo).alloc (Nat.le_refl _) _
      have hx16 : X1.heap[wo.heap.size]? = some (.cells #[.string sn, .slice Aj nj cj] 36 (0, 0)) := by rw [HX1.out]; exact heap_new wo _
      obtain ⟨X, HXX⟩ : ∃ X, Hid (X = X1.alloc (.cells #[.string sn, .slice Ak nj ck] 36)) := ⟨_, Lib.hid rfl⟩
      have hzX : X.heap.size = wo.heap.size + 2 := by rw [HXX.out]; simp; omega
      have hbX : Below X1.heap.size X1 X := by rw [HXX.out]; exact (Below.refl _ X1).alloc (Nat.le_refl _) _
      have HX6 : Hid (X.heap[wo.heap.size]? = _) := Lib.hid ((hbX.block wo.heap.size (by omega)).trans hx16)
      have HX7 : Hid (X.heap[wo.heap.size + 1]? = some (.cells #[.string sn, .slice Ak nj ck] 36 (0, 0))) := Lib.hid (by rw [HXX.out, ← hz1]; exact heap_new X1 _)
      have HBX : Hid (Below wo.heap.size wo X) := Lib.hid (hb1x.trans (hbX.mono (by omega)))
      have HR1j : Hid (RdJ 6 reI X (fun b => B ≤ b) Aj nj rls) := Lib.hid (RdJ.below re_turns hitr (HBX.out.mono (by omega)))
      have HR2j : Hid (RdJ 6 reI X (fun b => B ≤ b) Ak nj rls) := Lib.hid (RdJ.below re_turns hitr2 (HBX.out.mono (by omega)))
      have HZ1 := Lib.hid hz1
      have HZX := Lib.hid hzX
      have a3 := (row1f ((hb1x.block (w.heap.size + 1) (by omega)).trans ((HB.out.block (w.heap.size + 1) (by omega)).trans H3.out))).1
      have p0' := (hb1x.cell (p := ⟨b2, o2 + j * 2, none⟩) (by show b2 < wo.heap.size; omega)).trans p0
      have p1' := (hb1x.cell (p := ⟨b2, o2 + j * 2 + 1, none⟩) (by show b2 < wo.heap.size; omega)).trans p1
      clear hcs hcs2 hit hit2 hitr hitr2 hsj hz1 hb1x hzX hbX hx16 p0 p1
      go_upto_region 6 with fail
      change Code.wp _ _ _ _ (wo.alloc (.cells #[.string sn, .slice Aj nj cj] 36))
      rw [← HX1.out]
      go_upto_region 7 with fail
      change Code.wp _ _ _ _ (X1.alloc (.cells #[.string sn, .slice Ak nj ck] 36))
      rw [← HXX.out, HZ1.out]
      clear k0 k1 a3 p0' p1'
      obtain ⟨q0, q1, _, _⟩ := row2 HX6.out
      obtain ⟨m0, m1, _, _⟩ := row2 HX7.out
      go_wp2_with fail
      go_loopw [8, 9, 10, 11, 12, 50] (fun _ _ _ _ _ v wr => ∃ k : Nat, k ≤ nj ∧ v = .int .i64 (k : Int) ∧ Hid (Below X.heap.size X wr)) (fun _ _ _ _ _ v _ => nj - (intOf v).toNat)
      case atStart => exact ⟨0, Nat.zero_le _, rfl, Lib.hid (Below.refl _ _)⟩
      case round =>
        obtain ⟨wm, hwm⟩ : ∃ x, x = wr := ⟨_, rfl⟩
        subst hwm
        obtain ⟨k, hk, rfl, HBM⟩ := hrel
        have hzm := HBM.out.size
        clear q0 q1 m0 m1
        by_cases hkn : k < nj
        · have hd2 : decide ((k : Int) < (nj : Int)) = true := by simp; omega
          have hi2 : (k : Int) < (nj : Int) := by omega
          have hadd2 : IntKind.i64.wrap ((k : Int) + 1) = ((k + 1 : Nat) : Int) := by rw [IntWalk.i64_in _ (by omega)]; omega
          have hkl : k < rls.length := by rw [HNJ.out]; exact hkn
          have hsk := HSJ.out _ (getD_mem hkl)
          have hwz := HZX.out
          obtain ⟨b3, o3, vs3, rfl, _, hb3, _, hcs, hit⟩ := (RdJ.below re_turns HR1j.out (HBM.out.mono (by omega))).2 k hkn
          obtain ⟨b4, o4, vs4, rfl, _, hb4, _, hcs2, hit2⟩ := (RdJ.below re_turns HR2j.out (HBM.out.mono (by omega))).2 k hkn
          obtain ⟨x, HXk⟩ : ∃ x, Hid (rls.getD k default = x) := ⟨_, Lib.hid rfl⟩
          rw [HXk.out] at hit hit2 hsk
          obtain ⟨⟨va, vb, vc, vs1⟩, lv, nds⟩ := x
          obtain ⟨Am, nm, cm, rfl, hitr⟩ := hit.parts
          obtain ⟨An, nn, cn, rfl, hitr2⟩ := hit2.parts
          have hitr := hitr.rd.2
          have hitr2 := hitr2.rd.2
          obtain rfl : nm = nn := hitr.1.symm.trans hitr2.1
          have k0 := hcs 0 _ rfl
          have k1 := hcs 1 _ rfl
          have k2 := hcs 2 _ rfl
          have k3 := hcs 3 _ rfl
          have k4 := hcs 4 _ rfl
          have k5 := hcs 5 _ rfl
          have p0 := hcs2 0 _ rfl
          have p1 := hcs2 1 _ rfl
          have p2 := hcs2 2 _ rfl
          have p3 := hcs2 3 _ rfl
          have p4 := hcs2 4 _ rfl
          have p5 := hcs2 5 _ rfl
          simp only [Nat.add_zero] at k0 k1 k2 k3 k4 k5 p0 p1 p2 p3 p4 p5
          have hnm : nm ≤ 12 := by have h1 : nds.length = nm := hitr.1; have h2 : nds.length ≤ 12 := hsk.1; omega
          have HSK : Hid (∀ p ∈ nds, SmR p.2) := Lib.hid hsk.2.2
          have HNK : Hid (nds.length = nm) := Lib.hid hitr.1
          obtain ⟨Y1, HY1⟩ : ∃ Y, Hid (Y = wm.alloc (.cells #[.int .i64 va, .int .i64 vb, .int .i64 vc, .string vs1, .int .i64 lv, .slice Am nm cm] 42)) := ⟨_, Lib.hid rfl⟩
          have hz1 : Y1.heap.size = wm.heap.size + 1 := by rw [HY1.out]; simp
          have hb1y : Below wm.heap.size wm Y1 := by rw [HY1.out]; exact (Below.refl _ wm).alloc (Nat.le_refl _) _
          have hy19 : Y1.heap[wm.heap.size]? = some (.cells #[.int .i64 va, .int .i64 vb, .int .i64 vc, .string vs1, .int .i64 lv, .slice Am nm cm] 42 (0, 0)) := by rw [HY1.out]; exact heap_new wm _
          obtain ⟨Y, HYY⟩ : ∃ Y, Hid (Y = Y1.alloc (.cells #[.int .i64 va, .int .i64 vb, .int .i64 vc, .string vs1, .int .i64 lv, .slice An nm cn] 42)) := ⟨_, Lib.hid rfl⟩
          have hzY : Y.heap.size = wm.heap.size + 2 := by rw [HYY.out]; simp; omega
          have hbY : Below Y1.heap.size Y1 Y := by rw [HYY.out]; exact (Below.refl _ Y1).alloc (Nat.le_refl _) _
          have HY9 : Hid (Y.heap[wm.heap.size]? = _) := Lib.hid ((hbY.block wm.heap.size (by omega)).trans hy19)
          have HY10 : Hid (Y.heap[wm.heap.size + 1]? = some (.cells #[.int .i64 va, .int .i64 vb, .int .i64 vc, .string vs1, .int .i64 lv, .slice An nm cn] 42 (0, 0))) := Lib.hid (by rw [HYY.out, ← hz1]; exact heap_new Y1 _)
          have HBY : Hid (Below wm.heap.size wm Y) := Lib.hid (hb1y.trans (hbY.mono (by omega)))
          have HR1k : Hid (RdJ 2 pnI Y (fun b => B ≤ b) Am nm nds) := Lib.hid (RdJ.below pn_turns hitr (HBY.out.mono (by omega)))
          have HR2k : Hid (RdJ 2 pnI Y (fun b => B ≤ b) An nm nds) := Lib.hid (RdJ.below pn_turns hitr2 (HBY.out.mono (by omega)))
          have HZ2 := Lib.hid hz1
          have HZY := Lib.hid hzY
          obtain ⟨_, m1, _, _⟩ := row2 ((hb1y.block (wo.heap.size + 1) (by omega)).trans ((HBM.out.block (wo.heap.size + 1) (by omega)).trans HX7.out))
          have hkeep : ∀ q v, wm.cell? ⟨b4, q, none⟩ = some v → Y1.cell? ⟨b4, q, none⟩ = some v := fun q v h => (hb1y.cell (p := ⟨b4, q, none⟩) (by show b4 < wm.heap.size; omega)).trans h
          have p0 := hkeep _ _ p0
          have p1 := hkeep _ _ p1
          have p2 := hkeep _ _ p2
          have p3 := hkeep _ _ p3
          have p4 := hkeep _ _ p4
          have p5 := hkeep _ _ p5
          clear hcs hcs2 hit hit2 hitr hitr2 hsk hz1 hb1y hzY hbY hy19 hkeep hwz
          go_upto_region 12 with fail
          change Code.wp _ _ _ _ (wm.alloc (.cells #[.int .i64 va, .int .i64 vb, .int .i64 vc, .string vs1, .int .i64 lv, .slice Am nm cm] 42))
          rw [← HY1.out]
          go_upto_region 13 with fail
          change Code.wp _ _ _ _ (Y1.alloc (.cells #[.int .i64 va, .int .i64 vb, .int .i64 vc, .string vs1, .int .i64 lv, .slice An nm cn] 42))
          rw [← HYY.out, HZ2.out]
          clear k0 k1 k2 k3 k4 k5 p0 p1 p2 p3 p4 p5 m1
          obtain ⟨q0, q1, q2, q3, q4, q5, _⟩ := r6_cells HY9.out
          obtain ⟨m0, m1, m2, m3, m4, m5, _⟩ := r6_cells HY10.out
          go_wp2_with fail
          go_loopw [11, 12, 84] (fun _ _ v wr => ∃ i : Nat, i ≤ nm ∧ v = .int .i64 (i : Int) ∧ Hid (Below Y.heap.size Y wr)) (fun _ _ v _ => nm - (intOf v).toNat)
          case atStart => exact ⟨0, Nat.zero_le _, rfl, Lib.hid (Below.refl _ _)⟩
          case round =>
            obtain ⟨wi, hwi⟩ : ∃ x, x = wr := ⟨_, rfl⟩
            subst hwi
            obtain ⟨i, hii, rfl, HBI⟩ := hrel
            have hzi := HBI.out.size
            clear q0 q1 q2 q3 q4 q5 m0 m1 m2 m3 m4 m5
            by_cases hin : i < nm
            · have hd3 : decide ((i : Int) < (nm : Int)) = true := by simp; omega
              have hi3 : (i : Int) < (nm : Int) := by omega
              have hadd3 : IntKind.i64.wrap ((i : Int) + 1) = ((i + 1 : Nat) : Int) := by rw [IntWalk.i64_in _ (by omega)]; omega
              have hil : i < nds.length := by rw [HNK.out]; exact hin
              have hsi := HSK.out _ (pnAt_mem hil)
              have hwz := HZY.out
              have hwx := HZX.out
              obtain ⟨b5, o5, Ap, np, cp, rfl, hb5, k0, k1, _, k2⟩ := nd_at (RdJ.below pn_turns HR1k.out (HBI.out.mono (by omega))) hin
              obtain ⟨x, HXi⟩ : ∃ x, Hid (pnAt nds i = x) := ⟨_, Lib.hid rfl⟩
              rw [HXi.out] at k0 k2 hsi
              obtain ⟨sv, rg⟩ := x
              simp only at k0 k2 hsi
              obtain ⟨P, HPP⟩ : ∃ P, Hid (P = wi.alloc (.cells #[.int .i64 sv, .slice Ap np cp] 47)) := ⟨_, Lib.hid rfl⟩
              have hzP : P.heap.size = wi.heap.size + 1 := by rw [HPP.out]; simp
              have hbP : Below wi.heap.size wi P := by rw [HPP.out]; exact (Below.refl _ wi).alloc (Nat.le_refl _) _
              have hP0 : P.heap[wi.heap.size]? = some (.cells #[.int .i64 sv, .slice Ap np cp] 47 (0, 0)) := by rw [HPP.out]; exact heap_new wi _
              have HBP : Hid (Below Y.heap.size Y P) := Lib.hid (HBI.out.trans (hbP.mono hzi))
              obtain ⟨b6, o6, Aq, nq, cq, rfl, hb6, u0, u1, _, u2⟩ := nd_at (RdJ.below pn_turns HR2k.out (HBP.out.mono (by omega))) hin
              rw [HXi.out] at u0 u2
              simp only at u0 u2
              have k2' := k2.below (hbP.mono (show B ≤ wi.heap.size by omega))
              obtain rfl : np = nq := k2'.1.symm.trans u2.1
              have HNX := Lib.hid (ranged_yes (w := P.drewN 1) (c1 := cp) (c2 := cq) k2' u2 (show B ≤ P.heap.size by omega) hsi)
              obtain ⟨x0, x1, _, _⟩ := row2 hP0
              obtain ⟨_, _, _, _, _, m5, _⟩ := r6_cells ((HBP.out.block (wm.heap.size + 1) (by omega)).trans HY10.out)
              have HPZ : Hid (Y.heap.size ≤ P.heap.size) := Lib.hid (by omega)
              clear k2 k2' u2 hP0 hzP hbP hsi hwz hwx
              go_upto_region 18 with fail
              change Code.wp _ _ _ _ (wi.alloc (.cells #[.int .i64 sv, .slice Ap np cp] 47))
              rw [← HPP.out]
              clear k0 k1
              go_wp2_with fail
              go_region_law (first
                | (go_simp; go_at_call 33; refine HNX.out.mono ?_; rintro en z2 ⟨rfl, hb2'⟩; (have HBZ : Hid (Below Y.heap.size Y z2) := Lib.hid ((Below.drewN' HBP.out 1).trans (hb2'.mono HPZ.out))); clear hb2'))
              all_goals (clear x0 x1 m5 u0 u1)
              all_goals (go_wp2_with fail; go_roundw)
              all_goals (first | (case rel => exact ⟨i + 1, by omega, by go_num, HBZ⟩) | (case measure => simp [intOf]; omega))
            · have hd3 : decide ((i : Int) < (nm : Int)) = false := by simp; omega
              obtain rfl : i = nm := by omega
              have HBn : Hid (Below X.heap.size X wi) := Lib.hid (HBM.out.trans (HBY.out.mono hzm |>.trans (HBI.out.mono (by have := HZY.out; omega))))
              go_wp2_with fail
              go_roundw
              case rel => exact ⟨k + 1, by omega, by go_num, HBn⟩
              case measure => simp [intOf]; omega
        · have hd2 : decide ((k : Int) < (nj : Int)) = false := by simp; omega
          obtain rfl : k = nj := by omega
          have HBn : Hid (Below W.heap.size W wm) := Lib.hid (HB.out.trans (HBX.out.mono hzo |>.trans (HBM.out.mono (by have := HZX.out; omega))))
          go_wp2_with fail
          go_roundw
          case rel => exact ⟨j + 1, by omega, by go_num, HBn⟩
          case measure => simp [intOf]; omega
    · have hd : decide ((j : Int) < (n : Int)) = false := by simp; omega
      go_wp2_with fail
      go_ret
      exact ⟨rfl, HBL.out.trans (HB.out.mono (by omega))⟩
end Go.Proofs.Yteiknbkigbdfgaa
