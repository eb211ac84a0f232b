/-
  Catalogues that are the same, or are not.
-/
import Derived.Test.YtmfoammkcokcoaaUAe
import Derived.Test.YtmfoammkcokcoaaUCw
namespace Go.Proofs.Ytmfoammkcokcoaa
open Go.RowKit
open ByteP CodeP
set_option linter.unusedVariables false
set_option maxRecDepth 10000
theorem eqVerSame (w : World) (a b c : Int) (s : ByteArray) : (Op.equalIn 10000 99 (.agg #[.int .i64 a, .int .i64 b, .int .i64 c, .string s]) (.agg #[.int .i64 a, .int .i64 b, .int .i64 c, .string s])).run Try.prog w = .ok true w := by
  rw [show (10000 : Nat) = 9998 + 1 + 1 from rfl]
  go_simp
attribute [local go_sem ↓] eqVerSame
set_option maxHeartbeats 16000000 in
theorem alike_any {w : World} {B n m c1 c2 : Nat} {A1 A2 : Option Addr} {l l2 : List Sv} (h1 : RdG 2 svI w (fun b => B ≤ b) A1 n l) (h2 : RdG 2 svI w (fun b => B ≤ b) A2 m l2) (hB : B ≤ w.heap.size) (hs : SmCat l) (hs2 : SmCat l2) :
    ∃ bb : Bool, (bb = true ↔ l = l2) ∧ Calls Try.prog 15 #[.agg #[.slice A1 n c1], .agg #[.slice A2 m c2]] w fun e w' => e = .returned (.bool bb) ∧ Below w.heap.size w w' := by
  obtain ⟨bb, hbb⟩ : ∃ bb : Bool, (bb = true ↔ l = l2) := by classical exact ⟨decide (l = l2), by simp⟩
  refine ⟨bb, hbb, ?_⟩
  have HBB := Lib.hid hbb
  clear hbb
  obtain ⟨W, hW⟩ : ∃ W, W = (w.alloc (.cells #[.slice A1 n c1] 28)).alloc (.cells #[.slice A2 m c2] 28) := ⟨_, rfl⟩
  have hbl : Below w.heap.size w W := by rw [hW]; exact ((Below.refl _ w).alloc (Nat.le_refl _) _).alloc (by simp) _
  have hz : W.heap.size = w.heap.size + 2 := by rw [hW]; simp
  have h0 : W.heap[w.heap.size]? = some (.cells #[.slice A1 n c1] 28 (0, 0)) := by
    rw [hW, Below.heap_alloc _ _ _ (by simp)]; exact heap_alloc_new w _
  have h3 : W.heap[w.heap.size + 1]? = some (.cells #[.slice A2 m c2] 28 (0, 0)) := by
    rw [hW]
    have h := heap_alloc_new (w.alloc (.cells #[.slice A1 n c1] 28)) (.cells #[.slice A2 m c2] 28)
    rw [World.size_alloc] at h; exact h
  have HBL := Lib.hid hbl
  have H0 := Lib.hid h0
  have H3 := Lib.hid h3
  have HW := Lib.hid hW
  have HR1 : Hid (RdG 2 svI W (fun b => B ≤ b) A1 n l) := Lib.hid (h1.below sv_turns (hbl.mono hB))
  have HR2 : Hid (RdG 2 svI W (fun b => B ≤ b) A2 m l2) := Lib.hid (h2.below sv_turns (hbl.mono hB))
  have HLN := Lib.hid h1.1
  have HLM := Lib.hid h2.1
  have HS := Lib.hid hs
  have HS2 := Lib.hid hs2
  have hn : n ≤ 16 := by have := h1.1; have := hs.1; omega
  clear hbl h0 h3 hW h1 h2 hs hs2
  go_enter Try.func15, Try.ntmps15
  go_upto_region 1 with fail
  change Code.wp _ _ _ _ ((w.alloc (.cells #[.slice A1 n c1] 28)).alloc (.cells #[.slice A2 m c2] 28))
  rw [← HW.out]
  obtain ⟨a0, _⟩ := row1f H0.out
  obtain ⟨a3, _⟩ := row1f H3.out
  by_cases hnm : n = m
  rotate_left
  · have hne : ¬((n : Int) = (m : Int)) := by omega
    have HNO : Hid (bb = false) := Lib.hid (bool_no HBB.out (fun e => hnm (by rw [← HLN.out, ← HLM.out, e])))
    go_wp2_with fail
    go_ret
    exact ⟨by rw [HNO.out]; rfl, HBL.out⟩
  subst hnm
  go_wp2_with fail
  go_loopw [5, 6, 7, 8, 9, 10, 11, 12, 23] (fun _ _ _ _ _ _ _ _ v wr => ∃ j : Nat, j ≤ n ∧ v = .int .i64 (j : Int) ∧ Hid (Below W.heap.size W wr) ∧ Hid (∀ i, i < j → l.getD i default = l2.getD i default)) (fun _ _ _ _ _ _ _ _ v _ => n - (intOf v).toNat)
  case atStart => exact ⟨0, Nat.zero_le _, rfl, Lib.hid (Below.refl _ _), Lib.hid (fun i hi => absurd hi (Nat.not_lt_zero i))⟩
  case round =>
    obtain ⟨wo, hwo⟩ : ∃ x, x = wr := ⟨_, rfl⟩
    subst hwo
    obtain ⟨j, hj, rfl, HB, HEQ⟩ := hrel
    have hzo := HB.out.size
    clear a0 a3
    by_cases hjn : j < n
    · have hd : decide ((j : Int) < (n : Int)) = true := by simp; omega
      have hi : (j : Int) < (n : Int) := by omega
      have hadd : IntKind.i64.wrap ((j : Int) + 1) = ((j + 1 : Nat) : Int) := by rw [IntWalk.i64_in _ (by omega)]; omega
      have hjl : j < l.length := by rw [HLN.out]; exact hjn
      have hjl2 : j < l2.length := by rw [HLM.out]; exact hjn
      have hsj := HS.out.2 _ (getD_mem hjl)
      have hsj2 := HS2.out.2 _ (getD_mem hjl2)
      obtain ⟨b1, o1, vs, rfl, _, hb1, _, hcs, hit⟩ := (HR1.out.below sv_turns (HB.out.mono (by omega))).2 j hjn
      obtain ⟨b2, o2, vs2, rfl, _, hb2, _, hcs2, hit2⟩ := (HR2.out.below sv_turns (HB.out.mono (by omega))).2 j hjn
      obtain ⟨x, HX⟩ : ∃ x, Hid (l.getD j default = x) := ⟨_, Lib.hid rfl⟩
      rw [HX.out] at hit hsj
      obtain ⟨y, HY⟩ : ∃ y, Hid (l2.getD j default = y) := ⟨_, Lib.hid rfl⟩
      rw [HY.out] at hit2 hsj2
      have HNEX : Hid (x ≠ y → bb = false) := Lib.hid (fun hxy => bool_no HBB.out (fun e => hxy (by rw [← HX.out, ← HY.out, e])))
      obtain ⟨sn, rls⟩ := x
      obtain ⟨sm, rls2⟩ := y
      obtain ⟨Aj, nj, cj, rfl, hitr⟩ := hit.parts
      obtain ⟨Ak, nk, ck, rfl, hitr2⟩ := hit2.parts
      have k0 := hcs 0 _ rfl
      have k1 := hcs 1 _ rfl
      have p0 := hcs2 0 _ rfl
      have p1 := hcs2 1 _ rfl
      simp only [Nat.add_zero] at k0 k1 p0 p1
      have hnj : nj ≤ 16 := by have h1 : rls.length = nj := hitr.1; have h2 : rls.length ≤ 16 := hsj.2.1; omega
      have HSJ : Hid (∀ r ∈ rls, SmRl r) := Lib.hid hsj.2.2
      have HSJ2 : Hid (∀ r ∈ rls2, SmRl r) := Lib.hid hsj2.2.2
      have HNJ : Hid (rls.length = nj) := Lib.hid hitr.1
      have HNJ2 : Hid (rls2.length = nk) := Lib.hid hitr2.1
      obtain ⟨X1, HX1⟩ : ∃ X, Hid (X = wo.alloc (.cells #[.string sn, .slice Aj nj cj] 93)) := ⟨_, Lib.hid rfl⟩
      have hz1 : X1.heap.size = wo.heap.size + 1 := by rw [HX1.out]; simp
      have hb1x : Below wo.heap.size wo X1 := by rw [HX1.out]; exact (Below.refl _ wo).alloc (Nat.le_refl _) _
      have hx16 : X1.heap[wo.heap.size]? = some (.cells #[.string sn, .slice Aj nj cj] 93 (0, 0)) := by rw [HX1.out]; exact heap_new wo _
      obtain ⟨X, HXX⟩ : ∃ X, Hid (X = X1.alloc (.cells #[.string sm, .slice Ak nk ck] 93)) := ⟨_, Lib.hid rfl⟩
      have hzX : X.heap.size = wo.heap.size + 2 := by rw [HXX.out]; simp; omega
      have hbX : Below X1.heap.size X1 X := by rw [HXX.out]; exact (Below.refl _ X1).alloc (Nat.le_refl _) _
      have HX6 : Hid (X.heap[wo.heap.size]? = _) := Lib.hid ((hbX.block wo.heap.size (by omega)).trans hx16)
      have HX7 : Hid (X.heap[wo.heap.size + 1]? = some (.cells #[.string sm, .slice Ak nk ck] 93 (0, 0))) := Lib.hid (by rw [HXX.out, ← hz1]; exact heap_new X1 _)
      have HBX : Hid (Below wo.heap.size wo X) := Lib.hid (hb1x.trans (hbX.mono (by omega)))
      have HR1j : Hid (RdG 6 reI X (fun b => B ≤ b) Aj nj rls) := Lib.hid (RdG.below re_turns hitr (HBX.out.mono (by omega)))
      have HR2j : Hid (RdG 6 reI X (fun b => B ≤ b) Ak nk rls2) := Lib.hid (RdG.below re_turns hitr2 (HBX.out.mono (by omega)))
      have HZ1 := Lib.hid hz1
      have HCX : Hid (Below w.heap.size w X) := Lib.hid (HBL.out.trans ((HB.out.trans (HBX.out.mono hzo)).mono (by omega)))
      have HZX := Lib.hid hzX
      have a3 := (row1f ((hb1x.block (w.heap.size + 1) (by omega)).trans ((HB.out.block (w.heap.size + 1) (by omega)).trans H3.out))).1
      have p0' := (hb1x.cell (p := ⟨b2, o2 + j * 2, none⟩) (by show b2 < wo.heap.size; omega)).trans p0
      have p1' := (hb1x.cell (p := ⟨b2, o2 + j * 2 + 1, none⟩) (by show b2 < wo.heap.size; omega)).trans p1
      clear hcs hcs2 hit hit2 hitr hitr2 hsj hsj2 hz1 hb1x hzX hbX hx16 p0 p1
      go_upto_region 6 with fail
      change Code.wp _ _ _ _ (wo.alloc (.cells #[.string sn, .slice Aj nj cj] 93))
      rw [← HX1.out]
      go_upto_region 7 with fail
      change Code.wp _ _ _ _ (X1.alloc (.cells #[.string sm, .slice Ak nk ck] 93))
      rw [← HXX.out, HZ1.out]
      clear k0 k1 a3 p0' p1'
      obtain ⟨q0, q1, _, _⟩ := row2 HX6.out
      obtain ⟨m0, m1, _, _⟩ := row2 HX7.out
      by_cases hsn : sn = sm
      rotate_left
      · have hsl : ¬(sn.toList = sm.toList) := fun e => hsn (toL_inj e)
        have HNO : Hid (bb = false) := Lib.hid (HNEX.out (fun e => hsn (congrArg Prod.fst e)))
        go_wp2_with fail
        go_ret
        exact ⟨by rw [HNO.out]; rfl, HCX.out⟩
      subst hsn
      by_cases hnk : nj = nk
      rotate_left
      · have hne : ¬((nj : Int) = (nk : Int)) := by omega
        have HNO : Hid (bb = false) := Lib.hid (HNEX.out (fun e => hnk (by rw [← HNJ.out, ← HNJ2.out, (Prod.mk.inj e).2])))
        go_wp2_with fail
        go_ret
        exact ⟨by rw [HNO.out]; rfl, HCX.out⟩
      subst hnk
      have HNEJ : Hid (rls ≠ rls2 → bb = false) := Lib.hid (fun h => HNEX.out (fun e => h (Prod.mk.inj e).2))
      go_wp2_with fail
      go_loopw [8, 9, 10, 11, 12, 50] (fun _ _ _ _ _ v wr => ∃ k : Nat, k ≤ nj ∧ v = .int .i64 (k : Int) ∧ Hid (Below X.heap.size X wr) ∧ Hid (∀ i, i < k → rls.getD i default = rls2.getD i default)) (fun _ _ _ _ _ v _ => nj - (intOf v).toNat)
      case atStart => exact ⟨0, Nat.zero_le _, rfl, Lib.hid (Below.refl _ _), Lib.hid (fun i hi => absurd hi (Nat.not_lt_zero i))⟩
      case round =>
        obtain ⟨wm, hwm⟩ : ∃ x, x = wr := ⟨_, rfl⟩
        subst hwm
        obtain ⟨k, hk, rfl, HBM, HEK⟩ := hrel
        have hzm := HBM.out.size
        clear q0 q1 m0 m1
        by_cases hkn : k < nj
        · have hd2 : decide ((k : Int) < (nj : Int)) = true := by simp; omega
          have hi2 : (k : Int) < (nj : Int) := by omega
          have hadd2 : IntKind.i64.wrap ((k : Int) + 1) = ((k + 1 : Nat) : Int) := by rw [IntWalk.i64_in _ (by omega)]; omega
          have hkl : k < rls.length := by rw [HNJ.out]; exact hkn
          have hkl2 : k < rls2.length := by rw [HNJ2.out]; exact hkn
          have hsk := HSJ.out _ (getD_mem hkl)
          have hsk2 := HSJ2.out _ (getD_mem hkl2)
          have hwz := HZX.out
          obtain ⟨b3, o3, vs3, rfl, _, hb3, _, hcs, hit⟩ := (HR1j.out.below re_turns (HBM.out.mono (by omega))).2 k hkn
          obtain ⟨b4, o4, vs4, rfl, _, hb4, _, hcs2, hit2⟩ := (HR2j.out.below re_turns (HBM.out.mono (by omega))).2 k hkn
          obtain ⟨x, HXk⟩ : ∃ x, Hid (rls.getD k default = x) := ⟨_, Lib.hid rfl⟩
          rw [HXk.out] at hit hsk
          obtain ⟨y, HYk⟩ : ∃ y, Hid (rls2.getD k default = y) := ⟨_, Lib.hid rfl⟩
          rw [HYk.out] at hit2 hsk2
          have HNEK : Hid (x ≠ y → bb = false) := Lib.hid (fun hxy => HNEJ.out (fun e => hxy (by rw [← HXk.out, ← HYk.out, e])))
          obtain ⟨⟨va, vb, vc, vs1⟩, lv, nds⟩ := x
          obtain ⟨⟨xa, xb, xc, xs⟩, lx, nds2⟩ := y
          obtain ⟨Am, nm, cm, rfl, hitr⟩ := hit.parts
          obtain ⟨An, nn, cn, rfl, hitr2⟩ := hit2.parts
          have hitr : RdN wm B Am nm nds := hitr.rdB
          have hitr2 : RdN wm B An nn nds2 := hitr2.rdB
          have k0 := hcs 0 _ rfl
          have k1 := hcs 1 _ rfl
          have k2 := hcs 2 _ rfl
          have k3 := hcs 3 _ rfl
          have k4 := hcs 4 _ rfl
          have k5 := hcs 5 _ rfl
          have p0 := hcs2 0 _ rfl
          have p1 := hcs2 1 _ rfl
          have p2 := hcs2 2 _ rfl
          have p3 := hcs2 3 _ rfl
          have p4 := hcs2 4 _ rfl
          have p5 := hcs2 5 _ rfl
          simp only [Nat.add_zero] at k0 k1 k2 k3 k4 k5 p0 p1 p2 p3 p4 p5
          have hnm : nm ≤ 12 := by have h1 : nds.length = nm := hitr.1; have h2 : nds.length ≤ 12 := hsk.1; omega
          have HSK : Hid (∀ p ∈ nds, SmR p.2) := Lib.hid hsk.2.2
          have HSK2 : Hid (∀ p ∈ nds2, SmR p.2) := Lib.hid hsk2.2.2
          have HNK : Hid (nds.length = nm) := Lib.hid hitr.1
          have HNK2 : Hid (nds2.length = nn) := Lib.hid hitr2.1
          obtain ⟨Y1, HY1⟩ : ∃ Y, Hid (Y = wm.alloc (.cells #[.int .i64 va, .int .i64 vb, .int .i64 vc, .string vs1, .int .i64 lv, .slice Am nm cm] 102)) := ⟨_, Lib.hid rfl⟩
          have hz1 : Y1.heap.size = wm.heap.size + 1 := by rw [HY1.out]; simp
          have hb1y : Below wm.heap.size wm Y1 := by rw [HY1.out]; exact (Below.refl _ wm).alloc (Nat.le_refl _) _
          have hy19 : Y1.heap[wm.heap.size]? = some (.cells #[.int .i64 va, .int .i64 vb, .int .i64 vc, .string vs1, .int .i64 lv, .slice Am nm cm] 102 (0, 0)) := by rw [HY1.out]; exact heap_new wm _
          obtain ⟨Y, HYY⟩ : ∃ Y, Hid (Y = Y1.alloc (.cells #[.int .i64 xa, .int .i64 xb, .int .i64 xc, .string xs, .int .i64 lx, .slice An nn cn] 102)) := ⟨_, Lib.hid rfl⟩
          have hzY : Y.heap.size = wm.heap.size + 2 := by rw [HYY.out]; simp; omega
          have hbY : Below Y1.heap.size Y1 Y := by rw [HYY.out]; exact (Below.refl _ Y1).alloc (Nat.le_refl _) _
          have HY9 : Hid (Y.heap[wm.heap.size]? = _) := Lib.hid ((hbY.block wm.heap.size (by omega)).trans hy19)
          have HY10 : Hid (Y.heap[wm.heap.size + 1]? = some (.cells #[.int .i64 xa, .int .i64 xb, .int .i64 xc, .string xs, .int .i64 lx, .slice An nn cn] 102 (0, 0))) := Lib.hid (by rw [HYY.out, ← hz1]; exact heap_new Y1 _)
          have HBY : Hid (Below wm.heap.size wm Y) := Lib.hid (hb1y.trans (hbY.mono (by omega)))
          have HR1k : Hid (RdN Y B Am nm nds) := Lib.hid (hitr.below (HBY.out.mono (by omega)))
          have HR2k : Hid (RdN Y B An nn nds2) := Lib.hid (hitr2.below (HBY.out.mono (by omega)))
          have HZ2 := Lib.hid hz1
          have HCY : Hid (Below w.heap.size w Y) := Lib.hid (HCX.out.trans ((HBM.out.trans (HBY.out.mono hzm)).mono HCX.out.size))
          have HZY := Lib.hid hzY
          obtain ⟨_, m1, _, _⟩ := row2 ((hb1y.block (wo.heap.size + 1) (by omega)).trans ((HBM.out.block (wo.heap.size + 1) (by omega)).trans HX7.out))
          have hkeep : ∀ q v, wm.cell? ⟨b4, q, none⟩ = some v → Y1.cell? ⟨b4, q, none⟩ = some v := fun q v h => (hb1y.cell (p := ⟨b4, q, none⟩) (by show b4 < wm.heap.size; omega)).trans h
          have p0 := hkeep _ _ p0
          have p1 := hkeep _ _ p1
          have p2 := hkeep _ _ p2
          have p3 := hkeep _ _ p3
          have p4 := hkeep _ _ p4
          have p5 := hkeep _ _ p5
          clear hcs hcs2 hit hit2 hitr hitr2 hsk hsk2 hz1 hb1y hzY hbY hy19 hkeep hwz
          go_upto_region 12 with fail
          change Code.wp _ _ _ _ (wm.alloc (.cells #[.int .i64 va, .int .i64 vb, .int .i64 vc, .string vs1, .int .i64 lv, .slice Am nm cm] 102))
          rw [← HY1.out]
          go_upto_region 13 with fail
          change Code.wp _ _ _ _ (Y1.alloc (.cells #[.int .i64 xa, .int .i64 xb, .int .i64 xc, .string xs, .int .i64 lx, .slice An nn cn] 102))
          rw [← HYY.out, HZ2.out]
          clear k0 k1 k2 k3 k4 k5 p0 p1 p2 p3 p4 p5 m1
          obtain ⟨q0, q1, q2, q3, q4, q5⟩ := cells6 HY9.out
          obtain ⟨m0, m1, m2, m3, m4, m5⟩ := cells6 HY10.out
          obtain ⟨eb, heb, heq⟩ := eqVerDec va vb vc xa xb xc vs1 xs
          have HEB := Lib.hid heq
          clear heq
          cases eb with
          | false =>
            have HNO : Hid (bb = false) := Lib.hid (HNEK.out (fun e => by
              have h := HEB.out.2 (by simp only [Prod.mk.injEq] at e; exact ⟨e.1.1, e.1.2.1, e.1.2.2.1, e.1.2.2.2⟩)
              cases h))
            go_wp2_with fail
            go_ret
            exact ⟨by rw [HNO.out]; rfl, HCY.out⟩
          | true =>
          clear heb
          obtain ⟨hva, hvb, hvc, hvs⟩ := HEB.out.1 rfl
          subst hva hvb hvc hvs
          by_cases hlv : lv = lx
          rotate_left
          · have HNO : Hid (bb = false) := Lib.hid (HNEK.out (fun e => hlv (by simp only [Prod.mk.injEq] at e; exact e.2.1)))
            go_wp2_with fail
            go_ret
            exact ⟨by rw [HNO.out]; rfl, HCY.out⟩
          subst hlv
          by_cases hnn : nm = nn
          rotate_left
          · have hne : ¬((nm : Int) = (nn : Int)) := by omega
            have HNO : Hid (bb = false) := Lib.hid (HNEK.out (fun e => hnn (by simp only [Prod.mk.injEq] at e; rw [← HNK.out, ← HNK2.out, e.2.2])))
            go_wp2_with fail
            go_ret
            exact ⟨by rw [HNO.out]; rfl, HCY.out⟩
          subst hnn
          have HNEN : Hid (nds ≠ nds2 → bb = false) := Lib.hid (fun h => HNEK.out (fun e => h (by simp only [Prod.mk.injEq] at e; exact e.2.2)))
          go_wp2_with fail
          go_loopw [11, 12, 84] (fun _ _ v wr => ∃ i : Nat, i ≤ nm ∧ v = .int .i64 (i : Int) ∧ Hid (Below Y.heap.size Y wr) ∧ Hid (∀ q, q < i → pnAt nds q = pnAt nds2 q)) (fun _ _ v _ => nm - (intOf v).toNat)
          case atStart => exact ⟨0, Nat.zero_le _, rfl, Lib.hid (Below.refl _ _), Lib.hid (fun q hq => absurd hq (Nat.not_lt_zero q))⟩
          case round =>
            obtain ⟨wi, hwi⟩ : ∃ x, x = wr := ⟨_, rfl⟩
            subst hwi
            obtain ⟨i, hii, rfl, HBI, HEI⟩ := hrel
            have hzi := HBI.out.size
            clear q0 q1 q2 q3 q4 q5 m0 m1 m2 m3 m4 m5
            by_cases hin : i < nm
            · have hd3 : decide ((i : Int) < (nm : Int)) = true := by simp; omega
              have hi3 : (i : Int) < (nm : Int) := by omega
              have hadd3 : IntKind.i64.wrap ((i : Int) + 1) = ((i + 1 : Nat) : Int) := by rw [IntWalk.i64_in _ (by omega)]; omega
              have hil : i < nds.length := by rw [HNK.out]; exact hin
              have hil2 : i < nds2.length := by rw [HNK2.out]; exact hin
              have hsi := HSK.out _ (pnAt_mem hil)
              have hsi2 := HSK2.out _ (pnAt_mem hil2)
              have hwz := HZY.out
              have hwx := HZX.out
              obtain ⟨b5, o5, Ap, np, cp, rfl, hb5, k0, k1, k2⟩ := (HR1k.out.below (HBI.out.mono (by omega))).2 i hin
              obtain ⟨x, HXi⟩ : ∃ x, Hid (pnAt nds i = x) := ⟨_, Lib.hid rfl⟩
              rw [HXi.out] at k0 k2 hsi
              obtain ⟨sv, rg⟩ := x
              simp only at k0 k2 hsi
              obtain ⟨P, HPP⟩ : ∃ P, Hid (P = wi.alloc (.cells #[.int .i64 sv, .slice Ap np cp] 114)) := ⟨_, Lib.hid rfl⟩
              have hzP : P.heap.size = wi.heap.size + 1 := by rw [HPP.out]; simp
              have hbP : Below wi.heap.size wi P := by rw [HPP.out]; exact (Below.refl _ wi).alloc (Nat.le_refl _) _
              have hP0 : P.heap[wi.heap.size]? = some (.cells #[.int .i64 sv, .slice Ap np cp] 114 (0, 0)) := by rw [HPP.out]; exact heap_new wi _
              have HBP : Hid (Below Y.heap.size Y P) := Lib.hid (HBI.out.trans (hbP.mono hzi))
              obtain ⟨b6, o6, Aq, nq, cq, rfl, hb6, u0, u1, u2⟩ := (HR2k.out.below (HBP.out.mono (by omega))).2 i hin
              obtain ⟨y, HYi⟩ : ∃ y, Hid (pnAt nds2 i = y) := ⟨_, Lib.hid rfl⟩
              rw [HYi.out] at u0 u2 hsi2
              obtain ⟨sw, rg2⟩ := y
              simp only at u0 u2 hsi2
              have k2' := k2.below (hbP.mono (show B ≤ wi.heap.size by omega))
              obtain ⟨rb, hrb, hcall⟩ := ranged_any (w := P.drewN 1) (c1 := cp) (c2 := cq) k2' u2 (show B ≤ P.heap.size by omega) hsi hsi2
              have HRB := Lib.hid hrb
              have HNX := Lib.hid hcall
              have HCP : Hid (Below w.heap.size w P) := Lib.hid (HCY.out.trans (HBP.out.mono HCY.out.size))
              have HNEI : Hid ((sv, rg) ≠ (sw, rg2) → bb = false) := Lib.hid (fun hxy => HNEN.out (fun e => hxy (by rw [← HXi.out, ← HYi.out, e])))
              obtain ⟨x0, x1, _, _⟩ := row2 hP0
              obtain ⟨_, _, _, _, _, m5⟩ := cells6 ((HBP.out.block (wm.heap.size + 1) (by omega)).trans HY10.out)
              have HPZ : Hid (Y.heap.size ≤ P.heap.size) := Lib.hid (by omega)
              clear k2 k2' u2 hP0 hzP hbP hsi hsi2 hwz hwx hrb hcall
              go_upto_region 18 with fail
              change Code.wp _ _ _ _ (wi.alloc (.cells #[.int .i64 sv, .slice Ap np cp] 114))
              rw [← HPP.out]
              clear k0 k1
              by_cases hsv : sv = sw
              rotate_left
              · have hne : ¬((sv : Int) = (sw : Int)) := hsv
                have HNO : Hid (bb = false) := Lib.hid (HNEI.out (fun e => hsv (Prod.mk.inj e).1))
                go_wp2_with fail
                go_quiet (fail)
                clear x0 x1 m5 u0 u1
                go_wp2_with fail
                go_ret
                exact ⟨by rw [HNO.out]; rfl, Below.drewN' HCP.out _⟩
              subst hsv
              go_wp2_with fail
              cases rb with
              | false =>
                have HNO : Hid (bb = false) := Lib.hid (HNEI.out (fun e => by have h := HRB.out.2 (Prod.mk.inj e).2; cases h))
                go_region_law (first
                  | (go_simp; go_at_call 42; refine HNX.out.mono ?_; rintro en z2 ⟨rfl, hb2'⟩; (have HBZ : Hid (Below Y.heap.size Y z2) := Lib.hid ((Below.drewN' HBP.out 1).trans (hb2'.mono HPZ.out))); clear hb2'))
                all_goals (clear x0 x1 m5 u0 u1)
                all_goals (go_wp2_with fail; go_ret)
                all_goals (exact ⟨by rw [HNO.out]; rfl, HCY.out.trans (HBZ.out.mono HCY.out.size)⟩)
              | true =>
                have HNW : Hid (∀ q, q < i + 1 → pnAt nds q = pnAt nds2 q) := Lib.hid (fun q hq => by
                  rcases Nat.lt_succ_iff_lt_or_eq.1 hq with h | h
                  · exact HEI.out q h
                  · rw [h, HXi.out, HYi.out, HRB.out.1 rfl])
                go_region_law (first
                  | (go_simp; go_at_call 42; refine HNX.out.mono ?_; rintro en z2 ⟨rfl, hb2'⟩; (have HBZ : Hid (Below Y.heap.size Y z2) := Lib.hid ((Below.drewN' HBP.out 1).trans (hb2'.mono HPZ.out))); clear hb2'))
                all_goals (clear x0 x1 m5 u0 u1)
                all_goals (go_wp2_with fail; go_roundw)
                all_goals (first | (case rel => exact ⟨i + 1, by omega, by go_num, HBZ, HNW⟩) | (case measure => simp [intOf]; omega))
            · have hd3 : decide ((i : Int) < (nm : Int)) = false := by simp; omega
              obtain rfl : i = nm := by omega
              have HNW : Hid (∀ q, q < k + 1 → rls.getD q default = rls2.getD q default) := Lib.hid (fun q hq => by
                rcases Nat.lt_succ_iff_lt_or_eq.1 hq with h | h
                · exact HEK.out q h
                · have he : nds = nds2 := ext_d (HNK.out.trans HNK2.out.symm) (fun q hq => HEI.out q (by rw [← HNK.out]; exact hq))
                  rw [h, HXk.out, HYk.out, he])
              have HBn : Hid (Below X.heap.size X wi) := Lib.hid (HBM.out.trans (HBY.out.mono hzm |>.trans (HBI.out.mono (by have := HZY.out; omega))))
              go_wp2_with fail
              go_roundw
              case rel => exact ⟨k + 1, by omega, by go_num, HBn, HNW⟩
              case measure => simp [intOf]; omega
        · have hd2 : decide ((k : Int) < (nj : Int)) = false := by simp; omega
          obtain rfl : k = nj := by omega
          have HNW : Hid (∀ q, q < j + 1 → l.getD q default = l2.getD q default) := Lib.hid (fun q hq => by
            rcases Nat.lt_succ_iff_lt_or_eq.1 hq with h | h
            · exact HEQ.out q h
            · have he : rls = rls2 := ext_d (HNJ.out.trans HNJ2.out.symm) (fun q hq => HEK.out q (by rw [← HNJ.out]; exact hq))
              rw [h, HX.out, HY.out, he])
          have HBn : Hid (Below W.heap.size W wm) := Lib.hid (HB.out.trans (HBX.out.mono hzo |>.trans (HBM.out.mono (by have := HZX.out; omega))))
          go_wp2_with fail
          go_roundw
          case rel => exact ⟨j + 1, by omega, by go_num, HBn, HNW⟩
          case measure => simp [intOf]; omega
    · have hd : decide ((j : Int) < (n : Int)) = false := by simp; omega
      have HYS : Hid (bb = true) := Lib.hid (HBB.out.2 (ext_d (HLN.out.trans HLM.out.symm) (fun i hi => HEQ.out i (by have := HLN.out; omega))))
      go_wp2_with fail
      go_ret
      exact ⟨by rw [HYS.out]; rfl, HBL.out.trans (HB.out.mono (by omega))⟩
end Go.Proofs.Ytmfoammkcokcoaa
