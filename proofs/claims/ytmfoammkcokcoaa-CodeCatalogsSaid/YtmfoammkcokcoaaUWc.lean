/-
  Catalogues that the document's writer writes.
-/
import Derived.Test.YtmfoammkcokcoaaUCw
import Derived.Test.YtmfoammkcokcoaaTRqa
namespace Go.Proofs.Ytmfoammkcokcoaa
open Go.RowKit
open ByteP CodeP
set_option linter.unusedVariables false
set_option maxRecDepth 10000
set_option maxHeartbeats 16000000 in
theorem catalogW_any {w : World} {wb B c1 : Nat} {A1 : Option Addr} {l : List Sv} (h : Wr 34 w wb [] false) (hr : RdG 2 svI w (fun b => B ≤ b) A1 l.length l) (hB : B ≤ wb) (hsh : ShCat l) (hln : (fl svO l).length ≤ 400000000) :
    Calls Try.prog 11 #[.pointer (some ⟨wb, 0, none⟩), .agg #[.slice A1 l.length c1]] w fun e w' => e = .returned (.tuple #[]) ∧ Wr 34 w' wb (catO l) (badSv l) ∧ Below wb w w' ∧ KeepW w w' wb := by
  have hlt := h.lt
  have hl1 := hsh.1
  obtain ⟨W, hW⟩ : ∃ W, W = w.alloc (.cells #[.slice A1 l.length c1] 28) := ⟨_, rfl⟩
  have HA : Wr 34 W wb [] false := by rw [hW]; exact h.alloc _
  have HK0 : Hid (KeepW w W wb) := Lib.hid (by rw [hW]; exact KeepW.alloc hlt _)
  have HB0 : Hid (Below wb w W) := Lib.hid (by rw [hW]; exact ((Below.refl _ w).alloc (Nat.le_refl _) _).mono (by omega))
  have hab : W.heap[w.heap.size]? = some (.cells #[.slice A1 l.length c1] 28 (0, 0)) := by rw [hW]; exact heap_alloc_new w _
  have HNO : Hid (¬ OwnW W wb w.heap.size) := Lib.hid (by rw [hW]; exact ownW_new h (Nat.le_refl _) (Below.heap_alloc w _ wb hlt))
  have HROW := Lib.hid hab
  have hz : w.heap.size < W.heap.size := by rw [hW]; simp
  have HBX : Hid (∀ w', KeepW W w' wb → w'.heap[w.heap.size]? = some (.cells #[.slice A1 l.length c1] 28 (0, 0))) := Lib.hid (fun w' hk => (hk.block w.heap.size hz (by omega) HNO.out).trans HROW.out)
  have HR : Hid (RdG 2 svI W (fun b => B ≤ b) A1 l.length l) := Lib.hid (hr.below sv_turns (HB0.out.mono hB))
  have HSH := Lib.hid hsh
  have HLEN := Lib.hid hln
  obtain ⟨n, HLL⟩ : ∃ n, Hid (l.length = n) := ⟨_, Lib.hid rfl⟩
  have hn : n ≤ 100000 := by rw [← HLL.out]; exact hl1
  obtain ⟨c0, _⟩ := row1f hab
  have HF := Lib.hid (numW_any HA (n : Int) (by simp only [List.length_nil]; omega))
  have HWE := Lib.hid hW
  rw [HLL.out] at HR HBX c0 HWE
  clear h hab HA hW hr HROW hl1 hsh hln
  rw [HLL.out]
  go_enter Try.func11, Try.ntmps11
  go_upto_region 1 with fail
  rw [← HWE.out]
  go_wp2_with fail
  refine HF.out.mono ?_
  rintro e w1 ⟨rfl, h1, hb1, hk1⟩
  rw [outI_nat (by omega), okI_nat (by omega)] at h1
  have H1 : Hid (Wr 34 w1 wb (enc n) false) := Lib.hid (by simpa using h1)
  have HB1 := Lib.hid hb1
  have HK1 := Lib.hid hk1
  have HE : Hid ((enc n).length ≤ 6) := Lib.hid (enc_six (by omega))
  clear h1 hb1 hk1 c0 HF
  go_wp2_with fail
  go_loopw [4, 5, 6, 7, 8] (fun v _ _ _ _ wr => ∃ j : Nat, j ≤ n ∧ v = .int .i64 (j : Int) ∧ Hid (Wr 34 wr wb (enc n ++ fl svO (l.take j)) (badSv (l.take j))) ∧ Hid (Below wb W wr) ∧ Hid (KeepW W wr wb)) (fun v _ _ _ _ _ => n - (intOf v).toNat)
  case atStart => exact ⟨0, Nat.zero_le _, rfl, Lib.hid (by simpa [fl, badSv] using H1.out), HB1, HK1⟩
  case round =>
    obtain ⟨wo, hwo⟩ : ∃ x, x = wr := ⟨_, rfl⟩
    subst hwo
    obtain ⟨j, hj, rfl, HW, HB, HK⟩ := hrel
    obtain ⟨y0, _⟩ := row1f (HBX.out wo HK.out)
    by_cases hjn : j < n
    · have hd : decide ((j : Int) < (n : Int)) = true := by simp; omega
      have hi : (j : Int) < (n : Int) := by omega
      have hadd : IntKind.i64.wrap ((j : Int) + 1) = ((j + 1 : Nat) : Int) := by rw [IntWalk.i64_in _ (by omega)]; omega
      have hjl : j < l.length := by rw [HLL.out]; exact hjn
      have hsz := HSH.out.2 _ (getD_mem hjl)
      obtain ⟨b1, o1, vs, rfl, _, hb1B, _, hcs, hit⟩ := (HR.out.below sv_turns (HB.out.mono hB)).2 j hjn
      obtain ⟨x, HX⟩ : ∃ x, Hid (l.getD j default = x) := ⟨_, Lib.hid rfl⟩
      have hlj := fl_at svO l j hjl
      rw [HX.out] at hit hsz hlj
      obtain ⟨sn, rls⟩ := x
      obtain ⟨Aj, nj, cj, rfl, hitr⟩ := hit.parts
      have k0 := hcs 0 _ rfl
      have k1 := hcs 1 _ rfl
      simp only [Nat.add_zero] at k0 k1
      have HNJ : Hid (rls.length = nj) := Lib.hid hitr.1
      have hnj : nj ≤ 100000 := by have h1 : rls.length = nj := hitr.1; have h2 : rls.length ≤ 100000 := hsz.2.1; omega
      have hwl := HW.out.lt
      obtain ⟨X, HXX⟩ : ∃ X, Hid (X = wo.alloc (.cells #[.string sn, .slice Aj nj cj] 93)) := ⟨_, Lib.hid rfl⟩
      have hzX : X.heap.size = wo.heap.size + 1 := by rw [HXX.out]; simp
      have HWX : Hid (Wr 34 X wb (enc n ++ fl svO (l.take j)) (badSv (l.take j))) := Lib.hid (by rw [HXX.out]; exact HW.out.alloc _)
      have HKX : Hid (KeepW wo X wb) := Lib.hid (by rw [HXX.out]; exact KeepW.alloc hwl _)
      have hbx : Below wb wo X := by rw [HXX.out]; exact (Below.refl wb wo).alloc (by omega) _
      have HBX2 := Lib.hid hbx
      have hcb : X.heap[wo.heap.size]? = some (.cells #[.string sn, .slice Aj nj cj] 93 (0, 0)) := by rw [HXX.out]; exact heap_new wo _
      have hN1 : ¬ OwnW X wb wo.heap.size := ownW_new HW.out (Nat.le_refl _) (by rw [HXX.out]; exact Below.heap_alloc wo _ wb hwl)
      have HS5 : Hid (∀ w', KeepW X w' wb → w'.heap[wo.heap.size]? = some (.cells #[.string sn, .slice Aj nj cj] 93 (0, 0))) := Lib.hid (fun w' hk => (hk.block wo.heap.size (by omega) (by omega) hN1).trans hcb)
      have HRX : Hid (RdG 6 reI X (fun b => B ≤ b) Aj nj rls) := Lib.hid (RdG.below re_turns hitr (hbx.mono hB))
      have HSZ : Hid (sn.size ≤ 1000000 ∧ ShRls rls) := Lib.hid hsz
      have HLJ : Hid ((fl svO (l.take j)).length + ((enc sn.size ++ bsS sn).length + ((enc nj).length + (fl rlO rls).length)) ≤ (fl svO l).length) := Lib.hid (by
        have e1 : (svO (sn, rls)).length = (enc sn.size ++ bsS sn).length + (lsE rlO rls).length := by unfold svO strO; rw [List.length_append]
        have e2 := lsE_len rlO rls
        rw [HNJ.out] at e2
        omega)
      obtain ⟨P1, HP1⟩ : ∃ P1, Hid (enc n ++ fl svO (l.take j) ++ (enc sn.size ++ bsS sn) ++ enc nj = P1) := ⟨_, Lib.hid rfl⟩
      have HT1 : Hid (P1.length + (fl rlO rls).length ≤ 400000010) := Lib.hid (by
        have h3 := HE.out
        have h4 := HLEN.out
        have h5 := HLJ.out
        rw [← HP1.out, List.length_append, List.length_append, List.length_append]
        omega)
      have HF := Lib.hid (textW_any HWX.out sn HSZ.out.1 (by
        have h3 := HE.out
        have h4 := HLEN.out
        have h5 := HLJ.out
        rw [List.length_append]
        omega))
      have hXlt : wb < X.heap.size := by omega
      obtain ⟨q0, q1, _, _⟩ := row2 hcb
      clear hcs hit hitr hsz hlj hzX hbx hcb hN1 H1 HWX
      go_upto_region 6 with fail
      change Code.wp _ _ _ _ (wo.alloc (.cells #[.string sn, .slice Aj nj cj] 93))
      rw [← HXX.out]
      clear k0 k1 y0
      go_wp2_with fail
      refine HF.out.mono ?_
      rintro e w2 ⟨rfl, h2, hb2, hk2⟩
      have hq := HS5.out w2 hk2
      clear q0 q1
      obtain ⟨q0, q1, _, _⟩ := row2 hq
      have HB2 := Lib.hid hb2
      have HK2 := Lib.hid hk2
      have HF2 := Lib.hid (numW_any h2 (nj : Int) (by
        have h5 := HT1.out
        have h7 : (enc n ++ fl svO (l.take j) ++ (enc sn.size ++ bsS sn) ++ enc nj).length = (enc n ++ fl svO (l.take j) ++ (enc sn.size ++ bsS sn)).length + (enc nj).length := List.length_append
        rw [HP1.out] at h7
        omega))
      clear h2 hb2 hk2 hq HF
      go_wp2_with fail
      refine HF2.out.mono ?_
      rintro e w3 ⟨rfl, h3, hb3, hk3⟩
      rw [outI_nat (by omega), okI_nat (by omega), HP1.out] at h3
      have H3 : Hid (Wr 34 w3 wb P1 (badSv (l.take j))) := Lib.hid (by simpa using h3)
      have HB3 : Hid (Below wb X w3) := Lib.hid (HB2.out.trans hb3)
      have HK3 : Hid (KeepW X w3 wb) := Lib.hid (HK2.out.trans hk3)
      clear h3 hb3 hk3 HF2 q0 q1
      go_wp2_with fail
      go_loopw [6, 7, 8] (fun v _ _ wr => ∃ k : Nat, k ≤ nj ∧ v = .int .i64 (k : Int) ∧ Hid (Wr 34 wr wb (P1 ++ fl rlO (rls.take k)) (badSv (l.take j) || badRl (rls.take k))) ∧ Hid (Below wb X wr) ∧ Hid (KeepW X wr wb)) (fun v _ _ _ => nj - (intOf v).toNat)
      case atStart => exact ⟨0, Nat.zero_le _, rfl, Lib.hid (by simpa [fl, badRl] using H3.out), HB3, HK3⟩
      case round =>
        obtain ⟨wm, hwm⟩ : ∃ x, x = wr := ⟨_, rfl⟩
        subst hwm
        obtain ⟨k, hk, rfl, HWm, HBm, HKm⟩ := hrel
        obtain ⟨q0, q1, _, _⟩ := row2 (HS5.out wm HKm.out)
        by_cases hkn : k < nj
        · have hd2 : decide ((k : Int) < (nj : Int)) = true := by simp; omega
          have hi2 : (k : Int) < (nj : Int) := by omega
          have hadd2 : IntKind.i64.wrap ((k : Int) + 1) = ((k + 1 : Nat) : Int) := by rw [IntWalk.i64_in _ (by omega)]; omega
          have hkl : k < rls.length := by rw [HNJ.out]; exact hkn
          have hsz := HSZ.out.2.2 _ (getD_mem hkl)
          obtain ⟨b2, o2, vs2, rfl, _, hb2B, _, hcs, hit⟩ := (HRX.out.below re_turns (HBm.out.mono hB)).2 k hkn
          obtain ⟨x, HXk⟩ : ∃ x, Hid (rls.getD k default = x) := ⟨_, Lib.hid rfl⟩
          have hlk := fl_at rlO rls k hkl
          rw [HXk.out] at hit hsz hlk
          obtain ⟨⟨va, vb, vc, vs1⟩, lv, nds⟩ := x
          obtain ⟨Ak, nk, ck, rfl, hitr⟩ := hit.parts
          have hitr : RdN wm B Ak nk nds := hitr.rdB
          have k0 := hcs 0 _ rfl
          have k1 := hcs 1 _ rfl
          have k2 := hcs 2 _ rfl
          have k3 := hcs 3 _ rfl
          have k4 := hcs 4 _ rfl
          have k5 := hcs 5 _ rfl
          simp only [Nat.add_zero] at k0 k1 k2 k3 k4 k5
          have HNK : Hid (nds.length = nk) := Lib.hid hitr.1
          have hnk : nk ≤ 100000 := by have h1 : nds.length = nk := hitr.1; have h2 : nds.length ≤ 100000 := hsz.2.1; omega
          have hwl2 := HWm.out.lt
          obtain ⟨Y, HYY⟩ : ∃ Y, Hid (Y = wm.alloc (.cells #[.int .i64 va, .int .i64 vb, .int .i64 vc, .string vs1, .int .i64 lv, .slice Ak nk ck] 102)) := ⟨_, Lib.hid rfl⟩
          have hzY : Y.heap.size = wm.heap.size + 1 := by rw [HYY.out]; simp
          have HWY : Hid (Wr 34 Y wb (P1 ++ fl rlO (rls.take k)) (badSv (l.take j) || badRl (rls.take k))) := Lib.hid (by rw [HYY.out]; exact HWm.out.alloc _)
          have HKY : Hid (KeepW wm Y wb) := Lib.hid (by rw [HYY.out]; exact KeepW.alloc hwl2 _)
          have hby : Below wb wm Y := by rw [HYY.out]; exact (Below.refl wb wm).alloc (by omega) _
          have HBY2 := Lib.hid hby
          have hcb : Y.heap[wm.heap.size]? = some (.cells #[.int .i64 va, .int .i64 vb, .int .i64 vc, .string vs1, .int .i64 lv, .slice Ak nk ck] 102 (0, 0)) := by rw [HYY.out]; exact heap_new wm _
          have hN1 : ¬ OwnW Y wb wm.heap.size := ownW_new HWm.out (Nat.le_refl _) (by rw [HYY.out]; exact Below.heap_alloc wm _ wb hwl2)
          have HS7 : Hid (∀ w', KeepW Y w' wb → w'.heap[wm.heap.size]? = some (.cells #[.int .i64 va, .int .i64 vb, .int .i64 vc, .string vs1, .int .i64 lv, .slice Ak nk ck] 102 (0, 0))) := Lib.hid (fun w' hk => (hk.block wm.heap.size (by omega) (by omega) hN1).trans hcb)
          have HRY : Hid (RdN Y B Ak nk nds) := Lib.hid (hitr.below (hby.mono hB))
          have HSZ2 : Hid (vs1.size ≤ 1000000 ∧ ShN nds) := Lib.hid hsz
          have HLK : Hid ((fl rlO (rls.take k)).length + ((verO va vb vc vs1).length + ((outI lv).length + ((enc nk).length + (outN nds).length))) ≤ (fl rlO rls).length) := Lib.hid (by
            have e1 : (rlO ((va, vb, vc, vs1), lv, nds)).length = (verO va vb vc vs1).length + ((outI lv).length + (lsE pinO nds).length) := by unfold rlO verOt; rw [List.length_append, List.length_append]
            have e2 := lsE_len pinO nds
            have e3 : (fl pinO nds).length = (outN nds).length := rfl
            rw [HNK.out] at e2
            omega)
          obtain ⟨P2, HP2⟩ : ∃ P2, Hid (P1 ++ fl rlO (rls.take k) ++ verO va vb vc vs1 ++ outI lv ++ enc nk = P2) := ⟨_, Lib.hid rfl⟩
          obtain ⟨f2, HF2⟩ : ∃ f2, Hid ((badSv (l.take j) || badRl (rls.take k) || verB va vb vc || !okI lv) = f2) := ⟨_, Lib.hid rfl⟩
          have HT2 : Hid (P2.length + (outN nds).length ≤ 400000010) := Lib.hid (by
            have h4 := HT1.out
            have h5 := HLK.out
            rw [← HP2.out, List.length_append, List.length_append, List.length_append, List.length_append]
            omega)
          have HNEXT : Hid (P2 ++ outN nds = P1 ++ fl rlO (rls.take (k + 1)) ∧ (f2 || badN nds) = (badSv (l.take j) || badRl (rls.take (k + 1)))) := Lib.hid (by
            rw [take_d rls k hkl, fl_snoc, badRl_snoc, HXk.out, ← HP2.out, ← HF2.out]
            constructor
            · unfold rlO verOt lsE
              rw [HNK.out, show fl pinO nds = outN nds from rfl]
              simp only [List.append_assoc]
            · unfold rlB verBt
              simp only [Bool.or_assoc])
          have HF := Lib.hid (versionW_any HWY.out va vb vc vs1 HSZ2.out.1 (by
            have h4 := HT1.out
            have h5 := HLK.out
            rw [List.length_append]
            omega))
          have hYlt : wb < Y.heap.size := by omega
          obtain ⟨m0, m1, m2, m3, m4, m5⟩ := cells6 hcb
          clear hcs hit hitr hsz hlk hzY hby hcb hN1 HWY
          go_upto_region 12 with fail
          change Code.wp _ _ _ _ (wm.alloc (.cells #[.int .i64 va, .int .i64 vb, .int .i64 vc, .string vs1, .int .i64 lv, .slice Ak nk ck] 102))
          rw [← HYY.out]
          clear k0 k1 k2 k3 k4 k5 q0 q1
          go_wp2_with fail
          refine HF.out.mono ?_
          rintro e w4 ⟨rfl, h4, hb4, hk4⟩
          have hq := HS7.out w4 hk4
          clear m0 m1 m2 m3 m4 m5
          obtain ⟨m0, m1, m2, m3, m4, m5⟩ := cells6 hq
          have HB4 := Lib.hid hb4
          have HK4 := Lib.hid hk4
          have HF4 := Lib.hid (numW_any h4 lv (by
            have h4 := HT1.out
            have h5 := HLK.out
            rw [List.length_append, List.length_append]
            have h6 := enc_pos nk
            omega))
          clear h4 hb4 hk4 hq HF
          go_wp2_with fail
          refine HF4.out.mono ?_
          rintro e w5 ⟨rfl, h5, hb5, hk5⟩
          have HB5 := Lib.hid (HB4.out.trans hb5)
          have HK5 := Lib.hid (HK4.out.trans hk5)
          have hq := HS7.out w5 HK5.out
          clear m0 m1 m2 m3 m4 m5
          obtain ⟨m0, m1, m2, m3, m4, m5⟩ := cells6 hq
          have HF5 := Lib.hid (numW_any h5 (nk : Int) (by
            have h4 := HT1.out
            have h5 := HLK.out
            rw [List.length_append, List.length_append, List.length_append]
            have h6 := enc_pos nk
            omega))
          clear h5 hb5 hk5 hq HF4
          go_wp2_with fail
          refine HF5.out.mono ?_
          rintro e w6 ⟨rfl, h6, hb6, hk6⟩
          rw [outI_nat (by omega), okI_nat (by omega), HP2.out, HF2.out] at h6
          have H6 : Hid (Wr 34 w6 wb P2 f2) := Lib.hid (by simpa using h6)
          have HB6 : Hid (Below wb Y w6) := Lib.hid (HB5.out.trans hb6)
          have HK6 : Hid (KeepW Y w6 wb) := Lib.hid (HK5.out.trans hk6)
          clear h6 hb6 hk6 HF5 m0 m1 m2 m3 m4 m5
          go_wp2_with fail
          go_loopw [8] (fun v wr => ∃ i : Nat, i ≤ nk ∧ v = .int .i64 (i : Int) ∧ Hid (Wr 34 wr wb (P2 ++ outN (nds.take i)) (f2 || badN (nds.take i))) ∧ Hid (Below wb Y wr) ∧ Hid (KeepW Y wr wb)) (fun v _ => nk - (intOf v).toNat)
          case atStart => exact ⟨0, Nat.zero_le _, rfl, Lib.hid (by simpa [outN, badN] using H6.out), HB6, HK6⟩
          case round =>
            obtain ⟨wi, hwi⟩ : ∃ x, x = wr := ⟨_, rfl⟩
            subst hwi
            obtain ⟨i, hii, rfl, HWi, HBi, HKi⟩ := hrel
            obtain ⟨m0, m1, m2, m3, m4, m5⟩ := cells6 (HS7.out wi HKi.out)
            by_cases hin : i < nk
            · have hd3 : decide ((i : Int) < (nk : Int)) = true := by simp; omega
              have hi3 : (i : Int) < (nk : Int) := by omega
              have hadd3 : IntKind.i64.wrap ((i : Int) + 1) = ((i + 1 : Nat) : Int) := by rw [IntWalk.i64_in _ (by omega)]; omega
              have hil : i < nds.length := by rw [HNK.out]; exact hin
              have hsz := HSZ2.out.2.2 _ (pnAt_mem hil)
              obtain ⟨b3, o3, As, ns, cs, rfl, hb3B, u0, u1, u2⟩ := (HRY.out.below (HBi.out.mono hB)).2 i hin
              obtain ⟨x, HXi⟩ : ∃ x, Hid (pnAt nds i = x) := ⟨_, Lib.hid rfl⟩
              have hli := outN_at nds i hil
              rw [HXi.out] at u0 u2 hsz hli
              obtain ⟨sv, rg⟩ := x
              simp only at u0 u2 hsz
              have HSR := Lib.hid hsz
              have HRG := Lib.hid u2
              have HLI : Hid ((outN (nds.take i)).length + ((outI sv).length + (outL rg).length) ≤ (outN nds).length) := Lib.hid (by
                unfold pinO rngO at hli
                rw [List.length_append, List.length_append] at hli
                dsimp only at hli
                omega)
              have HC := Lib.hid (numW_any HWi.out sv (by
                have h2 := HLI.out
                have h4 := HT2.out
                rw [List.length_append]
                omega))
              have HK1C : Hid (∀ w', Below wb wi w' → w'.cell? ⟨b3, o3 + i * 2 + 1, none⟩ = some (.slice As ns cs)) := Lib.hid (fun w' hb => (hb.cell (p := ⟨b3, o3 + i * 2 + 1, none⟩) (by show b3 < wb; omega)).trans u1)
              clear hli u2 hsz
              go_wp2_with fail
              refine HC.out.mono ?_
              rintro e w7 ⟨rfl, h7, hb7, hk7⟩
              have hkk := HKi.out.trans hk7
              clear m0 m1 m2 m3 m4 m5
              obtain ⟨m0, m1, m2, m3, m4, m5⟩ := cells6 (HS7.out w7 hkk)
              have z1 := HK1C.out w7 hb7
              have HB7 := Lib.hid (HBi.out.trans hb7)
              have HK7 := Lib.hid hkk
              have HS := Lib.hid (rangedW_any (c := cs) h7 (HRG.out.below (hb7.mono hB)) hB HSR.out (by
                have h2 := HLI.out
                have h4 := HT2.out
                rw [List.length_append, List.length_append]
                omega))
              clear h7 hb7 hk7 hkk HC u0 u1
              go_wp2_with fail
              refine HS.out.mono ?_
              rintro e w8 ⟨rfl, h8, hb8, hk8⟩
              have H8 : Hid (Wr 34 w8 wb (P2 ++ outN (nds.take (i + 1))) (f2 || badN (nds.take (i + 1)))) := Lib.hid (by
                rw [take_pn nds i hil, outN_snoc, badN_snoc, HXi.out]
                unfold pinO pinB
                rw [← List.append_assoc, ← List.append_assoc, ← Bool.or_assoc, ← Bool.or_assoc]
                exact h8)
              have HB8 := Lib.hid (HB7.out.trans hb8)
              have HK8 := Lib.hid (HK7.out.trans hk8)
              clear h8 hb8 hk8 m0 m1 m2 m3 m4 m5 z1
              go_wp2_with fail
              go_roundw
              case rel => exact ⟨i + 1, by omega, by go_num, H8, HB8, HK8⟩
              case measure => simp [intOf]; omega
            · have hd3 : decide ((i : Int) < (nk : Int)) = false := by simp; omega
              obtain rfl : i = nk := by omega
              have HWn : Hid (Wr 34 wi wb (P1 ++ fl rlO (rls.take (k + 1))) (badSv (l.take j) || badRl (rls.take (k + 1)))) := Lib.hid (by
                have := HWi.out
                rw [List.take_of_length_le (by rw [HNK.out]; omega), HNEXT.out.1, HNEXT.out.2] at this
                exact this)
              have HBn : Hid (Below wb X wi) := Lib.hid (HBm.out.trans (HBY2.out.trans HBi.out))
              have HKn : Hid (KeepW X wi wb) := Lib.hid (HKm.out.trans (HKY.out.trans HKi.out))
              clear m0 m1 m2 m3 m4 m5
              obtain ⟨m0, m1, m2, m3, m4, m5⟩ := cells6 (HS7.out wi HKi.out)
              go_wp2_with fail
              go_roundw
              case rel => exact ⟨k + 1, by omega, by go_num, HWn, HBn, HKn⟩
              case measure => simp [intOf]; omega
        · have hd2 : decide ((k : Int) < (nj : Int)) = false := by simp; omega
          obtain rfl : k = nj := by omega
          have HWn : Hid (Wr 34 wm wb (enc n ++ fl svO (l.take (j + 1))) (badSv (l.take (j + 1)))) := Lib.hid (by
            have := HWm.out
            rw [List.take_of_length_le (by rw [HNJ.out]; omega), ← HP1.out] at this
            rw [take_d l j hjl, fl_snoc, badSv_snoc, HX.out]
            rw [show svO (sn, rls) = (enc sn.size ++ bsS sn) ++ (enc rls.length ++ fl rlO rls) from rfl, show svB (sn, rls) = badRl rls from rfl, HNJ.out]
            simp only [List.append_assoc] at this ⊢
            exact this)
          have HBn : Hid (Below wb W wm) := Lib.hid (HB.out.trans (HBX2.out.trans HBm.out))
          have HKn : Hid (KeepW W wm wb) := Lib.hid (HK.out.trans (HKX.out.trans HKm.out))
          go_wp2_with fail
          go_roundw
          case rel => exact ⟨j + 1, by omega, by go_num, HWn, HBn, HKn⟩
          case measure => simp [intOf]; omega
    · have hd : decide ((j : Int) < (n : Int)) = false := by simp; omega
      obtain rfl : j = n := by omega
      have HF : Hid (Wr 34 wo wb (catO l) (badSv l)) := Lib.hid (by
        have := HW.out
        rw [List.take_of_length_le (by rw [HLL.out]; omega)] at this
        unfold catO lsE
        rw [HLL.out]
        exact this)
      have HBF := Lib.hid (HB0.out.trans HB.out)
      have HKF := Lib.hid (HK0.out.trans HK.out)
      go_wp2_with fail
      go_end0
      exact ⟨rfl, HF.out, HBF.out, HKF.out⟩
end Go.Proofs.Ytmfoammkcokcoaa
