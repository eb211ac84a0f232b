/-
 CONTRACT: Replay (printed by gengry.py).
-/
import Derived.Test.YtolgmoaoheflcaaGRp
namespace Go.Proofs.Ytolgmoaoheflcaa.Sa
open Go.RowKit
open DiP
set_option linter.unusedVariables false
set_option linter.unusedSimpArgs false
set_option maxRecDepth 10000
def repS (l : List RcV) : Nat → StV
 | 0 => st0
 | k + 1 => takeS (repS l k) (rcAt l k)
theorem repS_inv {l : List RcV} : ∀ k, (∀ i, i < k → takeE (repS l i) (rcAt l i) = 0) → InvS (repS l k)
 | 0, _ => InvS.start
 | k + 1, h => (repS_inv k (fun i hi => h i (by omega))).take (h k (by omega))
/-- How far a list is taken. -/
def RepTo (l : List RcV) (j : Nat) (er : Int) : Prop := (∀ i, i < j → takeE (repS l i) (rcAt l i) = 0) ∧ ((j = l.length ∧ er = 0) ∨ (j < l.length ∧ er = takeE (repS l j) (rcAt l j) ∧ er ≠ 0))
theorem RcW.of {w : World} {B : Nat} {BF BT BS BE : Option Addr} {mF mT mS mE : Nat} {r : RcV} {kd sp : Int} (h : PlR w B BF mF BT mT BS mS BE mE r.pl) (hs : szB r.pl = true) (hk : r.kind = kd) (hp : r.step = sp) : RcW w B kd sp BF mF BT mT BS mS BE mE r := ⟨h.plw hs, hk, hp⟩
set_option maxHeartbeats 8000000 in
theorem replay_any {w : World} {B n c : Nat} {A : Option Addr} {l : List RcV} (h : RdL w B A n l) (hB : B ≤ w.heap.size) (hs : ∀ j, j < l.length → szB (rcAt l j).pl = true) :
 Calls Try.prog 27 #[.slice A n c] w fun e w' => Below w.heap.size w w' ∧ ∃ (j : Nat) (er : Int), RepTo l j er ∧ ∃ num ph A1 n1 c1 A2 n2 c2 A3 n3 c3 A4 n4 c4 A5 n5 c5 A6 n6 c6, e = .returned (.tuple #[.agg #[.int .i64 num, .int .i64 ph, .slice A1 n1 c1, .slice A2 n2 c2, .slice A3 n3 c3, .slice A4 n4 c4, .slice A5 n5 c5, .slice A6 n6 c6], .int .i64 (j : Int), .int .i64 er]) ∧ StO w' w.heap.size num ph A1 n1 c1 A2 n2 c2 A3 n3 c3 A4 n4 c4 A5 n5 c5 A6 n6 c6 (repS l j) := by
 have HL := Lib.hid h
 have HBW := Lib.hid hB
 have HLN : Hid (l.length = n) := Lib.hid h.len
 have HSZ := Lib.hid hs
 have hmx := h.mx
 clear h hB hs
 obtain ⟨W, HW⟩ : ∃ W, Hid (W = w.alloc (.cells #[.int .i64 0, .int .i64 0, .slice none 0 0, .slice none 0 0, .slice none 0 0, .slice none 0 0, .slice none 0 0, .slice none 0 0] 31)) := ⟨_, Lib.hid rfl⟩
 have HBL : Hid (Below w.heap.size w W) := Lib.hid (by rw [HW.out]; exact (Below.refl _ w).alloc (Nat.le_refl _) _)
 have H0 : Hid (W.heap[w.heap.size]? = some (.cells #[.int .i64 0, .int .i64 0, .slice none 0 0, .slice none 0 0, .slice none 0 0, .slice none 0 0, .slice none 0 0, .slice none 0 0] 31 (0, 0))) := Lib.hid (by rw [HW.out]; exact heap_new w _)
 go_enter Try.func27, Try.ntmps27
 go_upto_region 1 with fail
 change Code.wp _ _ _ _ (w.alloc (.cells #[.int .i64 0, .int .i64 0, .slice none 0 0, .slice none 0 0, .slice none 0 0, .slice none 0 0, .slice none 0 0, .slice none 0 0] 31))
 rw [← HW.out]
 go_wp2_with fail
 go_loopw [5, 6, 7, 8, 11] (fun _ _ _ _ v wr => ∃ k : Nat, k ≤ n ∧ v = .int .i64 (k : Int) ∧ ∃ num ph A1 n1 c1 A2 n2 c2 A3 n3 c3 A4 n4 c4 A5 n5 c5 A6 n6 c6, Hid (Below w.heap.size w wr) ∧ Hid (wr.heap[w.heap.size]? = some (.cells #[.int .i64 num, .int .i64 ph, .slice A1 n1 c1, .slice A2 n2 c2, .slice A3 n3 c3, .slice A4 n4 c4, .slice A5 n5 c5, .slice A6 n6 c6] 31 (0, 0))) ∧ Hid (StO wr w.heap.size num ph A1 n1 c1 A2 n2 c2 A3 n3 c3 A4 n4 c4 A5 n5 c5 A6 n6 c6 (repS l k)) ∧ Hid (∀ i, i < k → takeE (repS l i) (rcAt l i) = 0)) (fun _ _ _ _ v _ => n - (intOf v).toNat)
 case atStart => exact ⟨0, Nat.zero_le _, rfl, 0, 0, none, 0, 0, none, 0, 0, none, 0, 0, none, 0, 0, none, 0, 0, none, 0, 0, HBL, H0, Lib.hid StO.nil_, Lib.hid (fun i h => absurd h (by omega))⟩
 case round =>
  obtain ⟨wo, hwo⟩ : ∃ x, x = wr := ⟨_, rfl⟩
  subst hwo
  obtain ⟨k, hk, rfl, num, ph, A1, n1, c1, A2, n2, c2, A3, n3, c3, A4, n4, c4, A5, n5, c5, A6, n6, c6, HBo, HHo, HSo, HOK⟩ := hrel
  by_cases hkn : k < n
  ·have hd : decide ((k : Int) < (n : Int)) = true := by simp; omega
   have hki : (k : Int) < (n : Int) := by omega
   have hadd : IntKind.i64.wrap ((k : Int) + 1) = ((k + 1 : Nat) : Int) := by rw [IntWalk.i64_in _ (by omega)]; omega
   obtain ⟨b, off, BF, mF, dF, BT, mT, dT, BS, mS, dS, BE, mE, dE, hA, hbB, kc0, kc1, kc2, kc3, kc4, kc5, hp⟩ := HL.out.at_ k hkn
   subst hA
   have kc0 := (HBo.out.cell (p := ⟨b, off + k * 6, none⟩) (by exact Nat.lt_of_lt_of_le hbB HBW.out)).trans kc0
   have kc1 := (HBo.out.cell (p := ⟨b, off + k * 6 + 1, none⟩) (by exact Nat.lt_of_lt_of_le hbB HBW.out)).trans kc1
   have kc2 := (HBo.out.cell (p := ⟨b, off + k * 6 + 2, none⟩) (by exact Nat.lt_of_lt_of_le hbB HBW.out)).trans kc2
   have kc3 := (HBo.out.cell (p := ⟨b, off + k * 6 + 3, none⟩) (by exact Nat.lt_of_lt_of_le hbB HBW.out)).trans kc3
   have kc4 := (HBo.out.cell (p := ⟨b, off + k * 6 + 4, none⟩) (by exact Nat.lt_of_lt_of_le hbB HBW.out)).trans kc4
   have kc5 := (HBo.out.cell (p := ⟨b, off + k * 6 + 5, none⟩) (by exact Nat.lt_of_lt_of_le hbB HBW.out)).trans kc5
   have HPR := Lib.hid hp
   obtain ⟨kd, HKD⟩ : ∃ q, Hid ((rcAt l k).kind = q) := ⟨_, Lib.hid rfl⟩
   obtain ⟨sp, HSP⟩ : ∃ q, Hid ((rcAt l k).step = q) := ⟨_, Lib.hid rfl⟩
   rw [HKD.out] at kc0
   rw [HSP.out] at kc1
   clear hp
   obtain ⟨X, HXE⟩ : ∃ X, Hid (X = wo.alloc (.cells #[.int .i64 kd, .int .i64 sp, .slice BF mF dF, .slice BT mT dT, .slice BS mS dS, .slice BE mE dE] 33)) := ⟨_, Lib.hid rfl⟩
   have hxb : Below wo.heap.size wo X := by rw [HXE.out]; exact (Below.refl _ wo).alloc (Nat.le_refl _) _
   have HBX : Hid (Below w.heap.size w X) := Lib.hid (HBo.out.trans (hxb.mono HBo.out.size))
   have HN : Hid (X.heap[wo.heap.size]? = some (.cells #[.int .i64 kd, .int .i64 sp, .slice BF mF dF, .slice BT mT dT, .slice BS mS dS, .slice BE mE dE] 33 (0, 0))) := Lib.hid (by rw [HXE.out]; exact heap_new wo _)
   have HHX : Hid (X.heap[w.heap.size]? = some (.cells #[.int .i64 num, .int .i64 ph, .slice A1 n1 c1, .slice A2 n2 c2, .slice A3 n3 c3, .slice A4 n4 c4, .slice A5 n5 c5, .slice A6 n6 c6] 31 (0, 0))) := Lib.hid ((hxb.block _ (heapE_lt HHo.out)).trans HHo.out)
   obtain ⟨q0, q1, q2, q3, q4, q5⟩ := row6 HN.out
   obtain ⟨x0, x1, x2, x3, x4, x5, x6, x7⟩ := row8 HHX.out
   have HSX := Lib.hid (HSo.out.kept hxb)
   have HINV := Lib.hid (repS_inv k HOK.out)
   have HC := Lib.hid (take_any (w := X) (r := rcAt l k) (dF := dF) (dT := dT) (dS := dS) (dE := dE) HSX.out HINV.out (RcW.of (HPR.out.below (HBX.out.mono HBW.out)) (HSZ.out k (by rw [HLN.out]; exact hkn)) HKD.out HSP.out) (Nat.le_trans HBW.out HBX.out.size))
   obtain ⟨er, HER⟩ : ∃ q, Hid (takeE (repS l k) (rcAt l k) = q) := ⟨_, Lib.hid rfl⟩
   rw [HER.out] at HC
   clear hxb
   go_upto_region 4 with fail
   change Code.wp _ _ _ _ (wo.alloc (.cells #[.int .i64 kd, .int .i64 sp, .slice BF mF dF, .slice BT mT dT, .slice BS mS dS, .slice BE mE dE] 33))
   rw [← HXE.out]
   clear kc0 kc1 kc2 kc3 kc4 kc5
   go_wp2_with fail
   refine HC.out.mono ?_
   rintro e w1 ⟨hb, hc⟩
   have HB1 := Lib.hid (HBX.out.trans (hb.mono HBX.out.size))
   have HS1 := Lib.hid (HSX.out.kept hb)
   have HH1 : Hid (w1.heap[w.heap.size]? = some (.cells #[.int .i64 num, .int .i64 ph, .slice A1 n1 c1, .slice A2 n2 c2, .slice A3 n3 c3, .slice A4 n4 c4, .slice A5 n5 c5, .slice A6 n6 c6] 31 (0, 0))) := Lib.hid ((hb.block _ (heapE_lt HHX.out)).trans HHX.out)
   have HLE : Hid (w.heap.size ≤ X.heap.size) := Lib.hid HBX.out.size
   clear hb q0 q1 q2 q3 q4 q5 x0 x1 x2 x3 x4 x5 x6 x7 HC
   rcases hc with ⟨hne, rfl⟩ | ⟨he0, num2, ph2, B1, m1, d1, B2, m2, d2, B3, m3, d3, B4, m4, d4, B5, m5, d5, B6, m6, d6, rfl, hst⟩
   ·have hnb : (er != 0) = true := by rw [bne_iff_ne]; exact hne
    have HRT : Hid (RepTo l k er) := Lib.hid ⟨HOK.out, .inr ⟨by rw [HLN.out]; exact hkn, HER.out.symm, hne⟩⟩
    obtain ⟨Y, HYE⟩ : ∃ Y, Hid (Y = w1.alloc (.cells #[.int .i64 0, .int .i64 0, .slice none 0 0, .slice none 0 0, .slice none 0 0, .slice none 0 0, .slice none 0 0, .slice none 0 0] 31)) := ⟨_, Lib.hid rfl⟩
    have hyb : Below w1.heap.size w1 Y := by rw [HYE.out]; exact (Below.refl _ w1).alloc (Nat.le_refl _) _
    have HHY : Hid (Y.heap[w.heap.size]? = some (.cells #[.int .i64 num, .int .i64 ph, .slice A1 n1 c1, .slice A2 n2 c2, .slice A3 n3 c3, .slice A4 n4 c4, .slice A5 n5 c5, .slice A6 n6 c6] 31 (0, 0))) := Lib.hid ((hyb.block _ (heapE_lt HH1.out)).trans HH1.out)
    have HSY := Lib.hid (HS1.out.kept hyb)
    have HBY := Lib.hid (HB1.out.trans (hyb.mono HB1.out.size))
    have HFH : Hid ((set8 Y w.heap.size (.int .i64 num) (.int .i64 ph) (.slice A1 n1 c1) (.slice A2 n2 c2) (.slice A3 n3 c3) (.slice A4 n4 c4) (.slice A5 n5 c5) (.slice A6 n6 c6)).heap[w.heap.size]? = _) := Lib.hid (set8_same HHY.out)
    have HBF : Hid (Below w.heap.size w (set8 Y w.heap.size (.int .i64 num) (.int .i64 ph) (.slice A1 n1 c1) (.slice A2 n2 c2) (.slice A3 n3 c3) (.slice A4 n4 c4) (.slice A5 n5 c5) (.slice A6 n6 c6))) := Lib.hid (set8_below HBY.out (Nat.le_refl _))
    have hot : ∀ k, k < Y.heap.size → k ≠ w.heap.size → (set8 Y w.heap.size (.int .i64 num) (.int .i64 ph) (.slice A1 n1 c1) (.slice A2 n2 c2) (.slice A3 n3 c3) (.slice A4 n4 c4) (.slice A5 n5 c5) (.slice A6 n6 c6)).heap[k]? = Y.heap[k]? := fun k _ hne => set8_other hne
    have HSF := Lib.hid (HSY.out.apart HHY.out (by decide) (by decide) (by decide) hot)
    obtain ⟨r0, r1, r2, r3, r4, r5, r6, r7⟩ := row8 HFH.out
    have HR8 := Lib.hid (And.intro r0 (And.intro r1 (And.intro r2 (And.intro r3 (And.intro r4 (And.intro r5 (And.intro r6 r7)))))))
    obtain ⟨x0, x1, x2, x3, x4, x5, x6, x7⟩ := row8 HHY.out
    have xf := free_row HHY.out
    clear r0 r1 r2 r3 r4 r5 r6 r7 hot hyb hne
    go_upto_region 5 with fail
    change Code.wp _ _ _ _ (w1.alloc (.cells #[.int .i64 0, .int .i64 0, .slice none 0 0, .slice none 0 0, .slice none 0 0, .slice none 0 0, .slice none 0 0, .slice none 0 0] 31))
    rw [← HYE.out]
    go_wp2_with fail
    refine bodyPost_ret (v := .tuple #[.agg #[.int .i64 num, .int .i64 ph, .slice A1 n1 c1, .slice A2 n2 c2, .slice A3 n3 c3, .slice A4 n4 c4, .slice A5 n5 c5, .slice A6 n6 c6], .int .i64 (k : Int), .int .i64 er]) ?_ rfl ⟨HBF.out, k, er, HRT.out, num, ph, A1, n1, c1, A2, n2, c2, A3, n3, c3, A4, n4, c4, A5, n5, c5, A6, n6, c6, rfl, HSF.out⟩
    obtain ⟨r0, r1, r2, r3, r4, r5, r6, r7⟩ := HR8.out
    unfold set8 at r0 r1 r2 r3 r4 r5 r6 r7
    rw [results_cell_tmp3 rfl]; go_simp
   ·subst he0
    have HTS : Hid (takeS (repS l k) (rcAt l k) = repS l (k + 1)) := Lib.hid rfl
    have HST := Lib.hid (hst.less HLE.out)
    rw [HTS.out] at HST
    obtain ⟨Y, HYE⟩ : ∃ Y, Hid (Y = w1.alloc (.cells #[.int .i64 num2, .int .i64 ph2, .slice B1 m1 d1, .slice B2 m2 d2, .slice B3 m3 d3, .slice B4 m4 d4, .slice B5 m5 d5, .slice B6 m6 d6] 31)) := ⟨_, Lib.hid rfl⟩
    have hyb : Below w1.heap.size w1 Y := by rw [HYE.out]; exact (Below.refl _ w1).alloc (Nat.le_refl _) _
    have HHY : Hid (Y.heap[w.heap.size]? = some (.cells #[.int .i64 num, .int .i64 ph, .slice A1 n1 c1, .slice A2 n2 c2, .slice A3 n3 c3, .slice A4 n4 c4, .slice A5 n5 c5, .slice A6 n6 c6] 31 (0, 0))) := Lib.hid ((hyb.block _ (heapE_lt HH1.out)).trans HH1.out)
    have HNY : Hid (Y.heap[w1.heap.size]? = some (.cells #[.int .i64 num2, .int .i64 ph2, .slice B1 m1 d1, .slice B2 m2 d2, .slice B3 m3 d3, .slice B4 m4 d4, .slice B5 m5 d5, .slice B6 m6 d6] 31 (0, 0))) := Lib.hid (by rw [HYE.out]; exact heap_new w1 _)
    have HSY := Lib.hid (HST.out.kept hyb)
    have HBY := Lib.hid (HB1.out.trans (hyb.mono HB1.out.size))
    have HFH : Hid ((set8 Y w.heap.size (.int .i64 num2) (.int .i64 ph2) (.slice B1 m1 d1) (.slice B2 m2 d2) (.slice B3 m3 d3) (.slice B4 m4 d4) (.slice B5 m5 d5) (.slice B6 m6 d6)).heap[w.heap.size]? = _) := Lib.hid (set8_same HHY.out)
    have HBF : Hid (Below w.heap.size w (set8 Y w.heap.size (.int .i64 num2) (.int .i64 ph2) (.slice B1 m1 d1) (.slice B2 m2 d2) (.slice B3 m3 d3) (.slice B4 m4 d4) (.slice B5 m5 d5) (.slice B6 m6 d6))) := Lib.hid (set8_below HBY.out (Nat.le_refl _))
    have hot : ∀ k, k < Y.heap.size → k ≠ w.heap.size → (set8 Y w.heap.size (.int .i64 num2) (.int .i64 ph2) (.slice B1 m1 d1) (.slice B2 m2 d2) (.slice B3 m3 d3) (.slice B4 m4 d4) (.slice B5 m5 d5) (.slice B6 m6 d6)).heap[k]? = Y.heap[k]? := fun k _ hne => set8_other hne
    have HSF := Lib.hid (HSY.out.apart HHY.out (by decide) (by decide) (by decide) hot)
    obtain ⟨x0, x1, x2, x3, x4, x5, x6, x7⟩ := row8 HHY.out
    have xf := free_row HHY.out
    obtain ⟨y0, y1, y2, y3, y4, y5, y6, y7⟩ := row8 HNY.out
    clear hot hyb hst
    go_upto_region 5 with fail
    change Code.wp _ _ _ _ (w1.alloc (.cells #[.int .i64 num2, .int .i64 ph2, .slice B1 m1 d1, .slice B2 m2 d2, .slice B3 m3 d3, .slice B4 m4 d4, .slice B5 m5 d5, .slice B6 m6 d6] 31))
    rw [← HYE.out]
    go_wp2_with fail
    go_roundw
    case rel => exact ⟨k + 1, by omega, by go_num, num2, ph2, B1, m1, d1, B2, m2, d2, B3, m3, d3, B4, m4, d4, B5, m5, d5, B6, m6, d6, HBF, HFH, HSF, Lib.hid (fun i hi => by
     by_cases e : i = k
     ·subst e; exact HER.out
     ·exact HOK.out i (by omega))⟩
    case measure => simp [intOf]; omega
  ·have hd : decide ((k : Int) < (n : Int)) = false := by simp; omega
   obtain rfl : k = n := by omega
   have HRT : Hid (RepTo l k 0) := Lib.hid ⟨HOK.out, .inl ⟨HLN.out.symm, rfl⟩⟩
   have HFH : Hid ((set8 wo w.heap.size (.int .i64 num) (.int .i64 ph) (.slice A1 n1 c1) (.slice A2 n2 c2) (.slice A3 n3 c3) (.slice A4 n4 c4) (.slice A5 n5 c5) (.slice A6 n6 c6)).heap[w.heap.size]? = _) := Lib.hid (set8_same HHo.out)
   have HBF : Hid (Below w.heap.size w (set8 wo w.heap.size (.int .i64 num) (.int .i64 ph) (.slice A1 n1 c1) (.slice A2 n2 c2) (.slice A3 n3 c3) (.slice A4 n4 c4) (.slice A5 n5 c5) (.slice A6 n6 c6))) := Lib.hid (set8_below HBo.out (Nat.le_refl _))
   have hot : ∀ k, k < wo.heap.size → k ≠ w.heap.size → (set8 wo w.heap.size (.int .i64 num) (.int .i64 ph) (.slice A1 n1 c1) (.slice A2 n2 c2) (.slice A3 n3 c3) (.slice A4 n4 c4) (.slice A5 n5 c5) (.slice A6 n6 c6)).heap[k]? = wo.heap[k]? := fun k _ hne => set8_other hne
   have HSF := Lib.hid (HSo.out.apart HHo.out (by decide) (by decide) (by decide) hot)
   obtain ⟨r0, r1, r2, r3, r4, r5, r6, r7⟩ := row8 HFH.out
   have HR8 := Lib.hid (And.intro r0 (And.intro r1 (And.intro r2 (And.intro r3 (And.intro r4 (And.intro r5 (And.intro r6 r7)))))))
   obtain ⟨x0, x1, x2, x3, x4, x5, x6, x7⟩ := row8 HHo.out
   have xf := free_row HHo.out
   clear r0 r1 r2 r3 r4 r5 r6 r7 hot
   go_wp2_with fail
   refine bodyPost_ret (v := .tuple #[.agg #[.int .i64 num, .int .i64 ph, .slice A1 n1 c1, .slice A2 n2 c2, .slice A3 n3 c3, .slice A4 n4 c4, .slice A5 n5 c5, .slice A6 n6 c6], .int .i64 (k : Int), .int .i64 0]) ?_ rfl ⟨HBF.out, k, 0, HRT.out, num, ph, A1, n1, c1, A2, n2, c2, A3, n3, c3, A4, n4, c4, A5, n5, c5, A6, n6, c6, rfl, HSF.out⟩
   obtain ⟨r0, r1, r2, r3, r4, r5, r6, r7⟩ := HR8.out
   unfold set8 at r0 r1 r2 r3 r4 r5 r6 r7
   rw [results_cell_tmp3 rfl]; go_simp
end Go.Proofs.Ytolgmoaoheflcaa.Sa
