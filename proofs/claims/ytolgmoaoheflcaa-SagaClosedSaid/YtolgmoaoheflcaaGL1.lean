/-
 THE WALK of the statement SagaClosed (printed by gengl1.py).
-/
import Derived.Test.YtolgmoaoheflcaaGAn
import Derived.Test.YtolgmoaoheflcaaGRe
namespace Go.Proofs.Ytolgmoaoheflcaa.Sa
open Go.RowKit
open DiP
set_option linter.unusedVariables false
set_option linter.unusedSimpArgs false
set_option maxRecDepth 10000
theorem inv_graph {s : StV} (h : InvS s) : graphB s.pl.S.length s.pl.E = true := by
 unfold graphB node
 simp only [Bool.and_eq_true, decide_eq_true_eq, List.all_eq_true]
 refine ⟨⟨by have := h.n36; omega, h.e4096⟩, fun e he => ?_⟩
 have := h.ed e he
 omega
theorem clB_all {g : List (Nat × Nat)} {s : Nat} : ∀ k, (∀ i, i < k → bt s (fb g i) = true → bt s (fa g i) = true) → clB g s k = true
 | 0, _ => rfl
 | k + 1, h => by
  have h1 := clB_all k (fun i hi => h i (by omega))
  show (clB g s k && _) = true
  rw [h1, Bool.true_and]
  have h2 := h k (by omega)
  cases hb : bt s (fb g k) with
  | false => rfl
  | true => rw [h2 hb]; rfl
/-- A list that has what stands ahead of all that it has is closed. -/
theorem closed_of_mem {es : List Pr} {L : List Int} {n : Nat} (hg : graphB n es = true) (hL : ∀ k ∈ L, 0 ≤ k) (h : ∀ e ∈ es, e.2 ∈ L → e.1 ∈ L) : closedB (natE es) (setL L) = true := by
 refine clB_all _ (fun i hi hb => ?_)
 rw [natE_len] at hi
 have he := graphB_ed hg (List.getElem_mem hi)
 have e1 : ((fb (natE es) i : Nat) : Int) = es[i].2 := by unfold fb natE; simp [List.getD, hi]; omega
 have e2 : ((fa (natE es) i : Nat) : Int) = es[i].1 := by unfold fa natE; simp [List.getD, hi]; omega
 rw [bt_setL hL, decide_eq_true_eq, e1] at hb
 rw [bt_setL hL, decide_eq_true_eq, e2]
 exact h _ (List.getElem_mem hi) hb
theorem InvS.dnC {s : StV} (h : InvS s) {e : Pr} (he : e ∈ s.pl.E) (hd : e.2 ∈ s.dn) : e.1 ∈ s.dn := by
 obtain ⟨l1, l2, hl⟩ := List.append_of_mem hd
 have := h.cld e he l1 l2 hl
 rw [hl]; simp [this]
theorem setL_swap {a b : List Int} (h : ∀ k ∈ a ++ b, 0 ≤ k) : setL (a ++ b) = setL (b ++ a) := by
 refine ext_bt (fun v => ?_)
 rw [bt_setL h, bt_setL (fun k hk => h k (by simp at hk ⊢; exact hk.symm))]
 have : ((v : Int) ∈ a ++ b) ↔ ((v : Int) ∈ b ++ a) := by simp [or_comm]
 exact decide_eq_decide.2 this
theorem RdE.eg {w : World} {B n N : Nat} {A : Option Addr} {es : List Pr} (h : RdE w B A n es) (hg : graphB N es = true) : RdEg w B A n (natE es) := by unfold RdEg; rw [castE_nat hg]; exact h
theorem not_take {l : List Int} {k : Nat} (hn : l.Nodup) (hk : k < l.length) : ix l k ∉ l.take k := by
 intro h
 have e : l = l.take k ++ l.drop k := (List.take_append_drop k l).symm
 have hd : l.drop k = ix l k :: l.drop (k + 1) := by
  rw [List.drop_eq_getElem_cons hk]; congr 1; unfold ix; simp [List.getD, hk]
 rw [e, hd, List.nodup_append] at hn
 exact hn.2.2 _ h _ (by simp) rfl
set_option maxHeartbeats 32000000 in
theorem law_closed {w : World} {n c : Nat} {A : Option Addr} {l : List RcV} (h : RdL w w.heap.size A n l) :
 Calls Try.prog 3 #[.slice A n c] w fun e w' => e = .returned (.bool true) ∧ Below w.heap.size w w' := by
 have HLW := Lib.hid h
 have HLN : Hid (l.length = n) := Lib.hid h.len
 have hmx := h.mx
 have HAN := Lib.hid (anchor_any w)
 clear h
 go_enter Try.func3, Try.ntmps3
 go_wp2_with fail
 refine HAN.out.mono ?_
 rintro e wa ⟨rfl, hb⟩
 have HBA := Lib.hid hb
 have HLA := Lib.hid (HLW.out.below hb)
 clear hb HAN
 have HSB := Lib.hid (small_any (c := c) HLA.out HBA.out.size 60)
 obtain ⟨sm, HSM⟩ : ∃ q, Hid (smallB l 60 = q) := ⟨_, Lib.hid rfl⟩
 rw [HSM.out] at HSB
 cases sm with
 | false =>
  go_wp2_with fail
  refine HSB.out.mono ?_
  rintro e wb ⟨rfl, hb⟩
  have HBB := Lib.hid (HBA.out.trans (hb.mono HBA.out.size))
  clear hb
  go_wp2_with fail
  exact bodyPost_ret (results_tmp rfl _ _ _) rfl ⟨rfl, HBB.out⟩
 | true =>
 have HSZ := Lib.hid (smallB_sz HSM.out).1
 go_wp2_with fail
 refine HSB.out.mono ?_
 rintro e wb ⟨rfl, hb⟩
 have HBB := Lib.hid (HBA.out.trans (hb.mono HBA.out.size))
 clear hb HSB
 obtain ⟨W, HW⟩ : ∃ W, Hid (W = wb.alloc (.cells #[.int .i64 0, .int .i64 0, .slice none 0 0, .slice none 0 0, .slice none 0 0, .slice none 0 0, .slice none 0 0, .slice none 0 0] 31)) := ⟨_, Lib.hid rfl⟩
 have hwb : Below wb.heap.size wb W := by rw [HW.out]; exact (Below.refl _ wb).alloc (Nat.le_refl _) _
 have HBW0 := Lib.hid (HBB.out.trans (hwb.mono HBB.out.size))
 have H0 : Hid (W.heap[wb.heap.size]? = some (.cells #[.int .i64 0, .int .i64 0, .slice none 0 0, .slice none 0 0, .slice none 0 0, .slice none 0 0, .slice none 0 0, .slice none 0 0] 31 (0, 0))) := Lib.hid (by rw [HW.out]; exact heap_new wb _)
 have HSBG : Hid (w.heap.size ≤ wb.heap.size) := Lib.hid HBB.out.size
 obtain ⟨sb, HSBE⟩ : ∃ q, Hid (wb.heap.size = q) := ⟨_, Lib.hid rfl⟩
 rw [HSBE.out] at H0 HSBG
 clear hwb
 go_upto_region 6 with fail
 change Code.wp _ _ _ _ (wb.alloc (.cells #[.int .i64 0, .int .i64 0, .slice none 0 0, .slice none 0 0, .slice none 0 0, .slice none 0 0, .slice none 0 0, .slice none 0 0] 31))
 rw [HSBE.out]
 rw [← HW.out]
 go_upto_region 7 with fail
 have HBW : Hid (w.heap.size ≤ w.heap.size) := Lib.hid (Nat.le_refl _)
 have HL := HLW
 go_loopw [5, 6, 7, 8, 9, 11, 12, 14, 22] (fun _ _ _ _ _ _ _ _ v wr => ∃ k : Nat, k ≤ n ∧ v = .int .i64 (k : Int) ∧ ∃ num ph A1 n1 c1 A2 n2 c2 A3 n3 c3 A4 n4 c4 A5 n5 c5 A6 n6 c6, ∃ s : StV, Hid (Below w.heap.size w wr) ∧ Hid (wr.heap[sb]? = some (.cells #[.int .i64 num, .int .i64 ph, .slice A1 n1 c1, .slice A2 n2 c2, .slice A3 n3 c3, .slice A4 n4 c4, .slice A5 n5 c5, .slice A6 n6 c6] 31 (0, 0))) ∧ Hid (StO wr 0 num ph A1 n1 c1 A2 n2 c2 A3 n3 c3 A4 n4 c4 A5 n5 c5 A6 n6 c6 s) ∧ Hid (InvS s)) (fun _ _ _ _ _ _ _ _ v _ => n - (intOf v).toNat)
 case atStart => exact ⟨0, Nat.zero_le _, rfl, 0, 0, none, 0, 0, none, 0, 0, none, 0, 0, none, 0, 0, none, 0, 0, none, 0, 0, st0, HBW0, H0, Lib.hid StO.nil_, Lib.hid InvS.start⟩
 case round =>
  obtain ⟨wo, hwo⟩ : ∃ x, x = wr := ⟨_, rfl⟩
  subst hwo
  obtain ⟨k, hk, rfl, num, ph, A1, n1, c1, A2, n2, c2, A3, n3, c3, A4, n4, c4, A5, n5, c5, A6, n6, c6, s, HBo, HHo, HSo, HIo⟩ := hrel
  by_cases hkn : k < n
  ·have hd : decide ((k : Int) < (n : Int)) = true := by simp; omega
   have hki : (k : Int) < (n : Int) := by omega
   have hadd : IntKind.i64.wrap ((k : Int) + 1) = ((k + 1 : Nat) : Int) := by rw [IntWalk.i64_in _ (by omega)]; omega
   obtain ⟨b, off, BF, mF, dF, BT, mT, dT, BS, mS, dS, BE, mE, dE, hA, hbB, kc0, kc1, kc2, kc3, kc4, kc5, hp⟩ := HL.out.at_ k hkn
   subst hA
   have kc0 := (HBo.out.cell (p := ⟨b, off + k * 6, none⟩) (by exact Nat.lt_of_lt_of_le hbB HBW.out)).trans kc0
   have kc1 := (HBo.out.cell (p := ⟨b, off + k * 6 + 1, none⟩) (by exact Nat.lt_of_lt_of_le hbB HBW.out)).trans kc1
   have kc2 := (HBo.out.cell (p := ⟨b, off + k * 6 + 2, none⟩) (by exact Nat.lt_of_lt_of_le hbB HBW.out)).trans kc2
   have kc3 := (HBo.out.cell (p := ⟨b, off + k * 6 + 3, none⟩) (by exact Nat.lt_of_lt_of_le hbB HBW.out)).trans kc3
   have kc4 := (HBo.out.cell (p := ⟨b, off + k * 6 + 4, none⟩) (by exact Nat.lt_of_lt_of_le hbB HBW.out)).trans kc4
   have kc5 := (HBo.out.cell (p := ⟨b, off + k * 6 + 5, none⟩) (by exact Nat.lt_of_lt_of_le hbB HBW.out)).trans kc5
   have HPR := Lib.hid hp
   obtain ⟨kd, HKD⟩ : ∃ q, Hid ((rcAt l k).kind = q) := ⟨_, Lib.hid rfl⟩
   obtain ⟨sp, HSP⟩ : ∃ q, Hid ((rcAt l k).step = q) := ⟨_, Lib.hid rfl⟩
   rw [HKD.out] at kc0
   rw [HSP.out] at kc1
   clear hp
   obtain ⟨X, HXE⟩ : ∃ X, Hid (X = wo.alloc (.cells #[.int .i64 kd, .int .i64 sp, .slice BF mF dF, .slice BT mT dT, .slice BS mS dS, .slice BE mE dE] 33)) := ⟨_, Lib.hid rfl⟩
   have hxb : Below wo.heap.size wo X := by rw [HXE.out]; exact (Below.refl _ wo).alloc (Nat.le_refl _) _
   have HBX : Hid (Below w.heap.size w X) := Lib.hid (HBo.out.trans (hxb.mono HBo.out.size))
   have HN : Hid (X.heap[wo.heap.size]? = some (.cells #[.int .i64 kd, .int .i64 sp, .slice BF mF dF, .slice BT mT dT, .slice BS mS dS, .slice BE mE dE] 33 (0, 0))) := Lib.hid (by rw [HXE.out]; exact heap_new wo _)
   have HHX : Hid (X.heap[sb]? = some (.cells #[.int .i64 num, .int .i64 ph, .slice A1 n1 c1, .slice A2 n2 c2, .slice A3 n3 c3, .slice A4 n4 c4, .slice A5 n5 c5, .slice A6 n6 c6] 31 (0, 0))) := Lib.hid ((hxb.block _ (heapE_lt HHo.out)).trans HHo.out)
   obtain ⟨q0, q1, q2, q3, q4, q5⟩ := row6 HN.out
   obtain ⟨x0, x1, x2, x3, x4, x5, x6, x7⟩ := row8 HHX.out
   have HSX := Lib.hid (HSo.out.kept hxb)
   have HC := Lib.hid (take_any (w := X) (r := rcAt l k) (dF := dF) (dT := dT) (dS := dS) (dE := dE) HSX.out HIo.out (RcW.of (HPR.out.below HBX.out) (HSZ.out k (by rw [HLN.out]; exact hkn)) HKD.out HSP.out) HBX.out.size)
   obtain ⟨er, HER⟩ : ∃ q, Hid (takeE s (rcAt l k) = q) := ⟨_, Lib.hid rfl⟩
   rw [HER.out] at HC
   clear hxb
   go_upto_region 9 with fail
   change Code.wp _ _ _ _ (wo.alloc (.cells #[.int .i64 kd, .int .i64 sp, .slice BF mF dF, .slice BT mT dT, .slice BS mS dS, .slice BE mE dE] 33))
   rw [← HXE.out]
   clear kc0 kc1 kc2 kc3 kc4 kc5
   go_wp2_with fail
   refine HC.out.mono ?_
   rintro e w1 ⟨hb, hc⟩
   have HB1 := Lib.hid (HBX.out.trans (hb.mono HBX.out.size))
   have HS1 := Lib.hid (HSX.out.kept hb)
   have HH1 : Hid (w1.heap[sb]? = some (.cells #[.int .i64 num, .int .i64 ph, .slice A1 n1 c1, .slice A2 n2 c2, .slice A3 n3 c3, .slice A4 n4 c4, .slice A5 n5 c5, .slice A6 n6 c6] 31 (0, 0))) := Lib.hid ((hb.block _ (heapE_lt HHX.out)).trans HHX.out)
   clear hb q0 q1 q2 q3 q4 q5 x0 x1 x2 x3 x4 x5 x6 x7 HC
   rcases hc with ⟨hne, rfl⟩ | ⟨he0, num2, ph2, B1, m1, d1, B2, m2, d2, B3, m3, d3, B4, m4, d4, B5, m5, d5, B6, m6, d6, rfl, hst⟩
   ·have hnb : (er != 0) = true := by rw [bne_iff_ne]; exact hne
    obtain ⟨Y, HYE⟩ : ∃ Y, Hid (Y = w1.alloc (.cells #[.int .i64 0, .int .i64 0, .slice none 0 0, .slice none 0 0, .slice none 0 0, .slice none 0 0, .slice none 0 0, .slice none 0 0] 31)) := ⟨_, Lib.hid rfl⟩
    have hyb : Below w1.heap.size w1 Y := by rw [HYE.out]; exact (Below.refl _ w1).alloc (Nat.le_refl _) _
    have HHY : Hid (Y.heap[sb]? = some (.cells #[.int .i64 num, .int .i64 ph, .slice A1 n1 c1, .slice A2 n2 c2, .slice A3 n3 c3, .slice A4 n4 c4, .slice A5 n5 c5, .slice A6 n6 c6] 31 (0, 0))) := Lib.hid ((hyb.block _ (heapE_lt HH1.out)).trans HH1.out)
    have HSY := Lib.hid (HS1.out.kept hyb)
    have HBY := Lib.hid (HB1.out.trans (hyb.mono HB1.out.size))
    clear hyb hne
    go_upto_region 10 with fail
    change Code.wp _ _ _ _ (w1.alloc (.cells #[.int .i64 0, .int .i64 0, .slice none 0 0, .slice none 0 0, .slice none 0 0, .slice none 0 0, .slice none 0 0, .slice none 0 0] 31))
    rw [← HYE.out]
    go_wp2_with fail
    go_roundw
    case rel => exact ⟨k + 1, by omega, by go_num, num, ph, A1, n1, c1, A2, n2, c2, A3, n3, c3, A4, n4, c4, A5, n5, c5, A6, n6, c6, s, HBY, HHY, HSY, HIo⟩
    case measure => simp [intOf]; omega
   ·subst he0
    have HI2 := Lib.hid (HIo.out.take HER.out)
    obtain ⟨s2, HS2E⟩ : ∃ q, Hid (takeS s (rcAt l k) = q) := ⟨_, Lib.hid rfl⟩
    rw [HS2E.out] at HI2 hst
    obtain ⟨Y, HYE⟩ : ∃ Y, Hid (Y = w1.alloc (.cells #[.int .i64 num2, .int .i64 ph2, .slice B1 m1 d1, .slice B2 m2 d2, .slice B3 m3 d3, .slice B4 m4 d4, .slice B5 m5 d5, .slice B6 m6 d6] 31)) := ⟨_, Lib.hid rfl⟩
    have hyb : Below w1.heap.size w1 Y := by rw [HYE.out]; exact (Below.refl _ w1).alloc (Nat.le_refl _) _
    have HHY : Hid (Y.heap[sb]? = some (.cells #[.int .i64 num, .int .i64 ph, .slice A1 n1 c1, .slice A2 n2 c2, .slice A3 n3 c3, .slice A4 n4 c4, .slice A5 n5 c5, .slice A6 n6 c6] 31 (0, 0))) := Lib.hid ((hyb.block _ (heapE_lt HH1.out)).trans HH1.out)
    have HNY : Hid (Y.heap[w1.heap.size]? = some (.cells #[.int .i64 num2, .int .i64 ph2, .slice B1 m1 d1, .slice B2 m2 d2, .slice B3 m3 d3, .slice B4 m4 d4, .slice B5 m5 d5, .slice B6 m6 d6] 31 (0, 0))) := Lib.hid (by rw [HYE.out]; exact heap_new w1 _)
    have HSY := Lib.hid ((hst.less (Nat.zero_le _)).kept hyb)
    have HBY := Lib.hid (HB1.out.trans (hyb.mono HB1.out.size))
    obtain ⟨Z, HZE⟩ : ∃ Z, Hid (Z = set8 Y sb (.int .i64 num2) (.int .i64 ph2) (.slice B1 m1 d1) (.slice B2 m2 d2) (.slice B3 m3 d3) (.slice B4 m4 d4) (.slice B5 m5 d5) (.slice B6 m6 d6)) := ⟨_, Lib.hid rfl⟩
    have HHZ : Hid (Z.heap[sb]? = some (.cells #[.int .i64 num2, .int .i64 ph2, .slice B1 m1 d1, .slice B2 m2 d2, .slice B3 m3 d3, .slice B4 m4 d4, .slice B5 m5 d5, .slice B6 m6 d6] 31 (0, 0))) := Lib.hid (by rw [HZE.out]; exact set8_same HHY.out)
    have HBZ : Hid (Below w.heap.size w Z) := Lib.hid (by rw [HZE.out]; exact set8_below HBY.out HSBG.out)
    have hot : ∀ k, k < Y.heap.size → k ≠ sb → Z.heap[k]? = Y.heap[k]? := fun k _ hne => by rw [HZE.out]; exact set8_other hne
    have HSZ2 := Lib.hid (HSY.out.apart HHY.out (by decide) (by decide) (by decide) hot)
    obtain ⟨x0, x1, x2, x3, x4, x5, x6, x7⟩ := row8 HHY.out
    have xf := free_row HHY.out
    obtain ⟨y0, y1, y2, y3, y4, y5, y6, y7⟩ := row8 HNY.out
    clear hot hyb hst
    go_upto_region 10 with fail
    change Code.wp _ _ _ _ (w1.alloc (.cells #[.int .i64 num2, .int .i64 ph2, .slice B1 m1 d1, .slice B2 m2 d2, .slice B3 m3 d3, .slice B4 m4 d4, .slice B5 m5 d5, .slice B6 m6 d6] 31))
    rw [← HYE.out]
    go_upto_region 12 with fail
    change Code.wp _ _ _ _ (set8 Y sb (.int .i64 num2) (.int .i64 ph2) (.slice B1 m1 d1) (.slice B2 m2 d2) (.slice B3 m3 d3) (.slice B4 m4 d4) (.slice B5 m5 d5) (.slice B6 m6 d6))
    rw [← HZE.out]
    clear x0 x1 x2 x3 x4 x5 x6 x7 xf y0 y1 y2 y3 y4 y5 y6 y7
    obtain ⟨x0, x1, x2, x3, x4, x5, x6, x7⟩ := row8 HHZ.out
    obtain ⟨G, HGE⟩ : ∃ G, Hid (G = Z.alloc (.cells #[.int .i64 (m3 : Int), .slice B4 m4 d4] 38)) := ⟨_, Lib.hid rfl⟩
    have hgb : Below Z.heap.size Z G := by rw [HGE.out]; exact (Below.refl _ Z).alloc (Nat.le_refl _) _
    have HBG := Lib.hid (HBZ.out.trans (hgb.mono HBZ.out.size))
    have HHG : Hid (G.heap[sb]? = some (.cells #[.int .i64 num2, .int .i64 ph2, .slice B1 m1 d1, .slice B2 m2 d2, .slice B3 m3 d3, .slice B4 m4 d4, .slice B5 m5 d5, .slice B6 m6 d6] 31 (0, 0))) := Lib.hid ((hgb.block _ (heapE_lt HHZ.out)).trans HHZ.out)
    have HGG : Hid (G.heap[Z.heap.size]? = some (.cells #[.int .i64 (m3 : Int), .slice B4 m4 d4] 38 (0, 0))) := Lib.hid (by rw [HGE.out]; exact heap_new Z _)
    have HSG := Lib.hid (HSZ2.out.kept hgb)
    obtain ⟨gb, HGB⟩ : ∃ q, Hid (Z.heap.size = q) := ⟨_, Lib.hid rfl⟩
    rw [HGB.out] at HGG
    clear hgb
    go_upto_region 13 with fail
    change Code.wp _ _ _ _ (Z.alloc (.cells #[.int .i64 (m3 : Int), .slice B4 m4 d4] 38))
    rw [HGB.out]
    rw [← HGE.out]
    clear x0 x1 x2 x3 x4 x5 x6 x7
    have HLE := Lib.hid HSG.out.lens
    have hm3 : s2.pl.S.length = m3 := HLE.out.2.2.1
    have HGR : Hid (graphB m3 s2.pl.E = true) := Lib.hid (by rw [← hm3]; exact inv_graph HI2.out)
    have hm36 : m3 ≤ 36 := by rw [← hm3]; exact HI2.out.n36
    have HRG : Hid (∀ k ∈ s2.op ++ s2.dn, 0 ≤ k ∧ k < (m3 : Int)) := Lib.hid (by rw [← hm3]; exact HI2.out.rg)
    have HM3 := Lib.hid hm3
    clear hm3
    have HED := Lib.hid (HSG.out.pl.E.rdE.eg HGR.out)
    have HIN := Lib.hid (inN_nat HGR.out)
    have HM4 : Hid (m4 ≤ 4096) := Lib.hid (by have := HSG.out.pl.sz; omega)
    have HRD := Lib.hid HSG.out.dn.rdI
    have HRO := Lib.hid HSG.out.op.rdI
    have HDL : Hid (s2.dn.length = m6) := Lib.hid HLE.out.2.2.2.2.2
    have HOL : Hid (s2.op.length = m5) := Lib.hid HLE.out.2.2.2.2.1
    have hl36 := HI2.out.lenO
    have HND := Lib.hid (List.nodup_append.1 HI2.out.nd)
    have hm6 : m6 ≤ 36 := by rw [← HDL.out]; exact hl36.2
    have hm5 : m5 ≤ 36 := by rw [← HOL.out]; exact hl36.1
    have HPD : Hid (∀ k ∈ s2.dn, 0 ≤ k ∧ k < 64) := Lib.hid (fun k hk => by have := HRG.out k (by simp [hk]); omega)
    clear hl36
    obtain ⟨x0, x1, x2, x3, x4, x5, x6, x7⟩ := row8 HHG.out
    obtain ⟨g0, g1, _, _⟩ := row2 HGG.out
    go_upto_region 15 with fail
    go_loop [9, 11, 46] (fun q _ v => ∃ j : Nat, j ≤ m6 ∧ v = .int .i64 (j : Int) ∧ q = .int .u64 ((setL (s2.dn.take j) : Nat) : Int)) (fun _ _ v => m6 - (intOf v).toNat)
    case atStart => exact ⟨0, Nat.zero_le _, rfl, rfl⟩
    case round =>
     obtain ⟨j, hj, rfl, rfl⟩ := hrel
     by_cases hjn : j < m6
     ·have hd2 : decide ((j : Int) < (m6 : Int)) = true := by simp; omega
      have hji : (j : Int) < (m6 : Int) := by omega
      have hjadd : IntKind.i64.wrap ((j : Int) + 1) = ((j + 1 : Nat) : Int) := by rw [IntWalk.i64_in _ (by omega)]; omega
      obtain ⟨b, off, hA, _, k1⟩ := HRD.out.at_ hjn
      subst hA
      have hjx : j < s2.dn.length := by rw [HDL.out]; exact hjn
      have hmem : ix s2.dn j ∈ s2.dn := mem_ix.2 ⟨j, hjx, rfl⟩
      have hrk := HRG.out _ (by simp [hmem] : ix s2.dn j ∈ s2.op ++ s2.dn)
      obtain ⟨u, hu⟩ : ∃ u : Nat, ix s2.dn j = (u : Int) := ⟨(ix s2.dn j).toNat, by omega⟩
      have hu64 : u < 64 := by omega
      have HSM2 : Hid (setL (s2.dn.take j) < lim) := Lib.hid (setL_lt (fun x hx => HPD.out x (List.mem_of_mem_take hx)))
      have HTK : Hid (setL (s2.dn.take (j + 1)) = add (setL (s2.dn.take j)) u) := Lib.hid (by rw [take_ix hjx, setL_snoc, hu, Int.toNat_natCast])
      have HNB : Hid (bt (setL (s2.dn.take j)) u = false) := Lib.hid (by
       rw [bt_setL (fun x hx => (HPD.out x (List.mem_of_mem_take hx)).1), decide_eq_false_iff_not, ← hu]
       exact not_take HND.out.2.1 hjx)
      rw [hu] at k1 hrk
      obtain ⟨S, HSS⟩ : ∃ q, Hid (setL (s2.dn.take j) = q) := ⟨_, Lib.hid rfl⟩
      rw [HSS.out] at HSM2 HTK HNB
      rw [HSS.out]
      have HIC := Lib.hid (in_any (w := G) HSM2.out hu64)
      rw [HNB.out] at HIC
      obtain ⟨S2, HS2⟩ : ∃ q, Hid (add S u = q) := ⟨_, Lib.hid rfl⟩
      have hor := or_spell HSM2.out hu64
      have hor2 := or_spell2 HSM2.out hu64
      rw [HS2.out] at hor hor2 HTK
      have hu0 : (0 : Int) ≤ (u : Int) := by omega
      have e1 : decide ((u : Int) < 0) = false := decide_eq_false (by omega)
      have e5 : u < m3 := by omega
      have e2 : decide ((m3 : Int) ≤ (u : Int)) = false := decide_eq_false (by omega)
      clear hmem hrk hu
      go_wp2_with fail
      refine HIC.out.mono ?_
      rintro e w' ⟨rfl, rfl⟩
      go_wp2_with fail
      go_round
      case rel => exact ⟨j + 1, by omega, by go_num, by rw [HTK.out]⟩
      case measure => simp [intOf]; omega
     ·have hd2 : decide ((j : Int) < (m6 : Int)) = false := by simp; omega
      have HTK : Hid (s2.dn.take j = s2.dn) := Lib.hid (List.take_of_length_le (by rw [HDL.out]; omega))
      rw [HTK.out]
      have HSL : Hid (setL s2.dn < lim) := Lib.hid (setL_lt HPD.out)
      have HC1 : Hid (closedB (natE s2.pl.E) (setL s2.dn) = true) := Lib.hid (closed_of_mem HGR.out (fun k hk => (HPD.out k hk).1) (fun e he h => HI2.out.dnC he h))
      have HCC := Lib.hid (refClosed_any (w := G) (c := d4) HED.out HIN.out (by omega) HM4.out (Nat.le_refl _) HSL.out)
      rw [HC1.out] at HCC
      obtain ⟨D, HDD⟩ : ∃ q, Hid (setL s2.dn = q) := ⟨_, Lib.hid rfl⟩
      rw [HDD.out] at HCC HSL
      rw [HDD.out]
      go_wp2_with fail
      refine HCC.out.mono ?_
      rintro e wc ⟨rfl, hb⟩
      have HBC := Lib.hid hb
      clear hb x0 x1 x2 x3 x4 x5 x6 x7 g0 g1 HCC
      obtain ⟨x0, x1, x2, x3, x4, x5, x6, x7⟩ := row8 ((HBC.out.block _ (heapE_lt HHG.out)).trans HHG.out)
      go_upto_region 25 with fail
      clear x0 x1 x2 x3 x4 x5 x6 x7
      go_loopw [12, 14, 76] (fun q _ v wq => ∃ j : Nat, j ≤ m5 ∧ v = .int .i64 (j : Int) ∧ q = .int .u64 ((setL (s2.dn ++ s2.op.take j) : Nat) : Int) ∧ Hid (Below G.heap.size G wq)) (fun _ _ v _ => m5 - (intOf v).toNat)
      case atStart => exact ⟨0, Nat.zero_le _, rfl, by rw [List.take_zero, List.append_nil, HDD.out], HBC⟩
      case round =>
       obtain ⟨wi, hwi⟩ : ∃ x, x = wr := ⟨_, rfl⟩
       subst hwi
       obtain ⟨j, hj, rfl, rfl, HBi⟩ := hrel
       have HCEL : Hid (∀ Z, Below G.heap.size G Z → (Z.cell? ⟨gb, 0, none⟩ = some (.int .i64 (m3 : Int)) ∧ Z.cell? ⟨gb, 1, none⟩ = some (.slice B4 m4 d4))) := Lib.hid (fun Z hZ => by
        obtain ⟨a, b, _, _⟩ := row2 ((hZ.block _ (heapE_lt HGG.out)).trans HGG.out)
        exact ⟨a, b⟩)
       obtain ⟨g0, g1⟩ := HCEL.out _ HBi.out
       obtain ⟨x0, x1, x2, x3, x4, x5, x6, x7⟩ := row8 ((HBi.out.block _ (heapE_lt HHG.out)).trans HHG.out)
       by_cases hjn : j < m5
       ·have hd2 : decide ((j : Int) < (m5 : Int)) = true := by simp; omega
        have hji : (j : Int) < (m5 : Int) := by omega
        have hjadd : IntKind.i64.wrap ((j : Int) + 1) = ((j + 1 : Nat) : Int) := by rw [IntWalk.i64_in _ (by omega)]; omega
        obtain ⟨b, off, hA, _, k1⟩ := (HRO.out.below HBi.out).at_ hjn
        subst hA
        have hjx : j < s2.op.length := by rw [HOL.out]; exact hjn
        have hmem : ix s2.op j ∈ s2.op := mem_ix.2 ⟨j, hjx, rfl⟩
        have hrk := HRG.out _ (by simp [hmem] : ix s2.op j ∈ s2.op ++ s2.dn)
        obtain ⟨u, hu⟩ : ∃ u : Nat, ix s2.op j = (u : Int) := ⟨(ix s2.op j).toNat, by omega⟩
        have hu64 : u < 64 := by omega
        have HPA : Hid (∀ k ∈ s2.dn ++ s2.op.take j, 0 ≤ k ∧ k < 64) := Lib.hid (fun k hk => by
         have : k ∈ s2.op ++ s2.dn := by
          simp only [List.mem_append] at hk ⊢
          rcases hk with hk | hk
          ·exact .inr hk
          ·exact .inl (List.mem_of_mem_take hk)
         have := HRG.out k this; omega)
        have HSM2 : Hid (setL (s2.dn ++ s2.op.take j) < lim) := Lib.hid (setL_lt HPA.out)
        have HTK : Hid (setL (s2.dn ++ s2.op.take (j + 1)) = add (setL (s2.dn ++ s2.op.take j)) u) := Lib.hid (by rw [take_ix hjx, ← List.append_assoc, setL_snoc, hu, Int.toNat_natCast])
        have HNB : Hid (bt (setL (s2.dn ++ s2.op.take j)) u = false) := Lib.hid (by
         rw [bt_setL (fun x hx => (HPA.out x hx).1), decide_eq_false_iff_not, ← hu]
         intro hm
         rcases List.mem_append.1 hm with hm | hm
         ·exact HND.out.2.2 _ hmem _ hm rfl
         ·exact not_take HND.out.1 hjx hm)
        have HC2 : Hid (closedB (natE s2.pl.E) (add D u) = true) := Lib.hid (by
         have e : add D u = setL (s2.dn ++ [ix s2.op j]) := by rw [setL_snoc, HDD.out, hu, Int.toNat_natCast]
         rw [e]
         refine closed_of_mem HGR.out (fun k hk => ?_) (fun e he h => ?_)
         ·simp only [List.mem_append, List.mem_singleton] at hk
          rcases hk with hk | rfl
          ·exact (HPD.out k hk).1
          ·omega
         ·simp only [List.mem_append, List.mem_singleton] at h ⊢
          rcases h with h | h
          ·exact .inl (HI2.out.dnC he h)
          ·exact .inl (HI2.out.clo e he (by rw [h]; exact hmem)))
        rw [hu] at k1 hrk
        obtain ⟨S, HSS⟩ : ∃ q, Hid (setL (s2.dn ++ s2.op.take j) = q) := ⟨_, Lib.hid rfl⟩
        rw [HSS.out] at HSM2 HTK HNB
        rw [HSS.out]
        have HIC := Lib.hid (fun (w : World) => in_any (w := w) HSM2.out hu64)
        rw [HNB.out] at HIC
        have HDU : Hid (add D u < lim) := Lib.hid (add_lt HSL.out hu64)
        obtain ⟨DU, HDUE⟩ : ∃ q, Hid (add D u = q) := ⟨_, Lib.hid rfl⟩
        have hod := or_spell HSL.out hu64
        have hod2 := or_spell2 HSL.out hu64
        rw [HDUE.out] at HC2 HDU hod hod2
        have HCC := Lib.hid (fun (X : World) (hX : Below wi.heap.size wi X) => refClosed_any (w := X) (c := d4) (HED.out.below (HBi.out.trans (hX.mono HBi.out.size))) HIN.out (by omega) HM4.out (HBi.out.trans (hX.mono HBi.out.size)).size HDU.out)
        rw [HC2.out] at HCC
        obtain ⟨S2, HS2⟩ : ∃ q, Hid (add S u = q) := ⟨_, Lib.hid rfl⟩
        have hor := or_spell HSM2.out hu64
        have hor2 := or_spell2 HSM2.out hu64
        rw [HS2.out] at hor hor2 HTK
        have hu0 : (0 : Int) ≤ (u : Int) := by omega
        have e1 : decide ((u : Int) < 0) = false := decide_eq_false (by omega)
        have e2 : decide ((m3 : Int) ≤ (u : Int)) = false := decide_eq_false (by omega)
        have e3 : ¬ ((u : Int) < 0) := by omega
        have e4 : ¬ ((m3 : Int) ≤ (u : Int)) := by omega
        clear hmem hrk hu
        go_upto_region 27 with fail
        clear k1
        go_region_held3 (fun Z => Z.cell? ⟨gb, 0, none⟩ = some (.int .i64 (m3 : Int)) ∧ Z.cell? ⟨gb, 1, none⟩ = some (.slice B4 m4 d4)) ((first | exact ⟨g0, g1⟩ | exact ⟨t0, t1⟩ | go_keep)) (first
         | (go_at_call 13; refine (HCC.out _ HBI1.out).mono ?_; rintro e wd ⟨rfl, hb⟩; (have HBD : Hid (Below G.heap.size G wd) := Lib.hid (HBi.out.trans ((HBI1.out.trans (hb.mono HBI1.out.size)).mono HBi.out.size))); clear hb; (obtain ⟨t0, t1⟩ := HCEL.out _ HBD.out))
         | (go_at_call 12; refine (HIC.out _).mono ?_; rintro e wz ⟨rfl, hwz⟩; (have HBI1 : Hid (Below wi.heap.size wi wz) := Lib.hid (by rw [← hwz]; exact Below.drewN' (Below.refl _ wi) 1)); clear hwz; (obtain ⟨t0, t1⟩ := HCEL.out _ (HBi.out.trans (HBI1.out.mono HBi.out.size)))))
        clear g0 g1 t0 t1 x0 x1 x2 x3 x4 x5 x6 x7
        go_wp2_with fail
        go_roundw
        case rel => exact ⟨j + 1, by omega, by go_num, by rw [HTK.out], HBD⟩
        case measure => simp [intOf]; omega
       ·have hd2 : decide ((j : Int) < (m5 : Int)) = false := by simp; omega
        have HTK : Hid (s2.op.take j = s2.op) := Lib.hid (List.take_of_length_le (by rw [HOL.out]; omega))
        rw [HTK.out]
        have HPA : Hid (∀ k ∈ s2.dn ++ s2.op, 0 ≤ k ∧ k < 64) := Lib.hid (fun k hk => by
         have := HRG.out k (by simp only [List.mem_append] at hk ⊢; exact hk.symm); omega)
        have HSL2 : Hid (setL (s2.dn ++ s2.op) < lim) := Lib.hid (setL_lt HPA.out)
        have HC2 : Hid (closedB (natE s2.pl.E) (setL (s2.dn ++ s2.op)) = true) := Lib.hid (closed_of_mem HGR.out (fun k hk => (HPA.out k hk).1) (fun e he h => by
         rcases List.mem_append.1 h with h | h
         ·exact List.mem_append.2 (.inl (HI2.out.dnC he h))
         ·exact List.mem_append.2 (.inl (HI2.out.clo e he h))))
        have HCC := Lib.hid (refClosed_any (w := wi) (c := d4) (HED.out.below HBi.out) HIN.out (by omega) HM4.out HBi.out.size HSL2.out)
        rw [HC2.out] at HCC
        have HSW : Hid (setL (s2.op ++ s2.dn) = setL (s2.dn ++ s2.op)) := Lib.hid (setL_swap (fun k hk => (HRG.out k hk).1))
        obtain ⟨AL, HAL⟩ : ∃ q, Hid (setL (s2.dn ++ s2.op) = q) := ⟨_, Lib.hid rfl⟩
        rw [HAL.out] at HCC HSW
        rw [HAL.out]
        go_wp2_with fail
        refine HCC.out.mono ?_
        rintro e we ⟨rfl, hb⟩
        have HBE : Hid (Below G.heap.size G we) := Lib.hid (HBi.out.trans (hb.mono HBi.out.size))
        clear hb g0 g1 x0 x1 x2 x3 x4 x5 x6 x7 HCC
        have HHE : Hid (we.heap[sb]? = some (.cells #[.int .i64 num2, .int .i64 ph2, .slice B1 m1 d1, .slice B2 m2 d2, .slice B3 m3 d3, .slice B4 m4 d4, .slice B5 m5 d5, .slice B6 m6 d6] 31 (0, 0))) := Lib.hid ((HBE.out.block _ (heapE_lt HHG.out)).trans HHG.out)
        have HSE := Lib.hid (HSG.out.kept HBE.out)
        have HRC := Lib.hid (reached_any (w := we) (cF := d1) (cT := d2) (cS := d3) (cE := d4) (cO := d5) (cD := d6) (HSE.out.stw HI2.out) (Nat.le_refl _) (fun k hk => by have := HRG.out k hk; omega))
        rw [HSW.out] at HRC
        obtain ⟨x0, x1, x2, x3, x4, x5, x6, x7⟩ := row8 HHE.out
        go_wp2_with fail
        refine HRC.out.mono ?_
        rintro e wf ⟨rfl, hb⟩
        have HBF : Hid (Below w.heap.size w wf) := Lib.hid (HBG.out.trans ((HBE.out.trans (hb.mono HBE.out.size)).mono HBG.out.size))
        have HHF : Hid (wf.heap[sb]? = some (.cells #[.int .i64 num2, .int .i64 ph2, .slice B1 m1 d1, .slice B2 m2 d2, .slice B3 m3 d3, .slice B4 m4 d4, .slice B5 m5 d5, .slice B6 m6 d6] 31 (0, 0))) := Lib.hid ((hb.block _ (heapE_lt HHE.out)).trans HHE.out)
        have HSF := Lib.hid (HSE.out.kept hb)
        have hbn : ((AL : Int) != (AL : Int)) = false := by simp
        clear hb x0 x1 x2 x3 x4 x5 x6 x7 HRC
        go_wp2_with fail
        go_roundw
        case rel => exact ⟨k + 1, by omega, by go_num, num2, ph2, B1, m1, d1, B2, m2, d2, B3, m3, d3, B4, m4, d4, B5, m5, d5, B6, m6, d6, s2, HBF, HHF, HSF, HI2⟩
        case measure => simp [intOf]; omega
  ·have hd : decide ((k : Int) < (n : Int)) = false := by simp; omega
   go_wp2_with fail
   exact bodyPost_ret (results_tmp rfl _ _ _) rfl ⟨rfl, HBo.out⟩
end Go.Proofs.Ytolgmoaoheflcaa.Sa
