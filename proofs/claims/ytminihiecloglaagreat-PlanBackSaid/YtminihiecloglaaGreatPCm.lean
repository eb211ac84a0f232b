/-
  CONTRACT: plan.Compensate (printed by genpcm.py).
-/
import Derived.Test.YtminihiecloglaaGreatPFa
import Derived.Test.YtminihiecloglaaGreatDCirc
namespace Go.Proofs.YtminihiecloglaaGreat
open Go.RowKit
open SemP FlP GaP DiP
set_option linter.unusedVariables false
set_option linter.unusedSimpArgs false
set_option maxRecDepth 10000
theorem fits_ofP {s n : Nat} (h : ∀ u, n ≤ u → bt s u = false) : fitsB s n = true := by
  unfold fitsB
  rw [decide_eq_true_eq]
  apply Nat.eq_of_testBit_eq
  intro i
  rw [Nat.zero_testBit, Nat.testBit_div_two_pow]
  exact h (i + n) (by omega)
theorem bt_ext {s t : Nat} (h : ∀ u, bt s u = bt t u) : s = t := Nat.eq_of_testBit_eq h
def seenD (ds : List Int) (i : Nat) (x : Int) : Bool := (List.range i).any fun j => decide (ix ds j = x)
theorem seenD_succ (ds : List Int) (i : Nat) (x : Int) : seenD ds (i + 1) x = (seenD ds i x || decide (ix ds i = x)) := by
  unfold seenD; rw [List.range_succ, List.any_append]; simp
theorem seenD_zero (ds : List Int) (x : Int) : seenD ds 0 x = false := rfl
def okAt (N : Nat) (ds : List Int) (i : Nat) : Bool := decide (0 ≤ ix ds i) && (decide (ix ds i < (N : Int)) && !seenD ds i (ix ds i))
def stD (ds : List Int) : Nat → Nat
  | 0 => 0
  | k + 1 => add (stD ds k) (ix ds k).toNat
def clD (g : List (Nat × Nat)) (ds : List Int) (k : Nat) : Bool := (List.range k).all fun i => closedB g (stD ds (i + 1))
theorem clD_succ (g : List (Nat × Nat)) (ds : List Int) (k : Nat) : clD g ds (k + 1) = (clD g ds k && closedB g (stD ds (k + 1))) := by
  unfold clD; rw [List.range_succ, List.all_append]; simp
theorem clD_no {g : List (Nat × Nat)} {ds : List Int} {k m : Nat} (h : closedB g (stD ds (k + 1)) = false) (hk : k < m) : clD g ds m = false := by
  unfold clD
  rw [List.all_eq_false]
  exact ⟨k, List.mem_range.2 hk, by rw [h]; decide⟩
def okD (N : Nat) (ds : List Int) (m : Nat) : Bool := (List.range m).all (okAt N ds)
theorem okD_iff {N : Nat} {ds : List Int} {m : Nat} : okD N ds m = true ↔ ∀ i, i < m → okAt N ds i = true := by
  unfold okD; rw [List.all_eq_true]; exact ⟨fun h i hi => h i (List.mem_range.2 hi), fun h i hi => h i (List.mem_range.1 hi)⟩
theorem okD_no {N : Nat} {ds : List Int} {k m : Nat} (h : okAt N ds k = false) (hk : k < m) : okD N ds m = false := by
  unfold okD; rw [List.all_eq_false]; exact ⟨k, List.mem_range.2 hk, by rw [h]; decide⟩
theorem okAt_nat {N : Nat} {ds : List Int} {i : Nat} (h : okAt N ds i = true) : ∃ v : Nat, ix ds i = (v : Int) ∧ v < N ∧ seenD ds i (v : Int) = false := by
  unfold okAt at h
  simp only [Bool.and_eq_true, decide_eq_true_eq, Bool.not_eq_true'] at h
  obtain ⟨h1, h2, h3⟩ := h
  obtain ⟨v, hv⟩ := Int.eq_ofNat_of_zero_le h1
  rw [hv] at h2 h3
  exact ⟨v, hv, by omega, h3⟩
theorem bt_stD {N : Nat} {ds : List Int} : ∀ k, (∀ i, i < k → okAt N ds i = true) → ∀ u : Nat, bt (stD ds k) u = seenD ds k (u : Int)
  | 0, _, u => by show bt 0 u = _; rw [bt_zero]; rfl
  | k + 1, h, u => by
    have ih := bt_stD k (fun i hi => h i (by omega)) u
    obtain ⟨v, hv, _, _⟩ := okAt_nat (h k (by omega))
    show bt (add (stD ds k) (ix ds k).toNat) u = _
    rw [bt_add, ih, seenD_succ, hv, Int.toNat_natCast]
    congr 1
    by_cases e : v = u
    · rw [decide_eq_true e, decide_eq_true (by rw [e])]
    · rw [decide_eq_false e, decide_eq_false (by omega)]
theorem stD_lt {N : Nat} {ds : List Int} (hN : N ≤ 64) : ∀ k, (∀ i, i < k → okAt N ds i = true) → stD ds k < lim
  | 0, _ => by show 0 < lim; rw [lim_eq]; exact Nat.two_pow_pos _
  | k + 1, h => by
    obtain ⟨v, hv, hvN, _⟩ := okAt_nat (h k (by omega))
    show add (stD ds k) (ix ds k).toNat < lim
    rw [hv, Int.toNat_natCast]
    exact add_lt (stD_lt hN k (fun i hi => h i (by omega))) (by omega)
theorem stD_fits {N : Nat} {ds : List Int} {k : Nat} (h : ∀ i, i < k → okAt N ds i = true) : fitsB (stD ds k) N = true := by
  refine fits_ofP (fun u hu => ?_)
  rw [bt_stD k h]
  unfold seenD
  rw [List.any_eq_false]
  intro j hj
  obtain ⟨v, hv, hvN, _⟩ := okAt_nat (h j (List.mem_range.1 hj))
  rw [hv, decide_eq_false (by omega)]; decide
/-- With the last one taken away. -/
theorem stD_less {N : Nat} {ds : List Int} {k : Nat} (hN : N ≤ 64) (h : ∀ i, i < k + 1 → okAt N ds i = true) : andn (stD ds (k + 1)) (DiP.one (ix ds k).toNat) = stD ds k := by
  obtain ⟨v, hv, hvN, hs⟩ := okAt_nat (h k (by omega))
  refine bt_ext (fun u => ?_)
  have hb := bt_stD (k + 1) h u
  have hb2 := bt_stD k (fun i hi => h i (by omega)) u
  rw [hv, Int.toNat_natCast]
  by_cases h64 : u < 64
  · rw [bt_andn (one_lt v (by omega)) h64, hb, hb2, seenD_succ, bt_one, hv]
    by_cases e : v = u
    · subst e
      rw [hs, decide_eq_true rfl]; simp
    · rw [decide_eq_false e, decide_eq_false (by omega)]; simp
  · rw [bt_far (andn_lt (stD_lt hN (k + 1) h)) (by omega), bt_far (stD_lt hN k (fun i hi => h i (by omega))) (by omega)]
def cmpE (N : Nat) (g : List (Nat × Nat)) (ds : List Int) : Int := if okD N ds ds.length = false then 71 else if clD g ds ds.length = false then 32 else 0
set_option maxHeartbeats 16000000 in
theorem compensate_any {w : World} {BE BD nF cF nT cT N cS M cE m c : Nat} {AF AT AS AE A : Option Addr} {g : List (Nat × Nat)} {ds : List Int} (hE : RdEg w BE AE M g) (hBE : BE ≤ w.heap.size) (hI : InN N g) (hN : N ≤ 64) (hM : M ≤ 4096) (hD : Rd w BD A m ds) (hBD : BD ≤ w.heap.size) (hm : m ≤ 1000000)
    (hfl : 0 < M → ∃ b off, AE = some ⟨b, off, none⟩ ∧ b < w.heap.size ∧ ∀ j u, (g.flatMap egF)[j]? = some u → w.cell? ⟨b, off + j, none⟩ = some u) :
    Calls Tryz.prog 33 #[.agg #[.slice AF nF cF, .slice AT nT cT, .slice AS N cS, .slice AE M cE], .slice A m c] w fun e w' => Below w.heap.size w w' ∧ ((cmpE N g ds ≠ 0 ∧ e = .returned (.tuple #[.slice none 0 0, .int .i64 (cmpE N g ds)])) ∨ (cmpE N g ds = 0 ∧ ∃ A' c', e = .returned (.tuple #[.slice A' m c', .int .i64 0]) ∧ Rd w' w'.heap.size A' m ds.reverse)) := by
  obtain ⟨W, HW⟩ : ∃ W, Hid (W = w.alloc (.cells #[.slice AF nF cF, .slice AT nT cT, .slice AS N cS, .slice AE M cE] 35)) := ⟨_, Lib.hid rfl⟩
  have hbl : Below w.heap.size w W := by rw [HW.out]; exact (Below.refl _ w).alloc (Nat.le_refl _) _
  have HBL := Lib.hid hbl
  have H0 : Hid (W.heap[w.heap.size]? = some (.cells #[.slice AF nF cF, .slice AT nT cT, .slice AS N cS, .slice AE M cE] 35 (0, 0))) := Lib.hid (by rw [HW.out]; exact heap_new w _)
  have HD := Lib.hid (hD.below (hbl.mono hBD))
  have LD : Hid (BD ≤ W.heap.size) := Lib.hid (Nat.le_trans hBD hbl.size)
  have HDL : Hid (ds.length = m) := Lib.hid hD.len
  have HGL : Hid (g.length = M) := Lib.hid hE.len
  have HFL := Lib.hid (fun (X : World) (hb : Below W.heap.size W X) => graphP_any (w := X) (nF := nF) (cF := cF) (nT := nT) (cT := cT) (nS := N) (cS := cS) (c := cE) (AF := AF) (AT := AT) (AS := AS) (A := AE) (es := g) hE.len (by omega) (fun h0 => by
    obtain ⟨b, off, e, hb1, hc⟩ := hfl h0
    exact ⟨b, off, e, Nat.lt_of_lt_of_le hb1 (Nat.le_trans hbl.size hb.size), fun j u hj => (hb.cell (p := ⟨b, off + j, none⟩) (Nat.lt_of_lt_of_le hb1 hbl.size)).trans ((hbl.cell (p := ⟨b, off + j, none⟩) hb1).trans (hc j u hj))⟩))
  have HI := Lib.hid hI
  have HGR := Lib.hid (graphR_cast hI hN (by rw [hE.len]; exact hM))
  have HM := Lib.hid hm
  obtain ⟨CE, HCE⟩ : ∃ q, Hid (cmpE N g ds = q) := ⟨_, Lib.hid rfl⟩
  have HCD : Hid (CE = if okD N ds m = false then 71 else if clD g ds m = false then 32 else 0) := Lib.hid (by rw [← HCE.out]; unfold cmpE; rw [HDL.out])
  rw [HCE.out]
  clear hE hBE hI hD hBD hfl hbl hm
  obtain ⟨y0, y1, y2, y3⟩ := row4 H0.out
  go_enter Tryz.func33, Tryz.ntmps33
  go_upto_region 1 with fail
  change Code.wp _ _ _ _ (w.alloc (.cells #[.slice AF nF cF, .slice AT nT cT, .slice AS N cS, .slice AE M cE] 35))
  rw [← HW.out]
  go_wp2_with (at_make; refine wpl_makeB rfl (.tmp 19) (.tmp 19) rfl W.heap.size N rfl rfl (by omega) (Nat.le_refl _) ?_; intro w5 hown5 hgr5; (have HB5 : Hid (Below W.heap.size W w5) := Lib.hid ((Below.refl _ W).grown hgr5 (Nat.le_refl _) (fun g hg => by cases hg))); (have HO5 := Lib.hid hown5); clear hgr5 hown5)
  clear y0 y1 y2 y3
  rw [blL_none] at HO5
  go_loopw [8, 23] (fun _ v wr => ∃ k : Nat, k ≤ m ∧ v = .int .i64 (k : Int) ∧ Hid (∀ i, i < k → okAt N ds i = true) ∧ Hid (OwnB wr W.heap.size (.slice (some ⟨W.heap.size, 0, none⟩) N N) N (blL N (fun u => seenD ds k (u : Int)))) ∧ Hid (Below W.heap.size W wr)) (fun _ v _ => m - (intOf v).toNat)
  case atStart => exact ⟨0, Nat.zero_le _, rfl, Lib.hid (fun i h => absurd h (by omega)), Lib.hid HO5.out, HB5⟩
  case round =>
    obtain ⟨wo, hwo⟩ : ∃ x, x = wr := ⟨_, rfl⟩
    subst hwo
    obtain ⟨k, hk, rfl, HOK, HO, HBo⟩ := hrel
    have HWo : Hid (Below w.heap.size w wo) := Lib.hid (HBL.out.trans (HBo.out.mono HBL.out.size))
    by_cases hkm : k < m
    · have hd : decide ((k : Int) < (m : Int)) = true := by simp; omega
      have hki : (k : Int) < (m : Int) := by omega
      have hk0 : (0 : Int) ≤ (k : Int) := by omega
      have hadd : IntKind.i64.wrap ((k : Int) + 1) = ((k + 1 : Nat) : Int) := by rw [IntWalk.i64_in _ (by have := HM.out; omega)]; omega
      obtain ⟨b, off, rfl, _, c0⟩ := (HD.out.below (HBo.out.mono LD.out)).at_ hkm
      obtain ⟨x, HX⟩ : ∃ q, Hid (ix ds k = q) := ⟨_, Lib.hid rfl⟩
      rw [HX.out] at c0
      by_cases hx0 : x < 0
      · have d1 : decide (x < 0) = true := decide_eq_true hx0
        have HR : Hid (CE = 71) := Lib.hid (by rw [HCD.out, if_pos (okD_no (k := k) (by unfold okAt; rw [HX.out, decide_eq_false (by omega)]; rfl) hkm)])
        go_wp2_with fail
        exact bodyPost_ret (results_tmp2 rfl _ _ _) rfl ⟨HWo.out, .inl ⟨by rw [HR.out]; decide, by rw [HR.out]; rfl⟩⟩
      have d1 : decide (x < 0) = false := decide_eq_false hx0
      by_cases hxN : (N : Int) ≤ x
      · have d2 : decide ((N : Int) ≤ x) = true := decide_eq_true hxN
        have HR : Hid (CE = 71) := Lib.hid (by rw [HCD.out, if_pos (okD_no (k := k) (by unfold okAt; rw [HX.out, decide_eq_false (show ¬ x < (N : Int) by omega)]; simp) hkm)])
        go_wp2_with fail
        exact bodyPost_ret (results_tmp2 rfl _ _ _) rfl ⟨HWo.out, .inl ⟨by rw [HR.out]; decide, by rw [HR.out]; rfl⟩⟩
      have d2 : decide ((N : Int) ≤ x) = false := decide_eq_false hxN
      obtain ⟨v, rfl⟩ := Int.eq_ofNat_of_zero_le (show 0 ≤ x by omega)
      have hvN : v < N := by omega
      have hv0 : (0 : Int) ≤ (v : Int) := by omega
      have hvi : (v : Int) < (N : Int) := by omega
      have n0 := OwnB.cell HO.out hvN
      rw [blL_bx _ hvN] at n0
      have nf := OwnB.free HO.out v
      cases hsn : seenD ds k (v : Int) with
      | true =>
        have HR : Hid (CE = 71) := Lib.hid (by rw [HCD.out, if_pos (okD_no (k := k) (by unfold okAt; rw [HX.out, hsn]; simp) hkm)])
        rw [hsn] at n0
        clear hsn
        go_wp2_with fail
        exact bodyPost_ret (results_tmp2 rfl _ _ _) rfl ⟨HWo.out, .inl ⟨by rw [HR.out]; decide, by rw [HR.out]; rfl⟩⟩
      | false =>
        have HKY : Hid (okAt N ds k = true) := Lib.hid (by unfold okAt; rw [HX.out, hsn, decide_eq_true hv0, decide_eq_true hvi]; rfl)
        have HNX : Hid (OwnB (wo.setCell ⟨W.heap.size, v, none⟩ (.bool true)) W.heap.size (.slice (some ⟨W.heap.size, 0, none⟩) N N) N (blL N (fun u => seenD ds (k + 1) (u : Int)))) := Lib.hid (by
          have h := OwnB.store HO.out v true
          rw [blL_set _ _ hvN] at h
          have e : updB (fun u => seenD ds k (u : Int)) v true = fun u : Nat => seenD ds (k + 1) (u : Int) := by
            funext u
            unfold updB
            rw [seenD_succ, HX.out]
            by_cases e : u = v
            · subst e; simp
            · rw [if_neg e, decide_eq_false (by omega), Bool.or_false]
          rw [e] at h
          exact h)
        have HBS : Hid (Below W.heap.size W (wo.setCell ⟨W.heap.size, v, none⟩ (.bool true))) := Lib.hid (HBo.out.setCell (p := ⟨W.heap.size, v, none⟩) (Nat.le_refl _) _)
        rw [hsn] at n0
        clear hsn
        go_wp2_with fail
        go_roundw
        case rel => exact ⟨k + 1, by omega, by go_num, Lib.hid (fun i hi => by
          by_cases e : i = k
          · subst e; exact HKY.out
          · exact HOK.out i (by omega)), HNX, HBS⟩
        case measure => simp [intOf]; omega
    · have hd : decide ((k : Int) < (m : Int)) = false := by simp; omega
      obtain rfl : k = m := by omega
      have HC2 : Hid (CE = if clD g ds k = false then 32 else 0) := Lib.hid (by rw [HCD.out, if_neg (by rw [okD_iff.2 HOK.out]; decide)])
      have HGC := Lib.hid (HFL.out wo HBo.out)
      obtain ⟨y0, y1, y2, y3⟩ := row4 ((HBo.out.block w.heap.size (heapE_lt H0.out)).trans H0.out)
      go_wp2_with fail
      refine HGC.out.mono ?_
      rintro e U ⟨A9, c9, rfl, hown9, hbU⟩
      have HBU := Lib.hid hbU
      obtain ⟨V, HV⟩ : ∃ V, Hid (V = U.alloc (.cells #[.int .i64 (N : Int), .slice A9 M c9] 107)) := ⟨_, Lib.hid rfl⟩
      have HUV : Hid (Below U.heap.size U V) := Lib.hid (by rw [HV.out]; exact (Below.refl _ U).alloc (Nat.le_refl _) _)
      have KV : Hid (V.heap[U.heap.size]? = some (.cells #[.int .i64 (N : Int), .slice A9 M c9] 107 (0, 0))) := Lib.hid (by rw [HV.out]; exact heap_new U _)
      have HED : Hid (RdEg V U.heap.size A9 M g) := Lib.hid ((OwnF.edg hown9).below HUV.out)
      have HWV : Hid (Below W.heap.size W V) := Lib.hid (HBo.out.trans ((hbU.trans (HUV.out.mono hbU.size)).mono HBo.out.size))
      have HWVw : Hid (Below w.heap.size w V) := Lib.hid (HBL.out.trans (HWV.out.mono HBL.out.size))
      have HCK := Lib.hid (check_yes (w := V) (c := c9) HED.out HGR.out HUV.out.size)
      clear hown9 hbU y0 y1 y2 y3 HGC
      go_upto_region 10 with fail
      rw [← HV.out]
      obtain ⟨g0, g1, _, _⟩ := row2 KV.out
      go_wp2_with fail
      refine HCK.out.mono ?_
      rintro e T ⟨rfl, hb⟩
      have HVT := Lib.hid hb
      have HWT : Hid (Below W.heap.size W T) := Lib.hid (HWV.out.trans (hb.mono HWV.out.size))
      have HWTw : Hid (Below w.heap.size w T) := Lib.hid (HWVw.out.trans (hb.mono HWVw.out.size))
      clear hb g0 g1 HCK
      go_wp2_with fail
      go_loopw [11, 13, 14, 15, 54, 63] (fun s _ _ _ v _ wr => ∃ j : Nat, j ≤ k ∧ v = .int .i64 (j : Int) ∧ s = .int .u64 ((stD ds j : Nat) : Int) ∧ Hid (clD g ds j = true) ∧ Hid (Below T.heap.size T wr)) (fun _ _ _ _ v _ _ => k - (intOf v).toNat)
      case atStart => exact ⟨0, Nat.zero_le _, rfl, rfl, Lib.hid rfl, Lib.hid (Below.refl _ _)⟩
      case round =>
        obtain ⟨wj, hwj⟩ : ∃ x, x = wr := ⟨_, rfl⟩
        subst hwj
        obtain ⟨j, hj, rfl, rfl, HCL, HBj⟩ := hrel
        have HWj : Hid (Below w.heap.size w wj) := Lib.hid (HWTw.out.trans (HBj.out.mono HWTw.out.size))
        have HWWj : Hid (Below W.heap.size W wj) := Lib.hid (HWT.out.trans (HBj.out.mono HWT.out.size))
        have HVj : Hid (Below V.heap.size V wj) := Lib.hid (HVT.out.trans (HBj.out.mono HVT.out.size))
        by_cases hjm : j < k
        · have hd2 : decide ((j : Int) < (k : Int)) = true := by simp; omega
          have hji : (j : Int) < (k : Int) := by omega
          have hj0 : (0 : Int) ≤ (j : Int) := by omega
          have hadd : IntKind.i64.wrap ((j : Int) + 1) = ((j + 1 : Nat) : Int) := by rw [IntWalk.i64_in _ (by have := HM.out; omega)]; omega
          obtain ⟨b, off, rfl, _, c0⟩ := (HD.out.below (HWWj.out.mono LD.out)).at_ hjm
          obtain ⟨v, hv, hvN, _⟩ := okAt_nat (HOK.out j hjm)
          rw [hv] at c0
          have hv0 : (0 : Int) ≤ (v : Int) := by omega
          have hv64 : (v : Int) < 64 := by omega
          have HSL := Lib.hid (stD_lt hN j (fun i hi => HOK.out i (by omega)))
          have HSN : Hid (add (stD ds j) v = stD ds (j + 1)) := Lib.hid (by show _ = add (stD ds j) (ix ds j).toNat; rw [hv, Int.toNat_natCast])
          have HOR := Lib.hid (or_spell HSL.out (show v < 64 by omega))
          have HOR2 := Lib.hid (or_spell2 HSL.out (show v < 64 by omega))
          have hconv : IntKind.u64.wrap (v : Int) = (v : Int) := by rw [IntKind.wrap_u64]; omega
          rw [HSN.out] at HOR HOR2
          have hor := HOR.out
          have hor2 := HOR2.out
          have HSL1 := Lib.hid (stD_lt hN (j + 1) (fun i hi => HOK.out i (by omega)))
          have HFT := Lib.hid (stD_fits (k := j + 1) (fun i hi => HOK.out i (by omega)))
          have HCA := Lib.hid (closed_any (w := wj) (c := c9) (HED.out.below (HVj.out.mono HUV.out.size)) HI.out hN (by have := HGL.out; have := HGR.out.2.2.1; rw [castE_len] at this; omega) (Nat.le_trans HUV.out.size HVj.out.size) HSL1.out HFT.out)
          obtain ⟨S1, HS1⟩ : ∃ q, Hid (stD ds (j + 1) = q) := ⟨_, Lib.hid rfl⟩
          obtain ⟨S0, HS0⟩ : ∃ q, Hid (stD ds j = q) := ⟨_, Lib.hid rfl⟩
          rw [HS1.out] at hor hor2 HCA
          rw [HS0.out] at hor hor2 ⊢
          obtain ⟨cb, HCB⟩ : ∃ q, Hid (closedB g S1 = q) := ⟨_, Lib.hid rfl⟩
          rw [HCB.out] at HCA
          obtain ⟨g0, g1, _, _⟩ := row2 ((HVj.out.block U.heap.size (heapE_lt KV.out)).trans KV.out)
          clear hv
          go_wp2_with fail
          refine HCA.out.mono ?_
          rintro e wz ⟨rfl, hb⟩
          have HBz : Hid (Below T.heap.size T wz) := Lib.hid (HBj.out.trans (hb.mono HBj.out.size))
          have HWz : Hid (Below w.heap.size w wz) := Lib.hid (HWj.out.trans (hb.mono HWj.out.size))
          clear hb g0 g1 HCA
          cases cb with
          | false =>
            have HR : Hid (CE = 32) := Lib.hid (by rw [HC2.out, if_pos (clD_no (k := j) (by rw [HS1.out]; exact HCB.out) hjm)])
            go_wp2_with fail
            exact bodyPost_ret (results_tmp2 rfl _ _ _) rfl ⟨HWz.out, .inl ⟨by rw [HR.out]; decide, by rw [HR.out]; rfl⟩⟩
          | true =>
            have HNC : Hid (clD g ds (j + 1) = true) := Lib.hid (by rw [clD_succ, HCL.out, HS1.out, HCB.out]; rfl)
            go_wp2_with fail
            go_roundw
            case rel => exact ⟨j + 1, by omega, by go_num, by rw [HS1.out], HNC, HBz⟩
            case measure => simp [intOf]; omega
        · have hd2 : decide ((j : Int) < (k : Int)) = false := by simp; omega
          obtain rfl : j = k := by omega
          have HR : Hid (CE = 0) := Lib.hid (by rw [HC2.out, if_neg (by rw [HCL.out]; decide)])
          have HCN := Lib.hid (cloneRd_any (w := wj) (c := c) (HD.out.below (HWWj.out.mono LD.out)) (Nat.le_trans LD.out HWWj.out.size) HM.out)
          go_wp2_with fail
          refine HCN.out.mono ?_
          rintro e wz ⟨A', c', rfl, hown, hb⟩
          have HWz : Hid (Below w.heap.size w wz) := Lib.hid (HWj.out.trans (hb.mono HWj.out.size))
          have HO := Lib.hid hown
          have HLZ : Hid (w.heap.size ≤ wj.heap.size) := Lib.hid HWj.out.size
          clear hb HCN
          rcases hown.2 with ⟨hv, h0⟩ | ⟨g', cap, cur, hv, hbg, hh, _⟩
          · injection hv with e1 e2 e3
            subst e1 e3
            have HDS : Hid (ds.reverse = []) := Lib.hid (by
              have := HDL.out
              have h0' : ds.length = 0 := by omega
              rw [List.eq_nil_of_length_eq_zero h0']; rfl)
            clear hown
            subst h0
            go_wp2_with fail
            refine (reverse_nil (w := wz) (c := 0)).mono ?_
            rintro e wy ⟨rfl, rfl⟩
            go_wp2_with fail
            exact bodyPost_ret (results_tmp2 rfl _ _ _) rfl ⟨HWz.out, .inr ⟨HR.out, none, 0, rfl, by rw [HDS.out]; exact Rd.nil_⟩⟩
          · injection hv with e1 e2 e3
            subst e1 e3
            have HRV := Lib.hid (reverse_any HO.out (by have := HM.out; omega))
            clear hown hh
            go_wp2_with fail
            refine HRV.out.mono ?_
            rintro e wy ⟨rfl, hown2, hg⟩
            have HO2 := Lib.hid hown2
            have HWy : Hid (Below w.heap.size w wy) := Lib.hid (HWz.out.grown hg HWz.out.size (fun k h => by cases h; have := HLZ.out; omega))
            clear hown2 hg
            go_wp2_with fail
            exact bodyPost_ret (results_tmp2 rfl _ _ _) rfl ⟨HWy.out, .inr ⟨HR.out, _, _, rfl, Rd.of_own HO2.out⟩⟩
end Go.Proofs.YtminihiecloglaaGreat
