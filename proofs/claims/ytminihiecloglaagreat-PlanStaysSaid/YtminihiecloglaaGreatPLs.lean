/-
  PlanStays, over this translation (printed by genps.py).
-/
import Derived.Test.YtminihiecloglaaGreatPSt
namespace Go.Proofs.YtminihiecloglaaGreat
open Go.RowKit
open SemP FlP GaP DiP
set_option linter.unusedVariables false
set_option linter.unusedSimpArgs false
set_option maxRecDepth 10000
set_option maxHeartbeats 16000000 in
theorem law_stays {w : World} {n c : Nat} {A : Option Addr} {l : List Sv} {A2 A3 : Option Addr} {m c2 m3 c3 : Nat} {fs ts : List Int} (hr : RdJ 2 svI w (fun b => w.heap.size ≤ b) A n l) (hcap : CapA A n c) (hf : Rd w w.heap.size A2 m fs) (ht : Rd w w.heap.size A3 m3 ts) (hm : LenAt w) (h1 : 1 < w.heap.size) :
    Calls Tryz.prog 9 #[.agg #[.slice A n c], .slice A2 m c2, .slice A3 m3 c3] w fun e w' => e = .returned (.bool true) ∧ Below w.heap.size w w' := by
  have HR := Lib.hid hr
  have HC := Lib.hid hcap
  have HF := Lib.hid hf
  have HT := Lib.hid ht
  obtain ⟨W, HW⟩ : ∃ W, Hid (W = w.alloc (.cells #[.slice A n c] 24)) := ⟨_, Lib.hid rfl⟩
  have hbW : Below w.heap.size w W := by rw [HW.out]; exact (Below.refl _ w).alloc (Nat.le_refl _) _
  have H0 : Hid (W.heap[w.heap.size]? = some (.cells #[.slice A n c] 24 (0, 0))) := Lib.hid (by rw [HW.out]; exact heap_new w _)
  have HLM := Lib.hid (And.intro hm h1)
  have HLW := Lib.hid (LenAt.below hm h1 hbW)
  have HBW := Lib.hid hbW
  have hsz := hbW.size
  clear hr hcap hf ht hm h1 hbW
  obtain ⟨x0, _⟩ := row1f H0.out
  have HAN := Lib.hid (panchor_any W HLW.out.1 HLW.out.2)
  go_enter Tryz.func9, Tryz.ntmps9
  go_upto_region 1 with fail
  change Code.wp _ _ _ _ (w.alloc (.cells #[.slice A n c] 24))
  rw [← HW.out]
  go_wp2_with fail
  refine HAN.out.mono ?_
  rintro e w1 ⟨rfl, hb⟩
  have HB1 : Hid (Below w.heap.size w w1) := Lib.hid (HBW.out.trans (hb.mono hsz))
  have HL1 := Lib.hid (LenAt.below HLW.out.1 HLW.out.2 hb)
  have K1 : Hid (w1.heap[w.heap.size]? = _) := Lib.hid ((hb.block w.heap.size (heapE_lt H0.out)).trans H0.out)
  clear hb x0 HAN
  obtain ⟨x0, _⟩ := row1f K1.out
  have HMC := Lib.hid (right_any (c := c) (RdJ.below sv_turns HR.out HB1.out) HB1.out.size HL1.out.1 HL1.out.2)
  go_wp2_with fail
  refine HMC.out.mono ?_
  rintro e z1 ⟨A', n', c', ok, rfl, hb, hit⟩
  obtain ⟨W2, HW2⟩ : ∃ W2, Hid (W2 = z1.alloc (.cells #[.slice A' n' c'] 29)) := ⟨_, Lib.hid rfl⟩
  have hb2 : Below z1.heap.size z1 W2 := by rw [HW2.out]; exact (Below.refl _ z1).alloc (Nat.le_refl _) _
  have hb12 : Below w1.heap.size w1 W2 := hb.trans (hb2.mono hb.size)
  have HB2 : Hid (Below w.heap.size w W2) := Lib.hid (HB1.out.trans (hb12.mono HB1.out.size))
  have HL2 := Lib.hid (LenAt.below HL1.out.1 HL1.out.2 hb12)
  have K2 : Hid (W2.heap[w.heap.size]? = _) := Lib.hid ((hb12.block w.heap.size (heapE_lt K1.out)).trans K1.out)
  have HIT := Lib.hid (fun h => And.intro (hit h).1 (hit h).2.1)
  clear hb hb2 hb12 hit x0 HMC
  go_upto_region 4 with fail
  change Code.wp _ _ _ _ (z1.alloc (.cells #[.slice A' n' c'] 29))
  rw [← HW2.out]
  cases ok with
  | false =>
    go_wp2_with fail
    refine bodyPost_ret (results_tmp rfl _ _ _) rfl ⟨rfl, HB2.out⟩
  | true =>
    obtain ⟨hck, hsm⟩ := HIT.out rfl
    have HP : Hid (CatAt W2 w.heap.size A n c l) := Lib.hid ⟨RdJ.below sv_turns HR.out HB2.out, HC.out, HB2.out.size, hsm, HL2.out.1, HL2.out.2⟩
    have HLV := Lib.hid (ck_lev hck)
    clear hck hsm HIT
    by_cases hm30 : (30 : Int) < (m : Int)
    · have d1 : decide ((30 : Int) < (m : Int)) = true := decide_eq_true hm30
      go_wp2_with fail
      refine bodyPost_ret (results_tmp rfl _ _ _) rfl ⟨rfl, HB2.out⟩
    have d1 : decide ((30 : Int) < (m : Int)) = false := decide_eq_false hm30
    by_cases hm31 : (30 : Int) < (m3 : Int)
    · have d2 : decide ((30 : Int) < (m3 : Int)) = true := decide_eq_true hm31
      go_wp2_with fail
      refine bodyPost_ret (results_tmp rfl _ _ _) rfl ⟨rfl, HB2.out⟩
    have d2 : decide ((30 : Int) < (m3 : Int)) = false := decide_eq_false hm31
    have HMK := Lib.hid (make_any (c := c) (c2 := c2) (c3 := c3) HP.out HLV.out (HF.out.below HB2.out) (HT.out.below HB2.out) HB2.out.size HB2.out.size (by omega) (by omega))
    obtain ⟨ME, HME⟩ : ∃ q, Hid (makeE l fs ts = q) := ⟨_, Lib.hid rfl⟩
    rw [HME.out] at HMK
    obtain ⟨x0, _⟩ := row1f K2.out
    go_wp2_with fail
    refine HMK.out.mono ?_
    rintro e w3 ⟨hb, ho⟩
    have HB3 : Hid (Below w.heap.size w w3) := Lib.hid (HB2.out.trans (hb.mono HB2.out.size))
    have K3 : Hid (w3.heap[w.heap.size]? = _) := Lib.hid ((hb.block w.heap.size (heapE_lt K2.out)).trans K2.out)
    have HP3 := Lib.hid (HP.out.below hb)
    clear hb x0 HMK
    rcases ho with ⟨hne, rfl⟩ | ⟨h0, v, rfl, hp⟩
    · have d3 : (ME != 0) = true := by rw [bne_iff_ne]; exact hne
      have HBX : Hid (Below w.heap.size w (w3.alloc (.cells #[.slice none 0 0, .slice none 0 0, .slice none 0 0, .slice none 0 0] 35))) := Lib.hid (HB3.out.alloc HB3.out.size _)
      clear hne
      go_wp2_with fail
      exact bodyPost_ret (results_tmp rfl _ _ _) rfl ⟨rfl, HBX.out⟩
    have HME0 : Hid (makeE l fs ts = 0) := Lib.hid (by rw [HME.out]; exact h0)
    have HCE := Lib.hid (makeE_ok HME0.out).1
    subst h0
    obtain ⟨AF, AT, AS, AE, mm, cF, cT, N, cS, M, cE, rfl, hlf, hlt, _, _, o3, _⟩ := hp.ex
    obtain rfl : mm = m := by rw [← hlf]; exact HF.out.len
    obtain rfl : m3 = mm := by rw [← hlt]; exact HT.out.len.symm
    have hm3n : m3 = n := by rw [← hlf, ← HP.out.rd.1]; exact (setB_iff.1 (chkE_ok HCE.out).1).1
    subst hm3n
    have HFL := Lib.hid hlf
    have HS3 := Lib.hid o3
    clear hp o3 hlf hlt
    obtain ⟨S, HSS⟩ : ∃ S, Hid (stL l fs ts = S) := ⟨_, Lib.hid rfl⟩
    rw [HSS.out] at HS3
    have HNS : Hid (S.length = N) := Lib.hid (by obtain ⟨_, _, e⟩ := HS3.out.shape; injection e with _ e _; exact e.symm)
    have HN16 := Lib.hid HP.out.n16
    have HL48 : Hid (N ≤ 48) := Lib.hid (by rw [← HNS.out, ← HSS.out]; have := stK_len l fs ts fs.length; have := HN16.out; have := HFL.out; unfold stL; omega)
    obtain ⟨P1, HP1⟩ : ∃ P1, Hid (P1 = w3.alloc (.cells #[.slice AF m3 cF, .slice AT m3 cT, .slice AS N cS, .slice AE M cE] 35)) := ⟨_, Lib.hid rfl⟩
    have HWP1 : Hid (Below w3.heap.size w3 P1) := Lib.hid (by rw [HP1.out]; exact (Below.refl _ w3).alloc (Nat.le_refl _) _)
    have KP1 : Hid (P1.heap[w3.heap.size]? = some (.cells #[.slice AF m3 cF, .slice AT m3 cT, .slice AS N cS, .slice AE M cE] 35 (0, 0))) := Lib.hid (by rw [HP1.out]; exact heap_new w3 _)
    have HBP1 : Hid (Below w.heap.size w P1) := Lib.hid (HB3.out.trans (HWP1.out.mono HB3.out.size))
    have KC1 : Hid (P1.heap[w.heap.size]? = _) := Lib.hid ((HWP1.out.block w.heap.size (heapE_lt K3.out)).trans K3.out)
    have HSP1 := Lib.hid (HS3.out.kept HWP1.out)
    have HMS := Lib.hid (make_any (w := P1) (c := c) (c2 := c2) (c3 := c2) (HP3.out.below HWP1.out) HLV.out (HF.out.below HBP1.out) (HF.out.below HBP1.out) HBP1.out.size HBP1.out.size (by omega) (by omega))
    rw [makeE_self HME0.out] at HMS
    obtain ⟨x0, _⟩ := row1f KC1.out
    rw [HP1.out] at x0
    go_wp2_with fail
    try rw [← HP1.out]
    refine HMS.out.mono ?_
    rintro e w4 ⟨hb, ho⟩
    rcases ho with ⟨hne, _⟩ | ⟨_, v, rfl, hp⟩
    · exact absurd rfl hne
    obtain ⟨BF, BT, BS, BE, mm, dF, dT, N2, dS, M2, dE, rfl, hlf, hlt, _, _, o3, o4⟩ := hp.ex
    rw [stL_self] at o3 o4
    obtain rfl : N2 = 0 := by obtain ⟨_, _, e⟩ := o3.shape; injection e with _ e _
    obtain rfl : M2 = 0 := by obtain ⟨_, _, e⟩ := o4.shape; injection e with _ e _
    have HB4 : Hid (Below P1.heap.size P1 w4) := Lib.hid hb
    clear hp o3 o4 hlf hlt hb x0 HMS
    obtain ⟨P2, HP2⟩ : ∃ P2, Hid (P2 = w4.alloc (.cells #[.slice BF mm dF, .slice BT mm dT, .slice BS 0 dS, .slice BE 0 dE] 35)) := ⟨_, Lib.hid rfl⟩
    have HB42 : Hid (Below w4.heap.size w4 P2) := Lib.hid (by rw [HP2.out]; exact (Below.refl _ w4).alloc (Nat.le_refl _) _)
    have HBP12 : Hid (Below P1.heap.size P1 P2) := Lib.hid (HB4.out.trans (HB42.out.mono HB4.out.size))
    have KP2 : Hid (P2.heap[w4.heap.size]? = some (.cells #[.slice BF mm dF, .slice BT mm dT, .slice BS 0 dS, .slice BE 0 dE] 35 (0, 0))) := Lib.hid (by rw [HP2.out]; exact heap_new w4 _)
    have KP12 : Hid (P2.heap[w3.heap.size]? = _) := Lib.hid ((HBP12.out.block w3.heap.size (heapE_lt KP1.out)).trans KP1.out)
    have KC2 : Hid (P2.heap[w.heap.size]? = _) := Lib.hid ((HBP12.out.block w.heap.size (heapE_lt KC1.out)).trans KC1.out)
    have HBP2 : Hid (Below w.heap.size w P2) := Lib.hid (HBP1.out.trans (HBP12.out.mono HBP1.out.size))
    have HSP2 := Lib.hid (HSP1.out.kept HBP12.out)
    have hw0 : IntKind.i64.wrap ((0 : Int) + 0) = 0 := by decide
    obtain ⟨z0, z1', z2, z3⟩ := row4 KP2.out
    rw [HP2.out] at z0 z1' z2 z3
    go_wp2_with (at_make; rw [← HP2.out]; refine wpl_make rfl (.tmp 68) (.tmp 68) rfl P2.heap.size m3 rfl rfl (by omega) (Nat.le_refl _) ?_; intro w5 hown5 hgr5; (have hb5 : Below P2.heap.size P2 w5 := (Below.refl _ P2).grown hgr5 (Nat.le_refl _) (fun g hg => by cases hg)); (obtain ⟨y0, y1, y2, y3⟩ := row4 ((hb5.block w3.heap.size (heapE_lt KP12.out)).trans KP12.out)); (have HB5 := Lib.hid hb5); (have HO5 := Lib.hid hown5); clear hb5 hgr5 hown5)
    clear z0 z1' z2 z3 hw0
    rw [← cntL_zero S m3] at HO5
    have HRS := Lib.hid HSP2.out.rdS
    go_loopw [15, 73] (fun _ v wr => ∃ k : Nat, k ≤ N ∧ v = .int .i64 (k : Int) ∧ Hid (Own wr P2.heap.size (.slice (some ⟨P2.heap.size, 0, none⟩) m3 m3) m3 (cntL S m3 k)) ∧ Hid (Below P2.heap.size P2 wr)) (fun _ v _ => N - (intOf v).toNat)
    case atStart => exact ⟨0, Nat.zero_le _, rfl, HO5, HB5⟩
    case round =>
      obtain ⟨wo, hwo⟩ : ∃ x, x = wr := ⟨_, rfl⟩
      subst hwo
      obtain ⟨k, hk, rfl, HO, HBo⟩ := hrel
      by_cases hkn : k < N
      · have hd : decide ((k : Int) < (N : Int)) = true := by simp; omega
        have hki : (k : Int) < (N : Int) := by omega
        have hk0 : (0 : Int) ≤ (k : Int) := by omega
        have hadd : IntKind.i64.wrap ((k : Int) + 1) = ((k + 1 : Nat) : Int) := by rw [IntWalk.i64_in _ (by have := HL48.out; omega)]; omega
        obtain ⟨b, off, rfl, hlt, s0, s1⟩ := (HRS.out.below HBo.out (Nat.le_refl _)).at_ k hkn
        obtain ⟨j, hj, hjm⟩ : ∃ j : Nat, (sAt S k).1 = (j : Int) ∧ j < m3 := by
          have hmem : sAt S k ∈ stL l fs ts := by rw [HSS.out]; exact sAt_mem (by rw [HNS.out]; exact hkn)
          obtain ⟨i, hi, e, _⟩ := mem_stK.1 hmem
          exact ⟨i, e, by rw [← HFL.out]; exact hi⟩
        have HCS := Lib.hid (cntL_succ (m := m3) (by rw [HNS.out]; exact hkn) hj hjm)
        have HCB : Hid (0 ≤ ix (cntL S m3 k) j ∧ ix (cntL S m3 k) j ≤ 48) := Lib.hid (by
          rw [ix_cntL S hjm]
          have h1 := List.countP_le_length (p := fun x : StP => x.1 == (j : Int)) (l := S.take k)
          rw [List.length_take] at h1
          have := HL48.out
          omega)
        obtain ⟨K, HK⟩ : ∃ q, Hid ((sAt S k).2 = q) := ⟨_, Lib.hid rfl⟩
        rw [hj] at s0
        rw [HK.out] at s1
        obtain ⟨C, HCV⟩ : ∃ q, Hid (ix (cntL S m3 k) j = q) := ⟨_, Lib.hid rfl⟩
        rw [HCV.out] at HCS HCB
        have hcb := HCB.out
        obtain ⟨wp, HWP⟩ : ∃ wp, Hid (wp = wo.alloc (.cells #[.int .i64 (j : Int), .int .i64 K] 64)) := ⟨_, Lib.hid rfl⟩
        have HBP : Hid (Below wo.heap.size wo wp) := Lib.hid (by rw [HWP.out]; exact (Below.refl _ wo).alloc (Nat.le_refl _) _)
        have KW : Hid (wp.heap[wo.heap.size]? = some (.cells #[.int .i64 (j : Int), .int .i64 K] 64 (0, 0))) := Lib.hid (by rw [HWP.out]; exact heap_new wo _)
        have HOP := Lib.hid (HO.out.kept HBP.out)
        have n0 := HOP.out.cell hjm
        have nf := HOP.out.free j
        rw [HCV.out] at n0
        obtain ⟨p0, p1, _, _⟩ := row2 KW.out
        have e1 : decide ((j : Int) < 0) = false := by simp
        have e2 : decide ((m3 : Int) ≤ (j : Int)) = false := by simp; omega
        have j0 : (0 : Int) ≤ (j : Int) := by omega
        have jm : (j : Int) < (m3 : Int) := by omega
        have hC : IntKind.i64.wrap (C + 1) = C + 1 := IntWalk.i64_in _ (by omega)
        have HST : Hid (Own (wp.setCell ⟨P2.heap.size, j, none⟩ (.int .i64 (C + 1))) P2.heap.size (.slice (some ⟨P2.heap.size, 0, none⟩) m3 m3) m3 (cntL S m3 (k + 1))) := Lib.hid (by rw [HCS.out]; exact HOP.out.store j _)
        have HBS : Hid (Below P2.heap.size P2 (wp.setCell ⟨P2.heap.size, j, none⟩ (.int .i64 (C + 1)))) := Lib.hid ((HBo.out.trans (HBP.out.mono HBo.out.size)).setCell (p := ⟨P2.heap.size, j, none⟩) (Nat.le_refl _) _)
        rw [HWP.out] at n0 nf p0 p1 HST HBS
        clear hj
        go_wp2_with fail
        go_roundw
        case rel => exact ⟨k + 1, by omega, by go_num, HST, HBS⟩
        case measure => simp [intOf]; omega
      · have hd : decide ((k : Int) < (N : Int)) = false := by simp; omega
        obtain rfl : k = N := by omega
        have HCN : Hid (∀ i, i < m3 → ix (cntL S m3 k) i = if ix fs i = ix ts i then 0 else 1 + 2 * rise l fs ts i) := Lib.hid (fun i hi => by
          have h1 := cntL_all (l := l) (fs := fs) (ts := ts) hi HFL.out
          rw [HSS.out, HNS.out] at h1
          rw [h1, stAt_want ((chkE_ok HCE.out).2.2.2.2 i (by rw [HFL.out]; exact hi))])
        go_wp2_with fail
        have HCAT := Lib.hid (((HP3.out.below HWP1.out).below HBP12.out).below HBo.out)
        go_loopw [16, 17, 18, 19, 97] (fun _ _ _ _ v wr => ∃ i : Nat, i ≤ m3 ∧ v = .int .i64 (i : Int) ∧ Hid (Own wr P2.heap.size (.slice (some ⟨P2.heap.size, 0, none⟩) m3 m3) m3 (cntL S m3 k)) ∧ Hid (Below wo.heap.size wo wr)) (fun _ _ _ _ v _ => m3 - (intOf v).toNat)
        case atStart => exact ⟨0, Nat.zero_le _, rfl, HO, Lib.hid (Below.refl _ _)⟩
        case round =>
          obtain ⟨wi, hwi⟩ : ∃ x, x = wr := ⟨_, rfl⟩
          subst hwi
          obtain ⟨i, hi, rfl, HOi, HBi⟩ := hrel
          have HBPi : Hid (Below P2.heap.size P2 wi) := Lib.hid (HBo.out.trans (HBi.out.mono HBo.out.size))
          have HWi : Hid (Below w.heap.size w wi) := Lib.hid (HBP2.out.trans (HBPi.out.mono HBP2.out.size))
          by_cases him : i < m3
          · have hd2 : decide ((i : Int) < (m3 : Int)) = true := by simp; omega
            have hii : (i : Int) < (m3 : Int) := by omega
            have hi0 : (0 : Int) ≤ (i : Int) := by omega
            have hadd : IntKind.i64.wrap ((i : Int) + 1) = ((i + 1 : Nat) : Int) := by rw [IntWalk.i64_in _ (by have := HN16.out; omega)]; omega
            have n0 := HOi.out.cell him
            obtain ⟨C, HCV⟩ : ∃ q, Hid (ix (cntL S m3 k) i = q) := ⟨_, Lib.hid rfl⟩
            rw [HCV.out] at n0
            obtain ⟨hsf, hst, _, _, hri⟩ := chkE_ok HCE.out
            obtain ⟨f1, f2⟩ := setB_iff.1 hsf
            obtain ⟨t1, t2⟩ := setB_iff.1 hst
            have hri := hri i (by rw [HFL.out]; exact him)
            have hTL : ts.length = m3 := HT.out.len
            obtain ⟨a0, vf, ea, evf, hal, hvf⟩ := isR_nat (f2 i (by rw [HFL.out]; exact him))
            obtain rfl : i = a0 := by omega
            obtain ⟨a0, vt, ea2, evt, _, hvt⟩ := isR_nat (t2 i (by rw [hTL]; exact him))
            obtain rfl : i = a0 := by omega
            have hA := HCAT.out.below HBi.out
            obtain ⟨b1, o1, Aj, nj, cj, hA1, hb1, _, k1, _, hrj⟩ := sv_at hA.rd him
            subst hA1
            have hnj : (svAt l i).2.length = nj := hrj.1
            obtain ⟨b2, o2, _, _, _, hA2, hb2, _, _, _, _, kf, _⟩ := rl_at hrj (i := vf) (by omega)
            subst hA2
            obtain ⟨b3, o3, _, _, _, hA3, hb3, _, _, _, _, kt, _⟩ := rl_at hrj (i := vt) (by omega)
            injection hA3 with hA3
            injection hA3 with e1 e2 _
            subst e1 e2
            obtain ⟨bf, of', hAf, hbf, cf⟩ := (HF.out.below HWi.out).at_ him
            subst hAf
            obtain ⟨bt', ot, hAt, hbt, ct⟩ := (HT.out.below HWi.out).at_ him
            subst hAt
            rw [evf] at cf
            rw [evt] at ct
            have l1 := levAt_ok HLV.out hal hvf
            have l2 := levAt_ok HLV.out hal hvt
            have e1 : (rlAt (svAt l i).2 vf).2.1 = levAt l i vf := rfl
            have e2 : (rlAt (svAt l i).2 vt).2.1 = levAt l i vt := rfl
            rw [e1] at kf
            rw [e2] at kt
            obtain ⟨L1, hL1⟩ : ∃ q, levAt l i vf = q := ⟨_, rfl⟩
            obtain ⟨L2, hL2⟩ : ∃ q, levAt l i vt = q := ⟨_, rfl⟩
            have hRS : rise l fs ts i = L2 - L1 := by unfold rise; rw [evf, evt, Int.toNat_natCast, Int.toNat_natCast, hL1, hL2]
            have hCW := HCN.out i him
            rw [HCV.out, evf, evt, hRS] at hCW
            rw [hRS] at hri
            rw [hL1] at kf l1
            rw [hL2] at kt l2
            have hsub : IntKind.i64.wrap (L2 - L1) = L2 - L1 := IntWalk.i64_in _ (by omega)
            have hmul : IntKind.i64.wrap (2 * (L2 - L1)) = 2 * (L2 - L1) := IntWalk.i64_in _ (by omega)
            have had3 : IntKind.i64.wrap (1 + 2 * (L2 - L1)) = 1 + 2 * (L2 - L1) := IntWalk.i64_in _ (by omega)
            have hvfi : (vf : Int) < (nj : Int) := by omega
            have hvti : (vt : Int) < (nj : Int) := by omega
            have hvf0 : (0 : Int) ≤ (vf : Int) := by omega
            have hvt0 : (0 : Int) ≤ (vt : Int) := by omega
            have KCi : Hid (wi.heap[w.heap.size]? = _) := Lib.hid ((HBPi.out.block w.heap.size (heapE_lt KC2.out)).trans KC2.out)
            obtain ⟨x0, _⟩ := row1f KCi.out
            clear hA hrj f2 t2 ea ea2 evf evt hsf hst hL1 hL2 e1 e2 l1 l2 hRS
            by_cases hft : (vf : Int) = (vt : Int)
            · have hne : ((vf : Int) != (vt : Int)) = false := by rw [bne_eq_false_iff_eq]; exact hft
              have hc0 : C = 0 := by rw [if_pos hft] at hCW; exact hCW
              subst hc0
              have HRN : Hid (Own wi P2.heap.size (.slice (some ⟨P2.heap.size, 0, none⟩) m3 m3) m3 (cntL S m3 k)) := HOi
              clear hft hCW
              go_wp2_with fail
              go_quiet (fail)
              go_wp2_with fail
              go_quiet (fail)
              go_wp2_with fail
              go_roundw
              case rel => exact ⟨i + 1, by omega, by go_num, Lib.hid (by first | exact HRN.out | exact HRN.out.drewN _), Lib.hid (by first | exact HBi.out | exact Below.drewN' HBi.out _ | exact Below.drewN' (Below.drewN' HBi.out _) _)⟩
              case measure => simp [intOf]; omega
            · have hne : ((vf : Int) != (vt : Int)) = true := by rw [bne_iff_ne]; exact hft
              have hc0 : C = 1 + 2 * (L2 - L1) := by rw [if_neg hft] at hCW; exact hCW
              subst hc0
              have HRN : Hid (Own wi P2.heap.size (.slice (some ⟨P2.heap.size, 0, none⟩) m3 m3) m3 (cntL S m3 k)) := HOi
              have hcc : ((1 + 2 * (L2 - L1)) != (1 + 2 * (L2 - L1))) = false := by rw [bne_eq_false_iff_eq]
              clear hft hCW
              go_wp2_with fail
              go_quiet (fail)
              go_wp2_with fail
              go_quiet (fail)
              go_wp2_with fail
              go_roundw
              case rel => exact ⟨i + 1, by omega, by go_num, Lib.hid (by first | exact HRN.out | exact HRN.out.drewN _), Lib.hid (by first | exact HBi.out | exact Below.drewN' HBi.out _ | exact Below.drewN' (Below.drewN' HBi.out _) _)⟩
              case measure => simp [intOf]; omega
          · have hd2 : decide ((i : Int) < (m3 : Int)) = false := by simp; omega
            go_wp2_with fail
            exact bodyPost_ret (results_tmp rfl _ _ _) rfl ⟨rfl, HWi.out⟩
end Go.Proofs.YtminihiecloglaaGreat
