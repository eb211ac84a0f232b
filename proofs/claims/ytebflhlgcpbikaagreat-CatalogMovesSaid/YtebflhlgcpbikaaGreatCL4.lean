/-
  CatalogMoves, over this translation.
-/
import Derived.Test.YtebflhlgcpbikaaGreatCAn
import Derived.Test.YtebflhlgcpbikaaGreatCRg
import Derived.Test.YtebflhlgcpbikaaGreatCPv
namespace Go.Proofs.YtebflhlgcpbikaaGreat
open Go.RowKit
open SemP FlP GaP DiP
set_option linter.unusedVariables false
set_option linter.unusedSimpArgs false
set_option maxRecDepth 10000
set_option maxHeartbeats 16000000 in
theorem law_moves {w : World} {n c : Nat} {A : Option Addr} {l : List Sv} {i v : Int} {A2 : Option Addr} {m c2 : Nat} {vs : List Int} (hr : RdJ 2 svI w (fun b => w.heap.size ≤ b) A n l) (hcap : CapA A n c) (hvr : Rd w w.heap.size A2 m vs) (hm : LenAt w) (h1 : 1 < w.heap.size) :
    Calls Tryz.prog 7 #[.agg #[.slice A n c], .slice A2 m c2, .int .i64 i, .int .i64 v] w fun e w' => e = .returned (.bool true) ∧ Below w.heap.size w w' := by
  have HR := Lib.hid hr
  have HC := Lib.hid hcap
  have HVR := Lib.hid hvr
  obtain ⟨W, HW⟩ : ∃ W, Hid (W = w.alloc (.cells #[.slice A n c] 24)) := ⟨_, Lib.hid rfl⟩
  have hbW : Below w.heap.size w W := by rw [HW.out]; exact (Below.refl _ w).alloc (Nat.le_refl _) _
  have H0 : Hid (W.heap[w.heap.size]? = some (.cells #[.slice A n c] 24 (0, 0))) := Lib.hid (by rw [HW.out]; exact heap_new w _)
  have HLW := Lib.hid (LenAt.below hm h1 hbW)
  have HBW := Lib.hid hbW
  have hsz := hbW.size
  clear hr hcap hvr hm h1 hbW
  obtain ⟨x0, _⟩ := row1f H0.out
  have HAN := Lib.hid (canchor_any W HLW.out.1 HLW.out.2)
  go_enter Tryz.func7, Tryz.ntmps7
  go_upto_region 1 with fail
  change Code.wp _ _ _ _ (w.alloc (.cells #[.slice A n c] 24))
  rw [← HW.out]
  go_wp2_with fail
  refine HAN.out.mono ?_
  rintro e w1 ⟨rfl, hb⟩
  have HB1 : Hid (Below w.heap.size w w1) := Lib.hid (HBW.out.trans (hb.mono hsz))
  have HL1 := Lib.hid (LenAt.below HLW.out.1 HLW.out.2 hb)
  have K1 : Hid (w1.heap[w.heap.size]? = _) := Lib.hid ((hb.block w.heap.size (heapE_lt H0.out)).trans H0.out)
  clear hb x0 HAN
  obtain ⟨x0, _⟩ := row1f K1.out
  have HMC := Lib.hid (right_any (c := c) (RdJ.below sv_turns HR.out HB1.out) HB1.out.size HL1.out.1 HL1.out.2)
  go_wp2_with fail
  refine HMC.out.mono ?_
  rintro e z1 ⟨A', n', c', ok, rfl, hb, hit⟩
  obtain ⟨W2, HW2⟩ : ∃ W2, Hid (W2 = z1.alloc (.cells #[.slice A' n' c'] 28)) := ⟨_, Lib.hid rfl⟩
  have hb2 : Below z1.heap.size z1 W2 := by rw [HW2.out]; exact (Below.refl _ z1).alloc (Nat.le_refl _) _
  have J2 : Hid (W2.heap[z1.heap.size]? = some (.cells #[.slice A' n' c'] 28 (0, 0))) := Lib.hid (by rw [HW2.out]; exact heap_new z1 _)
  have hb12 : Below w1.heap.size w1 W2 := hb.trans (hb2.mono hb.size)
  have HB2 : Hid (Below w.heap.size w W2) := Lib.hid (HB1.out.trans (hb12.mono HB1.out.size))
  have HL2 := Lib.hid (LenAt.below HL1.out.1 HL1.out.2 hb12)
  have K2 : Hid (W2.heap[w.heap.size]? = _) := Lib.hid ((hb12.block w.heap.size (heapE_lt K1.out)).trans K1.out)
  have HIT := Lib.hid (fun h => And.intro (And.intro (hit h).1 (hit h).2.1) (ss_turns.kept (hit h).2.2 hb2))
  clear hb hb2 hb12 hit x0 HMC
  go_upto_region 4 with fail
  change Code.wp _ _ _ _ (z1.alloc (.cells #[.slice A' n' c'] 28))
  rw [← HW2.out]
  cases ok with
  | false =>
    go_wp2_with fail
    refine bodyPost_ret (results_tmp rfl _ _ _) rfl ⟨rfl, HB2.out⟩
  | true =>
    obtain ⟨⟨hck, hsm⟩, hss⟩ := HIT.out rfl
    obtain ⟨hcap', hrd'⟩ := (ss_turns.go hss (FrM.refl W2 _) (M' := fun b => W2.heap.size ≤ b) (fun b hb => .inr hb)).rd
    have HP : Hid (CatAt W2 w.heap.size A n c l) := Lib.hid ⟨RdJ.below sv_turns HR.out HB2.out, HC.out, HB2.out.size, hsm, HL2.out.1, HL2.out.2⟩
    have HQ : Hid (CatAt W2 W2.heap.size A' n' c' l) := Lib.hid ⟨hrd', hcap', Nat.le_refl _, hsm, HL2.out.1, HL2.out.2⟩
    obtain rfl : n' = n := by rw [← HQ.out.rd.1, ← HP.out.rd.1]
    have HCK := Lib.hid hck
    have HSM := Lib.hid hsm
    have HLV := Lib.hid (ck_lev hck)
    have HN : Hid (l.length = n') := Lib.hid HP.out.rd.1
    have HV2 := Lib.hid (Rd.below HVR.out HB2.out)
    have HVL : Hid (vs.length = m) := Lib.hid HVR.out.len
    clear hsm hss hcap' hrd' HIT hck
    obtain ⟨x0, _⟩ := row1f K2.out
    obtain ⟨y0, _⟩ := row1f J2.out
    by_cases h20 : 20 < m
    · have d1 : decide ((20 : Int) < (m : Int)) = true := by simp; omega
      go_wp2_with fail
      exact bodyPost_ret (results_tmp rfl _ _ _) rfl ⟨rfl, HB2.out⟩
    have d1 : decide ((20 : Int) < (m : Int)) = false := by simp; omega
    by_cases hi0 : i < 0
    · have d2 : decide (i < 0) = true := decide_eq_true hi0
      go_wp2_with fail
      exact bodyPost_ret (results_tmp rfl _ _ _) rfl ⟨rfl, HB2.out⟩
    have d2 : decide (i < 0) = false := decide_eq_false hi0
    by_cases hin : (n' : Int) ≤ i
    · have d3 : decide ((n' : Int) ≤ i) = true := decide_eq_true hin
      go_wp2_with fail
      exact bodyPost_ret (results_tmp rfl _ _ _) rfl ⟨rfl, HB2.out⟩
    have d3 : decide ((n' : Int) ≤ i) = false := decide_eq_false hin
    by_cases hv0 : v < 0
    · have d4 : decide (v < 0) = true := decide_eq_true hv0
      go_wp2_with fail
      exact bodyPost_ret (results_tmp rfl _ _ _) rfl ⟨rfl, HB2.out⟩
    have d4 : decide (v < 0) = false := decide_eq_false hv0
    obtain ⟨a, rfl⟩ : ∃ a : Nat, i = (a : Int) := ⟨i.toNat, by omega⟩
    have HAN' : Hid (a < n') := Lib.hid (by omega)
    have hai : (a : Int) < (n' : Int) := by omega
    have ha0 : (0 : Int) ≤ (a : Int) := by omega
    obtain ⟨b1, o1, Ai, ni, ci, hA, hb1, _, k1, _, hri⟩ := sv_at HQ.out.rd HAN'.out
    subst hA
    have hb1w : b1 < W2.heap.size := by omega
    have HNI : Hid ((svAt l a).2.length = ni) := Lib.hid hri.1
    clear hri
    by_cases hvn : (ni : Int) ≤ v
    · have d5 : decide ((ni : Int) ≤ v) = true := decide_eq_true hvn
      go_wp2_with fail
      exact bodyPost_ret (results_tmp rfl _ _ _) rfl ⟨rfl, HB2.out⟩
    have d5 : decide ((ni : Int) ≤ v) = false := decide_eq_false hvn
    have HIR : Hid (isR l (a : Int) v = true) := Lib.hid (by
      obtain ⟨v', rfl⟩ : ∃ v' : Nat, v = (v' : Int) := ⟨v.toNat, by omega⟩
      exact isR_of (by rw [HN.out]; exact HAN'.out) (by rw [HNI.out]; omega))
    have HM20 : Hid (m ≤ 20) := Lib.hid (by omega)
    have HST := Lib.hid (settled_any (c2 := c2) HP.out HLV.out HV2.out HB2.out.size HM20.out)
    go_wp2_with fail
    refine HST.out.mono ?_
    rintro e w3 ⟨hb, ho⟩
    have HB3 : Hid (Below w.heap.size w w3) := Lib.hid (HB2.out.trans (hb.mono HB2.out.size))
    have HP3 := Lib.hid (HP.out.below hb)
    have K3 : Hid (w3.heap[w.heap.size]? = _) := Lib.hid ((hb.block w.heap.size (heapE_lt K2.out)).trans K2.out)
    clear hb x0 y0 k1 HST HQ
    rcases ho with ⟨hset, A5, c5, rfl, hown⟩ | ⟨_, rfl⟩
    rotate_left
    · go_wp2_with fail
      exact bodyPost_ret (results_tmp rfl _ _ _) rfl ⟨rfl, HB3.out⟩
    have HSET := Lib.hid hset
    have HO3 := Lib.hid hown
    have HMN : Hid (m = n') := Lib.hid (by rw [← HVL.out, ← HN.out]; exact (setB_iff.1 hset).1)
    clear hset hown
    have HSP : Hid (∀ k, k < m → (at_ (setL l vs) k).1.natAbs < 2 ^ 53 ∧ (at_ (setL l vs) k).2.natAbs < 2 ^ 53) := Lib.hid (fun k hk => by
      rw [setL_at l vs (by rw [HVL.out]; exact hk)]
      obtain ⟨h1, h2, h3, h4⟩ := setP_ok HLV.out HSM.out ((setB_iff.1 HSET.out).2 k (by rw [HVL.out]; exact hk))
      omega)
    have HG := Lib.hid (good_any (c2 := c5) HP3.out HLV.out HO3.out.rd (Nat.le_refl _) HM20.out HSP.out)
    obtain ⟨g1, HG1⟩ : ∃ g1, Hid (goodC l (setL l vs) = g1) := ⟨_, Lib.hid rfl⟩
    rw [HG1.out] at HG
    obtain ⟨x0, _⟩ := row1f K3.out
    go_wp2_with fail
    refine HG.out.mono ?_
    rintro e w4 ⟨rfl, hb⟩
    have HB4 : Hid (Below w.heap.size w w4) := Lib.hid (HB3.out.trans (hb.mono HB3.out.size))
    have HP4 := Lib.hid (HP3.out.below hb)
    have K4 : Hid (w4.heap[w.heap.size]? = _) := Lib.hid ((hb.block w.heap.size (heapE_lt K3.out)).trans K3.out)
    clear hb x0 HG HO3
    cases g1 with
    | false =>
      go_wp2_with fail
      exact bodyPost_ret (results_tmp rfl _ _ _) rfl ⟨rfl, HB4.out⟩
    | true =>
      have HV4 := Lib.hid (Rd.below HVR.out HB4.out)
      have HE0 := Lib.hid (Own.empty w4 w4.heap.size (Nat.le_refl _))
      have HV4a : Hid (Rd (w4.alloc (.cells #[] 3)) w.heap.size A2 m vs) := Lib.hid (HV4.out.alloc HB4.out.size _)
      go_wp2_with (at_builtin; refine wpl_apps rfl (.tmp 73) (.tmp 74) rfl w4.heap.size _ 0 [] rfl HE0.out w.heap.size A2 m c2 vs rfl HV4a.out (by have := HM20.out; omega) (by simp) ?_; intro v' w5 hown5 hgr5 hat5)
      have HB5 : Hid (Below w4.heap.size w4 w5) := Lib.hid (((Below.refl _ w4).alloc (Nat.le_refl _) _).grown hgr5 (by simp) (fun g hg => by
        have h1 : some w4.heap.size = some g := hg
        injection h1 with h1; omega))
      have hown5' : Own w5 w4.heap.size v' m vs := by simpa using hown5
      obtain ⟨g, c6, rfl, hg1, hg2⟩ := hown5'.form (by have := HMN.out; have := HAN'.out; omega)
      have HO5 := Lib.hid hown5'
      have ham : (a : Int) < (m : Int) := by have := HMN.out; omega
      have HAM : Hid (a < m) := Lib.hid (by omega)
      have p0 := hown5'.cell HAM.out
      have pf := hown5'.free a
      clear hown5 hown5' hgr5 hat5 HE0 HV4a
      have hs6 := HO5.out.store a v
      have HR6 : Hid (Rd (w5.setCell ⟨g, a, none⟩ (.int .i64 v)) (w5.setCell ⟨g, a, none⟩ (.int .i64 v)).heap.size (some ⟨g, 0, none⟩) m (vs.set a v)) := Lib.hid (Rd.of_own hs6)
      have HB6 : Hid (Below w4.heap.size w4 (w5.setCell ⟨g, a, none⟩ (.int .i64 v))) := Lib.hid (HB5.out.setCell (p := ⟨g, a, none⟩) hg1 _)
      clear hs6
      obtain ⟨W7, HW7⟩ : ∃ W7, Hid (W7 = w5.setCell ⟨g, a, none⟩ (.int .i64 v)) := ⟨_, Lib.hid rfl⟩
      go_wp2_with fail
      go_simp
      go_upto_region 11 with fail
      rw [← HW7.out] at HR6 HB6
      try rw [← HW7.out]
      clear p0 pf
      have HB7 : Hid (Below w.heap.size w W7) := Lib.hid (HB4.out.trans (HB6.out.mono HB4.out.size))
      have HP7 := Lib.hid (HP4.out.below HB6.out)
      have K7 : Hid (W7.heap[w.heap.size]? = _) := Lib.hid ((HB6.out.block w.heap.size (heapE_lt K4.out)).trans K4.out)
      have HSET2 := Lib.hid (moves_set HSET.out (by rw [HVL.out]; exact HAM.out) HIR.out)
      have HST := Lib.hid (settled_any (c2 := c6) HP7.out HLV.out HR6.out (Nat.le_refl _) HM20.out)
      obtain ⟨x0, _⟩ := row1f K7.out
      go_wp2_with fail
      refine HST.out.mono ?_
      rintro e w8 ⟨hb, ho⟩
      have HB8 : Hid (Below w.heap.size w w8) := Lib.hid (HB7.out.trans (hb.mono HB7.out.size))
      have HP8 := Lib.hid (HP7.out.below hb)
      have K8 : Hid (w8.heap[w.heap.size]? = _) := Lib.hid ((hb.block w.heap.size (heapE_lt K7.out)).trans K7.out)
      clear hb x0 HST
      rcases ho with ⟨_, A8, c8, rfl, hown⟩ | ⟨hno, _⟩
      rotate_left
      · rw [HSET2.out] at hno; cases hno
      have HO8 := Lib.hid hown
      clear hown
      go_wp2_with fail
      go_loopw [16, 17, 18, 90] (fun b _ _ vk wr => ∃ (k : Nat) (q : Bool), k ≤ m ∧ vk = .int .i64 (k : Int) ∧ b = .bool q ∧ Hid ((List.range k).all (mvF l vs a v) = q) ∧ Hid (Below w8.heap.size w8 wr)) (fun _ _ _ vk _ => m - (intOf vk).toNat)
      case atStart => exact ⟨0, true, Nat.zero_le _, rfl, rfl, Lib.hid (by simp), Lib.hid (Below.refl _ _)⟩
      case round =>
        obtain ⟨wo, hwo⟩ : ∃ x, x = wr := ⟨_, rfl⟩
        subst hwo
        obtain ⟨k, q, hk, rfl, rfl, HALL, HBo⟩ := hrel
        have HB9 : Hid (Below w.heap.size w wo) := Lib.hid (HB8.out.trans (HBo.out.mono HB8.out.size))
        have HP9 := Lib.hid (HP8.out.below HBo.out)
        have K9 : Hid (wo.heap[w.heap.size]? = _) := Lib.hid ((HBo.out.block w.heap.size (heapE_lt K8.out)).trans K8.out)
        obtain ⟨x0, _⟩ := row1f K9.out
        by_cases hkm : k < m
        · have hd : decide ((k : Int) < (m : Int)) = true := by simp; omega
          have hki : (k : Int) < (m : Int) := by omega
          have hk0 : (0 : Int) ≤ (k : Int) := by omega
          have hadd : IntKind.i64.wrap ((k : Int) + 1) = ((k + 1 : Nat) : Int) := by rw [IntWalk.i64_in _ (by have := HM20.out; omega)]; omega
          obtain ⟨b4, o4, rfl, hb4, p0⟩ := (Rd.below HVR.out HB9.out).at_ hkm
          obtain ⟨u, HU⟩ : ∃ u, Hid (ix vs k = u) := ⟨_, Lib.hid rfl⟩
          rw [HU.out] at p0
          have HSU : Hid ((List.range (k + 1)).all (mvF l vs a v) = (q && mvF l vs a v k)) := Lib.hid (by
            rw [List.range_succ, List.all_append, HALL.out]; simp)
          cases q with
          | false =>
            go_wp2_with fail
            go_roundw
            case rel => exact ⟨k + 1, false, by omega, by go_num, rfl, Lib.hid (by rw [HSU.out]; rfl), HBo⟩
            case measure => simp [intOf]; omega
          | true =>
            by_cases hka : k = a
            · subst hka
              have h3 : ((k : Int) == (k : Int)) = true := by simp
              go_wp2_with fail
              go_roundw
              case rel => exact ⟨k + 1, true, by omega, by go_num, rfl, Lib.hid (by rw [HSU.out]; unfold mvF; simp), HBo⟩
              case measure => simp [intOf]; omega
            · have h3 : ((k : Int) == (a : Int)) = false := by rw [beq_eq_false_iff_ne]; omega
              have HMF : Hid (mvF l vs a v k = fitsC l (a : Int) v (k : Int) u) := Lib.hid (by unfold mvF; rw [decide_eq_false hka, Bool.false_or, HU.out])
              have HF := Lib.hid (fits_any (i := (a : Int)) (v := v) (j := (k : Int)) (x := u) HP9.out)
              obtain ⟨f, HFF⟩ : ∃ f, Hid (fitsC l (a : Int) v (k : Int) u = f) := ⟨_, Lib.hid rfl⟩
              rw [HFF.out] at HF
              go_wp2_with fail
              refine HF.out.mono ?_
              rintro e w10 ⟨rfl, hb⟩
              have HB10 : Hid (Below w8.heap.size w8 w10) := Lib.hid (HBo.out.trans (hb.mono HBo.out.size))
              clear hb x0 p0 HF
              go_wp2_with fail
              go_roundw
              case rel => exact ⟨k + 1, f, by omega, by go_num, rfl, Lib.hid (by rw [HSU.out, HMF.out, HFF.out]; rfl), HB10⟩
              case measure => simp [intOf]; omega
        · have hd : decide ((k : Int) < (m : Int)) = false := by simp; omega
          obtain rfl : k = m := by omega
          have HFIN : Hid (goodC l (setL l (vs.set a v)) = q) := Lib.hid (by
            rw [moves_good HLV.out HSM.out HSET.out HG1.out (by rw [HVL.out]; exact HAM.out) HIR.out, HVL.out, HALL.out])
          have HSP2 : Hid (∀ j, j < k → (at_ (setL l (vs.set a v)) j).1.natAbs < 2 ^ 53 ∧ (at_ (setL l (vs.set a v)) j).2.natAbs < 2 ^ 53) := Lib.hid (fun j hj => by
            have hjl : j < (vs.set a v).length := by rw [List.length_set, HVL.out]; exact hj
            rw [setL_at l _ hjl]
            obtain ⟨h1, h2, h3, h4⟩ := setP_ok HLV.out HSM.out ((setB_iff.1 HSET2.out).2 j hjl)
            omega)
          have HG := Lib.hid (good_any (c2 := c8) HP9.out HLV.out (HO8.out.kept HBo.out).rd (Nat.le_refl _) HM20.out HSP2.out)
          rw [HFIN.out] at HG
          have hqq : (q == q) = true := by cases q <;> rfl
          go_wp2_with fail
          refine HG.out.mono ?_
          rintro e w10 ⟨rfl, hb⟩
          have HB10 : Hid (Below w.heap.size w w10) := Lib.hid (HB9.out.trans (hb.mono HB9.out.size))
          clear hb x0 HG
          go_wp2_with fail
          exact bodyPost_ret (results_tmp rfl _ _ _) rfl ⟨rfl, HB10.out⟩
end Go.Proofs.YtebflhlgcpbikaaGreat
