/-
  SOLVEFREE.
-/
import Derived.Test.YteiknbkigbdfgaaVAn
import Derived.Test.YteiknbkigbdfgaaCRg
import Derived.Test.YteiknbkigbdfgaaVPf
import Derived.Test.YteiknbkigbdfgaaVQa
namespace Go.Proofs.Yteiknbkigbdfgaa
open Go.RowKit
open SemP FlP GaP DiP SeaP
set_option linter.unusedVariables false
set_option linter.unusedSimpArgs false
set_option maxRecDepth 10000
set_option maxHeartbeats 16000000 in
theorem law_sfree {w : World} {n c : Nat} {A : Option Addr} {l : List Sv} {A2 : Option Addr} {m c2 : Nat} {vs : List Int} {A5 : Option Addr} {k5 c5 : Nat} {ms : List Int} (hr : RdJ 2 svI w (fun b => w.heap.size ≤ b) A n l) (hcap : CapA A n c) (hvr : Rd w w.heap.size A2 m vs) (hmr : Rd w w.heap.size A5 k5 ms) (hm : LenAt w) (h1 : 1 < w.heap.size) :
    Calls Try.prog 8 #[.agg #[.slice A n c], .slice A2 m c2, .slice A5 k5 c5] w fun e w' => e = .returned (.bool true) ∧ Below w.heap.size w w' := by
  have HR := Lib.hid hr
  have HC := Lib.hid hcap
  have HVR := Lib.hid hvr
  have HMR := Lib.hid hmr
  obtain ⟨W, HW⟩ : ∃ W, Hid (W = w.alloc (.cells #[.slice A n c] 24)) := ⟨_, Lib.hid rfl⟩
  have hbW : Below w.heap.size w W := by rw [HW.out]; exact (Below.refl _ w).alloc (Nat.le_refl _) _
  have H0 : Hid (W.heap[w.heap.size]? = some (.cells #[.slice A n c] 24 (0, 0))) := Lib.hid (by rw [HW.out]; exact heap_new w _)
  have HLM := Lib.hid (And.intro hm h1)
  have HLW := Lib.hid (LenAt.below hm h1 hbW)
  have HBW := Lib.hid hbW
  have hsz := hbW.size
  clear hr hcap hvr hmr hm h1 hbW
  obtain ⟨x0, _⟩ := row1f H0.out
  have HAN := Lib.hid (sanchor_any W HLW.out.1 HLW.out.2)
  go_enter Try.func8, Try.ntmps8
  go_upto_region 1 with fail
  change Code.wp _ _ _ _ (w.alloc (.cells #[.slice A n c] 24))
  rw [← HW.out]
  go_wp2_with fail
  refine HAN.out.mono ?_
  rintro e w1 ⟨rfl, hb⟩
  have HB1 : Hid (Below w.heap.size w w1) := Lib.hid (HBW.out.trans (hb.mono hsz))
  have HL1 := Lib.hid (LenAt.below HLW.out.1 HLW.out.2 hb)
  have K1 : Hid (w1.heap[w.heap.size]? = _) := Lib.hid ((hb.block w.heap.size (heapE_lt H0.out)).trans H0.out)
  clear hb x0 HAN
  obtain ⟨x0, _⟩ := row1f K1.out
  have HMC := Lib.hid (right_any (c := c) (RdJ.below sv_turns HR.out HB1.out) HB1.out.size HL1.out.1 HL1.out.2)
  go_wp2_with fail
  refine HMC.out.mono ?_
  rintro e z1 ⟨A', n', c', ok, rfl, hb, hit⟩
  obtain ⟨W2, HW2⟩ : ∃ W2, Hid (W2 = z1.alloc (.cells #[.slice A' n' c'] 28)) := ⟨_, Lib.hid rfl⟩
  have hb2 : Below z1.heap.size z1 W2 := by rw [HW2.out]; exact (Below.refl _ z1).alloc (Nat.le_refl _) _
  have J2 : Hid (W2.heap[z1.heap.size]? = some (.cells #[.slice A' n' c'] 28 (0, 0))) := Lib.hid (by rw [HW2.out]; exact heap_new z1 _)
  have hb12 : Below w1.heap.size w1 W2 := hb.trans (hb2.mono hb.size)
  have HB2 : Hid (Below w.heap.size w W2) := Lib.hid (HB1.out.trans (hb12.mono HB1.out.size))
  have HL2 := Lib.hid (LenAt.below HL1.out.1 HL1.out.2 hb12)
  have K2 : Hid (W2.heap[w.heap.size]? = _) := Lib.hid ((hb12.block w.heap.size (heapE_lt K1.out)).trans K1.out)
  have HIT := Lib.hid (fun h => And.intro (And.intro (hit h).1 (hit h).2.1) (ss_turns.kept (hit h).2.2 hb2))
  clear hb hb2 hb12 hit x0 HMC
  go_upto_region 4 with fail
  change Code.wp _ _ _ _ (z1.alloc (.cells #[.slice A' n' c'] 28))
  rw [← HW2.out]
  cases ok with
  | false =>
    go_wp2_with fail
    refine bodyPost_ret (results_tmp rfl _ _ _) rfl ⟨rfl, HB2.out⟩
  | true =>
  obtain ⟨⟨hck, hsm⟩, hss⟩ := HIT.out rfl
  obtain ⟨hcap', hrd'⟩ := (ss_turns.go hss (FrM.refl W2 _) (M' := fun b => W2.heap.size ≤ b) (fun b hb => .inr hb)).rd
  have HP : Hid (CatAt W2 w.heap.size A n c l) := Lib.hid ⟨RdJ.below sv_turns HR.out HB2.out, HC.out, HB2.out.size, hsm, HL2.out.1, HL2.out.2⟩
  have HQ : Hid (CatAt W2 W2.heap.size A' n' c' l) := Lib.hid ⟨hrd', hcap', Nat.le_refl _, hsm, HL2.out.1, HL2.out.2⟩
  obtain rfl : n' = n := by rw [← HQ.out.rd.1, ← HP.out.rd.1]
  have HCK := Lib.hid hck
  have HSM := Lib.hid hsm
  have HN : Hid (l.length = n') := Lib.hid HP.out.rd.1
  have HV2 := Lib.hid (Rd.below HVR.out HB2.out)
  have HVL : Hid (vs.length = m) := Lib.hid HVR.out.len
  have HML : Hid (ms.length = k5) := Lib.hid HMR.out.len
  clear hsm hss hcap' hrd' HIT hck
  by_cases h40 : 40 < m
  · have d1 : decide ((40 : Int) < (m : Int)) = true := by simp; omega
    go_wp2_with fail
    exact bodyPost_ret (results_tmp rfl _ _ _) rfl ⟨rfl, HB2.out⟩
  have d1 : decide ((40 : Int) < (m : Int)) = false := by simp; omega
  by_cases h41 : 40 < k5
  · have d2 : decide ((40 : Int) < (k5 : Int)) = true := by simp; omega
    go_wp2_with fail
    exact bodyPost_ret (results_tmp rfl _ _ _) rfl ⟨rfl, HB2.out⟩
  have d2 : decide ((40 : Int) < (k5 : Int)) = false := by simp; omega
  have HRE := Lib.hid (relQ_any (c2 := c2) HQ.out HV2.out HB2.out.size (by omega))
  obtain ⟨y0, _⟩ := row1f J2.out
  cases hset : setB l vs with
  | false =>
    rw [hset] at HRE
    go_wp2_with fail
    refine HRE.out.mono ?_
    rintro e w4 ⟨rfl, hb⟩
    go_wp2_with fail
    exact bodyPost_ret (results_tmp rfl _ _ _) rfl ⟨rfl, HB2.out.trans (hb.mono HB2.out.size)⟩
  | true =>
  rw [hset] at HRE
  have HSET := Lib.hid hset
  go_wp2_with fail
  refine HRE.out.mono ?_
  rintro e w4 ⟨rfl, hb⟩
  -- the world behind Released stands for W2 from here
  have HB2' : Hid (Below w.heap.size w w4) := Lib.hid (HB2.out.trans (hb.mono HB2.out.size))
  have HL2' := Lib.hid (LenAt.below HL2.out.1 HL2.out.2 hb)
  have K2' : Hid (w4.heap[w.heap.size]? = _) := Lib.hid ((hb.block w.heap.size (heapE_lt K2.out)).trans K2.out)
  have J2' : Hid (w4.heap[z1.heap.size]? = _) := Lib.hid ((hb.block z1.heap.size (heapE_lt J2.out)).trans J2.out)
  have HP' := Lib.hid (HP.out.below hb)
  have HQ' := Lib.hid (HQ.out.below hb)
  have HLE : Hid (W2.heap.size ≤ w4.heap.size) := Lib.hid hb.size
  clear y0 hb HRE hset HB2 HL2 K2 J2 HP HQ HV2
  have HB2 := HB2'
  have HL2 := HL2'
  have K2 := K2'
  have J2 := J2'
  have HP := HP'
  have HQ := HQ'
  clear HB2' HL2' K2' J2' HP' HQ'
  obtain ⟨x0, _⟩ := row1f K2.out
  have HCLN := Lib.hid (cloneCat_any HP.out)
  go_wp2_with fail
  refine HCLN.out.mono ?_
  rintro e w3 ⟨v, base, rfl, hbase, hown, hb⟩
  obtain ⟨A1, c1, hv⟩ := hown.shape
  subst hv
  obtain ⟨gS, hgS⟩ : ∃ gS, A1 = some ⟨gS, 0, none⟩ := by
    obtain ⟨vals, ho, _⟩ := hown
    obtain ⟨gS, cap, hv, _, _⟩ := World.ownsRow.form ho (by have := (ck_len HCK.out).1; omega)
    injection hv with hv
    exact ⟨gS, hv⟩
  subst hgS
  have hbw3 : base ≤ w3.heap.size := by have := (hown.ge gS rfl); omega
  obtain ⟨W4, HW4⟩ : ∃ W4, Hid (W4 = w3.alloc (.cells #[.slice (some ⟨gS, 0, none⟩) n' c1] 24)) := ⟨_, Lib.hid rfl⟩
  have hb4 : Below w3.heap.size w3 W4 := by rw [HW4.out]; exact (Below.refl _ w3).alloc (Nat.le_refl _) _
  have D4 : Hid (W4.heap[w3.heap.size]? = some (.cells #[.slice (some ⟨gS, 0, none⟩) n' c1] 24 (0, 0))) := Lib.hid (by rw [HW4.out]; exact heap_new w3 _)
  have HO4 : Hid (OwnJ 36 2 svO W4 base (.slice (some ⟨gS, 0, none⟩) l.length c1) l) := Lib.hid (hown.kept svO_turns hb4)
  have hb24 : Below w4.heap.size w4 W4 := hb.trans (hb4.mono hb.size)
  have HB24 := Lib.hid hb24
  clear hb
  have HB4 : Hid (Below w.heap.size w W4) := Lib.hid (HB2.out.trans (hb24.mono HB2.out.size))
  have HL4 := Lib.hid (LenAt.below HL2.out.1 HL2.out.2 hb24)
  have HBS : Hid (w4.heap.size ≤ base ∧ base ≤ w3.heap.size) := Lib.hid ⟨hbase, hbw3⟩
  rw [HN.out]
  clear hown hb4 hb24 HCLN x0 hbase hbw3
  go_upto_region 7 with fail
  change Code.wp _ _ _ _ (w3.alloc (.cells #[.slice (some ⟨gS, 0, none⟩) n' c1] 24))
  rw [← HW4.out]
  obtain ⟨x0, _⟩ := row1f D4.out
  go_wp2_with fail
  clear x0
  go_loopw [10, 11, 47] (fun _ _ vk wr => ∃ (k : Nat) (l2 : List Sv), k ≤ n' ∧ vk = .int .i64 (k : Int) ∧ Hid (OwnJ 36 2 svO wr base (.slice (some ⟨gS, 0, none⟩) l2.length c1) l2) ∧ Hid (l2.length = l.length ∧ ∀ j, j < l.length → SubS (svAt l j) (svAt l2 j)) ∧ Hid (∀ j, j < l.length → ∀ b, b < (svAt l j).2.length → j < k → (rlAt (svAt l2 j).2 b).2.2 = []) ∧ Hid (Below base W4 wr) ∧ Hid (wr.heap[w3.heap.size]? = some (.cells #[.slice (some ⟨gS, 0, none⟩) n' c1] 24 (0, 0)))) (fun _ _ vk _ => n' - (intOf vk).toNat)
  case atStart => exact ⟨0, l, Nat.zero_le _, rfl, HO4, Lib.hid ⟨rfl, fun j _ => SubS.refl _⟩, Lib.hid (fun j _ b _ h => absurd h (by omega)), Lib.hid (Below.refl _ _), D4⟩
  case round =>
    obtain ⟨wo, hwo⟩ : ∃ x, x = wr := ⟨_, rfl⟩
    subst hwo
    obtain ⟨k, l2, hk, rfl, HO, HSB, HDN, HBo, HD⟩ := hrel
    by_cases hkn : k < n'
    · have hd : decide ((k : Int) < (n' : Int)) = true := by simp; omega
      have hki : (k : Int) < (n' : Int) := by omega
      have hk0 : (0 : Int) ≤ (k : Int) := by omega
      have hn16 : n' ≤ 16 := HP.out.n16
      have hadd : IntKind.i64.wrap ((k : Int) + 1) = ((k + 1 : Nat) : Int) := by rw [IntWalk.i64_in _ (by omega)]; omega
      have HKL : Hid (k < l.length) := Lib.hid (by rw [HN.out]; exact hkn)
      have HSK := Lib.hid (HSB.out.2 k HKL.out)
      obtain ⟨nk, HNK⟩ : ∃ nk, Hid ((svAt l k).2.length = nk) := ⟨_, Lib.hid rfl⟩
      have hnk : nk ≤ 16 := by have := (HSM.out.2 _ (svAt_mem HKL.out)).2.1; have := HNK.out; omega
      obtain ⟨v, p0, ⟨Av, cv', hvv⟩, _⟩ := at_rel HO.out (a := k) (by rw [HSB.out.1]; exact HKL.out)
      rw [HSK.out.2.1, HNK.out] at hvv
      subst hvv
      obtain ⟨x0, _⟩ := row1f HD.out
      go_wp2_with fail
      clear x0 p0
      go_loopw [11, 57] (fun _ vq wr => ∃ (q : Nat) (l2 : List Sv), q ≤ nk ∧ vq = .int .i64 (q : Int) ∧ Hid (OwnJ 36 2 svO wr base (.slice (some ⟨gS, 0, none⟩) l2.length c1) l2) ∧ Hid (l2.length = l.length ∧ ∀ j, j < l.length → SubS (svAt l j) (svAt l2 j)) ∧ Hid (∀ j, j < l.length → ∀ b, b < (svAt l j).2.length → (j < k ∨ (j = k ∧ b < q)) → (rlAt (svAt l2 j).2 b).2.2 = []) ∧ Hid (Below base W4 wr) ∧ Hid (wr.heap[w3.heap.size]? = some (.cells #[.slice (some ⟨gS, 0, none⟩) n' c1] 24 (0, 0)))) (fun _ vq _ => nk - (intOf vq).toNat)
      case atStart => exact ⟨0, l2, Nat.zero_le _, rfl, HO, HSB, Lib.hid (fun j hj b hb h => HDN.out j hj b hb (by omega)), HBo, HD⟩
      case round =>
        obtain ⟨wi, hwi⟩ : ∃ x, x = wr := ⟨_, rfl⟩
        subst hwi
        obtain ⟨q, l3, hq, rfl, HOi, HSBi, HDNi, HBi, HDi⟩ := hrel
        by_cases hqn : q < nk
        · have hd2 : decide ((q : Int) < (nk : Int)) = true := by simp; omega
          have hqi : (q : Int) < (nk : Int) := by omega
          have hq0 : (0 : Int) ≤ (q : Int) := by omega
          have hadd2 : IntKind.i64.wrap ((q : Int) + 1) = ((q + 1 : Nat) : Int) := by rw [IntWalk.i64_in _ (by omega)]; omega
          have HSKi := Lib.hid (HSBi.out.2 k HKL.out)
          obtain ⟨v, p0, _, hst⟩ := at_rel HOi.out (a := k) (by rw [HSBi.out.1]; exact HKL.out)
          obtain ⟨g, cur, cc, y, hvv, hgb, hgT, hcell, hfz⟩ := hst q (by rw [HSKi.out.2.1, HNK.out]; exact hqn)
          rw [HSKi.out.2.1, HNK.out] at hvv
          subst hvv
          obtain ⟨l4, h1, h2, h3, h4⟩ := cat_hit (b := q) hgT HOi.out
          have HO5 := Lib.hid h1
          have HSB5 : Hid (l4.length = l.length ∧ ∀ j, j < l.length → SubS (svAt l j) (svAt l4 j)) := Lib.hid ⟨by rw [h2]; exact HSBi.out.1, fun j hj => (HSBi.out.2 j hj).trans (h3 j (by rw [HSBi.out.1]; exact hj))⟩
          have HDN5 : Hid (∀ j, j < l.length → ∀ b, b < (svAt l j).2.length → (j < k ∨ (j = k ∧ b < q + 1)) → (rlAt (svAt l4 j).2 b).2.2 = []) := Lib.hid (fun j hj b hb h => by
            have s1 := HSBi.out.2 j hj
            by_cases hold : j < k ∨ (j = k ∧ b < q)
            · have o := HDNi.out j hj b hb hold
              rcases ((h3 j (by rw [HSBi.out.1]; exact hj)).2.2 b (by rw [s1.2.1]; exact hb)).2.2 with e | e
              · rw [e]; exact o
              · exact e
            · obtain ⟨rfl, rfl⟩ : j = k ∧ b = q := by omega
              exact h4 j (by rw [HSBi.out.1]; exact hj) _ p0 rfl (by rw [s1.2.1]; exact hb))
          have HB5 : Hid (Below base W4 (wi.setCell ⟨g, q * 6 + 5, none⟩ (.slice none 0 0))) := Lib.hid (HBi.out.setCell (p := ⟨g, q * 6 + 5, none⟩) hgb _)
          have HD5 : Hid ((wi.setCell ⟨g, q * 6 + 5, none⟩ (.slice none 0 0)).heap[w3.heap.size]? = some (.cells #[.slice (some ⟨gS, 0, none⟩) n' c1] 24 (0, 0))) := Lib.hid ((Below.heap_setCell wi _ _ w3.heap.size (fun e => by
            have e2 : w3.heap.size = g := e
            rw [← e2, HDi.out] at hgT
            injection hgT with hgT
            injection hgT with _ hgT
            revert hgT; decide)).trans HDi.out)
          obtain ⟨x0, _⟩ := row1f HDi.out
          clear h1 h2 h3 h4 hst hgT
          go_wp2_with fail
          go_roundw
          case rel => exact ⟨q + 1, l4, by omega, by go_num, HO5, HSB5, HDN5, HB5, HD5⟩
          case measure => simp [intOf]; omega
        · have hd2 : decide ((q : Int) < (nk : Int)) = false := by simp; omega
          obtain rfl : q = nk := by omega
          go_wp2_with fail
          go_roundw
          case rel => exact ⟨k + 1, l3, by omega, by go_num, HOi, HSBi, Lib.hid (fun j hj b hb h => HDNi.out j hj b hb (by
            by_cases e : j < k
            · exact .inl e
            · obtain rfl : j = k := by omega
              exact .inr ⟨rfl, by rw [← HNK.out]; exact hb⟩)), HBi, HDi⟩
          case measure => simp [intOf]; omega
    · have hd : decide ((k : Int) < (n' : Int)) = false := by simp; omega
      have HBR : Hid (Bared l l2) := Lib.hid ⟨HSB.out.1, HSB.out.2, fun j hj b hb => HDN.out j hj b hb (by rw [HN.out] at hj; omega)⟩
      have HSM2 := Lib.hid (subs_sm HSB.out.1 HSB.out.2 HSM.out)
      have HB9 : Hid (Below w.heap.size w wo) := Lib.hid (HB4.out.trans (HBo.out.mono (by have := HBS.out.1; have := HB2.out.size; omega)))
      have HL9 := Lib.hid (LenAt.below HLM.out.1 HLM.out.2 HB9.out)
      have HN2 : Hid (l2.length = n') := Lib.hid (by rw [HSB.out.1]; exact HN.out)
      have HCA : Hid (CatAt wo wo.heap.size (some ⟨gS, 0, none⟩) n' c1 l2) := Lib.hid (by
        have := own_cat HO.out HSM2.out HL9.out.1 HL9.out.2
        rw [HN2.out] at this; exact this)
      have HCK2 := Lib.hid (HBR.out.chk HCK.out)
      have HRq : Hid (ReqAt wo wo.heap.size none 0 A5 k5 [] ms) := Lib.hid ⟨⟨rfl, fun j hj => absurd hj (by omega)⟩, (Rd.below HMR.out HB9.out).more HB9.out.size, by omega, by omega, fun p hp => by simp at hp, Nat.le_refl _⟩
      have HS := Lib.hid (solve_any (c2 := c2) (cp := 0) (cm := c5) (b := 100) HCA.out (by rw [HCK2.out]) (Rd.below HVR.out HB9.out) HB9.out.size HRq.out)
      have HMN : Hid (m = n') := Lib.hid (by have h := (setB_iff.1 HSET.out).1; rw [HVL.out, HN.out] at h; exact h)
      obtain ⟨x0, _⟩ := row1f HD.out
      have HLE4 : Hid (w4.heap.size ≤ base) := Lib.hid HBS.out.1
      rcases Nat.lt_or_ge k5 m with hlt5 | hge5
      · have hne : ((k5 : Int) != (m : Int)) = true := by rw [bne_iff_ne]; omega
        rw [solR_count (ms := ms) HBR.out HSET.out (by have := HMN.out; rw [HML.out, HN.out]; omega)] at HS
        go_wp2_with fail
        refine HS.out.mono ?_
        rintro e wS ⟨hb, ho⟩
        have HWS : Hid (Below w.heap.size w wS) := Lib.hid (HB9.out.trans (hb.mono HB9.out.size))
        have HB9w : Hid (Below wo.heap.size wo wS) := Lib.hid hb
        have HBw4 : Hid (Below base W4 wS) := Lib.hid (HBo.out.trans (hb.mono (by have := HBo.out.size; have := heapE_lt D4.out; have := HBS.out.2; omega)))
        have HB4S : Hid (Below w4.heap.size w4 wS) := Lib.hid (HB24.out.trans (HBw4.out.mono HLE4.out))
        clear hb x0 HS
        rw [HN2.out] at ho
        rcases ho with ⟨hx, _⟩ | ⟨_, _, rfl⟩
        · exact absurd hx (by decide)
        go_wp2_with fail
        exact bodyPost_ret (results_tmp rfl _ _ _) rfl ⟨rfl, HWS.out⟩
      rcases Nat.lt_or_ge m k5 with hlt6 | hge6
      · have hne : ((k5 : Int) != (m : Int)) = true := by rw [bne_iff_ne]; omega
        rw [solR_count (ms := ms) HBR.out HSET.out (by have := HMN.out; rw [HML.out, HN.out]; omega)] at HS
        go_wp2_with fail
        refine HS.out.mono ?_
        rintro e wS ⟨hb, ho⟩
        have HWS : Hid (Below w.heap.size w wS) := Lib.hid (HB9.out.trans (hb.mono HB9.out.size))
        have HB9w : Hid (Below wo.heap.size wo wS) := Lib.hid hb
        have HBw4 : Hid (Below base W4 wS) := Lib.hid (HBo.out.trans (hb.mono (by have := HBo.out.size; have := heapE_lt D4.out; have := HBS.out.2; omega)))
        have HB4S : Hid (Below w4.heap.size w4 wS) := Lib.hid (HB24.out.trans (HBw4.out.mono HLE4.out))
        clear hb x0 HS
        rw [HN2.out] at ho
        rcases ho with ⟨hx, _⟩ | ⟨_, _, rfl⟩
        · exact absurd hx (by decide)
        go_wp2_with fail
        exact bodyPost_ret (results_tmp rfl _ _ _) rfl ⟨rfl, HWS.out⟩
      have hne : ((k5 : Int) != (m : Int)) = false := by rw [bne_eq_false_iff_eq]; omega
      cases hmb : modB ms with
      | false =>
        rw [solR_form (ms := ms) HBR.out HSET.out (by have := HMN.out; rw [HML.out, HN.out]; omega) hmb] at HS
        go_wp2_with fail
        refine HS.out.mono ?_
        rintro e wS ⟨hb, ho⟩
        have HWS : Hid (Below w.heap.size w wS) := Lib.hid (HB9.out.trans (hb.mono HB9.out.size))
        have HB9w : Hid (Below wo.heap.size wo wS) := Lib.hid hb
        have HBw4 : Hid (Below base W4 wS) := Lib.hid (HBo.out.trans (hb.mono (by have := HBo.out.size; have := heapE_lt D4.out; have := HBS.out.2; omega)))
        have HB4S : Hid (Below w4.heap.size w4 wS) := Lib.hid (HB24.out.trans (HBw4.out.mono HLE4.out))
        clear hb x0 HS
        rw [HN2.out] at ho
        rcases ho with ⟨hx, _⟩ | ⟨_, _, rfl⟩
        · exact absurd hx (by decide)
        go_wp2_with fail
        go_loopw [14, 15, 16, 93] (fun _ _ _ v wr => ∃ k : Nat, k ≤ k5 ∧ v = .int .i64 (k : Int) ∧ Hid (Below wS.heap.size wS wr) ∧ Hid (∀ i, i < k → 0 ≤ ix ms i ∧ ix ms i ≤ 3)) (fun _ _ _ v _ => k5 - (intOf v).toNat)
        case atStart => exact ⟨0, Nat.zero_le _, rfl, Lib.hid (Below.refl _ _), Lib.hid (fun i h => absurd h (by omega))⟩
        case round =>
          obtain ⟨wo2, hwo2⟩ : ∃ x, x = wr := ⟨_, rfl⟩
          subst hwo2
          obtain ⟨k, hk, rfl, HBo2, HMK⟩ := hrel
          have HWo : Hid (Below w.heap.size w wo2) := Lib.hid (HWS.out.trans (HBo2.out.mono HWS.out.size))
          by_cases hkn : k < k5
          · have hd : decide ((k : Int) < (k5 : Int)) = true := by simp; omega
            have hki : (k : Int) < (k5 : Int) := by omega
            have hk0 : (0 : Int) ≤ (k : Int) := by omega
            have hkm : k < m := by omega
            have hkmi : (k : Int) < (m : Int) := by omega
            have hkn2 : k < n' := by have := HMN.out; omega
            have hkni : (k : Int) < (n' : Int) := by omega
            have hadd : IntKind.i64.wrap ((k : Int) + 1) = ((k + 1 : Nat) : Int) := by rw [IntWalk.i64_in _ (by omega)]; omega
            obtain ⟨bm, om, hAm, hbm, km⟩ := ((HMR.out.below HB9.out).below (HB9w.out.mono HB9.out.size)).below (HBo2.out.mono HWS.out.size) |>.at_ hkn
            subst hAm
            obtain ⟨mk, HMV⟩ : ∃ mk, Hid (ix ms k = mk) := ⟨_, Lib.hid rfl⟩
            rw [HMV.out] at km
            by_cases hm0 : mk < 0
            · have e1 : decide (mk < 0) = true := decide_eq_true hm0
              go_wp2_with fail
              exact bodyPost_ret (results_tmp rfl _ _ _) rfl ⟨rfl, HWo.out⟩
            have e1 : decide (mk < 0) = false := decide_eq_false hm0
            by_cases hm3 : 3 < mk
            · have e2 : decide (3 < mk) = true := decide_eq_true hm3
              go_wp2_with fail
              exact bodyPost_ret (results_tmp rfl _ _ _) rfl ⟨rfl, HWo.out⟩
            have e2 : decide (3 < mk) = false := decide_eq_false hm3
            have HMK' : Hid (∀ i, i < k + 1 → 0 ≤ ix ms i ∧ ix ms i ≤ 3) := Lib.hid (fun i hi => by
              by_cases e : i = k
              · subst e; rw [HMV.out]; omega
              · exact HMK.out i (by omega))
            have HQo := Lib.hid (HQ.out.below (HB4S.out.trans (HBo2.out.mono HB4S.out.size)))
            have Jo : Hid (wo2.heap[z1.heap.size]? = some (.cells #[.slice A' n' c'] 28 (0, 0))) := Lib.hid (((HB4S.out.trans (HBo2.out.mono HB4S.out.size)).block z1.heap.size (heapE_lt J2.out)).trans J2.out)
            obtain ⟨y0, _⟩ := row1f Jo.out
            obtain ⟨b1, o1, Aj, nj, cj, hAA, hb1, _, k1, _, hrj⟩ := sv_at HQo.out.rd (i := k) hkn2
            subst hAA
            have HNJ : Hid ((svAt l k).2.length = nj) := Lib.hid hrj.1
            have hnj12 : nj ≤ 12 := by
              have := ck_rels HCK.out _ (svAt_mem (i := k) (by rw [HN.out]; exact hkn2))
              have := HNJ.out
              omega
            have hsub : IntKind.i64.wrap ((nj : Int) - 1) = (nj : Int) - 1 := IntWalk.i64_in _ (by omega)
            obtain ⟨bv, ov, hAv, hbv, kv⟩ := ((HVR.out.below HB9.out).below (HB9w.out.mono HB9.out.size)).below (HBo2.out.mono HWS.out.size) |>.at_ hkm
            subst hAv
            clear hrj
            by_cases hm1 : mk = 1
            · have e3 : (mk == 1) = true := by simp [hm1]
              go_wp2_with fail
              go_roundw
              case rel => exact ⟨k + 1, by omega, by go_num, HBo2, HMK'⟩
              case measure => simp [intOf]; omega
            have e3 : (mk == 1) = false := by simp [hm1]
            by_cases hm2 : 1 < mk
            · have e4 : decide (1 < mk) = true := decide_eq_true hm2
              go_wp2_with fail
              go_roundw
              case rel => exact ⟨k + 1, by omega, by go_num, HBo2, HMK'⟩
              case measure => simp [intOf]; omega
            have e4 : decide (1 < mk) = false := decide_eq_false hm2
            go_wp2_with fail
            go_roundw
            case rel => exact ⟨k + 1, by omega, by go_num, HBo2, HMK'⟩
            case measure => simp [intOf]; omega
          · have hd : decide ((k : Int) < (k5 : Int)) = false := by simp; omega
            exact (modB_false hmb (fun i hi => HMK.out i (by rw [HML.out] at hi; omega))).elim
      | true =>
        rw [solR_free (ms := ms) HBR.out HCK.out HSET.out (by have := HMN.out; rw [HML.out, HN.out]; omega) hmb] at HS
        go_wp2_with fail
        refine HS.out.mono ?_
        rintro e wS ⟨hb, ho⟩
        have HWS : Hid (Below w.heap.size w wS) := Lib.hid (HB9.out.trans (hb.mono HB9.out.size))
        have HB9w : Hid (Below wo.heap.size wo wS) := Lib.hid hb
        have HBw4 : Hid (Below base W4 wS) := Lib.hid (HBo.out.trans (hb.mono (by have := HBo.out.size; have := heapE_lt D4.out; have := HBS.out.2; omega)))
        have HB4S : Hid (Below w4.heap.size w4 wS) := Lib.hid (HB24.out.trans (HBw4.out.mono HLE4.out))
        clear hb x0 HS
        rw [HN2.out] at ho
        rcases ho with ⟨_, _, v, rfl, hown⟩ | ⟨hne2, _⟩
        rotate_left
        · exact absurd rfl hne2
        obtain ⟨At, ct, rfl, _⟩ := hown.shape
        have HOT := Lib.hid hown
        have hne3 : ((n' : Int) != (m : Int)) = false := by have := HMN.out; rw [bne_eq_false_iff_eq]; omega
        clear hown
        go_wp2_with fail
        go_loopw [14, 15, 16, 93] (fun _ _ _ v wr => ∃ k : Nat, k ≤ k5 ∧ v = .int .i64 (k : Int) ∧ Hid (Below wS.heap.size wS wr) ∧ Hid (∀ i, i < k → 0 ≤ ix ms i ∧ ix ms i ≤ 3)) (fun _ _ _ v _ => k5 - (intOf v).toNat)
        case atStart => exact ⟨0, Nat.zero_le _, rfl, Lib.hid (Below.refl _ _), Lib.hid (fun i h => absurd h (by omega))⟩
        case round =>
          obtain ⟨wo2, hwo2⟩ : ∃ x, x = wr := ⟨_, rfl⟩
          subst hwo2
          obtain ⟨k, hk, rfl, HBo2, HMK⟩ := hrel
          have HWo : Hid (Below w.heap.size w wo2) := Lib.hid (HWS.out.trans (HBo2.out.mono HWS.out.size))
          by_cases hkn : k < k5
          · have hd : decide ((k : Int) < (k5 : Int)) = true := by simp; omega
            have hki : (k : Int) < (k5 : Int) := by omega
            have hk0 : (0 : Int) ≤ (k : Int) := by omega
            have hkm : k < m := by omega
            have hkmi : (k : Int) < (m : Int) := by omega
            have hkn2 : k < n' := by have := HMN.out; omega
            have hkni : (k : Int) < (n' : Int) := by omega
            have hadd : IntKind.i64.wrap ((k : Int) + 1) = ((k + 1 : Nat) : Int) := by rw [IntWalk.i64_in _ (by omega)]; omega
            obtain ⟨bm, om, hAm, hbm, km⟩ := ((HMR.out.below HB9.out).below (HB9w.out.mono HB9.out.size)).below (HBo2.out.mono HWS.out.size) |>.at_ hkn
            subst hAm
            obtain ⟨mk, HMV⟩ : ∃ mk, Hid (ix ms k = mk) := ⟨_, Lib.hid rfl⟩
            rw [HMV.out] at km
            by_cases hm0 : mk < 0
            · have e1 : decide (mk < 0) = true := decide_eq_true hm0
              exact absurd (modB_at hmb (i := k) (by rw [HML.out]; exact hkn)) (by rw [HMV.out]; omega)
            have e1 : decide (mk < 0) = false := decide_eq_false hm0
            by_cases hm3 : 3 < mk
            · have e2 : decide (3 < mk) = true := decide_eq_true hm3
              exact absurd (modB_at hmb (i := k) (by rw [HML.out]; exact hkn)) (by rw [HMV.out]; omega)
            have e2 : decide (3 < mk) = false := decide_eq_false hm3
            have HMK' : Hid (∀ i, i < k + 1 → 0 ≤ ix ms i ∧ ix ms i ≤ 3) := Lib.hid (fun i hi => by
              by_cases e : i = k
              · subst e; rw [HMV.out]; omega
              · exact HMK.out i (by omega))
            have HQo := Lib.hid (HQ.out.below (HB4S.out.trans (HBo2.out.mono HB4S.out.size)))
            have Jo : Hid (wo2.heap[z1.heap.size]? = some (.cells #[.slice A' n' c'] 28 (0, 0))) := Lib.hid (((HB4S.out.trans (HBo2.out.mono HB4S.out.size)).block z1.heap.size (heapE_lt J2.out)).trans J2.out)
            obtain ⟨y0, _⟩ := row1f Jo.out
            obtain ⟨b1, o1, Aj, nj, cj, hAA, hb1, _, k1, _, hrj⟩ := sv_at HQo.out.rd (i := k) hkn2
            subst hAA
            have HNJ : Hid ((svAt l k).2.length = nj) := Lib.hid hrj.1
            have hnj12 : nj ≤ 12 := by
              have := ck_rels HCK.out _ (svAt_mem (i := k) (by rw [HN.out]; exact hkn2))
              have := HNJ.out
              omega
            have hsub : IntKind.i64.wrap ((nj : Int) - 1) = (nj : Int) - 1 := IntWalk.i64_in _ (by omega)
            obtain ⟨bv, ov, hAv, hbv, kv⟩ := ((HVR.out.below HB9.out).below (HB9w.out.mono HB9.out.size)).below (HBo2.out.mono HWS.out.size) |>.at_ hkm
            subst hAv
            clear hrj
            by_cases hm1 : mk = 1
            · have e3 : (mk == 1) = true := by simp [hm1]
              have hwant : wantF l vs ms k = 0 := by unfold wantF; rw [HMV.out]; rw [if_pos hm1]
              have htk := freeT_at l vs ms (i := k) (by rw [HN.out]; exact hkn2)
              rw [hwant] at htk
              obtain ⟨bt, ot, hAt, hbt, kt⟩ := (Rd.of_own (HOT.out.kept HBo2.out)).at_ hkn2
              subst hAt
              rw [htk] at kt
              go_wp2_with fail
              go_roundw
              case rel => exact ⟨k + 1, by omega, by go_num, HBo2, HMK'⟩
              case measure => simp [intOf]; omega
            have e3 : (mk == 1) = false := by simp [hm1]
            by_cases hm2 : 1 < mk
            · have e4 : decide (1 < mk) = true := decide_eq_true hm2
              have hwant : wantF l vs ms k = ix vs k := by unfold wantF; rw [HMV.out]; rw [if_neg hm1, if_pos hm2]
              have htk := freeT_at l vs ms (i := k) (by rw [HN.out]; exact hkn2)
              rw [hwant] at htk
              obtain ⟨bt, ot, hAt, hbt, kt⟩ := (Rd.of_own (HOT.out.kept HBo2.out)).at_ hkn2
              subst hAt
              rw [htk] at kt
              go_wp2_with fail
              go_roundw
              case rel => exact ⟨k + 1, by omega, by go_num, HBo2, HMK'⟩
              case measure => simp [intOf]; omega
            have e4 : decide (1 < mk) = false := decide_eq_false hm2
            have hwant : wantF l vs ms k = (nj : Int) - 1 := by unfold wantF; rw [HMV.out]; rw [if_neg hm1, if_neg hm2, HNJ.out]
            have htk := freeT_at l vs ms (i := k) (by rw [HN.out]; exact hkn2)
            rw [hwant] at htk
            obtain ⟨bt, ot, hAt, hbt, kt⟩ := (Rd.of_own (HOT.out.kept HBo2.out)).at_ hkn2
            subst hAt
            rw [htk] at kt
            go_wp2_with fail
            go_roundw
            case rel => exact ⟨k + 1, by omega, by go_num, HBo2, HMK'⟩
            case measure => simp [intOf]; omega
          · have hd : decide ((k : Int) < (k5 : Int)) = false := by simp; omega
            go_wp2_with fail
            exact bodyPost_ret (results_tmp rfl _ _ _) rfl ⟨rfl, HWo.out⟩
end Go.Proofs.Yteiknbkigbdfgaa
