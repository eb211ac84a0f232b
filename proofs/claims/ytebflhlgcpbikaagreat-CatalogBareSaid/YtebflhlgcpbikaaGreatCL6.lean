/-
  CatalogBare, over this translation.
-/
import Derived.Test.YtebflhlgcpbikaaGreatCAn
import Derived.Test.YtebflhlgcpbikaaGreatCRg
import Derived.Test.YtebflhlgcpbikaaGreatCBs
namespace Go.Proofs.YtebflhlgcpbikaaGreat
open Go.RowKit
open SemP FlP GaP DiP
set_option linter.unusedVariables false
set_option linter.unusedSimpArgs false
set_option maxRecDepth 10000
theorem fld_any (A : Option Addr) (n : Int) (k c : Nat) (w : World) : (Instr.field 39 (.agg #[.int .i64 n, .slice A k c]) 1).run Tryz.prog w = .ok (.slice A k c) w := by
  have hu := Tryz.underlying39
  unfold Instr.field
  simp [run_underlying hu, asAgg]
  go_simp
attribute [local go_sem ↓] fld_any
set_option maxHeartbeats 16000000 in
theorem law_bare {w : World} {n c : Nat} {A : Option Addr} {l : List Sv} {i j : Int} {A2 : Option Addr} {m c2 : Nat} {vs : List Int} (hr : RdJ 2 svI w (fun b => w.heap.size ≤ b) A n l) (hcap : CapA A n c) (hvr : Rd w w.heap.size A2 m vs) (hm : LenAt w) (h1 : 1 < w.heap.size) :
    Calls Tryz.prog 8 #[.agg #[.slice A n c], .slice A2 m c2, .int .i64 i, .int .i64 j] w fun e w' => e = .returned (.bool true) ∧ Below w.heap.size w w' := by
  have HR := Lib.hid hr
  have HC := Lib.hid hcap
  have HVR := Lib.hid hvr
  obtain ⟨W, HW⟩ : ∃ W, Hid (W = w.alloc (.cells #[.slice A n c] 24)) := ⟨_, Lib.hid rfl⟩
  have hbW : Below w.heap.size w W := by rw [HW.out]; exact (Below.refl _ w).alloc (Nat.le_refl _) _
  have H0 : Hid (W.heap[w.heap.size]? = some (.cells #[.slice A n c] 24 (0, 0))) := Lib.hid (by rw [HW.out]; exact heap_new w _)
  have HLM := Lib.hid (And.intro hm h1)
  have HLW := Lib.hid (LenAt.below hm h1 hbW)
  have HBW := Lib.hid hbW
  have hsz := hbW.size
  clear hr hcap hvr hm h1 hbW
  obtain ⟨x0, _⟩ := row1f H0.out
  have HAN := Lib.hid (canchor_any W HLW.out.1 HLW.out.2)
  go_enter Tryz.func8, Tryz.ntmps8
  go_upto_region 1 with fail
  change Code.wp _ _ _ _ (w.alloc (.cells #[.slice A n c] 24))
  rw [← HW.out]
  go_wp2_with fail
  refine HAN.out.mono ?_
  rintro e w1 ⟨rfl, hb⟩
  have HB1 : Hid (Below w.heap.size w w1) := Lib.hid (HBW.out.trans (hb.mono hsz))
  have HL1 := Lib.hid (LenAt.below HLW.out.1 HLW.out.2 hb)
  have K1 : Hid (w1.heap[w.heap.size]? = _) := Lib.hid ((hb.block w.heap.size (heapE_lt H0.out)).trans H0.out)
  clear hb x0 HAN
  obtain ⟨x0, _⟩ := row1f K1.out
  have HMC := Lib.hid (right_any (c := c) (RdJ.below sv_turns HR.out HB1.out) HB1.out.size HL1.out.1 HL1.out.2)
  go_wp2_with fail
  refine HMC.out.mono ?_
  rintro e z1 ⟨A', n', c', ok, rfl, hb, hit⟩
  obtain ⟨W2, HW2⟩ : ∃ W2, Hid (W2 = z1.alloc (.cells #[.slice A' n' c'] 28)) := ⟨_, Lib.hid rfl⟩
  have hb2 : Below z1.heap.size z1 W2 := by rw [HW2.out]; exact (Below.refl _ z1).alloc (Nat.le_refl _) _
  have J2 : Hid (W2.heap[z1.heap.size]? = some (.cells #[.slice A' n' c'] 28 (0, 0))) := Lib.hid (by rw [HW2.out]; exact heap_new z1 _)
  have hb12 : Below w1.heap.size w1 W2 := hb.trans (hb2.mono hb.size)
  have HB2 : Hid (Below w.heap.size w W2) := Lib.hid (HB1.out.trans (hb12.mono HB1.out.size))
  have HL2 := Lib.hid (LenAt.below HL1.out.1 HL1.out.2 hb12)
  have K2 : Hid (W2.heap[w.heap.size]? = _) := Lib.hid ((hb12.block w.heap.size (heapE_lt K1.out)).trans K1.out)
  have HIT := Lib.hid (fun h => And.intro (And.intro (hit h).1 (hit h).2.1) (ss_turns.kept (hit h).2.2 hb2))
  clear hb hb2 hb12 hit x0 HMC
  go_upto_region 4 with fail
  change Code.wp _ _ _ _ (z1.alloc (.cells #[.slice A' n' c'] 28))
  rw [← HW2.out]
  cases ok with
  | false =>
    go_wp2_with fail
    refine bodyPost_ret (results_tmp rfl _ _ _) rfl ⟨rfl, HB2.out⟩
  | true =>
    obtain ⟨⟨hck, hsm⟩, hss⟩ := HIT.out rfl
    obtain ⟨hcap', hrd'⟩ := (ss_turns.go hss (FrM.refl W2 _) (M' := fun b => W2.heap.size ≤ b) (fun b hb => .inr hb)).rd
    have HP : Hid (CatAt W2 w.heap.size A n c l) := Lib.hid ⟨RdJ.below sv_turns HR.out HB2.out, HC.out, HB2.out.size, hsm, HL2.out.1, HL2.out.2⟩
    have HQ : Hid (CatAt W2 W2.heap.size A' n' c' l) := Lib.hid ⟨hrd', hcap', Nat.le_refl _, hsm, HL2.out.1, HL2.out.2⟩
    obtain rfl : n' = n := by rw [← HQ.out.rd.1, ← HP.out.rd.1]
    have HCK := Lib.hid hck
    have HSM := Lib.hid hsm
    have HLV := Lib.hid (ck_lev hck)
    have HN : Hid (l.length = n') := Lib.hid HP.out.rd.1
    have HV2 := Lib.hid (Rd.below HVR.out HB2.out)
    have HVL : Hid (vs.length = m) := Lib.hid HVR.out.len
    clear hsm hss hcap' hrd' HIT hck
    obtain ⟨x0, _⟩ := row1f K2.out
    obtain ⟨y0, _⟩ := row1f J2.out
    by_cases h20 : 20 < m
    · have d1 : decide ((20 : Int) < (m : Int)) = true := by simp; omega
      go_wp2_with fail
      exact bodyPost_ret (results_tmp rfl _ _ _) rfl ⟨rfl, HB2.out⟩
    have d1 : decide ((20 : Int) < (m : Int)) = false := by simp; omega
    have HM20 : Hid (m ≤ 20) := Lib.hid (by omega)
    have HCLN := Lib.hid (cloneCat_any HP.out)
    clear y0
    go_wp2_with fail
    refine HCLN.out.mono ?_
    rintro e w3 ⟨v, base, rfl, hbase, hown, hb⟩
    obtain ⟨A1, c1, hv⟩ := hown.shape
    subst hv
    obtain ⟨gS, hgS⟩ : ∃ gS, A1 = some ⟨gS, 0, none⟩ := by
      obtain ⟨vals, ho, _⟩ := hown
      obtain ⟨gS, cap, hv, _, _⟩ := World.ownsRow.form ho (by have := (ck_len HCK.out).1; omega)
      injection hv with hv
      exact ⟨gS, hv⟩
    subst hgS
    have hbw3 : base ≤ w3.heap.size := by have := (hown.ge gS rfl); omega
    obtain ⟨W4, HW4⟩ : ∃ W4, Hid (W4 = w3.alloc (.cells #[.slice (some ⟨gS, 0, none⟩) n' c1] 24)) := ⟨_, Lib.hid rfl⟩
    have hb4 : Below w3.heap.size w3 W4 := by rw [HW4.out]; exact (Below.refl _ w3).alloc (Nat.le_refl _) _
    have D4 : Hid (W4.heap[w3.heap.size]? = some (.cells #[.slice (some ⟨gS, 0, none⟩) n' c1] 24 (0, 0))) := Lib.hid (by rw [HW4.out]; exact heap_new w3 _)
    have HO4 : Hid (OwnJ 70 2 svO W4 base (.slice (some ⟨gS, 0, none⟩) l.length c1) l) := Lib.hid (hown.kept svO_turns hb4)
    have hb24 : Below W2.heap.size W2 W4 := hb.trans (hb4.mono hb.size)
    have HB4 : Hid (Below w.heap.size w W4) := Lib.hid (HB2.out.trans (hb24.mono HB2.out.size))
    have HL4 := Lib.hid (LenAt.below HL2.out.1 HL2.out.2 hb24)
    have HBS : Hid (W2.heap.size ≤ base ∧ base ≤ w3.heap.size) := Lib.hid ⟨hbase, hbw3⟩
    rw [HN.out]
    clear hown hb hb4 hb24 HCLN x0 hbase hbw3
    go_upto_region 7 with fail
    change Code.wp _ _ _ _ (w3.alloc (.cells #[.slice (some ⟨gS, 0, none⟩) n' c1] 24))
    rw [← HW4.out]
    obtain ⟨x0, _⟩ := row1f D4.out
    go_wp2_with fail
    clear x0
    go_loopw [12, 13, 38] (fun _ _ vk wr => ∃ (k : Nat) (l2 : List Sv), k ≤ n' ∧ vk = .int .i64 (k : Int) ∧ Hid (OwnJ 70 2 svO wr base (.slice (some ⟨gS, 0, none⟩) l2.length c1) l2) ∧ Hid (l2.length = l.length ∧ ∀ j, j < l.length → SubS (svAt l j) (svAt l2 j)) ∧ Hid (∀ j, j < l.length → ∀ b, b < (svAt l j).2.length → j < k → (rlAt (svAt l2 j).2 b).2.2 = []) ∧ Hid (Below base W4 wr) ∧ Hid (wr.heap[w3.heap.size]? = some (.cells #[.slice (some ⟨gS, 0, none⟩) n' c1] 24 (0, 0)))) (fun _ _ vk _ => n' - (intOf vk).toNat)
    case atStart => exact ⟨0, l, Nat.zero_le _, rfl, HO4, Lib.hid ⟨rfl, fun j _ => SubS.refl _⟩, Lib.hid (fun j _ b _ h => absurd h (by omega)), Lib.hid (Below.refl _ _), D4⟩
    case round =>
      obtain ⟨wo, hwo⟩ : ∃ x, x = wr := ⟨_, rfl⟩
      subst hwo
      obtain ⟨k, l2, hk, rfl, HO, HSB, HDN, HBo, HD⟩ := hrel
      by_cases hkn : k < n'
      · have hd : decide ((k : Int) < (n' : Int)) = true := by simp; omega
        have hki : (k : Int) < (n' : Int) := by omega
        have hk0 : (0 : Int) ≤ (k : Int) := by omega
        have hn16 : n' ≤ 16 := HP.out.n16
        have hadd : IntKind.i64.wrap ((k : Int) + 1) = ((k + 1 : Nat) : Int) := by rw [IntWalk.i64_in _ (by omega)]; omega
        have HKL : Hid (k < l.length) := Lib.hid (by rw [HN.out]; exact hkn)
        have HSK := Lib.hid (HSB.out.2 k HKL.out)
        obtain ⟨nk, HNK⟩ : ∃ nk, Hid ((svAt l k).2.length = nk) := ⟨_, Lib.hid rfl⟩
        have hnk : nk ≤ 16 := by have := (HSM.out.2 _ (svAt_mem HKL.out)).2.1; have := HNK.out; omega
        obtain ⟨v, p0, ⟨Av, cv', hvv⟩, _⟩ := at_rel HO.out (a := k) (by rw [HSB.out.1]; exact HKL.out)
        rw [HSK.out.2.1, HNK.out] at hvv
        subst hvv
        obtain ⟨x0, _⟩ := row1f HD.out
        go_wp2_with fail
        clear x0 p0
        go_loopw [13, 48] (fun _ vq wr => ∃ (q : Nat) (l2 : List Sv), q ≤ nk ∧ vq = .int .i64 (q : Int) ∧ Hid (OwnJ 70 2 svO wr base (.slice (some ⟨gS, 0, none⟩) l2.length c1) l2) ∧ Hid (l2.length = l.length ∧ ∀ j, j < l.length → SubS (svAt l j) (svAt l2 j)) ∧ Hid (∀ j, j < l.length → ∀ b, b < (svAt l j).2.length → (j < k ∨ (j = k ∧ b < q)) → (rlAt (svAt l2 j).2 b).2.2 = []) ∧ Hid (Below base W4 wr) ∧ Hid (wr.heap[w3.heap.size]? = some (.cells #[.slice (some ⟨gS, 0, none⟩) n' c1] 24 (0, 0)))) (fun _ vq _ => nk - (intOf vq).toNat)
        case atStart => exact ⟨0, l2, Nat.zero_le _, rfl, HO, HSB, Lib.hid (fun j hj b hb h => HDN.out j hj b hb (by omega)), HBo, HD⟩
        case round =>
          obtain ⟨wi, hwi⟩ : ∃ x, x = wr := ⟨_, rfl⟩
          subst hwi
          obtain ⟨q, l3, hq, rfl, HOi, HSBi, HDNi, HBi, HDi⟩ := hrel
          by_cases hqn : q < nk
          · have hd2 : decide ((q : Int) < (nk : Int)) = true := by simp; omega
            have hqi : (q : Int) < (nk : Int) := by omega
            have hq0 : (0 : Int) ≤ (q : Int) := by omega
            have hadd2 : IntKind.i64.wrap ((q : Int) + 1) = ((q + 1 : Nat) : Int) := by rw [IntWalk.i64_in _ (by omega)]; omega
            have HSKi := Lib.hid (HSBi.out.2 k HKL.out)
            obtain ⟨v, p0, _, hst⟩ := at_rel HOi.out (a := k) (by rw [HSBi.out.1]; exact HKL.out)
            obtain ⟨g, cur, cc, y, hvv, hgb, hgT, hcell, hfz⟩ := hst q (by rw [HSKi.out.2.1, HNK.out]; exact hqn)
            rw [HSKi.out.2.1, HNK.out] at hvv
            subst hvv
            obtain ⟨l4, h1, h2, h3, h4⟩ := cat_hit (b := q) hgT HOi.out
            have HO5 := Lib.hid h1
            have HSB5 : Hid (l4.length = l.length ∧ ∀ j, j < l.length → SubS (svAt l j) (svAt l4 j)) := Lib.hid ⟨by rw [h2]; exact HSBi.out.1, fun j hj => (HSBi.out.2 j hj).trans (h3 j (by rw [HSBi.out.1]; exact hj))⟩
            have HDN5 : Hid (∀ j, j < l.length → ∀ b, b < (svAt l j).2.length → (j < k ∨ (j = k ∧ b < q + 1)) → (rlAt (svAt l4 j).2 b).2.2 = []) := Lib.hid (fun j hj b hb h => by
              have s1 := HSBi.out.2 j hj
              by_cases hold : j < k ∨ (j = k ∧ b < q)
              · have o := HDNi.out j hj b hb hold
                rcases ((h3 j (by rw [HSBi.out.1]; exact hj)).2.2 b (by rw [s1.2.1]; exact hb)).2.2 with e | e
                · rw [e]; exact o
                · exact e
              · obtain ⟨rfl, rfl⟩ : j = k ∧ b = q := by omega
                exact h4 j (by rw [HSBi.out.1]; exact hj) _ p0 rfl (by rw [s1.2.1]; exact hb))
            have HB5 : Hid (Below base W4 (wi.setCell ⟨g, q * 6 + 5, none⟩ (.slice none 0 0))) := Lib.hid (HBi.out.setCell (p := ⟨g, q * 6 + 5, none⟩) hgb _)
            have HD5 : Hid ((wi.setCell ⟨g, q * 6 + 5, none⟩ (.slice none 0 0)).heap[w3.heap.size]? = some (.cells #[.slice (some ⟨gS, 0, none⟩) n' c1] 24 (0, 0))) := Lib.hid ((Below.heap_setCell wi _ _ w3.heap.size (fun e => by
              have e2 : w3.heap.size = g := e
              rw [← e2, HDi.out] at hgT
              injection hgT with hgT
              injection hgT with _ hgT
              revert hgT; decide)).trans HDi.out)
            obtain ⟨x0, _⟩ := row1f HDi.out
            clear h1 h2 h3 h4 hst hgT
            go_wp2_with fail
            go_roundw
            case rel => exact ⟨q + 1, l4, by omega, by go_num, HO5, HSB5, HDN5, HB5, HD5⟩
            case measure => simp [intOf]; omega
          · have hd2 : decide ((q : Int) < (nk : Int)) = false := by simp; omega
            obtain rfl : q = nk := by omega
            go_wp2_with fail
            go_roundw
            case rel => exact ⟨k + 1, l3, by omega, by go_num, HOi, HSBi, Lib.hid (fun j hj b hb h => HDNi.out j hj b hb (by
              by_cases e : j < k
              · exact .inl e
              · obtain rfl : j = k := by omega
                exact .inr ⟨rfl, by rw [← HNK.out]; exact hb⟩)), HBi, HDi⟩
            case measure => simp [intOf]; omega
      · have hd : decide ((k : Int) < (n' : Int)) = false := by simp; omega
        have HBR : Hid (Bared l l2) := Lib.hid ⟨HSB.out.1, HSB.out.2, fun j hj b hb => HDN.out j hj b hb (by rw [HN.out] at hj; omega)⟩
        have HSM2 := Lib.hid (subs_sm HSB.out.1 HSB.out.2 HSM.out)
        have HB9 : Hid (Below w.heap.size w wo) := Lib.hid (HB4.out.trans (HBo.out.mono (by have := HBS.out.1; have := HB2.out.size; omega)))
        have HL9 := Lib.hid (LenAt.below HLM.out.1 HLM.out.2 HB9.out)
        have HN2 : Hid (l2.length = n') := Lib.hid (by rw [HSB.out.1]; exact HN.out)
        have HCA : Hid (CatAt wo wo.heap.size (some ⟨gS, 0, none⟩) n' c1 l2) := Lib.hid (by
          have := own_cat HO.out HSM2.out HL9.out.1 HL9.out.2
          rw [HN2.out] at this; exact this)
        have HCK2 := Lib.hid (HBR.out.chk HCK.out)
        have HLV2 : Hid (LevOK l2) := Lib.hid (ck_lev (by rw [HCK2.out]))
        have HC := Lib.hid (check_any HCA.out)
        rw [HCK2.out] at HC
        unfold t3V at HC
        simp only at HC
        obtain ⟨x0, _⟩ := row1f HD.out
        go_wp2_with fail
        refine HC.out.mono ?_
        rintro e w10 ⟨rfl, hb⟩
        have HB10 : Hid (Below w.heap.size w w10) := Lib.hid (HB9.out.trans (hb.mono HB9.out.size))
        have HCA10 := Lib.hid (HCA.out.below hb)
        have D10 : Hid (w10.heap[w3.heap.size]? = _) := Lib.hid ((hb.block w3.heap.size (heapE_lt HD.out)).trans HD.out)
        clear hb x0 HC
        have HLK := Lib.hid (linked_any (i := i) (j := j) HCA10.out)
        rw [HBR.out.link] at HLK
        obtain ⟨x0, _⟩ := row1f D10.out
        go_wp2_with fail
        refine HLK.out.mono ?_
        rintro e w11 ⟨rfl, hb⟩
        have HB11 : Hid (Below w.heap.size w w11) := Lib.hid (HB10.out.trans (hb.mono HB10.out.size))
        have HCA11 := Lib.hid (HCA10.out.below hb)
        have D11 : Hid (w11.heap[w3.heap.size]? = _) := Lib.hid ((hb.block w3.heap.size (heapE_lt D10.out)).trans D10.out)
        clear hb x0 HLK
        have HGR := Lib.hid (graph_any HCA11.out)
        have hz : (grE l2).length = 0 := by rw [HBR.out.grE]; rfl
        rw [hz] at HGR
        clear hz
        obtain ⟨x0, _⟩ := row1f D11.out
        go_wp2_with fail
        refine HGR.out.mono ?_
        rintro e w12 ⟨A', c', rfl, _, hb⟩
        have HB12 : Hid (Below w.heap.size w w12) := Lib.hid (HB11.out.trans (hb.mono HB11.out.size))
        have HCA12 := Lib.hid (HCA11.out.below hb)
        have D12 : Hid (w12.heap[w3.heap.size]? = _) := Lib.hid ((hb.block w3.heap.size (heapE_lt D11.out)).trans D11.out)
        clear hb x0 HGR
        have HST := Lib.hid (settled_any (c2 := c2) HCA12.out HLV2.out (Rd.below HVR.out HB12.out) HB12.out.size HM20.out)
        obtain ⟨x0, _⟩ := row1f D12.out
        go_wp2_with fail
        refine HST.out.mono ?_
        rintro e w13 ⟨hb, ho⟩
        have HB13 : Hid (Below w.heap.size w w13) := Lib.hid (HB12.out.trans (hb.mono HB12.out.size))
        have HCA13 := Lib.hid (HCA12.out.below hb)
        have D13 : Hid (w13.heap[w3.heap.size]? = _) := Lib.hid ((hb.block w3.heap.size (heapE_lt D12.out)).trans D12.out)
        clear hb x0 HST
        obtain ⟨x0, _⟩ := row1f D13.out
        rcases ho with ⟨hset, A5, c5, rfl, hown⟩ | ⟨_, rfl⟩
        rotate_left
        · go_wp2_with fail
          exact bodyPost_ret (results_tmp rfl _ _ _) rfl ⟨rfl, HB13.out⟩
        have HSET := Lib.hid hset
        have HO13 := Lib.hid hown
        clear hset hown
        have HSP : Hid (∀ k, k < m → (at_ (setL l2 vs) k).1.natAbs < 2 ^ 53 ∧ (at_ (setL l2 vs) k).2.natAbs < 2 ^ 53) := Lib.hid (fun k hk => by
          rw [setL_at l2 vs (by rw [HVL.out]; exact hk)]
          obtain ⟨h1, h2, h3, h4⟩ := setP_ok HLV2.out HSM2.out ((setB_iff.1 HSET.out).2 k (by rw [HVL.out]; exact hk))
          omega)
        have HG := Lib.hid (good_any (c2 := c5) HCA13.out HLV2.out HO13.out.rd (Nat.le_refl _) HM20.out HSP.out)
        rw [HBR.out.good HLV2.out HSM2.out HSET.out] at HG
        go_wp2_with fail
        refine HG.out.mono ?_
        rintro e w14 ⟨rfl, hb⟩
        have HB14 : Hid (Below w.heap.size w w14) := Lib.hid (HB13.out.trans (hb.mono HB13.out.size))
        clear hb x0 HG
        go_wp2_with fail
        exact bodyPost_ret (results_tmp rfl _ _ _) rfl ⟨rfl, HB14.out⟩
end Go.Proofs.YtebflhlgcpbikaaGreat
