/-
  SOLVETARGETS.
-/
import Derived.Test.YteiknbkigbdfgaaVAn
import Derived.Test.YteiknbkigbdfgaaCRg
import Derived.Test.YteiknbkigbdfgaaVPl
import Derived.Test.YteiknbkigbdfgaaVPz
import Derived.Test.YteiknbkigbdfgaaVSz
import Derived.Test.YteiknbkigbdfgaaVMt
namespace Go.Proofs.Yteiknbkigbdfgaa
open Go.RowKit
open SemP FlP GaP DiP SeaP
set_option linter.unusedVariables false
set_option linter.unusedSimpArgs false
set_option maxRecDepth 10000
theorem own_cap {w : World} {base n c : Nat} {A : Option Addr} {xs : List Int} (h : Own w base (.slice A n c) n xs) : CapA A n c := by
  rcases h.2 with ⟨hv, _⟩ | ⟨g, cap, cur, hv, _, _, h1, h2, _⟩
  · injection hv with h1 h2 h3
    exact .inl ⟨h1, h2, h3⟩
  · injection hv with e1 e2 e3
    subst e1 e3
    exact .inr ⟨_, rfl, h1, by unfold maxLen at h2; omega⟩
set_option maxHeartbeats 16000000 in
theorem law_stargets {w : World} {n c : Nat} {A : Option Addr} {l : List Sv} {A2 : Option Addr} {m c2 : Nat} {vs : List Int} {Aq Am : Option Addr} {np cp nm cm : Nat} {ps : List Nd} {ms : List Int} (hr : RdJ 2 svI w (fun b => w.heap.size ≤ b) A n l) (hcap : CapA A n c) (hvr : Rd w w.heap.size A2 m vs) (hvc : CapA A2 m c2) (hpr : RdJ 2 pnI w (fun b => w.heap.size ≤ b) Aq np ps) (hmr : Rd w w.heap.size Am nm ms) (hm : LenAt w) (h1 : 1 < w.heap.size) :
    Calls Try.prog 6 #[.agg #[.slice A n c], .slice A2 m c2, .agg #[.slice Aq np cp, .slice Am nm cm]] w fun e w' => e = .returned (.bool true) ∧ Below w.heap.size w w' := by
  have HR := Lib.hid hr
  have HC := Lib.hid hcap
  have HVR := Lib.hid hvr
  have HVC := Lib.hid hvc
  have HPR := Lib.hid hpr
  have HMR := Lib.hid hmr
  obtain ⟨W, HW⟩ : ∃ W, Hid (W = (w.alloc (.cells #[.slice A n c] 24)).alloc (.cells #[.slice Aq np cp, .slice Am nm cm] 55)) := ⟨_, Lib.hid rfl⟩
  have hbW : Below w.heap.size w W := by rw [HW.out]; exact ((Below.refl _ w).alloc (Nat.le_refl _) _).alloc (by simp) _
  have H0 : Hid (W.heap[w.heap.size]? = some (.cells #[.slice A n c] 24 (0, 0))) := Lib.hid (by
    rw [HW.out, Below.heap_alloc _ _ _ (by simp)]; exact heap_new w _)
  have H1 : Hid (W.heap[w.heap.size + 1]? = some (.cells #[.slice Aq np cp, .slice Am nm cm] 55 (0, 0))) := Lib.hid (by
    rw [HW.out]
    have h := heap_new (w.alloc (.cells #[.slice A n c] 24)) (.cells #[.slice Aq np cp, .slice Am nm cm] 55)
    rw [World.size_alloc] at h; exact h)
  have HLW := Lib.hid (LenAt.below hm h1 hbW)
  have HBW := Lib.hid hbW
  have hsz := hbW.size
  clear hr hcap hvr hvc hpr hmr hm h1 hbW
  obtain ⟨x0, _⟩ := row1f H0.out
  obtain ⟨u0, u1, _⟩ := row2 H1.out
  have HAN := Lib.hid (sanchor_any W HLW.out.1 HLW.out.2)
  go_enter Try.func6, Try.ntmps6
  go_upto_region 1 with fail
  change Code.wp _ _ _ _ ((w.alloc (.cells #[.slice A n c] 24)).alloc (.cells #[.slice Aq np cp, .slice Am nm cm] 55))
  rw [← HW.out]
  go_wp2_with fail
  refine HAN.out.mono ?_
  rintro e w1 ⟨rfl, hb⟩
  have HB1 : Hid (Below w.heap.size w w1) := Lib.hid (HBW.out.trans (hb.mono hsz))
  have HL1 := Lib.hid (LenAt.below HLW.out.1 HLW.out.2 hb)
  have K1 : Hid (w1.heap[w.heap.size]? = _) := Lib.hid ((hb.block w.heap.size (heapE_lt H0.out)).trans H0.out)
  have Q1 : Hid (w1.heap[w.heap.size + 1]? = _) := Lib.hid ((hb.block (w.heap.size + 1) (heapE_lt H1.out)).trans H1.out)
  clear hb x0 u0 u1 HAN
  obtain ⟨x0, _⟩ := row1f K1.out
  have HMC := Lib.hid (right_any (c := c) (RdJ.below sv_turns HR.out HB1.out) HB1.out.size HL1.out.1 HL1.out.2)
  go_wp2_with fail
  refine HMC.out.mono ?_
  rintro e z1 ⟨A', n', c', ok, rfl, hb, hit⟩
  obtain ⟨W2, HW2⟩ : ∃ W2, Hid (W2 = z1.alloc (.cells #[.slice A' n' c'] 28)) := ⟨_, Lib.hid rfl⟩
  have hb2 : Below z1.heap.size z1 W2 := by rw [HW2.out]; exact (Below.refl _ z1).alloc (Nat.le_refl _) _
  have J2 : Hid (W2.heap[z1.heap.size]? = some (.cells #[.slice A' n' c'] 28 (0, 0))) := Lib.hid (by rw [HW2.out]; exact heap_new z1 _)
  have hb12 : Below w1.heap.size w1 W2 := hb.trans (hb2.mono hb.size)
  have HB2 : Hid (Below w.heap.size w W2) := Lib.hid (HB1.out.trans (hb12.mono HB1.out.size))
  have HL2 := Lib.hid (LenAt.below HL1.out.1 HL1.out.2 hb12)
  have K2 : Hid (W2.heap[w.heap.size]? = _) := Lib.hid ((hb12.block w.heap.size (heapE_lt K1.out)).trans K1.out)
  have Q2 : Hid (W2.heap[w.heap.size + 1]? = _) := Lib.hid ((hb12.block (w.heap.size + 1) (heapE_lt Q1.out)).trans Q1.out)
  have HZ1 : Hid (w1.heap.size ≤ z1.heap.size) := Lib.hid hb.size
  have HIT := Lib.hid (fun h => And.intro (And.intro (hit h).1 (hit h).2.1) (ss_turns.kept (hit h).2.2 hb2))
  clear hb hb2 hb12 hit x0 HMC
  go_upto_region 4 with fail
  change Code.wp _ _ _ _ (z1.alloc (.cells #[.slice A' n' c'] 28))
  rw [← HW2.out]
  obtain ⟨u0, u1, _⟩ := row2 Q2.out
  have HPL := Lib.hid (plain_any (cp := cp) (nm := nm) (cm := cm) (Am := Am) (RdJ.below pn_turns HPR.out HB2.out) HB2.out.size)
  go_wp2_with fail
  refine HPL.out.mono ?_
  rintro e z2 ⟨Aq', np', cp', is, rfl, hb, hit⟩
  obtain ⟨W3, HW3⟩ : ∃ W3, Hid (W3 = z2.alloc (.cells #[.slice Aq' np' cp', .slice Am nm cm] 58)) := ⟨_, Lib.hid rfl⟩
  have hb2 : Below z2.heap.size z2 W3 := by rw [HW3.out]; exact (Below.refl _ z2).alloc (Nat.le_refl _) _
  have J3 : Hid (W3.heap[z2.heap.size]? = some (.cells #[.slice Aq' np' cp', .slice Am nm cm] 58 (0, 0))) := Lib.hid (by rw [HW3.out]; exact heap_new z2 _)
  have hb12 : Below W2.heap.size W2 W3 := hb.trans (hb2.mono hb.size)
  have HB3 : Hid (Below w.heap.size w W3) := Lib.hid (HB2.out.trans (hb12.mono HB2.out.size))
  have HL3 := Lib.hid (LenAt.below HL2.out.1 HL2.out.2 hb12)
  have K3 : Hid (W3.heap[w.heap.size]? = _) := Lib.hid ((hb12.block w.heap.size (heapE_lt K2.out)).trans K2.out)
  have Q3 : Hid (W3.heap[w.heap.size + 1]? = _) := Lib.hid ((hb12.block (w.heap.size + 1) (heapE_lt Q2.out)).trans Q2.out)
  have G3 : Hid (W3.heap[z1.heap.size]? = _) := Lib.hid ((hb12.block z1.heap.size (heapE_lt J2.out)).trans J2.out)
  have HIT3 := Lib.hid (fun h => And.intro (HIT.out h).1 (ss_turns.kept (HIT.out h).2 hb12))
  have HIP := Lib.hid (fun h => And.intro (And.intro (hit h).1 (hit h).2.1) (And.intro (hit h).2.2.1 (ps_turns.kept (hit h).2.2.2 hb2)))
  have HZ3 : Hid (z1.heap.size < W3.heap.size ∧ z2.heap.size < W3.heap.size ∧ w.heap.size + 1 < z1.heap.size ∧ W2.heap.size ≤ z2.heap.size) := Lib.hid ⟨heapE_lt G3.out, heapE_lt J3.out, by
    have h := hb.size
    have h2 : W2.heap.size = z1.heap.size + 1 := by rw [HW2.out, World.size_alloc]
    have h3 := HB1.out.size
    have h4 := heapE_lt Q2.out
    have h5 := heapE_lt Q1.out
    have h6 := HB2.out.size
    have h7 := HZ1.out
    omega, hb.size⟩
  clear hb hb2 hb12 hit u0 u1 HPL HIT
  go_upto_region 5 with fail
  change Code.wp _ _ _ _ (z2.alloc (.cells #[.slice Aq' np' cp', .slice Am nm cm] 58))
  rw [← HW3.out]
  cases ok with
  | false =>
    go_wp2_with fail
    exact bodyPost_ret (results_tmp rfl _ _ _) rfl ⟨rfl, HB3.out⟩
  | true =>
    cases is with
    | false =>
      go_wp2_with fail
      exact bodyPost_ret (results_tmp rfl _ _ _) rfl ⟨rfl, HB3.out⟩
    | true =>
      obtain ⟨⟨hck, hsm⟩, hss⟩ := HIT3.out rfl
      obtain ⟨⟨hnp, hnm⟩, hps, hpi⟩ := HIP.out rfl
      obtain ⟨hcap', hrd'⟩ := (ss_turns.go hss (FrM.refl W3 _) (M' := fun b => W3.heap.size ≤ b) (fun b hb => .inr hb)).rd
      obtain ⟨hcapq, hrdq⟩ := (ps_turns.go hpi (FrM.refl W3 _) (M' := fun b => W3.heap.size ≤ b) (fun b hb => .inr hb)).rd
      have HP : Hid (CatAt W3 w.heap.size A n c l) := Lib.hid ⟨RdJ.below sv_turns HR.out HB3.out, HC.out, HB3.out.size, hsm, HL3.out.1, HL3.out.2⟩
      have HQ : Hid (CatAt W3 W3.heap.size A' n' c' l) := Lib.hid ⟨hrd', hcap', Nat.le_refl _, hsm, HL3.out.1, HL3.out.2⟩
      obtain rfl : n' = n := by rw [← HQ.out.rd.1, ← HP.out.rd.1]
      obtain rfl : np' = np := by rw [← hrdq.1, ← HPR.out.1]
      have HCK := Lib.hid hck
      have HLV := Lib.hid (ck_lev hck)
      have HV3 := Lib.hid (Rd.below HVR.out HB3.out)
      have HRP : Hid (ReqAt W3 w.heap.size Aq np' Am nm ps ms) := Lib.hid ⟨RdJ.below pn_turns HPR.out HB3.out, Rd.below HMR.out HB3.out, hnp, hnm, hps, HB3.out.size⟩
      have HRQ : Hid (ReqAt W3 W3.heap.size Aq' np' Am nm ps ms) := Lib.hid ⟨hrdq, (Rd.below HMR.out HB3.out).more HB3.out.size, hnp, hnm, hps, Nat.le_refl _⟩
      clear hsm hss hcap' hrd' hck hnp hnm hps hpi hcapq hrdq
      by_cases h40 : 40 < m
      · have d1 : decide ((40 : Int) < (m : Int)) = true := by simp; omega
        go_wp2_with fail
        exact bodyPost_ret (results_tmp rfl _ _ _) rfl ⟨rfl, HB3.out⟩
      have d1 : decide ((40 : Int) < (m : Int)) = false := by simp; omega
      have HSZ := Lib.hid (size_any HQ.out (ck_rels HCK.out))
      obtain ⟨y0, _⟩ := row1f G3.out
      by_cases h15 : 1500 < szN l l.length
      · have d2 : decide ((1500 : Int) < ((szN l l.length : Nat) : Int)) = true := by simp; omega
        go_wp2_with fail
        refine HSZ.out.mono ?_
        rintro e w4 ⟨rfl, hb⟩
        go_wp2_with fail
        exact bodyPost_ret (results_tmp rfl _ _ _) rfl ⟨rfl, HB3.out.trans (hb.mono HB3.out.size)⟩
      have d2 : decide ((1500 : Int) < ((szN l l.length : Nat) : Int)) = false := by simp; omega
      go_wp2_with fail
      refine HSZ.out.mono ?_
      rintro e w4 ⟨rfl, hb⟩
      have HB4 : Hid (Below W3.heap.size W3 w4) := Lib.hid hb
      have HW4 : Hid (Below w.heap.size w w4) := Lib.hid (HB3.out.trans (hb.mono HB3.out.size))
      clear hb y0 HSZ
      have HCQ := Lib.hid (chkQ_any (c2 := c2) (cp := cp') (cm := cm) (HQ.out.below HB4.out) (HV3.out.below (HB4.out.mono HB3.out.size)) HW4.out.size (by omega) (HRQ.out.below HB4.out))
      obtain ⟨y0, _⟩ := row1f ((HB4.out.block z1.heap.size HZ3.out.1).trans G3.out)
      obtain ⟨v0, v1, _⟩ := row2 ((HB4.out.block z2.heap.size HZ3.out.2.1).trans J3.out)
      by_cases hcr : chkR l vs ps ms ≠ 0
      · have d3 : (chkR l vs ps ms != 0) = true := by rw [bne_iff_ne]; exact hcr
        go_wp2_with fail
        refine HCQ.out.mono ?_
        rintro e w5 ⟨rfl, hb⟩
        go_wp2_with fail
        exact bodyPost_ret (results_tmp rfl _ _ _) rfl ⟨rfl, HW4.out.trans (hb.mono HW4.out.size)⟩
      have hcr0 : chkR l vs ps ms = 0 := by omega
      have HCR := Lib.hid hcr0
      go_wp2_with fail
      refine HCQ.out.mono ?_
      rintro e w5 ⟨rfl, hb⟩
      have HB5 : Hid (Below W3.heap.size W3 w5) := Lib.hid (HB4.out.trans (hb.mono HB4.out.size))
      have HW5 : Hid (Below w.heap.size w w5) := Lib.hid (HW4.out.trans (hb.mono HW4.out.size))
      rw [hcr0]
      clear hb y0 v0 v1 HCQ hcr0 hcr
      have HSO := Lib.hid (solve_any (c2 := c2) (cp := cp) (cm := cm) (b := 1048576) (HP.out.below HB5.out) HCK.out (HV3.out.below (HB5.out.mono HB3.out.size)) HW5.out.size (HRP.out.below HB5.out))
      obtain ⟨x0, _⟩ := row1f ((HB5.out.block w.heap.size (heapE_lt K3.out)).trans K3.out)
      obtain ⟨u0, u1, _⟩ := row2 ((HB5.out.block (w.heap.size + 1) (heapE_lt Q3.out)).trans Q3.out)
      go_wp2_with fail
      refine HSO.out.mono ?_
      rintro e w6 ⟨hb, ho⟩
      have HB6 : Hid (Below W3.heap.size W3 w6) := Lib.hid (HB5.out.trans (hb.mono HB5.out.size))
      have HW6 : Hid (Below w.heap.size w w6) := Lib.hid (HW5.out.trans (hb.mono HW5.out.size))
      have HZ6 : Hid (w5.heap.size ≤ w6.heap.size) := Lib.hid hb.size
      clear hb x0 u0 u1 HSO
      have HOK := Lib.hid (@solR_ok l vs ps ms 1048576)
      have HTG := Lib.hid (@solR_tgt l vs ps ms 1048576 (ck_rels HCK.out))
      obtain ⟨X, HX⟩ : ∃ X, Hid (solR l vs ps ms 1048576 = X) := ⟨_, Lib.hid rfl⟩
      rw [HX.out] at ho HOK HTG
      have HN : Hid (l.length = n') := Lib.hid HP.out.rd.1
      rw [HN.out] at ho
      rcases ho with ⟨hx, hlen, v, rfl, hown⟩ | ⟨hx, _, rfl⟩
      rotate_left
      · have hne : (X.2 != 0) = true := by rw [bne_iff_ne]; exact hx
        go_wp2_with fail
        exact bodyPost_ret (results_tmp rfl _ _ _) rfl ⟨rfl, HW6.out⟩
      obtain ⟨At, ct, rfl, _⟩ := hown.shape
      have HT := Lib.hid (HTG.out hx)
      have HOW := Lib.hid hown
      obtain ⟨T, HTT⟩ : ∃ T, Hid (X.1 = T) := ⟨_, Lib.hid rfl⟩
      rw [HTT.out] at HT HOW hlen
      have HTL : Hid (T.length = n') := Lib.hid hlen
      have hn16 := HP.out.n16
      clear hown hlen
      go_wp2_with (at_make; refine wpl_make rfl (.tmp 65) (.tmp 65) rfl w6.heap.size n' rfl rfl (by omega) (by omega) ?_; intro w7 hown7 hgr7)
      have HB7 : Hid (Below w6.heap.size w6 w7) := Lib.hid ((Below.refl _ w6).grown hgr7 (Nat.le_refl _) (fun g hg => by cases hg))
      have HO7 := Lib.hid hown7
      clear hown7 hgr7
      go_wp2_with fail
      go_loopw [14, 69] (fun _ v wr => ∃ (k : Nat) (xs : List Int), k ≤ n' ∧ v = .int .i64 (k : Int) ∧ Hid (Below w6.heap.size w6 wr) ∧ Hid (Own wr w6.heap.size (.slice (some ⟨w6.heap.size, 0, none⟩) n' n') n' xs) ∧ Hid (∀ i, i < k → ix xs i = 2)) (fun _ v _ => n' - (intOf v).toNat)
      case atStart => exact ⟨0, _, Nat.zero_le _, rfl, HB7, HO7, Lib.hid (fun i h => absurd h (by omega))⟩
      case round =>
        obtain ⟨wo, hwo⟩ : ∃ x, x = wr := ⟨_, rfl⟩
        subst hwo
        obtain ⟨k, xs, hk, rfl, HBo, HO, HF⟩ := hrel
        by_cases hkn : k < n'
        · have hd : decide ((k : Int) < (n' : Int)) = true := by simp; omega
          have hki : (k : Int) < (n' : Int) := by omega
          have hk0 : (0 : Int) ≤ (k : Int) := by omega
          have hadd : IntKind.i64.wrap ((k : Int) + 1) = ((k + 1 : Nat) : Int) := by rw [IntWalk.i64_in _ (by omega)]; omega
          have c0 := HO.out.cell hkn
          have f0 := HO.out.free k
          go_wp2_with fail
          go_roundw
          case rel => exact ⟨k + 1, xs.set k 2, by omega, by go_num, Lib.hid (HBo.out.setCell (p := ⟨w6.heap.size, k, none⟩) (Nat.le_refl _) _), Lib.hid (by have h := HO.out.store k 2; exact h), Lib.hid (fun i hi => by
            by_cases e : i = k
            · subst e; exact iz_set_eq (by rw [HO.out.len]; omega)
            · rw [← iz_ix, iz_set_ne (by omega), iz_ix]; exact HF.out i (by omega))⟩
          case measure => simp [intOf]; omega
        · have hd : decide ((k : Int) < (n' : Int)) = false := by simp; omega
          have HXS : Hid (xs = List.replicate l.length 2) := Lib.hid (list_ext_getD (by rw [HO.out.len, List.length_replicate, HN.out]) (fun i hi => by
            rw [HF.out i (by rw [HO.out.len] at hi; omega), ix_replicate (by rw [HO.out.len] at hi; rw [HN.out]; omega)]))
          rw [HXS.out] at HO
          have HWo : Hid (Below w.heap.size w wo) := Lib.hid (HW6.out.trans (HBo.out.mono HW6.out.size))
          have HBo3 : Hid (Below W3.heap.size W3 wo) := Lib.hid (HB6.out.trans (HBo.out.mono HB6.out.size))
          have HOWo := Lib.hid (HOW.out.kept HBo.out)
          have HRo : Hid (ReqAt wo wo.heap.size Aq np' (some ⟨w6.heap.size, 0, none⟩) n' ps (List.replicate l.length 2)) := Lib.hid ⟨(HRP.out.below HBo3.out).pd.turn pn_turns (FrM.refl wo _) (fun b hb => .inr hb), Rd.of_own HO.out, HRP.out.np, by omega, HRP.out.sm, Nat.le_refl _⟩
          have HS2 := Lib.hid (solve_any (c2 := ct) (cp := cp) (cm := n') (b := 1048576) (HP.out.below HBo3.out) HCK.out (Rd.of_own HOWo.out) (Nat.le_refl _) HRo.out)
          have hsol : solR l T ps (List.replicate l.length 2) 1048576 = (T, 0) := solR_held (by rw [HN.out]; exact hn16) HCR.out HT.out
          rw [hsol] at HS2
          obtain ⟨x0, _⟩ := row1f ((HBo3.out.block w.heap.size (heapE_lt K3.out)).trans K3.out)
          obtain ⟨u0, u1, _⟩ := row2 ((HBo3.out.block (w.heap.size + 1) (heapE_lt Q3.out)).trans Q3.out)
          clear hsol
          go_wp2_with fail
          refine HS2.out.mono ?_
          rintro e w8 ⟨hb, ho⟩
          have HB8 : Hid (Below wo.heap.size wo w8) := Lib.hid hb
          have HB83 : Hid (Below W3.heap.size W3 w8) := Lib.hid (HBo3.out.trans (hb.mono HBo3.out.size))
          have HW8 : Hid (Below w.heap.size w w8) := Lib.hid (HWo.out.trans (hb.mono HWo.out.size))
          have HOW8 := Lib.hid (HOWo.out.kept hb)
          clear hb x0 u0 u1 HS2
          rw [HN.out] at ho
          rcases ho with ⟨_, _, v8, rfl, hown⟩ | ⟨hne, _⟩
          rotate_left
          · exact absurd rfl hne
          obtain ⟨A8, c8, rfl, _⟩ := hown.shape
          have HO8 := Lib.hid hown
          clear hown
          obtain ⟨x0, _⟩ := row1f ((HB83.out.block w.heap.size (heapE_lt K3.out)).trans K3.out)
          obtain ⟨u0, u1, _⟩ := row2 ((HB83.out.block (w.heap.size + 1) (heapE_lt Q3.out)).trans Q3.out)
          have hcapT : CapA At n' ct := own_cap HOW8.out
          have HME := Lib.hid (meets_any (c2 := ct) (cp := cp) (cm := cm) (HP.out.below HB83.out) HLV.out (Rd.of_own HOW8.out) (Nat.le_refl _) hcapT (HRP.out.below HB83.out))
          rw [HT.out] at HME
          go_wp2_with fail
          refine HME.out.mono ?_
          rintro e w9 ⟨rfl, hb⟩
          have HW9 : Hid (Below w.heap.size w w9) := Lib.hid (HW8.out.trans (hb.mono HW8.out.size))
          have HIN := Lib.hid (ints_same (c := c8) (d := ct) (Rd.of_own (HO8.out.kept hb)) (Rd.of_own (HOW8.out.kept hb)) (by omega) (by omega))
          clear hb x0 u0 u1 HME
          go_wp2_with fail
          refine HIN.out.mono ?_
          rintro e w10 ⟨rfl, hb⟩
          go_wp2_with fail
          exact bodyPost_ret (results_tmp rfl _ _ _) rfl ⟨rfl, HW9.out.trans (hb.mono HW9.out.size)⟩
end Go.Proofs.Yteiknbkigbdfgaa
