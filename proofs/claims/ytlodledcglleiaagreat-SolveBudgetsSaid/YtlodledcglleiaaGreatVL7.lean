/-
  SOLVEBUDGETS.
-/
import Derived.Test.YtlodledcglleiaaGreatVAn
import Derived.Test.YtlodledcglleiaaGreatCRg
import Derived.Test.YtlodledcglleiaaGreatVPl
import Derived.Test.YtlodledcglleiaaGreatVBp
namespace Go.Proofs.YtlodledcglleiaaGreat
open Go.RowKit
open SemP FlP GaP DiP SeaP
set_option linter.unusedVariables false
set_option linter.unusedSimpArgs false
set_option maxRecDepth 10000
set_option maxHeartbeats 16000000 in
theorem law_sbudgets {w : World} {n c : Nat} {A : Option Addr} {l : List Sv} {A2 : Option Addr} {m c2 : Nat} {vs : List Int} {Aq Am : Option Addr} {np cp nm cm : Nat} {ps : List Nd} {ms : List Int} {b1 b2 : Int} (hr : RdJ 2 svI w (fun b => w.heap.size ≤ b) A n l) (hcap : CapA A n c) (hvr : Rd w w.heap.size A2 m vs) (hvc : CapA A2 m c2) (hpr : RdJ 2 pnI w (fun b => w.heap.size ≤ b) Aq np ps) (hmr : Rd w w.heap.size Am nm ms) (hm : LenAt w) (h1 : 1 < w.heap.size) :
    Calls Tryz.prog 5 #[.agg #[.slice A n c], .slice A2 m c2, .agg #[.slice Aq np cp, .slice Am nm cm], .int .i64 b1, .int .i64 b2] w fun e w' => e = .returned (.bool true) ∧ Below w.heap.size w w' := by
  have HR := Lib.hid hr
  have HC := Lib.hid hcap
  have HVR := Lib.hid hvr
  have HVC := Lib.hid hvc
  have HPR := Lib.hid hpr
  have HMR := Lib.hid hmr
  obtain ⟨W, HW⟩ : ∃ W, Hid (W = (w.alloc (.cells #[.slice A n c] 24)).alloc (.cells #[.slice Aq np cp, .slice Am nm cm] 46)) := ⟨_, Lib.hid rfl⟩
  have hbW : Below w.heap.size w W := by rw [HW.out]; exact ((Below.refl _ w).alloc (Nat.le_refl _) _).alloc (by simp) _
  have H0 : Hid (W.heap[w.heap.size]? = some (.cells #[.slice A n c] 24 (0, 0))) := Lib.hid (by
    rw [HW.out, Below.heap_alloc _ _ _ (by simp)]; exact heap_new w _)
  have H1 : Hid (W.heap[w.heap.size + 1]? = some (.cells #[.slice Aq np cp, .slice Am nm cm] 46 (0, 0))) := Lib.hid (by
    rw [HW.out]
    have h := heap_new (w.alloc (.cells #[.slice A n c] 24)) (.cells #[.slice Aq np cp, .slice Am nm cm] 46)
    rw [World.size_alloc] at h; exact h)
  have HLW := Lib.hid (LenAt.below hm h1 hbW)
  have HBW := Lib.hid hbW
  have hsz := hbW.size
  clear hr hcap hvr hvc hpr hmr hm h1 hbW
  obtain ⟨x0, _⟩ := row1f H0.out
  obtain ⟨u0, u1, _⟩ := row2 H1.out
  have HAN := Lib.hid (sanchor_any W HLW.out.1 HLW.out.2)
  go_enter Tryz.func5, Tryz.ntmps5
  go_upto_region 1 with fail
  change Code.wp _ _ _ _ ((w.alloc (.cells #[.slice A n c] 24)).alloc (.cells #[.slice Aq np cp, .slice Am nm cm] 46))
  rw [← HW.out]
  go_wp2_with fail
  refine HAN.out.mono ?_
  rintro e w1 ⟨rfl, hb⟩
  have HB1 : Hid (Below w.heap.size w w1) := Lib.hid (HBW.out.trans (hb.mono hsz))
  have HL1 := Lib.hid (LenAt.below HLW.out.1 HLW.out.2 hb)
  have K1 : Hid (w1.heap[w.heap.size]? = _) := Lib.hid ((hb.block w.heap.size (heapE_lt H0.out)).trans H0.out)
  have Q1 : Hid (w1.heap[w.heap.size + 1]? = _) := Lib.hid ((hb.block (w.heap.size + 1) (heapE_lt H1.out)).trans H1.out)
  clear hb x0 u0 u1 HAN
  obtain ⟨x0, _⟩ := row1f K1.out
  have HMC := Lib.hid (right_any (c := c) (RdJ.below sv_turns HR.out HB1.out) HB1.out.size HL1.out.1 HL1.out.2)
  go_wp2_with fail
  refine HMC.out.mono ?_
  rintro e z1 ⟨A', n', c', ok, rfl, hb, hit⟩
  obtain ⟨W2, HW2⟩ : ∃ W2, Hid (W2 = z1.alloc (.cells #[.slice A' n' c'] 28)) := ⟨_, Lib.hid rfl⟩
  have hb2 : Below z1.heap.size z1 W2 := by rw [HW2.out]; exact (Below.refl _ z1).alloc (Nat.le_refl _) _
  have J2 : Hid (W2.heap[z1.heap.size]? = some (.cells #[.slice A' n' c'] 28 (0, 0))) := Lib.hid (by rw [HW2.out]; exact heap_new z1 _)
  have hb12 : Below w1.heap.size w1 W2 := hb.trans (hb2.mono hb.size)
  have HB2 : Hid (Below w.heap.size w W2) := Lib.hid (HB1.out.trans (hb12.mono HB1.out.size))
  have HL2 := Lib.hid (LenAt.below HL1.out.1 HL1.out.2 hb12)
  have K2 : Hid (W2.heap[w.heap.size]? = _) := Lib.hid ((hb12.block w.heap.size (heapE_lt K1.out)).trans K1.out)
  have Q2 : Hid (W2.heap[w.heap.size + 1]? = _) := Lib.hid ((hb12.block (w.heap.size + 1) (heapE_lt Q1.out)).trans Q1.out)
  have HZ1 : Hid (w1.heap.size ≤ z1.heap.size) := Lib.hid hb.size
  have HIT := Lib.hid (fun h => And.intro (And.intro (hit h).1 (hit h).2.1) (ss_turns.kept (hit h).2.2 hb2))
  clear hb hb2 hb12 hit x0 HMC
  go_upto_region 4 with fail
  change Code.wp _ _ _ _ (z1.alloc (.cells #[.slice A' n' c'] 28))
  rw [← HW2.out]
  obtain ⟨u0, u1, _⟩ := row2 Q2.out
  have HPL := Lib.hid (plain_any (cp := cp) (nm := nm) (cm := cm) (Am := Am) (RdJ.below pn_turns HPR.out HB2.out) HB2.out.size)
  go_wp2_with fail
  refine HPL.out.mono ?_
  rintro e z2 ⟨Aq', np', cp', is, rfl, hb, hit⟩
  obtain ⟨W3, HW3⟩ : ∃ W3, Hid (W3 = z2.alloc (.cells #[.slice Aq' np' cp', .slice Am nm cm] 49)) := ⟨_, Lib.hid rfl⟩
  have hb2 : Below z2.heap.size z2 W3 := by rw [HW3.out]; exact (Below.refl _ z2).alloc (Nat.le_refl _) _
  have J3 : Hid (W3.heap[z2.heap.size]? = some (.cells #[.slice Aq' np' cp', .slice Am nm cm] 49 (0, 0))) := Lib.hid (by rw [HW3.out]; exact heap_new z2 _)
  have hb12 : Below W2.heap.size W2 W3 := hb.trans (hb2.mono hb.size)
  have HB3 : Hid (Below w.heap.size w W3) := Lib.hid (HB2.out.trans (hb12.mono HB2.out.size))
  have HL3 := Lib.hid (LenAt.below HL2.out.1 HL2.out.2 hb12)
  have K3 : Hid (W3.heap[w.heap.size]? = _) := Lib.hid ((hb12.block w.heap.size (heapE_lt K2.out)).trans K2.out)
  have Q3 : Hid (W3.heap[w.heap.size + 1]? = _) := Lib.hid ((hb12.block (w.heap.size + 1) (heapE_lt Q2.out)).trans Q2.out)
  have G3 : Hid (W3.heap[z1.heap.size]? = _) := Lib.hid ((hb12.block z1.heap.size (heapE_lt J2.out)).trans J2.out)
  have HIT3 := Lib.hid (fun h => And.intro (HIT.out h).1 (ss_turns.kept (HIT.out h).2 hb12))
  have HIP := Lib.hid (fun h => And.intro (And.intro (hit h).1 (hit h).2.1) (And.intro (hit h).2.2.1 (ps_turns.kept (hit h).2.2.2 hb2)))
  have HZ3 : Hid (z1.heap.size < W3.heap.size ∧ z2.heap.size < W3.heap.size ∧ w.heap.size + 1 < z1.heap.size ∧ W2.heap.size ≤ z2.heap.size) := Lib.hid ⟨heapE_lt G3.out, heapE_lt J3.out, by
    have h := hb.size
    have h2 : W2.heap.size = z1.heap.size + 1 := by rw [HW2.out, World.size_alloc]
    have h3 := HB1.out.size
    have h4 := heapE_lt Q2.out
    have h5 := heapE_lt Q1.out
    have h6 := HB2.out.size
    have h7 := HZ1.out
    omega, hb.size⟩
  clear hb hb2 hb12 hit u0 u1 HPL HIT
  go_upto_region 5 with fail
  change Code.wp _ _ _ _ (z2.alloc (.cells #[.slice Aq' np' cp', .slice Am nm cm] 49))
  rw [← HW3.out]
  cases ok with
  | false =>
    go_wp2_with fail
    exact bodyPost_ret (results_tmp rfl _ _ _) rfl ⟨rfl, HB3.out⟩
  | true =>
    cases is with
    | false =>
      go_wp2_with fail
      exact bodyPost_ret (results_tmp rfl _ _ _) rfl ⟨rfl, HB3.out⟩
    | true =>
      obtain ⟨⟨hck, hsm⟩, hss⟩ := HIT3.out rfl
      obtain ⟨⟨hnp, hnm⟩, hps, hpi⟩ := HIP.out rfl
      obtain ⟨hcap', hrd'⟩ := (ss_turns.go hss (FrM.refl W3 _) (M' := fun b => W3.heap.size ≤ b) (fun b hb => .inr hb)).rd
      obtain ⟨hcapq, hrdq⟩ := (ps_turns.go hpi (FrM.refl W3 _) (M' := fun b => W3.heap.size ≤ b) (fun b hb => .inr hb)).rd
      have HP : Hid (CatAt W3 w.heap.size A n c l) := Lib.hid ⟨RdJ.below sv_turns HR.out HB3.out, HC.out, HB3.out.size, hsm, HL3.out.1, HL3.out.2⟩
      have HQ : Hid (CatAt W3 W3.heap.size A' n' c' l) := Lib.hid ⟨hrd', hcap', Nat.le_refl _, hsm, HL3.out.1, HL3.out.2⟩
      obtain rfl : n' = n := by rw [← HQ.out.rd.1, ← HP.out.rd.1]
      obtain rfl : np' = np := by rw [← hrdq.1, ← HPR.out.1]
      have HCK := Lib.hid hck
      have HLV := Lib.hid (ck_lev hck)
      have HV3 := Lib.hid (Rd.below HVR.out HB3.out)
      have HRP : Hid (ReqAt W3 w.heap.size Aq np' Am nm ps ms) := Lib.hid ⟨RdJ.below pn_turns HPR.out HB3.out, Rd.below HMR.out HB3.out, hnp, hnm, hps, HB3.out.size⟩
      have HRQ : Hid (ReqAt W3 W3.heap.size Aq' np' Am nm ps ms) := Lib.hid ⟨hrdq, (Rd.below HMR.out HB3.out).more HB3.out.size, hnp, hnm, hps, Nat.le_refl _⟩
      clear hsm hss hcap' hrd' hck hnp hnm hps hpi hcapq hrdq
      by_cases h40 : 40 < m
      · have d1 : decide ((40 : Int) < (m : Int)) = true := by simp; omega
        go_wp2_with fail
        exact bodyPost_ret (results_tmp rfl _ _ _) rfl ⟨rfl, HB3.out⟩
      have d1 : decide ((40 : Int) < (m : Int)) = false := by simp; omega
      have HSZ := Lib.hid (size_any HQ.out (ck_rels HCK.out))
      obtain ⟨y0, _⟩ := row1f G3.out
      by_cases h15 : 1500 < szN l l.length
      · have d2 : decide ((1500 : Int) < ((szN l l.length : Nat) : Int)) = true := by simp; omega
        go_wp2_with fail
        refine HSZ.out.mono ?_
        rintro e w4 ⟨rfl, hb⟩
        go_wp2_with fail
        exact bodyPost_ret (results_tmp rfl _ _ _) rfl ⟨rfl, HB3.out.trans (hb.mono HB3.out.size)⟩
      have d2 : decide ((1500 : Int) < ((szN l l.length : Nat) : Int)) = false := by simp; omega
      go_wp2_with fail
      refine HSZ.out.mono ?_
      rintro e w4 ⟨rfl, hb⟩
      have HB4 : Hid (Below W3.heap.size W3 w4) := Lib.hid hb
      have HW4 : Hid (Below w.heap.size w w4) := Lib.hid (HB3.out.trans (hb.mono HB3.out.size))
      clear hb y0 HSZ
      have HCQ := Lib.hid (chkQ_any (c2 := c2) (cp := cp') (cm := cm) (HQ.out.below HB4.out) (HV3.out.below (HB4.out.mono HB3.out.size)) HW4.out.size (by omega) (HRQ.out.below HB4.out))
      obtain ⟨y0, _⟩ := row1f ((HB4.out.block z1.heap.size HZ3.out.1).trans G3.out)
      obtain ⟨v0, v1, _⟩ := row2 ((HB4.out.block z2.heap.size HZ3.out.2.1).trans J3.out)
      by_cases hcr : chkR l vs ps ms ≠ 0
      · have d3 : (chkR l vs ps ms != 0) = true := by rw [bne_iff_ne]; exact hcr
        go_wp2_with fail
        refine HCQ.out.mono ?_
        rintro e w5 ⟨rfl, hb⟩
        go_wp2_with fail
        exact bodyPost_ret (results_tmp rfl _ _ _) rfl ⟨rfl, HW4.out.trans (hb.mono HW4.out.size)⟩
      have hcr0 : chkR l vs ps ms = 0 := by omega
      have HCR := Lib.hid hcr0
      rw [hcr0] at HCQ
      clear hcr hcr0
      by_cases hb1 : b1 < 1
      · have d4 : decide (b1 < 1) = true := decide_eq_true hb1
        go_wp2_with fail
        refine HCQ.out.mono ?_
        rintro e w5 ⟨rfl, hb⟩
        go_wp2_with fail
        exact bodyPost_ret (results_tmp rfl _ _ _) rfl ⟨rfl, HW4.out.trans (hb.mono HW4.out.size)⟩
      have d4 : decide (b1 < 1) = false := decide_eq_false hb1
      by_cases hb2 : b2 < b1
      · have d5 : decide (b2 < b1) = true := decide_eq_true hb2
        go_wp2_with fail
        refine HCQ.out.mono ?_
        rintro e w5 ⟨rfl, hb⟩
        go_wp2_with fail
        exact bodyPost_ret (results_tmp rfl _ _ _) rfl ⟨rfl, HW4.out.trans (hb.mono HW4.out.size)⟩
      have d5 : decide (b2 < b1) = false := decide_eq_false hb2
      by_cases hb3 : 1048576 < b2
      · have d6 : decide (1048576 < b2) = true := decide_eq_true hb3
        go_wp2_with fail
        refine HCQ.out.mono ?_
        rintro e w5 ⟨rfl, hb⟩
        go_wp2_with fail
        exact bodyPost_ret (results_tmp rfl _ _ _) rfl ⟨rfl, HW4.out.trans (hb.mono HW4.out.size)⟩
      have d6 : decide (1048576 < b2) = false := decide_eq_false hb3
      have HBB : Hid (1 ≤ b1 ∧ b1 ≤ b2 ∧ b2 ≤ 1048576) := Lib.hid ⟨by omega, by omega, by omega⟩
      have HN : Hid (l.length = n') := Lib.hid HP.out.rd.1
      have hn16 := HP.out.n16
      have HC0 := Lib.hid (chkR_ok HCR.out)
      obtain rfl : nm = n' := by rw [← HRQ.out.md.len, ← HN.out]; exact HC0.out.2.2.1
      obtain rfl : m = nm := by rw [← HV3.out.len, ← HN.out]; exact (setB_iff.1 HC0.out.1).1
      clear hb1 hb2 hb3
      go_wp2_with fail
      refine HCQ.out.mono ?_
      rintro e w5 ⟨rfl, hb⟩
      have HB5 : Hid (Below W3.heap.size W3 w5) := Lib.hid (HB4.out.trans (hb.mono HB4.out.size))
      have HW5 : Hid (Below w.heap.size w w5) := Lib.hid (HW4.out.trans (hb.mono HW4.out.size))
      clear hb y0 v0 v1 HCQ
      have HS1 := Lib.hid (solve_any (c2 := c2) (cp := cp) (cm := cm) (b := b1) (HP.out.below HB5.out) HCK.out (HV3.out.below (HB5.out.mono HB3.out.size)) HW5.out.size (HRP.out.below HB5.out))
      obtain ⟨x0, _⟩ := row1f ((HB5.out.block w.heap.size (heapE_lt K3.out)).trans K3.out)
      obtain ⟨u0, u1, _⟩ := row2 ((HB5.out.block (w.heap.size + 1) (heapE_lt Q3.out)).trans Q3.out)
      go_wp2_with fail
      refine HS1.out.mono ?_
      rintro e w6 ho
      obtain ⟨At, nt, ct, rfl, hown, hne, hb⟩ := sol_one ho
      have HB6 : Hid (Below W3.heap.size W3 w6) := Lib.hid (HB5.out.trans (hb.mono HB5.out.size))
      have HW6 : Hid (Below w.heap.size w w6) := Lib.hid (HW5.out.trans (hb.mono HW5.out.size))
      have HOT := Lib.hid hown
      have HTL : Hid ((solR l vs ps ms b1).1.length = nt) := Lib.hid hown.len
      clear hb x0 u0 u1 HS1 ho hown hne
      have HS2 := Lib.hid (solve_any (c2 := c2) (cp := cp) (cm := cm) (b := b2) (HP.out.below HB6.out) HCK.out (HV3.out.below (HB6.out.mono HB3.out.size)) HW6.out.size (HRP.out.below HB6.out))
      obtain ⟨x0, _⟩ := row1f ((HB6.out.block w.heap.size (heapE_lt K3.out)).trans K3.out)
      obtain ⟨u0, u1, _⟩ := row2 ((HB6.out.block (w.heap.size + 1) (heapE_lt Q3.out)).trans Q3.out)
      go_wp2_with fail
      refine HS2.out.mono ?_
      rintro e w7 ho
      obtain ⟨Au, nu, cu, rfl, hown, hne, hb⟩ := sol_one ho
      have HB7 : Hid (Below W3.heap.size W3 w7) := Lib.hid (HB6.out.trans (hb.mono HB6.out.size))
      have HW7 : Hid (Below w.heap.size w w7) := Lib.hid (HW6.out.trans (hb.mono HW6.out.size))
      have HOU := Lib.hid hown
      have HUL : Hid ((solR l vs ps ms b2).1.length = nu) := Lib.hid hown.len
      have HOT7 := Lib.hid (HOT.out.kept hb)
      clear hb x0 u0 u1 HS2 ho hown hne HOT
      have HTQ := Lib.hid (triesQ_any (c := c') (c2 := c2) (cp := cp') (cm := cm) (c4 := 0) (A4 := none) (ch := []) (B4 := 0) (ck_rels HCK.out) HC0.out.1 HC0.out.2.2.2.1 HC0.out.2.2.1 m 0 (by omega) (HQ.out.below HB7.out) (HV3.out.below (HB7.out.mono HB3.out.size)) HW7.out.size (HRQ.out.below HB7.out) Rd.nil_ (Nat.zero_le _))
      rw [List.drop_zero] at HTQ
      have HSX : Hid (∀ b : Int, b1 ≤ b → b ≤ b2 → solR l vs ps ms b = if b < ((dfs (okS l ps) (ordsL l ms vs) []).1 : Int) then (([] : List Int), (41 : Int)) else match (dfs (okS l ps) (ordsL l ms vs) []).2 with | some t => (t, (0 : Int)) | none => (([] : List Int), (40 : Int))) := Lib.hid (fun b h1 h2 => by
        unfold solR
        rw [HCR.out, if_neg (by decide), if_neg (by have := HBB.out; omega)]; rfl)
      obtain ⟨T, HT⟩ : ∃ T, Hid (dfs (okS l ps) (ordsL l ms vs) [] = T) := ⟨_, Lib.hid rfl⟩
      rw [HT.out] at HTQ HSX
      obtain ⟨TN, HTN⟩ : ∃ q, Hid (T.1 = q) := ⟨_, Lib.hid rfl⟩
      rw [HTN.out] at HTQ HSX
      have HX1 := Lib.hid (HSX.out b1 (by omega) HBB.out.2.1)
      have HX2 := Lib.hid (HSX.out b2 HBB.out.2.1 (by omega))
      obtain ⟨X1, HXX1⟩ : ∃ X, Hid (solR l vs ps ms b1 = X) := ⟨_, Lib.hid rfl⟩
      rw [HXX1.out] at HX1 HOT7 HTL
      obtain ⟨X2, HXX2⟩ : ∃ X, Hid (solR l vs ps ms b2 = X) := ⟨_, Lib.hid rfl⟩
      rw [HXX2.out] at HX2 HOU HUL
      rw [HXX1.out, HXX2.out]
      obtain ⟨y0, _⟩ := row1f ((HB7.out.block z1.heap.size HZ3.out.1).trans G3.out)
      obtain ⟨v0, v1, _⟩ := row2 ((HB7.out.block z2.heap.size HZ3.out.2.1).trans J3.out)
      by_cases hbt : b1 < (TN : Int)
      · have d7 : decide (b1 < (TN : Int)) = true := decide_eq_true hbt
        have HXV : Hid (X1 = ([], 41)) := Lib.hid (by rw [HX1.out, if_pos hbt])
        have hx1 : X1.2 = 41 := by rw [HXV.out]
        obtain rfl : nt = 0 := by rw [← HTL.out, HXV.out]; rfl
        rw [hx1]
        clear hx1
        go_wp2_with fail
        refine HTQ.out.mono ?_
        rintro e w8 ⟨rfl, hb⟩
        go_wp2_with fail
        exact bodyPost_ret (results_tmp rfl _ _ _) rfl ⟨rfl, HW7.out.trans (hb.mono HW7.out.size)⟩
      have HE : Hid (X2 = X1) := Lib.hid (by rw [HX1.out, HX2.out, if_neg hbt, if_neg (by have := HBB.out; omega)])
      have HNE : Hid (X1.2 ≠ 41) := Lib.hid (by
        rw [HX1.out, if_neg hbt]
        split
        · exact fun h => absurd (show (0 : Int) = 41 from h) (by decide)
        · exact fun h => absurd h (by decide))
      have HL16 : Hid (X1.1.length ≤ 16) := Lib.hid (by
        rw [HX1.out, if_neg hbt]
        cases hT : T.2 with
        | none => exact Nat.zero_le _
        | some t =>
          have h := found_tgt (ps := ps) (ck_rels HCK.out) HCR.out (t := t) (by rw [HT.out]; exact hT)
          have h2 := (setB_iff.1 (tgtB_iff.1 h).1).1
          show t.length ≤ 16
          rw [h2, HN.out]; exact hn16)
      clear hbt
      rw [HE.out] at HOU HUL
      rw [HE.out]
      obtain ⟨xe, HXE⟩ : ∃ xe, Hid (X1.2 = xe) := ⟨_, Lib.hid rfl⟩
      rw [HXE.out] at HNE
      rw [HXE.out]
      have hne41 : (xe == 41) = false := by rw [beq_eq_false_iff_ne]; exact HNE.out
      have hee : (xe == xe) = true := by simp
      have hnt16 : nt ≤ 1000000 ∧ nu ≤ 1000000 := by
        have h := HL16.out
        rw [HTL.out] at h
        have h2 := HUL.out
        have h3 := HTL.out
        omega
      have HNT := Lib.hid hnt16
      clear hnt16
      go_wp2_with fail
      refine HTQ.out.mono ?_
      rintro e w8 ⟨rfl, hb⟩
      have HW8 : Hid (Below w.heap.size w w8) := Lib.hid (HW7.out.trans (hb.mono HW7.out.size))
      have HIN := Lib.hid (ints_same (c := ct) (d := cu) (Rd.of_own (HOT7.out.kept hb)) (Rd.of_own (HOU.out.kept hb)) HNT.out.1 HNT.out.2)
      clear hb y0 v0 v1 HTQ
      go_wp2_with fail
      refine HIN.out.mono ?_
      rintro e w9 ⟨rfl, hb⟩
      go_wp2_with fail
      exact bodyPost_ret (results_tmp rfl _ _ _) rfl ⟨rfl, HW8.out.trans (hb.mono HW8.out.size)⟩
end Go.Proofs.YtlodledcglleiaaGreat
