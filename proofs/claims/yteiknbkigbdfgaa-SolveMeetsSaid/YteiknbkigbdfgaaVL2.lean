/-
  SOLVEMEETS.
-/
import Derived.Test.YteiknbkigbdfgaaVAn
import Derived.Test.YteiknbkigbdfgaaCRg
import Derived.Test.YteiknbkigbdfgaaVPl
import Derived.Test.YteiknbkigbdfgaaVMt
import Derived.Test.YteiknbkigbdfgaaVQa
namespace Go.Proofs.Yteiknbkigbdfgaa
open Go.RowKit
open SemP FlP GaP DiP SeaP
set_option linter.unusedVariables false
set_option linter.unusedSimpArgs false
set_option maxRecDepth 10000
structure M7St (w0 : World) (A A2 Aq Am A1 A3 : Option Addr) (n c m c2 np cp nm cm c3 c4 : Nat) (R : Bool) (b0 b1 b2 b3 b4 b5 b6 b7 b8 b9 : Bool) (v6 v34 v35 v36 v37 v38 v39 v40 v41 v42 : Value) (w' : World) : Prop where
  bel : Below w0.heap.size w0 w'
  h0 : b0 = true → v34 = .agg #[.slice A n c]
  h1 : b1 = true → v35 = .agg #[.slice Aq np cp, .slice Am nm cm]
  h2 : b2 = true → v36 = .slice A2 m c2
  h3 : b3 = true → v37 = .bool R
  h4 : b4 = true → v38 = .agg #[.slice A1 n c3]
  h5 : b5 = true → v39 = .agg #[.slice A3 np c4, .slice Am nm cm]
  h6 : b6 = true → v40 = .slice A2 m c2
  h7 : b7 = true → v41 = .bool R
  h8 : b8 = true → v42 = .bool true
  h9 : b9 = true → v6 = .bool true
inductive M7J (w0 : World) (A A2 Aq Am A1 A3 : Option Addr) (n c m c2 np cp nm cm c3 c4 : Nat) (R : Bool) (p0 p1 p2 p3 p4 p5 p7 p8 p9 p10 p11 p12 p13 p14 p15 p16 p17 p18 p19 p20 p21 p22 p23 p24 p25 p26 p27 p28 p29 p30 p31 p32 p33 : Value) : Array Bool → Act → World → Prop where
  | mk (b0 b1 b2 b3 b4 b5 b6 b7 b8 b9 : Bool) (v6 v34 v35 v36 v37 v38 v39 v40 v41 v42 : Value) (w' : World) : M7St w0 A A2 Aq Am A1 A3 n c m c2 np cp nm cm c3 c4 R b0 b1 b2 b3 b4 b5 b6 b7 b8 b9 v6 v34 v35 v36 v37 v38 v39 v40 v41 v42 w' → M7J w0 A A2 Aq Am A1 A3 n c m c2 np cp nm cm c3 c4 R p0 p1 p2 p3 p4 p5 p7 p8 p9 p10 p11 p12 p13 p14 p15 p16 p17 p18 p19 p20 p21 p22 p23 p24 p25 p26 p27 p28 p29 p30 p31 p32 p33 #[b0, b1, b2, b3, b4, b5, b6, b7, b8, b9] { tmps := List.toArray (p0 :: p1 :: p2 :: p3 :: p4 :: p5 :: v6 :: p7 :: p8 :: p9 :: p10 :: p11 :: p12 :: p13 :: p14 :: p15 :: p16 :: p17 :: p18 :: p19 :: p20 :: p21 :: p22 :: p23 :: p24 :: p25 :: p26 :: p27 :: p28 :: p29 :: p30 :: p31 :: p32 :: p33 :: v34 :: v35 :: v36 :: v37 :: v38 :: v39 :: v40 :: v41 :: v42 :: []), defers := [] } w'
set_option maxHeartbeats 16000000 in
theorem law_smeets {w : World} {n c : Nat} {A : Option Addr} {l : List Sv} {A2 : Option Addr} {m c2 : Nat} {vs : List Int} {Aq Am : Option Addr} {np cp nm cm : Nat} {ps : List Nd} {ms : List Int} (hr : RdJ 2 svI w (fun b => w.heap.size ≤ b) A n l) (hcap : CapA A n c) (hvr : Rd w w.heap.size A2 m vs) (hvc : CapA A2 m c2) (hpr : RdJ 2 pnI w (fun b => w.heap.size ≤ b) Aq np ps) (hmr : Rd w w.heap.size Am nm ms) (hm : LenAt w) (h1 : 1 < w.heap.size) :
    Calls Try.prog 5 #[.agg #[.slice A n c], .agg #[.slice Aq np cp, .slice Am nm cm], .slice A2 m c2] w fun e w' => e = .returned (.bool true) ∧ Below w.heap.size w w' := by
  have HR := Lib.hid hr
  have HC := Lib.hid hcap
  have HVR := Lib.hid hvr
  have HVC := Lib.hid hvc
  have HPR := Lib.hid hpr
  have HMR := Lib.hid hmr
  obtain ⟨W, HW⟩ : ∃ W, Hid (W = (w.alloc (.cells #[.slice A n c] 24)).alloc (.cells #[.slice Aq np cp, .slice Am nm cm] 55)) := ⟨_, Lib.hid rfl⟩
  have hbW : Below w.heap.size w W := by rw [HW.out]; exact ((Below.refl _ w).alloc (Nat.le_refl _) _).alloc (by simp) _
  have H0 : Hid (W.heap[w.heap.size]? = some (.cells #[.slice A n c] 24 (0, 0))) := Lib.hid (by
    rw [HW.out, Below.heap_alloc _ _ _ (by simp)]; exact heap_new w _)
  have H1 : Hid (W.heap[w.heap.size + 1]? = some (.cells #[.slice Aq np cp, .slice Am nm cm] 55 (0, 0))) := Lib.hid (by
    rw [HW.out]
    have h := heap_new (w.alloc (.cells #[.slice A n c] 24)) (.cells #[.slice Aq np cp, .slice Am nm cm] 55)
    rw [World.size_alloc] at h; exact h)
  have HLW := Lib.hid (LenAt.below hm h1 hbW)
  have HBW := Lib.hid hbW
  have hsz := hbW.size
  clear hr hcap hvr hvc hpr hmr hm h1 hbW
  obtain ⟨x0, _⟩ := row1f H0.out
  obtain ⟨u0, u1, _⟩ := row2 H1.out
  have HAN := Lib.hid (sanchor_any W HLW.out.1 HLW.out.2)
  go_enter Try.func5, Try.ntmps5
  go_upto_region 1 with fail
  change Code.wp _ _ _ _ ((w.alloc (.cells #[.slice A n c] 24)).alloc (.cells #[.slice Aq np cp, .slice Am nm cm] 55))
  rw [← HW.out]
  go_wp2_with fail
  refine HAN.out.mono ?_
  rintro e w1 ⟨rfl, hb⟩
  have HB1 : Hid (Below w.heap.size w w1) := Lib.hid (HBW.out.trans (hb.mono hsz))
  have HL1 := Lib.hid (LenAt.below HLW.out.1 HLW.out.2 hb)
  have K1 : Hid (w1.heap[w.heap.size]? = _) := Lib.hid ((hb.block w.heap.size (heapE_lt H0.out)).trans H0.out)
  have Q1 : Hid (w1.heap[w.heap.size + 1]? = _) := Lib.hid ((hb.block (w.heap.size + 1) (heapE_lt H1.out)).trans H1.out)
  clear hb x0 u0 u1 HAN
  obtain ⟨x0, _⟩ := row1f K1.out
  have HMC := Lib.hid (right_any (c := c) (RdJ.below sv_turns HR.out HB1.out) HB1.out.size HL1.out.1 HL1.out.2)
  go_wp2_with fail
  refine HMC.out.mono ?_
  rintro e z1 ⟨A', n', c', ok, rfl, hb, hit⟩
  obtain ⟨W2, HW2⟩ : ∃ W2, Hid (W2 = z1.alloc (.cells #[.slice A' n' c'] 28)) := ⟨_, Lib.hid rfl⟩
  have hb2 : Below z1.heap.size z1 W2 := by rw [HW2.out]; exact (Below.refl _ z1).alloc (Nat.le_refl _) _
  have J2 : Hid (W2.heap[z1.heap.size]? = some (.cells #[.slice A' n' c'] 28 (0, 0))) := Lib.hid (by rw [HW2.out]; exact heap_new z1 _)
  have hb12 : Below w1.heap.size w1 W2 := hb.trans (hb2.mono hb.size)
  have HB2 : Hid (Below w.heap.size w W2) := Lib.hid (HB1.out.trans (hb12.mono HB1.out.size))
  have HL2 := Lib.hid (LenAt.below HL1.out.1 HL1.out.2 hb12)
  have K2 : Hid (W2.heap[w.heap.size]? = _) := Lib.hid ((hb12.block w.heap.size (heapE_lt K1.out)).trans K1.out)
  have Q2 : Hid (W2.heap[w.heap.size + 1]? = _) := Lib.hid ((hb12.block (w.heap.size + 1) (heapE_lt Q1.out)).trans Q1.out)
  have HZ1 : Hid (w1.heap.size ≤ z1.heap.size) := Lib.hid hb.size
  have HIT := Lib.hid (fun h => And.intro (And.intro (hit h).1 (hit h).2.1) (ss_turns.kept (hit h).2.2 hb2))
  clear hb hb2 hb12 hit x0 HMC
  go_upto_region 4 with fail
  change Code.wp _ _ _ _ (z1.alloc (.cells #[.slice A' n' c'] 28))
  rw [← HW2.out]
  obtain ⟨u0, u1, _⟩ := row2 Q2.out
  have HPL := Lib.hid (plain_any (cp := cp) (nm := nm) (cm := cm) (Am := Am) (RdJ.below pn_turns HPR.out HB2.out) HB2.out.size)
  go_wp2_with fail
  refine HPL.out.mono ?_
  rintro e z2 ⟨Aq', np', cp', is, rfl, hb, hit⟩
  obtain ⟨W3, HW3⟩ : ∃ W3, Hid (W3 = z2.alloc (.cells #[.slice Aq' np' cp', .slice Am nm cm] 58)) := ⟨_, Lib.hid rfl⟩
  have hb2 : Below z2.heap.size z2 W3 := by rw [HW3.out]; exact (Below.refl _ z2).alloc (Nat.le_refl _) _
  have J3 : Hid (W3.heap[z2.heap.size]? = some (.cells #[.slice Aq' np' cp', .slice Am nm cm] 58 (0, 0))) := Lib.hid (by rw [HW3.out]; exact heap_new z2 _)
  have hb12 : Below W2.heap.size W2 W3 := hb.trans (hb2.mono hb.size)
  have HB3 : Hid (Below w.heap.size w W3) := Lib.hid (HB2.out.trans (hb12.mono HB2.out.size))
  have HL3 := Lib.hid (LenAt.below HL2.out.1 HL2.out.2 hb12)
  have K3 : Hid (W3.heap[w.heap.size]? = _) := Lib.hid ((hb12.block w.heap.size (heapE_lt K2.out)).trans K2.out)
  have Q3 : Hid (W3.heap[w.heap.size + 1]? = _) := Lib.hid ((hb12.block (w.heap.size + 1) (heapE_lt Q2.out)).trans Q2.out)
  have G3 : Hid (W3.heap[z1.heap.size]? = _) := Lib.hid ((hb12.block z1.heap.size (heapE_lt J2.out)).trans J2.out)
  have HIT3 := Lib.hid (fun h => And.intro (HIT.out h).1 (ss_turns.kept (HIT.out h).2 hb12))
  have HIP := Lib.hid (fun h => And.intro (And.intro (hit h).1 (hit h).2.1) (And.intro (hit h).2.2.1 (ps_turns.kept (hit h).2.2.2 hb2)))
  have HZ3 : Hid (z1.heap.size < W3.heap.size ∧ z2.heap.size < W3.heap.size ∧ w.heap.size + 1 < z1.heap.size ∧ W2.heap.size ≤ z2.heap.size) := Lib.hid ⟨heapE_lt G3.out, heapE_lt J3.out, by
    have h := hb.size
    have h2 : W2.heap.size = z1.heap.size + 1 := by rw [HW2.out, World.size_alloc]
    have h3 := HB1.out.size
    have h4 := heapE_lt Q2.out
    have h5 := heapE_lt Q1.out
    have h6 := HB2.out.size
    have h7 := HZ1.out
    omega, hb.size⟩
  clear hb hb2 hb12 hit u0 u1 HPL HIT
  go_upto_region 5 with fail
  change Code.wp _ _ _ _ (z2.alloc (.cells #[.slice Aq' np' cp', .slice Am nm cm] 58))
  rw [← HW3.out]
  cases ok with
  | false =>
    go_wp2_with fail
    exact bodyPost_ret (results_tmp rfl _ _ _) rfl ⟨rfl, HB3.out⟩
  | true =>
    cases is with
    | false =>
      go_wp2_with fail
      exact bodyPost_ret (results_tmp rfl _ _ _) rfl ⟨rfl, HB3.out⟩
    | true =>
      obtain ⟨⟨hck, hsm⟩, hss⟩ := HIT3.out rfl
      obtain ⟨⟨hnp, hnm⟩, hps, hpi⟩ := HIP.out rfl
      obtain ⟨hcap', hrd'⟩ := (ss_turns.go hss (FrM.refl W3 _) (M' := fun b => W3.heap.size ≤ b) (fun b hb => .inr hb)).rd
      obtain ⟨hcapq, hrdq⟩ := (ps_turns.go hpi (FrM.refl W3 _) (M' := fun b => W3.heap.size ≤ b) (fun b hb => .inr hb)).rd
      have HP : Hid (CatAt W3 w.heap.size A n c l) := Lib.hid ⟨RdJ.below sv_turns HR.out HB3.out, HC.out, HB3.out.size, hsm, HL3.out.1, HL3.out.2⟩
      have HQ : Hid (CatAt W3 W3.heap.size A' n' c' l) := Lib.hid ⟨hrd', hcap', Nat.le_refl _, hsm, HL3.out.1, HL3.out.2⟩
      obtain rfl : n' = n := by rw [← HQ.out.rd.1, ← HP.out.rd.1]
      obtain rfl : np' = np := by rw [← hrdq.1, ← HPR.out.1]
      have HCK := Lib.hid hck
      have HLV := Lib.hid (ck_lev hck)
      have HV3 := Lib.hid (Rd.below HVR.out HB3.out)
      have HRP : Hid (ReqAt W3 w.heap.size Aq np' Am nm ps ms) := Lib.hid ⟨RdJ.below pn_turns HPR.out HB3.out, Rd.below HMR.out HB3.out, hnp, hnm, hps, HB3.out.size⟩
      have HRQ : Hid (ReqAt W3 W3.heap.size Aq' np' Am nm ps ms) := Lib.hid ⟨hrdq, (Rd.below HMR.out HB3.out).more HB3.out.size, hnp, hnm, hps, Nat.le_refl _⟩
      clear hsm hss hcap' hrd' hck hnp hnm hps hpi hcapq hrdq
      by_cases h40 : 40 < m
      · have d1 : decide ((40 : Int) < (m : Int)) = true := by simp; omega
        go_wp2_with fail
        exact bodyPost_ret (results_tmp rfl _ _ _) rfl ⟨rfl, HB3.out⟩
      have d1 : decide ((40 : Int) < (m : Int)) = false := by simp; omega
      go_upto_region 7 with fail
      refine wp_region_inv (by kernel_rfl) (I := M7J W3 A A2 Aq Am A' Aq' n' c m c2 np' cp nm cm c' cp' (tgtB l ps vs) _ _ _ _ _ _ _ _ _ _ _ _ _ _ _ _ _ _ _ _ _ _ _ _ _ _ _ _ _ _ _ _ _) (.mk false false false false false false false false false false _ _ _ _ _ _ _ _ _ _ _ ⟨(Below.refl _ W3).drew, nofun, nofun, nofun, nofun, nofun, nofun, nofun, nofun, nofun, nofun⟩) ?step ?fin
      case step =>
        rintro lq a' w' ix ⟨b0, b1, b2, b3, b4, b5, b6, b7, b8, b9, v6, v34, v35, v36, v37, v38, v39, v40, v41, v42, _, HT⟩ hi
        obtain ⟨hi_, hib⟩ := ready_lt hi
        have HTH := Lib.hid HT
        match ix, hi_, hi, hib with
        | 0, _, hi, hib =>
          have q0 := ((HTH.out.bel.cell (p := ⟨w.heap.size, 0, none⟩) ((heapE_lt K3.out)))).trans (row1f K3.out).1
          clear HT
          refine wpOp_one rfl rfl (fun K hK => ?_)
          go_simp
          exact hK.out _ _ (.mk true b1 b2 b3 b4 b5 b6 b7 b8 b9 _ _ _ _ _ _ _ _ _ _ _ { HTH.out with h0 := fun _ => rfl })
        | 1, _, hi, hib =>
          have q0 := ((HTH.out.bel.cell (p := ⟨w.heap.size + 1, 0, none⟩) ((heapE_lt Q3.out)))).trans (row2 Q3.out).1
          have q1 := ((HTH.out.bel.cell (p := ⟨w.heap.size + 1, 1, none⟩) ((heapE_lt Q3.out)))).trans (row2 Q3.out).2.1
          clear HT
          refine wpOp_one rfl rfl (fun K hK => ?_)
          go_simp
          exact hK.out _ _ (.mk b0 true b2 b3 b4 b5 b6 b7 b8 b9 _ _ _ _ _ _ _ _ _ _ _ { HTH.out with h1 := fun _ => rfl })
        | 2, _, hi, hib =>
          clear HT
          refine wpOp_one rfl rfl (fun K hK => ?_)
          go_simp
          exact hK.out _ _ (.mk b0 b1 true b3 b4 b5 b6 b7 b8 b9 _ _ _ _ _ _ _ _ _ _ _ { HTH.out with h2 := fun _ => rfl })
        | 3, _, hi, hib =>
          have d0 : b0 = true := ready_dep hi rfl 0 (by kernel_rfl)
          have hd0 := HT.h0 d0
          subst hd0
          have d1 : b1 = true := ready_dep hi rfl 1 (by kernel_rfl)
          have hd1 := HT.h1 d1
          subst hd1
          have d2 : b2 = true := ready_dep hi rfl 2 (by kernel_rfl)
          have hd2 := HT.h2 d2
          subst hd2
          have HC := Lib.hid (meets_any (c2 := c2) (cp := cp) (cm := cm) (HP.out.below HTH.out.bel) HLV.out (HV3.out.below (HTH.out.bel.mono HB3.out.size)) (Nat.le_trans HB3.out.size HTH.out.bel.size) HVC.out (HRP.out.below HTH.out.bel))
          clear HT
          refine wpOp_one rfl rfl (fun K hK => ?_)
          go_simp
          refine HC.out.mono ?_
          rintro e w2 ⟨rfl, hb⟩
          exact hK.out _ _ (.mk b0 b1 b2 true b4 b5 b6 b7 b8 b9 _ _ _ _ _ _ _ _ _ _ _ { HTH.out with bel := HTH.out.bel.trans (hb.mono HTH.out.bel.size), h3 := fun _ => rfl })
        | 4, _, hi, hib =>
          have q0 := ((HTH.out.bel.cell (p := ⟨z1.heap.size, 0, none⟩) (HZ3.out.1))).trans (row1f G3.out).1
          clear HT
          refine wpOp_one rfl rfl (fun K hK => ?_)
          go_simp
          exact hK.out _ _ (.mk b0 b1 b2 b3 true b5 b6 b7 b8 b9 _ _ _ _ _ _ _ _ _ _ _ { HTH.out with h4 := fun _ => rfl })
        | 5, _, hi, hib =>
          have q0 := ((HTH.out.bel.cell (p := ⟨z2.heap.size, 0, none⟩) (HZ3.out.2.1))).trans (row2 J3.out).1
          have q1 := ((HTH.out.bel.cell (p := ⟨z2.heap.size, 1, none⟩) (HZ3.out.2.1))).trans (row2 J3.out).2.1
          clear HT
          refine wpOp_one rfl rfl (fun K hK => ?_)
          go_simp
          exact hK.out _ _ (.mk b0 b1 b2 b3 b4 true b6 b7 b8 b9 _ _ _ _ _ _ _ _ _ _ _ { HTH.out with h5 := fun _ => rfl })
        | 6, _, hi, hib =>
          clear HT
          refine wpOp_one rfl rfl (fun K hK => ?_)
          go_simp
          exact hK.out _ _ (.mk b0 b1 b2 b3 b4 b5 true b7 b8 b9 _ _ _ _ _ _ _ _ _ _ _ { HTH.out with h6 := fun _ => rfl })
        | 7, _, hi, hib =>
          have d4 : b4 = true := ready_dep hi rfl 4 (by kernel_rfl)
          have hd4 := HT.h4 d4
          subst hd4
          have d5 : b5 = true := ready_dep hi rfl 5 (by kernel_rfl)
          have hd5 := HT.h5 d5
          subst hd5
          have d6 : b6 = true := ready_dep hi rfl 6 (by kernel_rfl)
          have hd6 := HT.h6 d6
          subst hd6
          have HC := Lib.hid (meetQ_any (c2 := c2) (cp := cp') (cm := cm) (HQ.out.below HTH.out.bel) (HV3.out.below (HTH.out.bel.mono HB3.out.size)) (Nat.le_trans HB3.out.size HTH.out.bel.size) (by omega) (HRQ.out.below HTH.out.bel))
          clear HT
          refine wpOp_one rfl rfl (fun K hK => ?_)
          go_simp
          refine HC.out.mono ?_
          rintro e w2 ⟨rfl, hb⟩
          exact hK.out _ _ (.mk b0 b1 b2 b3 b4 b5 b6 true b8 b9 _ _ _ _ _ _ _ _ _ _ _ { HTH.out with bel := HTH.out.bel.trans (hb.mono HTH.out.bel.size), h7 := fun _ => rfl })
        | 8, _, hi, hib =>
          have d3 : b3 = true := ready_dep hi rfl 3 (by kernel_rfl)
          have hd3 := HT.h3 d3
          subst hd3
          have d7 : b7 = true := ready_dep hi rfl 7 (by kernel_rfl)
          have hd7 := HT.h7 d7
          subst hd7
          clear HT
          refine wpOp_one rfl rfl (fun K hK => ?_)
          go_simp
          exact hK.out _ _ (.mk b0 b1 b2 b3 b4 b5 b6 b7 true b9 _ _ _ _ _ _ _ _ _ _ _ { HTH.out with h8 := fun _ => by simp })
        | 9, _, hi, hib =>
          have d8 : b8 = true := ready_dep hi rfl 8 (by kernel_rfl)
          have hd8 := HT.h8 d8
          subst hd8
          clear HT
          refine wpOp_one rfl rfl (fun K hK => ?_)
          go_simp
          exact hK.out _ _ (.mk b0 b1 b2 b3 b4 b5 b6 b7 b8 true _ _ _ _ _ _ _ _ _ _ _ { HTH.out with h9 := fun _ => rfl })
      case fin =>
        rintro lq a' w' ⟨b0, b1, b2, b3, b4, b5, b6, b7, b8, b9, v6, v34, v35, v36, v37, v38, v39, v40, v41, v42, _, HT⟩ hr
        obtain rfl : b0 = true := by
          cases b0 with
          | true => rfl
          | false => exact (ready_in 0 rfl rfl (by simp [Region.binds]) hr).elim
        obtain rfl : b1 = true := by
          cases b1 with
          | true => rfl
          | false => exact (ready_in 1 rfl rfl (by simp [Region.binds]) hr).elim
        obtain rfl : b2 = true := by
          cases b2 with
          | true => rfl
          | false => exact (ready_in 2 rfl rfl (by simp [Region.binds]) hr).elim
        obtain rfl : b3 = true := by
          cases b3 with
          | true => rfl
          | false => exact (ready_in 3 rfl rfl (by simp [Region.binds]) hr).elim
        obtain rfl : b4 = true := by
          cases b4 with
          | true => rfl
          | false => exact (ready_in 4 rfl rfl (by simp [Region.binds]) hr).elim
        obtain rfl : b5 = true := by
          cases b5 with
          | true => rfl
          | false => exact (ready_in 5 rfl rfl (by simp [Region.binds]) hr).elim
        obtain rfl : b6 = true := by
          cases b6 with
          | true => rfl
          | false => exact (ready_in 6 rfl rfl (by simp [Region.binds]) hr).elim
        obtain rfl : b7 = true := by
          cases b7 with
          | true => rfl
          | false => exact (ready_in 7 rfl rfl (by simp [Region.binds]) hr).elim
        obtain rfl : b8 = true := by
          cases b8 with
          | true => rfl
          | false => exact (ready_in 8 rfl rfl (by simp [Region.binds]) hr).elim
        obtain rfl : b9 = true := by
          cases b9 with
          | true => rfl
          | false => exact (ready_in 9 rfl rfl (by simp [Region.binds]) hr).elim
        have k0 := HT.h0 rfl
        subst k0
        have k1 := HT.h1 rfl
        subst k1
        have k2 := HT.h2 rfl
        subst k2
        have k3 := HT.h3 rfl
        subst k3
        have k4 := HT.h4 rfl
        subst k4
        have k5 := HT.h5 rfl
        subst k5
        have k6 := HT.h6 rfl
        subst k6
        have k7 := HT.h7 rfl
        subst k7
        have k8 := HT.h8 rfl
        subst k8
        have k9 := HT.h9 rfl
        subst k9
        go_wp2_with fail
        exact bodyPost_ret (results_tmp rfl _ _ _) rfl ⟨rfl, HB3.out.trans (HT.bel.mono HB3.out.size)⟩
end Go.Proofs.Yteiknbkigbdfgaa
