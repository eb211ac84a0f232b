/-
  PlanMakes, over this translation (printed by genpl1.py).
-/
import Derived.Test.YtminihiecloglaaGreatPZa
import Derived.Test.YtminihiecloglaaGreatPAn
namespace Go.Proofs.YtminihiecloglaaGreat
open Go.RowKit
open SemP FlP GaP DiP
set_option linter.unusedVariables false
set_option linter.unusedSimpArgs false
set_option maxRecDepth 10000
/-- What a plan that was made bears; nothing where none was. -/
def mkF {α : Type} (l : List Sv) (fs ts : List Int) (x : List α) : List α := if makeE l fs ts = 0 then x else []
theorem mkF_yes {α : Type} {l : List Sv} {fs ts : List Int} {x : List α} (h : makeE l fs ts = 0) : mkF l fs ts x = x := if_pos h
theorem mkF_no {α : Type} {l : List Sv} {fs ts : List Int} {x : List α} (h : makeE l fs ts ≠ 0) : mkF l fs ts x = [] := if_neg h
theorem RdS.nil_ (w : World) (B : Nat) : RdS w B none 0 [] := ⟨rfl, fun j h => absurd h (by omega)⟩
theorem Rd.of_F {w : World} {base n c : Nat} {A : Option Addr} {xs : List Int} (h : OwnF 3 1 inF w base (.slice A n c) xs) : Rd w w.heap.size A n xs := by
  have hn : xs.length = n := by obtain ⟨_, _, e⟩ := h.shape; injection e with _ e _; exact e.symm
  obtain ⟨_, _, e, hr⟩ := (own_of_F h hn).shape
  injection e with e1 e2 e3
  subst e1
  exact hr
theorem makeP_any {w : World} {B B2 B3 n c m c2 m3 c3 : Nat} {A A2 A3 : Option Addr} {l : List Sv} {fs ts : List Int} (h : CatAt w B A n c l) (hlv : LevOK l) (hf : Rd w B2 A2 m fs) (ht : Rd w B3 A3 m3 ts) (hB2 : B2 ≤ w.heap.size) (hB3 : B3 ≤ w.heap.size) (hm : m ≤ 64) (hm3 : m3 ≤ 64) :
    Calls Tryz.prog 13 #[.agg #[.slice A n c], .slice A2 m c2, .slice A3 m3 c3] w fun e w' => Below w.heap.size w w' ∧ ∃ (AF AT AS AE : Option Addr) (nF cF nT cT nS cS nE cE : Nat), e = .returned (.tuple #[.agg #[.slice AF nF cF, .slice AT nT cT, .slice AS nS cS, .slice AE nE cE], .int .i64 (makeE l fs ts)]) ∧
      Rd w' w'.heap.size AF nF (mkF l fs ts fs) ∧ Rd w' w'.heap.size AT nT (mkF l fs ts ts) ∧ RdS w' w'.heap.size AS nS (mkF l fs ts (stL l fs ts)) ∧ RdEg w' w'.heap.size AE nE (mkF l fs ts (befP l fs ts (stL l fs ts))) := by
  refine (make_any (c := c) (c2 := c2) (c3 := c3) h hlv hf ht hB2 hB3 hm hm3).mono ?_
  rintro e w' ⟨hb, ho⟩
  refine ⟨hb, ?_⟩
  rcases ho with ⟨hne, rfl⟩ | ⟨h0, v, rfl, hp⟩
  · exact ⟨none, none, none, none, 0, 0, 0, 0, 0, 0, 0, 0, rfl, by rw [mkF_no hne]; exact Rd.nil_, by rw [mkF_no hne]; exact Rd.nil_, by rw [mkF_no hne]; exact RdS.nil_ _ _, by rw [mkF_no hne]; exact OwnF.edg (OwnF.nil_ 91 2 egF w' 0)⟩
  · obtain ⟨AF, AT, AS, AE, m, cF, cT, N, cS, M, cE, rfl, _, _, o1, o2, o3, o4⟩ := hp.ex
    exact ⟨AF, AT, AS, AE, m, cF, m, cT, N, cS, M, cE, by rw [h0], by rw [mkF_yes h0]; exact Rd.of_F o1, by rw [mkF_yes h0]; exact Rd.of_F o2, by rw [mkF_yes h0]; exact o3.rdS, by rw [mkF_yes h0]; exact o4.edg⟩
theorem makeR_any {w : World} {B B2 B3 n c m c2 m3 c3 : Nat} {A A2 A3 : Option Addr} {l : List Sv} {fs ts : List Int} (h : CatAt w B A n c l) (hlv : LevOK l) (hf : Rd w B2 A2 m fs) (ht : Rd w B3 A3 m3 ts) (hB2 : B2 ≤ w.heap.size) (hB3 : B3 ≤ w.heap.size) (hm : m ≤ 64) (hm3 : m3 ≤ 64) :
    Calls Tryz.prog 14 #[.agg #[.slice A n c], .slice A2 m c2, .slice A3 m3 c3] w fun e w' => Below w.heap.size w w' ∧ ∃ (AF AT AS AE : Option Addr) (nF cF nT cT nS cS nE cE : Nat), e = .returned (.tuple #[.agg #[.slice AF nF cF, .slice AT nT cT, .slice AS nS cS, .slice AE nE cE], .int .i64 (makeE l fs ts)]) ∧
      Rd w' w'.heap.size AF nF (mkF l fs ts fs) ∧ Rd w' w'.heap.size AT nT (mkF l fs ts ts) ∧ RdS w' w'.heap.size AS nS (mkF l fs ts (stL l fs ts)) ∧ RdEg w' w'.heap.size AE nE (mkF l fs ts (befP l fs ts (stL l fs ts))) := by
  refine (makeQ_any (c := c) (c2 := c2) (c3 := c3) h hlv hf ht hB2 hB3 hm hm3).mono ?_
  rintro e w' ⟨hb, ho⟩
  refine ⟨hb, ?_⟩
  rcases ho with ⟨hne, rfl⟩ | ⟨h0, AS, N, cS, AE, M, cE, rfl, o3, o4⟩
  · exact ⟨none, none, none, none, 0, 0, 0, 0, 0, 0, 0, 0, rfl, by rw [mkF_no hne]; exact Rd.nil_, by rw [mkF_no hne]; exact Rd.nil_, by rw [mkF_no hne]; exact RdS.nil_ _ _, by rw [mkF_no hne]; exact OwnF.edg (OwnF.nil_ 91 2 egF w' 0)⟩
  · exact ⟨A2, A3, AS, AE, m, c2, m3, c3, N, cS, M, cE, by rw [h0], by rw [mkF_yes h0]; exact (hf.below (hb.mono hB2)).more (Nat.le_trans hB2 hb.size), by rw [mkF_yes h0]; exact (ht.below (hb.mono hB3)).more (Nat.le_trans hB3 hb.size), by rw [mkF_yes h0]; exact o3.rdG, by rw [mkF_yes h0]; exact o4.edg⟩
theorem makeE_okM {l : List Sv} {fs ts : List Int} (h : makeE l fs ts = 0) : chkE l fs ts = 0 := by
  unfold makeE at h
  by_cases h1 : chkE l fs ts = 0
  · exact h1
  · rw [if_neg h1] at h; exact absurd h h1
theorem mk_len {l : List Sv} {fs ts : List Int} (hl : l.length ≤ 12) (hf : fs.length ≤ 30) (ht : ts.length ≤ 30) : (mkF l fs ts fs).length ≤ 30 ∧ (mkF l fs ts ts).length ≤ 30 ∧ (mkF l fs ts (stL l fs ts)).length ≤ 40 ∧ (mkF l fs ts (befP l fs ts (stL l fs ts))).length ≤ 200 := by
  by_cases h : makeE l fs ts = 0
  · rw [mkF_yes h, mkF_yes h, mkF_yes h, mkF_yes h]
    have hc := makeE_okM h
    have hfl : fs.length ≤ 12 := by rw [(setB_iff.1 (chkE_ok hc).1).1]; exact hl
    refine ⟨hf, ht, ?_, ?_⟩
    · have := stK_len l fs ts fs.length
      unfold stL; omega
    · have h1 := bef_len (l := l) (ts := ts) (show fs.length ≤ 16 by omega)
      have h2 : fs.length * (fs.length + 2) ≤ 12 * 14 := Nat.mul_le_mul hfl (by omega)
      omega
  · rw [mkF_no h, mkF_no h, mkF_no h, mkF_no h]; simp
set_option maxHeartbeats 16000000 in
theorem law_makes {w : World} {n c : Nat} {A : Option Addr} {l : List Sv} {A2 A3 : Option Addr} {m c2 m3 c3 : Nat} {fs ts : List Int} (hr : RdJ 2 svI w (fun b => w.heap.size ≤ b) A n l) (hcap : CapA A n c) (hf : Rd w w.heap.size A2 m fs) (ht : Rd w w.heap.size A3 m3 ts) (hm : LenAt w) (h1 : 1 < w.heap.size) :
    Calls Tryz.prog 3 #[.agg #[.slice A n c], .slice A2 m c2, .slice A3 m3 c3] w fun e w' => e = .returned (.bool true) ∧ Below w.heap.size w w' := by
  have HR := Lib.hid hr
  have HC := Lib.hid hcap
  have HF := Lib.hid hf
  have HT := Lib.hid ht
  obtain ⟨W, HW⟩ : ∃ W, Hid (W = w.alloc (.cells #[.slice A n c] 24)) := ⟨_, Lib.hid rfl⟩
  have hbW : Below w.heap.size w W := by rw [HW.out]; exact (Below.refl _ w).alloc (Nat.le_refl _) _
  have H0 : Hid (W.heap[w.heap.size]? = some (.cells #[.slice A n c] 24 (0, 0))) := Lib.hid (by rw [HW.out]; exact heap_new w _)
  have HLW := Lib.hid (LenAt.below hm h1 hbW)
  have HBW := Lib.hid hbW
  have hsz := hbW.size
  clear hr hcap hf ht hm h1 hbW
  obtain ⟨x0, _⟩ := row1f H0.out
  have HAN := Lib.hid (panchor_any W HLW.out.1 HLW.out.2)
  go_enter Tryz.func3, Tryz.ntmps3
  go_upto_region 1 with fail
  change Code.wp _ _ _ _ (w.alloc (.cells #[.slice A n c] 24))
  rw [← HW.out]
  go_wp2_with fail
  refine HAN.out.mono ?_
  rintro e w1 ⟨rfl, hb⟩
  have HB1 : Hid (Below w.heap.size w w1) := Lib.hid (HBW.out.trans (hb.mono hsz))
  have HL1 := Lib.hid (LenAt.below HLW.out.1 HLW.out.2 hb)
  have K1 : Hid (w1.heap[w.heap.size]? = _) := Lib.hid ((hb.block w.heap.size (heapE_lt H0.out)).trans H0.out)
  clear hb x0 HAN
  obtain ⟨x0, _⟩ := row1f K1.out
  have HMC := Lib.hid (right_any (c := c) (RdJ.below sv_turns HR.out HB1.out) HB1.out.size HL1.out.1 HL1.out.2)
  go_wp2_with fail
  refine HMC.out.mono ?_
  rintro e z1 ⟨A', n', c', ok, rfl, hb, hit⟩
  obtain ⟨W2, HW2⟩ : ∃ W2, Hid (W2 = z1.alloc (.cells #[.slice A' n' c'] 29)) := ⟨_, Lib.hid rfl⟩
  have hb2 : Below z1.heap.size z1 W2 := by rw [HW2.out]; exact (Below.refl _ z1).alloc (Nat.le_refl _) _
  have J2 : Hid (W2.heap[z1.heap.size]? = some (.cells #[.slice A' n' c'] 29 (0, 0))) := Lib.hid (by rw [HW2.out]; exact heap_new z1 _)
  have hb12 : Below w1.heap.size w1 W2 := hb.trans (hb2.mono hb.size)
  have HB2 : Hid (Below w.heap.size w W2) := Lib.hid (HB1.out.trans (hb12.mono HB1.out.size))
  have HL2 := Lib.hid (LenAt.below HL1.out.1 HL1.out.2 hb12)
  have K2 : Hid (W2.heap[w.heap.size]? = _) := Lib.hid ((hb12.block w.heap.size (heapE_lt K1.out)).trans K1.out)
  have HIT := Lib.hid (fun h => And.intro (hit h).1 (And.intro (hit h).2.1 (ss_turns.kept (hit h).2.2 hb2)))
  clear hb hb2 hb12 hit x0 HMC
  go_upto_region 4 with fail
  change Code.wp _ _ _ _ (z1.alloc (.cells #[.slice A' n' c'] 29))
  rw [← HW2.out]
  cases ok with
  | false =>
    go_wp2_with fail
    refine bodyPost_ret (results_tmp rfl _ _ _) rfl ⟨rfl, HB2.out⟩
  | true =>
    obtain ⟨hck, hsm, hss⟩ := HIT.out rfl
    obtain ⟨hcap', hrd'⟩ := (ss_turns.go hss (FrM.refl W2 _) (M' := fun b => W2.heap.size ≤ b) (fun b hb => .inr hb)).rd
    have HP : Hid (CatAt W2 w.heap.size A n c l) := Lib.hid ⟨RdJ.below sv_turns HR.out HB2.out, HC.out, HB2.out.size, hsm, HL2.out.1, HL2.out.2⟩
    have HQ : Hid (CatAt W2 W2.heap.size A' n' c' l) := Lib.hid ⟨hrd', hcap', Nat.le_refl _, hsm, HL2.out.1, HL2.out.2⟩
    have HLV := Lib.hid (ck_lev hck)
    have HL12 : Hid (l.length ≤ 12) := Lib.hid (ck_len hck).2
    have HCK := Lib.hid hck
    clear hck hsm hss hcap' hrd' HIT
    by_cases hm30 : (30 : Int) < (m : Int)
    · have d1 : decide ((30 : Int) < (m : Int)) = true := decide_eq_true hm30
      go_wp2_with fail
      refine bodyPost_ret (results_tmp rfl _ _ _) rfl ⟨rfl, HB2.out⟩
    have d1 : decide ((30 : Int) < (m : Int)) = false := decide_eq_false hm30
    by_cases hm31 : (30 : Int) < (m3 : Int)
    · have d2 : decide ((30 : Int) < (m3 : Int)) = true := decide_eq_true hm31
      go_wp2_with fail
      refine bodyPost_ret (results_tmp rfl _ _ _) rfl ⟨rfl, HB2.out⟩
    have d2 : decide ((30 : Int) < (m3 : Int)) = false := decide_eq_false hm31
    have HMK := Lib.hid (makeP_any (c := c) (c2 := c2) (c3 := c3) HP.out HLV.out (HF.out.below HB2.out) (HT.out.below HB2.out) HB2.out.size HB2.out.size (by omega) (by omega))
    have HLN := Lib.hid (mk_len (ts := ts) HL12.out (by rw [HF.out.len]; omega) (by rw [HT.out.len]; omega))
    have M1 := Lib.hid (show m ≤ 64 by omega)
    have M2 := Lib.hid (show m3 ≤ 64 by omega)
    obtain ⟨ME, HME⟩ : ∃ q, Hid (makeE l fs ts = q) := ⟨_, Lib.hid rfl⟩
    rw [HME.out] at HMK
    obtain ⟨x0, _⟩ := row1f K2.out
    go_wp2_with fail
    refine HMK.out.mono ?_
    rintro e w3 ⟨hb, AF, AT, AS, AE, nF, cF, nT, cT, nS, cS, nE, cE, rfl, r1, r2, r3, r4⟩
    have HB3 : Hid (Below w.heap.size w w3) := Lib.hid (HB2.out.trans (hb.mono HB2.out.size))
    obtain ⟨P1, HP1⟩ : ∃ P1, Hid (P1 = w3.alloc (.cells #[.slice AF nF cF, .slice AT nT cT, .slice AS nS cS, .slice AE nE cE] 35)) := ⟨_, Lib.hid rfl⟩
    have HWP1 : Hid (Below w3.heap.size w3 P1) := Lib.hid (by rw [HP1.out]; exact (Below.refl _ w3).alloc (Nat.le_refl _) _)
    have KP1 : Hid (P1.heap[w3.heap.size]? = some (.cells #[.slice AF nF cF, .slice AT nT cT, .slice AS nS cS, .slice AE nE cE] 35 (0, 0))) := Lib.hid (by rw [HP1.out]; exact heap_new w3 _)
    have HBP : Hid (Below W2.heap.size W2 P1) := Lib.hid (hb.trans (HWP1.out.mono hb.size))
    have HBP1 : Hid (Below w.heap.size w P1) := Lib.hid (HB3.out.trans (HWP1.out.mono HB3.out.size))
    have J3 : Hid (P1.heap[z1.heap.size]? = _) := Lib.hid ((HBP.out.block z1.heap.size (heapE_lt J2.out)).trans J2.out)
    have R1 := Lib.hid (r1.below HWP1.out)
    have R2 := Lib.hid (r2.below HWP1.out)
    have R3 := Lib.hid (r3.below HWP1.out (Nat.le_refl _))
    have R4 := Lib.hid (r4.below HWP1.out)
    have HMQ := Lib.hid (makeR_any (w := P1) (c := c') (c2 := c2) (c3 := c3) (HQ.out.below HBP.out) HLV.out (HF.out.below HBP1.out) (HT.out.below HBP1.out) HBP1.out.size HBP1.out.size M1.out M2.out)
    rw [HME.out] at HMQ
    have L3 : Hid (w3.heap.size ≤ P1.heap.size) := Lib.hid HWP1.out.size
    clear hb r1 r2 r3 r4 x0 HMK
    obtain ⟨y0, _⟩ := row1f J3.out
    rw [HP1.out] at y0
    go_wp2_with fail
    try rw [← HP1.out]
    refine HMQ.out.mono ?_
    rintro e w4 ⟨hb, BF, BT, BS, BE, kF, dF, kT, dT, kS, dS, kE, dE, rfl, r1, r2, r3, r4⟩
    have HB4 := Lib.hid hb
    have HBW4 : Hid (Below w.heap.size w w4) := Lib.hid (HBP1.out.trans (hb.mono HBP1.out.size))
    obtain rfl : kF = nF := by rw [← r1.len, R1.out.len]
    obtain rfl : kT = nT := by rw [← r2.len, R2.out.len]
    obtain rfl : kS = nS := by rw [← r3.len, R3.out.len]
    obtain rfl : kE = nE := by rw [← r4.len, R4.out.len]
    obtain ⟨P2, HP2⟩ : ∃ P2, Hid (P2 = w4.alloc (.cells #[.slice BF kF dF, .slice BT kT dT, .slice BS kS dS, .slice BE kE dE] 41)) := ⟨_, Lib.hid rfl⟩
    have HWP2 : Hid (Below w4.heap.size w4 P2) := Lib.hid (by rw [HP2.out]; exact (Below.refl _ w4).alloc (Nat.le_refl _) _)
    have KP2 : Hid (P2.heap[w4.heap.size]? = some (.cells #[.slice BF kF dF, .slice BT kT dT, .slice BS kS dS, .slice BE kE dE] 41 (0, 0))) := Lib.hid (by rw [HP2.out]; exact heap_new w4 _)
    have HB12 : Hid (Below P1.heap.size P1 P2) := Lib.hid (hb.trans (HWP2.out.mono hb.size))
    have HBP2 : Hid (Below w.heap.size w P2) := Lib.hid (HBW4.out.trans (HWP2.out.mono HBW4.out.size))
    have KP12 : Hid (P2.heap[w3.heap.size]? = _) := Lib.hid ((HB12.out.block w3.heap.size (heapE_lt KP1.out)).trans KP1.out)
    have hb12 := HB12.out
    have hl3 := L3.out
    have HAK := Lib.hid (alike_yes (w := P2) (cF := cF) (cT := cT) (cS := cS) (cE := cE) (dF := dF) (dT := dT) (dS := dS) (dE := dE) (R1.out.below (hb12.mono hl3)) (R2.out.below (hb12.mono hl3)) (R3.out.below (hb12.mono hl3) hl3) (R4.out.below (hb12.mono hl3)) (r1.below HWP2.out) (r2.below HWP2.out) (r3.below HWP2.out (Nat.le_refl _)) (r4.below HWP2.out) (Nat.le_trans hl3 hb12.size) (Nat.le_trans hl3 hb12.size) (Nat.le_trans hl3 hb12.size) (Nat.le_trans hl3 hb12.size) HWP2.out.size HWP2.out.size HWP2.out.size HWP2.out.size (by rw [← r1.len]; exact HLN.out.1) (by rw [← r2.len]; exact HLN.out.2.1) (by rw [← r3.len]; exact HLN.out.2.2.1) (by rw [← r4.len]; exact HLN.out.2.2.2))
    clear hb r1 r2 r3 r4 y0 HMQ hb12 hl3
    obtain ⟨g0, g1, g2, g3⟩ := row4 KP12.out
    obtain ⟨q0, q1, q2, q3⟩ := row4 KP2.out
    rw [HP2.out] at g0 g1 g2 g3 q0 q1 q2 q3
    have hne : (ME != ME) = false := by simp
    go_wp2_with fail
    try rw [← HP2.out]
    refine HAK.out.mono ?_
    rintro e w5 ⟨rfl, hb⟩
    have HFIN : Hid (Below w.heap.size w w5) := Lib.hid (HBP2.out.trans (hb.mono HBP2.out.size))
    clear hb g0 g1 g2 g3 q0 q1 q2 q3
    go_wp2_with fail
    exact bodyPost_ret (results_tmp rfl _ _ _) rfl ⟨rfl, HFIN.out⟩
end Go.Proofs.YtminihiecloglaaGreat
