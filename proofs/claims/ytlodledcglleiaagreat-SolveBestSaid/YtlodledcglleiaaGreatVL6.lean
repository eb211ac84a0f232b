/-
  SOLVEBEST.
-/
import Derived.Test.YtlodledcglleiaaGreatVAn
import Derived.Test.YtlodledcglleiaaGreatCRg
import Derived.Test.YtlodledcglleiaaGreatVPl
import Derived.Test.YtlodledcglleiaaGreatVBp
namespace Go.Proofs.YtlodledcglleiaaGreat
open Go.RowKit
open SemP FlP GaP DiP SeaP
set_option linter.unusedVariables false
set_option linter.unusedSimpArgs false
set_option maxRecDepth 10000
set_option maxHeartbeats 16000000 in
theorem law_sbest {w : World} {n c : Nat} {A : Option Addr} {l : List Sv} {A2 : Option Addr} {m c2 : Nat} {vs : List Int} {Aq Am : Option Addr} {np cp nm cm : Nat} {ps : List Nd} {ms : List Int} {b : Int} (hr : RdJ 2 svI w (fun b => w.heap.size ≤ b) A n l) (hcap : CapA A n c) (hvr : Rd w w.heap.size A2 m vs) (hvc : CapA A2 m c2) (hpr : RdJ 2 pnI w (fun b => w.heap.size ≤ b) Aq np ps) (hmr : Rd w w.heap.size Am nm ms) (hm : LenAt w) (h1 : 1 < w.heap.size) :
    Calls Tryz.prog 4 #[.agg #[.slice A n c], .slice A2 m c2, .agg #[.slice Aq np cp, .slice Am nm cm], .int .i64 b] w fun e w' => e = .returned (.bool true) ∧ Below w.heap.size w w' := by
  have HR := Lib.hid hr
  have HC := Lib.hid hcap
  have HVR := Lib.hid hvr
  have HVC := Lib.hid hvc
  have HPR := Lib.hid hpr
  have HMR := Lib.hid hmr
  obtain ⟨W, HW⟩ : ∃ W, Hid (W = (w.alloc (.cells #[.slice A n c] 24)).alloc (.cells #[.slice Aq np cp, .slice Am nm cm] 46)) := ⟨_, Lib.hid rfl⟩
  have hbW : Below w.heap.size w W := by rw [HW.out]; exact ((Below.refl _ w).alloc (Nat.le_refl _) _).alloc (by simp) _
  have H0 : Hid (W.heap[w.heap.size]? = some (.cells #[.slice A n c] 24 (0, 0))) := Lib.hid (by
    rw [HW.out, Below.heap_alloc _ _ _ (by simp)]; exact heap_new w _)
  have H1 : Hid (W.heap[w.heap.size + 1]? = some (.cells #[.slice Aq np cp, .slice Am nm cm] 46 (0, 0))) := Lib.hid (by
    rw [HW.out]
    have h := heap_new (w.alloc (.cells #[.slice A n c] 24)) (.cells #[.slice Aq np cp, .slice Am nm cm] 46)
    rw [World.size_alloc] at h; exact h)
  have HLW := Lib.hid (LenAt.below hm h1 hbW)
  have HBW := Lib.hid hbW
  have hsz := hbW.size
  clear hr hcap hvr hvc hpr hmr hm h1 hbW
  obtain ⟨x0, _⟩ := row1f H0.out
  obtain ⟨u0, u1, _⟩ := row2 H1.out
  have HAN := Lib.hid (sanchor_any W HLW.out.1 HLW.out.2)
  go_enter Tryz.func4, Tryz.ntmps4
  go_upto_region 1 with fail
  change Code.wp _ _ _ _ ((w.alloc (.cells #[.slice A n c] 24)).alloc (.cells #[.slice Aq np cp, .slice Am nm cm] 46))
  rw [← HW.out]
  go_wp2_with fail
  refine HAN.out.mono ?_
  rintro e w1 ⟨rfl, hb⟩
  have HB1 : Hid (Below w.heap.size w w1) := Lib.hid (HBW.out.trans (hb.mono hsz))
  have HL1 := Lib.hid (LenAt.below HLW.out.1 HLW.out.2 hb)
  have K1 : Hid (w1.heap[w.heap.size]? = _) := Lib.hid ((hb.block w.heap.size (heapE_lt H0.out)).trans H0.out)
  have Q1 : Hid (w1.heap[w.heap.size + 1]? = _) := Lib.hid ((hb.block (w.heap.size + 1) (heapE_lt H1.out)).trans H1.out)
  clear hb x0 u0 u1 HAN
  obtain ⟨x0, _⟩ := row1f K1.out
  have HMC := Lib.hid (right_any (c := c) (RdJ.below sv_turns HR.out HB1.out) HB1.out.size HL1.out.1 HL1.out.2)
  go_wp2_with fail
  refine HMC.out.mono ?_
  rintro e z1 ⟨A', n', c', ok, rfl, hb, hit⟩
  obtain ⟨W2, HW2⟩ : ∃ W2, Hid (W2 = z1.alloc (.cells #[.slice A' n' c'] 28)) := ⟨_, Lib.hid rfl⟩
  have hb2 : Below z1.heap.size z1 W2 := by rw [HW2.out]; exact (Below.refl _ z1).alloc (Nat.le_refl _) _
  have J2 : Hid (W2.heap[z1.heap.size]? = some (.cells #[.slice A' n' c'] 28 (0, 0))) := Lib.hid (by rw [HW2.out]; exact heap_new z1 _)
  have hb12 : Below w1.heap.size w1 W2 := hb.trans (hb2.mono hb.size)
  have HB2 : Hid (Below w.heap.size w W2) := Lib.hid (HB1.out.trans (hb12.mono HB1.out.size))
  have HL2 := Lib.hid (LenAt.below HL1.out.1 HL1.out.2 hb12)
  have K2 : Hid (W2.heap[w.heap.size]? = _) := Lib.hid ((hb12.block w.heap.size (heapE_lt K1.out)).trans K1.out)
  have Q2 : Hid (W2.heap[w.heap.size + 1]? = _) := Lib.hid ((hb12.block (w.heap.size + 1) (heapE_lt Q1.out)).trans Q1.out)
  have HZ1 : Hid (w1.heap.size ≤ z1.heap.size) := Lib.hid hb.size
  have HIT := Lib.hid (fun h => And.intro (And.intro (hit h).1 (hit h).2.1) (ss_turns.kept (hit h).2.2 hb2))
  clear hb hb2 hb12 hit x0 HMC
  go_upto_region 4 with fail
  change Code.wp _ _ _ _ (z1.alloc (.cells #[.slice A' n' c'] 28))
  rw [← HW2.out]
  obtain ⟨u0, u1, _⟩ := row2 Q2.out
  have HPL := Lib.hid (plain_any (cp := cp) (nm := nm) (cm := cm) (Am := Am) (RdJ.below pn_turns HPR.out HB2.out) HB2.out.size)
  go_wp2_with fail
  refine HPL.out.mono ?_
  rintro e z2 ⟨Aq', np', cp', is, rfl, hb, hit⟩
  obtain ⟨W3, HW3⟩ : ∃ W3, Hid (W3 = z2.alloc (.cells #[.slice Aq' np' cp', .slice Am nm cm] 49)) := ⟨_, Lib.hid rfl⟩
  have hb2 : Below z2.heap.size z2 W3 := by rw [HW3.out]; exact (Below.refl _ z2).alloc (Nat.le_refl _) _
  have J3 : Hid (W3.heap[z2.heap.size]? = some (.cells #[.slice Aq' np' cp', .slice Am nm cm] 49 (0, 0))) := Lib.hid (by rw [HW3.out]; exact heap_new z2 _)
  have hb12 : Below W2.heap.size W2 W3 := hb.trans (hb2.mono hb.size)
  have HB3 : Hid (Below w.heap.size w W3) := Lib.hid (HB2.out.trans (hb12.mono HB2.out.size))
  have HL3 := Lib.hid (LenAt.below HL2.out.1 HL2.out.2 hb12)
  have K3 : Hid (W3.heap[w.heap.size]? = _) := Lib.hid ((hb12.block w.heap.size (heapE_lt K2.out)).trans K2.out)
  have Q3 : Hid (W3.heap[w.heap.size + 1]? = _) := Lib.hid ((hb12.block (w.heap.size + 1) (heapE_lt Q2.out)).trans Q2.out)
  have G3 : Hid (W3.heap[z1.heap.size]? = _) := Lib.hid ((hb12.block z1.heap.size (heapE_lt J2.out)).trans J2.out)
  have HIT3 := Lib.hid (fun h => And.intro (HIT.out h).1 (ss_turns.kept (HIT.out h).2 hb12))
  have HIP := Lib.hid (fun h => And.intro (And.intro (hit h).1 (hit h).2.1) (And.intro (hit h).2.2.1 (ps_turns.kept (hit h).2.2.2 hb2)))
  have HZ3 : Hid (z1.heap.size < W3.heap.size ∧ z2.heap.size < W3.heap.size ∧ w.heap.size + 1 < z1.heap.size ∧ W2.heap.size ≤ z2.heap.size) := Lib.hid ⟨heapE_lt G3.out, heapE_lt J3.out, by
    have h := hb.size
    have h2 : W2.heap.size = z1.heap.size + 1 := by rw [HW2.out, World.size_alloc]
    have h3 := HB1.out.size
    have h4 := heapE_lt Q2.out
    have h5 := heapE_lt Q1.out
    have h6 := HB2.out.size
    have h7 := HZ1.out
    omega, hb.size⟩
  clear hb hb2 hb12 hit u0 u1 HPL HIT
  go_upto_region 5 with fail
  change Code.wp _ _ _ _ (z2.alloc (.cells #[.slice Aq' np' cp', .slice Am nm cm] 49))
  rw [← HW3.out]
  cases ok with
  | false =>
    go_wp2_with fail
    exact bodyPost_ret (results_tmp rfl _ _ _) rfl ⟨rfl, HB3.out⟩
  | true =>
    cases is with
    | false =>
      go_wp2_with fail
      exact bodyPost_ret (results_tmp rfl _ _ _) rfl ⟨rfl, HB3.out⟩
    | true =>
      obtain ⟨⟨hck, hsm⟩, hss⟩ := HIT3.out rfl
      obtain ⟨⟨hnp, hnm⟩, hps, hpi⟩ := HIP.out rfl
      obtain ⟨hcap', hrd'⟩ := (ss_turns.go hss (FrM.refl W3 _) (M' := fun b => W3.heap.size ≤ b) (fun b hb => .inr hb)).rd
      obtain ⟨hcapq, hrdq⟩ := (ps_turns.go hpi (FrM.refl W3 _) (M' := fun b => W3.heap.size ≤ b) (fun b hb => .inr hb)).rd
      have HP : Hid (CatAt W3 w.heap.size A n c l) := Lib.hid ⟨RdJ.below sv_turns HR.out HB3.out, HC.out, HB3.out.size, hsm, HL3.out.1, HL3.out.2⟩
      have HQ : Hid (CatAt W3 W3.heap.size A' n' c' l) := Lib.hid ⟨hrd', hcap', Nat.le_refl _, hsm, HL3.out.1, HL3.out.2⟩
      obtain rfl : n' = n := by rw [← HQ.out.rd.1, ← HP.out.rd.1]
      obtain rfl : np' = np := by rw [← hrdq.1, ← HPR.out.1]
      have HCK := Lib.hid hck
      have HLV := Lib.hid (ck_lev hck)
      have HV3 := Lib.hid (Rd.below HVR.out HB3.out)
      have HRP : Hid (ReqAt W3 w.heap.size Aq np' Am nm ps ms) := Lib.hid ⟨RdJ.below pn_turns HPR.out HB3.out, Rd.below HMR.out HB3.out, hnp, hnm, hps, HB3.out.size⟩
      have HRQ : Hid (ReqAt W3 W3.heap.size Aq' np' Am nm ps ms) := Lib.hid ⟨hrdq, (Rd.below HMR.out HB3.out).more HB3.out.size, hnp, hnm, hps, Nat.le_refl _⟩
      clear hsm hss hcap' hrd' hck hnp hnm hps hpi hcapq hrdq
      by_cases h40 : 40 < m
      · have d1 : decide ((40 : Int) < (m : Int)) = true := by simp; omega
        go_wp2_with fail
        exact bodyPost_ret (results_tmp rfl _ _ _) rfl ⟨rfl, HB3.out⟩
      have d1 : decide ((40 : Int) < (m : Int)) = false := by simp; omega
      have HSZ := Lib.hid (size_any HQ.out (ck_rels HCK.out))
      obtain ⟨y0, _⟩ := row1f G3.out
      by_cases h15 : 1500 < szN l l.length
      · have d2 : decide ((1500 : Int) < ((szN l l.length : Nat) : Int)) = true := by simp; omega
        go_wp2_with fail
        refine HSZ.out.mono ?_
        rintro e w4 ⟨rfl, hb⟩
        go_wp2_with fail
        exact bodyPost_ret (results_tmp rfl _ _ _) rfl ⟨rfl, HB3.out.trans (hb.mono HB3.out.size)⟩
      have d2 : decide ((1500 : Int) < ((szN l l.length : Nat) : Int)) = false := by simp; omega
      go_wp2_with fail
      refine HSZ.out.mono ?_
      rintro e w4 ⟨rfl, hb⟩
      have HB4 : Hid (Below W3.heap.size W3 w4) := Lib.hid hb
      have HW4 : Hid (Below w.heap.size w w4) := Lib.hid (HB3.out.trans (hb.mono HB3.out.size))
      clear y0 HSZ
      clear hb
      have HN : Hid (l.length = n') := Lib.hid HP.out.rd.1
      have hn16 := HP.out.n16
      have HV4 := Lib.hid (HV3.out.below (HB4.out.mono HB3.out.size))
      have HE0 := Lib.hid (Own.empty w4 w4.heap.size (Nat.le_refl _))
      have HV4a : Hid (Rd (w4.alloc (.cells #[] 3)) w.heap.size A2 m vs) := Lib.hid (HV4.out.alloc HW4.out.size _)
      go_upto_region 8 with (at_builtin; refine wpl_apps rfl (.tmp 49) (.tmp 50) rfl w4.heap.size _ 0 [] rfl HE0.out w.heap.size A2 m c2 vs rfl HV4a.out (by omega) (by simp) ?_; intro v' w5 hown5 hgr5 hat5)
      have HB45 : Hid (Below w4.heap.size w4 w5) := Lib.hid (((Below.refl _ w4).alloc (Nat.le_refl _) _).grown hgr5 (by simp) (fun g hg => by
        have h1 : some w4.heap.size = some g := hg
        injection h1 with h1; omega))
      have hown5' : Own w5 w4.heap.size v' m vs := by simpa using hown5
      obtain ⟨AG, cG, rfl, _⟩ := hown5'.shape
      have HOG := Lib.hid hown5'
      have HB5 : Hid (Below W3.heap.size W3 w5) := Lib.hid (HB4.out.trans (HB45.out.mono HB4.out.size))
      have HW5 : Hid (Below w.heap.size w w5) := Lib.hid (HW4.out.trans (HB45.out.mono HW4.out.size))
      clear hown5 hown5' hgr5 hat5 HE0 HV4a
      have HSO := Lib.hid (solve_any (c2 := cG) (cp := cp) (cm := cm) (b := b) (HP.out.below HB5.out) HCK.out (Rd.of_own HOG.out) (Nat.le_refl _) (HRP.out.below HB5.out))
      obtain ⟨x0, _⟩ := row1f ((HB5.out.block w.heap.size (heapE_lt K3.out)).trans K3.out)
      obtain ⟨u0, u1, _⟩ := row2 ((HB5.out.block (w.heap.size + 1) (heapE_lt Q3.out)).trans Q3.out)
      go_wp2_with fail
      refine HSO.out.mono ?_
      rintro e w6 ho
      obtain ⟨At, nt, ct, rfl, hown, hne, hb⟩ := sol_one ho
      have HB6 : Hid (Below W3.heap.size W3 w6) := Lib.hid (HB5.out.trans (hb.mono HB5.out.size))
      have HW6 : Hid (Below w.heap.size w w6) := Lib.hid (HW5.out.trans (hb.mono HW5.out.size))
      have HOT := Lib.hid hown
      have HTL : Hid ((solR l vs ps ms b).1.length = nt) := Lib.hid hown.len
      have HNE := Lib.hid hne
      have HOG6 := Lib.hid (HOG.out.kept hb)
      clear hb x0 u0 u1 HSO ho hown hne
      obtain ⟨X, HX⟩ : ∃ X, Hid (solR l vs ps ms b = X) := ⟨_, Lib.hid rfl⟩
      rw [HX.out] at HOT HTL HNE
      rw [HX.out]
      obtain ⟨xe, HXE⟩ : ∃ xe, Hid (X.2 = xe) := ⟨_, Lib.hid rfl⟩
      rw [HXE.out] at HNE
      rw [HXE.out]
      have HIN := Lib.hid (ints_same (c := cG) (d := c2) (Rd.of_own HOG6.out) (HV3.out.below (HB6.out.mono HB3.out.size)) (by omega) (by omega))
      go_wp2_with fail
      refine HIN.out.mono ?_
      rintro e w7 ⟨rfl, hb⟩
      have HB7 : Hid (Below W3.heap.size W3 w7) := Lib.hid (HB6.out.trans (hb.mono HB6.out.size))
      have HW7 : Hid (Below w.heap.size w w7) := Lib.hid (HW6.out.trans (hb.mono HW6.out.size))
      have HOT7 := Lib.hid (HOT.out.kept hb)
      clear hb HIN HOT HOG HOG6
      have HCQ := Lib.hid (chkQ_any (c2 := c2) (cp := cp') (cm := cm) (HQ.out.below HB7.out) (HV3.out.below (HB7.out.mono HB3.out.size)) HW7.out.size (by omega) (HRQ.out.below HB7.out))
      obtain ⟨y0, _⟩ := row1f ((HB7.out.block z1.heap.size HZ3.out.1).trans G3.out)
      obtain ⟨v0, v1, _⟩ := row2 ((HB7.out.block z2.heap.size HZ3.out.2.1).trans J3.out)
      obtain ⟨ck, HCC⟩ : ∃ ck, Hid (chkR l vs ps ms = ck) := ⟨_, Lib.hid rfl⟩
      rw [HCC.out] at HCQ
      go_wp2_with fail
      refine HCQ.out.mono ?_
      rintro e w8 ⟨rfl, hb⟩
      have HB8 : Hid (Below W3.heap.size W3 w8) := Lib.hid (HB7.out.trans (hb.mono HB7.out.size))
      have HW8 : Hid (Below w.heap.size w w8) := Lib.hid (HW7.out.trans (hb.mono HW7.out.size))
      have HOT8 := Lib.hid (HOT7.out.kept hb)
      clear hb y0 v0 v1 HCQ HOT7
      by_cases hc0 : ck ≠ 0
      · have hcn : (ck != 0) = true := by rw [bne_iff_ne]; exact hc0
        have HXV : Hid (X = ([], ck)) := Lib.hid (by rw [← HX.out]; unfold solR; rw [HCC.out, if_pos hc0])
        have hxe : xe = ck := by rw [← HXE.out, HXV.out]
        have hnt : nt = 0 := by rw [← HTL.out, HXV.out]; rfl
        subst hxe hnt
        have e1 : (xe == xe) = true := by simp
        clear hc0
        go_wp2_with fail
        exact bodyPost_ret (results_tmp rfl _ _ _) rfl ⟨rfl, HW8.out⟩
      obtain rfl : ck = 0 := by omega
      clear hc0
      have HC0 := Lib.hid (chkR_ok HCC.out)
      have HSV : Hid (X = if b < 1 ∨ 1048576 < b then (([] : List Int), (11 : Int)) else if b < ((dfs (okS l ps) (ordsL l ms vs) []).1 : Int) then (([] : List Int), (41 : Int)) else match (dfs (okS l ps) (ordsL l ms vs) []).2 with | some t => (t, (0 : Int)) | none => (([] : List Int), (40 : Int))) := Lib.hid (by rw [← HX.out]; unfold solR; rw [HCC.out]; rfl)
      by_cases hb1 : b < 1
      · have d5 : decide (b < 1) = true := decide_eq_true hb1
        have HXV : Hid (X = ([], 11)) := Lib.hid (by rw [HSV.out, if_pos (.inl hb1)])
        obtain rfl : xe = 11 := by rw [← HXE.out, HXV.out]
        obtain rfl : nt = 0 := by rw [← HTL.out, HXV.out]; rfl
        go_wp2_with fail
        exact bodyPost_ret (results_tmp rfl _ _ _) rfl ⟨rfl, HW8.out⟩
      have d5 : decide (b < 1) = false := decide_eq_false hb1
      by_cases hb2 : 1048576 < b
      · have d6 : decide (1048576 < b) = true := decide_eq_true hb2
        have HXV : Hid (X = ([], 11)) := Lib.hid (by rw [HSV.out, if_pos (.inr hb2)])
        obtain rfl : xe = 11 := by rw [← HXE.out, HXV.out]
        obtain rfl : nt = 0 := by rw [← HTL.out, HXV.out]; rfl
        go_wp2_with fail
        exact bodyPost_ret (results_tmp rfl _ _ _) rfl ⟨rfl, HW8.out⟩
      have d6 : decide (1048576 < b) = false := decide_eq_false hb2
      obtain rfl : nm = n' := by rw [← HRQ.out.md.len, ← HN.out]; exact HC0.out.2.2.1
      obtain rfl : m = nm := by rw [← HV3.out.len, ← HN.out]; exact (setB_iff.1 HC0.out.1).1
      have HS2 : Hid (X = if b < ((dfs (okS l ps) (ordsL l ms vs) []).1 : Int) then (([] : List Int), (41 : Int)) else match (dfs (okS l ps) (ordsL l ms vs) []).2 with | some t => (t, (0 : Int)) | none => (([] : List Int), (40 : Int))) := Lib.hid (by rw [HSV.out, if_neg (by omega)])
      have HTQ := Lib.hid (triesQ_any (c := c') (c2 := c2) (cp := cp') (cm := cm) (c4 := 0) (A4 := none) (ch := []) (B4 := 0) (ck_rels HCK.out) HC0.out.1 HC0.out.2.2.2.1 HC0.out.2.2.1 m 0 (by omega) (HQ.out.below HB8.out) (HV3.out.below (HB8.out.mono HB3.out.size)) HW8.out.size (HRQ.out.below HB8.out) Rd.nil_ (Nat.zero_le _))
      rw [List.drop_zero] at HTQ
      have HBE := Lib.hid (best_is (ck_rels HCK.out) HCC.out)
      obtain ⟨T, HT⟩ : ∃ T, Hid (dfs (okS l ps) (ordsL l ms vs) [] = T) := ⟨_, Lib.hid rfl⟩
      rw [HT.out] at HTQ HS2 HBE
      obtain ⟨TN, HTN⟩ : ∃ q, Hid (T.1 = q) := ⟨_, Lib.hid rfl⟩
      rw [HTN.out] at HTQ HS2
      obtain ⟨y0, _⟩ := row1f ((HB8.out.block z1.heap.size HZ3.out.1).trans G3.out)
      obtain ⟨v0, v1, _⟩ := row2 ((HB8.out.block z2.heap.size HZ3.out.2.1).trans J3.out)
      clear hb1 hb2 HSV
      go_wp2_with fail
      refine HTQ.out.mono ?_
      rintro e w9 ⟨rfl, hb⟩
      have HB9 : Hid (Below W3.heap.size W3 w9) := Lib.hid (HB8.out.trans (hb.mono HB8.out.size))
      have HW9 : Hid (Below w.heap.size w w9) := Lib.hid (HW8.out.trans (hb.mono HW8.out.size))
      have HOT9 := Lib.hid (HOT8.out.kept hb)
      clear hb y0 v0 v1 HTQ HOT8
      by_cases hbt : b < (TN : Int)
      · have d7 : decide (b < (TN : Int)) = true := decide_eq_true hbt
        have HXV : Hid (X = ([], 41)) := Lib.hid (by rw [HS2.out, if_pos hbt])
        obtain rfl : xe = 41 := by rw [← HXE.out, HXV.out]
        obtain rfl : nt = 0 := by rw [← HTL.out, HXV.out]; rfl
        go_wp2_with fail
        exact bodyPost_ret (results_tmp rfl _ _ _) rfl ⟨rfl, HW9.out⟩
      have HS3 : Hid (X = match T.2 with | some t => (t, (0 : Int)) | none => (([] : List Int), (40 : Int))) := Lib.hid (by rw [HS2.out, if_neg hbt])
      have HBQ := Lib.hid (bestQ_any (c := c') (c2 := c2) (cp := cp') (cm := cm) (ck_rels HCK.out) HC0.out.1 HC0.out.2.2.2.1 HC0.out.2.2.1 (HQ.out.below HB9.out) (HV3.out.below (HB9.out.mono HB3.out.size)) HW9.out.size (HRQ.out.below HB9.out))
      rw [HBE.out] at HBQ
      obtain ⟨y0, _⟩ := row1f ((HB9.out.block z1.heap.size HZ3.out.1).trans G3.out)
      obtain ⟨v0, v1, _⟩ := row2 ((HB9.out.block z2.heap.size HZ3.out.2.1).trans J3.out)
      clear hbt
      cases hT : T.2 with
      | none =>
        have HXV : Hid (X = ([], 40)) := Lib.hid (by rw [HS3.out, hT])
        obtain rfl : xe = 40 := by rw [← HXE.out, HXV.out]
        obtain rfl : nt = 0 := by rw [← HTL.out, HXV.out]; rfl
        rw [hT] at HBQ
        clear hT
        go_wp2_with fail
        refine HBQ.out.mono ?_
        rintro e w10 ⟨hb, ho⟩
        have HW10 : Hid (Below w.heap.size w w10) := Lib.hid (HW9.out.trans (hb.mono HW9.out.size))
        rcases ho with ⟨t, v, hx, _⟩ | ⟨_, rfl⟩
        · cases hx
        clear hb y0 v0 v1 HBQ
        go_wp2_with fail
        exact bodyPost_ret (results_tmp rfl _ _ _) rfl ⟨rfl, HW10.out⟩
      | some T2 =>
        have HXV : Hid (X = (T2, 0)) := Lib.hid (by rw [HS3.out, hT])
        obtain rfl : xe = 0 := by rw [← HXE.out, HXV.out]
        rw [HXV.out] at HOT9
        rw [hT] at HBQ
        clear hT
        go_wp2_with fail
        refine HBQ.out.mono ?_
        rintro e w10 ⟨hb, ho⟩
        have HW10 : Hid (Below w.heap.size w w10) := Lib.hid (HW9.out.trans (hb.mono HW9.out.size))
        rcases ho with ⟨t, v, hx, rfl, hown⟩ | ⟨hx, _⟩
        rotate_left
        · cases hx
        injection hx with hx
        subst hx
        obtain ⟨AB, cB, rfl, _⟩ := hown.shape
        have HOB := Lib.hid hown
        have HOT10 : Hid (Own w10 w5.heap.size (.slice At nt ct) nt T2) := Lib.hid (HOT9.out.kept hb)
        have hnt : nt = m := by rw [← HOT10.out.len, ← hown.len]
        subst hnt
        have HIN := Lib.hid (ints_same (c := ct) (d := cB) (Rd.of_own HOT10.out) (Rd.of_own HOB.out) (by omega) (by omega))
        clear hb y0 v0 v1 HBQ hown
        go_wp2_with fail
        refine HIN.out.mono ?_
        rintro e w11 ⟨rfl, hb⟩
        go_wp2_with fail
        exact bodyPost_ret (results_tmp rfl _ _ _) rfl ⟨rfl, HW10.out.trans (hb.mono HW10.out.size)⟩
end Go.Proofs.YtlodledcglleiaaGreat
