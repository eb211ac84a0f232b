/-
 PlanFleets, over this translation (printed by genpl3.py).
-/
import Derived.Test.YtminihiecloglaaGreatPAa
import Derived.Test.YtminihiecloglaaGreatPFg
namespace Go.Proofs.YtminihiecloglaaGreat
open Go.RowKit
open SemP FlP GaP DiP
set_option linter.unusedVariables false
set_option linter.unusedSimpArgs false
set_option maxRecDepth 10000
theorem order_00P : FloatKind.f64.format.order 0 0 = some .eq := by decide +kernel
set_option maxHeartbeats 16000000 in
theorem law_fleetsP {w : World} {n c : Nat} {A : Option Addr} {l : List Sv} {A2 A3 : Option Addr} {m c2 m3 c3 : Nat} {fs ts : List Int} {zz st : Int} (hr : RdJ 2 svI w (fun b => w.heap.size ≤ b) A n l) (hcap : CapA A n c) (hf : Rd w w.heap.size A2 m fs) (ht : Rd w w.heap.size A3 m3 ts) (hz : 0 ≤ zz ∧ zz ≤ 18446744073709551615) (hm : LenAt w) (h1 : 1 < w.heap.size) :
  Calls Tryz.prog 7 #[.agg #[.slice A n c], .slice A2 m c2, .slice A3 m3 c3, .int .u64 zz, .int .i64 st] w fun e w' => e = .returned (.bool true) ∧ Below w.heap.size w w' := by
 have HR := Lib.hid hr
 have HC := Lib.hid hcap
 have HF := Lib.hid hf
 have HT := Lib.hid ht
 have HZZ := Lib.hid hz
 clear hz
 obtain ⟨W, HW⟩ : ∃ W, Hid (W = w.alloc (.cells #[.slice A n c] 24)) := ⟨_, Lib.hid rfl⟩
 have hbW : Below w.heap.size w W := by rw [HW.out]; exact (Below.refl _ w).alloc (Nat.le_refl _) _
 have H0 : Hid (W.heap[w.heap.size]? = some (.cells #[.slice A n c] 24 (0, 0))) := Lib.hid (by rw [HW.out]; exact heap_new w _)
 have HLW := Lib.hid (LenAt.below hm h1 hbW)
 have HBW := Lib.hid hbW
 have hsz := hbW.size
 clear hr hcap hf ht hm h1 hbW
 obtain ⟨x0, _⟩ := row1f H0.out
 have HAN := Lib.hid (panchor_any W HLW.out.1 HLW.out.2)
 go_enter Tryz.func7, Tryz.ntmps7
 go_upto_region 1 with fail
 change Code.wp _ _ _ _ (w.alloc (.cells #[.slice A n c] 24))
 rw [← HW.out]
 go_wp2_with fail
 refine HAN.out.mono ?_
 rintro e w1 ⟨rfl, hb⟩
 have HB1 : Hid (Below w.heap.size w w1) := Lib.hid (HBW.out.trans (hb.mono hsz))
 have HL1 := Lib.hid (LenAt.below HLW.out.1 HLW.out.2 hb)
 have K1 : Hid (w1.heap[w.heap.size]? = _) := Lib.hid ((hb.block w.heap.size (heapE_lt H0.out)).trans H0.out)
 clear hb x0 HAN
 obtain ⟨x0, _⟩ := row1f K1.out
 have HMC := Lib.hid (right_any (c := c) (RdJ.below sv_turns HR.out HB1.out) HB1.out.size HL1.out.1 HL1.out.2)
 go_wp2_with fail
 refine HMC.out.mono ?_
 rintro e z1 ⟨A', n', c', ok, rfl, hb, hit⟩
 obtain ⟨W2, HW2⟩ : ∃ W2, Hid (W2 = z1.alloc (.cells #[.slice A' n' c'] 29)) := ⟨_, Lib.hid rfl⟩
 have hb2 : Below z1.heap.size z1 W2 := by rw [HW2.out]; exact (Below.refl _ z1).alloc (Nat.le_refl _) _
 have J2 : Hid (W2.heap[z1.heap.size]? = some (.cells #[.slice A' n' c'] 29 (0, 0))) := Lib.hid (by rw [HW2.out]; exact heap_new z1 _)
 have hb12 : Below w1.heap.size w1 W2 := hb.trans (hb2.mono hb.size)
 have HB2 : Hid (Below w.heap.size w W2) := Lib.hid (HB1.out.trans (hb12.mono HB1.out.size))
 have HL2 := Lib.hid (LenAt.below HL1.out.1 HL1.out.2 hb12)
 have K2 : Hid (W2.heap[w.heap.size]? = _) := Lib.hid ((hb12.block w.heap.size (heapE_lt K1.out)).trans K1.out)
 have HIT := Lib.hid (fun h => And.intro (hit h).1 (And.intro (hit h).2.1 (ss_turns.kept (hit h).2.2 hb2)))
 clear hb hb2 hb12 hit x0 HMC
 go_upto_region 4 with fail
 change Code.wp _ _ _ _ (z1.alloc (.cells #[.slice A' n' c'] 29))
 rw [← HW2.out]
 cases ok with
 | false =>
  go_wp2_with fail
  refine bodyPost_ret (results_tmp rfl _ _ _) rfl ⟨rfl, HB2.out⟩
 | true =>
  obtain ⟨hck, hsm, hss⟩ := HIT.out rfl
  obtain ⟨hcap', hrd'⟩ := (ss_turns.go hss (FrM.refl W2 _) (M' := fun b => W2.heap.size ≤ b) (fun b hb => .inr hb)).rd
  have HP : Hid (CatAt W2 w.heap.size A n c l) := Lib.hid ⟨RdJ.below sv_turns HR.out HB2.out, HC.out, HB2.out.size, hsm, HL2.out.1, HL2.out.2⟩
  have HQ : Hid (CatAt W2 W2.heap.size A' n' c' l) := Lib.hid ⟨hrd', hcap', Nat.le_refl _, hsm, HL2.out.1, HL2.out.2⟩
  have HLV := Lib.hid (ck_lev hck)
  have HL12 : Hid (l.length ≤ 12) := Lib.hid (ck_len hck).2
  have HCK := Lib.hid hck
  clear hck hsm hss hcap' hrd' HIT
  by_cases hm30 : (30 : Int) < (m : Int)
  ·have d1 : decide ((30 : Int) < (m : Int)) = true := decide_eq_true hm30
   go_wp2_with fail
   refine bodyPost_ret (results_tmp rfl _ _ _) rfl ⟨rfl, HB2.out⟩
  have d1 : decide ((30 : Int) < (m : Int)) = false := decide_eq_false hm30
  by_cases hm31 : (30 : Int) < (m3 : Int)
  ·have d2 : decide ((30 : Int) < (m3 : Int)) = true := decide_eq_true hm31
   go_wp2_with fail
   refine bodyPost_ret (results_tmp rfl _ _ _) rfl ⟨rfl, HB2.out⟩
  have d2 : decide ((30 : Int) < (m3 : Int)) = false := decide_eq_false hm31
  have HMK := Lib.hid (make_any (c := c) (c2 := c2) (c3 := c3) HP.out HLV.out (HF.out.below HB2.out) (HT.out.below HB2.out) HB2.out.size HB2.out.size (by omega) (by omega))
  obtain ⟨ME, HME⟩ : ∃ q, Hid (makeE l fs ts = q) := ⟨_, Lib.hid rfl⟩
  rw [HME.out] at HMK
  obtain ⟨x0, _⟩ := row1f K2.out
  go_wp2_with fail
  refine HMK.out.mono ?_
  rintro e w3 ⟨hb, ho⟩
  have HB3 : Hid (Below w.heap.size w w3) := Lib.hid (HB2.out.trans (hb.mono HB2.out.size))
  have J3 : Hid (w3.heap[z1.heap.size]? = _) := Lib.hid ((hb.block z1.heap.size (heapE_lt J2.out)).trans J2.out)
  have HQ3 := Lib.hid (HQ.out.below hb)
  have HPP3 := Lib.hid (HP.out.below hb)
  have KC3 : Hid (w3.heap[w.heap.size]? = _) := Lib.hid ((hb.block w.heap.size (heapE_lt K2.out)).trans K2.out)
  clear hb x0 HMK
  rcases ho with ⟨hne, rfl⟩ | ⟨h0, v, rfl, hp⟩
  ·have d4 : (ME != 0) = true := by rw [bne_iff_ne]; exact hne
   have HBX : Hid (Below w.heap.size w (w3.alloc (.cells #[.slice none 0 0, .slice none 0 0, .slice none 0 0, .slice none 0 0] 35))) := Lib.hid (HB3.out.alloc HB3.out.size _)
   clear hne
   go_wp2_with fail
   exact bodyPost_ret (results_tmp rfl _ _ _) rfl ⟨rfl, HBX.out⟩
  have HME0 : Hid (makeE l fs ts = 0) := Lib.hid (by rw [HME.out]; exact h0)
  have HCE : Hid (chkE l fs ts = 0) := Lib.hid (by
   have h := HME0.out
   unfold makeE at h
   by_cases h1 : chkE l fs ts = 0
   ·exact h1
   ·rw [if_neg h1] at h; exact absurd h h1)
  subst h0
  obtain ⟨AF, AT, AS, AE, mm, cF, cT, N, cS, M, cE, rfl, hlf, hlt, o1, o2, o3, o4⟩ := hp.ex
  obtain rfl : mm = m := by rw [← hlf]; exact HF.out.len
  obtain rfl : m3 = mm := by rw [← hlt]; exact HT.out.len.symm
  have hm3n : m3 = n := by rw [← hlf, ← HP.out.rd.1]; exact (setB_iff.1 (chkE_ok HCE.out).1).1
  have hn'n : n' = m3 := by rw [hm3n, ← HP.out.rd.1, HQ.out.rd.1]
  subst hm3n
  subst hn'n
  have HFL := Lib.hid hlf
  obtain ⟨P1, HP1⟩ : ∃ P1, Hid (P1 = w3.alloc (.cells #[.slice AF n' cF, .slice AT n' cT, .slice AS N cS, .slice AE M cE] 35)) := ⟨_, Lib.hid rfl⟩
  have HWP1 : Hid (Below w3.heap.size w3 P1) := Lib.hid (by rw [HP1.out]; exact (Below.refl _ w3).alloc (Nat.le_refl _) _)
  have KP1 : Hid (P1.heap[w3.heap.size]? = some (.cells #[.slice AF n' cF, .slice AT n' cT, .slice AS N cS, .slice AE M cE] 35 (0, 0))) := Lib.hid (by rw [HP1.out]; exact heap_new w3 _)
  have HBP1 : Hid (Below w.heap.size w P1) := Lib.hid (HB3.out.trans (HWP1.out.mono HB3.out.size))
  have Q1 := Lib.hid (o1.kept HWP1.out)
  have Q2 := Lib.hid (o2.kept HWP1.out)
  have Q3 := Lib.hid (o3.kept HWP1.out)
  have Q4 := Lib.hid (o4.kept HWP1.out)
  have HQP1 := Lib.hid (HQ3.out.below HWP1.out)
  have J4 : Hid (P1.heap[z1.heap.size]? = _) := Lib.hid ((HWP1.out.block z1.heap.size (heapE_lt J3.out)).trans J3.out)
  clear hp o1 o2 o3 o4 hlf hlt
  have HN16 := Lib.hid HQ.out.n16
  have HNS : Hid ((stL l fs ts).length = N) := Lib.hid (by obtain ⟨_, _, e⟩ := Q3.out.shape; injection e with _ e _; exact e.symm)
  have HMG : Hid ((befP l fs ts (stL l fs ts)).length = M) := Lib.hid (by obtain ⟨_, _, e⟩ := Q4.out.shape; injection e with _ e _; exact e.symm)
  have HFL12 : Hid (fs.length ≤ 12) := Lib.hid (by rw [(setB_iff.1 (chkE_ok HCE.out).1).1]; exact HL12.out)
  have HN36 : Hid (N ≤ 36) := Lib.hid (by rw [← HNS.out]; have := stK_len l fs ts fs.length; have := HFL12.out; unfold stL; omega)
  have HM200 : Hid (M ≤ 200) := Lib.hid (by
   rw [← HMG.out]
   have h1 := bef_len (l := l) (ts := ts) (show fs.length ≤ 16 by have := HFL12.out; omega)
   have h2 : fs.length * (fs.length + 2) ≤ 12 * 14 := Nat.mul_le_mul HFL12.out (by have := HFL12.out; omega)
   omega)
  have HIN : Hid (InN N (befP l fs ts (stL l fs ts))) := Lib.hid (by
   intro k hk
   have hmem : (befP l fs ts (stL l fs ts)).getD k default ∈ befP l fs ts (stL l fs ts) := getD_mem hk
   obtain ⟨h1, h2, _⟩ := mem_befP.1 hmem
   rw [HNS.out] at h1 h2
   exact ⟨h1, h2⟩)
  have HPL := Lib.hid (plain_ok (w := P1) (cF := cF) (cT := cT) (cS := cS) (cE := cE) (nF := n') (nT := n') (nE := M) (AF := AF) (AT := AT) (AE := AE) Q3.out.rdS (Nat.le_refl _) (by have := HFL.out; have := HFL12.out; omega) (by have := HFL.out; have := HFL12.out; omega) (by have := HN36.out; omega) HM200.out)
  obtain ⟨y0, y1, y2, y3⟩ := row4 KP1.out
  rw [HP1.out] at y0 y1 y2 y3
  go_wp2_with fail
  try rw [← HP1.out]
  refine HPL.out.mono ?_
  rintro e w4 ⟨DS, dS, rfl, hown, hb⟩
  have HB14 := Lib.hid hb
  obtain ⟨P2, HP2⟩ : ∃ P2, Hid (P2 = w4.alloc (.cells #[.slice AF n' cF, .slice AT n' cT, .slice DS N dS, .slice AE M cE] 41)) := ⟨_, Lib.hid rfl⟩
  have HWP2 : Hid (Below w4.heap.size w4 P2) := Lib.hid (by rw [HP2.out]; exact (Below.refl _ w4).alloc (Nat.le_refl _) _)
  have KQ2 : Hid (P2.heap[w4.heap.size]? = some (.cells #[.slice AF n' cF, .slice AT n' cT, .slice DS N dS, .slice AE M cE] 41 (0, 0))) := Lib.hid (by rw [HP2.out]; exact heap_new w4 _)
  have HB12 : Hid (Below P1.heap.size P1 P2) := Lib.hid (hb.trans (HWP2.out.mono hb.size))
  have HL12' : Hid (w3.heap.size < P1.heap.size ∧ P1.heap.size ≤ P2.heap.size) := Lib.hid ⟨heapE_lt KP1.out, HB12.out.size⟩
  have HBP2 : Hid (Below w.heap.size w P2) := Lib.hid (HBP1.out.trans (HB12.out.mono HBP1.out.size))
  have KP2 : Hid (P2.heap[w3.heap.size]? = _) := Lib.hid ((HB12.out.block w3.heap.size (heapE_lt KP1.out)).trans KP1.out)
  have J5 : Hid (P2.heap[z1.heap.size]? = _) := Lib.hid ((HB12.out.block z1.heap.size (heapE_lt J4.out)).trans J4.out)
  have R1 : Hid (Rd P2 P2.heap.size AF n' fs) := Lib.hid (Rd.of_own (own_of_F (Q1.out.kept HB12.out) HFL.out))
  have R2 : Hid (Rd P2 P2.heap.size AT n' ts) := Lib.hid (Rd.of_own (own_of_F (Q2.out.kept HB12.out) (HT.out.len)))
  have R3 : Hid (RdS P2 P2.heap.size DS N (stL l fs ts)) := Lib.hid (OwnF.kept hown HWP2.out).rdG
  have Q5 := Lib.hid (Q4.out.kept HB12.out)
  have R4 : Hid (RdEg P2 P2.heap.size AE M (befP l fs ts (stL l fs ts))) := Lib.hid Q5.out.edg
  have HQP2 := Lib.hid (HQP1.out.below HB12.out)
  have HPP2 := Lib.hid ((HPP3.out.below HWP1.out).below HB12.out)
  have KC2 : Hid (P2.heap[w.heap.size]? = _) := Lib.hid ((HB12.out.block w.heap.size (heapE_lt ((HWP1.out.block w.heap.size (heapE_lt KC3.out)).trans KC3.out))).trans ((HWP1.out.block w.heap.size (heapE_lt KC3.out)).trans KC3.out))
  have R5 : Hid (RdS P2 P2.heap.size AS N (stL l fs ts)) := Lib.hid (OwnF.kept Q3.out HB12.out).rdS
  have HL12 : Hid (w3.heap.size < P2.heap.size) := Lib.hid (by have := HL12'.out; omega)
  have HLJ : Hid (z1.heap.size < P2.heap.size) := Lib.hid (heapE_lt J5.out)
  have HLQ : Hid (w4.heap.size < P2.heap.size) := Lib.hid (heapE_lt KQ2.out)
  have HLC : Hid (w.heap.size < P2.heap.size) := Lib.hid (heapE_lt KC2.out)
  clear hown hb y0 y1 y2 y3 HPL
  have hN64 : N ≤ 64 := by have := HN36.out; omega
  go_upto_region 10 with fail
  rw [← HP2.out]
  obtain ⟨s, rfl⟩ := Int.eq_ofNat_of_zero_le HZZ.out.1
  have HSL : Hid (s < lim) := Lib.hid (by have := HZZ.out.2; unfold lim; omega)
  have HFQ := Lib.hid (fits_neq (s := s) (n := N))
  have HFP := Lib.hid (fleetP_any (w := P2) (s := s) (c := c) (cF := cF) (cT := cT) (cS := cS) (nE := M) (cE := cE) (AE := AE) HPP2.out HLV.out R1.out R2.out R5.out (Nat.le_refl _) (Nat.le_refl _) (Nat.le_refl _) stepsOK (chkE_ok HCE.out).1 (chkE_ok HCE.out).2.1 HSL.out hN64)
  obtain ⟨x0, _⟩ := row1f KC2.out
  obtain ⟨y0, y1, y2, y3⟩ := row4 KP2.out
  go_wp2_with fail
  refine HFP.out.mono ?_
  rintro e T ⟨hb, ho⟩
  have HPT : Hid (Below P2.heap.size P2 T) := Lib.hid hb
  clear hb x0 y0 y1 y2 y3 HFP
  rcases ho with ⟨hfb, rfl⟩ | ⟨hfb, A9, c9, rfl, hl9⟩
  ·have HFB := Lib.hid hfb
   clear hfb
   have o00 := order_00P
   obtain ⟨y0, y1, y2, y3⟩ := row4 ((HPT.out.block w3.heap.size HL12.out).trans KP2.out)
   by_cases h0 : st < 0
   ·have e1 : decide (st < 0) = true := decide_eq_true h0
    have HVN := Lib.hid (vector_no (w := T) (nF := n') (cF := cF) (nT := n') (cT := cT) (nS := N) (cS := cS) (nE := M) (cE := cE) (AF := AF) (AT := AT) (AS := AS) (AE := AE) (k := st) (.inl h0))
    go_wp2_with fail
    refine HVN.out.mono ?_
    rintro e U ⟨rfl, hb⟩
    have HPU : Hid (Below P2.heap.size P2 U) := Lib.hid (HPT.out.trans (hb.mono HPT.out.size))
    have HFU : Hid (Below w.heap.size w U) := Lib.hid (HBP2.out.trans (HPU.out.mono HBP2.out.size))
    clear hb
    have d7 : decide ((N : Int) < 64) = true := decide_eq_true (by have := HN36.out; omega)
    have p7 : (N : Int) < 64 := by have := HN36.out; omega
    have p8 : (0 : Int) ≤ (N : Int) := by omega
    have hq := HFQ.out
    rw [HFB.out] at hq
    simp only [Bool.not_false] at hq
    go_wp2_with fail
    exact bodyPost_ret (results_tmp rfl _ _ _) rfl ⟨rfl, HFU.out⟩
   have e1 : decide (st < 0) = false := decide_eq_false h0
   by_cases h1 : (N : Int) ≤ st
   ·have e2 : decide ((N : Int) ≤ st) = true := decide_eq_true h1
    have HVN := Lib.hid (vector_no (w := T) (nF := n') (cF := cF) (nT := n') (cT := cT) (nS := N) (cS := cS) (nE := M) (cE := cE) (AF := AF) (AT := AT) (AS := AS) (AE := AE) (k := st) (.inr h1))
    go_wp2_with fail
    refine HVN.out.mono ?_
    rintro e U ⟨rfl, hb⟩
    have HPU : Hid (Below P2.heap.size P2 U) := Lib.hid (HPT.out.trans (hb.mono HPT.out.size))
    have HFU : Hid (Below w.heap.size w U) := Lib.hid (HBP2.out.trans (HPU.out.mono HBP2.out.size))
    clear hb
    have d7 : decide ((N : Int) < 64) = true := decide_eq_true (by have := HN36.out; omega)
    have p7 : (N : Int) < 64 := by have := HN36.out; omega
    have p8 : (0 : Int) ≤ (N : Int) := by omega
    have hq := HFQ.out
    rw [HFB.out] at hq
    simp only [Bool.not_false] at hq
    go_wp2_with fail
    exact bodyPost_ret (results_tmp rfl _ _ _) rfl ⟨rfl, HFU.out⟩
   have e2 : decide ((N : Int) ≤ st) = false := decide_eq_false h1
   obtain ⟨k, rfl⟩ := Int.eq_ofNat_of_zero_le (show 0 ≤ st by omega)
   have hkN : k < N := by omega
   have hki : (k : Int) < (N : Int) := by omega
   have hk0 : (0 : Int) ≤ (k : Int) := by omega
   obtain ⟨i, hi, ei, hq1, hq3⟩ := (stepsOK (l := l) (fs := fs) (ts := ts)).2 k (by rw [HNS.out]; exact hkN)
   obtain ⟨q, HQV⟩ : ∃ q, Hid ((sAt (stL l fs ts) k).2 = q) := ⟨_, Lib.hid rfl⟩
   have HXK : Hid (sAt (stL l fs ts) k = ((i : Int), q)) := Lib.hid (Prod.ext ei HQV.out)
   rw [HQV.out] at hq1 hq3
   have hin : i < n' := by rw [← HFL.out]; exact hi
   have v3 := rel_small HQ.out.sm (chkE_ok HCE.out).1 hi
   have v4 := rel_small (vs := ts) HQ.out.sm (chkE_ok HCE.out).2.1 (i := i) (by rw [HT.out.len]; exact hin)
   have HVY := Lib.hid (vector_yes (w := T) (cF := cF) (cT := cT) (cS := cS) (nE := M) (cE := cE) (AE := AE) (R1.out.below HPT.out) (R2.out.below HPT.out) (R5.out.below HPT.out (Nat.le_refl _)) HPT.out.size HPT.out.size HPT.out.size hkN HXK.out ⟨hq1, hq3⟩ hin hin (by omega) v3 v4)
   have HVP : Hid (vecP fs ts (sAt (stL l fs ts) k) = if q = 2 then (ix ts i - ix fs i, 0) else (0, 1)) := Lib.hid (by unfold vecP; rw [HXK.out]; simp only [Int.toNat_natCast])
   obtain ⟨F, HFV⟩ : ∃ x, Hid (ix fs i = x) := ⟨_, Lib.hid rfl⟩
   obtain ⟨G, HGV⟩ : ∃ x, Hid (ix ts i = x) := ⟨_, Lib.hid rfl⟩
   rw [HFV.out, HGV.out] at HVP
   rw [HFV.out] at v3
   rw [HGV.out] at v4
   obtain ⟨⟨va, vb⟩, HVV⟩ : ∃ q, Hid (vecP fs ts (sAt (stL l fs ts) k) = q) := ⟨_, Lib.hid rfl⟩
   rw [HVV.out, show cv (va, vb) = .complex .f64 (fl va) (fl vb) from rfl] at HVY
   rw [HVV.out] at HVP
   have hvs : va.natAbs < 2 ^ 53 ∧ vb.natAbs < 2 ^ 53 := by
    have h := HVP.out
    by_cases e : q = 2
    ·rw [if_pos e] at h; injection h with h1 h2; subst h1 h2; exact ⟨by omega, by omega⟩
    ·rw [if_neg e] at h; injection h with h1 h2; subst h1 h2; exact ⟨by omega, by omega⟩
   have oa := ord_eq hvs.1
   have ob := ord_eq hvs.2
   go_wp2_with fail
   refine HVY.out.mono ?_
   rintro e V ⟨rfl, hb⟩
   have HTV : Hid (T.heap.size ≤ V.heap.size) := Lib.hid hb.size
   have HPV : Hid (Below P2.heap.size P2 V) := Lib.hid (HPT.out.trans (hb.mono HPT.out.size))
   clear hb y0 y1 y2 y3 o00 hvs
   obtain ⟨y0, y1, y2, y3⟩ := row4 ((HPV.out.block w3.heap.size HL12.out).trans KP2.out)
   obtain ⟨b2, o2, rfl, hl2, s0, s1⟩ := (R5.out.below HPV.out (Nat.le_refl _)).at_ k hkN
   rw [HXK.out] at s0 s1
   replace s0 : V.cell? ⟨b2, o2 + k * 2, none⟩ = some (.int .i64 (i : Int)) := s0
   replace s1 : V.cell? ⟨b2, o2 + k * 2 + 1, none⟩ = some (.int .i64 q) := s1
   obtain ⟨V2, HV2⟩ : ∃ V2, Hid (V2 = (V.alloc (.cells #[.int .i64 (i : Int), .int .i64 q] 64)).alloc (.cells #[.int .i64 0, .int .i64 1] 66)) := ⟨_, Lib.hid rfl⟩
   have HVV2 : Hid (Below V.heap.size V V2) := Lib.hid (by rw [HV2.out]; exact ((Below.refl _ V).alloc (Nat.le_refl _) _).alloc (by simp) _)
   have KA : Hid (V2.heap[V.heap.size]? = some (.cells #[.int .i64 (i : Int), .int .i64 q] 64 (0, 0))) := Lib.hid (by
    rw [HV2.out, Below.heap_alloc _ _ _ (by simp)]; exact heap_new V _)
   have KB : Hid (V2.heap[V.heap.size + 1]? = some (.cells #[.int .i64 0, .int .i64 1] 66 (0, 0))) := Lib.hid (by
    rw [HV2.out]
    have h := heap_new (V.alloc (.cells #[.int .i64 (i : Int), .int .i64 q] 64)) (.cells #[.int .i64 0, .int .i64 1] 66)
    rw [World.size_alloc] at h; exact h)
   have HTV2 : Hid (T.heap.size ≤ V2.heap.size) := Lib.hid (Nat.le_trans HTV.out HVV2.out.size)
   have HPV2 : Hid (Below P2.heap.size P2 V2) := Lib.hid (HPV.out.trans (HVV2.out.mono HPV.out.size))
   go_upto_region 18 with fail
   rw [← HV2.out]
   clear s0 s1 y0 y1 y2 y3
   obtain ⟨a0, a1, _, _⟩ := row2 KA.out
   obtain ⟨b0, b1, bf0, bf1⟩ := row2 KB.out
   by_cases hq2 : q = 2
   rotate_left
   ·have e3 : (q == 2) = false := by rw [beq_eq_false_iff_ne]; exact hq2
    have hv := HVP.out
    rw [if_neg hq2] at hv
    injection hv with hv1 hv2
    subst hv1 hv2
    have HNU := Lib.hid (numP_any 0 1 V2)
    rw [show cv (0, 1) = .complex .f64 (fl 0) (fl 1) from rfl] at HNU
    clear hq2
    go_wp2_with fail
    refine HNU.out.mono ?_
    rintro e U ⟨rfl, hb⟩
    have HPU : Hid (Below P2.heap.size P2 U) := Lib.hid (HPV2.out.trans (hb.mono HPV2.out.size))
    have HFU : Hid (Below w.heap.size w U) := Lib.hid (HBP2.out.trans (HPU.out.mono HBP2.out.size))
    clear hb
    have d7 : decide ((N : Int) < 64) = true := decide_eq_true (by have := HN36.out; omega)
    have p7 : (N : Int) < 64 := by have := HN36.out; omega
    have p8 : (0 : Int) ≤ (N : Int) := by omega
    have hq := HFQ.out
    rw [HFB.out] at hq
    simp only [Bool.not_false] at hq
    go_wp2_with fail
    exact bodyPost_ret (results_tmp rfl _ _ _) rfl ⟨rfl, HFU.out⟩
   subst hq2
   have hv := HVP.out
   rw [if_pos rfl] at hv
   injection hv with hv1 hv2
   subst hv1 hv2
   have e3 : ((2 : Int) == 2) = true := rfl
   obtain ⟨bF, oF, hAF, _, cF0⟩ := (HF.out.below (HBP2.out.trans (HPV2.out.mono HBP2.out.size))).at_ hin
   obtain ⟨bT, oT, hAT, _, cT0⟩ := (HT.out.below (HBP2.out.trans (HPV2.out.mono HBP2.out.size))).at_ hin
   subst hAF hAT
   rw [HFV.out] at cF0
   rw [HGV.out] at cT0
   have hi0 : (0 : Int) ≤ (i : Int) := by omega
   have hin' : (i : Int) < (n' : Int) := by omega
   have hsub : IntKind.i64.wrap (G - F) = G - F := IntWalk.i64_in _ (by omega)
   have S1 := heap_setCell_same V2 (V.heap.size + 1) 0 _ _ (.int .i64 (G - F)) KB.out
   have S2 := Lib.hid (heap_setCell_same _ (V.heap.size + 1) 1 _ _ (.int .i64 0) S1)
   have HPV3 : Hid (Below P2.heap.size P2 ((V2.setCell ⟨V.heap.size + 1, 0, none⟩ (.int .i64 (G - F))).setCell ⟨V.heap.size + 1, 1, none⟩ (.int .i64 0))) := Lib.hid ((HPV2.out.setCell (p := ⟨V.heap.size + 1, 0, none⟩) (by have := HPV.out.size; show P2.heap.size ≤ V.heap.size + 1; omega) _).setCell (p := ⟨V.heap.size + 1, 1, none⟩) (by have := HPV.out.size; show P2.heap.size ≤ V.heap.size + 1; omega) _)
   clear S1
   go_wp2_with fail
   go_region
   obtain ⟨V3, HV3⟩ : ∃ V3, Hid (V3 = ((V2.setCell ⟨V.heap.size + 1, 0, none⟩ (.int .i64 (G - F))).setCell ⟨V.heap.size + 1, 1, none⟩ (.int .i64 0)).drew) := ⟨_, Lib.hid rfl⟩
   have KC : Hid (V3.heap[V.heap.size + 1]? = some (.cells #[.int .i64 (G - F), .int .i64 0] 66 (0, 0))) := Lib.hid (by rw [HV3.out]; exact S2.out)
   have HTV3 : Hid (T.heap.size ≤ V3.heap.size) := Lib.hid (by rw [HV3.out]; simpa using HTV2.out)
   have HPV4 : Hid (Below P2.heap.size P2 V3) := Lib.hid (by rw [HV3.out]; exact HPV3.out.drew)
   rw [← HV3.out]
   clear a0 a1 b0 b1 bf0 bf1 cF0 cT0
   obtain ⟨b0, b1, _, _⟩ := row2 KC.out
   have HNU := Lib.hid (numP_any (G - F) 0 V3)
   rw [show cv (G - F, 0) = .complex .f64 (fl (G - F)) (fl 0) from rfl] at HNU
   go_wp2_with fail
   refine HNU.out.mono ?_
   rintro e U ⟨rfl, hb⟩
   have HPU : Hid (Below P2.heap.size P2 U) := Lib.hid (HPV4.out.trans (hb.mono HPV4.out.size))
   have HFU : Hid (Below w.heap.size w U) := Lib.hid (HBP2.out.trans (HPU.out.mono HBP2.out.size))
   clear hb
   have d7 : decide ((N : Int) < 64) = true := decide_eq_true (by have := HN36.out; omega)
   have p7 : (N : Int) < 64 := by have := HN36.out; omega
   have p8 : (0 : Int) ≤ (N : Int) := by omega
   have hq := HFQ.out
   rw [HFB.out] at hq
   simp only [Bool.not_false] at hq
   go_wp2_with fail
   exact bodyPost_ret (results_tmp rfl _ _ _) rfl ⟨rfl, HFU.out⟩
  ·have HFB := Lib.hid hfb
   have HL9 := Lib.hid hl9
   clear hfb hl9
   have o00 := order_00P
   obtain ⟨y0, y1, y2, y3⟩ := row4 ((HPT.out.block w3.heap.size HL12.out).trans KP2.out)
   by_cases h0 : st < 0
   ·have e1 : decide (st < 0) = true := decide_eq_true h0
    have HVN := Lib.hid (vector_no (w := T) (nF := n') (cF := cF) (nT := n') (cT := cT) (nS := N) (cS := cS) (nE := M) (cE := cE) (AF := AF) (AT := AT) (AS := AS) (AE := AE) (k := st) (.inl h0))
    go_wp2_with fail
    refine HVN.out.mono ?_
    rintro e U ⟨rfl, hb⟩
    have HPU : Hid (Below P2.heap.size P2 U) := Lib.hid (HPT.out.trans (hb.mono HPT.out.size))
    have HFU : Hid (Below w.heap.size w U) := Lib.hid (HBP2.out.trans (HPU.out.mono HBP2.out.size))
    have HLU : Hid (RdZc U U.heap.size A9 n' (plL l fs ts (stL l fs ts) s)) := Lib.hid ((HL9.out.below (hb.mono (Nat.le_refl _))).more (Nat.le_trans (Nat.le_refl _) hb.size))
    clear hb
    have d7 : decide ((N : Int) < 64) = true := decide_eq_true (by have := HN36.out; omega)
    have p7 : (N : Int) < 64 := by have := HN36.out; omega
    have p8 : (0 : Int) ≤ (N : Int) := by omega
    have hq := HFQ.out
    rw [HFB.out] at hq
    simp only [Bool.not_true] at hq
    have HFLQ := Lib.hid (fleetQ_any (w := U) (s := s) (c := c') (cF := cF) (cT := cT) (cS := dS) (nE := M) (cE := cE) (AE := AE) (HQP2.out.below HPU.out) HLV.out (R1.out.below HPU.out) (R2.out.below HPU.out) (R3.out.below HPU.out (Nat.le_refl _)) HPU.out.size HPU.out.size HPU.out.size stepsOK (chkE_ok HCE.out).1 (chkE_ok HCE.out).2.1 HSL.out hN64)
    obtain ⟨j0, _⟩ := row1f ((HPU.out.block z1.heap.size HLJ.out).trans J5.out)
    obtain ⟨q0, q1, q2, q3⟩ := row4 ((HPU.out.block w4.heap.size HLQ.out).trans KQ2.out)
    go_wp2_with fail
    refine HFLQ.out.mono ?_
    rintro e X ⟨A8, c8, rfl, hpr, hb⟩
    have HUX := Lib.hid hb
    have HPR := Lib.hid hpr
    have HFX : Hid (Below w.heap.size w X) := Lib.hid (HFU.out.trans (hb.mono HFU.out.size))
    have HLX : Hid (RdZc X U.heap.size A9 n' (plL l fs ts (stL l fs ts) s)) := Lib.hid (HLU.out.below hb)
    clear hb hpr j0 q0 q1 q2 q3 HFLQ
    go_wp2_with fail
    go_loopw [26, 139] (fun _ v wr => ∃ k : Nat, k ≤ n' ∧ v = .int .i64 (k : Int) ∧ Hid (Below X.heap.size X wr)) (fun _ v _ => n' - (intOf v).toNat)
    case atStart => exact ⟨0, Nat.zero_le _, rfl, Lib.hid (Below.refl _ _)⟩
    case round =>
     obtain ⟨wo, hwo⟩ : ∃ x, x = wr := ⟨_, rfl⟩
     subst hwo
     obtain ⟨k, hk, rfl, HBo⟩ := hrel
     have HFo : Hid (Below w.heap.size w wo) := Lib.hid (HFX.out.trans (HBo.out.mono HFX.out.size))
     by_cases hkn : k < n'
     ·have hd : decide ((k : Int) < (n' : Int)) = true := by simp; omega
      have hki : (k : Int) < (n' : Int) := by omega
      have hk0 : (0 : Int) ≤ (k : Int) := by omega
      have hadd : IntKind.i64.wrap ((k : Int) + 1) = ((k + 1 : Nat) : Int) := by rw [IntWalk.i64_in _ (by have := HN16.out; omega)]; omega
      obtain ⟨b, off, rfl, _, s0, s1⟩ := (HPR.out.below HBo.out).2 k hkn
      have hpl := plP_pl (s := s) (stepsOK (l := l) (fs := fs) (ts := ts)) HLV.out HQ.out.sm (chkE_ok HCE.out).1 (chkE_ok HCE.out).2.1 (i := k) (by rw [HFL.out]; exact hkn)
      rw [← plL_at l fs ts _ s (by rw [HFL.out]; exact hkn)] at hpl
      obtain ⟨⟨x, y⟩, HXY⟩ : ∃ q, Hid (at_ (plL l fs ts (stL l fs ts) s) k = q) := ⟨_, Lib.hid rfl⟩
      rw [HXY.out] at s0 s1 hpl
      replace s0 : wo.cell? ⟨b, off + k * 2, none⟩ = some (.int .i64 x) := s0
      replace s1 : wo.cell? ⟨b, off + k * 2 + 1, none⟩ = some (.int .i64 y) := s1
      obtain ⟨l1, l2, l3, l4⟩ := hpl
      have l1 : 0 ≤ x := l1
      have l2 : x ≤ 1048576 := l2
      have l3 : 0 ≤ y := l3
      have l4 : y ≤ 1048576 := l4
      obtain ⟨wq, HWQ⟩ : ∃ wq, Hid (wq = wo.alloc (.cells #[.int .i64 x, .int .i64 y] 66)) := ⟨_, Lib.hid rfl⟩
      have HBQ : Hid (Below wo.heap.size wo wq) := Lib.hid (by rw [HWQ.out]; exact (Below.refl _ wo).alloc (Nat.le_refl _) _)
      have KSQ : Hid (wq.heap[wo.heap.size]? = some (.cells #[.int .i64 x, .int .i64 y] 66 (0, 0))) := Lib.hid (by rw [HWQ.out]; exact heap_new wo _)
      have HB1 : Hid (Below X.heap.size X wq) := Lib.hid (HBo.out.trans (HBQ.out.mono HBo.out.size))
      have HPL := Lib.hid (placeQ_yes ⟨l1, l2⟩ ⟨l3, l4⟩ wq)
      clear l1 l2 l3 l4
      go_upto_region 28 with fail
      rw [← HWQ.out]
      clear s0 s1
      obtain ⟨r0, r1, _, _⟩ := row2 KSQ.out
      go_wp2_with fail
      refine HPL.out.mono ?_
      rintro e wv ⟨rfl, hb⟩
      have HBV : Hid (Below X.heap.size X wv) := Lib.hid (HB1.out.trans (hb.mono HB1.out.size))
      clear hb r0 r1
      go_wp2_with fail
      go_roundw
      case rel => exact ⟨k + 1, by omega, by go_num, HBV⟩
      case measure => simp [intOf]; omega
     ·have hd : decide ((k : Int) < (n' : Int)) = false := by simp; omega
      obtain rfl : k = n' := by omega
      have HNU := Lib.hid (numbers_any (w := wo) (c := c8) (HPR.out.below HBo.out) (by have := HN16.out; omega))
      go_wp2_with fail
      refine HNU.out.mono ?_
      rintro e wy ⟨A7, c7, rfl, hown, hb⟩
      have HFY : Hid (Below w.heap.size w wy) := Lib.hid (HFo.out.trans (hb.mono HFo.out.size))
      have hXy := HBo.out.trans (hb.mono HBo.out.size)
      have HSY := Lib.hid (same_yes (w := wy) (c := c9) (d := c7) (HLX.out.below (hXy.mono HUX.out.size)) hown.rd (by have := HN16.out; omega) (fun i hi => by
       rw [plL_at l fs ts _ s (by rw [HFL.out]; exact hi)]
       exact plP_pl stepsOK HLV.out HQ.out.sm (chkE_ok HCE.out).1 (chkE_ok HCE.out).2.1 (by rw [HFL.out]; exact hi)))
      clear hown hb hXy
      go_wp2_with fail
      refine HSY.out.mono ?_
      rintro e wz ⟨rfl, rfl⟩
      go_wp2_with fail
      exact bodyPost_ret (results_tmp rfl _ _ _) rfl ⟨rfl, HFY.out⟩
   have e1 : decide (st < 0) = false := decide_eq_false h0
   by_cases h1 : (N : Int) ≤ st
   ·have e2 : decide ((N : Int) ≤ st) = true := decide_eq_true h1
    have HVN := Lib.hid (vector_no (w := T) (nF := n') (cF := cF) (nT := n') (cT := cT) (nS := N) (cS := cS) (nE := M) (cE := cE) (AF := AF) (AT := AT) (AS := AS) (AE := AE) (k := st) (.inr h1))
    go_wp2_with fail
    refine HVN.out.mono ?_
    rintro e U ⟨rfl, hb⟩
    have HPU : Hid (Below P2.heap.size P2 U) := Lib.hid (HPT.out.trans (hb.mono HPT.out.size))
    have HFU : Hid (Below w.heap.size w U) := Lib.hid (HBP2.out.trans (HPU.out.mono HBP2.out.size))
    have HLU : Hid (RdZc U U.heap.size A9 n' (plL l fs ts (stL l fs ts) s)) := Lib.hid ((HL9.out.below (hb.mono (Nat.le_refl _))).more (Nat.le_trans (Nat.le_refl _) hb.size))
    clear hb
    have d7 : decide ((N : Int) < 64) = true := decide_eq_true (by have := HN36.out; omega)
    have p7 : (N : Int) < 64 := by have := HN36.out; omega
    have p8 : (0 : Int) ≤ (N : Int) := by omega
    have hq := HFQ.out
    rw [HFB.out] at hq
    simp only [Bool.not_true] at hq
    have HFLQ := Lib.hid (fleetQ_any (w := U) (s := s) (c := c') (cF := cF) (cT := cT) (cS := dS) (nE := M) (cE := cE) (AE := AE) (HQP2.out.below HPU.out) HLV.out (R1.out.below HPU.out) (R2.out.below HPU.out) (R3.out.below HPU.out (Nat.le_refl _)) HPU.out.size HPU.out.size HPU.out.size stepsOK (chkE_ok HCE.out).1 (chkE_ok HCE.out).2.1 HSL.out hN64)
    obtain ⟨j0, _⟩ := row1f ((HPU.out.block z1.heap.size HLJ.out).trans J5.out)
    obtain ⟨q0, q1, q2, q3⟩ := row4 ((HPU.out.block w4.heap.size HLQ.out).trans KQ2.out)
    go_wp2_with fail
    refine HFLQ.out.mono ?_
    rintro e X ⟨A8, c8, rfl, hpr, hb⟩
    have HUX := Lib.hid hb
    have HPR := Lib.hid hpr
    have HFX : Hid (Below w.heap.size w X) := Lib.hid (HFU.out.trans (hb.mono HFU.out.size))
    have HLX : Hid (RdZc X U.heap.size A9 n' (plL l fs ts (stL l fs ts) s)) := Lib.hid (HLU.out.below hb)
    clear hb hpr j0 q0 q1 q2 q3 HFLQ
    go_wp2_with fail
    go_loopw [26, 139] (fun _ v wr => ∃ k : Nat, k ≤ n' ∧ v = .int .i64 (k : Int) ∧ Hid (Below X.heap.size X wr)) (fun _ v _ => n' - (intOf v).toNat)
    case atStart => exact ⟨0, Nat.zero_le _, rfl, Lib.hid (Below.refl _ _)⟩
    case round =>
     obtain ⟨wo, hwo⟩ : ∃ x, x = wr := ⟨_, rfl⟩
     subst hwo
     obtain ⟨k, hk, rfl, HBo⟩ := hrel
     have HFo : Hid (Below w.heap.size w wo) := Lib.hid (HFX.out.trans (HBo.out.mono HFX.out.size))
     by_cases hkn : k < n'
     ·have hd : decide ((k : Int) < (n' : Int)) = true := by simp; omega
      have hki : (k : Int) < (n' : Int) := by omega
      have hk0 : (0 : Int) ≤ (k : Int) := by omega
      have hadd : IntKind.i64.wrap ((k : Int) + 1) = ((k + 1 : Nat) : Int) := by rw [IntWalk.i64_in _ (by have := HN16.out; omega)]; omega
      obtain ⟨b, off, rfl, _, s0, s1⟩ := (HPR.out.below HBo.out).2 k hkn
      have hpl := plP_pl (s := s) (stepsOK (l := l) (fs := fs) (ts := ts)) HLV.out HQ.out.sm (chkE_ok HCE.out).1 (chkE_ok HCE.out).2.1 (i := k) (by rw [HFL.out]; exact hkn)
      rw [← plL_at l fs ts _ s (by rw [HFL.out]; exact hkn)] at hpl
      obtain ⟨⟨x, y⟩, HXY⟩ : ∃ q, Hid (at_ (plL l fs ts (stL l fs ts) s) k = q) := ⟨_, Lib.hid rfl⟩
      rw [HXY.out] at s0 s1 hpl
      replace s0 : wo.cell? ⟨b, off + k * 2, none⟩ = some (.int .i64 x) := s0
      replace s1 : wo.cell? ⟨b, off + k * 2 + 1, none⟩ = some (.int .i64 y) := s1
      obtain ⟨l1, l2, l3, l4⟩ := hpl
      have l1 : 0 ≤ x := l1
      have l2 : x ≤ 1048576 := l2
      have l3 : 0 ≤ y := l3
      have l4 : y ≤ 1048576 := l4
      obtain ⟨wq, HWQ⟩ : ∃ wq, Hid (wq = wo.alloc (.cells #[.int .i64 x, .int .i64 y] 66)) := ⟨_, Lib.hid rfl⟩
      have HBQ : Hid (Below wo.heap.size wo wq) := Lib.hid (by rw [HWQ.out]; exact (Below.refl _ wo).alloc (Nat.le_refl _) _)
      have KSQ : Hid (wq.heap[wo.heap.size]? = some (.cells #[.int .i64 x, .int .i64 y] 66 (0, 0))) := Lib.hid (by rw [HWQ.out]; exact heap_new wo _)
      have HB1 : Hid (Below X.heap.size X wq) := Lib.hid (HBo.out.trans (HBQ.out.mono HBo.out.size))
      have HPL := Lib.hid (placeQ_yes ⟨l1, l2⟩ ⟨l3, l4⟩ wq)
      clear l1 l2 l3 l4
      go_upto_region 28 with fail
      rw [← HWQ.out]
      clear s0 s1
      obtain ⟨r0, r1, _, _⟩ := row2 KSQ.out
      go_wp2_with fail
      refine HPL.out.mono ?_
      rintro e wv ⟨rfl, hb⟩
      have HBV : Hid (Below X.heap.size X wv) := Lib.hid (HB1.out.trans (hb.mono HB1.out.size))
      clear hb r0 r1
      go_wp2_with fail
      go_roundw
      case rel => exact ⟨k + 1, by omega, by go_num, HBV⟩
      case measure => simp [intOf]; omega
     ·have hd : decide ((k : Int) < (n' : Int)) = false := by simp; omega
      obtain rfl : k = n' := by omega
      have HNU := Lib.hid (numbers_any (w := wo) (c := c8) (HPR.out.below HBo.out) (by have := HN16.out; omega))
      go_wp2_with fail
      refine HNU.out.mono ?_
      rintro e wy ⟨A7, c7, rfl, hown, hb⟩
      have HFY : Hid (Below w.heap.size w wy) := Lib.hid (HFo.out.trans (hb.mono HFo.out.size))
      have hXy := HBo.out.trans (hb.mono HBo.out.size)
      have HSY := Lib.hid (same_yes (w := wy) (c := c9) (d := c7) (HLX.out.below (hXy.mono HUX.out.size)) hown.rd (by have := HN16.out; omega) (fun i hi => by
       rw [plL_at l fs ts _ s (by rw [HFL.out]; exact hi)]
       exact plP_pl stepsOK HLV.out HQ.out.sm (chkE_ok HCE.out).1 (chkE_ok HCE.out).2.1 (by rw [HFL.out]; exact hi)))
      clear hown hb hXy
      go_wp2_with fail
      refine HSY.out.mono ?_
      rintro e wz ⟨rfl, rfl⟩
      go_wp2_with fail
      exact bodyPost_ret (results_tmp rfl _ _ _) rfl ⟨rfl, HFY.out⟩
   have e2 : decide ((N : Int) ≤ st) = false := decide_eq_false h1
   obtain ⟨k, rfl⟩ := Int.eq_ofNat_of_zero_le (show 0 ≤ st by omega)
   have hkN : k < N := by omega
   have hki : (k : Int) < (N : Int) := by omega
   have hk0 : (0 : Int) ≤ (k : Int) := by omega
   obtain ⟨i, hi, ei, hq1, hq3⟩ := (stepsOK (l := l) (fs := fs) (ts := ts)).2 k (by rw [HNS.out]; exact hkN)
   obtain ⟨q, HQV⟩ : ∃ q, Hid ((sAt (stL l fs ts) k).2 = q) := ⟨_, Lib.hid rfl⟩
   have HXK : Hid (sAt (stL l fs ts) k = ((i : Int), q)) := Lib.hid (Prod.ext ei HQV.out)
   rw [HQV.out] at hq1 hq3
   have hin : i < n' := by rw [← HFL.out]; exact hi
   have v3 := rel_small HQ.out.sm (chkE_ok HCE.out).1 hi
   have v4 := rel_small (vs := ts) HQ.out.sm (chkE_ok HCE.out).2.1 (i := i) (by rw [HT.out.len]; exact hin)
   have HVY := Lib.hid (vector_yes (w := T) (cF := cF) (cT := cT) (cS := cS) (nE := M) (cE := cE) (AE := AE) (R1.out.below HPT.out) (R2.out.below HPT.out) (R5.out.below HPT.out (Nat.le_refl _)) HPT.out.size HPT.out.size HPT.out.size hkN HXK.out ⟨hq1, hq3⟩ hin hin (by omega) v3 v4)
   have HVP : Hid (vecP fs ts (sAt (stL l fs ts) k) = if q = 2 then (ix ts i - ix fs i, 0) else (0, 1)) := Lib.hid (by unfold vecP; rw [HXK.out]; simp only [Int.toNat_natCast])
   obtain ⟨F, HFV⟩ : ∃ x, Hid (ix fs i = x) := ⟨_, Lib.hid rfl⟩
   obtain ⟨G, HGV⟩ : ∃ x, Hid (ix ts i = x) := ⟨_, Lib.hid rfl⟩
   rw [HFV.out, HGV.out] at HVP
   rw [HFV.out] at v3
   rw [HGV.out] at v4
   obtain ⟨⟨va, vb⟩, HVV⟩ : ∃ q, Hid (vecP fs ts (sAt (stL l fs ts) k) = q) := ⟨_, Lib.hid rfl⟩
   rw [HVV.out, show cv (va, vb) = .complex .f64 (fl va) (fl vb) from rfl] at HVY
   rw [HVV.out] at HVP
   have hvs : va.natAbs < 2 ^ 53 ∧ vb.natAbs < 2 ^ 53 := by
    have h := HVP.out
    by_cases e : q = 2
    ·rw [if_pos e] at h; injection h with h1 h2; subst h1 h2; exact ⟨by omega, by omega⟩
    ·rw [if_neg e] at h; injection h with h1 h2; subst h1 h2; exact ⟨by omega, by omega⟩
   have oa := ord_eq hvs.1
   have ob := ord_eq hvs.2
   go_wp2_with fail
   refine HVY.out.mono ?_
   rintro e V ⟨rfl, hb⟩
   have HTV : Hid (T.heap.size ≤ V.heap.size) := Lib.hid hb.size
   have HPV : Hid (Below P2.heap.size P2 V) := Lib.hid (HPT.out.trans (hb.mono HPT.out.size))
   have HL9a : Hid (RdZc V T.heap.size A9 n' (plL l fs ts (stL l fs ts) s)) := Lib.hid (HL9.out.below hb)
   clear hb y0 y1 y2 y3 o00 hvs
   obtain ⟨y0, y1, y2, y3⟩ := row4 ((HPV.out.block w3.heap.size HL12.out).trans KP2.out)
   obtain ⟨b2, o2, rfl, hl2, s0, s1⟩ := (R5.out.below HPV.out (Nat.le_refl _)).at_ k hkN
   rw [HXK.out] at s0 s1
   replace s0 : V.cell? ⟨b2, o2 + k * 2, none⟩ = some (.int .i64 (i : Int)) := s0
   replace s1 : V.cell? ⟨b2, o2 + k * 2 + 1, none⟩ = some (.int .i64 q) := s1
   obtain ⟨V2, HV2⟩ : ∃ V2, Hid (V2 = (V.alloc (.cells #[.int .i64 (i : Int), .int .i64 q] 64)).alloc (.cells #[.int .i64 0, .int .i64 1] 66)) := ⟨_, Lib.hid rfl⟩
   have HVV2 : Hid (Below V.heap.size V V2) := Lib.hid (by rw [HV2.out]; exact ((Below.refl _ V).alloc (Nat.le_refl _) _).alloc (by simp) _)
   have HL9b : Hid (RdZc V2 T.heap.size A9 n' (plL l fs ts (stL l fs ts) s)) := Lib.hid (HL9a.out.below (HVV2.out.mono HTV.out))
   have KA : Hid (V2.heap[V.heap.size]? = some (.cells #[.int .i64 (i : Int), .int .i64 q] 64 (0, 0))) := Lib.hid (by
    rw [HV2.out, Below.heap_alloc _ _ _ (by simp)]; exact heap_new V _)
   have KB : Hid (V2.heap[V.heap.size + 1]? = some (.cells #[.int .i64 0, .int .i64 1] 66 (0, 0))) := Lib.hid (by
    rw [HV2.out]
    have h := heap_new (V.alloc (.cells #[.int .i64 (i : Int), .int .i64 q] 64)) (.cells #[.int .i64 0, .int .i64 1] 66)
    rw [World.size_alloc] at h; exact h)
   have HTV2 : Hid (T.heap.size ≤ V2.heap.size) := Lib.hid (Nat.le_trans HTV.out HVV2.out.size)
   have HPV2 : Hid (Below P2.heap.size P2 V2) := Lib.hid (HPV.out.trans (HVV2.out.mono HPV.out.size))
   go_upto_region 18 with fail
   rw [← HV2.out]
   clear s0 s1 y0 y1 y2 y3
   obtain ⟨a0, a1, _, _⟩ := row2 KA.out
   obtain ⟨b0, b1, bf0, bf1⟩ := row2 KB.out
   by_cases hq2 : q = 2
   rotate_left
   ·have e3 : (q == 2) = false := by rw [beq_eq_false_iff_ne]; exact hq2
    have hv := HVP.out
    rw [if_neg hq2] at hv
    injection hv with hv1 hv2
    subst hv1 hv2
    have HNU := Lib.hid (numP_any 0 1 V2)
    rw [show cv (0, 1) = .complex .f64 (fl 0) (fl 1) from rfl] at HNU
    clear hq2
    go_wp2_with fail
    refine HNU.out.mono ?_
    rintro e U ⟨rfl, hb⟩
    have HPU : Hid (Below P2.heap.size P2 U) := Lib.hid (HPV2.out.trans (hb.mono HPV2.out.size))
    have HFU : Hid (Below w.heap.size w U) := Lib.hid (HBP2.out.trans (HPU.out.mono HBP2.out.size))
    have HLU : Hid (RdZc U U.heap.size A9 n' (plL l fs ts (stL l fs ts) s)) := Lib.hid ((HL9b.out.below (hb.mono HTV2.out)).more (Nat.le_trans HTV2.out hb.size))
    clear hb
    have d7 : decide ((N : Int) < 64) = true := decide_eq_true (by have := HN36.out; omega)
    have p7 : (N : Int) < 64 := by have := HN36.out; omega
    have p8 : (0 : Int) ≤ (N : Int) := by omega
    have hq := HFQ.out
    rw [HFB.out] at hq
    simp only [Bool.not_true] at hq
    have HFLQ := Lib.hid (fleetQ_any (w := U) (s := s) (c := c') (cF := cF) (cT := cT) (cS := dS) (nE := M) (cE := cE) (AE := AE) (HQP2.out.below HPU.out) HLV.out (R1.out.below HPU.out) (R2.out.below HPU.out) (R3.out.below HPU.out (Nat.le_refl _)) HPU.out.size HPU.out.size HPU.out.size stepsOK (chkE_ok HCE.out).1 (chkE_ok HCE.out).2.1 HSL.out hN64)
    obtain ⟨j0, _⟩ := row1f ((HPU.out.block z1.heap.size HLJ.out).trans J5.out)
    obtain ⟨q0, q1, q2, q3⟩ := row4 ((HPU.out.block w4.heap.size HLQ.out).trans KQ2.out)
    go_wp2_with fail
    refine HFLQ.out.mono ?_
    rintro e X ⟨A8, c8, rfl, hpr, hb⟩
    have HUX := Lib.hid hb
    have HPR := Lib.hid hpr
    have HFX : Hid (Below w.heap.size w X) := Lib.hid (HFU.out.trans (hb.mono HFU.out.size))
    have HLX : Hid (RdZc X U.heap.size A9 n' (plL l fs ts (stL l fs ts) s)) := Lib.hid (HLU.out.below hb)
    clear hb hpr j0 q0 q1 q2 q3 HFLQ
    go_wp2_with fail
    go_loopw [26, 139] (fun _ v wr => ∃ k : Nat, k ≤ n' ∧ v = .int .i64 (k : Int) ∧ Hid (Below X.heap.size X wr)) (fun _ v _ => n' - (intOf v).toNat)
    case atStart => exact ⟨0, Nat.zero_le _, rfl, Lib.hid (Below.refl _ _)⟩
    case round =>
     obtain ⟨wo, hwo⟩ : ∃ x, x = wr := ⟨_, rfl⟩
     subst hwo
     obtain ⟨k, hk, rfl, HBo⟩ := hrel
     have HFo : Hid (Below w.heap.size w wo) := Lib.hid (HFX.out.trans (HBo.out.mono HFX.out.size))
     by_cases hkn : k < n'
     ·have hd : decide ((k : Int) < (n' : Int)) = true := by simp; omega
      have hki : (k : Int) < (n' : Int) := by omega
      have hk0 : (0 : Int) ≤ (k : Int) := by omega
      have hadd : IntKind.i64.wrap ((k : Int) + 1) = ((k + 1 : Nat) : Int) := by rw [IntWalk.i64_in _ (by have := HN16.out; omega)]; omega
      obtain ⟨b, off, rfl, _, s0, s1⟩ := (HPR.out.below HBo.out).2 k hkn
      have hpl := plP_pl (s := s) (stepsOK (l := l) (fs := fs) (ts := ts)) HLV.out HQ.out.sm (chkE_ok HCE.out).1 (chkE_ok HCE.out).2.1 (i := k) (by rw [HFL.out]; exact hkn)
      rw [← plL_at l fs ts _ s (by rw [HFL.out]; exact hkn)] at hpl
      obtain ⟨⟨x, y⟩, HXY⟩ : ∃ q, Hid (at_ (plL l fs ts (stL l fs ts) s) k = q) := ⟨_, Lib.hid rfl⟩
      rw [HXY.out] at s0 s1 hpl
      replace s0 : wo.cell? ⟨b, off + k * 2, none⟩ = some (.int .i64 x) := s0
      replace s1 : wo.cell? ⟨b, off + k * 2 + 1, none⟩ = some (.int .i64 y) := s1
      obtain ⟨l1, l2, l3, l4⟩ := hpl
      have l1 : 0 ≤ x := l1
      have l2 : x ≤ 1048576 := l2
      have l3 : 0 ≤ y := l3
      have l4 : y ≤ 1048576 := l4
      obtain ⟨wq, HWQ⟩ : ∃ wq, Hid (wq = wo.alloc (.cells #[.int .i64 x, .int .i64 y] 66)) := ⟨_, Lib.hid rfl⟩
      have HBQ : Hid (Below wo.heap.size wo wq) := Lib.hid (by rw [HWQ.out]; exact (Below.refl _ wo).alloc (Nat.le_refl _) _)
      have KSQ : Hid (wq.heap[wo.heap.size]? = some (.cells #[.int .i64 x, .int .i64 y] 66 (0, 0))) := Lib.hid (by rw [HWQ.out]; exact heap_new wo _)
      have HB1 : Hid (Below X.heap.size X wq) := Lib.hid (HBo.out.trans (HBQ.out.mono HBo.out.size))
      have HPL := Lib.hid (placeQ_yes ⟨l1, l2⟩ ⟨l3, l4⟩ wq)
      clear l1 l2 l3 l4
      go_upto_region 28 with fail
      rw [← HWQ.out]
      clear s0 s1
      obtain ⟨r0, r1, _, _⟩ := row2 KSQ.out
      go_wp2_with fail
      refine HPL.out.mono ?_
      rintro e wv ⟨rfl, hb⟩
      have HBV : Hid (Below X.heap.size X wv) := Lib.hid (HB1.out.trans (hb.mono HB1.out.size))
      clear hb r0 r1
      go_wp2_with fail
      go_roundw
      case rel => exact ⟨k + 1, by omega, by go_num, HBV⟩
      case measure => simp [intOf]; omega
     ·have hd : decide ((k : Int) < (n' : Int)) = false := by simp; omega
      obtain rfl : k = n' := by omega
      have HNU := Lib.hid (numbers_any (w := wo) (c := c8) (HPR.out.below HBo.out) (by have := HN16.out; omega))
      go_wp2_with fail
      refine HNU.out.mono ?_
      rintro e wy ⟨A7, c7, rfl, hown, hb⟩
      have HFY : Hid (Below w.heap.size w wy) := Lib.hid (HFo.out.trans (hb.mono HFo.out.size))
      have hXy := HBo.out.trans (hb.mono HBo.out.size)
      have HSY := Lib.hid (same_yes (w := wy) (c := c9) (d := c7) (HLX.out.below (hXy.mono HUX.out.size)) hown.rd (by have := HN16.out; omega) (fun i hi => by
       rw [plL_at l fs ts _ s (by rw [HFL.out]; exact hi)]
       exact plP_pl stepsOK HLV.out HQ.out.sm (chkE_ok HCE.out).1 (chkE_ok HCE.out).2.1 (by rw [HFL.out]; exact hi)))
      clear hown hb hXy
      go_wp2_with fail
      refine HSY.out.mono ?_
      rintro e wz ⟨rfl, rfl⟩
      go_wp2_with fail
      exact bodyPost_ret (results_tmp rfl _ _ _) rfl ⟨rfl, HFY.out⟩
   subst hq2
   have hv := HVP.out
   rw [if_pos rfl] at hv
   injection hv with hv1 hv2
   subst hv1 hv2
   have e3 : ((2 : Int) == 2) = true := rfl
   obtain ⟨bF, oF, hAF, _, cF0⟩ := (HF.out.below (HBP2.out.trans (HPV2.out.mono HBP2.out.size))).at_ hin
   obtain ⟨bT, oT, hAT, _, cT0⟩ := (HT.out.below (HBP2.out.trans (HPV2.out.mono HBP2.out.size))).at_ hin
   subst hAF hAT
   rw [HFV.out] at cF0
   rw [HGV.out] at cT0
   have hi0 : (0 : Int) ≤ (i : Int) := by omega
   have hin' : (i : Int) < (n' : Int) := by omega
   have hsub : IntKind.i64.wrap (G - F) = G - F := IntWalk.i64_in _ (by omega)
   have S1 := heap_setCell_same V2 (V.heap.size + 1) 0 _ _ (.int .i64 (G - F)) KB.out
   have S2 := Lib.hid (heap_setCell_same _ (V.heap.size + 1) 1 _ _ (.int .i64 0) S1)
   have HPV3 : Hid (Below P2.heap.size P2 ((V2.setCell ⟨V.heap.size + 1, 0, none⟩ (.int .i64 (G - F))).setCell ⟨V.heap.size + 1, 1, none⟩ (.int .i64 0))) := Lib.hid ((HPV2.out.setCell (p := ⟨V.heap.size + 1, 0, none⟩) (by have := HPV.out.size; show P2.heap.size ≤ V.heap.size + 1; omega) _).setCell (p := ⟨V.heap.size + 1, 1, none⟩) (by have := HPV.out.size; show P2.heap.size ≤ V.heap.size + 1; omega) _)
   clear S1
   go_wp2_with fail
   go_region
   obtain ⟨V3, HV3⟩ : ∃ V3, Hid (V3 = ((V2.setCell ⟨V.heap.size + 1, 0, none⟩ (.int .i64 (G - F))).setCell ⟨V.heap.size + 1, 1, none⟩ (.int .i64 0)).drew) := ⟨_, Lib.hid rfl⟩
   have KC : Hid (V3.heap[V.heap.size + 1]? = some (.cells #[.int .i64 (G - F), .int .i64 0] 66 (0, 0))) := Lib.hid (by rw [HV3.out]; exact S2.out)
   have HTV3 : Hid (T.heap.size ≤ V3.heap.size) := Lib.hid (by rw [HV3.out]; simpa using HTV2.out)
   have HPV4 : Hid (Below P2.heap.size P2 V3) := Lib.hid (by rw [HV3.out]; exact HPV3.out.drew)
   have HL9c : Hid (RdZc V3 T.heap.size A9 n' (plL l fs ts (stL l fs ts) s)) := Lib.hid (by rw [HV3.out]; exact HL9b.out.keep (fun p hp => (World.cell?_setCell_other _ _ p _ (fun e => by subst e; have := HTV.out; have : V.heap.size + 1 < T.heap.size := hp; omega)).trans (World.cell?_setCell_other _ _ p _ (fun e => by subst e; have := HTV.out; have : V.heap.size + 1 < T.heap.size := hp; omega))))
   rw [← HV3.out]
   clear a0 a1 b0 b1 bf0 bf1 cF0 cT0
   obtain ⟨b0, b1, _, _⟩ := row2 KC.out
   have HNU := Lib.hid (numP_any (G - F) 0 V3)
   rw [show cv (G - F, 0) = .complex .f64 (fl (G - F)) (fl 0) from rfl] at HNU
   go_wp2_with fail
   refine HNU.out.mono ?_
   rintro e U ⟨rfl, hb⟩
   have HPU : Hid (Below P2.heap.size P2 U) := Lib.hid (HPV4.out.trans (hb.mono HPV4.out.size))
   have HFU : Hid (Below w.heap.size w U) := Lib.hid (HBP2.out.trans (HPU.out.mono HBP2.out.size))
   have HLU : Hid (RdZc U U.heap.size A9 n' (plL l fs ts (stL l fs ts) s)) := Lib.hid ((HL9c.out.below (hb.mono HTV3.out)).more (Nat.le_trans HTV3.out hb.size))
   clear hb
   have d7 : decide ((N : Int) < 64) = true := decide_eq_true (by have := HN36.out; omega)
   have p7 : (N : Int) < 64 := by have := HN36.out; omega
   have p8 : (0 : Int) ≤ (N : Int) := by omega
   have hq := HFQ.out
   rw [HFB.out] at hq
   simp only [Bool.not_true] at hq
   have HFLQ := Lib.hid (fleetQ_any (w := U) (s := s) (c := c') (cF := cF) (cT := cT) (cS := dS) (nE := M) (cE := cE) (AE := AE) (HQP2.out.below HPU.out) HLV.out (R1.out.below HPU.out) (R2.out.below HPU.out) (R3.out.below HPU.out (Nat.le_refl _)) HPU.out.size HPU.out.size HPU.out.size stepsOK (chkE_ok HCE.out).1 (chkE_ok HCE.out).2.1 HSL.out hN64)
   obtain ⟨j0, _⟩ := row1f ((HPU.out.block z1.heap.size HLJ.out).trans J5.out)
   obtain ⟨q0, q1, q2, q3⟩ := row4 ((HPU.out.block w4.heap.size HLQ.out).trans KQ2.out)
   go_wp2_with fail
   refine HFLQ.out.mono ?_
   rintro e X ⟨A8, c8, rfl, hpr, hb⟩
   have HUX := Lib.hid hb
   have HPR := Lib.hid hpr
   have HFX : Hid (Below w.heap.size w X) := Lib.hid (HFU.out.trans (hb.mono HFU.out.size))
   have HLX : Hid (RdZc X U.heap.size A9 n' (plL l fs ts (stL l fs ts) s)) := Lib.hid (HLU.out.below hb)
   clear hb hpr j0 q0 q1 q2 q3 HFLQ
   go_wp2_with fail
   go_loopw [26, 139] (fun _ v wr => ∃ k : Nat, k ≤ n' ∧ v = .int .i64 (k : Int) ∧ Hid (Below X.heap.size X wr)) (fun _ v _ => n' - (intOf v).toNat)
   case atStart => exact ⟨0, Nat.zero_le _, rfl, Lib.hid (Below.refl _ _)⟩
   case round =>
    obtain ⟨wo, hwo⟩ : ∃ x, x = wr := ⟨_, rfl⟩
    subst hwo
    obtain ⟨k, hk, rfl, HBo⟩ := hrel
    have HFo : Hid (Below w.heap.size w wo) := Lib.hid (HFX.out.trans (HBo.out.mono HFX.out.size))
    by_cases hkn : k < n'
    ·have hd : decide ((k : Int) < (n' : Int)) = true := by simp; omega
     have hki : (k : Int) < (n' : Int) := by omega
     have hk0 : (0 : Int) ≤ (k : Int) := by omega
     have hadd : IntKind.i64.wrap ((k : Int) + 1) = ((k + 1 : Nat) : Int) := by rw [IntWalk.i64_in _ (by have := HN16.out; omega)]; omega
     obtain ⟨b, off, rfl, _, s0, s1⟩ := (HPR.out.below HBo.out).2 k hkn
     have hpl := plP_pl (s := s) (stepsOK (l := l) (fs := fs) (ts := ts)) HLV.out HQ.out.sm (chkE_ok HCE.out).1 (chkE_ok HCE.out).2.1 (i := k) (by rw [HFL.out]; exact hkn)
     rw [← plL_at l fs ts _ s (by rw [HFL.out]; exact hkn)] at hpl
     obtain ⟨⟨x, y⟩, HXY⟩ : ∃ q, Hid (at_ (plL l fs ts (stL l fs ts) s) k = q) := ⟨_, Lib.hid rfl⟩
     rw [HXY.out] at s0 s1 hpl
     replace s0 : wo.cell? ⟨b, off + k * 2, none⟩ = some (.int .i64 x) := s0
     replace s1 : wo.cell? ⟨b, off + k * 2 + 1, none⟩ = some (.int .i64 y) := s1
     obtain ⟨l1, l2, l3, l4⟩ := hpl
     have l1 : 0 ≤ x := l1
     have l2 : x ≤ 1048576 := l2
     have l3 : 0 ≤ y := l3
     have l4 : y ≤ 1048576 := l4
     obtain ⟨wq, HWQ⟩ : ∃ wq, Hid (wq = wo.alloc (.cells #[.int .i64 x, .int .i64 y] 66)) := ⟨_, Lib.hid rfl⟩
     have HBQ : Hid (Below wo.heap.size wo wq) := Lib.hid (by rw [HWQ.out]; exact (Below.refl _ wo).alloc (Nat.le_refl _) _)
     have KSQ : Hid (wq.heap[wo.heap.size]? = some (.cells #[.int .i64 x, .int .i64 y] 66 (0, 0))) := Lib.hid (by rw [HWQ.out]; exact heap_new wo _)
     have HB1 : Hid (Below X.heap.size X wq) := Lib.hid (HBo.out.trans (HBQ.out.mono HBo.out.size))
     have HPL := Lib.hid (placeQ_yes ⟨l1, l2⟩ ⟨l3, l4⟩ wq)
     clear l1 l2 l3 l4
     go_upto_region 28 with fail
     rw [← HWQ.out]
     clear s0 s1
     obtain ⟨r0, r1, _, _⟩ := row2 KSQ.out
     go_wp2_with fail
     refine HPL.out.mono ?_
     rintro e wv ⟨rfl, hb⟩
     have HBV : Hid (Below X.heap.size X wv) := Lib.hid (HB1.out.trans (hb.mono HB1.out.size))
     clear hb r0 r1
     go_wp2_with fail
     go_roundw
     case rel => exact ⟨k + 1, by omega, by go_num, HBV⟩
     case measure => simp [intOf]; omega
    ·have hd : decide ((k : Int) < (n' : Int)) = false := by simp; omega
     obtain rfl : k = n' := by omega
     have HNU := Lib.hid (numbers_any (w := wo) (c := c8) (HPR.out.below HBo.out) (by have := HN16.out; omega))
     go_wp2_with fail
     refine HNU.out.mono ?_
     rintro e wy ⟨A7, c7, rfl, hown, hb⟩
     have HFY : Hid (Below w.heap.size w wy) := Lib.hid (HFo.out.trans (hb.mono HFo.out.size))
     have hXy := HBo.out.trans (hb.mono HBo.out.size)
     have HSY := Lib.hid (same_yes (w := wy) (c := c9) (d := c7) (HLX.out.below (hXy.mono HUX.out.size)) hown.rd (by have := HN16.out; omega) (fun i hi => by
      rw [plL_at l fs ts _ s (by rw [HFL.out]; exact hi)]
      exact plP_pl stepsOK HLV.out HQ.out.sm (chkE_ok HCE.out).1 (chkE_ok HCE.out).2.1 (by rw [HFL.out]; exact hi)))
     clear hown hb hXy
     go_wp2_with fail
     refine HSY.out.mono ?_
     rintro e wz ⟨rfl, rfl⟩
     go_wp2_with fail
     exact bodyPost_ret (results_tmp rfl _ _ _) rfl ⟨rfl, HFY.out⟩
end Go.Proofs.YtminihiecloglaaGreat
