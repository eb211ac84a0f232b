/-
 PlanRight, over this translation (printed by genpl4.py).
-/
import Derived.Test.YtminihiecloglaaGreatPAa
import Derived.Test.YtminihiecloglaaGreatPFg
import Derived.Test.YtminihiecloglaaGreatPRt
set_option linter.unusedVariables false
set_option linter.unusedSimpArgs false
namespace Go.Proofs.YtminihiecloglaaGreat
open Go.RowKit
open SemP FlP GaP DiP
set_option maxRecDepth 10000
theorem full_bt {N j : Nat} (h : j < N) : bt (2 ^ N - 1) j = true := by
 unfold bt
 rw [Nat.testBit_two_pow_sub_one]
 exact decide_eq_true h
theorem full_fits (N : Nat) : fitsB (2 ^ N - 1) N = true := by
 unfold fitsB
 rw [decide_eq_true_eq]
 exact Nat.div_eq_of_lt (Nat.sub_lt (Nat.two_pow_pos N) (by decide))
theorem full_dne {S : List StP} {i : Nat} {k : Int} : dne S (2 ^ S.length - 1) i k = decide (((i : Int), k) ∈ S) := by
 unfold dne
 by_cases h : ((i : Int), k) ∈ S
 ·rw [decide_eq_true h, full_bt (idx_lt h)]; rfl
 ·rw [decide_eq_false h]; rfl
theorem full_fleet {l : List Sv} {fs ts : List Int} (he : chkE l fs ts = 0) : plL l fs ts (stL l fs ts) (2 ^ (stL l fs ts).length - 1) = setL l ts := by
 obtain ⟨hs1, hs2, _, _, hr⟩ := chkE_ok he
 have hlen : ts.length = fs.length := by rw [(setB_iff.1 hs2).1, (setB_iff.1 hs1).1]
 apply List.ext_getElem (by rw [plL_len, setL_len, hlen])
 intro i h1 h2
 have hi : i < fs.length := by rw [plL_len] at h1; exact h1
 have e1 : (plL l fs ts (stL l fs ts) (2 ^ (stL l fs ts).length - 1))[i] = plP l fs ts (stL l fs ts) (2 ^ (stL l fs ts).length - 1) i := by
  have := plL_at l fs ts (stL l fs ts) (2 ^ (stL l fs ts).length - 1) hi
  unfold at_ at this
  rw [List.getD_eq_getElem?_getD, List.getElem?_eq_getElem h1] at this
  exact this
 have e2 : (setL l ts)[i] = setP l ts i := by
  have := setL_at l ts (show i < ts.length by omega)
  unfold at_ at this
  rw [List.getD_eq_getElem?_getD, List.getElem?_eq_getElem h2] at this
  exact this
 rw [e1, e2]
 unfold plP setP
 rw [full_dne, full_dne, full_dne]
 have hri := hr i hi
 have hrd : rise l fs ts i = levAt l i (ix ts i).toNat - levAt l i (ix fs i).toNat := rfl
 by_cases h : ix fs i = ix ts i
 ·have n2 : ((i : Int), (2 : Int)) ∉ stL l fs ts := fun hm => ((mem_at hi).1 hm).1 h
  have n1 : ((i : Int), (1 : Int)) ∉ stL l fs ts := fun hm => ((mem_at hi).1 hm).1 h
  have n3 : ((i : Int), (3 : Int)) ∉ stL l fs ts := fun hm => ((mem_at hi).1 hm).1 h
  rw [decide_eq_false n1, decide_eq_false n2, decide_eq_false n3, h]
  simp [b2i]
 ·have m2 : ((i : Int), (2 : Int)) ∈ stL l fs ts := (mem_at hi).2 ⟨h, .inl rfl⟩
  rw [decide_eq_true m2]
  by_cases h0 : rise l fs ts i = 0
  ·have n1 : ((i : Int), (1 : Int)) ∉ stL l fs ts := fun hm => by
    rcases ((mem_at hi).1 hm).2 with h' | h'
    ·exact absurd h' (by decide)
    ·exact h'.1 h0
   have n3 : ((i : Int), (3 : Int)) ∉ stL l fs ts := fun hm => by
    rcases ((mem_at hi).1 hm).2 with h' | h'
    ·exact absurd h' (by decide)
    ·exact h'.1 h0
   rw [decide_eq_false n1, decide_eq_false n3]
   refine Prod.ext (by simp) ?_
   simp [b2i]; omega
  ·have m1 : ((i : Int), (1 : Int)) ∈ stL l fs ts := (mem_at hi).2 ⟨h, .inr ⟨h0, .inl rfl⟩⟩
   have m3 : ((i : Int), (3 : Int)) ∈ stL l fs ts := (mem_at hi).2 ⟨h, .inr ⟨h0, .inr rfl⟩⟩
   rw [decide_eq_true m1, decide_eq_true m3]
   refine Prod.ext (by simp) ?_
   simp [b2i]; omega
set_option maxHeartbeats 16000000 in
theorem law_right {w : World} {n c : Nat} {A : Option Addr} {l : List Sv} {A2 A3 : Option Addr} {m c2 m3 c3 : Nat} {fs ts : List Int} (hr : RdJ 2 svI w (fun b => w.heap.size ≤ b) A n l) (hcap : CapA A n c) (hf : Rd w w.heap.size A2 m fs) (ht : Rd w w.heap.size A3 m3 ts) (hm : LenAt w) (h1 : 1 < w.heap.size) :
  Calls Tryz.prog 4 #[.agg #[.slice A n c], .slice A2 m c2, .slice A3 m3 c3] w fun e w' => e = .returned (.bool true) ∧ Below w.heap.size w w' := by
 have HR := Lib.hid hr
 have HC := Lib.hid hcap
 have HF := Lib.hid hf
 have HT := Lib.hid ht
 obtain ⟨W, HW⟩ : ∃ W, Hid (W = w.alloc (.cells #[.slice A n c] 24)) := ⟨_, Lib.hid rfl⟩
 have hbW : Below w.heap.size w W := by rw [HW.out]; exact (Below.refl _ w).alloc (Nat.le_refl _) _
 have H0 : Hid (W.heap[w.heap.size]? = some (.cells #[.slice A n c] 24 (0, 0))) := Lib.hid (by rw [HW.out]; exact heap_new w _)
 have HLW := Lib.hid (LenAt.below hm h1 hbW)
 have HBW := Lib.hid hbW
 have hsz := hbW.size
 clear hr hcap hf ht hm h1 hbW
 obtain ⟨x0, _⟩ := row1f H0.out
 have HAN := Lib.hid (panchor_any W HLW.out.1 HLW.out.2)
 go_enter Tryz.func4, Tryz.ntmps4
 go_upto_region 1 with fail
 change Code.wp _ _ _ _ (w.alloc (.cells #[.slice A n c] 24))
 rw [← HW.out]
 go_wp2_with fail
 refine HAN.out.mono ?_
 rintro e w1 ⟨rfl, hb⟩
 have HB1 : Hid (Below w.heap.size w w1) := Lib.hid (HBW.out.trans (hb.mono hsz))
 have HL1 := Lib.hid (LenAt.below HLW.out.1 HLW.out.2 hb)
 have K1 : Hid (w1.heap[w.heap.size]? = _) := Lib.hid ((hb.block w.heap.size (heapE_lt H0.out)).trans H0.out)
 clear hb x0 HAN
 obtain ⟨x0, _⟩ := row1f K1.out
 have HMC := Lib.hid (right_any (c := c) (RdJ.below sv_turns HR.out HB1.out) HB1.out.size HL1.out.1 HL1.out.2)
 go_wp2_with fail
 refine HMC.out.mono ?_
 rintro e z1 ⟨A', n', c', ok, rfl, hb, hit⟩
 obtain ⟨W2, HW2⟩ : ∃ W2, Hid (W2 = z1.alloc (.cells #[.slice A' n' c'] 29)) := ⟨_, Lib.hid rfl⟩
 have hb2 : Below z1.heap.size z1 W2 := by rw [HW2.out]; exact (Below.refl _ z1).alloc (Nat.le_refl _) _
 have J2 : Hid (W2.heap[z1.heap.size]? = some (.cells #[.slice A' n' c'] 29 (0, 0))) := Lib.hid (by rw [HW2.out]; exact heap_new z1 _)
 have hb12 : Below w1.heap.size w1 W2 := hb.trans (hb2.mono hb.size)
 have HB2 : Hid (Below w.heap.size w W2) := Lib.hid (HB1.out.trans (hb12.mono HB1.out.size))
 have HL2 := Lib.hid (LenAt.below HL1.out.1 HL1.out.2 hb12)
 have K2 : Hid (W2.heap[w.heap.size]? = _) := Lib.hid ((hb12.block w.heap.size (heapE_lt K1.out)).trans K1.out)
 have HIT := Lib.hid (fun h => And.intro (hit h).1 (And.intro (hit h).2.1 (ss_turns.kept (hit h).2.2 hb2)))
 clear hb hb2 hb12 hit x0 HMC
 go_upto_region 4 with fail
 change Code.wp _ _ _ _ (z1.alloc (.cells #[.slice A' n' c'] 29))
 rw [← HW2.out]
 cases ok with
 | false =>
  go_wp2_with fail
  refine bodyPost_ret (results_tmp rfl _ _ _) rfl ⟨rfl, HB2.out⟩
 | true =>
  obtain ⟨hck, hsm, hss⟩ := HIT.out rfl
  obtain ⟨hcap', hrd'⟩ := (ss_turns.go hss (FrM.refl W2 _) (M' := fun b => W2.heap.size ≤ b) (fun b hb => .inr hb)).rd
  have HP : Hid (CatAt W2 w.heap.size A n c l) := Lib.hid ⟨RdJ.below sv_turns HR.out HB2.out, HC.out, HB2.out.size, hsm, HL2.out.1, HL2.out.2⟩
  have HQ : Hid (CatAt W2 W2.heap.size A' n' c' l) := Lib.hid ⟨hrd', hcap', Nat.le_refl _, hsm, HL2.out.1, HL2.out.2⟩
  have HLV := Lib.hid (ck_lev hck)
  have HL12 : Hid (l.length ≤ 12) := Lib.hid (ck_len hck).2
  have HCK := Lib.hid hck
  clear hck hsm hss hcap' hrd' HIT
  by_cases hm30 : (30 : Int) < (m : Int)
  ·have d1 : decide ((30 : Int) < (m : Int)) = true := decide_eq_true hm30
   go_wp2_with fail
   refine bodyPost_ret (results_tmp rfl _ _ _) rfl ⟨rfl, HB2.out⟩
  have d1 : decide ((30 : Int) < (m : Int)) = false := decide_eq_false hm30
  by_cases hm31 : (30 : Int) < (m3 : Int)
  ·have d2 : decide ((30 : Int) < (m3 : Int)) = true := decide_eq_true hm31
   go_wp2_with fail
   refine bodyPost_ret (results_tmp rfl _ _ _) rfl ⟨rfl, HB2.out⟩
  have d2 : decide ((30 : Int) < (m3 : Int)) = false := decide_eq_false hm31
  have HMK := Lib.hid (make_any (c := c) (c2 := c2) (c3 := c3) HP.out HLV.out (HF.out.below HB2.out) (HT.out.below HB2.out) HB2.out.size HB2.out.size (by omega) (by omega))
  obtain ⟨ME, HME⟩ : ∃ q, Hid (makeE l fs ts = q) := ⟨_, Lib.hid rfl⟩
  rw [HME.out] at HMK
  obtain ⟨x0, _⟩ := row1f K2.out
  go_wp2_with fail
  refine HMK.out.mono ?_
  rintro e w3 ⟨hb, ho⟩
  have HB3 : Hid (Below w.heap.size w w3) := Lib.hid (HB2.out.trans (hb.mono HB2.out.size))
  have J3 : Hid (w3.heap[z1.heap.size]? = _) := Lib.hid ((hb.block z1.heap.size (heapE_lt J2.out)).trans J2.out)
  have HQ3 := Lib.hid (HQ.out.below hb)
  have HPP3 := Lib.hid (HP.out.below hb)
  have KC3 : Hid (w3.heap[w.heap.size]? = _) := Lib.hid ((hb.block w.heap.size (heapE_lt K2.out)).trans K2.out)
  clear hb x0 HMK
  rcases ho with ⟨hne, rfl⟩ | ⟨h0, v, rfl, hp⟩
  ·have d4 : (ME != 0) = true := by rw [bne_iff_ne]; exact hne
   have HBX : Hid (Below w.heap.size w (w3.alloc (.cells #[.slice none 0 0, .slice none 0 0, .slice none 0 0, .slice none 0 0] 35))) := Lib.hid (HB3.out.alloc HB3.out.size _)
   clear hne
   obtain ⟨_, _, zz2, _⟩ := row4 (heap_new w3 (.cells #[.slice none 0 0, .slice none 0 0, .slice none 0 0, .slice none 0 0] 35))
   go_wp2_with fail
   exact bodyPost_ret (results_tmp rfl _ _ _) rfl ⟨rfl, HBX.out⟩
  have HME0 : Hid (makeE l fs ts = 0) := Lib.hid (by rw [HME.out]; exact h0)
  have HCE : Hid (chkE l fs ts = 0) := Lib.hid (by
   have h := HME0.out
   unfold makeE at h
   by_cases h1 : chkE l fs ts = 0
   ·exact h1
   ·rw [if_neg h1] at h; exact absurd h h1)
  subst h0
  obtain ⟨AF, AT, AS, AE, mm, cF, cT, N, cS, M, cE, rfl, hlf, hlt, o1, o2, o3, o4⟩ := hp.ex
  obtain rfl : mm = m := by rw [← hlf]; exact HF.out.len
  obtain rfl : m3 = mm := by rw [← hlt]; exact HT.out.len.symm
  have hm3n : m3 = n := by rw [← hlf, ← HP.out.rd.1]; exact (setB_iff.1 (chkE_ok HCE.out).1).1
  have hn'n : n' = m3 := by rw [hm3n, ← HP.out.rd.1, HQ.out.rd.1]
  subst hm3n
  subst hn'n
  have HFL := Lib.hid hlf
  obtain ⟨P1, HP1⟩ : ∃ P1, Hid (P1 = w3.alloc (.cells #[.slice AF n' cF, .slice AT n' cT, .slice AS N cS, .slice AE M cE] 35)) := ⟨_, Lib.hid rfl⟩
  have HWP1 : Hid (Below w3.heap.size w3 P1) := Lib.hid (by rw [HP1.out]; exact (Below.refl _ w3).alloc (Nat.le_refl _) _)
  have KP1 : Hid (P1.heap[w3.heap.size]? = some (.cells #[.slice AF n' cF, .slice AT n' cT, .slice AS N cS, .slice AE M cE] 35 (0, 0))) := Lib.hid (by rw [HP1.out]; exact heap_new w3 _)
  have HBP1 : Hid (Below w.heap.size w P1) := Lib.hid (HB3.out.trans (HWP1.out.mono HB3.out.size))
  have Q1 := Lib.hid (o1.kept HWP1.out)
  have Q2 := Lib.hid (o2.kept HWP1.out)
  have Q3 := Lib.hid (o3.kept HWP1.out)
  have Q4 := Lib.hid (o4.kept HWP1.out)
  have HQP1 := Lib.hid (HQ3.out.below HWP1.out)
  have J4 : Hid (P1.heap[z1.heap.size]? = _) := Lib.hid ((HWP1.out.block z1.heap.size (heapE_lt J3.out)).trans J3.out)
  clear hp o1 o2 o3 o4 hlf hlt
  have HN16 := Lib.hid HQ.out.n16
  have HNS : Hid ((stL l fs ts).length = N) := Lib.hid (by obtain ⟨_, _, e⟩ := Q3.out.shape; injection e with _ e _; exact e.symm)
  have HMG : Hid ((befP l fs ts (stL l fs ts)).length = M) := Lib.hid (by obtain ⟨_, _, e⟩ := Q4.out.shape; injection e with _ e _; exact e.symm)
  have HFL12 : Hid (fs.length ≤ 12) := Lib.hid (by rw [(setB_iff.1 (chkE_ok HCE.out).1).1]; exact HL12.out)
  have HN36 : Hid (N ≤ 36) := Lib.hid (by rw [← HNS.out]; have := stK_len l fs ts fs.length; have := HFL12.out; unfold stL; omega)
  have HM200 : Hid (M ≤ 200) := Lib.hid (by
   rw [← HMG.out]
   have h1 := bef_len (l := l) (ts := ts) (show fs.length ≤ 16 by have := HFL12.out; omega)
   have h2 : fs.length * (fs.length + 2) ≤ 12 * 14 := Nat.mul_le_mul HFL12.out (by have := HFL12.out; omega)
   omega)
  have HIN : Hid (InN N (befP l fs ts (stL l fs ts))) := Lib.hid (by
   intro k hk
   have hmem : (befP l fs ts (stL l fs ts)).getD k default ∈ befP l fs ts (stL l fs ts) := getD_mem hk
   obtain ⟨h1, h2, _⟩ := mem_befP.1 hmem
   rw [HNS.out] at h1 h2
   exact ⟨h1, h2⟩)
  have HPL := Lib.hid (plain_ok (w := P1) (cF := cF) (cT := cT) (cS := cS) (cE := cE) (nF := n') (nT := n') (nE := M) (AF := AF) (AT := AT) (AE := AE) Q3.out.rdS (Nat.le_refl _) (by have := HFL.out; have := HFL12.out; omega) (by have := HFL.out; have := HFL12.out; omega) (by have := HN36.out; omega) HM200.out)
  obtain ⟨y0, y1, y2, y3⟩ := row4 KP1.out
  rw [HP1.out] at y0 y1 y2 y3
  go_wp2_with fail
  try rw [← HP1.out]
  refine HPL.out.mono ?_
  rintro e w4 ⟨DS, dS, rfl, hown, hb⟩
  have HB14 := Lib.hid hb
  obtain ⟨P2, HP2⟩ : ∃ P2, Hid (P2 = w4.alloc (.cells #[.slice AF n' cF, .slice AT n' cT, .slice DS N dS, .slice AE M cE] 41)) := ⟨_, Lib.hid rfl⟩
  have HWP2 : Hid (Below w4.heap.size w4 P2) := Lib.hid (by rw [HP2.out]; exact (Below.refl _ w4).alloc (Nat.le_refl _) _)
  have KQ2 : Hid (P2.heap[w4.heap.size]? = some (.cells #[.slice AF n' cF, .slice AT n' cT, .slice DS N dS, .slice AE M cE] 41 (0, 0))) := Lib.hid (by rw [HP2.out]; exact heap_new w4 _)
  have HB12 : Hid (Below P1.heap.size P1 P2) := Lib.hid (hb.trans (HWP2.out.mono hb.size))
  have HL12' : Hid (w3.heap.size < P1.heap.size ∧ P1.heap.size ≤ P2.heap.size) := Lib.hid ⟨heapE_lt KP1.out, HB12.out.size⟩
  have HBP2 : Hid (Below w.heap.size w P2) := Lib.hid (HBP1.out.trans (HB12.out.mono HBP1.out.size))
  have KP2 : Hid (P2.heap[w3.heap.size]? = _) := Lib.hid ((HB12.out.block w3.heap.size (heapE_lt KP1.out)).trans KP1.out)
  have J5 : Hid (P2.heap[z1.heap.size]? = _) := Lib.hid ((HB12.out.block z1.heap.size (heapE_lt J4.out)).trans J4.out)
  have R1 : Hid (Rd P2 P2.heap.size AF n' fs) := Lib.hid (Rd.of_own (own_of_F (Q1.out.kept HB12.out) HFL.out))
  have R2 : Hid (Rd P2 P2.heap.size AT n' ts) := Lib.hid (Rd.of_own (own_of_F (Q2.out.kept HB12.out) (HT.out.len)))
  have R3 : Hid (RdS P2 P2.heap.size DS N (stL l fs ts)) := Lib.hid (OwnF.kept hown HWP2.out).rdG
  have Q5 := Lib.hid (Q4.out.kept HB12.out)
  have R4 : Hid (RdEg P2 P2.heap.size AE M (befP l fs ts (stL l fs ts))) := Lib.hid Q5.out.edg
  have HQP2 := Lib.hid (HQP1.out.below HB12.out)
  have HPP2 := Lib.hid ((HPP3.out.below HWP1.out).below HB12.out)
  have KC2 : Hid (P2.heap[w.heap.size]? = _) := Lib.hid ((HB12.out.block w.heap.size (heapE_lt ((HWP1.out.block w.heap.size (heapE_lt KC3.out)).trans KC3.out))).trans ((HWP1.out.block w.heap.size (heapE_lt KC3.out)).trans KC3.out))
  have R5 : Hid (RdS P2 P2.heap.size AS N (stL l fs ts)) := Lib.hid (OwnF.kept Q3.out HB12.out).rdS
  have HL12 : Hid (w3.heap.size < P2.heap.size) := Lib.hid (by have := HL12'.out; omega)
  have HLJ : Hid (z1.heap.size < P2.heap.size) := Lib.hid (heapE_lt J5.out)
  have HLQ : Hid (w4.heap.size < P2.heap.size) := Lib.hid (heapE_lt KQ2.out)
  have HLC : Hid (w.heap.size < P2.heap.size) := Lib.hid (heapE_lt KC2.out)
  clear hown hb y0 y1 y2 y3 HPL
  have hN64 : N ≤ 64 := by have := HN36.out; omega
  go_upto_region 10 with fail
  rw [← HP2.out]
  obtain ⟨q0, q1, q2, q3⟩ := row4 KQ2.out
  by_cases h10 : (10 : Int) < (N : Int)
  ·have d5 : decide ((10 : Int) < (N : Int)) = true := decide_eq_true h10
   go_wp2_with fail
   exact bodyPost_ret (results_tmp rfl _ _ _) rfl ⟨rfl, HBP2.out⟩
  have d5 : decide ((10 : Int) < (N : Int)) = false := decide_eq_false h10
  have hN10 : N ≤ 10 := by omega
  have HGOES : Hid (Goes (befG (befP l fs ts (stL l fs ts))) N N) := Lib.hid (by
   have h := HME0.out
   unfold makeE at h
   rw [if_pos HCE.out, HNS.out] at h
   open Classical in
   by_cases h1 : Goes (befG (befP l fs ts (stL l fs ts))) N N
   ·exact h1
   ·rw [if_neg h1] at h; exact absurd h (by decide))
  have HCQ := Lib.hid (checkQ_made (w := P2) (c := c') (cF := cF) (cT := cT) (cS := dS) (cE := cE) HQP2.out HLV.out R1.out R2.out R3.out R4.out (Nat.le_refl _) (Nat.le_refl _) (Nat.le_refl _) (Nat.le_refl _) rfl rfl HCE.out HGOES.out hN10 (by have := HM200.out; omega))
  obtain ⟨j0, _⟩ := row1f J5.out
  clear h10
  go_wp2_with fail
  refine HCQ.out.mono ?_
  rintro e T ⟨rfl, hb⟩
  have HPT := Lib.hid hb
  have HCR := Lib.hid (checkR_any (w := T) (c := c) (cF := cF) (cT := cT) (cS := cS) (cE := cE) (HPP2.out.below hb) HLV.out (R1.out.below hb) (R2.out.below hb) (R5.out.below hb (Nat.le_refl _)) hb.size hb.size hb.size rfl rfl (OwnF.edF (Q5.out.kept hb)) HMG.out HGOES.out HFL.out HCE.out)
  clear hb q0 q1 q2 q3 j0 HCQ
  obtain ⟨x0, _⟩ := row1f ((HPT.out.block w.heap.size HLC.out).trans KC2.out)
  obtain ⟨y0, y1, y2, y3⟩ := row4 ((HPT.out.block w3.heap.size HL12.out).trans KP2.out)
  go_wp2_with fail
  refine HCR.out.mono ?_
  rintro e U ⟨rfl, hb⟩
  have HPU : Hid (Below P2.heap.size P2 U) := Lib.hid (HPT.out.trans (hb.mono HPT.out.size))
  have h1024 : DiP.one N ≤ 1024 := Nat.le_trans (Nat.pow_le_pow_right (by decide) hN10) (by decide)
  have HPOS : Hid (1 ≤ DiP.one N) := Lib.hid (Nat.two_pow_pos N)
  obtain ⟨ALL, HAL⟩ : ∃ q, Hid (DiP.one N = q) := ⟨_, Lib.hid rfl⟩
  rw [HAL.out] at h1024 HPOS
  have hW1 : IntKind.u64.wrap (2 ^ min N 64) = (ALL : Int) := by
   rw [Nat.min_eq_left (by omega), shl_one, IntKind.wrap_u64, HAL.out]
   omega
  have hW2 : IntKind.u64.wrap (2 ^ N) = (ALL : Int) := by
   rw [shl_one, IntKind.wrap_u64, HAL.out]
   omega
  have hpos := HPOS.out
  have hsub : IntKind.u64.wrap ((ALL : Int) - 1) = ((ALL - 1 : Nat) : Int) := by rw [IntWalk.u64_in _ (by omega)]; omega
  have HSLM : Hid (ALL - 1 < lim) := Lib.hid (by unfold lim; omega)
  have HFT : Hid (fitsB (ALL - 1) N = true) := Lib.hid (by rw [← HAL.out]; exact full_fits N)
  have HFF : Hid (plL l fs ts (stL l fs ts) (ALL - 1) = setL l ts) := Lib.hid (by
   have h := full_fleet HCE.out
   rw [HNS.out] at h
   rw [← HAL.out]; exact h)
  have hk0 : (0 : Int) ≤ (N : Int) := by omega
  have KCU : Hid (U.heap[w.heap.size]? = _) := Lib.hid ((HPU.out.block w.heap.size HLC.out).trans KC2.out)
  have KPU : Hid (U.heap[w3.heap.size]? = _) := Lib.hid ((HPU.out.block w3.heap.size HL12.out).trans KP2.out)
  have hppu := HPP2.out.below HPU.out
  have hppd : CatAt (U.drewN 1) w.heap.size A n' c l := ⟨hppu.rd, hppu.cap, hppu.le, hppu.sm, hppu.len, hppu.one⟩
  have HFP := Lib.hid (fleetP_any (w := U.drewN 1) (s := ALL - 1) (c := c) (BF := P2.heap.size) (BT := P2.heap.size) (BS := P2.heap.size) (cF := cF) (cT := cT) (cS := cS) (nE := M) (cE := cE) (AE := AE) (fs := fs) (ts := ts) hppd HLV.out (show Rd U P2.heap.size AF n' fs from R1.out.below HPU.out) (show Rd U P2.heap.size AT n' ts from R2.out.below HPU.out) ((R5.out.below HPU.out (Nat.le_refl _)).drewN 1) HPU.out.size HPU.out.size HPU.out.size stepsOK (chkE_ok HCE.out).1 (chkE_ok HCE.out).2.1 HSLM.out hN64)
  obtain ⟨S1, HS1⟩ : ∃ q, Hid (ALL - 1 = q) := ⟨_, Lib.hid rfl⟩
  rw [HS1.out] at hsub HFP HFF HFT
  clear hb x0 y0 y1 y2 y3 HCR hpos hppu hppd
  obtain ⟨x0, _⟩ := row1f KCU.out
  obtain ⟨y0, y1, y2, y3⟩ := row4 KPU.out
  go_wp2_with fail
  go_region_held3 (fun W' => W'.cell? ⟨w.heap.size, 0, none⟩ = some (.slice A n' c) ∧ W'.cell? ⟨w3.heap.size, 0, none⟩ = some (.slice AF n' cF) ∧ W'.cell? ⟨w3.heap.size, 1, none⟩ = some (.slice AT n' cT) ∧ W'.cell? ⟨w3.heap.size, 2, none⟩ = some (.slice AS N cS) ∧ W'.cell? ⟨w3.heap.size, 3, none⟩ = some (.slice AE M cE)) ((first | exact ⟨x0, y0, y1, y2, y3⟩ | exact ⟨u0, u1, u2, u3, u4⟩ | go_keep)) (first
   |(go_at_call 19; refine HFP.out.mono ?_; rintro e V ⟨hb', ho⟩; rcases ho with ⟨h0, _⟩ | ⟨_, A9, c9, rfl, hl9⟩; (rw [HFT.out] at h0; cases h0); (have hb : Below U.heap.size U V := (Below.drewN' (Below.refl _ U) 1).trans hb'); (have u0 := (row1f ((hb.block w.heap.size (heapE_lt KCU.out)).trans KCU.out)).1); (obtain ⟨u1, u2, u3, u4⟩ := row4 ((hb.block w3.heap.size (heapE_lt KPU.out)).trans KPU.out)); (have HBV := Lib.hid hb); (have HL9 := Lib.hid hl9); clear hb hb' hl9))
  rw [HFF.out] at HL9
  have HPV : Hid (Below P2.heap.size P2 V) := Lib.hid (HPU.out.trans (HBV.out.mono HPU.out.size))
  have HWV : Hid (Below w.heap.size w V) := Lib.hid (HBP2.out.trans (HPV.out.mono HBP2.out.size))
  have HSE := Lib.hid (settled_any (w := V) (c := c) (c2 := c3) (HPP2.out.below HPV.out) HLV.out (HT.out.below HWV.out) HWV.out.size (by have := HN16.out; omega))
  clear u0 u1 u2 u3 u4 x0 y0 y1 y2 y3 HFP
  obtain ⟨x0, _⟩ := row1f ((HPV.out.block w.heap.size HLC.out).trans KC2.out)
  go_wp2_with fail
  refine HSE.out.mono ?_
  rintro e Z ⟨hb, ho⟩
  rcases ho with ⟨_, A8, c8, rfl, ho8⟩ | ⟨hs1, _⟩
  rotate_left
  ·rw [(chkE_ok HCE.out).2.1] at hs1; cases hs1
  have HFZ : Hid (Below w.heap.size w Z) := Lib.hid (HWV.out.trans (hb.mono HWV.out.size))
  have HSY := Lib.hid (same_yes (w := Z) (c := c9) (d := c8) (HL9.out.below hb) ho8.rd (by have := HN16.out; omega) (fun i hi => by
   have hil : i < ts.length := by rw [HT.out.len]; exact hi
   rw [setL_at l ts hil]
   exact setP_pl HLV.out HQ.out.sm (chkE_ok HCE.out).2.1 hil))
  clear hb ho8 x0 HSE
  go_wp2_with fail
  refine HSY.out.mono ?_
  rintro e Y ⟨rfl, rfl⟩
  go_wp2_with fail
  exact bodyPost_ret (results_tmp rfl _ _ _) rfl ⟨rfl, HFZ.out⟩
end Go.Proofs.YtminihiecloglaaGreat
