/-
  PlanBack, over this translation (printed by genpl2.py).
-/
import Derived.Test.YtminihiecloglaaGreatPAa
import Derived.Test.YtminihiecloglaaGreatPFa
import Derived.Test.YtminihiecloglaaGreatPGb
import Derived.Test.YtminihiecloglaaGreatPCm
namespace Go.Proofs.YtminihiecloglaaGreat
open Go.RowKit
open SemP FlP GaP DiP
set_option linter.unusedVariables false
set_option linter.unusedSimpArgs false
set_option maxRecDepth 10000
theorem clo_of {g : List (Nat × Nat)} {s : Nat} (h : closedB g s = true) : clo g s := by
  have hc := (closedB_iff g s).1 h
  intro p hp hb
  obtain ⟨j, hj, e⟩ := List.getElem_of_mem hp
  have h1 : fb g j = p.2 := by unfold fb; rw [List.getD_eq_getElem?_getD, List.getElem?_eq_getElem hj, e]; rfl
  have h2 : fa g j = p.1 := by unfold fa; rw [List.getD_eq_getElem?_getD, List.getElem?_eq_getElem hj, e]; rfl
  have := hc j hj (by rw [h1]; exact hb)
  rw [h2] at this; exact this
theorem closed_zero (g : List (Nat × Nat)) : closedB g 0 = true := (closedB_iff g 0).2 (fun j _ hb => by rw [bt_zero] at hb; cases hb)
theorem clD_at {g : List (Nat × Nat)} {ds : List Int} {m j : Nat} (h : clD g ds m = true) (hj : j ≤ m) : closedB g (stD ds j) = true := by
  cases j with
  | zero => exact closed_zero g
  | succ j =>
    unfold clD at h
    rw [List.all_eq_true] at h
    exact h j (List.mem_range.2 (by omega))
theorem rel_fleet {l : List Sv} {fs ts : List Int} {s : Nat} (hlv : LevOK l) (hsm : SmCat l) (hf : setB l fs = true) (ht : setB l ts = true) : RelP l (plL l fs ts (stL l fs ts) s) := by
  intro k hk
  rw [plL_len] at hk
  obtain ⟨v, e, hv, _, h0, h2⟩ := flK_small (s := s) (stepsOK (l := l) (fs := fs) (ts := ts)) hlv hsm hf ht (Nat.le_refl _) hk
  rw [flK_all stepsOK] at e h0 h2
  exact ⟨v, e, hv, h0, by omega⟩
theorem ix_rev (xs : List Int) (t : Nat) (ht : t < xs.length) : ix xs.reverse t = ix xs (xs.length - 1 - t) := ix_reverse xs t ht
theorem edg_flat {w : World} {base n c : Nat} {A : Option Addr} {es : List (Nat × Nat)} (h : OwnF 91 2 egF w base (.slice A n c) es) : 0 < n → ∃ b off, A = some ⟨b, off, none⟩ ∧ b < w.heap.size ∧ ∀ j u, (es.flatMap egF)[j]? = some u → w.cell? ⟨b, off + j, none⟩ = some u := fun h0 => by
  have hl : es.length = n := by obtain ⟨_, _, e⟩ := h.shape; injection e with _ e _; exact e.symm
  rcases h.2 with ⟨hv, hz⟩ | ⟨g', cap, cur, hv, hbg, hh, hlc, hcm, hcs, htk⟩
  · omega
  · injection hv with hv1 hv2 hv3
    refine ⟨g', 0, hv1, heapE_lt hh, fun j u hj => ?_⟩
    rw [Nat.zero_add]
    have hjl : j < es.length * 2 := by
      have := (List.getElem?_eq_some_iff.1 hj).1
      rw [flatF_len (f := egF) (z := 2) (fun _ => rfl)] at this
      exact this
    exact cells_of hh j u (by rw [← htk] at hj; rw [List.getElem?_take_of_lt hjl] at hj; exact hj)
set_option maxHeartbeats 16000000 in
theorem law_back {w : World} {n c : Nat} {A : Option Addr} {l : List Sv} {A2 A3 : Option Addr} {m c2 m3 c3 : Nat} {fs ts : List Int} {A4 : Option Addr} {md c4 : Nat} {ds : List Int} (hr : RdJ 2 svI w (fun b => w.heap.size ≤ b) A n l) (hcap : CapA A n c) (hf : Rd w w.heap.size A2 m fs) (ht : Rd w w.heap.size A3 m3 ts) (hdd : Rd w w.heap.size A4 md ds) (hm : LenAt w) (h1 : 1 < w.heap.size) :
    Calls Tryz.prog 8 #[.agg #[.slice A n c], .slice A2 m c2, .slice A3 m3 c3, .slice A4 md c4] w fun e w' => e = .returned (.bool true) ∧ Below w.heap.size w w' := by
  have HR := Lib.hid hr
  have HC := Lib.hid hcap
  have HF := Lib.hid hf
  have HT := Lib.hid ht
  have HDD := Lib.hid hdd
  clear hdd
  obtain ⟨W, HW⟩ : ∃ W, Hid (W = w.alloc (.cells #[.slice A n c] 24)) := ⟨_, Lib.hid rfl⟩
  have hbW : Below w.heap.size w W := by rw [HW.out]; exact (Below.refl _ w).alloc (Nat.le_refl _) _
  have H0 : Hid (W.heap[w.heap.size]? = some (.cells #[.slice A n c] 24 (0, 0))) := Lib.hid (by rw [HW.out]; exact heap_new w _)
  have HLW := Lib.hid (LenAt.below hm h1 hbW)
  have HBW := Lib.hid hbW
  have hsz := hbW.size
  clear hr hcap hf ht hm h1 hbW
  obtain ⟨x0, _⟩ := row1f H0.out
  have HAN := Lib.hid (panchor_any W HLW.out.1 HLW.out.2)
  go_enter Tryz.func8, Tryz.ntmps8
  go_upto_region 1 with fail
  change Code.wp _ _ _ _ (w.alloc (.cells #[.slice A n c] 24))
  rw [← HW.out]
  go_wp2_with fail
  refine HAN.out.mono ?_
  rintro e w1 ⟨rfl, hb⟩
  have HB1 : Hid (Below w.heap.size w w1) := Lib.hid (HBW.out.trans (hb.mono hsz))
  have HL1 := Lib.hid (LenAt.below HLW.out.1 HLW.out.2 hb)
  have K1 : Hid (w1.heap[w.heap.size]? = _) := Lib.hid ((hb.block w.heap.size (heapE_lt H0.out)).trans H0.out)
  clear hb x0 HAN
  obtain ⟨x0, _⟩ := row1f K1.out
  have HMC := Lib.hid (right_any (c := c) (RdJ.below sv_turns HR.out HB1.out) HB1.out.size HL1.out.1 HL1.out.2)
  go_wp2_with fail
  refine HMC.out.mono ?_
  rintro e z1 ⟨A', n', c', ok, rfl, hb, hit⟩
  obtain ⟨W2, HW2⟩ : ∃ W2, Hid (W2 = z1.alloc (.cells #[.slice A' n' c'] 29)) := ⟨_, Lib.hid rfl⟩
  have hb2 : Below z1.heap.size z1 W2 := by rw [HW2.out]; exact (Below.refl _ z1).alloc (Nat.le_refl _) _
  have J2 : Hid (W2.heap[z1.heap.size]? = some (.cells #[.slice A' n' c'] 29 (0, 0))) := Lib.hid (by rw [HW2.out]; exact heap_new z1 _)
  have hb12 : Below w1.heap.size w1 W2 := hb.trans (hb2.mono hb.size)
  have HB2 : Hid (Below w.heap.size w W2) := Lib.hid (HB1.out.trans (hb12.mono HB1.out.size))
  have HL2 := Lib.hid (LenAt.below HL1.out.1 HL1.out.2 hb12)
  have K2 : Hid (W2.heap[w.heap.size]? = _) := Lib.hid ((hb12.block w.heap.size (heapE_lt K1.out)).trans K1.out)
  have HIT := Lib.hid (fun h => And.intro (hit h).1 (And.intro (hit h).2.1 (ss_turns.kept (hit h).2.2 hb2)))
  clear hb hb2 hb12 hit x0 HMC
  go_upto_region 4 with fail
  change Code.wp _ _ _ _ (z1.alloc (.cells #[.slice A' n' c'] 29))
  rw [← HW2.out]
  cases ok with
  | false =>
    go_wp2_with fail
    refine bodyPost_ret (results_tmp rfl _ _ _) rfl ⟨rfl, HB2.out⟩
  | true =>
    obtain ⟨hck, hsm, hss⟩ := HIT.out rfl
    obtain ⟨hcap', hrd'⟩ := (ss_turns.go hss (FrM.refl W2 _) (M' := fun b => W2.heap.size ≤ b) (fun b hb => .inr hb)).rd
    have HP : Hid (CatAt W2 w.heap.size A n c l) := Lib.hid ⟨RdJ.below sv_turns HR.out HB2.out, HC.out, HB2.out.size, hsm, HL2.out.1, HL2.out.2⟩
    have HQ : Hid (CatAt W2 W2.heap.size A' n' c' l) := Lib.hid ⟨hrd', hcap', Nat.le_refl _, hsm, HL2.out.1, HL2.out.2⟩
    have HLV := Lib.hid (ck_lev hck)
    have HL12 : Hid (l.length ≤ 12) := Lib.hid (ck_len hck).2
    have HCK := Lib.hid hck
    clear hck hsm hss hcap' hrd' HIT
    by_cases hm30 : (30 : Int) < (m : Int)
    · have d1 : decide ((30 : Int) < (m : Int)) = true := decide_eq_true hm30
      go_wp2_with fail
      refine bodyPost_ret (results_tmp rfl _ _ _) rfl ⟨rfl, HB2.out⟩
    have d1 : decide ((30 : Int) < (m : Int)) = false := decide_eq_false hm30
    by_cases hm31 : (30 : Int) < (m3 : Int)
    · have d2 : decide ((30 : Int) < (m3 : Int)) = true := decide_eq_true hm31
      go_wp2_with fail
      refine bodyPost_ret (results_tmp rfl _ _ _) rfl ⟨rfl, HB2.out⟩
    have d2 : decide ((30 : Int) < (m3 : Int)) = false := decide_eq_false hm31
    by_cases hm50 : (50 : Int) < (md : Int)
    · have d3 : decide ((50 : Int) < (md : Int)) = true := decide_eq_true hm50
      go_wp2_with fail
      refine bodyPost_ret (results_tmp rfl _ _ _) rfl ⟨rfl, HB2.out⟩
    have d3 : decide ((50 : Int) < (md : Int)) = false := decide_eq_false hm50
    have HMK := Lib.hid (make_any (c := c) (c2 := c2) (c3 := c3) HP.out HLV.out (HF.out.below HB2.out) (HT.out.below HB2.out) HB2.out.size HB2.out.size (by omega) (by omega))
    obtain ⟨ME, HME⟩ : ∃ q, Hid (makeE l fs ts = q) := ⟨_, Lib.hid rfl⟩
    rw [HME.out] at HMK
    obtain ⟨x0, _⟩ := row1f K2.out
    go_wp2_with fail
    refine HMK.out.mono ?_
    rintro e w3 ⟨hb, ho⟩
    have HB3 : Hid (Below w.heap.size w w3) := Lib.hid (HB2.out.trans (hb.mono HB2.out.size))
    have J3 : Hid (w3.heap[z1.heap.size]? = _) := Lib.hid ((hb.block z1.heap.size (heapE_lt J2.out)).trans J2.out)
    have HQ3 := Lib.hid (HQ.out.below hb)
    clear hb x0 HMK
    rcases ho with ⟨hne, rfl⟩ | ⟨h0, v, rfl, hp⟩
    · have d4 : (ME != 0) = true := by rw [bne_iff_ne]; exact hne
      have HBX : Hid (Below w.heap.size w (w3.alloc (.cells #[.slice none 0 0, .slice none 0 0, .slice none 0 0, .slice none 0 0] 35))) := Lib.hid (HB3.out.alloc HB3.out.size _)
      clear hne
      go_wp2_with fail
      exact bodyPost_ret (results_tmp rfl _ _ _) rfl ⟨rfl, HBX.out⟩
    have HME0 : Hid (makeE l fs ts = 0) := Lib.hid (by rw [HME.out]; exact h0)
    have HCE : Hid (chkE l fs ts = 0) := Lib.hid (by
      have h := HME0.out
      unfold makeE at h
      by_cases h1 : chkE l fs ts = 0
      · exact h1
      · rw [if_neg h1] at h; exact absurd h h1)
    subst h0
    obtain ⟨AF, AT, AS, AE, mm, cF, cT, N, cS, M, cE, rfl, hlf, hlt, o1, o2, o3, o4⟩ := hp.ex
    obtain rfl : mm = m := by rw [← hlf]; exact HF.out.len
    obtain rfl : m3 = mm := by rw [← hlt]; exact HT.out.len.symm
    have hm3n : m3 = n := by rw [← hlf, ← HP.out.rd.1]; exact (setB_iff.1 (chkE_ok HCE.out).1).1
    have hn'n : n' = m3 := by rw [hm3n, ← HP.out.rd.1, HQ.out.rd.1]
    subst hm3n
    subst hn'n
    have HFL := Lib.hid hlf
    obtain ⟨P1, HP1⟩ : ∃ P1, Hid (P1 = w3.alloc (.cells #[.slice AF n' cF, .slice AT n' cT, .slice AS N cS, .slice AE M cE] 35)) := ⟨_, Lib.hid rfl⟩
    have HWP1 : Hid (Below w3.heap.size w3 P1) := Lib.hid (by rw [HP1.out]; exact (Below.refl _ w3).alloc (Nat.le_refl _) _)
    have KP1 : Hid (P1.heap[w3.heap.size]? = some (.cells #[.slice AF n' cF, .slice AT n' cT, .slice AS N cS, .slice AE M cE] 35 (0, 0))) := Lib.hid (by rw [HP1.out]; exact heap_new w3 _)
    have HBP1 : Hid (Below w.heap.size w P1) := Lib.hid (HB3.out.trans (HWP1.out.mono HB3.out.size))
    have Q1 := Lib.hid (o1.kept HWP1.out)
    have Q2 := Lib.hid (o2.kept HWP1.out)
    have Q3 := Lib.hid (o3.kept HWP1.out)
    have Q4 := Lib.hid (o4.kept HWP1.out)
    have HQP1 := Lib.hid (HQ3.out.below HWP1.out)
    have J4 : Hid (P1.heap[z1.heap.size]? = _) := Lib.hid ((HWP1.out.block z1.heap.size (heapE_lt J3.out)).trans J3.out)
    clear hp o1 o2 o3 o4 hlf hlt
    have HN16 := Lib.hid HQ.out.n16
    have HNS : Hid ((stL l fs ts).length = N) := Lib.hid (by obtain ⟨_, _, e⟩ := Q3.out.shape; injection e with _ e _; exact e.symm)
    have HMG : Hid ((befP l fs ts (stL l fs ts)).length = M) := Lib.hid (by obtain ⟨_, _, e⟩ := Q4.out.shape; injection e with _ e _; exact e.symm)
    have HFL12 : Hid (fs.length ≤ 12) := Lib.hid (by rw [(setB_iff.1 (chkE_ok HCE.out).1).1]; exact HL12.out)
    have HN36 : Hid (N ≤ 36) := Lib.hid (by rw [← HNS.out]; have := stK_len l fs ts fs.length; have := HFL12.out; unfold stL; omega)
    have HM200 : Hid (M ≤ 200) := Lib.hid (by
      rw [← HMG.out]
      have h1 := bef_len (l := l) (ts := ts) (show fs.length ≤ 16 by have := HFL12.out; omega)
      have h2 : fs.length * (fs.length + 2) ≤ 12 * 14 := Nat.mul_le_mul HFL12.out (by have := HFL12.out; omega)
      omega)
    have HIN : Hid (InN N (befP l fs ts (stL l fs ts))) := Lib.hid (by
      intro k hk
      have hmem : (befP l fs ts (stL l fs ts)).getD k default ∈ befP l fs ts (stL l fs ts) := getD_mem hk
      obtain ⟨h1, h2, _⟩ := mem_befP.1 hmem
      rw [HNS.out] at h1 h2
      exact ⟨h1, h2⟩)
    have HPL := Lib.hid (plain_ok (w := P1) (cF := cF) (cT := cT) (cS := cS) (cE := cE) (nF := n') (nT := n') (nE := M) (AF := AF) (AT := AT) (AE := AE) Q3.out.rdS (Nat.le_refl _) (by have := HFL.out; have := HFL12.out; omega) (by have := HFL.out; have := HFL12.out; omega) (by have := HN36.out; omega) HM200.out)
    obtain ⟨y0, y1, y2, y3⟩ := row4 KP1.out
    rw [HP1.out] at y0 y1 y2 y3
    go_wp2_with fail
    try rw [← HP1.out]
    refine HPL.out.mono ?_
    rintro e w4 ⟨DS, dS, rfl, hown, hb⟩
    have HB14 := Lib.hid hb
    obtain ⟨P2, HP2⟩ : ∃ P2, Hid (P2 = w4.alloc (.cells #[.slice AF n' cF, .slice AT n' cT, .slice DS N dS, .slice AE M cE] 41)) := ⟨_, Lib.hid rfl⟩
    have HWP2 : Hid (Below w4.heap.size w4 P2) := Lib.hid (by rw [HP2.out]; exact (Below.refl _ w4).alloc (Nat.le_refl _) _)
    have KQ2 : Hid (P2.heap[w4.heap.size]? = some (.cells #[.slice AF n' cF, .slice AT n' cT, .slice DS N dS, .slice AE M cE] 41 (0, 0))) := Lib.hid (by rw [HP2.out]; exact heap_new w4 _)
    have HB12 : Hid (Below P1.heap.size P1 P2) := Lib.hid (hb.trans (HWP2.out.mono hb.size))
    have HL12' : Hid (w3.heap.size < P1.heap.size ∧ P1.heap.size ≤ P2.heap.size) := Lib.hid ⟨heapE_lt KP1.out, HB12.out.size⟩
    have HBP2 : Hid (Below w.heap.size w P2) := Lib.hid (HBP1.out.trans (HB12.out.mono HBP1.out.size))
    have KP2 : Hid (P2.heap[w3.heap.size]? = _) := Lib.hid ((HB12.out.block w3.heap.size (heapE_lt KP1.out)).trans KP1.out)
    have J5 : Hid (P2.heap[z1.heap.size]? = _) := Lib.hid ((HB12.out.block z1.heap.size (heapE_lt J4.out)).trans J4.out)
    have R1 : Hid (Rd P2 P2.heap.size AF n' fs) := Lib.hid (Rd.of_own (own_of_F (Q1.out.kept HB12.out) HFL.out))
    have R2 : Hid (Rd P2 P2.heap.size AT n' ts) := Lib.hid (Rd.of_own (own_of_F (Q2.out.kept HB12.out) (HT.out.len)))
    have R3 : Hid (RdS P2 P2.heap.size DS N (stL l fs ts)) := Lib.hid (OwnF.kept hown HWP2.out).rdG
    have Q5 := Lib.hid (Q4.out.kept HB12.out)
    have R4 : Hid (RdEg P2 P2.heap.size AE M (befP l fs ts (stL l fs ts))) := Lib.hid Q5.out.edg
    have HQP2 := Lib.hid (HQP1.out.below HB12.out)
    obtain ⟨G, HGG⟩ : ∃ q, Hid (befP l fs ts (stL l fs ts) = q) := ⟨_, Lib.hid rfl⟩
    rw [HGG.out] at HIN Q5 R4 HMG
    have HCMP := Lib.hid (fun (X : World) (hX : Below P2.heap.size P2 X) => compensate_any (w := X) (BE := P2.heap.size) (nF := n') (cF := cF) (nT := n') (cT := cT) (cS := cS) (cE := cE) (c := c4) (AF := AF) (AT := AT) (AS := AS) (R4.out.below hX) hX.size HIN.out (by have := HN36.out; omega) (by have := HM200.out; omega) (HDD.out.below (HBP2.out.trans (hX.mono HBP2.out.size))) (HBP2.out.trans (hX.mono HBP2.out.size)).size (by omega) (edg_flat (Q5.out.kept hX)))
    have HL12 : Hid (w3.heap.size < P2.heap.size) := Lib.hid (by have := HL12'.out; omega)
    have HLJ : Hid (z1.heap.size < P2.heap.size) := Lib.hid (heapE_lt J5.out)
    have HLQ : Hid (w4.heap.size < P2.heap.size) := Lib.hid (heapE_lt KQ2.out)
    have HDL : Hid (ds.length = md) := Lib.hid HDD.out.len
    have HDE : Hid (cmpE N G ds = if okD N ds md = false then 71 else if clD G ds md = false then 32 else 0) := Lib.hid (by unfold cmpE; rw [HDL.out])
    clear hown hb y0 y1 y2 y3 HPL
    have hN64 : N ≤ 64 := by have := HN36.out; omega
    go_upto_region 10 with fail
    rw [← HP2.out]
    go_wp2_with fail
    go_loopw [15, 16, 17, 19, 64] (fun s r q _ v wr => ∃ k : Nat, k ≤ md ∧ v = .int .i64 (k : Int) ∧ r = .bool true ∧ (∃ (S0 : Nat) (qb : Bool), s = .int .u64 (S0 : Int) ∧ q = .bool qb ∧ Hid (S0 = stD ds k) ∧ Hid (qb = clD G ds k)) ∧ Hid (∀ i, i < k → okAt N ds i = true) ∧ Hid (Below P2.heap.size P2 wr)) (fun _ _ _ _ v _ => md - (intOf v).toNat)
    case atStart => exact ⟨0, Nat.zero_le _, rfl, rfl, ⟨0, true, rfl, rfl, Lib.hid rfl, Lib.hid rfl⟩, Lib.hid (fun i h => absurd h (by omega)), Lib.hid (Below.refl _ _)⟩
    case round =>
      obtain ⟨wo, hwo⟩ : ∃ x, x = wr := ⟨_, rfl⟩
      subst hwo
      obtain ⟨k, hk, rfl, rfl, ⟨S0, qb, rfl, rfl, HS0, HQB⟩, HOK, HBo⟩ := hrel
      have HWo : Hid (Below w.heap.size w wo) := Lib.hid (HBP2.out.trans (HBo.out.mono HBP2.out.size))
      by_cases hkm : k < md
      · have hd : decide ((k : Int) < (md : Int)) = true := by simp; omega
        have hki : (k : Int) < (md : Int) := by omega
        have hk0 : (0 : Int) ≤ (k : Int) := by omega
        have hadd : IntKind.i64.wrap ((k : Int) + 1) = ((k + 1 : Nat) : Int) := by rw [IntWalk.i64_in _ (by omega)]; omega
        obtain ⟨b, off, rfl, _, c0⟩ := (HDD.out.below HWo.out).at_ hkm
        obtain ⟨x, HX⟩ : ∃ q, Hid (ix ds k = q) := ⟨_, Lib.hid rfl⟩
        rw [HX.out] at c0
        by_cases hx0 : x < 0
        · have d1 : decide (x < 0) = true := decide_eq_true hx0
          have HR : Hid (cmpE N G ds = 71) := Lib.hid (by rw [HDE.out, if_pos (okD_no (k := k) (by unfold okAt; rw [HX.out, decide_eq_false (by omega)]; rfl) hkm)])
          have HCM := Lib.hid (HCMP.out wo HBo.out)
          obtain ⟨y0, y1, y2, y3⟩ := row4 ((HBo.out.block w3.heap.size HL12.out).trans KP2.out)
          go_wp2_with fail
          refine HCM.out.mono ?_
          rintro e wz ⟨hb, ho⟩
          have HFZ : Hid (Below w.heap.size w wz) := Lib.hid (HWo.out.trans (hb.mono HWo.out.size))
          rcases ho with ⟨_, rfl⟩ | ⟨h0, _⟩
          rotate_left
          · rw [HR.out] at h0; exact absurd h0 (by decide)
          rw [HR.out]
          clear hb
          go_wp2_with fail
          exact bodyPost_ret (results_tmp rfl _ _ _) rfl ⟨rfl, HFZ.out⟩
        have d1 : decide (x < 0) = false := decide_eq_false hx0
        by_cases hxN : (N : Int) ≤ x
        · have d2 : decide ((N : Int) ≤ x) = true := decide_eq_true hxN
          have HR : Hid (cmpE N G ds = 71) := Lib.hid (by rw [HDE.out, if_pos (okD_no (k := k) (by unfold okAt; rw [HX.out, decide_eq_false (show ¬ x < (N : Int) by omega)]; simp) hkm)])
          have HCM := Lib.hid (HCMP.out wo HBo.out)
          obtain ⟨y0, y1, y2, y3⟩ := row4 ((HBo.out.block w3.heap.size HL12.out).trans KP2.out)
          go_wp2_with fail
          refine HCM.out.mono ?_
          rintro e wz ⟨hb, ho⟩
          have HFZ : Hid (Below w.heap.size w wz) := Lib.hid (HWo.out.trans (hb.mono HWo.out.size))
          rcases ho with ⟨_, rfl⟩ | ⟨h0, _⟩
          rotate_left
          · rw [HR.out] at h0; exact absurd h0 (by decide)
          rw [HR.out]
          clear hb
          go_wp2_with fail
          exact bodyPost_ret (results_tmp rfl _ _ _) rfl ⟨rfl, HFZ.out⟩
        have d2 : decide ((N : Int) ≤ x) = false := decide_eq_false hxN
        obtain ⟨v, rfl⟩ := Int.eq_ofNat_of_zero_le (show 0 ≤ x by omega)
        have hvN : v < N := by omega
        have hv0 : (0 : Int) ≤ (v : Int) := by omega
        have hvi : (v : Int) < (N : Int) := by omega
        have hv64 : (v : Int) < 64 := by omega
        have HSL : Hid (S0 < lim) := Lib.hid (by rw [HS0.out]; exact stD_lt hN64 k HOK.out)
        have HINN := Lib.hid (in_any (w := wo) HSL.out (show v < 64 by omega))
        have HBT : Hid (bt S0 v = seenD ds k (v : Int)) := Lib.hid (by rw [HS0.out]; exact bt_stD k HOK.out v)
        cases hsn : seenD ds k (v : Int) with
        | true =>
          have HR : Hid (cmpE N G ds = 71) := Lib.hid (by rw [HDE.out, if_pos (okD_no (k := k) (by unfold okAt; rw [HX.out, hsn]; simp) hkm)])
          rw [HBT.out, hsn] at HINN
          clear hsn
          have HCM := Lib.hid (HCMP.out wo HBo.out)
          obtain ⟨y0, y1, y2, y3⟩ := row4 ((HBo.out.block w3.heap.size HL12.out).trans KP2.out)
          go_wp2_with fail
          refine HINN.out.mono ?_
          rintro e wx ⟨rfl, rfl⟩
          go_wp2_with fail
          refine HCM.out.mono ?_
          rintro e wz ⟨hb, ho⟩
          have HFZ : Hid (Below w.heap.size w wz) := Lib.hid (HWo.out.trans (hb.mono HWo.out.size))
          rcases ho with ⟨_, rfl⟩ | ⟨h0, _⟩
          rotate_left
          · rw [HR.out] at h0; exact absurd h0 (by decide)
          rw [HR.out]
          clear hb
          go_wp2_with fail
          exact bodyPost_ret (results_tmp rfl _ _ _) rfl ⟨rfl, HFZ.out⟩
        | false =>
          have HKY : Hid (okAt N ds k = true) := Lib.hid (by unfold okAt; rw [HX.out, hsn, decide_eq_true hv0, decide_eq_true hvi]; rfl)
          have HOK1 : Hid (∀ i, i < k + 1 → okAt N ds i = true) := Lib.hid (fun i hi => by
            by_cases e : i = k
            · subst e; exact HKY.out
            · exact HOK.out i (by omega))
          rw [HBT.out, hsn] at HINN
          clear hsn
          have HSN : Hid (add S0 v = stD ds (k + 1)) := Lib.hid (by show _ = add (stD ds k) (ix ds k).toNat; rw [HX.out, Int.toNat_natCast, HS0.out])
          have HOR := Lib.hid (or_spell HSL.out (show v < 64 by omega))
          have HOR2 := Lib.hid (or_spell2 HSL.out (show v < 64 by omega))
          obtain ⟨S1, HS1⟩ : ∃ q, Hid (add S0 v = q) := ⟨_, Lib.hid rfl⟩
          have HS1e : Hid (S1 = stD ds (k + 1)) := Lib.hid (by rw [← HS1.out, HSN.out])
          rw [HS1.out] at HOR HOR2
          have hor := HOR.out
          have hor2 := HOR2.out
          have HSL1 : Hid (S1 < lim) := Lib.hid (by rw [HS1e.out]; exact stD_lt hN64 (k + 1) HOK1.out)
          obtain ⟨y0, y1, y2, y3⟩ := row4 ((HBo.out.block w3.heap.size HL12.out).trans KP2.out)
          obtain ⟨q0, q1, q2, q3⟩ := row4 ((HBo.out.block w4.heap.size HLQ.out).trans KQ2.out)
          cases qb with
          | false =>
            have HNC : Hid (false = clD G ds (k + 1)) := Lib.hid (by rw [clD_succ, ← HQB.out]; rfl)
            go_wp2_with fail
            refine HINN.out.mono ?_
            rintro e wx ⟨rfl, rfl⟩
            go_wp2_with fail
            go_roundw
            case rel => exact ⟨k + 1, by omega, by go_num, rfl, ⟨S1, false, rfl, rfl, HS1e, HNC⟩, HOK1, HBo⟩
            case measure => simp [intOf]; omega
          | true =>
            have HGD := Lib.hid (graphD_any (w := wo) (nF := n') (cF := cF) (nT := n') (cT := cT) (nS := N) (cS := dS) (n := M) (c := cE) (AF := AF) (AT := AT) (AS := DS) (A := AE))
            go_wp2_with fail
            refine HINN.out.mono ?_
            rintro e wx ⟨rfl, rfl⟩
            go_wp2_with fail
            refine HGD.out.mono ?_
            rintro e wy ⟨rfl, hb⟩
            have HBy : Hid (Below P2.heap.size P2 wy) := Lib.hid (HBo.out.trans (hb.mono HBo.out.size))
            have HCA := Lib.hid (refClosed_any (w := wy) (c := cE) (s := S1) (R4.out.below HBy.out) HIN.out hN64 (by have := HM200.out; omega) HBy.out.size HSL1.out)
            obtain ⟨cb, HCB⟩ : ∃ q, Hid (closedB G S1 = q) := ⟨_, Lib.hid rfl⟩
            rw [HCB.out] at HCA
            have HNC : Hid (cb = clD G ds (k + 1)) := Lib.hid (by rw [clD_succ, ← HQB.out, ← HS1e.out, HCB.out]; rfl)
            clear hb HGD
            go_wp2_with fail
            refine HCA.out.mono ?_
            rintro e wz ⟨rfl, hb⟩
            have HBz : Hid (Below P2.heap.size P2 wz) := Lib.hid (HBy.out.trans (hb.mono HBy.out.size))
            clear hb
            go_wp2_with fail
            go_roundw
            case rel => exact ⟨k + 1, by omega, by go_num, rfl, ⟨S1, cb, rfl, rfl, HS1e, HNC⟩, HOK1, HBz⟩
            case measure => simp [intOf]; omega
      · have hd : decide ((k : Int) < (md : Int)) = false := by simp; omega
        obtain rfl : k = md := by omega
        have HOKD : Hid (okD N ds k = true) := Lib.hid (okD_iff.2 HOK.out)
        have HDE2 : Hid (cmpE N G ds = if clD G ds k = false then 32 else 0) := Lib.hid (by rw [HDE.out, if_neg (by rw [HOKD.out]; decide)])
        have HCM := Lib.hid (HCMP.out wo HBo.out)
        obtain ⟨y0, y1, y2, y3⟩ := row4 ((HBo.out.block w3.heap.size HL12.out).trans KP2.out)
        cases qb with
        | false =>
          have HR : Hid (cmpE N G ds = 32) := Lib.hid (by rw [HDE2.out, if_pos HQB.out.symm])
          go_wp2_with fail
          refine HCM.out.mono ?_
          rintro e wz ⟨hb, ho⟩
          have HFZ : Hid (Below w.heap.size w wz) := Lib.hid (HWo.out.trans (hb.mono HWo.out.size))
          rcases ho with ⟨_, rfl⟩ | ⟨h0, _⟩
          rotate_left
          · rw [HR.out] at h0; exact absurd h0 (by decide)
          rw [HR.out]
          clear hb
          go_wp2_with fail
          exact bodyPost_ret (results_tmp rfl _ _ _) rfl ⟨rfl, HFZ.out⟩
        | true =>
          have HR : Hid (cmpE N G ds = 0) := Lib.hid (by rw [HDE2.out, if_neg (by rw [← HQB.out]; decide)])
          go_wp2_with fail
          refine HCM.out.mono ?_
          rintro e wz ⟨hb, ho⟩
          rcases ho with ⟨h0, _⟩ | ⟨_, A5, c5, rfl, hr5⟩
          · exact absurd HR.out h0
          have HBz : Hid (Below P2.heap.size P2 wz) := Lib.hid (HBo.out.trans (hb.mono HBo.out.size))
          have HWz : Hid (Below w.heap.size w wz) := Lib.hid (HWo.out.trans (hb.mono HWo.out.size))
          have H5 := Lib.hid hr5
          have hkk : ((k : Int) != (k : Int)) = false := by simp
          clear hb hr5 y0 y1 y2 y3 HCM
          go_wp2_with fail
          go_loopw [15, 22, 23, 129] (fun s _ _ v wr => ∃ i : Nat, i ≤ k ∧ v = .int .i64 (i : Int) ∧ (∃ S2 : Nat, s = .int .u64 (S2 : Int) ∧ Hid (S2 = stD ds (k - i))) ∧ Hid (Below wz.heap.size wz wr)) (fun _ _ _ v _ => k - (intOf v).toNat)
          case atStart => exact ⟨0, Nat.zero_le _, rfl, ⟨S0, rfl, Lib.hid (by rw [HS0.out, Nat.sub_zero])⟩, Lib.hid (Below.refl _ _)⟩
          case round =>
            obtain ⟨wi, hwi⟩ : ∃ x, x = wr := ⟨_, rfl⟩
            subst hwi
            obtain ⟨i, hi, rfl, ⟨S2, rfl, HS2⟩, HBi⟩ := hrel
            have HPi : Hid (Below P2.heap.size P2 wi) := Lib.hid (HBz.out.trans (HBi.out.mono HBz.out.size))
            have HWi : Hid (Below w.heap.size w wi) := Lib.hid (HWz.out.trans (HBi.out.mono HWz.out.size))
            by_cases him : i < k
            · have hd2 : decide ((i : Int) < (k : Int)) = true := by simp; omega
              have hii : (i : Int) < (k : Int) := by omega
              have hi0 : (0 : Int) ≤ (i : Int) := by omega
              have hadd : IntKind.i64.wrap ((i : Int) + 1) = ((i + 1 : Nat) : Int) := by rw [IntWalk.i64_in _ (by omega)]; omega
              obtain ⟨j, HJ⟩ : ∃ j : Nat, Hid (k = i + 1 + j) := ⟨k - i - 1, Lib.hid (by omega)⟩
              have hj := HJ.out
              have hjm : j < k := by omega
              have hji : (j : Int) < (k : Int) := by omega
              have hj0 : (0 : Int) ≤ (j : Int) := by omega
              have w1' : IntKind.i64.wrap ((k : Int) - 1) = (k : Int) - 1 := IntWalk.i64_in _ (by omega)
              have w2' : IntKind.i64.wrap ((k : Int) - 1 - (i : Int)) = (j : Int) := by rw [IntWalk.i64_in _ (by omega)]; omega
              obtain ⟨b5, o5, rfl, _, c5'⟩ := (H5.out.below HBi.out).at_ him
              obtain ⟨b, off, rfl, _, c0⟩ := (HDD.out.below HWi.out).at_ hjm
              obtain ⟨v, hv, hvN, _⟩ := okAt_nat (HOK.out j hjm)
              rw [ix_rev ds i (by rw [HDL.out]; exact him), HDL.out, show k - 1 - i = j by omega, hv] at c5'
              rw [hv] at c0
              have hv0 : (0 : Int) ≤ (v : Int) := by omega
              have hv64 : (v : Int) < 64 := by omega
              have hvv : ((v : Int) != (v : Int)) = false := by simp
              have HS2e : Hid (S2 = stD ds (j + 1)) := Lib.hid (by rw [HS2.out, show k - i = j + 1 by omega])
              have HSL2 : Hid (S2 < lim) := Lib.hid (by rw [HS2e.out]; exact stD_lt hN64 (j + 1) (fun i' hi' => HOK.out i' (by omega)))
              have HAN : Hid (bits BinOp.andNot IntKind.u64 (S2 : Int) ((DiP.one v : Nat) : Int) = ((stD ds j : Nat) : Int)) := Lib.hid (by
                rw [andn_spell HSL2.out (one_lt v (by omega)), HS2e.out]
                have h := stD_less (N := N) (ds := ds) (k := j) hN64 (fun i' hi' => HOK.out i' (by omega))
                rw [hv, Int.toNat_natCast] at h
                rw [h])
              have hW1 : IntKind.u64.wrap (2 ^ min v 64) = ((DiP.one v : Nat) : Int) := by
                rw [Nat.min_eq_left (by omega), shl_one, IntKind.wrap_u64]
                have := one_lt v (show v < 64 by omega)
                unfold lim at this
                omega
              have hW2 : IntKind.u64.wrap (2 ^ v) = ((DiP.one v : Nat) : Int) := by
                rw [shl_one, IntKind.wrap_u64]
                have := one_lt v (show v < 64 by omega)
                unfold lim at this
                omega
              obtain ⟨S3, HS3⟩ : ∃ q, Hid (stD ds j = q) := ⟨_, Lib.hid rfl⟩
              have HS3e : Hid (S3 = stD ds (k - (i + 1))) := Lib.hid (by rw [← HS3.out, show k - (i + 1) = j by omega])
              rw [HS3.out] at HAN
              have han : bits BinOp.andNot IntKind.u64 (S2 : Int) (IntKind.u64.wrap (2 ^ min v 64)) = (S3 : Int) := by rw [hW1]; exact HAN.out
              have han2 : bits BinOp.andNot IntKind.u64 (S2 : Int) (IntKind.u64.wrap (2 ^ v)) = (S3 : Int) := by rw [hW2]; exact HAN.out
              have HSL3 : Hid (S3 < lim) := Lib.hid (by rw [← HS3.out]; exact stD_lt hN64 j (fun i' hi' => HOK.out i' (by omega)))
              have HC3 : Hid (closedB G S3 = true) := Lib.hid (by rw [← HS3.out]; exact clD_at HQB.out.symm (by omega))
              have HGG3 : Hid (goodC l (plL l fs ts (stL l fs ts) S3) = true) := Lib.hid (good_closed HLV.out HQ.out.sm HCE.out (by rw [HGG.out]; exact clo_of HC3.out))
              have KQi : Hid (wi.heap[w4.heap.size]? = _) := Lib.hid ((HPi.out.block w4.heap.size HLQ.out).trans KQ2.out)
              have Ji : Hid (wi.heap[z1.heap.size]? = _) := Lib.hid ((HPi.out.block z1.heap.size HLJ.out).trans J5.out)
              have HC0 := Lib.hid (graphD_any (w := wi.drewN 1) (nF := n') (cF := cF) (nT := n') (cT := cT) (nS := N) (cS := dS) (n := M) (c := cE) (AF := AF) (AT := AT) (AS := DS) (A := AE))
              have HC1 := Lib.hid (fun (X : World) (hX : Below wi.heap.size wi X) => refClosed_any (w := X) (c := cE) (s := S3) (R4.out.below (HPi.out.trans (hX.mono HPi.out.size))) HIN.out hN64 (by have := HM200.out; omega) (HPi.out.trans (hX.mono HPi.out.size)).size HSL3.out)
              have HC2 := Lib.hid (fun (X : World) (hX : Below wi.heap.size wi X) => fleetQ_any (w := X) (s := S3) (c := c') (cF := cF) (cT := cT) (cS := dS) (nE := M) (cE := cE) (AE := AE) (HQP2.out.below (HPi.out.trans (hX.mono HPi.out.size))) HLV.out (R1.out.below (HPi.out.trans (hX.mono HPi.out.size))) (R2.out.below (HPi.out.trans (hX.mono HPi.out.size))) (R3.out.below (HPi.out.trans (hX.mono HPi.out.size)) (Nat.le_refl _)) (HPi.out.trans (hX.mono HPi.out.size)).size (HPi.out.trans (hX.mono HPi.out.size)).size (HPi.out.trans (hX.mono HPi.out.size)).size stepsOK (chkE_ok HCE.out).1 (chkE_ok HCE.out).2.1 HSL3.out hN64)
              have HC4 := Lib.hid (fun (X : World) (hX : Below wi.heap.size wi X) (A9 : Option Addr) (c9 : Nat) (hpr : PrR X A9 n' (plL l fs ts (stL l fs ts) S3)) => goodR_any (w := X) (c := c') (c2 := c9) (HQP2.out.below (HPi.out.trans (hX.mono HPi.out.size))) HLV.out (rel_fleet HLV.out HQ.out.sm (chkE_ok HCE.out).1 (chkE_ok HCE.out).2.1) hpr)
              rw [HC3.out] at HC1
              rw [HGG3.out] at HC4
              have HCEL := Lib.hid (fun (X : World) (hX : Below wi.heap.size wi X) => And.intro (row4 ((hX.block w4.heap.size (heapE_lt KQi.out)).trans KQi.out)) (row1f ((hX.block z1.heap.size (heapE_lt Ji.out)).trans Ji.out)).1)
              obtain ⟨⟨q0, q1, q2, q3⟩, j0⟩ := HCEL.out wi (Below.refl _ _)
              clear hj hv hW1 hW2
              go_wp2_with fail
              clear c0 c5'
              go_region_held3 (fun W' => (W'.cell? ⟨w4.heap.size, 0, none⟩ = some (.slice AF n' cF) ∧ W'.cell? ⟨w4.heap.size, 1, none⟩ = some (.slice AT n' cT) ∧ W'.cell? ⟨w4.heap.size, 2, none⟩ = some (.slice DS N dS) ∧ W'.cell? ⟨w4.heap.size, 3, none⟩ = some (.slice AE M cE)) ∧ W'.cell? ⟨z1.heap.size, 0, none⟩ = some (.slice A' n' c')) ((first | exact ⟨⟨q0, q1, q2, q3⟩, j0⟩ | exact HCEL.out _ HBD.out | exact HCEL.out _ HBC.out | exact HCEL.out _ HBB.out | exact HCEL.out _ HBA.out | go_keep)) (first
                | (go_at_call 34; refine (HC4.out _ HBC.out _ _ HPF.out).mono ?_; rintro e wd ⟨rfl, hb⟩; (have HBD : Hid (Below wi.heap.size wi wd) := Lib.hid (HBC.out.trans (hb.mono HBC.out.size))); clear hb; (obtain ⟨⟨u0, u1, u2, u3⟩, u4⟩ := HCEL.out _ HBD.out))
                | (go_at_call 27; refine (HC2.out _ HBB.out).mono ?_; rintro e wc ⟨A9, c9, rfl, hpr, hb⟩; (have HBC : Hid (Below wi.heap.size wi wc) := Lib.hid (HBB.out.trans (hb.mono HBB.out.size))); (have HPF := Lib.hid hpr); clear hb hpr; (obtain ⟨⟨u0, u1, u2, u3⟩, u4⟩ := HCEL.out _ HBC.out))
                | (go_at_call 32; refine (HC1.out _ HBA.out).mono ?_; rintro e wb ⟨rfl, hb⟩; (have HBB : Hid (Below wi.heap.size wi wb) := Lib.hid (HBA.out.trans (hb.mono HBA.out.size))); clear hb; (obtain ⟨⟨u0, u1, u2, u3⟩, u4⟩ := HCEL.out _ HBB.out))
                | (go_at_call 31; refine HC0.out.mono ?_; rintro e wa ⟨rfl, hb⟩; (have HBA : Hid (Below wi.heap.size wi wa) := Lib.hid ((Below.drewN' (Below.refl _ wi) 1).trans hb)); clear hb; (obtain ⟨⟨u0, u1, u2, u3⟩, u4⟩ := HCEL.out _ HBA.out)))
              have HFD : Hid (Below wz.heap.size wz wd) := Lib.hid (HBi.out.trans (HBD.out.mono HBi.out.size))
              go_wp2_with fail
              go_roundw
              case rel => exact ⟨i + 1, by omega, by go_num, ⟨S3, rfl, HS3e⟩, HFD⟩
              case measure => simp [intOf]; omega
            · have hd2 : decide ((i : Int) < (k : Int)) = false := by simp; omega
              obtain rfl : i = k := by omega
              obtain rfl : S2 = 0 := by rw [HS2.out, Nat.sub_self]; rfl
              have Ji : Hid (wi.heap[z1.heap.size]? = _) := Lib.hid ((HPi.out.block z1.heap.size HLJ.out).trans J5.out)
              have HRL := Lib.hid (relQ_any (w := wi) (c := c') (c2 := c2) (HQP2.out.below HPi.out) (HF.out.below HWi.out) HWi.out.size (by omega))
              rw [(chkE_ok HCE.out).1] at HRL
              obtain ⟨j0, _⟩ := row1f Ji.out
              go_wp2_with fail
              refine HRL.out.mono ?_
              rintro e wf ⟨rfl, hb⟩
              have HFF : Hid (Below w.heap.size w wf) := Lib.hid (HWi.out.trans (hb.mono HWi.out.size))
              clear hb j0
              go_wp2_with fail
              exact bodyPost_ret (results_tmp rfl _ _ _) rfl ⟨rfl, HFF.out⟩
end Go.Proofs.YtminihiecloglaaGreat
