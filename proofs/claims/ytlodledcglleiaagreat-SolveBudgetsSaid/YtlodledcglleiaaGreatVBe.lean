/-
  THE DOCUMENT'S Best: all choices, one by one.
-/
import Derived.Test.YtlodledcglleiaaGreatVTr
import Derived.Test.YtlodledcglleiaaGreatVSz
namespace Go.Proofs.YtlodledcglleiaaGreat
open Go.RowKit
open SemP DiP FlP GaP SeaP
set_option linter.unusedVariables false
set_option linter.unusedSimpArgs false
set_option maxRecDepth 10000
theorem cntP_snoc : ∀ (os : List (List Int)) (o : List Int), cntP (os ++ [o]) = cntP os * o.length
  | [], o => by simp [cntP]
  | x :: os, o => by
    show x.length * cntP (os ++ [o]) = x.length * cntP os * o.length
    rw [cntP_snoc os o, Nat.mul_assoc]
theorem cntP_ords {l : List Sv} {ms vs : List Int} (h : ∀ i, i < l.length → (ordV l ms vs i).length = (svAt l i).2.length) : ∀ k, k ≤ l.length → cntP (ordsK l ms vs k) = szN l k
  | 0, _ => rfl
  | k + 1, hk => by
    rw [ordsK_succ, cntP_snoc, cntP_ords h k (by omega), h k (by omega)]; rfl
theorem ix_dropC {cs : List Int} {i : Nat} (h : i < cs.length) : cs.drop i = ix cs i :: cs.drop (i + 1) := drop_iz h
/-- The preferred target of all choices. -/
def bestR (l : List Sv) (vs : List Int) (ps : List Nd) (ms : List Int) : Option (List Int) := (prods (ordsL l ms vs)).find? (tgtB l ps)
set_option maxHeartbeats 16000000 in
theorem bestQ_any {w : World} {B B2 B3 n c c2 np cp cm : Nat} {A A2 Aq Am : Option Addr} {l : List Sv} {vs ms : List Int} {ps : List Nd} (hs12 : ∀ s ∈ l, s.2.length ≤ 12) (hset : setB l vs = true) (hmod : modB ms = true) (hml : ms.length = l.length)
    (h : CatAt w B A n c l) (hv : Rd w B2 A2 n vs) (hB2 : B2 ≤ w.heap.size) (hq : ReqAt w B3 Aq np Am n ps ms) :
    Calls Tryz.prog 20 #[.agg #[.slice A n c], .slice A2 n c2, .agg #[.slice Aq np cp, .slice Am n cm]] w fun e w' => Below w.heap.size w w' ∧ ((∃ t v, bestR l vs ps ms = some t ∧ e = .returned (.tuple #[v, .bool true]) ∧ Own w' w.heap.size v n t) ∨ (bestR l vs ps ms = none ∧ e = .returned (.tuple #[.slice none 0 0, .bool false]))) := by
  obtain ⟨W, HW⟩ : ∃ W, Hid (W = (w.alloc (.cells #[.slice A n c] 28)).alloc (.cells #[.slice Aq np cp, .slice Am n cm] 49)) := ⟨_, Lib.hid rfl⟩
  have hbl : Below w.heap.size w W := by rw [HW.out]; exact ((Below.refl _ w).alloc (Nat.le_refl _) _).alloc (by simp) _
  have HBL := Lib.hid hbl
  have H0 : Hid (W.heap[w.heap.size]? = some (.cells #[.slice A n c] 28 (0, 0))) := Lib.hid (by
    rw [HW.out, Below.heap_alloc _ _ _ (by simp)]; exact heap_new w _)
  have H1 : Hid (W.heap[w.heap.size + 1]? = some (.cells #[.slice Aq np cp, .slice Am n cm] 49 (0, 0))) := Lib.hid (by
    rw [HW.out]
    have h := heap_new (w.alloc (.cells #[.slice A n c] 28)) (.cells #[.slice Aq np cp, .slice Am n cm] 49)
    rw [World.size_alloc] at h; exact h)
  have HCA := Lib.hid h
  have HV := Lib.hid hv
  have HQ := Lib.hid hq
  have HB2 := Lib.hid hB2
  have HS12 := Lib.hid hs12
  have HNL : Hid (l.length = n) := Lib.hid h.rd.1
  have HVL : Hid (vs.length = n) := Lib.hid hv.len
  have HML : Hid (ms.length = n) := Lib.hid hq.md.len
  have HSET := Lib.hid (setB_iff.1 hset)
  have HMOD := Lib.hid hmod
  have hn16 := h.n16
  have HOL : Hid ((ordsL l ms vs).length = n) := Lib.hid (by rw [ordsL_len, h.rd.1])
  have HOVL : Hid (∀ i, i < n → (ordV l ms vs i).length = (svAt l i).2.length) := Lib.hid (fun i hi => ordV_len hs12 hset hmod hml (by rw [h.rd.1]; exact hi))
  have HPOS : Hid (∀ i, i < n → 0 < (svAt l i).2.length) := Lib.hid (fun i hi => by
    obtain ⟨a, b, ea, _, ha, hb⟩ := isR_nat ((setB_iff.1 hset).2 i (by rw [hv.len]; exact hi))
    obtain rfl : i = a := by omega
    omega)
  have HOP : Hid (∀ o ∈ ordsL l ms vs, 0 < o.length) := Lib.hid (fun o ho => by
    unfold ordsL ordsK at ho
    obtain ⟨i, hi, rfl⟩ := List.mem_map.1 ho
    have hi := List.mem_range.1 hi
    rw [HOVL.out i (by rw [← h.rd.1]; exact hi)]
    exact HPOS.out i (by rw [← h.rd.1]; exact hi))
  have HCN : Hid (cntP (ordsL l ms vs) = szN l l.length) := Lib.hid (cntP_ords (fun i hi => HOVL.out i (by rw [← h.rd.1]; exact hi)) l.length (Nat.le_refl _))
  obtain ⟨Z, HZS⟩ : ∃ Z, Hid (szN l l.length = Z) := ⟨_, Lib.hid rfl⟩
  have hZB : Z ≤ 184884258895036416 := by rw [← HZS.out]; exact szN_big hs12 h.sm.1 (Nat.le_refl _)
  have HSZ := Lib.hid (size_any (h.below hbl) hs12)
  rw [HZS.out] at HSZ
  obtain ⟨os, HOS⟩ : ∃ os, Hid (ordsL l ms vs = os) := ⟨_, Lib.hid rfl⟩
  have HOA : Hid (∀ i, i < n → os.drop i = ordV l ms vs i :: os.drop (i + 1)) := Lib.hid (fun i hi => by
    rw [← HOS.out, List.drop_eq_getElem_cons (by rw [HOL.out]; exact hi)]
    have e := ordsL_at l ms vs (i := i) (by rw [h.rd.1]; exact hi)
    rw [← e]
    simp [List.getD, HOL.out, hi])
  have HPR : Hid (bestR l vs ps ms = (prods os).find? (tgtB l ps)) := Lib.hid (by rw [← HOS.out]; rfl)
  rw [HOS.out] at HOL HOP HCN
  rw [HZS.out] at HCN
  have HPL : Hid ((prods os).length = Z) := Lib.hid (by rw [prods_cnt, HCN.out])
  clear h hv hq hbl hs12 hset hmod hml hB2
  obtain ⟨x0, _⟩ := row1f H0.out
  go_enter Tryz.func20, Tryz.ntmps20
  go_upto_region 1 with fail
  change Code.wp _ _ _ _ ((w.alloc (.cells #[.slice A n c] 28)).alloc (.cells #[.slice Aq np cp, .slice Am n cm] 49))
  rw [← HW.out]
  go_wp2_with fail
  refine HSZ.out.mono ?_
  rintro e w1 ⟨rfl, hb⟩
  have HW1 : Hid (Below w.heap.size w w1) := Lib.hid (HBL.out.trans (hb.mono HBL.out.size))
  have K0 : Hid (w1.heap[w.heap.size]? = _) := Lib.hid ((hb.block w.heap.size (heapE_lt H0.out)).trans H0.out)
  have K1 : Hid (w1.heap[w.heap.size + 1]? = _) := Lib.hid ((hb.block (w.heap.size + 1) (heapE_lt H1.out)).trans H1.out)
  clear hb x0 HSZ
  go_wp2_with fail
  go_loopw [9, 10, 11, 12, 13, 14] (fun vk _ _ _ _ _ wr => ∃ k : Nat, k ≤ Z ∧ vk = .int .i64 (k : Int) ∧ Hid (Below w1.heap.size w1 wr) ∧ Hid (∀ i, i < k → tgtB l ps ((prods os).getD i default) = false)) (fun vk _ _ _ _ _ _ => Z - (intOf vk).toNat)
  case atStart => exact ⟨0, Nat.zero_le _, rfl, Lib.hid (Below.refl _ _), Lib.hid (fun i h => absurd h (by omega))⟩
  case round =>
    obtain ⟨wo, hwo⟩ : ∃ x, x = wr := ⟨_, rfl⟩
    subst hwo
    obtain ⟨k, hk, rfl, HBo, HNO⟩ := hrel
    have HWo : Hid (Below w.heap.size w wo) := Lib.hid (HW1.out.trans (HBo.out.mono HW1.out.size))
    have Ko0 : Hid (wo.heap[w.heap.size]? = _) := Lib.hid ((HBo.out.block w.heap.size (heapE_lt K0.out)).trans K0.out)
    have Ko1 : Hid (wo.heap[w.heap.size + 1]? = _) := Lib.hid ((HBo.out.block (w.heap.size + 1) (heapE_lt K1.out)).trans K1.out)
    by_cases hkn : k < Z
    · have hd : decide ((k : Int) < (Z : Int)) = true := by simp; omega
      have hki : (k : Int) < (Z : Int) := by omega
      have hadd : IntKind.i64.wrap ((k : Int) + 1) = ((k + 1 : Nat) : Int) := by rw [IntWalk.i64_in _ (by omega)]; omega
      have hnsub : IntKind.i64.wrap ((n : Int) - 1) = (n : Int) - 1 := IntWalk.i64_in _ (by omega)
      obtain ⟨x0, _⟩ := row1f Ko0.out
      go_upto_region 6 with (at_make; refine wpl_make rfl (.tmp 24) (.tmp 24) rfl wo.heap.size n rfl rfl (by omega) (Nat.le_refl _) ?_; intro w3 hown3 hgr3; (have HB3 : Hid (Below wo.heap.size wo w3) := Lib.hid ((Below.refl _ wo).grown hgr3 (Nat.le_refl _) (fun g hg => by cases hg))); (have HO3 := Lib.hid hown3); clear hown3 hgr3)
      clear x0
      go_wp2_with fail
      go_loopw [11, 12, 13, 14] (fun vr vi _ _ wr => ∃ (j : Nat) (cs : List Int), j ≤ n ∧ vi = .int .i64 ((j : Int) - 1) ∧ vr = .int .i64 (((digs (os.drop j) k).2 : Nat) : Int) ∧ Hid (Own wr wo.heap.size (.slice (some ⟨wo.heap.size, 0, none⟩) n n) n cs) ∧ Hid (cs.drop j = (digs (os.drop j) k).1) ∧ Hid (Below wo.heap.size wo wr)) (fun _ vi _ _ _ => (intOf vi + 1).toNat)
      case atStart => exact ⟨n, List.replicate n 0, Nat.le_refl _, rfl, by rw [List.drop_of_length_le (by rw [HOL.out]; exact Nat.le_refl _)]; rfl, HO3, Lib.hid (by rw [List.drop_of_length_le (by simp), List.drop_of_length_le (by rw [HOL.out]; exact Nat.le_refl _)]; rfl), HB3⟩
      case round =>
        obtain ⟨wi, hwi⟩ : ∃ x, x = wr := ⟨_, rfl⟩
        subst hwi
        obtain ⟨j, cs, hj, rfl, rfl, HOC, HCD, HBi⟩ := hrel
        have HWi : Hid (Below w.heap.size w wi) := Lib.hid (HWo.out.trans (HBi.out.mono HWo.out.size))
        have Ki0 : Hid (wi.heap[w.heap.size]? = _) := Lib.hid ((HBi.out.block w.heap.size (heapE_lt Ko0.out)).trans Ko0.out)
        have Ki1 : Hid (wi.heap[w.heap.size + 1]? = _) := Lib.hid ((HBi.out.block (w.heap.size + 1) (heapE_lt Ko1.out)).trans Ko1.out)
        have hgi : wo.heap.size < wi.heap.size ∨ n = 0 := by
          rcases HOC.out.2 with ⟨h, _⟩ | ⟨g, cap, cur, hv, _, hh, _⟩
          · cases h
          · injection hv with hv
            injection hv with hv
            injection hv with hv _
            subst hv
            exact .inl (heapE_lt hh)
        have HCL : Hid (cs.length = n) := Lib.hid HOC.out.len
        obtain ⟨x0, _⟩ := row1f Ki0.out
        obtain ⟨y0, y1, _⟩ := row2 Ki1.out
        cases j with
        | zero =>
          have hd2 : decide ((0 : Int) ≤ ((0 : Nat) : Int) - 1) = false := by decide
          have hd3 : decide ((0 : Int) ≤ -1) = false := by decide
          have HCK : Hid (cs = (prods os).getD k default) := Lib.hid (by
            have h := HCD.out
            rw [List.drop_zero, List.drop_zero] at h
            rw [h, digs_at HOP.out (by rw [HCN.out]; exact hkn)])
          have HME := Lib.hid (meetQ_any (c2 := n) (cp := cp) (cm := cm) (HCA.out.below HWi.out) (Rd.of_own HOC.out) (Nat.le_refl _) (by omega) (HQ.out.below HWi.out))
          clear hgi
          go_wp2_with fail
          refine HME.out.mono ?_
          rintro e w5 ⟨rfl, hb⟩
          have HB5 : Hid (Below w1.heap.size w1 w5) := Lib.hid (HBo.out.trans ((HBi.out.trans (hb.mono HBi.out.size)).mono HBo.out.size))
          have HO5 := Lib.hid (HOC.out.kept hb)
          clear hb x0 y0 y1 HME
          cases ht : tgtB l ps cs with
          | true =>
            have HBS : Hid (bestR l vs ps ms = some cs) := Lib.hid (by
              rw [HPR.out, HCK.out]
              exact find_some_at (by rw [HPL.out]; exact hkn) HNO.out (by rw [← HCK.out]; exact ht))
            clear ht
            go_wp2_with fail
            go_ret2
            exact ⟨HW1.out.trans (HB5.out.mono HW1.out.size), .inl ⟨cs, _, HBS.out, rfl, HO5.out.less HWo.out.size⟩⟩
          | false =>
            have HNX : Hid (∀ i, i < k + 1 → tgtB l ps ((prods os).getD i default) = false) := Lib.hid (fun i hi => by
              by_cases e : i = k
              · subst e; rw [← HCK.out]; exact ht
              · exact HNO.out i (by omega))
            clear ht
            go_wp2_with fail
            go_roundw
            case rel => exact ⟨k + 1, by omega, by go_num, HB5, HNX⟩
            case measure => simp [intOf]; omega
        | succ i =>
          have hin : i < n := by omega
          have hii : (i : Int) < (n : Int) := by omega
          have hi0 : (0 : Int) ≤ (i : Int) := by omega
          have hij : ((i + 1 : Nat) : Int) - 1 = (i : Int) := by omega
          rw [hij]
          have hd2 : decide ((0 : Int) ≤ (i : Int)) = true := decide_eq_true hi0
          have hdec : IntKind.i64.wrap ((i : Int) - 1) = (i : Int) - 1 := IntWalk.i64_in _ (by omega)
          obtain ⟨r, HR⟩ : ∃ r, Hid ((digs (os.drop (i + 1)) k).2 = r) := ⟨_, Lib.hid rfl⟩
          have hrk : r ≤ k := by rw [← HR.out]; exact digs_le _ _
          obtain ⟨ov, HOX⟩ : ∃ o, Hid (ordV l ms vs i = o) := ⟨_, Lib.hid rfl⟩
          have HAi := Lib.hid (HCA.out.below HWi.out)
          have HVi := Lib.hid (HV.out.below (HWi.out.mono HB2.out))
          have HQi := Lib.hid (HQ.out.below HWi.out)
          obtain ⟨b1, o1, Aj, nj, cj, hA1, hb1, _, k1, _, hrj⟩ := sv_at HAi.out.rd (i := i) hin
          subst hA1
          have HNJ : Hid ((svAt l i).2.length = nj) := Lib.hid hrj.1
          have hnj12 : nj ≤ 12 := by rw [← HNJ.out]; exact HS12.out _ (svAt_mem (by rw [HNL.out]; exact hin))
          have hnj0 : 0 < nj := by rw [← HNJ.out]; exact HPOS.out i hin
          have HOVN : Hid (ov.length = nj) := Lib.hid (by rw [← HOX.out, HOVL.out i hin, HNJ.out])
          have HDI : Hid (digs (os.drop i) k = (ix ov (r % nj) :: (digs (os.drop (i + 1)) k).1, r / nj)) := Lib.hid (by
            rw [HOA.out i hin, HOX.out]
            show (iz ov ((digs (os.drop (i + 1)) k).2 % ov.length) :: (digs (os.drop (i + 1)) k).1, (digs (os.drop (i + 1)) k).2 / ov.length) = _
            rw [HR.out, HOVN.out]; rfl)
          obtain ⟨bm, om, hAm, hbm, km⟩ := HQi.out.md.at_ hin
          subst hAm
          obtain ⟨bv, ovf, hAv, hbv, kv⟩ := HVi.out.at_ hin
          subst hAv
          have hmk := modB_at HMOD.out (i := i) (by rw [HML.out]; exact hin)
          obtain ⟨mk, hmk2⟩ : ∃ m : Nat, ix ms i = (m : Int) := ⟨(ix ms i).toNat, by omega⟩
          obtain ⟨a0, vk, ha0, hvk, _, hvkl⟩ := isR_nat (HSET.out.2 i (by rw [HVL.out]; exact hin))
          obtain rfl : a0 = i := by omega
          have HOR : Hid (orderR (mk : Int) (vk : Int) nj = ov) := Lib.hid (by
            rw [← HOX.out]
            unfold ordV
            rw [hmk2, hvk, Int.toNat_natCast, Int.toNat_natCast, HNJ.out]
            exact orderR_is (by omega) hnj12 (by rw [← HNJ.out]; exact hvkl))
          rw [hmk2] at km
          rw [hvk] at kv
          have hvk12 : vk < 12 := by have := HNJ.out; omega
          have HORD := Lib.hid (orderQ_any (wi.drewN 1) (mk : Int) (vk : Int) nj (by omega) (by omega))
          rw [HOR.out] at HORD
          have hbmw : bm < wi.heap.size := by have := HQi.out.le; omega
          have hbvw : bv < wi.heap.size := by have := HB2.out; have := HWi.out.size; omega
          rw [HR.out]
          clear ha0 hvkl hrj hmk hmk2 hvk y0
          go_upto_region 11 with fail
          clear k1 x0
          go_wp2_with fail
          go_region_held3 (fun W' => W'.cell? ⟨w.heap.size + 1, 1, none⟩ = some (.slice (some ⟨bm, om, none⟩) n cm) ∧ W'.cell? ⟨bm, om + a0, none⟩ = some (.int .i64 (mk : Int)) ∧ W'.cell? ⟨bv, ovf + a0, none⟩ = some (.int .i64 (vk : Int))) ((first | exact ⟨y1, km, kv⟩ | exact ⟨z1, z3, z4⟩ | go_keep)) (first
            | (go_at_call 42; refine HORD.out.mono ?_; rintro e w5 ⟨vO, rfl, hown', hb'⟩; (have hb : Below wi.heap.size wi w5 := (Below.drewN' (Below.refl _ wi) 1).trans hb'); (have z1 := (hb.cell (p := ⟨w.heap.size + 1, 1, none⟩) (heapE_lt Ki1.out)).trans y1); (have z3 := (hb.cell (p := ⟨bm, om + a0, none⟩) hbmw).trans km); (have z4 := (hb.cell (p := ⟨bv, ovf + a0, none⟩) hbvw).trans kv); (have HBW := Lib.hid hb); (have HOO : Hid (Own w5 wi.heap.size vO nj ov) := Lib.hid hown'); clear hb hb' hown'))
          obtain ⟨AO, cO, hvO, hrO⟩ := HOO.out.shape
          subst hvO
          obtain ⟨q, HQM⟩ : ∃ q, Hid (r % nj = q) := ⟨_, Lib.hid rfl⟩
          have hqn : q < nj := by rw [← HQM.out]; exact Nat.mod_lt _ hnj0
          have hqi : (q : Int) < (nj : Int) := by omega
          have hq0 : (0 : Int) ≤ (q : Int) := by omega
          have hzne : ((nj : Int) == 0) = false := beq_eq_false_iff_ne.2 (by omega)
          have hrem : (r : Int).tmod (nj : Int) = (q : Int) := by rw [← HQM.out, ← Int.ofNat_tmod]
          have hqw : IntKind.i64.wrap (q : Int) = (q : Int) := IntWalk.i64_in _ (by omega)
          obtain ⟨p, HPD⟩ : ∃ p, Hid (r / nj = p) := ⟨_, Lib.hid rfl⟩
          have hpr : p ≤ r := by rw [← HPD.out]; exact Nat.div_le_self _ _
          have hquo : (r : Int).tdiv (nj : Int) = (p : Int) := by rw [← HPD.out, ← Int.ofNat_tdiv]
          have hpw : IntKind.i64.wrap (p : Int) = (p : Int) := IntWalk.i64_in _ (by omega)
          obtain ⟨bo, oo, hAO, hbo, ko⟩ := hrO.at_ hqn
          subst hAO
          obtain ⟨u, HU⟩ : ∃ u, Hid (ix ov q = u) := ⟨_, Lib.hid rfl⟩
          rw [HU.out] at ko
          have HO6 := Lib.hid (HOC.out.kept HBW.out)
          have kc := HO6.out.cell hin
          have fc := HO6.out.free a0
          have HO7 := Lib.hid (HO6.out.store a0 u)
          have HB7 : Hid (Below wo.heap.size wo (w5.setCell ⟨wo.heap.size, a0, none⟩ (.int .i64 u))) := Lib.hid ((HBi.out.trans (HBW.out.mono HBi.out.size)).setCell (p := ⟨wo.heap.size, a0, none⟩) (Nat.le_refl _) _)
          have HCD2 : Hid ((cs.set a0 u).drop a0 = (digs (os.drop a0) k).1) := Lib.hid (by
            rw [ix_dropC (by rw [List.length_set, HCL.out]; exact hin), HDI.out]
            show ix (cs.set a0 u) a0 :: (cs.set a0 u).drop (a0 + 1) = _
            have e1 : ix (cs.set a0 u) a0 = u := iz_set_eq (by rw [HCL.out]; exact hin)
            have e2 : (cs.set a0 u).drop (a0 + 1) = cs.drop (a0 + 1) := by rw [List.drop_set_of_lt (by omega)]
            rw [e1, e2, HCD.out, HQM.out, HU.out])
          have HRD2 : Hid ((digs (os.drop a0) k).2 = p) := Lib.hid (by rw [HDI.out]; exact HPD.out)
          clear z1 z3 z4 y1 km kv hrO HORD hgi
          go_wp2_with fail
          go_roundw
          case rel => exact ⟨a0, cs.set a0 u, by omega, by first | rfl | exact congrArg (Value.int .i64) hdec, by rw [HRD2.out], HO7, HCD2, HB7⟩
          case measure => simp [intOf] <;> omega
    · have hd : decide ((k : Int) < (Z : Int)) = false := by simp; omega
      have HBN : Hid (bestR l vs ps ms = none) := Lib.hid (by
        rw [HPR.out]
        exact find_none_at (fun i hi => HNO.out i (by rw [HPL.out] at hi; omega)))
      go_wp2_with fail
      go_ret2
      exact ⟨HWo.out, .inr ⟨HBN.out, rfl⟩⟩
end Go.Proofs.YtlodledcglleiaaGreat
