/-
  CONTRACTS: the program's Encode, the document's Encode.
-/
import Derived.Test.YtolgmoaoheflcaaHPu
import Derived.Test.YtolgmoaoheflcaaHWq
import Derived.WalkKit
import Derived.Deep.Slices
namespace Go.Proofs.Ytolgmoaoheflcaa
open Go.RowKit
open ByteP CodeP
set_option linter.unusedVariables false
set_option linter.unusedSimpArgs false
set_option maxRecDepth 10000
theorem addr_addJ (b off j : Nat) : (Addr.add ⟨b, off, none⟩ j) = ⟨b, off + j, none⟩ := by
  unfold Addr.add
  by_cases h0 : j = 0 <;> simp [h0]

/-- 'append(s, x...)', s the call's own, x a slice that is only read (nil too). -/
theorem wplY_apps {w : World} {ops : Array Oper} {rest : List Oper} {o : Oper} {a : Act} {Q : Exit → Act → World → Prop} (hgd : o.guard = none) (s x : Operand)
    (ho : o.op = .call { callee := .builtin .append, args := #[s, x], argTypes := #[44, 44] })
    (base : Nat) (v : Value) (n : Nat) (xs : List Int) (hs : a.eval s = v) (hown : OwnY w base v n xs)
    (B : Nat) (D : Option Addr) (m d : Nat) (ys : List Int) (hx : a.eval x = .slice D m d) (hr : RdY w B D m ys) (hn : n + m ≤ 1099511627776) (hbase : base ≤ w.heap.size)
    (h : ∀ v' w', OwnY w' base v' (n + m) (xs ++ ys) → w.grownBy w' v.ownBlock → (v'.ownBlock = v.ownBlock ∨ v'.ownBlock = some w.heap.size) → wpList Try.prog ops Q rest (a.put o.dst v') w') :
    wpList Try.prog ops Q (o :: rest) a w := by
  obtain ⟨i0, hi, hz0, hz1, hz2⟩ := info_parts infoByte
  rcases D with _ | ad
  · have hm : m = 0 := by
      rcases Nat.eq_zero_or_pos m with h0 | h0
      · exact h0
      · obtain ⟨b, off, e, _⟩ := hr.2 h0
        cases e
    subst hm
    have hy : ys = [] := List.eq_nil_of_length_eq_zero hr.1
    subst hy
    have hrun : (Builtin.append_ #[44, 44] o.type #[v, .slice none 0 d]).run Try.prog w = .ok v w := by
      rcases hown.2 with ⟨rfl, rfl⟩ | ⟨g, cap, cur, rfl, _, _, hnc, _⟩
      · simp [Builtin.append_, run_underlying Try.underlying44, sizeOf, typeInfo, hi, Builtin.lenOf, Builtin.firstCells]
      · simp [Builtin.append_, run_underlying Try.underlying44, sizeOf, typeInfo, hi, Builtin.lenOf, Builtin.firstCells, hnc, storeCells]
    refine wpList_plain hgd fun K hK => ?_
    unfold Oper.wp execOp
    simp only [ho, resolve, invoke, builtin, Sem.run_bind, Sem.run_pure, Result.andThen_ok, List.map_toArray, List.map_cons, List.map_nil, hs, hx, hrun]
    exact hK _ _ (h v w (by simpa using hown) (World.grownBy.refl w _) (.inl rfl))
  · refine wpList_append_own_at w hgd s x 44 ho base 5 i0 (.int .u8 0) 1 1 Try.underlying44 hi hz0 hz1 hz2 rfl (by decide) v n _ hs hown ad m d (ys.map (Value.int .u8)) hx (by simp [hr.1]) ?_ ?_ (by unfold maxLen; omega) (by omega) hbase ?_
    · intro j z hj
      have hjm : j < m := by
        have := (List.getElem?_eq_some_iff.1 hj).1
        simpa [hr.1] using this
      obtain ⟨b, off, e, _, hc⟩ := hr.at_ hjm
      cases e
      rw [addr_addJ, hc]
      rw [ixY_map ys j (by rw [hr.1]; exact hjm)] at hj
      exact hj
    · intro z hz
      obtain ⟨u, _, rfl⟩ := List.mem_map.1 hz
      rfl
    · intro v' w' hown' hg _ hat
      exact h v' w' (by unfold OwnY; rw [List.map_append]; exact hown') hg hat


theorem rk_mod {kd : Int} (h : Sa.rkB kd = true) : kd % 256 = kd := by have := rk_cases h; omega
theorem rdPl_more {w : World} {B B' : Nat} {A1 A2 A3 A4 : Option Addr} {fs ts : List Int} {ps qs : List (Int × Int)} (h : RdPl w B A1 A2 A3 A4 fs ts ps qs) (hb : B ≤ B') : RdPl w B' A1 A2 A3 A4 fs ts ps qs :=
  ⟨h.r1.more hb, h.r2.more hb, h.r3.more hb, h.r4.more hb, h.l1, h.l2, h.l3, h.l4⟩
set_option maxHeartbeats 16000000 in
theorem encode_any {w : World} {B c1 c2 c3 c4 : Nat} {kd sp : Int} {A1 A2 A3 A4 : Option Addr} {fs ts : List Int} {ps qs : List (Int × Int)} (h : RdPl w B A1 A2 A3 A4 fs ts ps qs) (hB : B ≤ w.heap.size) :
    Calls Try.prog 16 #[.agg #[.int .i64 kd, .int .i64 sp, .slice A1 fs.length c1, .slice A2 ts.length c2, .slice A3 ps.length c3, .slice A4 qs.length c4]] w fun e w' => (∃ A' n' c' er, e = .returned (.tuple #[.slice A' n' c', .int .i64 er]) ∧ WrEnd w' w.heap.size (rcO kd sp fs ts ps qs) (rcB kd sp fs ts ps qs) (.slice A' n' c') er) ∧ Below w.heap.size w w' := by
  obtain ⟨W, HW⟩ : ∃ W, Hid (W = w.alloc (.cells #[.int .i64 kd, .int .i64 sp, .slice A1 fs.length c1, .slice A2 ts.length c2, .slice A3 ps.length c3, .slice A4 qs.length c4] 33)) := ⟨_, Lib.hid rfl⟩
  have HBL : Hid (Below w.heap.size w W) := Lib.hid (by rw [HW.out]; exact (Below.refl _ w).alloc (Nat.le_refl _) _)
  have H0 : Hid (W.heap[w.heap.size]? = some (.cells #[.int .i64 kd, .int .i64 sp, .slice A1 fs.length c1, .slice A2 ts.length c2, .slice A3 ps.length c3, .slice A4 qs.length c4] 33 (0, 0))) := Lib.hid (by rw [HW.out]; exact heap_new w _)
  have HZ : Hid (w.heap.size < W.heap.size) := Lib.hid (heapE_lt H0.out)
  have HX : Hid (∀ Z, Below W.heap.size W Z → Z.cell? ⟨w.heap.size, 0, none⟩ = some (.int .i64 kd) ∧ Z.cell? ⟨w.heap.size, 1, none⟩ = some (.int .i64 sp) ∧ Z.cell? ⟨w.heap.size, 2, none⟩ = some (.slice A1 fs.length c1) ∧ Z.cell? ⟨w.heap.size, 3, none⟩ = some (.slice A2 ts.length c2) ∧ Z.cell? ⟨w.heap.size, 4, none⟩ = some (.slice A3 ps.length c3) ∧ Z.cell? ⟨w.heap.size, 5, none⟩ = some (.slice A4 qs.length c4)) := Lib.hid (fun Z hZ => Sa.row6 ((hZ.block w.heap.size HZ.out).trans H0.out))
  have HR : Hid (RdPl W B A1 A2 A3 A4 fs ts ps qs) := Lib.hid (h.below (HBL.out.mono hB))
  have hBW : B ≤ W.heap.size := by have := HZ.out; omega
  have HF := Lib.hid (Sa.formed_len (w := W) (kd := kd) (sp := sp) (BF := A1) (BT := A2) (BS := A3) (BE := A4) (mF := fs.length) (mT := ts.length) (mS := ps.length) (mE := qs.length) (dF := c1) (dT := c2) (dS := c3) (dE := c4))
  obtain ⟨fb, HFB⟩ : ∃ q, Hid (fmB kd sp fs ts ps qs = q) := ⟨_, Lib.hid rfl⟩
  have HFB2 : Hid (Sa.fB kd sp fs.length ts.length ps.length qs.length = fb) := Lib.hid HFB.out
  rw [HFB2.out] at HF
  clear h
  obtain ⟨x0, x1, x2, x3, x4, x5⟩ := HX.out W (Below.refl _ _)
  go_enter Try.func16, Try.ntmps16
  go_upto_region 1 with fail
  change Code.wp _ _ _ _ (w.alloc (.cells #[.int .i64 kd, .int .i64 sp, .slice A1 fs.length c1, .slice A2 ts.length c2, .slice A3 ps.length c3, .slice A4 qs.length c4] 33))
  rw [← HW.out]
  go_wp2_with fail
  refine HF.out.mono ?_
  rintro e w1 ⟨rfl, hb1⟩
  have HB1 := Lib.hid (HBL.out.trans (hb1.mono HBL.out.size))
  have HBW1 := Lib.hid hb1
  have HR1 := Lib.hid (HR.out.below (hb1.mono hBW))
  have hz1 := hb1.size
  clear hb1 x0 x1 x2 x3 x4 x5 HF HFB2
  cases fb with
  | false =>
    have HV : Hid (rcB kd sp fs ts ps qs = true) := Lib.hid (by unfold rcB; rw [HFB.out]; rfl)
    go_wp2_with fail
    go_ret2
    exact ⟨⟨none, 0, 0, 12, rfl, fun _ => ⟨rfl, rfl⟩, fun h => by rw [HV.out] at h; cases h⟩, HB1.out⟩
  | true =>
    obtain ⟨hrk, hpl, hst⟩ := fm_parts HFB.out
    have HRK := Lib.hid hrk
    have hm := rk_mod hrk
    have HRB : Hid (rcB kd sp fs ts ps qs = tlB kd sp fs ts ps qs) := Lib.hid (by unfold rcB; rw [HFB.out]; rfl)
    clear hrk hpl hst
    obtain ⟨x0, x1, x2, x3, x4, x5⟩ := HX.out w1 HBW1.out
    by_cases k1 : kd = 1
    · subst k1
      have HT : Hid (tlO 1 sp fs ts ps qs = plO fs ts ps qs ∧ tlB 1 sp fs ts ps qs = plB fs ts ps qs) := Lib.hid ⟨by unfold tlO; rw [if_pos rfl], by unfold tlB; rw [if_pos rfl]⟩
      have HPP := Lib.hid (putPlan_any (c1 := c1) (c2 := c2) (c3 := c3) (c4 := c4) HR1.out (by omega))
      go_wp2_with fail
      refine HPP.out.mono ?_
      rintro e w2 ⟨⟨A', n', c', er, rfl, hend⟩, hb2⟩
      have HB2 := Lib.hid (HB1.out.trans (hb2.mono HB1.out.size))
      have HBW2 := Lib.hid (HBW1.out.trans (hb2.mono hz1))
      clear x0 x1 x2 x3 x4 x5 HPP
      obtain ⟨x0, x1, x2, x3, x4, x5⟩ := HX.out w2 HBW2.out
      have hz2 := HB2.out.size
      clear hb2
      cases hbad : plB fs ts ps qs with
      | true =>
        rw [hbad] at hend
        obtain ⟨e4, rfl⟩ := hend.1 rfl
        have HV : Hid (rcB 1 sp fs ts ps qs = true) := Lib.hid (by rw [HRB.out, HT.out.2, hbad])
        clear hend
        go_wp2_with fail
        go_ret2
        exact ⟨⟨none, 0, 0, 12, rfl, fun _ => ⟨rfl, rfl⟩, fun h => by rw [HV.out] at h; cases h⟩, HB2.out⟩
      | false =>
        rw [hbad] at hend
        obtain ⟨rfl, hown⟩ := hend.2 rfl
        have HV : Hid (rcB 1 sp fs ts ps qs = false) := Lib.hid (by rw [HRB.out, HT.out.2, hbad])
        have hln := plO_len fs ts ps qs HR.out.l1 HR.out.l2 HR.out.l3 HR.out.l4
        obtain ⟨zs, HZS⟩ : ∃ zs, Hid (plO fs ts ps qs = zs) := ⟨_, Lib.hid rfl⟩
        have HRO : Hid (rcO 1 sp fs ts ps qs = 1 :: zs) := Lib.hid (by unfold rcO; rw [HT.out.1, HZS.out])
        rw [HZS.out] at hown hln
        obtain ⟨A5, c5, e4, hrd⟩ := OwnY.shape hown
        injection e4 with e5 e6 e7
        subst e5 e6 e7
        have HL := Lib.hid (OwnY.lit w2 (w.heap.size + 1) [(1 : Int)] (by have := HZ.out; have := HB1.out.size; have := HBW2.out.size; omega) (by simp))
        have HRD := Lib.hid (hrd.alloc (Nat.le_refl _) (.cells #[.int .u8 1] 5))
        clear hend hown hrd hbad
        go_wp2_with (first
          | (at_builtin; refine wplY_apps rfl _ _ rfl (w.heap.size + 1) _ 1 _ rfl HL.out _ _ _ _ _ rfl HRD.out (by omega) (by simp; omega) ?_; intro v3 w3 hown3 hg3 hat3; obtain ⟨A3', c3', rfl, _⟩ := hown3.shape; (have HO3 := Lib.hid hown3); (have HB3 : Hid (Below w.heap.size w w3) := Lib.hid ((HB2.out.alloc hz2 _).grown hg3 (by simp; omega) (fun g hg => by have := HL.out.ge g hg; omega))); clear hown3 hg3 hat3))
        go_ret2
        exact ⟨⟨_, _, _, 0, rfl, fun h => (by rw [HV.out] at h; cases h), fun _ => ⟨rfl, by rw [HRO.out, show ((1 : Int) :: zs).length = 1 + zs.length by simp [Nat.add_comm]]; exact HO3.out⟩⟩, HB3.out⟩
    · have d1 : (kd == 1) = false := by rw [beq_eq_false_iff_ne]; exact k1
      have HOS := Lib.hid (Sa.ofStep_any kd w1)
      by_cases ks : Sa.ofStepB kd = true
      · have HT : Hid (tlO kd sp fs ts ps qs = enc 1 ++ outs [sp] ∧ tlB kd sp fs ts ps qs = bads [sp]) := Lib.hid ⟨by unfold tlO; rw [if_neg k1, if_pos ks], by unfold tlB; rw [if_neg k1, if_pos ks]⟩
        rw [ks] at HOS
        clear k1
        go_wp2_with fail
        refine HOS.out.mono ?_
        rintro e w2 ⟨rfl, hb2⟩
        have HB2 := Lib.hid (HB1.out.trans (hb2.mono HB1.out.size))
        have HBW2 := Lib.hid (HBW1.out.trans (hb2.mono hz1))
        have hz2 := HB2.out.size
        have hzW2 := HBW2.out.size
        clear x0 x1 x2 x3 x4 x5 HOS hb2
        obtain ⟨x0, x1, x2, x3, x4, x5⟩ := HX.out w2 HBW2.out
        obtain ⟨V, HV0⟩ : ∃ V, Hid (V = w2.alloc (.cells #[.int .i64 sp] 3)) := ⟨_, Lib.hid rfl⟩
        have HO1 : Hid (Own V w2.heap.size (.slice (some ⟨w2.heap.size, 0, none⟩) 1 1) 1 [sp]) := Lib.hid (by rw [HV0.out]; exact Own.lit w2 w2.heap.size [sp] (Nat.le_refl _) (by simp))
        have HPN := Lib.hid (putN_any (c := 1) (Rd.of_own HO1.out) (Nat.le_refl _) (by omega))
        rw [HV0.out] at HPN
        go_wp2_with fail
        refine HPN.out.mono ?_
        rintro e w3 ⟨⟨A', n', c', er, rfl, hend⟩, hb3⟩
        have HBV : Hid (Below w2.heap.size w2 V) := Lib.hid (by rw [HV0.out]; exact (Below.refl _ w2).alloc (Nat.le_refl _) _)
        have hb3' : Below V.heap.size V w3 := by rw [HV0.out]; exact hb3
        have hend' : WrEnd w3 V.heap.size (enc 1 ++ outs [sp]) (bads [sp]) (.slice A' n' c') er := by rw [HV0.out]; exact hend
        have hzV := HBV.out.size
        have HB3 : Hid (Below w.heap.size w w3) := Lib.hid (HB2.out.trans ((HBV.out.trans (hb3'.mono hzV)).mono hz2))
        have HBW3 : Hid (Below W.heap.size W w3) := Lib.hid (HBW2.out.trans ((HBV.out.trans (hb3'.mono hzV)).mono hzW2))
        clear x0 x1 x2 x3 x4 x5 HPN hb3 hb3' hend
        obtain ⟨x0, x1, x2, x3, x4, x5⟩ := HX.out w3 HBW3.out
        have hz3 := HB3.out.size
        have hzW3 := HBW3.out.size
        have hzWw := HZ.out
        cases hbad : bads [sp] with
        | true =>
          rw [hbad] at hend'
          obtain ⟨e4, rfl⟩ := hend'.1 rfl
          have HV : Hid (rcB kd sp fs ts ps qs = true) := Lib.hid (by rw [HRB.out, HT.out.2, hbad])
          clear hend' hbad
          go_wp2_with fail
          go_ret2
          exact ⟨⟨none, 0, 0, 12, rfl, fun _ => ⟨rfl, rfl⟩, fun h => by rw [HV.out] at h; cases h⟩, HB3.out⟩
        | false =>
          rw [hbad] at hend'
          obtain ⟨rfl, hown⟩ := hend'.2 rfl
          have HV : Hid (rcB kd sp fs ts ps qs = false) := Lib.hid (by rw [HRB.out, HT.out.2, hbad])
          have hln : (enc 1 ++ outs [sp]).length ≤ 1000000000 := by
            have a1 := outs_len [sp]
            have a2 := enc_small (n := 1) (by omega)
            rw [List.length_append]
            simp only [List.length_cons, List.length_nil] at a1
            omega
          obtain ⟨zs, HZS⟩ : ∃ zs, Hid (enc 1 ++ outs [sp] = zs) := ⟨_, Lib.hid rfl⟩
          have HRO : Hid (rcO kd sp fs ts ps qs = kd :: zs) := Lib.hid (by unfold rcO; rw [HT.out.1, HZS.out])
          rw [HZS.out] at hown hln
          obtain ⟨A5, c5, e4, hrd⟩ := OwnY.shape hown
          injection e4 with e5 e6 e7
          subst e5 e6 e7
          have HL := Lib.hid (OwnY.lit w3 (w.heap.size + 1) [kd] (by omega) (by simp))
          have HRD := Lib.hid (hrd.alloc (Nat.le_refl _) (.cells #[.int .u8 kd] 5))
          clear hend' hown hrd hbad
          go_wp2_with (first
            | (at_builtin; refine wplY_apps rfl _ _ rfl (w.heap.size + 1) _ 1 _ rfl HL.out _ _ _ _ _ rfl HRD.out (by omega) (by simp; omega) ?_; intro v4 w4 hown4 hg4 hat4; obtain ⟨A4', c4', rfl, _⟩ := hown4.shape; (have HO4 := Lib.hid hown4); (have HB4 : Hid (Below w.heap.size w w4) := Lib.hid ((HB3.out.alloc hz3 _).grown hg4 (by simp; omega) (fun g hg => by have := HL.out.ge g hg; omega))); clear hown4 hg4 hat4))
          go_ret2
          exact ⟨⟨_, _, _, 0, rfl, fun h => (by rw [HV.out] at h; cases h), fun _ => ⟨rfl, by rw [HRO.out, show (kd :: zs).length = 1 + zs.length by simp [Nat.add_comm]]; exact HO4.out⟩⟩, HB4.out⟩
      · have HT : Hid (tlO kd sp fs ts ps qs = [] ∧ tlB kd sp fs ts ps qs = false) := Lib.hid ⟨by unfold tlO; rw [if_neg k1, if_neg ks], by unfold tlB; rw [if_neg k1, if_neg ks]⟩
        rw [Bool.not_eq_true] at ks
        rw [ks] at HOS
        clear k1
        go_wp2_with fail
        refine HOS.out.mono ?_
        rintro e w2 ⟨rfl, hb2⟩
        have HB2 := Lib.hid (HB1.out.trans (hb2.mono HB1.out.size))
        have HBW2 := Lib.hid (HBW1.out.trans (hb2.mono hz1))
        have hz2 := HB2.out.size
        have hzW2 := HBW2.out.size
        have hzWw := HZ.out
        clear x0 x1 x2 x3 x4 x5 HOS hb2
        obtain ⟨x0, x1, x2, x3, x4, x5⟩ := HX.out w2 HBW2.out
        have HV : Hid (rcB kd sp fs ts ps qs = false) := Lib.hid (by rw [HRB.out, HT.out.2])
        have HRO : Hid (rcO kd sp fs ts ps qs = [kd]) := Lib.hid (by unfold rcO; rw [HT.out.1])
        have HL := Lib.hid (OwnY.lit w2 (w.heap.size + 1) [kd] (by omega) (by simp))
        have HRD := Lib.hid (RdY.nil_ (w := w2.alloc (.cells #[.int .u8 kd] 5)) (B := 0) (A := none))
        go_wp2_with (first
          | (at_builtin; refine wplY_apps rfl _ _ rfl (w.heap.size + 1) _ 1 _ rfl HL.out _ _ _ _ _ rfl HRD.out (by omega) (by simp; omega) ?_; intro v4 w4 hown4 hg4 hat4; obtain ⟨A4', c4', rfl, _⟩ := hown4.shape; (have HO4 := Lib.hid hown4); (have HB4 : Hid (Below w.heap.size w w4) := Lib.hid ((HB2.out.alloc hz2 _).grown hg4 (by simp; omega) (fun g hg => by have := HL.out.ge g hg; omega))); clear hown4 hg4 hat4))
        go_ret2
        exact ⟨⟨_, _, _, 0, rfl, fun h => (by rw [HV.out] at h; cases h), fun _ => ⟨rfl, by rw [HRO.out]; exact HO4.out⟩⟩, HB4.out⟩
end Go.Proofs.Ytolgmoaoheflcaa
