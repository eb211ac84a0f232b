/-
  CONTRACT of the document's reader of plans: the reader's state behind it.
-/
import Derived.Test.YtolgmoaoheflcaaPRf
import Derived.Deep.DeepCutAuto
namespace Go.Proofs.Ytolgmoaoheflcaa
open Go.RowKit
open ByteP CodeP
set_option linter.unusedVariables false
set_option maxRecDepth 10000
def rcell (v1 v2 v3 v4 : Value) : Obj := .cells #[v1, v2, v3, v4] 47 (0, 0)
theorem rl_cells {w : World} {g : Nat} {v1 v2 v3 v4 : Value} (h : w.heap[g]? = some (rcell v1 v2 v3 v4)) : w.cell? ⟨g, 0, none⟩ = some v1 ∧ w.cell? ⟨g, 1, none⟩ = some v2 ∧ w.cell? ⟨g, 2, none⟩ = some v3 ∧ w.cell? ⟨g, 3, none⟩ = some v4 ∧ (∀ i, w.frozen? ⟨g, i, none⟩ = false) := rc_cells h
theorem OwnP.ff {E : TypeId} {w w' : World} {base : Nat} {v : Value} {l : List (Nat × Nat)} (h : OwnP E w base v l) {row : Option Nat} (hg : w.grownBy w' row) (hr : ∀ g, row = some g → g < base) : OwnP E w' base v l :=
  OwnP.kept h hg (fun g hv e => by have := OwnP.ge h g hv; have := hr g e; omega)
theorem infoPairRS : (Try.prog.info? 76).map (fun i => (i.zero, i.size, i.bytes)) = some (some (.agg #[.int .i64 0, .int .i64 0]), 2, 16) := by kernel_rfl
theorem stepP_appS {w : World} {ops : Array Oper} {o : Oper} {a : Act} {K : Act → World → Prop} {Q : Exit → Act → World → Prop} {Ex : Prop} (hgd : o.guard = none) (s x : Operand)
    (ho : o.op = .call { callee := .builtin .append, args := #[s, x], argTypes := #[45, 45] })
    (base : Nat) (v : Value) (l : List (Nat × Nat)) (hs : a.eval s = v) (hown : OwnP 76 w base v l)
    (b p q : Nat) (hx : a.eval x = .slice (some ⟨b, 0, none⟩) 1 1) (hc0 : w.cell? ⟨b, 0, none⟩ = some (.int .i64 (p : Int))) (hc1 : w.cell? ⟨b, 1, none⟩ = some (.int .i64 (q : Int))) (hn : l.length ≤ 1000000000) (hbase : base ≤ w.heap.size)
    (h : ∀ g c w', OwnP 76 w' base (.slice (some ⟨g, 0, none⟩) (l.length + 1) c) (l ++ [(p, q)]) → w.grownBy w' v.ownBlock → K (a.put o.dst (.slice (some ⟨g, 0, none⟩) (l.length + 1) c)) w') :
    if Region.wanted o (yielded ops a.tmps) = true then Oper.wp Try.prog o a w K Q else Ex := by
  have hw : Region.wanted o (yielded ops a.tmps) = true := by simp [Region.wanted, hgd]
  rw [if_pos hw]
  obtain ⟨i0, hi, hz0, hz1, hz2⟩ := info_parts infoPairRS
  obtain ⟨v', w', hrun, hown', hg, _, hat⟩ := run_append_own_at (P := Try.prog) w base 45 o.type 76 i0 (.agg #[.int .i64 0, .int .i64 0]) 2 16 Try.underlying45 hi hz0 hz1 hz2 rfl (by decide) v l.length _ hown ⟨b, 0, none⟩ 1 1 [.int .i64 (p : Int), .int .i64 (q : Int)] rfl (by
    intro j z hj
    match j, hj with
    | 0, hj => simp at hj; subst hj; simpa [Addr.add] using hc0
    | 1, hj => simp at hj; subst hj; simpa [Addr.add] using hc1) (by
    intro z hz
    simp at hz
    rcases hz with rfl | rfl <;> rfl) (by unfold maxLen; omega) (by omega) hbase
  have ho' : w'.ownsRow base 76 2 v' (l ++ [(p, q)]).length (pcells (l ++ [(p, q)])) := by
    rw [pcells_append, List.length_append]; exact hown'
  obtain ⟨g, c, hv, _, _⟩ := World.ownsRow.form ho' (by simp)
  rw [List.length_append] at hv
  have hv' : v' = .slice (some ⟨g, 0, none⟩) (l.length + 1) c := hv
  subst hv'
  unfold Oper.wp
  simp only [execOp, ho, resolve, invoke, builtin, Sem.run_bind, Sem.run_pure, Result.andThen_ok, List.map_toArray, List.map_cons, List.map_nil, hs, hx, hrun]
  exact h g c w' ho' hg
theorem infoPairRE : (Try.prog.info? 90).map (fun i => (i.zero, i.size, i.bytes)) = some (some (.agg #[.int .i64 0, .int .i64 0]), 2, 16) := by kernel_rfl
theorem stepP_appE {w : World} {ops : Array Oper} {o : Oper} {a : Act} {K : Act → World → Prop} {Q : Exit → Act → World → Prop} {Ex : Prop} (hgd : o.guard = none) (s x : Operand)
    (ho : o.op = .call { callee := .builtin .append, args := #[s, x], argTypes := #[27, 27] })
    (base : Nat) (v : Value) (l : List (Nat × Nat)) (hs : a.eval s = v) (hown : OwnP 90 w base v l)
    (b p q : Nat) (hx : a.eval x = .slice (some ⟨b, 0, none⟩) 1 1) (hc0 : w.cell? ⟨b, 0, none⟩ = some (.int .i64 (p : Int))) (hc1 : w.cell? ⟨b, 1, none⟩ = some (.int .i64 (q : Int))) (hn : l.length ≤ 1000000000) (hbase : base ≤ w.heap.size)
    (h : ∀ g c w', OwnP 90 w' base (.slice (some ⟨g, 0, none⟩) (l.length + 1) c) (l ++ [(p, q)]) → w.grownBy w' v.ownBlock → K (a.put o.dst (.slice (some ⟨g, 0, none⟩) (l.length + 1) c)) w') :
    if Region.wanted o (yielded ops a.tmps) = true then Oper.wp Try.prog o a w K Q else Ex := by
  have hw : Region.wanted o (yielded ops a.tmps) = true := by simp [Region.wanted, hgd]
  rw [if_pos hw]
  obtain ⟨i0, hi, hz0, hz1, hz2⟩ := info_parts infoPairRE
  obtain ⟨v', w', hrun, hown', hg, _, hat⟩ := run_append_own_at (P := Try.prog) w base 27 o.type 90 i0 (.agg #[.int .i64 0, .int .i64 0]) 2 16 Try.underlying27 hi hz0 hz1 hz2 rfl (by decide) v l.length _ hown ⟨b, 0, none⟩ 1 1 [.int .i64 (p : Int), .int .i64 (q : Int)] rfl (by
    intro j z hj
    match j, hj with
    | 0, hj => simp at hj; subst hj; simpa [Addr.add] using hc0
    | 1, hj => simp at hj; subst hj; simpa [Addr.add] using hc1) (by
    intro z hz
    simp at hz
    rcases hz with rfl | rfl <;> rfl) (by unfold maxLen; omega) (by omega) hbase
  have ho' : w'.ownsRow base 90 2 v' (l ++ [(p, q)]).length (pcells (l ++ [(p, q)])) := by
    rw [pcells_append, List.length_append]; exact hown'
  obtain ⟨g, c, hv, _, _⟩ := World.ownsRow.form ho' (by simp)
  rw [List.length_append] at hv
  have hv' : v' = .slice (some ⟨g, 0, none⟩) (l.length + 1) c := hv
  subst hv'
  unfold Oper.wp
  simp only [execOp, ho, resolve, invoke, builtin, Sem.run_bind, Sem.run_pure, Result.andThen_ok, List.map_toArray, List.map_cons, List.map_nil, hs, hx, hrun]
  exact h g c w' ho' hg
set_option maxHeartbeats 16000000 in
theorem planR_any {w : World} {rb B : Nat} {bs : List Int} {s : Sum Int (List Int)} (h : StQ w rb B bs s) (hrb : rb < w.heap.size) (hb : Bytes bs) (hl : bs.length ≤ 1000000000) :
    Calls Try.prog 34 #[.pointer (some ⟨rb, 0, none⟩)] w fun en w' => (∃ A1 n1 c1 A2 n2 c2 A3 n3 c3 A4 n4 c4, en = .returned (.agg #[.slice A1 n1 c1, .slice A2 n2 c2, .slice A3 n3 c3, .slice A4 n4 c4])) ∧ StQ w' rb B bs (plS4 s) ∧ w.grownBy w' (some rb) := by
  obtain ⟨W, hW⟩ : ∃ W, W = (w.alloc (rcell (.slice none 0 0) (.slice none 0 0) (.slice none 0 0) (.slice none 0 0))).alloc (rcell (.slice none 0 0) (.slice none 0 0) (.slice none 0 0) (.slice none 0 0)) := ⟨_, rfl⟩
  have hgw : w.grownBy W (some rb) := by rw [hW]; exact grown_add (grown_alloc1 w _ _) (grown_alloc1 _ _ _)
  have hz : W.heap.size = w.heap.size + 2 := by rw [hW]; simp
  have h0 : W.heap[w.heap.size]? = some (rcell (.slice none 0 0) (.slice none 0 0) (.slice none 0 0) (.slice none 0 0)) := by
    rw [hW, Below.heap_alloc _ _ _ (by simp)]; exact heap_alloc_new w _
  have h2 : W.heap[w.heap.size + 1]? = some (rcell (.slice none 0 0) (.slice none 0 0) (.slice none 0 0) (.slice none 0 0)) := by
    rw [hW]
    have h := heap_alloc_new (w.alloc (rcell (.slice none 0 0) (.slice none 0 0) (.slice none 0 0) (.slice none 0 0))) (rcell (.slice none 0 0) (.slice none 0 0) (.slice none 0 0) (.slice none 0 0))
    rw [World.size_alloc] at h; exact h
  have HST : Hid (StQ W rb B bs s) := Lib.hid (by rw [hW]; exact (h.grown (row := none) (grown_alloc1 w _ _) (fun g hg => by cases hg)).grown (row := none) (grown_alloc1 _ _ _) (fun g hg => by cases hg))
  have HG0 := Lib.hid hgw
  have H0 := Lib.hid h0
  have H2 := Lib.hid h2
  have HW := Lib.hid hW
  have HBY := Lib.hid hb
  clear h hgw h0 h2 hb
  go_enter Try.func34, Try.ntmps34
  go_upto_region 2 with fail
  change Code.wp _ _ _ _ ((w.alloc (rcell (.slice none 0 0) (.slice none 0 0) (.slice none 0 0) (.slice none 0 0))).alloc (rcell (.slice none 0 0) (.slice none 0 0) (.slice none 0 0) (.slice none 0 0)))
  rw [← HW.out]
  clear hW HW
  have HZ := Lib.hid hz
  clear hz
  have hz0 : w.heap.size + 1 < W.heap.size := heapE_lt H2.out
  have HC1 := Lib.hid (intsRS_any HST.out HBY.out hl)
  go_wp2_with fail
  refine HC1.out.mono ?_
  rintro en y1 ⟨A1, n1, c1, rfl, hs1, hg1⟩
  have e01 := (hg1.block w.heap.size (by omega) (fun e => by injection e with e; omega)).trans H0.out
  have e21 := (hg1.block (w.heap.size + 1) hz0 (fun e => by injection e with e; omega)).trans H2.out
  obtain ⟨x0, x1, x2, x3, xf⟩ := rl_cells e21
  have hzv1 := hg1.size
  have hfz1 := xf 0
  clear xf
  obtain ⟨W1, hW1⟩ : ∃ W1, W1 = y1.setCell ⟨w.heap.size + 1, 0, none⟩ (.slice A1 n1 c1) := ⟨_, rfl⟩
  have hgs1 : y1.grownBy W1 (some (w.heap.size + 1)) := by rw [hW1]; exact grown_set _ _ _ _
  have ST1 := Lib.hid (hs1.grown hgs1 (fun g hg => by injection hg with hg; omega))
  have E01 : Hid (W1.heap[w.heap.size]? = _) := Lib.hid ((hgs1.block w.heap.size (by omega) (fun e => by injection e with e; omega)).trans e01)
  have E21 : Hid (W1.heap[w.heap.size + 1]? = some (rcell (.slice A1 n1 c1) (.slice none 0 0) (.slice none 0 0) (.slice none 0 0))) := Lib.hid (by rw [hW1]; exact heap_setCell_same y1 _ 0 _ _ _ e21)
  have HG1 : Hid (w.grownBy W1 (some rb)) := Lib.hid (grown_new (grown_add HG0.out hg1) hgs1 (fun g hg => by injection hg with hg; omega))
  have HWW1 := Lib.hid hW1
  clear hW1 hgs1 hs1 hg1 e01 HC1 HST
  go_upto_region 3 with fail
  change Code.wp _ _ _ _ (y1.setCell ⟨w.heap.size + 1, 0, none⟩ (.slice A1 n1 c1))
  rw [← HWW1.out]
  clear x0 x1 x2 x3 hfz1 e21
  have hz1 : w.heap.size + 1 < W1.heap.size := heapE_lt E21.out
  have HC2 := Lib.hid (intsRS_any ST1.out HBY.out hl)
  go_wp2_with fail
  refine HC2.out.mono ?_
  rintro en y2 ⟨A2, n2, c2, rfl, hs2, hg2⟩
  have e02 := (hg2.block w.heap.size (by omega) (fun e => by injection e with e; omega)).trans E01.out
  have e22 := (hg2.block (w.heap.size + 1) hz1 (fun e => by injection e with e; omega)).trans E21.out
  obtain ⟨x0, x1, x2, x3, xf⟩ := rl_cells e22
  have hzv2 := hg2.size
  have hfz2 := xf 1
  clear xf
  obtain ⟨W2, hW2⟩ : ∃ W2, W2 = y2.setCell ⟨w.heap.size + 1, 1, none⟩ (.slice A2 n2 c2) := ⟨_, rfl⟩
  have hgs2 : y2.grownBy W2 (some (w.heap.size + 1)) := by rw [hW2]; exact grown_set _ _ _ _
  have ST2 := Lib.hid (hs2.grown hgs2 (fun g hg => by injection hg with hg; omega))
  have E02 : Hid (W2.heap[w.heap.size]? = _) := Lib.hid ((hgs2.block w.heap.size (by omega) (fun e => by injection e with e; omega)).trans e02)
  have E22 : Hid (W2.heap[w.heap.size + 1]? = some (rcell (.slice A1 n1 c1) (.slice A2 n2 c2) (.slice none 0 0) (.slice none 0 0))) := Lib.hid (by rw [hW2]; exact heap_setCell_same y2 _ 1 _ _ _ e22)
  have HG2 : Hid (w.grownBy W2 (some rb)) := Lib.hid (grown_new (grown_add HG1.out hg2) hgs2 (fun g hg => by injection hg with hg; omega))
  have HWW2 := Lib.hid hW2
  clear hW2 hgs2 hs2 hg2 e02 HC2 ST1 HWW1
  go_upto_region 4 with fail
  change Code.wp _ _ _ _ (y2.setCell ⟨w.heap.size + 1, 1, none⟩ (.slice A2 n2 c2))
  rw [← HWW2.out]
  clear x0 x1 x2 x3 hfz2 e22
  have hz2 : w.heap.size + 1 < W2.heap.size := heapE_lt E22.out
  have HS2 := Lib.hid (sizeRS_any ST2.out HBY.out hl)
  go_wp2_with fail
  refine HS2.out.mono ?_
  rintro en q2 ⟨m2, rfl, hml2, hlg, hg⟩
  have HLG2 := Lib.hid hlg
  have F02 : Hid (q2.heap[w.heap.size]? = _) := Lib.hid ((hg.block w.heap.size (by omega) (fun e => by injection e with e; omega)).trans E02.out)
  have F22 : Hid (q2.heap[w.heap.size + 1]? = _) := Lib.hid ((hg.block (w.heap.size + 1) hz2 (fun e => by injection e with e; omega)).trans E22.out)
  have HGQ2 : Hid (w.grownBy q2 (some rb)) := Lib.hid (grown_add HG2.out hg)
  clear hlg hg HS2 ST2
  obtain ⟨res2, hres2⟩ : ∃ res, res = lstPS (plS2 s) := ⟨_, rfl⟩
  have hfold : lstPS (restS (lstS (restS (lstS s)))) = res2 := hres2.symm
  rw [hfold] at HLG2
  have HRES2 := Lib.hid hres2
  clear hres2 hfold
  go_upto_region 5 with fail
  iterate 7 (first | go_skip | go_guarded | go_step | go_upon | go_back)
  go_cut [5, 6] (fun t1 t2 w' => Hid (StQ w' rb B bs (restS res2)) ∧ Hid (w.grownBy w' (some rb)) ∧ ∃ A3 n3 c3, Hid (w'.heap[w.heap.size]? = some (rcell (.slice none 0 0) (.slice none 0 0) (.slice none 0 0) (.slice none 0 0))) ∧ Hid (w'.heap[w.heap.size + 1]? = some (rcell (.slice A1 n1 c1) (.slice A2 n2 c2) (.slice A3 n3 c3) (.slice none 0 0))))
  case first =>
    go_wp2_with fail
    go_loopw [5, 6] (fun ti ts wr => ∃ (j : Nat) (ll : List (Nat × Nat)) (AL : Option Addr) (cl : Nat), j ≤ m2 ∧ ti = .int .i64 (j : Int) ∧ Hid (ll.length = j) ∧ Hid (LstGP wr rb B bs res2 m2 j) ∧ Hid (OwnP 76 wr (w.heap.size + 1 + 1) (.slice AL ll.length cl) ll) ∧ Hid (w.grownBy wr (some rb)) ∧ Hid (wr.heap[w.heap.size]? = some (rcell (.slice none 0 0) (.slice none 0 0) (.slice none 0 0) (.slice none 0 0))) ∧ Hid (wr.heap[w.heap.size + 1]? = some (rcell (.slice A1 n1 c1) (.slice A2 n2 c2) (.slice AL ll.length cl) (.slice none 0 0)))) (fun ti _ _ => m2 - (intOf ti).toNat)
    case atStart => exact ⟨0, [], none, 0, Nat.zero_le _, rfl, Lib.hid rfl, HLG2, Lib.hid (OwnP.nil_ _ _ _), HGQ2, F02, F22⟩
    case round =>
      obtain ⟨j, ll, AL, cl, hj, rfl, hll, HLj, HOj, HGj, HZj, HPj⟩ := hrel
      obtain ⟨wo, hwo⟩ : ∃ x, x = wr := ⟨_, rfl⟩
      subst hwo
      have hpl : w.heap.size + 1 < wo.heap.size := heapE_lt HPj.out
      by_cases hjm : j < m2
      · have hji : (j : Int) < (m2 : Int) := by omega
        rcases HLj.out with ⟨l, p, hlj, hrf, hcont⟩ | ⟨e, p, he, hrf, hinl⟩
        · obtain ⟨A', c', hrow, _⟩ := hrf.row
          obtain ⟨hc0, hc1, hc2, _, _⟩ := row3E hrow
          have HN := Lib.hid (numRS_one hlj hjm hrf hcont HBY.out hl)
          clear hlj hrf hcont hrow hc0 hc1
          go_wp2_with fail
          refine HN.out.mono ?_
          rintro en z1 ⟨x, rfl, hg1, hnext⟩
          have HNX := Lib.hid (hnext 1)
          have k2 : z1.heap[w.heap.size + 1]? = some (rcell (.slice A1 n1 c1) (.slice A2 n2 c2) (.slice AL ll.length cl) (.slice none 0 0)) := (hg1.block (w.heap.size + 1) hpl (fun e => by injection e with e; omega)).trans HPj.out
          have k0 : z1.heap[w.heap.size]? = some (rcell (.slice none 0 0) (.slice none 0 0) (.slice none 0 0) (.slice none 0 0)) := (hg1.block w.heap.size (by omega) (fun e => by injection e with e; omega)).trans HZj.out
          have K0 := Lib.hid k0
          have K2 := Lib.hid k2
          obtain ⟨x0, x1, x2, x3, xf⟩ := rl_cells k2
          have hO1 := HOj.out.ff hg1 (fun g hg => by injection hg with hg; omega)
          have HO1 := Lib.hid hO1
          have HG1 : Hid (w.grownBy z1 (some rb)) := Lib.hid (grown_add HGj.out hg1)
          have hz1 := hg1.size
          clear hnext HN hc2 k0 k2 hO1 hg1 xf
          go_wp2_with fail
          go_region_law (first
            | (go_simp; go_at_call 67; refine HNX.out.mono ?_; rintro en z2 ⟨y, rfl, hg2, hlg2⟩; (have k2 := (hg2.block (w.heap.size + 1) (by omega) (fun e => by injection e with e; omega)).trans K2.out); (have k0 := (hg2.block w.heap.size (by omega) (fun e => by injection e with e; omega)).trans K0.out); (have hO2 := HO1.out.ff hg2 (fun g hg => by injection hg with hg; omega)); (have hz2 := hg2.size); (have HLG := Lib.hid hlg2); (have HO2 := Lib.hid hO2); (have HG2 : Hid (w.grownBy z2 (some rb)) := Lib.hid (grown_add HG1.out hg2)); (have KK0 := Lib.hid k0); (have KK2 := Lib.hid k2); (obtain ⟨y0, y1, y2, y3, yf⟩ := rl_cells k2); (have yl2 : (z2.alloc (.cells #[.int .i64 (x : Int), .int .i64 (y : Int)] 76)).cell? ⟨w.heap.size + 1, 2, none⟩ = some (.slice AL ll.length cl) := (World.cell?_alloc_lt z2 _ ⟨w.heap.size + 1, 2, none⟩ (show w.heap.size + 1 < z2.heap.size by omega)).trans y2); (obtain ⟨d0, d1, _, _⟩ := row2 (heap_new z2 (.cells #[.int .i64 (x : Int), .int .i64 (y : Int)] 76))); (have HD0 := Lib.hid d0); (have HD1 := Lib.hid d1); clear hg2 hlg2 k2 k0 hO2 yf d0 d1)
            | (refine stepP_appS (by rfl) (.tmp 32) (.tmp 37) (by rfl) (w.heap.size + 1 + 1) _ ll (by rfl) (HO2.out.alloc _) z2.heap.size x y (by rfl) HD0.out HD1.out (by have := hll.out; omega) (by simp; omega) ?_; intro ga ca z3 hown3 hgr3; (have e2 : z3.heap[w.heap.size + 1]? = _ := (hgr3.block (w.heap.size + 1) (by simp; omega) (fun e => by have := HO2.out.ge _ e.symm; omega)).trans ((Below.heap_alloc z2 _ (w.heap.size + 1) (show w.heap.size + 1 < z2.heap.size by omega)).trans KK2.out)); (have e0 : z3.heap[w.heap.size]? = _ := (hgr3.block w.heap.size (by simp; omega) (fun e => by have := HO2.out.ge _ e.symm; omega)).trans ((Below.heap_alloc z2 _ w.heap.size (show w.heap.size < z2.heap.size by omega)).trans KK0.out)); (have HG3 : Hid (w.grownBy z3 (some rb)) := Lib.hid (grown_new (grown_add HG2.out (grown_alloc1 z2 _ (some rb))) hgr3 (fun g hg => by have := HO2.out.ge g hg; omega))); (have HL3 := Lib.hid ((HLG.out.grown (grown_alloc1 z2 _ none) (fun g hg => by cases hg)).grown hgr3 (fun g hg => by have := HO2.out.ge g hg; omega))); (have E0 := Lib.hid e0); (have E2 := Lib.hid e2); (have HO3 := Lib.hid hown3); (have hz3 : z2.heap.size < z3.heap.size := by (have := hgr3.size); rw [World.size_alloc] at this; omega); (obtain ⟨v0, v1, v2, v3, vf⟩ := rl_cells e2); (have vff := vf 2); clear hown3 hgr3 e0 e2 vf)
            )
          all_goals (have HPN : Hid ((z3.setCell ⟨w.heap.size + 1, 2, none⟩ (.slice (some ⟨ga, 0, none⟩) (ll.length + 1) ca)).heap[w.heap.size + 1]? = some (rcell (.slice A1 n1 c1) (.slice A2 n2 c2) (.slice (some ⟨ga, 0, none⟩) (ll.length + 1) ca) (.slice none 0 0))) := Lib.hid (heap_setCell_same z3 (w.heap.size + 1) 2 _ _ _ E2.out))
          all_goals (have hgs := grown_set z3 (w.heap.size + 1) 2 (.slice (some ⟨ga, 0, none⟩) (ll.length + 1) ca); have HZN := Lib.hid ((hgs.block w.heap.size (by omega) (fun e => by injection e with e; omega)).trans E0.out); have HLN := Lib.hid (HL3.out.grown hgs (fun g hg => by injection hg with hg; omega)); have HON := Lib.hid (HO3.out.ff hgs (fun g hg => by injection hg with hg; omega)); have HGN := Lib.hid (grown_new HG3.out hgs (fun g hg => by injection hg with hg; omega)); clear hgs)
          all_goals (clear x0 x1 x2 x3 y0 y1 y2 y3 v0 v1 v2 v3 vff yl2)
          all_goals (go_wp2_with fail; go_roundw)
          all_goals (first | (case rel => exact ⟨j + 1, ll ++ [(x, y)], some ⟨ga, 0, none⟩, ca, by omega, by go_num, Lib.hid (by rw [List.length_append, hll.out]; rfl), HLN, by rw [List.length_append]; exact HON, HGN, HZN, by rw [List.length_append]; exact HPN⟩) | (case measure => simp [intOf]; omega))
        · obtain ⟨A', c', hrow, _⟩ := hrf.row
          obtain ⟨hc0, hc1, hc2, _, _⟩ := row3E hrow
          have hne : (e == 0) = false := by rcases he with h | h <;> subst h <;> rfl
          have HSQ : Hid (StQ wo rb B bs (restS res2)) := Lib.hid (by rw [hinl]; exact ⟨he, p, hrf⟩)
          clear hrf hinl he hrow
          go_wp2_with fail
          go_meet
          exact ⟨HSQ, HGj, AL, ll.length, cl, HZj, HPj⟩
      · have hji : ¬ (j : Int) < (m2 : Int) := by omega
        have hd : decide ((j : Int) < (m2 : Int)) = false := by simp; omega
        obtain rfl : j = m2 := by omega
        have HSQ : Hid (StQ wo rb B bs (restS res2)) := Lib.hid HLj.out.done
        go_wp2_with fail
        go_meet
        exact ⟨HSQ, HGj, AL, ll.length, cl, HZj, HPj⟩
  case rest =>
  obtain ⟨ST3, HG3, A3, n3, c3, E03, E23⟩ := hcut
  obtain ⟨W3, hwe⟩ : ∃ W3 : World, W3 = wc := ⟨_, rfl⟩
  subst hwe
  rw [HRES2.out] at ST3
  have hz3 : w.heap.size + 1 < W3.heap.size := heapE_lt E23.out
  have HS3 := Lib.hid (sizeRS_any ST3.out HBY.out hl)
  go_wp2_with fail
  refine HS3.out.mono ?_
  rintro en q3 ⟨m3, rfl, hml3, hlg, hg⟩
  have HLG3 := Lib.hid hlg
  have F03 : Hid (q3.heap[w.heap.size]? = _) := Lib.hid ((hg.block w.heap.size (by omega) (fun e => by injection e with e; omega)).trans E03.out)
  have F23 : Hid (q3.heap[w.heap.size + 1]? = _) := Lib.hid ((hg.block (w.heap.size + 1) hz3 (fun e => by injection e with e; omega)).trans E23.out)
  have HGQ3 : Hid (w.grownBy q3 (some rb)) := Lib.hid (grown_add HG3.out hg)
  clear hlg hg HS3 ST3
  obtain ⟨res3, hres3⟩ : ∃ res, res = lstPS (plS3 s) := ⟨_, rfl⟩
  have hfold : lstPS (restS (lstPS (plS2 s))) = res3 := hres3.symm
  rw [hfold] at HLG3
  have HRES3 := Lib.hid hres3
  clear hres3 hfold
  go_upto_region 11 with fail
  iterate 7 (first | go_skip | go_guarded | go_step | go_upon | go_back)
  go_cut [7, 8] (fun t1 t2 w' => Hid (StQ w' rb B bs (restS res3)) ∧ Hid (w.grownBy w' (some rb)) ∧ ∃ A4 n4 c4, Hid (w'.heap[w.heap.size]? = some (rcell (.slice none 0 0) (.slice none 0 0) (.slice none 0 0) (.slice none 0 0))) ∧ Hid (w'.heap[w.heap.size + 1]? = some (rcell (.slice A1 n1 c1) (.slice A2 n2 c2) (.slice A3 n3 c3) (.slice A4 n4 c4))))
  case first =>
    go_wp2_with fail
    go_loopw [7, 8] (fun ti ts wr => ∃ (j : Nat) (ll : List (Nat × Nat)) (AL : Option Addr) (cl : Nat), j ≤ m3 ∧ ti = .int .i64 (j : Int) ∧ Hid (ll.length = j) ∧ Hid (LstGP wr rb B bs res3 m3 j) ∧ Hid (OwnP 90 wr (w.heap.size + 1 + 1) (.slice AL ll.length cl) ll) ∧ Hid (w.grownBy wr (some rb)) ∧ Hid (wr.heap[w.heap.size]? = some (rcell (.slice none 0 0) (.slice none 0 0) (.slice none 0 0) (.slice none 0 0))) ∧ Hid (wr.heap[w.heap.size + 1]? = some (rcell (.slice A1 n1 c1) (.slice A2 n2 c2) (.slice A3 n3 c3) (.slice AL ll.length cl)))) (fun ti _ _ => m3 - (intOf ti).toNat)
    case atStart => exact ⟨0, [], none, 0, Nat.zero_le _, rfl, Lib.hid rfl, HLG3, Lib.hid (OwnP.nil_ _ _ _), HGQ3, F03, F23⟩
    case round =>
      obtain ⟨j, ll, AL, cl, hj, rfl, hll, HLj, HOj, HGj, HZj, HPj⟩ := hrel
      obtain ⟨wo, hwo⟩ : ∃ x, x = wr := ⟨_, rfl⟩
      subst hwo
      have hpl : w.heap.size + 1 < wo.heap.size := heapE_lt HPj.out
      by_cases hjm : j < m3
      · have hji : (j : Int) < (m3 : Int) := by omega
        rcases HLj.out with ⟨l, p, hlj, hrf, hcont⟩ | ⟨e, p, he, hrf, hinl⟩
        · obtain ⟨A', c', hrow, _⟩ := hrf.row
          obtain ⟨hc0, hc1, hc2, _, _⟩ := row3E hrow
          have HN := Lib.hid (numRS_one hlj hjm hrf hcont HBY.out hl)
          clear hlj hrf hcont hrow hc0 hc1
          go_wp2_with fail
          refine HN.out.mono ?_
          rintro en z1 ⟨x, rfl, hg1, hnext⟩
          have HNX := Lib.hid (hnext 1)
          have k2 : z1.heap[w.heap.size + 1]? = some (rcell (.slice A1 n1 c1) (.slice A2 n2 c2) (.slice A3 n3 c3) (.slice AL ll.length cl)) := (hg1.block (w.heap.size + 1) hpl (fun e => by injection e with e; omega)).trans HPj.out
          have k0 : z1.heap[w.heap.size]? = some (rcell (.slice none 0 0) (.slice none 0 0) (.slice none 0 0) (.slice none 0 0)) := (hg1.block w.heap.size (by omega) (fun e => by injection e with e; omega)).trans HZj.out
          have K0 := Lib.hid k0
          have K2 := Lib.hid k2
          obtain ⟨x0, x1, x2, x3, xf⟩ := rl_cells k2
          have hO1 := HOj.out.ff hg1 (fun g hg => by injection hg with hg; omega)
          have HO1 := Lib.hid hO1
          have HG1 : Hid (w.grownBy z1 (some rb)) := Lib.hid (grown_add HGj.out hg1)
          have hz1 := hg1.size
          clear hnext HN hc2 k0 k2 hO1 hg1 xf
          go_wp2_with fail
          go_region_law (first
            | (go_simp; go_at_call 67; refine HNX.out.mono ?_; rintro en z2 ⟨y, rfl, hg2, hlg2⟩; (have k2 := (hg2.block (w.heap.size + 1) (by omega) (fun e => by injection e with e; omega)).trans K2.out); (have k0 := (hg2.block w.heap.size (by omega) (fun e => by injection e with e; omega)).trans K0.out); (have hO2 := HO1.out.ff hg2 (fun g hg => by injection hg with hg; omega)); (have hz2 := hg2.size); (have HLG := Lib.hid hlg2); (have HO2 := Lib.hid hO2); (have HG2 : Hid (w.grownBy z2 (some rb)) := Lib.hid (grown_add HG1.out hg2)); (have KK0 := Lib.hid k0); (have KK2 := Lib.hid k2); (obtain ⟨y0, y1, y2, y3, yf⟩ := rl_cells k2); (have yl3 : (z2.alloc (.cells #[.int .i64 (x : Int), .int .i64 (y : Int)] 90)).cell? ⟨w.heap.size + 1, 3, none⟩ = some (.slice AL ll.length cl) := (World.cell?_alloc_lt z2 _ ⟨w.heap.size + 1, 3, none⟩ (show w.heap.size + 1 < z2.heap.size by omega)).trans y3); (obtain ⟨d0, d1, _, _⟩ := row2 (heap_new z2 (.cells #[.int .i64 (x : Int), .int .i64 (y : Int)] 90))); (have HD0 := Lib.hid d0); (have HD1 := Lib.hid d1); clear hg2 hlg2 k2 k0 hO2 yf d0 d1)
            | (refine stepP_appE (by rfl) (.tmp 57) (.tmp 62) (by rfl) (w.heap.size + 1 + 1) _ ll (by rfl) (HO2.out.alloc _) z2.heap.size x y (by rfl) HD0.out HD1.out (by have := hll.out; omega) (by simp; omega) ?_; intro ga ca z3 hown3 hgr3; (have e2 : z3.heap[w.heap.size + 1]? = _ := (hgr3.block (w.heap.size + 1) (by simp; omega) (fun e => by have := HO2.out.ge _ e.symm; omega)).trans ((Below.heap_alloc z2 _ (w.heap.size + 1) (show w.heap.size + 1 < z2.heap.size by omega)).trans KK2.out)); (have e0 : z3.heap[w.heap.size]? = _ := (hgr3.block w.heap.size (by simp; omega) (fun e => by have := HO2.out.ge _ e.symm; omega)).trans ((Below.heap_alloc z2 _ w.heap.size (show w.heap.size < z2.heap.size by omega)).trans KK0.out)); (have HG3 : Hid (w.grownBy z3 (some rb)) := Lib.hid (grown_new (grown_add HG2.out (grown_alloc1 z2 _ (some rb))) hgr3 (fun g hg => by have := HO2.out.ge g hg; omega))); (have HL3 := Lib.hid ((HLG.out.grown (grown_alloc1 z2 _ none) (fun g hg => by cases hg)).grown hgr3 (fun g hg => by have := HO2.out.ge g hg; omega))); (have E0 := Lib.hid e0); (have E2 := Lib.hid e2); (have HO3 := Lib.hid hown3); (have hz3 : z2.heap.size < z3.heap.size := by (have := hgr3.size); rw [World.size_alloc] at this; omega); (obtain ⟨v0, v1, v2, v3, vf⟩ := rl_cells e2); (have vff := vf 3); clear hown3 hgr3 e0 e2 vf)
            )
          all_goals (have HPN : Hid ((z3.setCell ⟨w.heap.size + 1, 3, none⟩ (.slice (some ⟨ga, 0, none⟩) (ll.length + 1) ca)).heap[w.heap.size + 1]? = some (rcell (.slice A1 n1 c1) (.slice A2 n2 c2) (.slice A3 n3 c3) (.slice (some ⟨ga, 0, none⟩) (ll.length + 1) ca))) := Lib.hid (heap_setCell_same z3 (w.heap.size + 1) 3 _ _ _ E2.out))
          all_goals (have hgs := grown_set z3 (w.heap.size + 1) 3 (.slice (some ⟨ga, 0, none⟩) (ll.length + 1) ca); have HZN := Lib.hid ((hgs.block w.heap.size (by omega) (fun e => by injection e with e; omega)).trans E0.out); have HLN := Lib.hid (HL3.out.grown hgs (fun g hg => by injection hg with hg; omega)); have HON := Lib.hid (HO3.out.ff hgs (fun g hg => by injection hg with hg; omega)); have HGN := Lib.hid (grown_new HG3.out hgs (fun g hg => by injection hg with hg; omega)); clear hgs)
          all_goals (clear x0 x1 x2 x3 y0 y1 y2 y3 v0 v1 v2 v3 vff yl3)
          all_goals (go_wp2_with fail; go_roundw)
          all_goals (first | (case rel => exact ⟨j + 1, ll ++ [(x, y)], some ⟨ga, 0, none⟩, ca, by omega, by go_num, Lib.hid (by rw [List.length_append, hll.out]; rfl), HLN, by rw [List.length_append]; exact HON, HGN, HZN, by rw [List.length_append]; exact HPN⟩) | (case measure => simp [intOf]; omega))
        · obtain ⟨A', c', hrow, _⟩ := hrf.row
          obtain ⟨hc0, hc1, hc2, _, _⟩ := row3E hrow
          have hne : (e == 0) = false := by rcases he with h | h <;> subst h <;> rfl
          have HSQ : Hid (StQ wo rb B bs (restS res3)) := Lib.hid (by rw [hinl]; exact ⟨he, p, hrf⟩)
          clear hrf hinl he hrow
          go_wp2_with fail
          go_meet
          exact ⟨HSQ, HGj, AL, ll.length, cl, HZj, HPj⟩
      · have hji : ¬ (j : Int) < (m3 : Int) := by omega
        have hd : decide ((j : Int) < (m3 : Int)) = false := by simp; omega
        obtain rfl : j = m3 := by omega
        have HSQ : Hid (StQ wo rb B bs (restS res3)) := Lib.hid HLj.out.done
        go_wp2_with fail
        go_meet
        exact ⟨HSQ, HGj, AL, ll.length, cl, HZj, HPj⟩
  case rest =>
  obtain ⟨ST4, HG4, A4, n4, c4, E04, E24⟩ := hcut
  obtain ⟨W4, hwe⟩ : ∃ W4 : World, W4 = wc := ⟨_, rfl⟩
  subst hwe
  rw [HRES3.out] at ST4
  have hz4 : w.heap.size + 1 < W4.heap.size := heapE_lt E24.out
  obtain ⟨x0, x1, x2, x3, xf⟩ := rl_cells E24.out
  obtain ⟨y0, y1, y2, y3, yf⟩ := rl_cells E04.out
  have q0 := yf 0
  have q1 := yf 1
  have q2 := yf 2
  have q3 := yf 3
  clear xf yf
  have hz4b := HG4.out.size
  go_wp2_with fail
  refine bodyPost_ret (v := .agg #[.slice A1 n1 c1, .slice A2 n2 c2, .slice A3 n3 c3, .slice A4 n4 c4]) ?_ rfl ⟨⟨A1, n1, c1, A2, n2, c2, A3, n3, c3, A4, n4, c4, rfl⟩, ?_, ?_⟩
  · simp [results, Try.results34, go_sem, y0, y1, y2, y3]
  · exact ST4.out.grown (set4_grown _ _ _ _ _ _) (fun g hg => by injection hg with hg; omega)
  · exact grown_new HG4.out (set4_grown _ _ _ _ _ _) (fun g hg => by injection hg with hg; omega)
end Go.Proofs.Ytolgmoaoheflcaa
