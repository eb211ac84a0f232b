/-
  Requests that the document's reader reads.
-/
import Derived.Test.YtmfoammkcokcoaaUQr
import Derived.Test.YtmfoammkcokcoaaUGr
namespace Go.Proofs.Ytmfoammkcokcoaa
open Go.RowKit
open ByteP CodeP
set_option linter.unusedVariables false
set_option maxRecDepth 10000
theorem grown_drewN1 (w : World) (k : Nat) : w.grownBy (w.drewN k) none := ⟨rfl, rfl, rfl, Nat.le_refl _, fun _ _ _ => rfl⟩
theorem restS_num (r : List Int) : restS (upS numI (.inr r)) = restS (num r) := by
  unfold numI; rw [upS_map]; rfl
/-- 'append(s, x)' of one thing, at a step of a region that draws its order. -/
theorem stepG_app {α : Type} [Inhabited α] {S E : TypeId} {z bytes : Nat} {zero : Value} {I : ItT α} (hI : Turns I) (hu : Try.prog.underlying S = some (.slice E)) (hinfo : (Try.prog.info? E).map (fun i => (i.zero, i.size, i.bytes)) = some (some zero, z, bytes)) (hzs : zero.cells.size = z) (hz0 : 0 < z) (hby : bytes ≤ 100000)
    {w : World} {ops : Array Oper} {o : Oper} {a : Act} {K : Act → World → Prop} {Q : Exit → Act → World → Prop} {Ex : Prop} (hgd : o.guard = none) (s x : Operand)
    (ho : o.op = .call { callee := .builtin .append, args := #[s, x], argTypes := #[S, S] })
    (base : Nat) (v : Value) (l : List α) (hs : a.eval s = v) (hown : OwnG E z I w base v l)
    (b : Nat) (vs : List Value) (y : α) (hx : a.eval x = .slice (some ⟨b, 0, none⟩) 1 1) (hvz : vs.length = z) (hc : ∀ i u, vs[i]? = some u → w.cell? ⟨b, i, none⟩ = some u) (h1 : ∀ u ∈ vs, u.oneCell' = true) (hy : I w (Ap base v) vs y) (hn : l.length ≤ 1000000000) (hbase : base ≤ w.heap.size)
    (h : ∀ g c w', OwnG E z I w' base (.slice (some ⟨g, 0, none⟩) (l.length + 1) c) (l ++ [y]) → w.grownBy w' v.ownBlock → K (a.put o.dst (.slice (some ⟨g, 0, none⟩) (l.length + 1) c)) w') :
    if Region.wanted o (yielded ops a.tmps) = true then Oper.wp Try.prog o a w K Q else Ex := by
  have hw : Region.wanted o (yielded ops a.tmps) = true := by simp [Region.wanted, hgd]
  rw [if_pos hw]
  obtain ⟨i0, hi, hz0', hz1, hz2⟩ := info_parts hinfo
  obtain ⟨vals, hrow, hj⟩ := hown
  obtain ⟨v', w', hrun, hown', hg, _, hat⟩ := run_append_own_at (P := Try.prog) w base S o.type E i0 zero z bytes hu hi hz0' hz1 hz2 hzs hz0 v l.length _ hrow ⟨b, 0, none⟩ 1 1 vs (by omega) (by
    intro j u hju
    have ha : (Addr.add ⟨b, 0, none⟩ j) = ⟨b, j, none⟩ := by
      unfold Addr.add
      by_cases h0 : j = 0 <;> simp [h0]
    rw [ha]; exact hc j u hju) h1 (by unfold maxLen; omega) (by have := Nat.mul_le_mul (show l.length + 1 ≤ 1000000001 by omega) hby; omega) hbase
  have ho' := OwnG.push hI hrow hj hvz hy hbase hown' hg hat
  obtain ⟨g, c, hv, _, _⟩ := World.ownsRow.form hown' (by omega)
  subst hv
  unfold Oper.wp
  simp only [execOp, ho, resolve, invoke, builtin, Sem.run_bind, Sem.run_pure, Result.andThen_ok, List.map_toArray, List.map_cons, List.map_nil, hs, hx, hrun]
  exact h g c w' ho' hg
theorem intsQ_any {w : World} {rb B : Nat} {bs : List Int} {s : Sum Int (List Int)} (h : StQ w rb B bs s) (hb : Bytes bs) (hl : bs.length ≤ 1000000000) :
    Calls Try.prog 56 #[.pointer (some ⟨rb, 0, none⟩)] w fun en w' => ∃ A n c, en = .returned (.slice A n c) ∧ StQ w' rb B bs (restS (upS intsP s)) ∧ w.grownBy w' (some rb) := by
  have e1 : intsP = mapP casts lst := (funext lst_eq).symm
  have e2 : lstS s = upS lst s := by cases s <;> rfl
  rw [e1, upS_map, ← e2]
  exact intsRS_any h hb hl
theorem infoRPn : (Try.prog.info? 135).map (fun i => (i.zero, i.size, i.bytes)) = some (some (.agg #[.int .i64 0, .slice none 0 0]), 2, 32) := by kernel_rfl
set_option maxHeartbeats 16000000 in
theorem requestQ_any {w : World} {rb B : Nat} {bs : List Int} {s : Sum Int (List Int)} (h : StQ w rb B bs s) (hrb : rb < w.heap.size) (hb : Bytes bs) (hl : bs.length ≤ 1000000000) :
    Calls Try.prog 23 #[.pointer (some ⟨rb, 0, none⟩)] w fun en w' => (∃ v, en = .returned v) ∧ StQ w' rb B bs (restS (upS rqP s)) ∧ w.grownBy w' (some rb) := by
  obtain ⟨W, hW⟩ : ∃ W, W = (w.alloc (.cells #[.slice none 0 0, .slice none 0 0] 56)).alloc (.cells #[.slice none 0 0, .slice none 0 0] 56) := ⟨_, rfl⟩
  have hgw : w.grownBy W (some rb) := by rw [hW]; exact grown_add (grown_alloc1 w _ _) (grown_alloc1 _ _ _)
  have hz : W.heap.size = w.heap.size + 2 := by rw [hW]; simp
  have h0 : W.heap[w.heap.size]? = some (.cells #[.slice none 0 0, .slice none 0 0] 56 (0, 0)) := by
    rw [hW, Below.heap_alloc _ _ _ (by simp)]; exact heap_alloc_new w _
  have h2 : W.heap[w.heap.size + 1]? = some (.cells #[.slice none 0 0, .slice none 0 0] 56 (0, 0)) := by
    rw [hW]
    have h := heap_alloc_new (w.alloc (.cells #[.slice none 0 0, .slice none 0 0] 56)) (.cells #[.slice none 0 0, .slice none 0 0] 56)
    rw [World.size_alloc] at h; exact h
  have HST : Hid (StQ W rb B bs s) := Lib.hid (by rw [hW]; exact (h.grown (row := none) (grown_alloc1 w _ none) (fun g hg => by cases hg)).grown (row := none) (grown_alloc1 _ _ none) (fun g hg => by cases hg))
  have HG0 := Lib.hid hgw
  have H0 := Lib.hid h0
  have H2 := Lib.hid h2
  have HW := Lib.hid hW
  have HBY := Lib.hid hb
  clear h hgw h0 h2 hb hW
  go_enter Try.func23, Try.ntmps23
  go_upto_region 2 with fail
  change Code.wp _ _ _ _ ((w.alloc (.cells #[.slice none 0 0, .slice none 0 0] 56)).alloc (.cells #[.slice none 0 0, .slice none 0 0] 56))
  rw [← HW.out]
  have HS := Lib.hid (sizeQ_any HST.out HBY.out hl)
  go_wp2_with fail
  refine HS.out.mono ?_
  rintro en w1 ⟨n, q0, e0, rfl, hpm, hrf, hg1, hst⟩
  have HLS : Hid (LsQ pinP w1 rb B bs (upS (lsL pinP) s) n 0) := Lib.hid (LsQ.start hrf hst)
  obtain ⟨res, hres⟩ : ∃ res, res = upS (lsL pinP) s := ⟨_, rfl⟩
  rw [← hres] at HLS
  have HRES := Lib.hid hres
  have HT2a : Hid (w1.heap[w.heap.size]? = _) := Lib.hid ((hg1.block w.heap.size (by omega) (fun e => by injection e with e; omega)).trans H0.out)
  have HT3a : Hid (w1.heap[w.heap.size + 1]? = _) := Lib.hid ((hg1.block (w.heap.size + 1) (by omega) (fun e => by injection e with e; omega)).trans H2.out)
  have HG1 : Hid (w.grownBy w1 (some rb)) := Lib.hid (grown_add HG0.out hg1)
  have hnl : n ≤ 1000000000 := by omega
  clear hrf hg1 hst HS hpm hres
  go_wp2_with fail
  go_loopw [5, 6] (fun v _ wr => ∃ (j : Nat) (lo : List Unit) (AO : Option Addr) (co : Nat), j ≤ n ∧ v = .int .i64 (j : Int) ∧ Hid (lo.length = j) ∧ Hid (LsQ pinP wr rb B bs res n j) ∧ Hid (OwnG 135 2 anyI wr W.heap.size (.slice AO lo.length co) lo) ∧ Hid (w.grownBy wr (some rb)) ∧ Hid (wr.heap[w.heap.size]? = some (.cells #[.slice none 0 0, .slice none 0 0] 56 (0, 0))) ∧ Hid (wr.heap[w.heap.size + 1]? = some (.cells #[.slice AO lo.length co, .slice none 0 0] 56 (0, 0)))) (fun v _ _ => n - (intOf v).toNat)
  case atStart => exact ⟨0, [], none, 0, Nat.zero_le _, rfl, Lib.hid rfl, HLS, Lib.hid (OwnG.nil_ _ _ _ _ _), HG1, HT2a, HT3a⟩
  case round =>
    obtain ⟨j, lo, AO, co, hj, rfl, HLL, HL, HO, HG, HT2, HT3⟩ := hrel
    obtain ⟨wo, hwo⟩ : ∃ x, x = wr := ⟨_, rfl⟩
    subst hwo
    have hpl : w.heap.size + 1 < wo.heap.size := heapE_lt HT3.out
    by_cases hjn : j < n
    · have hji : (j : Int) < (n : Int) := by omega
      rcases HL.out with ⟨l, q, hlo, hrf, hct⟩ | ⟨e, q, he, hrf, hinl⟩
      · obtain ⟨A', c', hrow, _⟩ := hrf.row
        obtain ⟨hc0, hc1, hc2, _, _⟩ := row3E hrow
        have HLO := Lib.hid hlo
        have HCT := Lib.hid hct
        have HN := Lib.hid (numQ_any (s := .inr (bs.drop q)) ⟨q, hrf, rfl⟩ HBY.out hl)
        clear hrow hrf hlo hct hc0 hc1
        go_wp2_with fail
        refine HN.out.mono ?_
        rintro en z1 ⟨sv, rfl, hs1, hg1, _, _⟩
        have e1 : numS (.inr (bs.drop q)) = num (bs.drop q) := rfl
        rw [e1] at hs1
        have hz1 := hg1.size
        have HNX := Lib.hid (rangedQ_any (w := z1.drewN 1) (StQ.grown hs1 (row := none) (grown_drewN1 z1 1) (fun g hg => by cases hg)) (show rb < z1.heap.size by omega) HBY.out hl)
        have k2 : z1.heap[w.heap.size + 1]? = some (.cells #[.slice AO lo.length co, .slice none 0 0] 56 (0, 0)) := (hg1.block (w.heap.size + 1) hpl (fun e => by injection e with e; omega)).trans HT3.out
        have k0 : z1.heap[w.heap.size]? = some (.cells #[.slice none 0 0, .slice none 0 0] 56 (0, 0)) := (hg1.block w.heap.size (by omega) (fun e => by injection e with e; omega)).trans HT2.out
        have K0 := Lib.hid k0
        have K2 := Lib.hid k2
        obtain ⟨x0, x1, _, _⟩ := row2 k2
        have hO1 := HO.out.turn any_turns hg1 (fun g hg => by injection hg with hg; omega)
        have HO1 := Lib.hid hO1
        have HG1 : Hid (w.grownBy z1 (some rb)) := Lib.hid (grown_add HG.out hg1)
        clear HN hc2 k0 k2 hO1 hg1 hs1 e1
        go_wp2_with fail
        go_region_law (first
          | (go_simp; go_at_call 55; refine HNX.out.mono ?_; rintro en z2 ⟨⟨AR, nR, cR, rfl⟩, hs2, hg2'⟩; (have hg2 : z1.grownBy z2 (some rb) := grown_add (grown_drewN (World.grownBy.refl z1 _) 1) hg2'); (have k2 := (hg2.block (w.heap.size + 1) (by omega) (fun e => by injection e with e; omega)).trans K2.out); (have k0 := (hg2.block w.heap.size (by omega) (fun e => by injection e with e; omega)).trans K0.out); (have hO2 := HO1.out.turn any_turns hg2 (fun g hg => by injection hg with hg; omega)); (have hz2 := hg2.size); (have HSP : Hid (StQ z2 rb B bs (restS (pinP (bs.drop q)))) := Lib.hid (by have h := hs2; rw [← restS_num] at h; rw [show pinP (bs.drop q) = upS (pairP numI rngP) (.inr (bs.drop q)) from rfl, upS_pair]; exact h)); (have HLG : Hid (LsQ pinP z2 rb B bs res n (j + 1)) := Lib.hid (LsQ.next HLO.out hjn HCT.out HSP.out)); (have HO2 := Lib.hid hO2); (have HG2 : Hid (w.grownBy z2 (some rb)) := Lib.hid (grown_add HG1.out hg2)); (have KK0 := Lib.hid k0); (have KK2 := Lib.hid k2); (obtain ⟨y0, y1, yf0, _⟩ := row2 k2); (have yl0 : (z2.alloc (.cells #[.int .i64 sv, .slice AR nR cR] 135)).cell? ⟨w.heap.size + 1, 0, none⟩ = some (.slice AO lo.length co) := (World.cell?_alloc_lt z2 _ ⟨w.heap.size + 1, 0, none⟩ (show w.heap.size + 1 < z2.heap.size by omega)).trans y0); (have HD := Lib.hid (cells_of (heap_new z2 (.cells #[.int .i64 sv, .slice AR nR cR] 135)))); clear hg2 hg2' hs2 k2 k0 hO2)
          | (refine stepG_app any_turns Try.underlying54 infoRPn (by rfl) (by decide) (by decide) (by rfl) (.tmp 24) (.tmp 29) (by rfl) W.heap.size _ lo (by rfl) (HO2.out.alloc any_turns _) z2.heap.size [.int .i64 sv, .slice AR nR cR] () (by rfl) (by rfl) HD.out (by intro u hu; simp at hu; rcases hu with rfl | rfl <;> rfl) trivial (by have := HLL.out; omega) (by simp; omega) ?_; intro ga ca z3 hown3 hgr3; (have hge3 := fun g hg => (HO2.out.ge g hg).1); (have e2 : z3.heap[w.heap.size + 1]? = _ := (hgr3.block (w.heap.size + 1) (by simp; omega) (fun e => by have := hge3 _ e.symm; omega)).trans ((Below.heap_alloc z2 _ (w.heap.size + 1) (show w.heap.size + 1 < z2.heap.size by omega)).trans KK2.out)); (have e0 : z3.heap[w.heap.size]? = _ := (hgr3.block w.heap.size (by simp; omega) (fun e => by have := hge3 _ e.symm; omega)).trans ((Below.heap_alloc z2 _ w.heap.size (show w.heap.size < z2.heap.size by omega)).trans KK0.out)); (have HG3 : Hid (w.grownBy z3 (some rb)) := Lib.hid (grown_new (grown_add HG2.out (grown_alloc1 z2 _ (some rb))) hgr3 (fun g hg => by have := hge3 g hg; omega))); (have HL3 := Lib.hid ((HLG.out.grown (grown_alloc1 z2 _ none) (fun g hg => by cases hg)).grown hgr3 (fun g hg => by have := hge3 g hg; omega))); (have E0 := Lib.hid e0); (have E2 := Lib.hid e2); (have HO3 := Lib.hid hown3); (have hz3 : z2.heap.size < z3.heap.size := by (have := hgr3.size); rw [World.size_alloc] at this; omega); (obtain ⟨v0, v1, vff, _⟩ := row2 e2); clear hown3 hgr3 e0 e2)
          )
        all_goals (have HPN : Hid ((z3.setCell ⟨w.heap.size + 1, 0, none⟩ (.slice (some ⟨ga, 0, none⟩) (lo.length + 1) ca)).heap[w.heap.size + 1]? = some (.cells #[.slice (some ⟨ga, 0, none⟩) (lo.length + 1) ca, .slice none 0 0] 56 (0, 0))) := Lib.hid (heap_setCell_same z3 (w.heap.size + 1) 0 _ _ _ E2.out))
        all_goals (have hgs := grown_set z3 (w.heap.size + 1) 0 (.slice (some ⟨ga, 0, none⟩) (lo.length + 1) ca); have HZN := Lib.hid ((hgs.block w.heap.size (by omega) (fun e => by injection e with e; omega)).trans E0.out); have HLN := Lib.hid (HL3.out.grown hgs (fun g hg => by injection hg with hg; omega)); have HON := Lib.hid (OwnG.turn any_turns HO3.out hgs (fun g hg => by injection hg with hg; omega)); have HGN := Lib.hid (grown_new HG3.out hgs (fun g hg => by injection hg with hg; omega)); clear hgs)
        all_goals (clear x0 x1 y0 y1 yf0 v0 v1 vff yl0)
        all_goals (go_wp2_with fail; go_roundw)
        all_goals (first | (case rel => exact ⟨j + 1, lo ++ [()], some ⟨ga, 0, none⟩, ca, by omega, by go_num, Lib.hid (by rw [List.length_append, HLL.out]; rfl), HLN, by rw [List.length_append]; exact HON, HGN, HZN, by rw [List.length_append]; exact HPN⟩) | (case measure => simp [intOf]; omega))
      · obtain ⟨A', c', hrow, _⟩ := hrf.row
        obtain ⟨hc0, hc1, hc2, _, _⟩ := row3E hrow
        have hne : (e == 0) = false := by rcases he with h | h <;> subst h <;> rfl
        have HSQ : Hid (StQ wo rb B bs (restS (upS (lsL pinP) s))) := Lib.hid (by rw [← HRES.out, hinl]; exact ⟨he, q, hrf⟩)
        clear hrow hrf hinl he
        have HI := Lib.hid (intsQ_any HSQ.out HBY.out hl)
        go_wp2_with fail
        refine HI.out.mono ?_
        rintro en w6 ⟨A2, n2, c2, rfl, hs6, hg6⟩
        have k6 := (hg6.block (w.heap.size + 1) hpl (fun e => by injection e with e; omega)).trans HT3.out
        have k7 := (hg6.block w.heap.size (by omega) (fun e => by injection e with e; omega)).trans HT2.out
        obtain ⟨b0, b1, _, bf1⟩ := row2 k6
        obtain ⟨Y, HY⟩ : ∃ Y, Hid (Y = w6.setCell ⟨w.heap.size + 1, 1, none⟩ (.slice A2 n2 c2)) := ⟨_, Lib.hid rfl⟩
        have hgY : w6.grownBy Y (some (w.heap.size + 1)) := by rw [HY.out]; exact grown_set _ _ _ _
        have g1 : Y.heap[w.heap.size + 1]? = some (.cells #[.slice AO lo.length co, .slice A2 n2 c2] 56 (0, 0)) := by
          rw [HY.out]; exact heap_setCell_same w6 (w.heap.size + 1) 1 _ _ (.slice A2 n2 c2) k6
        have hz6 := hg6.size
        have g0 : Y.heap[w.heap.size]? = some (.cells #[.slice none 0 0, .slice none 0 0] 56 (0, 0)) := (hgY.block w.heap.size (by omega) (fun e => by injection e with e; omega)).trans k7
        have HSY : Hid (StQ Y rb B bs (restS (upS rqP s))) := Lib.hid (by
          unfold rqP
          rw [upS_pair]
          exact hs6.grown hgY (fun g hg => by injection hg with hg; omega))
        have HGY : Hid (w.grownBy Y (some rb)) := Lib.hid (grown_new (grown_add HG.out hg6) hgY (fun g hg => by injection hg with hg; omega))
        have HG01 := Lib.hid (And.intro g0 g1)
        clear hs6 hg6 k6 k7 hgY g0 g1 HI
        go_upto_region 9 with fail
        rw [← HY.out]
        clear b0 b1 bf1
        obtain ⟨b0, b1, _, _⟩ := row2 HG01.out.2
        obtain ⟨c0, c1, cf0, cf1⟩ := row2 HG01.out.1
        go_wp2_with fail
        refine bodyPost_ret (v := .agg #[.slice AO lo.length co, .slice A2 n2 c2]) ?_ rfl ⟨⟨_, rfl⟩, ?_, ?_⟩
        · simp [results, Try.results23, go_sem, c0, c1]
        · exact HSY.out.grown (grown_add (grown_set _ _ _ _) (grown_set _ _ _ _)) (fun g hg => by injection hg with hg; omega)
        · exact grown_new HGY.out (grown_add (grown_set _ _ _ _) (grown_set _ _ _ _)) (fun g hg => by injection hg with hg; omega)

    · have hji : ¬ (j : Int) < (n : Int) := by omega
      have hd : decide ((j : Int) < (n : Int)) = false := by simp; omega
      obtain rfl : j = n := by omega
      have HSQ : Hid (StQ wo rb B bs (restS (upS (lsL pinP) s))) := Lib.hid (by rw [← HRES.out]; exact HL.out.done)
      have HI := Lib.hid (intsQ_any HSQ.out HBY.out hl)
      go_wp2_with fail
      refine HI.out.mono ?_
      rintro en w6 ⟨A2, n2, c2, rfl, hs6, hg6⟩
      have k6 := (hg6.block (w.heap.size + 1) hpl (fun e => by injection e with e; omega)).trans HT3.out
      have k7 := (hg6.block w.heap.size (by omega) (fun e => by injection e with e; omega)).trans HT2.out
      obtain ⟨b0, b1, _, bf1⟩ := row2 k6
      obtain ⟨Y, HY⟩ : ∃ Y, Hid (Y = w6.setCell ⟨w.heap.size + 1, 1, none⟩ (.slice A2 n2 c2)) := ⟨_, Lib.hid rfl⟩
      have hgY : w6.grownBy Y (some (w.heap.size + 1)) := by rw [HY.out]; exact grown_set _ _ _ _
      have g1 : Y.heap[w.heap.size + 1]? = some (.cells #[.slice AO lo.length co, .slice A2 n2 c2] 56 (0, 0)) := by
        rw [HY.out]; exact heap_setCell_same w6 (w.heap.size + 1) 1 _ _ (.slice A2 n2 c2) k6
      have hz6 := hg6.size
      have g0 : Y.heap[w.heap.size]? = some (.cells #[.slice none 0 0, .slice none 0 0] 56 (0, 0)) := (hgY.block w.heap.size (by omega) (fun e => by injection e with e; omega)).trans k7
      have HSY : Hid (StQ Y rb B bs (restS (upS rqP s))) := Lib.hid (by
        unfold rqP
        rw [upS_pair]
        exact hs6.grown hgY (fun g hg => by injection hg with hg; omega))
      have HGY : Hid (w.grownBy Y (some rb)) := Lib.hid (grown_new (grown_add HG.out hg6) hgY (fun g hg => by injection hg with hg; omega))
      have HG01 := Lib.hid (And.intro g0 g1)
      clear hs6 hg6 k6 k7 hgY g0 g1 HI
      go_upto_region 9 with fail
      rw [← HY.out]
      clear b0 b1 bf1
      obtain ⟨b0, b1, _, _⟩ := row2 HG01.out.2
      obtain ⟨c0, c1, cf0, cf1⟩ := row2 HG01.out.1
      go_wp2_with fail
      refine bodyPost_ret (v := .agg #[.slice AO lo.length co, .slice A2 n2 c2]) ?_ rfl ⟨⟨_, rfl⟩, ?_, ?_⟩
      · simp [results, Try.results23, go_sem, c0, c1]
      · exact HSY.out.grown (grown_add (grown_set _ _ _ _) (grown_set _ _ _ _)) (fun g hg => by injection hg with hg; omega)
      · exact grown_new HGY.out (grown_add (grown_set _ _ _ _) (grown_set _ _ _ _)) (fun g hg => by injection hg with hg; omega)

end Go.Proofs.Ytmfoammkcokcoaa
