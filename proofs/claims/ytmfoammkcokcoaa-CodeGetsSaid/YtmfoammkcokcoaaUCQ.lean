/-
  Catalogues that the document's reader reads.
-/
import Derived.Test.YtmfoammkcokcoaaUCq
namespace Go.Proofs.Ytmfoammkcokcoaa
open Go.RowKit
open ByteP CodeP
set_option linter.unusedVariables false
set_option maxRecDepth 10000
theorem infoRRl : (Try.prog.info? 102).map (fun i => (i.zero, i.size, i.bytes)) = some (some (.agg #[.int .i64 0, .int .i64 0, .int .i64 0, .string ⟨#[]⟩, .int .i64 0, .slice none 0 0]), 6, 72) := by kernel_rfl
theorem infoRSv : (Try.prog.info? 93).map (fun i => (i.zero, i.size, i.bytes)) = some (some (.agg #[.string ⟨#[]⟩, .slice none 0 0]), 2, 40) := by kernel_rfl
set_option maxHeartbeats 16000000 in
theorem catalogQ_any {w : World} {rb B : Nat} {bs : List Int} {s : Sum Int (List Int)} (h : StQ w rb B bs s) (hrb : rb < w.heap.size) (hb : Bytes bs) (hl : bs.length ≤ 1000000000) :
    Calls Try.prog 16 #[.pointer (some ⟨rb, 0, none⟩)] w fun en w' => (∃ v, en = .returned v) ∧ StQ w' rb B bs (restS (upS catP s)) ∧ w.grownBy w' (some rb) := by
  obtain ⟨W, hW⟩ : ∃ W, W = (w.alloc (.cells #[.slice none 0 0] 28)).alloc (.cells #[.slice none 0 0] 28) := ⟨_, rfl⟩
  have hgw : w.grownBy W (some rb) := by rw [hW]; exact grown_add (grown_alloc1 w _ _) (grown_alloc1 _ _ _)
  have hz : W.heap.size = w.heap.size + 2 := by rw [hW]; simp
  have h0 : W.heap[w.heap.size]? = some (.cells #[.slice none 0 0] 28 (0, 0)) := by
    rw [hW, Below.heap_alloc _ _ _ (by simp)]; exact heap_alloc_new w _
  have h2 : W.heap[w.heap.size + 1]? = some (.cells #[.slice none 0 0] 28 (0, 0)) := by
    rw [hW]
    have h := heap_alloc_new (w.alloc (.cells #[.slice none 0 0] 28)) (.cells #[.slice none 0 0] 28)
    rw [World.size_alloc] at h; exact h
  have HST : Hid (StQ W rb B bs s) := Lib.hid (by rw [hW]; exact (h.grown (row := none) (grown_alloc1 w _ none) (fun g hg => by cases hg)).grown (row := none) (grown_alloc1 _ _ none) (fun g hg => by cases hg))
  have HG0 := Lib.hid hgw
  have H0 := Lib.hid h0
  have H2 := Lib.hid h2
  have HW := Lib.hid hW
  have HBY := Lib.hid hb
  clear h hgw h0 h2 hb hW
  go_enter Try.func16, Try.ntmps16
  go_upto_region 2 with fail
  change Code.wp _ _ _ _ ((w.alloc (.cells #[.slice none 0 0] 28)).alloc (.cells #[.slice none 0 0] 28))
  rw [← HW.out]
  have HS := Lib.hid (sizeQ_any HST.out HBY.out hl)
  go_wp2_with fail
  refine HS.out.mono ?_
  rintro en w1 ⟨n, q0, e0, rfl, hpm, hrf, hg1, hst⟩
  have HLS : Hid (LsQ svP w1 rb B bs (upS catP s) n 0) := Lib.hid (LsQ.start hrf hst)
  obtain ⟨res, hres⟩ : ∃ res, res = upS catP s := ⟨_, rfl⟩
  rw [← hres] at HLS
  have HRES := Lib.hid hres
  have HT2a : Hid (w1.heap[w.heap.size]? = _) := Lib.hid ((hg1.block w.heap.size (by omega) (fun e => by injection e with e; omega)).trans H0.out)
  have HT3a : Hid (w1.heap[w.heap.size + 1]? = _) := Lib.hid ((hg1.block (w.heap.size + 1) (by omega) (fun e => by injection e with e; omega)).trans H2.out)
  have HG1 : Hid (w.grownBy w1 (some rb)) := Lib.hid (grown_add HG0.out hg1)
  have hnl : n ≤ 1000000000 := by omega
  clear hrf hg1 hst HS hpm hres
  go_wp2_with fail
  go_loopw [5, 6, 7, 8] (fun v _ _ _ wr => ∃ (j : Nat) (lo : List Unit) (AO : Option Addr) (co : Nat), j ≤ n ∧ v = .int .i64 (j : Int) ∧ Hid (lo.length = j) ∧ Hid (LsQ svP wr rb B bs res n j) ∧ Hid (OwnG 93 2 anyI wr (w.heap.size + 2) (.slice AO lo.length co) lo) ∧ Hid (w.grownBy wr (some rb)) ∧ Hid (wr.heap[w.heap.size]? = some (.cells #[.slice none 0 0] 28 (0, 0))) ∧ Hid (wr.heap[w.heap.size + 1]? = some (.cells #[.slice AO lo.length co] 28 (0, 0)))) (fun v _ _ _ _ => n - (intOf v).toNat)
  case atStart => exact ⟨0, [], none, 0, Nat.zero_le _, rfl, Lib.hid rfl, HLS, Lib.hid (OwnG.nil_ _ _ _ _ _), HG1, HT2a, HT3a⟩
  case round =>
    obtain ⟨wo, hwo⟩ : ∃ x, x = wr := ⟨_, rfl⟩
    subst hwo
    obtain ⟨j, lo, AO, co, hj, rfl, HLL, HL, HO, HG, HT2, HT3⟩ := hrel
    have hpl : w.heap.size + 1 < wo.heap.size := heapE_lt HT3.out
    by_cases hjn : j < n
    · have hji : (j : Int) < (n : Int) := by omega
      rcases HL.out with ⟨l, q, hlo, hrf, hct⟩ | ⟨e, q, he, hrf, hinl⟩
      · obtain ⟨A', c', hrow, _⟩ := hrf.row
        obtain ⟨hc0, hc1, hc2, _, _⟩ := row3E hrow
        have HLO := Lib.hid hlo
        have HCT := Lib.hid hct
        have hrbl := hrf.here
        obtain ⟨X, HX⟩ : ∃ X, Hid (X = wo.alloc (.cells #[.string ⟨#[]⟩, .slice none 0 0] 93)) := ⟨_, Lib.hid rfl⟩
        have hXs : X.heap.size = wo.heap.size + 1 := by rw [HX.out]; simp
        have HX0 : Hid (X.heap[wo.heap.size]? = some (.cells #[.string ⟨#[]⟩, .slice none 0 0] 93 (0, 0))) := Lib.hid (by rw [HX.out]; exact heap_new wo _)
        have HBX : Hid (wo.grownBy X (some rb)) := Lib.hid (by rw [HX.out]; exact grown_alloc1 wo _ _)
        have HTX := Lib.hid (textQG (s := .inr (bs.drop q)) (show StQ X rb B bs _ from ⟨q, by rw [HX.out]; exact hrf.alloc _, rfl⟩) HBY.out hl)
        have HXS := Lib.hid hXs
        clear hrow hrf hlo hct hc0 hc1 hXs
        go_upto_region 7 with fail
        change Code.wp _ _ _ _ (wo.alloc (.cells #[.string ⟨#[]⟩, .slice none 0 0] 93))
        rw [← HX.out]
        go_wp2_with fail
        refine HTX.out.mono ?_
        rintro en z1 ⟨tn, rfl, hs1, hg1⟩
        have hz1 := hg1.size
        have k1 := (hg1.block wo.heap.size (by have := HXS.out; omega) (fun e => by injection e with e; omega)).trans HX0.out
        obtain ⟨x0, x1, xf0, _⟩ := row2 k1
        obtain ⟨Y, HY⟩ : ∃ Y, Hid (Y = z1.setCell ⟨wo.heap.size, 0, none⟩ (.string tn)) := ⟨_, Lib.hid rfl⟩
        have hgY : z1.grownBy Y (some wo.heap.size) := by rw [HY.out]; exact grown_set _ _ _ _
        have HY0 : Hid (Y.heap[wo.heap.size]? = some (.cells #[.string tn, .slice none 0 0] 93 (0, 0))) := Lib.hid (by rw [HY.out]; exact heap_setCell_same z1 wo.heap.size 0 _ _ (.string tn) k1)
        have HSY := Lib.hid (hs1.grown hgY (fun g hg => by injection hg with hg; omega))
        have HBY2 : Hid (wo.grownBy Y (some rb)) := Lib.hid (grown_new (grown_add HBX.out hg1) hgY (fun g hg => by injection hg with hg; omega))
        have HS2 := Lib.hid (sizeQ_any HSY.out HBY.out hl)
        have HZY : Hid (wo.heap.size < Y.heap.size) := Lib.hid (heapE_lt HY0.out)
        clear hg1 k1 hgY hs1 HTX hz1
        go_upto_region 8 with fail
        rw [← HY.out]
        clear x0 x1 xf0
        go_wp2_with fail
        refine HS2.out.mono ?_
        rintro en w2 ⟨m, q2, e2, rfl, hpm, hrf2, hg2, hst2⟩
        have HLI0 : Hid (LsQ relP w2 rb B bs (upS (lsL relP) (restS (upS strP (.inr (bs.drop q))))) m 0) := Lib.hid (LsQ.start hrf2 hst2)
        obtain ⟨ri, hri⟩ : ∃ ri, ri = upS (lsL relP) (restS (upS strP (.inr (bs.drop q)))) := ⟨_, rfl⟩
        rw [← hri] at HLI0
        have HRI : Hid (restS (svP (bs.drop q)) = restS ri) := Lib.hid (by rw [hri, show svP (bs.drop q) = upS (pairP strP (lsL relP)) (.inr (bs.drop q)) from rfl, upS_pair])
        have hml : m ≤ 1000000000 := by omega
        have HB2 : Hid (wo.grownBy w2 (some rb)) := Lib.hid (grown_add HBY2.out hg2)
        have HT6a : Hid (w2.heap[wo.heap.size]? = _) := Lib.hid ((hg2.block wo.heap.size HZY.out (fun e => by injection e with e; omega)).trans HY0.out)
        clear hrf2 hst2 hg2 hpm hri HS2 hc2
        go_wp2_with fail
        go_loopw [8] (fun v8 wr => ∃ (k : Nat) (li : List Unit) (AI : Option Addr) (ci : Nat), k ≤ m ∧ v8 = .int .i64 (k : Int) ∧ Hid (li.length = k) ∧ Hid (LsQ relP wr rb B bs ri m k) ∧ Hid (OwnG 102 6 anyI wr (wo.heap.size + 1) (.slice AI li.length ci) li) ∧ Hid (wo.grownBy wr (some rb)) ∧ Hid (wr.heap[wo.heap.size]? = some (.cells #[.string tn, .slice AI li.length ci] 93 (0, 0)))) (fun v _ => m - (intOf v).toNat)
        case atStart => exact ⟨0, [], none, 0, Nat.zero_le _, rfl, Lib.hid rfl, HLI0, Lib.hid (OwnG.nil_ _ _ _ _ _), HB2, HT6a⟩
        case round =>
          obtain ⟨k, li, AI, ci, hk, rfl, HKL, HLI, HOI, HBI, HT6⟩ := hrel
          obtain ⟨wi, hwi⟩ : ∃ x, x = wr := ⟨_, rfl⟩
          have hzr := HBI.out.size
          have hwi6 : wo.heap.size < wr.heap.size := heapE_lt HT6.out
          have HT2' : Hid (wr.heap[w.heap.size]? = _) := Lib.hid ((HBI.out.block w.heap.size (by omega) (fun e => by injection e with e; omega)).trans HT2.out)
          have HT3' : Hid (wr.heap[w.heap.size + 1]? = _) := Lib.hid ((HBI.out.block (w.heap.size + 1) (by omega) (fun e => by injection e with e; omega)).trans HT3.out)
          by_cases hkm : k < m
          · have hki : (k : Int) < (m : Int) := by omega
            rcases HLI.out with ⟨l2, q3, hl2, hrf3, hct3⟩ | ⟨e3, q3, he3, hrf3, hinl3⟩
            · obtain ⟨A', c', hrow, _⟩ := hrf3.row
              obtain ⟨hc0, hc1, hc2, _, _⟩ := row3E hrow
              have HL2 := Lib.hid hl2
              have HC3 := Lib.hid hct3
              have HNX := Lib.hid (releaseQ_any (w := wr.drewN 1) (s := .inr (bs.drop q3)) ⟨q3, hrf3.drewN 1, rfl⟩ (show rb < wr.heap.size by omega) HBY.out hl)
              subst hwi
              obtain ⟨x0, x1, _, _⟩ := row2 HT6.out
              clear hrow hrf3 hl2 hct3 hc0 hc1
              go_wp2_with fail
              go_region_law (first
                | (go_simp; go_at_call 45; refine HNX.out.mono ?_; rintro en z2 ⟨⟨ra, rbb, rc, rt, rl, AR, nR, cR, rfl⟩, hs2, hg2'⟩; (have hg2 : wi.grownBy z2 (some rb) := grown_add (grown_drewN (World.grownBy.refl wi _) 1) hg2'); (have k2 := (hg2.block wo.heap.size hwi6 (fun e => by injection e with e; omega)).trans HT6.out); (have hO2 := HOI.out.turn any_turns hg2 (fun g hg => by injection hg with hg; omega)); (have hz2 := hg2.size); (have HSP : Hid (StQ z2 rb B bs (restS (relP (bs.drop q3)))) := Lib.hid hs2); (have HLG : Hid (LsQ relP z2 rb B bs ri m (k + 1)) := Lib.hid (LsQ.next HL2.out hkm HC3.out HSP.out)); (have HO2 := Lib.hid hO2); (have HG2 : Hid (wo.grownBy z2 (some rb)) := Lib.hid (grown_add HBI.out hg2)); (have KK2 := Lib.hid k2); (obtain ⟨y0, y1, _, _⟩ := row2 k2); (have yl0 : (z2.alloc (.cells #[.int .i64 ra, .int .i64 rbb, .int .i64 rc, .string rt, .int .i64 rl, .slice AR nR cR] 102)).cell? ⟨wo.heap.size, 1, none⟩ = some (.slice AI li.length ci) := (World.cell?_alloc_lt z2 _ ⟨wo.heap.size, 1, none⟩ (show wo.heap.size < z2.heap.size by omega)).trans y1); (have HD := Lib.hid (cells_of (heap_new z2 (.cells #[.int .i64 ra, .int .i64 rbb, .int .i64 rc, .string rt, .int .i64 rl, .slice AR nR cR] 102)))); clear hg2 hg2' hs2 k2 hO2)
                | (refine stepG_app any_turns Try.underlying91 infoRRl (by rfl) (by decide) (by decide) (by rfl) (.tmp 41) (.tmp 44) (by rfl) (wo.heap.size + 1) _ li (by rfl) (HO2.out.alloc any_turns _) z2.heap.size [.int .i64 ra, .int .i64 rbb, .int .i64 rc, .string rt, .int .i64 rl, .slice AR nR cR] () (by rfl) (by rfl) HD.out (by intro u hu; simp at hu; rcases hu with rfl | rfl | rfl | rfl | rfl | rfl <;> rfl) trivial (by have := HKL.out; omega) (by simp; omega) ?_; intro ga ca z3 hown3 hgr3; (have hge3 := fun g hg => (HO2.out.ge g hg).1); (have e2 : z3.heap[wo.heap.size]? = _ := (hgr3.block wo.heap.size (by simp; omega) (fun e => by have := hge3 _ e.symm; omega)).trans ((Below.heap_alloc z2 _ wo.heap.size (show wo.heap.size < z2.heap.size by omega)).trans KK2.out)); (have HG3 : Hid (wo.grownBy z3 (some rb)) := Lib.hid (grown_new (grown_add HG2.out (grown_alloc1 z2 _ (some rb))) hgr3 (fun g hg => by have := hge3 g hg; omega))); (have HL3 := Lib.hid ((HLG.out.grown (grown_alloc1 z2 _ none) (fun g hg => by cases hg)).grown hgr3 (fun g hg => by have := hge3 g hg; omega))); (have E2 := Lib.hid e2); (have HO3 := Lib.hid hown3); (have hz3 : z2.heap.size < z3.heap.size := by (have := hgr3.size); rw [World.size_alloc] at this; omega); (obtain ⟨v0, v1, _, vff⟩ := row2 e2); clear hown3 hgr3 e2)
                )
              all_goals (have HPN : Hid ((z3.setCell ⟨wo.heap.size, 1, none⟩ (.slice (some ⟨ga, 0, none⟩) (li.length + 1) ca)).heap[wo.heap.size]? = some (.cells #[.string tn, .slice (some ⟨ga, 0, none⟩) (li.length + 1) ca] 93 (0, 0))) := Lib.hid (heap_setCell_same z3 wo.heap.size 1 _ _ _ E2.out))
              all_goals (have hgs := grown_set z3 wo.heap.size 1 (.slice (some ⟨ga, 0, none⟩) (li.length + 1) ca); have HLN := Lib.hid (HL3.out.grown hgs (fun g hg => by injection hg with hg; omega)); have HON := Lib.hid (OwnG.turn any_turns HO3.out hgs (fun g hg => by injection hg with hg; omega)); have HGN := Lib.hid (grown_new HG3.out hgs (fun g hg => by injection hg with hg; omega)); clear hgs)
              all_goals (clear x0 x1 y0 y1 v0 v1 vff yl0)
              all_goals (go_wp2_with fail; go_roundw)
              all_goals (first | (case rel => exact ⟨k + 1, li ++ [()], some ⟨ga, 0, none⟩, ca, by omega, by go_num, Lib.hid (by rw [List.length_append, HKL.out]; rfl), HLN, by rw [List.length_append]; exact HON, HGN, by rw [List.length_append]; exact HPN⟩) | (case measure => simp [intOf]; omega))
            · obtain ⟨A', c', hrow, _⟩ := hrf3.row
              obtain ⟨hc0, hc1, hc2, _, _⟩ := row3E hrow
              have hne : (e3 == 0) = false := by rcases he3 with h | h <;> subst h <;> rfl
              have HSI : StQ wr rb B bs (restS (svP (bs.drop q))) := by
                rw [HRI.out, hinl3]; exact ⟨he3, q3, hrf3⟩
              clear hrow hrf3 hinl3 he3 hwi
              have HLN : Hid (LsQ svP wr rb B bs res n (j + 1)) := Lib.hid (LsQ.next HLO.out hjn HCT.out HSI)
              obtain ⟨t3, _⟩ := row1f HT3'.out
              obtain ⟨s0, s1, _, _⟩ := row2 HT6.out
              have HOO : Hid (OwnG 93 2 anyI wr (w.heap.size + 2) (.slice AO lo.length co) lo) := Lib.hid (HO.out.turn any_turns HBI.out (fun g hg => by injection hg with hg; omega))
              have HD := Lib.hid (cells_of (heap_new wr (.cells #[.string tn, .slice AI li.length ci] 93)))
              go_wp2_with (at_builtin; refine wplG_app any_turns Try.underlying26 infoRSv rfl (by decide) (by decide) rfl (.tmp 48) (.tmp 50) rfl (w.heap.size + 2) (.slice AO lo.length co) lo rfl (HOO.out.alloc any_turns _) wr.heap.size [.string tn, .slice AI li.length ci] () rfl rfl HD.out (by intro u hu; simp at hu; rcases hu with rfl | rfl <;> rfl) trivial (by have := HLL.out; omega) (by simp; omega) ?_; intro g c3 w5 hown5 hgr5; (have hz5 : wr.heap.size + 1 ≤ w5.heap.size := by (have := hgr5.size); rw [World.size_alloc] at this; exact this); (have hge5 := fun g hg => (HOO.out.ge g hg).1); (have k3 : w5.heap[w.heap.size + 1]? = _ := (hgr5.block (w.heap.size + 1) (by simp; omega) (fun e => by have := hge5 _ e.symm; omega)).trans ((Below.heap_alloc wr _ (w.heap.size + 1) (show w.heap.size + 1 < wr.heap.size by omega)).trans HT3'.out)); (have k2 : w5.heap[w.heap.size]? = _ := (hgr5.block w.heap.size (by simp; omega) (fun e => by have := hge5 _ e.symm; omega)).trans ((Below.heap_alloc wr _ w.heap.size (show w.heap.size < wr.heap.size by omega)).trans HT2'.out)); (obtain ⟨b0, bf⟩ := row1f k3))
              have K3 : Hid ((w5.setCell ⟨w.heap.size + 1, 0, none⟩ (.slice (some ⟨g, 0, none⟩) (lo.length + 1) c3)).heap[w.heap.size + 1]? = _) := Lib.hid (heap_setCell_same w5 (w.heap.size + 1) 0 _ _ (.slice (some ⟨g, 0, none⟩) (lo.length + 1) c3) k3)
              have hgs := grown_set w5 (w.heap.size + 1) 0 (.slice (some ⟨g, 0, none⟩) (lo.length + 1) c3)
              have K2 := Lib.hid ((hgs.block w.heap.size (by omega) (fun e => by injection e with e; omega)).trans k2)
              have HO5 := Lib.hid (OwnG.turn any_turns hown5 hgs (fun g hg => by injection hg with hg; omega))
              have HG5 : Hid (w.grownBy (w5.setCell ⟨w.heap.size + 1, 0, none⟩ (.slice (some ⟨g, 0, none⟩) (lo.length + 1) c3)) (some rb)) := Lib.hid (grown_new (grown_new (grown_add (grown_add HG.out HBI.out) (grown_alloc1 wr _ _)) hgr5 (fun g hg => by have := hge5 g hg; omega)) hgs (fun g hg => by injection hg with hg; omega))
              have HL5 := Lib.hid (((HLN.out.grown (row := none) (grown_alloc1 wr (.cells #[.string tn, .slice AI li.length ci] 93) none) (fun g hg => by cases hg)).grown hgr5 (fun g hg => by have := hge5 g hg; omega)).grown hgs (fun g hg => by injection hg with hg; omega))
              clear k3 k2 hgs hown5 hgr5 t3 s0 s1
              go_wp2_with fail
              go_roundw
              case rel => exact ⟨j + 1, lo ++ [()], some ⟨g, 0, none⟩, c3, by omega, by go_num, Lib.hid (by rw [List.length_append, HLL.out]; rfl), HL5, by rw [List.length_append]; exact HO5, HG5, K2, by rw [List.length_append]; exact K3⟩
              case measure => simp [intOf]; omega

          · have hki : ¬ (k : Int) < (m : Int) := by omega
            have hd : decide ((k : Int) < (m : Int)) = false := by simp; omega
            obtain rfl : k = m := by omega
            have HSI : StQ wr rb B bs (restS (svP (bs.drop q))) := by
              rw [HRI.out]; exact HLI.out.done
            clear hwi
            have HLN : Hid (LsQ svP wr rb B bs res n (j + 1)) := Lib.hid (LsQ.next HLO.out hjn HCT.out HSI)
            obtain ⟨t3, _⟩ := row1f HT3'.out
            obtain ⟨s0, s1, _, _⟩ := row2 HT6.out
            have HOO : Hid (OwnG 93 2 anyI wr (w.heap.size + 2) (.slice AO lo.length co) lo) := Lib.hid (HO.out.turn any_turns HBI.out (fun g hg => by injection hg with hg; omega))
            have HD := Lib.hid (cells_of (heap_new wr (.cells #[.string tn, .slice AI li.length ci] 93)))
            go_wp2_with (at_builtin; refine wplG_app any_turns Try.underlying26 infoRSv rfl (by decide) (by decide) rfl (.tmp 48) (.tmp 50) rfl (w.heap.size + 2) (.slice AO lo.length co) lo rfl (HOO.out.alloc any_turns _) wr.heap.size [.string tn, .slice AI li.length ci] () rfl rfl HD.out (by intro u hu; simp at hu; rcases hu with rfl | rfl <;> rfl) trivial (by have := HLL.out; omega) (by simp; omega) ?_; intro g c3 w5 hown5 hgr5; (have hz5 : wr.heap.size + 1 ≤ w5.heap.size := by (have := hgr5.size); rw [World.size_alloc] at this; exact this); (have hge5 := fun g hg => (HOO.out.ge g hg).1); (have k3 : w5.heap[w.heap.size + 1]? = _ := (hgr5.block (w.heap.size + 1) (by simp; omega) (fun e => by have := hge5 _ e.symm; omega)).trans ((Below.heap_alloc wr _ (w.heap.size + 1) (show w.heap.size + 1 < wr.heap.size by omega)).trans HT3'.out)); (have k2 : w5.heap[w.heap.size]? = _ := (hgr5.block w.heap.size (by simp; omega) (fun e => by have := hge5 _ e.symm; omega)).trans ((Below.heap_alloc wr _ w.heap.size (show w.heap.size < wr.heap.size by omega)).trans HT2'.out)); (obtain ⟨b0, bf⟩ := row1f k3))
            have K3 : Hid ((w5.setCell ⟨w.heap.size + 1, 0, none⟩ (.slice (some ⟨g, 0, none⟩) (lo.length + 1) c3)).heap[w.heap.size + 1]? = _) := Lib.hid (heap_setCell_same w5 (w.heap.size + 1) 0 _ _ (.slice (some ⟨g, 0, none⟩) (lo.length + 1) c3) k3)
            have hgs := grown_set w5 (w.heap.size + 1) 0 (.slice (some ⟨g, 0, none⟩) (lo.length + 1) c3)
            have K2 := Lib.hid ((hgs.block w.heap.size (by omega) (fun e => by injection e with e; omega)).trans k2)
            have HO5 := Lib.hid (OwnG.turn any_turns hown5 hgs (fun g hg => by injection hg with hg; omega))
            have HG5 : Hid (w.grownBy (w5.setCell ⟨w.heap.size + 1, 0, none⟩ (.slice (some ⟨g, 0, none⟩) (lo.length + 1) c3)) (some rb)) := Lib.hid (grown_new (grown_new (grown_add (grown_add HG.out HBI.out) (grown_alloc1 wr _ _)) hgr5 (fun g hg => by have := hge5 g hg; omega)) hgs (fun g hg => by injection hg with hg; omega))
            have HL5 := Lib.hid (((HLN.out.grown (row := none) (grown_alloc1 wr (.cells #[.string tn, .slice AI li.length ci] 93) none) (fun g hg => by cases hg)).grown hgr5 (fun g hg => by have := hge5 g hg; omega)).grown hgs (fun g hg => by injection hg with hg; omega))
            clear k3 k2 hgs hown5 hgr5 t3 s0 s1
            go_wp2_with fail
            go_roundw
            case rel => exact ⟨j + 1, lo ++ [()], some ⟨g, 0, none⟩, c3, by omega, by go_num, Lib.hid (by rw [List.length_append, HLL.out]; rfl), HL5, by rw [List.length_append]; exact HO5, HG5, K2, by rw [List.length_append]; exact K3⟩
            case measure => simp [intOf]; omega

      · obtain ⟨A', c', hrow, _⟩ := hrf.row
        obtain ⟨hc0, hc1, hc2, _, _⟩ := row3E hrow
        have hne : (e == 0) = false := by rcases he with h | h <;> subst h <;> rfl
        have HSQ : Hid (StQ wo rb B bs (restS (upS catP s))) := Lib.hid (by rw [← HRES.out, hinl]; exact ⟨he, q, hrf⟩)
        clear hrow hrf hinl he
        obtain ⟨u0, _⟩ := row1f HT3.out
        obtain ⟨c0, cf⟩ := row1f HT2.out
        go_wp2_with fail
        refine bodyPost_ret (v := .agg #[.slice AO lo.length co]) ?_ rfl ⟨⟨_, rfl⟩, ?_, ?_⟩
        · simp [results, Try.results16, go_sem, c0]
        · exact HSQ.out.grown (grown_set _ _ _ _) (fun g hg => by injection hg with hg; omega)
        · exact grown_new HG.out (grown_set _ _ _ _) (fun g hg => by injection hg with hg; omega)

    · have hji : ¬ (j : Int) < (n : Int) := by omega
      have hd : decide ((j : Int) < (n : Int)) = false := by simp; omega
      obtain rfl : j = n := by omega
      have HSQ : Hid (StQ wo rb B bs (restS (upS catP s))) := Lib.hid (by rw [← HRES.out]; exact HL.out.done)
      obtain ⟨u0, _⟩ := row1f HT3.out
      obtain ⟨c0, cf⟩ := row1f HT2.out
      go_wp2_with fail
      refine bodyPost_ret (v := .agg #[.slice AO lo.length co]) ?_ rfl ⟨⟨_, rfl⟩, ?_, ?_⟩
      · simp [results, Try.results16, go_sem, c0]
      · exact HSQ.out.grown (grown_set _ _ _ _) (fun g hg => by injection hg with hg; omega)
      · exact grown_new HG.out (grown_set _ _ _ _) (fun g hg => by injection hg with hg; omega)

end Go.Proofs.Ytmfoammkcokcoaa
