/-
  Releases that the document's reader reads.
-/
import Derived.Test.YtmfoammkcokcoaaUCr
import Derived.Test.YtmfoammkcokcoaaUQq
namespace Go.Proofs.Ytmfoammkcokcoaa
open Go.RowKit
open ByteP CodeP
set_option linter.unusedVariables false
set_option maxRecDepth 10000
theorem infoRNd : (Try.prog.info? 114).map (fun i => (i.zero, i.size, i.bytes)) = some (some (.agg #[.int .i64 0, .slice none 0 0]), 2, 32) := by kernel_rfl
theorem versionQG {w : World} {rb B : Nat} {bs : List Int} {s : Sum Int (List Int)} (h : StQ w rb B bs s) (hrb : rb < w.heap.size) (hb : Bytes bs) (hl : bs.length ≤ 1000000000) :
    Calls Try.prog 74 #[.pointer (some ⟨rb, 0, none⟩)] w fun en w' => ∃ a b c t, en = .returned (.agg #[.int .i64 a, .int .i64 b, .int .i64 c, .string t]) ∧ StQ w' rb B bs (restS (upS verP s)) ∧ w.grownBy w' (some rb) := by
  refine (versionQ_any h hrb hb hl).mono ?_
  rintro en w' ⟨a, b, c, t, rfl, hs, hg, _⟩
  refine ⟨a, b, c, t, rfl, ?_, hg⟩
  cases s with
  | inl e => exact hs
  | inr r =>
    rw [vs4_verV] at hs
    unfold verP
    rw [upS_map]; exact hs
theorem textQG {w : World} {rb B : Nat} {bs : List Int} {s : Sum Int (List Int)} (h : StQ w rb B bs s) (hb : Bytes bs) (hl : bs.length ≤ 1000000000) :
    Calls Try.prog 44 #[.pointer (some ⟨rb, 0, none⟩)] w fun en w' => ∃ t, en = .returned (.string t) ∧ StQ w' rb B bs (restS (upS strP s)) ∧ w.grownBy w' (some rb) := by
  refine (textQ_any h hb hl).mono ?_
  rintro en w' ⟨t, rfl, hs, hg, _⟩
  exact ⟨t, rfl, by unfold strP; rw [upS_map]; exact hs, hg⟩
theorem numQG {w : World} {rb B : Nat} {bs : List Int} {s : Sum Int (List Int)} (h : StQ w rb B bs s) (hb : Bytes bs) (hl : bs.length ≤ 1000000000) :
    Calls Try.prog 54 #[.pointer (some ⟨rb, 0, none⟩)] w fun en w' => ∃ n, en = .returned (.int .i64 n) ∧ StQ w' rb B bs (restS (upS numI s)) ∧ w.grownBy w' (some rb) := by
  refine (numQ_any h hb hl).mono ?_
  rintro en w' ⟨n, rfl, hs, hg, _⟩
  rw [numS_eq] at hs
  exact ⟨n, rfl, by unfold numI; rw [upS_map]; exact hs, hg⟩
set_option maxHeartbeats 16000000 in
theorem releaseQ_any {w : World} {rb B : Nat} {bs : List Int} {s : Sum Int (List Int)} (h : StQ w rb B bs s) (hrb : rb < w.heap.size) (hb : Bytes bs) (hl : bs.length ≤ 1000000000) :
    Calls Try.prog 45 #[.pointer (some ⟨rb, 0, none⟩)] w fun en w' => (∃ a b c t lv A n c4, en = .returned (.agg #[.int .i64 a, .int .i64 b, .int .i64 c, .string t, .int .i64 lv, .slice A n c4])) ∧ StQ w' rb B bs (restS (upS relP s)) ∧ w.grownBy w' (some rb) := by
  obtain ⟨W, hW⟩ : ∃ W, W = (w.alloc (.cells #[.int .i64 0, .int .i64 0, .int .i64 0, .string ⟨#[]⟩, .int .i64 0, .slice none 0 0] 102)).alloc (.cells #[.int .i64 0, .int .i64 0, .int .i64 0, .string ⟨#[]⟩, .int .i64 0, .slice none 0 0] 102) := ⟨_, rfl⟩
  have hgw : w.grownBy W (some rb) := by rw [hW]; exact grown_add (grown_alloc1 w _ _) (grown_alloc1 _ _ _)
  have hz : W.heap.size = w.heap.size + 2 := by rw [hW]; simp
  have h0 : W.heap[w.heap.size]? = some (.cells #[.int .i64 0, .int .i64 0, .int .i64 0, .string ⟨#[]⟩, .int .i64 0, .slice none 0 0] 102 (0, 0)) := by
    rw [hW, Below.heap_alloc _ _ _ (by simp)]; exact heap_alloc_new w _
  have h2 : W.heap[w.heap.size + 1]? = some (.cells #[.int .i64 0, .int .i64 0, .int .i64 0, .string ⟨#[]⟩, .int .i64 0, .slice none 0 0] 102 (0, 0)) := by
    rw [hW]
    have h := heap_alloc_new (w.alloc (.cells #[.int .i64 0, .int .i64 0, .int .i64 0, .string ⟨#[]⟩, .int .i64 0, .slice none 0 0] 102)) (.cells #[.int .i64 0, .int .i64 0, .int .i64 0, .string ⟨#[]⟩, .int .i64 0, .slice none 0 0] 102)
    rw [World.size_alloc] at h; exact h
  have HST : Hid (StQ W rb B bs s) := Lib.hid (by rw [hW]; exact (h.grown (row := none) (grown_alloc1 w _ none) (fun g hg => by cases hg)).grown (row := none) (grown_alloc1 _ _ none) (fun g hg => by cases hg))
  have HG0 := Lib.hid hgw
  have H0 := Lib.hid h0
  have H2 := Lib.hid h2
  have HW := Lib.hid hW
  have HBY := Lib.hid hb
  clear h hgw h0 h2 hb hW
  go_enter Try.func45, Try.ntmps45
  go_upto_region 2 with fail
  change Code.wp _ _ _ _ ((w.alloc (.cells #[.int .i64 0, .int .i64 0, .int .i64 0, .string ⟨#[]⟩, .int .i64 0, .slice none 0 0] 102)).alloc (.cells #[.int .i64 0, .int .i64 0, .int .i64 0, .string ⟨#[]⟩, .int .i64 0, .slice none 0 0] 102))
  rw [← HW.out]
  have HC0 := Lib.hid (versionQG HST.out (by omega) HBY.out hl)
  go_wp2_with fail
  refine HC0.out.mono ?_
  rintro en v0 ⟨va, vb, vc, vt, rfl, hs, hg⟩
  have e0 := (hg.block w.heap.size (by omega) (fun e => by injection e with e; omega)).trans H0.out
  have e2 := (hg.block (w.heap.size + 1) (by omega) (fun e => by injection e with e; omega)).trans H2.out
  have hzv0 := hg.size
  obtain ⟨x0, x1, x2, x3, x4, x5, xf⟩ := r6_cells e2
  have hf0 := xf 0
  have hf1 := xf 1
  have hf2 := xf 2
  have hf3 := xf 3
  obtain ⟨W1, hW1⟩ : ∃ W1, W1 = (((v0.setCell ⟨w.heap.size + 1, 0, none⟩ (.int .i64 va)).setCell ⟨w.heap.size + 1, 1, none⟩ (.int .i64 vb)).setCell ⟨w.heap.size + 1, 2, none⟩ (.int .i64 vc)).setCell ⟨w.heap.size + 1, 3, none⟩ (.string vt) := ⟨_, rfl⟩
  have hgs : v0.grownBy W1 (some (w.heap.size + 1)) := by rw [hW1]; exact grown_add (grown_add (grown_add (grown_set _ _ _ _) (grown_set _ _ _ _)) (grown_set _ _ _ _)) (grown_set _ _ _ _)
  have ST1 := Lib.hid (hs.grown hgs (fun g hg => by injection hg with hg; omega))
  have E01 : Hid (W1.heap[w.heap.size]? = some (.cells #[.int .i64 0, .int .i64 0, .int .i64 0, .string ⟨#[]⟩, .int .i64 0, .slice none 0 0] 102 (0, 0))) := Lib.hid ((hgs.block w.heap.size (by omega) (fun e => by injection e with e; omega)).trans e0)
  have E21 : Hid (W1.heap[w.heap.size + 1]? = some (.cells #[.int .i64 va, .int .i64 vb, .int .i64 vc, .string vt, .int .i64 0, .slice none 0 0] 102 (0, 0))) := Lib.hid (by
    rw [hW1]
    have k1 := heap_setCell_same v0 (w.heap.size + 1) 0 _ _ (.int .i64 va) e2
    have k2 := heap_setCell_same _ (w.heap.size + 1) 1 _ _ (.int .i64 vb) k1
    have k3 := heap_setCell_same _ (w.heap.size + 1) 2 _ _ (.int .i64 vc) k2
    exact heap_setCell_same _ (w.heap.size + 1) 3 _ _ (.string vt) k3)
  have HG1 : Hid (w.grownBy W1 (some rb)) := Lib.hid (grown_new (grown_add HG0.out hg) hgs (fun g hg => by injection hg with hg; omega))
  have hz1 : w.heap.size + 1 < W1.heap.size := heapE_lt E21.out
  have HWW1 := Lib.hid hW1
  clear hW1 hgs hs hg e0 e2 HC0 xf
  go_upto_region 3 with fail
  rw [← HWW1.out]
  clear x0 x1 x2 x3 x4 x5 hf0 hf1 hf2 hf3 HWW1
  have HC1 := Lib.hid (numQG ST1.out HBY.out hl)
  go_wp2_with fail
  refine HC1.out.mono ?_
  rintro en v1 ⟨lv, rfl, hs, hg⟩
  have e0 := (hg.block w.heap.size (by omega) (fun e => by injection e with e; omega)).trans E01.out
  have e2 := (hg.block (w.heap.size + 1) hz1 (fun e => by injection e with e; omega)).trans E21.out
  have hzv1 := hg.size
  obtain ⟨x0, x1, x2, x3, x4, x5, xf⟩ := r6_cells e2
  have hf4 := xf 4
  obtain ⟨W2, hW2⟩ : ∃ W2, W2 = v1.setCell ⟨w.heap.size + 1, 4, none⟩ (.int .i64 lv) := ⟨_, rfl⟩
  have hgs : v1.grownBy W2 (some (w.heap.size + 1)) := by rw [hW2]; exact grown_set _ _ _ _
  have ST2 := Lib.hid (hs.grown hgs (fun g hg => by injection hg with hg; omega))
  have E02 : Hid (W2.heap[w.heap.size]? = some (.cells #[.int .i64 0, .int .i64 0, .int .i64 0, .string ⟨#[]⟩, .int .i64 0, .slice none 0 0] 102 (0, 0))) := Lib.hid ((hgs.block w.heap.size (by omega) (fun e => by injection e with e; omega)).trans e0)
  have E22 : Hid (W2.heap[w.heap.size + 1]? = some (.cells #[.int .i64 va, .int .i64 vb, .int .i64 vc, .string vt, .int .i64 lv, .slice none 0 0] 102 (0, 0))) := Lib.hid (by rw [hW2]; exact heap_setCell_same v1 _ 4 _ _ _ e2)
  have HG2 : Hid (w.grownBy W2 (some rb)) := Lib.hid (grown_new (grown_add HG1.out hg) hgs (fun g hg => by injection hg with hg; omega))
  have hz2 : w.heap.size + 1 < W2.heap.size := heapE_lt E22.out
  have HWW2 := Lib.hid hW2
  clear hW2 hgs hs hg e0 e2 HC1 xf
  go_upto_region 4 with fail
  rw [← HWW2.out]
  clear x0 x1 x2 x3 x4 x5 hf4 HWW2
  have HS := Lib.hid (sizeQ_any ST2.out HBY.out hl)
  go_wp2_with fail
  refine HS.out.mono ?_
  rintro en w1 ⟨n, q0, e0, rfl, hpm, hrf, hg1, hst⟩
  have HLS : Hid (LsQ pinP w1 rb B bs (upS (lsL pinP) (restS (upS numI (restS (upS verP s))))) n 0) := Lib.hid (LsQ.start hrf hst)
  obtain ⟨res, hres⟩ : ∃ res, res = upS (lsL pinP) (restS (upS numI (restS (upS verP s)))) := ⟨_, rfl⟩
  rw [← hres] at HLS
  have HRES : Hid (restS res = restS (upS relP s)) := Lib.hid (by rw [hres]; unfold relP; rw [upS_pair, upS_pair])
  have HT2a : Hid (w1.heap[w.heap.size]? = _) := Lib.hid ((hg1.block w.heap.size (by omega) (fun e => by injection e with e; omega)).trans E02.out)
  have HT3a : Hid (w1.heap[w.heap.size + 1]? = _) := Lib.hid ((hg1.block (w.heap.size + 1) hz2 (fun e => by injection e with e; omega)).trans E22.out)
  have HG1 : Hid (w.grownBy w1 (some rb)) := Lib.hid (grown_add HG2.out hg1)
  have hnl : n ≤ 1000000000 := by omega
  clear hrf hg1 hst HS hpm hres
  go_wp2_with fail
  go_loopw [5, 6] (fun v _ wr => ∃ (j : Nat) (lo : List Unit) (AO : Option Addr) (co : Nat), j ≤ n ∧ v = .int .i64 (j : Int) ∧ Hid (lo.length = j) ∧ Hid (LsQ pinP wr rb B bs res n j) ∧ Hid (OwnG 114 2 anyI wr (w.heap.size + 2) (.slice AO lo.length co) lo) ∧ Hid (w.grownBy wr (some rb)) ∧ Hid (wr.heap[w.heap.size]? = some (.cells #[.int .i64 0, .int .i64 0, .int .i64 0, .string ⟨#[]⟩, .int .i64 0, .slice none 0 0] 102 (0, 0))) ∧ Hid (wr.heap[w.heap.size + 1]? = some (.cells #[.int .i64 va, .int .i64 vb, .int .i64 vc, .string vt, .int .i64 lv, .slice AO lo.length co] 102 (0, 0)))) (fun v _ _ => n - (intOf v).toNat)
  case atStart => exact ⟨0, [], none, 0, Nat.zero_le _, rfl, Lib.hid rfl, HLS, Lib.hid (OwnG.nil_ _ _ _ _ _), HG1, HT2a, HT3a⟩
  case round =>
    obtain ⟨j, lo, AO, co, hj, rfl, HLL, HL, HO, HG, HT2, HT3⟩ := hrel
    obtain ⟨wo, hwo⟩ : ∃ x, x = wr := ⟨_, rfl⟩
    subst hwo
    have hpl : w.heap.size + 1 < wo.heap.size := heapE_lt HT3.out
    by_cases hjn : j < n
    · have hji : (j : Int) < (n : Int) := by omega
      rcases HL.out with ⟨l, q, hlo, hrf, hct⟩ | ⟨e, q, he, hrf, hinl⟩
      · obtain ⟨A', c', hrow, _⟩ := hrf.row
        obtain ⟨hc0, hc1, hc2, _, _⟩ := row3E hrow
        have HLO := Lib.hid hlo
        have HCT := Lib.hid hct
        have HN := Lib.hid (numQG (s := .inr (bs.drop q)) ⟨q, hrf, rfl⟩ HBY.out hl)
        clear hrow hrf hlo hct hc0 hc1
        go_wp2_with fail
        refine HN.out.mono ?_
        rintro en z1 ⟨sv, rfl, hs1, hg1⟩
        have hz1 := hg1.size
        have HNX := Lib.hid (rangedQ_any (w := z1.drewN 1) (StQ.grown hs1 (row := none) (grown_drewN1 z1 1) (fun g hg => by cases hg)) (show rb < z1.heap.size by omega) HBY.out hl)
        have k2 : z1.heap[w.heap.size + 1]? = some (.cells #[.int .i64 va, .int .i64 vb, .int .i64 vc, .string vt, .int .i64 lv, .slice AO lo.length co] 102 (0, 0)) := (hg1.block (w.heap.size + 1) hpl (fun e => by injection e with e; omega)).trans HT3.out
        have k0 : z1.heap[w.heap.size]? = some (.cells #[.int .i64 0, .int .i64 0, .int .i64 0, .string ⟨#[]⟩, .int .i64 0, .slice none 0 0] 102 (0, 0)) := (hg1.block w.heap.size (by omega) (fun e => by injection e with e; omega)).trans HT2.out
        have K0 := Lib.hid k0
        have K2 := Lib.hid k2
        obtain ⟨_, _, _, _, _, x5, _⟩ := r6_cells k2
        have hO1 := HO.out.turn any_turns hg1 (fun g hg => by injection hg with hg; omega)
        have HO1 := Lib.hid hO1
        have HG1 : Hid (w.grownBy z1 (some rb)) := Lib.hid (grown_add HG.out hg1)
        clear HN hc2 k0 k2 hO1 hg1 hs1
        go_wp2_with fail
        go_region_law (first
          | (go_simp; go_at_call 55; refine HNX.out.mono ?_; rintro en z2 ⟨⟨AR, nR, cR, rfl⟩, hs2, hg2'⟩; (have hg2 : z1.grownBy z2 (some rb) := grown_add (grown_drewN (World.grownBy.refl z1 _) 1) hg2'); (have k2 := (hg2.block (w.heap.size + 1) (by omega) (fun e => by injection e with e; omega)).trans K2.out); (have k0 := (hg2.block w.heap.size (by omega) (fun e => by injection e with e; omega)).trans K0.out); (have hO2 := HO1.out.turn any_turns hg2 (fun g hg => by injection hg with hg; omega)); (have hz2 := hg2.size); (have HSP : Hid (StQ z2 rb B bs (restS (pinP (bs.drop q)))) := Lib.hid (by rw [show pinP (bs.drop q) = upS (pairP numI rngP) (.inr (bs.drop q)) from rfl, upS_pair]; exact hs2)); (have HLG : Hid (LsQ pinP z2 rb B bs res n (j + 1)) := Lib.hid (LsQ.next HLO.out hjn HCT.out HSP.out)); (have HO2 := Lib.hid hO2); (have HG2 : Hid (w.grownBy z2 (some rb)) := Lib.hid (grown_add HG1.out hg2)); (have KK0 := Lib.hid k0); (have KK2 := Lib.hid k2); (obtain ⟨_, _, _, _, _, y5, _⟩ := r6_cells k2); (have yl0 : (z2.alloc (.cells #[.int .i64 sv, .slice AR nR cR] 114)).cell? ⟨w.heap.size + 1, 5, none⟩ = some (.slice AO lo.length co) := (World.cell?_alloc_lt z2 _ ⟨w.heap.size + 1, 5, none⟩ (show w.heap.size + 1 < z2.heap.size by omega)).trans y5); (have HD := Lib.hid (cells_of (heap_new z2 (.cells #[.int .i64 sv, .slice AR nR cR] 114)))); clear hg2 hg2' hs2 k2 k0 hO2)
          | (refine stepG_app any_turns Try.underlying100 infoRNd (by rfl) (by decide) (by decide) (by rfl) (.tmp 30) (.tmp 35) (by rfl) (w.heap.size + 2) _ lo (by rfl) (HO2.out.alloc any_turns _) z2.heap.size [.int .i64 sv, .slice AR nR cR] () (by rfl) (by rfl) HD.out (by intro u hu; simp at hu; rcases hu with rfl | rfl <;> rfl) trivial (by have := HLL.out; omega) (by simp; omega) ?_; intro ga ca z3 hown3 hgr3; (have hge3 := fun g hg => (HO2.out.ge g hg).1); (have e2 : z3.heap[w.heap.size + 1]? = _ := (hgr3.block (w.heap.size + 1) (by simp; omega) (fun e => by have := hge3 _ e.symm; omega)).trans ((Below.heap_alloc z2 _ (w.heap.size + 1) (show w.heap.size + 1 < z2.heap.size by omega)).trans KK2.out)); (have e0 : z3.heap[w.heap.size]? = _ := (hgr3.block w.heap.size (by simp; omega) (fun e => by have := hge3 _ e.symm; omega)).trans ((Below.heap_alloc z2 _ w.heap.size (show w.heap.size < z2.heap.size by omega)).trans KK0.out)); (have HG3 : Hid (w.grownBy z3 (some rb)) := Lib.hid (grown_new (grown_add HG2.out (grown_alloc1 z2 _ (some rb))) hgr3 (fun g hg => by have := hge3 g hg; omega))); (have HL3 := Lib.hid ((HLG.out.grown (grown_alloc1 z2 _ none) (fun g hg => by cases hg)).grown hgr3 (fun g hg => by have := hge3 g hg; omega))); (have E0 := Lib.hid e0); (have E2 := Lib.hid e2); (have HO3 := Lib.hid hown3); (have hz3 : z2.heap.size < z3.heap.size := by (have := hgr3.size); rw [World.size_alloc] at this; omega); (obtain ⟨_, _, _, _, _, v5, vf⟩ := r6_cells e2); (have vff := vf 5); clear hown3 hgr3 e0 e2 vf)
          )
        all_goals (have HPN : Hid ((z3.setCell ⟨w.heap.size + 1, 5, none⟩ (.slice (some ⟨ga, 0, none⟩) (lo.length + 1) ca)).heap[w.heap.size + 1]? = some (.cells #[.int .i64 va, .int .i64 vb, .int .i64 vc, .string vt, .int .i64 lv, .slice (some ⟨ga, 0, none⟩) (lo.length + 1) ca] 102 (0, 0))) := Lib.hid (heap_setCell_same z3 (w.heap.size + 1) 5 _ _ _ E2.out))
        all_goals (have hgs := grown_set z3 (w.heap.size + 1) 5 (.slice (some ⟨ga, 0, none⟩) (lo.length + 1) ca); have HZN := Lib.hid ((hgs.block w.heap.size (by omega) (fun e => by injection e with e; omega)).trans E0.out); have HLN := Lib.hid (HL3.out.grown hgs (fun g hg => by injection hg with hg; omega)); have HON := Lib.hid (OwnG.turn any_turns HO3.out hgs (fun g hg => by injection hg with hg; omega)); have HGN := Lib.hid (grown_new HG3.out hgs (fun g hg => by injection hg with hg; omega)); clear hgs)
        all_goals (clear x5 y5 v5 vff yl0)
        all_goals (go_wp2_with fail; go_roundw)
        all_goals (first | (case rel => exact ⟨j + 1, lo ++ [()], some ⟨ga, 0, none⟩, ca, by omega, by go_num, Lib.hid (by rw [List.length_append, HLL.out]; rfl), HLN, by rw [List.length_append]; exact HON, HGN, HZN, by rw [List.length_append]; exact HPN⟩) | (case measure => simp [intOf]; omega))
      · obtain ⟨A', c', hrow, _⟩ := hrf.row
        obtain ⟨hc0, hc1, hc2, _, _⟩ := row3E hrow
        have hne : (e == 0) = false := by rcases he with h | h <;> subst h <;> rfl
        have HSQ : Hid (StQ wo rb B bs (restS (upS relP s))) := Lib.hid (by rw [← HRES.out, hinl]; exact ⟨he, q, hrf⟩)
        clear hrow hrf hinl he
        obtain ⟨b0, b1, b2, b3, b4, b5, _⟩ := r6_cells HT3.out
        obtain ⟨c0, c1, c2, c3, c4, c5, cf⟩ := r6_cells HT2.out
        have cf0 := cf 0
        have cf1 := cf 1
        have cf2 := cf 2
        have cf3 := cf 3
        have cf4 := cf 4
        have cf5 := cf 5
        clear cf
        go_wp2_with fail
        refine bodyPost_ret (v := .agg #[.int .i64 va, .int .i64 vb, .int .i64 vc, .string vt, .int .i64 lv, .slice AO lo.length co]) ?_ rfl ⟨⟨va, vb, vc, vt, lv, AO, lo.length, co, rfl⟩, ?_, ?_⟩
        · simp [results, Try.results45, go_sem, c0, c1, c2, c3, c4, c5]
        · exact HSQ.out.grown (set6_grown _ _ _ _ _ _ _ _) (fun g hg => by injection hg with hg; omega)
        · exact grown_new HG.out (set6_grown _ _ _ _ _ _ _ _) (fun g hg => by injection hg with hg; omega)

    · have hji : ¬ (j : Int) < (n : Int) := by omega
      have hd : decide ((j : Int) < (n : Int)) = false := by simp; omega
      obtain rfl : j = n := by omega
      have HSQ : Hid (StQ wo rb B bs (restS (upS relP s))) := Lib.hid (by rw [← HRES.out]; exact HL.out.done)
      obtain ⟨b0, b1, b2, b3, b4, b5, _⟩ := r6_cells HT3.out
      obtain ⟨c0, c1, c2, c3, c4, c5, cf⟩ := r6_cells HT2.out
      have cf0 := cf 0
      have cf1 := cf 1
      have cf2 := cf 2
      have cf3 := cf 3
      have cf4 := cf 4
      have cf5 := cf 5
      clear cf
      go_wp2_with fail
      refine bodyPost_ret (v := .agg #[.int .i64 va, .int .i64 vb, .int .i64 vc, .string vt, .int .i64 lv, .slice AO lo.length co]) ?_ rfl ⟨⟨va, vb, vc, vt, lv, AO, lo.length, co, rfl⟩, ?_, ?_⟩
      · simp [results, Try.results45, go_sem, c0, c1, c2, c3, c4, c5]
      · exact HSQ.out.grown (set6_grown _ _ _ _ _ _ _ _) (fun g hg => by injection hg with hg; omega)
      · exact grown_new HG.out (set6_grown _ _ _ _ _ _ _ _) (fun g hg => by injection hg with hg; omega)

end Go.Proofs.Ytmfoammkcokcoaa
