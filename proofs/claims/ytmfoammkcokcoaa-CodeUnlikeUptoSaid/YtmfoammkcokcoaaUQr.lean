/-
  Ranges that the document's reader reads.
-/
import Derived.Test.YtmfoammkcokcoaaUQx
namespace Go.Proofs.Ytmfoammkcokcoaa
open Go.RowKit
open ByteP CodeP
set_option linter.unusedVariables false
set_option maxRecDepth 10000
theorem infoRC : (Try.prog.info? 157).map (fun i => (i.zero, i.size, i.bytes)) = some (some (.agg #[.int .i64 0, .int .i64 0, .int .i64 0, .int .i64 0, .string ⟨#[]⟩]), 5, 48) := by kernel_rfl
theorem infoRCS : (Try.prog.info? 153).map (fun i => (i.zero, i.size, i.bytes)) = some (some (.slice none 0 0), 1, 24) := by kernel_rfl
set_option maxHeartbeats 16000000 in
theorem rangedQ_any {w : World} {rb B : Nat} {bs : List Int} {s : Sum Int (List Int)} (h : StQ w rb B bs s) (hrb : rb < w.heap.size) (hb : Bytes bs) (hl : bs.length ≤ 1000000000) :
    Calls Try.prog 55 #[.pointer (some ⟨rb, 0, none⟩)] w fun en w' => (∃ A n c, en = .returned (.agg #[.slice A n c])) ∧ StQ w' rb B bs (restS (upS rngP s)) ∧ w.grownBy w' (some rb) := by
  obtain ⟨W, hW⟩ : ∃ W, W = (w.alloc (.cells #[.slice none 0 0] 110)).alloc (.cells #[.slice none 0 0] 110) := ⟨_, rfl⟩
  have hgw : w.grownBy W (some rb) := by rw [hW]; exact grown_add (grown_alloc1 w _ _) (grown_alloc1 _ _ _)
  have hz : W.heap.size = w.heap.size + 2 := by rw [hW]; simp
  have h0 : W.heap[w.heap.size]? = some (.cells #[.slice none 0 0] 110 (0, 0)) := by
    rw [hW, Below.heap_alloc _ _ _ (by simp)]; exact heap_alloc_new w _
  have h2 : W.heap[w.heap.size + 1]? = some (.cells #[.slice none 0 0] 110 (0, 0)) := by
    rw [hW]
    have h := heap_alloc_new (w.alloc (.cells #[.slice none 0 0] 110)) (.cells #[.slice none 0 0] 110)
    rw [World.size_alloc] at h; exact h
  have HST : Hid (StQ W rb B bs s) := Lib.hid (by rw [hW]; exact (h.grown (row := none) (grown_alloc1 w _ none) (fun g hg => by cases hg)).grown (row := none) (grown_alloc1 _ _ none) (fun g hg => by cases hg))
  have HG0 := Lib.hid hgw
  have H0 := Lib.hid h0
  have H2 := Lib.hid h2
  have HW := Lib.hid hW
  have HBY := Lib.hid hb
  clear h hgw h0 h2 hb hW
  go_enter Try.func55, Try.ntmps55
  go_upto_region 2 with fail
  change Code.wp _ _ _ _ ((w.alloc (.cells #[.slice none 0 0] 110)).alloc (.cells #[.slice none 0 0] 110))
  rw [← HW.out]
  have HS := Lib.hid (sizeQ_any HST.out HBY.out hl)
  go_wp2_with fail
  refine HS.out.mono ?_
  rintro en w1 ⟨n, q0, e0, rfl, hpm, hrf, hg1, hst⟩
  have HLS : Hid (LsQ (lsL compV) w1 rb B bs (upS rngP s) n 0) := Lib.hid (LsQ.start hrf hst)
  obtain ⟨res, hres⟩ : ∃ res, res = upS rngP s := ⟨_, rfl⟩
  rw [← hres] at HLS
  have HRES := Lib.hid hres
  have HT2a : Hid (w1.heap[w.heap.size]? = _) := Lib.hid ((hg1.block w.heap.size (by omega) (fun e => by injection e with e; omega)).trans H0.out)
  have HT3a : Hid (w1.heap[w.heap.size + 1]? = _) := Lib.hid ((hg1.block (w.heap.size + 1) (by omega) (fun e => by injection e with e; omega)).trans H2.out)
  have HG1 : Hid (w.grownBy w1 (some rb)) := Lib.hid (grown_add HG0.out hg1)
  have hnl : n ≤ 1000000000 := by omega
  clear hrf hg1 hst HS hpm hres
  go_wp2_with fail
  go_loopw [5, 6, 7, 8, 9] (fun v _ _ _ _ wr => ∃ (j : Nat) (lo : List Unit) (AO : Option Addr) (co : Nat), j ≤ n ∧ v = .int .i64 (j : Int) ∧ Hid (lo.length = j) ∧ Hid (LsQ (lsL compV) wr rb B bs res n j) ∧ Hid (OwnG 153 1 anyI wr W.heap.size (.slice AO lo.length co) lo) ∧ Hid (w.grownBy wr (some rb)) ∧ Hid (wr.heap[w.heap.size]? = some (.cells #[.slice none 0 0] 110 (0, 0))) ∧ Hid (wr.heap[w.heap.size + 1]? = some (.cells #[.slice AO lo.length co] 110 (0, 0)))) (fun v _ _ _ _ _ => n - (intOf v).toNat)
  case atStart => exact ⟨0, [], none, 0, Nat.zero_le _, rfl, Lib.hid rfl, HLS, Lib.hid (OwnG.nil_ _ _ _ _ _), HG1, HT2a, HT3a⟩
  case round =>
    obtain ⟨wo, hwo⟩ : ∃ x, x = wr := ⟨_, rfl⟩
    subst hwo
    obtain ⟨j, lo, AO, co, hj, rfl, HLL, HL, HO, HG, HT2, HT3⟩ := hrel
    have hpl : w.heap.size + 1 < wo.heap.size := heapE_lt HT3.out
    obtain ⟨u0, uf⟩ := row1f HT2.out
    obtain ⟨s0, sf⟩ := row1f HT3.out
    by_cases hjn : j < n
    · have hji : (j : Int) < (n : Int) := by omega
      rcases HL.out with ⟨l, q, hlo, hrf, hct⟩ | ⟨e, q, he, hrf, hinl⟩
      · obtain ⟨A', c', hrow, _⟩ := hrf.row
        obtain ⟨hc0, hc1, hc2, _, _⟩ := row3E hrow
        have HLO := Lib.hid hlo
        have HCT := Lib.hid hct
        have HS2 := Lib.hid (sizeQ_any (s := .inr (bs.drop q)) ⟨q, hrf, rfl⟩ HBY.out hl)
        clear hrow hrf hlo hct hc0 hc1 u0 uf s0 sf
        go_wp2_with fail
        refine HS2.out.mono ?_
        rintro en w2 ⟨m, q2, e2, rfl, hpm, hrf2, hg2, hst2⟩
        have HLI0 : Hid (LsQ compV w2 rb B bs (upS (lsL compV) (.inr (bs.drop q))) m 0) := Lib.hid (LsQ.start hrf2 hst2)
        obtain ⟨ri, hri⟩ : ∃ ri, ri = upS (lsL compV) (.inr (bs.drop q)) := ⟨_, rfl⟩
        rw [← hri] at HLI0
        have HRI := Lib.hid hri
        have hml : m ≤ 1000000000 := by omega
        have hz2 := hg2.size
        have HB2 : Hid (wo.grownBy w2 (some rb)) := Lib.hid hg2
        clear hrf2 hst2 hg2 hpm hri HS2 hc2
        go_wp2_with fail
        go_loopw [6, 8, 9] (fun v6 v8 _ wr => ∃ (k : Nat) (li : List Unit) (AI : Option Addr) (ci : Nat), k ≤ m ∧ v8 = .int .i64 (k : Int) ∧ v6 = .slice AI li.length ci ∧ Hid (li.length = k) ∧ Hid (LsQ compV wr rb B bs ri m k) ∧ Hid (OwnG 157 5 anyI wr wo.heap.size (.slice AI li.length ci) li) ∧ Hid (wo.grownBy wr (some rb))) (fun _ v _ _ => m - (intOf v).toNat)
        case atStart => exact ⟨0, [], none, 0, Nat.zero_le _, rfl, rfl, Lib.hid rfl, HLI0, Lib.hid (OwnG.nil_ _ _ _ _ _), HB2⟩
        case round =>
          obtain ⟨k, li, AI, ci, hk, rfl, rfl, HKL, HLI, HOI, HBI⟩ := hrel
          have hzr := HBI.out.size
          have HT2' : Hid (wr.heap[w.heap.size]? = _) := Lib.hid ((HBI.out.block w.heap.size (by omega) (fun e => by injection e with e; omega)).trans HT2.out)
          have HT3' : Hid (wr.heap[w.heap.size + 1]? = _) := Lib.hid ((HBI.out.block (w.heap.size + 1) (by omega) (fun e => by injection e with e; omega)).trans HT3.out)
          by_cases hkm : k < m
          · have hki : (k : Int) < (m : Int) := by omega
            rcases HLI.out with ⟨l2, q3, hl2, hrf3, hct3⟩ | ⟨e3, q3, he3, hrf3, hinl3⟩
            · obtain ⟨A', c', hrow, _⟩ := hrf3.row
              obtain ⟨hc0, hc1, hc2, _, _⟩ := row3E hrow
              have HL2 := Lib.hid hl2
              have HC3 := Lib.hid hct3
              have hrbl := hrf3.here
              obtain ⟨X, HX⟩ : ∃ X, Hid (X = wr.alloc (ccell 157 0 0 0 0 ⟨#[]⟩)) := ⟨_, Lib.hid rfl⟩
              have hXs : X.heap.size = wr.heap.size + 1 := by rw [HX.out]; simp
              have HX0 : Hid (X.heap[wr.heap.size]? = some (ccell 157 0 0 0 0 ⟨#[]⟩)) := Lib.hid (by rw [HX.out]; exact heap_new wr _)
              have HBX : Hid (wo.grownBy X (some rb)) := Lib.hid (by rw [HX.out]; exact grown_add HBI.out (grown_alloc1 wr _ _))
              have HOX : Hid (OwnG 157 5 anyI X wo.heap.size (.slice AI li.length ci) li) := Lib.hid (by rw [HX.out]; exact HOI.out.alloc any_turns _)
              have HN := Lib.hid (numQ_any (s := .inr (bs.drop q3)) (show StQ X rb B bs _ from ⟨q3, by rw [HX.out]; exact hrf3.alloc _, rfl⟩) HBY.out hl)
              clear hrow hrf3 hl2 hct3 hc0 hc1
              go_upto_region 12 with fail
              change Code.wp _ _ _ _ (wr.alloc (ccell 157 0 0 0 0 ⟨#[]⟩))
              rw [← HX.out]
              go_wp2_with fail
              refine HN.out.mono ?_
              rintro en w3 ⟨op, rfl, hs3, hg3, hv1, hv2⟩
              have k3 := (hg3.block wr.heap.size (by omega) (fun e => by injection e with e; omega)).trans HX0.out
              obtain ⟨x0, x1, x2, x3, x4, xf⟩ := cc_cells k3
              have hf0 := xf 0
              obtain ⟨Y, HY⟩ : ∃ Y, Hid (Y = w3.setCell ⟨wr.heap.size, 0, none⟩ (.int .i64 op)) := ⟨_, Lib.hid rfl⟩
              have hgY : w3.grownBy Y (some wr.heap.size) := by rw [HY.out]; exact grown_set _ _ _ _
              have hzY : wr.heap.size + 1 ≤ Y.heap.size := by have := hg3.size; have := hgY.size; omega
              have HY0 : Hid (Y.heap[wr.heap.size]? = some (ccell 157 op 0 0 0 ⟨#[]⟩)) := Lib.hid (by rw [HY.out]; exact heap_setCell_same w3 wr.heap.size 0 _ _ (.int .i64 op) k3)
              have HSY : Hid (StQ Y rb B bs (restS (num (bs.drop q3)))) := Lib.hid (StQ.grown (s := restS (num (bs.drop q3))) hs3 hgY (fun g hg => by injection hg with hg; omega))
              have HBY2 : Hid (wo.grownBy Y (some rb)) := Lib.hid (grown_new (grown_add HBX.out hg3) hgY (fun g hg => by injection hg with hg; omega))
              have HOY : Hid (OwnG 157 5 anyI Y wo.heap.size (.slice AI li.length ci) li) := Lib.hid (by
                have h1 := HOX.out.turn any_turns hg3 (fun g hg => by injection hg with hg; omega)
                obtain ⟨vals, ho, hj⟩ := h1
                refine ⟨vals, World.ownsRow.kept ho hgY ?_, fun j hl => ?_⟩
                · cases hv : (Value.slice AI li.length ci).ownBlock with
                  | none => exact .inl rfl
                  | some g => right; intro e; injection e with e; have := (HOI.out.ge g hv).2; omega
                · obtain ⟨vs, h1, h2, _⟩ := hj j hl
                  exact ⟨vs, h1, h2, trivial⟩)
              have HV := Lib.hid (And.intro hv1 hv2)
              clear hg3 k3 hgY hs3 hv1 hv2 xf HN
              go_upto_region 13 with fail
              rw [← HY.out]
              clear x0 x1 x2 x3 x4 hf0
              obtain ⟨x0, x1, x2, x3, x4, xf⟩ := cc_cells HY0.out
              by_cases hop : op = 0
              · subst hop
                have HSN : Hid (StQ Y rb B bs (restS (compV (bs.drop q3)))) := Lib.hid (by rw [compQ_zero HV.out.1 rfl]; exact HSY.out)
                have HLN : Hid (LsQ compV Y rb B bs ri m (k + 1)) := Lib.hid (LsQ.next HL2.out hkm HC3.out HSN.out)
                clear xf
                have HD := Lib.hid (cells_of (heap_new Y (.cells #[.int .i64 0, .int .i64 0, .int .i64 0, .int .i64 0, .string ⟨#[]⟩] 157)))
                go_wp2_with (at_builtin; refine wplG_app any_turns Try.underlying153 infoRC rfl (by decide) (by decide) rfl (.tmp 47) (.tmp 49) rfl wo.heap.size (.slice AI li.length ci) li rfl (HOY.out.alloc any_turns _) Y.heap.size [.int .i64 0, .int .i64 0, .int .i64 0, .int .i64 0, .string ⟨#[]⟩] () rfl rfl HD.out (by intro u hu; simp at hu; rcases hu with rfl | rfl | rfl | rfl | rfl <;> rfl) trivial (by have := HKL.out; omega) (by simp; omega) ?_; intro g c3 w5 hown5 hgr5)
                have hge5 := fun g hg => (HOY.out.ge g hg).1
                have HO5 := Lib.hid hown5
                have HB5 : Hid (wo.grownBy w5 (some rb)) := Lib.hid (grown_new (grown_add HBY2.out (grown_alloc1 Y _ _)) hgr5 hge5)
                have HL5 := Lib.hid ((HLN.out.grown (row := none) (grown_alloc1 Y (.cells #[.int .i64 0, .int .i64 0, .int .i64 0, .int .i64 0, .string ⟨#[]⟩] 157) none) (fun g hg => by cases hg)).grown hgr5 (fun g hg => by have := hge5 g hg; omega))
                clear hown5 hgr5 x0 x1 x2 x3 x4
                go_wp2_with fail
                go_roundw
                case rel => exact ⟨k + 1, li ++ [()], some ⟨g, 0, none⟩, c3, by omega, by go_num, by rw [List.length_append]; rfl, Lib.hid (by rw [List.length_append, HKL.out]; rfl), HL5, by rw [List.length_append]; exact HO5, HB5⟩
                case measure => simp [intOf]; omega

              · have hopb : (op != 0) = true := by simp [hop]
                have HOP := Lib.hid hop
                have HV4 := Lib.hid (versionQ_any HSY.out (by omega) HBY.out hl)
                clear xf hop
                go_wp2_with fail
                refine HV4.out.mono ?_
                rintro en w4 ⟨va, vb, vc, vt, rfl, hs4, hg4, _⟩
                have k4 := (hg4.block wr.heap.size (by omega) (fun e => by injection e with e; omega)).trans HY0.out
                clear x0 x1 x2 x3 x4
                obtain ⟨x0, x1, x2, x3, x4, xf⟩ := cc_cells k4
                have hf1 := xf 1
                have hf2 := xf 2
                have hf3 := xf 3
                have hf4 := xf 4
                obtain ⟨Z, HZ⟩ : ∃ Z, Hid (Z = (((w4.setCell ⟨wr.heap.size, 1, none⟩ (.int .i64 va)).setCell ⟨wr.heap.size, 2, none⟩ (.int .i64 vb)).setCell ⟨wr.heap.size, 3, none⟩ (.int .i64 vc)).setCell ⟨wr.heap.size, 4, none⟩ (.string vt)) := ⟨_, Lib.hid rfl⟩
                have hgZ : w4.grownBy Z (some wr.heap.size) := by rw [HZ.out]; exact grown_add (grown_add (grown_add (grown_set _ _ _ _) (grown_set _ _ _ _)) (grown_set _ _ _ _)) (grown_set _ _ _ _)
                have HZ0 : Hid (Z.heap[wr.heap.size]? = some (ccell 157 op va vb vc vt)) := Lib.hid (by
                  rw [HZ.out]
                  have k1 := heap_setCell_same w4 wr.heap.size 1 _ _ (.int .i64 va) k4
                  have k2 := heap_setCell_same _ wr.heap.size 2 _ _ (.int .i64 vb) k1
                  have k3 := heap_setCell_same _ wr.heap.size 3 _ _ (.int .i64 vc) k2
                  exact heap_setCell_same _ wr.heap.size 4 _ _ (.string vt) k3)
                have HSN : Hid (StQ Z rb B bs (restS (compV (bs.drop q3)))) := Lib.hid (by
                  rw [compQ_some HV.out.1 HV.out.2 HOP.out]
                  exact hs4.grown hgZ (fun g hg => by injection hg with hg; omega))
                have HLN : Hid (LsQ compV Z rb B bs ri m (k + 1)) := Lib.hid (LsQ.next HL2.out hkm HC3.out HSN.out)
                have HBZ : Hid (wo.grownBy Z (some rb)) := Lib.hid (grown_new (grown_add HBY2.out hg4) hgZ (fun g hg => by injection hg with hg; omega))
                have hzZ : wr.heap.size + 1 ≤ Z.heap.size := by have := hg4.size; have := hgZ.size; omega
                have HOZ : Hid (OwnG 157 5 anyI Z wo.heap.size (.slice AI li.length ci) li) := Lib.hid (by
                  have h1 := HOY.out.turn any_turns hg4 (fun g hg => by injection hg with hg; omega)
                  obtain ⟨vals, ho, hj⟩ := h1
                  refine ⟨vals, World.ownsRow.kept ho hgZ ?_, fun j hl => ?_⟩
                  · cases hv : (Value.slice AI li.length ci).ownBlock with
                    | none => exact .inl rfl
                    | some g => right; intro e; injection e with e; have := (HOI.out.ge g hv).2; omega
                  · obtain ⟨vs, h1, h2, _⟩ := hj j hl
                    exact ⟨vs, h1, h2, trivial⟩)
                clear hg4 k4 hgZ hs4 xf HV4
                go_upto_region 15 with fail
                rw [← HZ.out]
                clear x0 x1 x2 x3 x4 hf1 hf2 hf3 hf4
                obtain ⟨x0, x1, x2, x3, x4, xf⟩ := cc_cells HZ0.out
                clear xf
                have HD := Lib.hid (cells_of (heap_new Z (.cells #[.int .i64 op, .int .i64 va, .int .i64 vb, .int .i64 vc, .string vt] 157)))
                go_wp2_with (at_builtin; refine wplG_app any_turns Try.underlying153 infoRC rfl (by decide) (by decide) rfl (.tmp 47) (.tmp 49) rfl wo.heap.size (.slice AI li.length ci) li rfl (HOZ.out.alloc any_turns _) Z.heap.size [.int .i64 op, .int .i64 va, .int .i64 vb, .int .i64 vc, .string vt] () rfl rfl HD.out (by intro u hu; simp at hu; rcases hu with rfl | rfl | rfl | rfl | rfl <;> rfl) trivial (by have := HKL.out; omega) (by simp; omega) ?_; intro g c3 w5 hown5 hgr5)
                have hge5 := fun g hg => (HOZ.out.ge g hg).1
                have HO5 := Lib.hid hown5
                have HB5 : Hid (wo.grownBy w5 (some rb)) := Lib.hid (grown_new (grown_add HBZ.out (grown_alloc1 Z _ _)) hgr5 hge5)
                have HL5 := Lib.hid ((HLN.out.grown (row := none) (grown_alloc1 Z (.cells #[.int .i64 op, .int .i64 va, .int .i64 vb, .int .i64 vc, .string vt] 157) none) (fun g hg => by cases hg)).grown hgr5 (fun g hg => by have := hge5 g hg; omega))
                clear hown5 hgr5 x0 x1 x2 x3 x4
                go_wp2_with fail
                go_roundw
                case rel => exact ⟨k + 1, li ++ [()], some ⟨g, 0, none⟩, c3, by omega, by go_num, by rw [List.length_append]; rfl, Lib.hid (by rw [List.length_append, HKL.out]; rfl), HL5, by rw [List.length_append]; exact HO5, HB5⟩
                case measure => simp [intOf]; omega

            · obtain ⟨A', c', hrow, _⟩ := hrf3.row
              obtain ⟨hc0, hc1, hc2, _, _⟩ := row3E hrow
              have hne : (e3 == 0) = false := by rcases he3 with h | h <;> subst h <;> rfl
              have HSI : StQ wr rb B bs (restS (lsL compV (bs.drop q))) := by
                rw [show lsL compV (bs.drop q) = ri from HRI.out.symm, hinl3]; exact ⟨he3, q3, hrf3⟩
              have HT2 := HT2'
              have HT3 := HT3'
              clear hrow hrf3 hinl3 he3
              have HLN : Hid (LsQ (lsL compV) wr rb B bs res n (j + 1)) := Lib.hid (LsQ.next HLO.out hjn HCT.out HSI)
              obtain ⟨t3, _⟩ := row1f HT3.out
              have HOO : Hid (OwnG 153 1 anyI wr W.heap.size (.slice AO lo.length co) lo) := Lib.hid (HO.out.turn any_turns HBI.out (fun g hg => by injection hg with hg; omega))
              have hzi := HBI.out.size
              have HT3A : Hid ((wr.alloc (.cells #[.slice AI li.length ci] 153)).cell? ⟨w.heap.size + 1, 0, none⟩ = some (.slice AO lo.length co)) := Lib.hid ((World.cell?_alloc_lt wr _ ⟨w.heap.size + 1, 0, none⟩ (show w.heap.size + 1 < wr.heap.size by omega)).trans t3)
              have HD := Lib.hid (cells_of (heap_new wr (.cells #[.slice AI li.length ci] 153)))
              go_wp2_with (at_builtin; refine wplG_app any_turns Try.underlying108 infoRCS rfl (by decide) (by decide) rfl (.tmp 52) (.tmp 54) rfl W.heap.size (.slice AO lo.length co) lo rfl (HOO.out.alloc any_turns _) wr.heap.size [.slice AI li.length ci] () rfl rfl HD.out (by intro u hu; simp at hu; subst hu; rfl) trivial (by have := HLL.out; omega) (by simp; omega) ?_; intro g c3 w5 hown5 hgr5; (have hz5 : wr.heap.size + 1 ≤ w5.heap.size := by (have := hgr5.size); rw [World.size_alloc] at this; exact this); (have hge5 := fun g hg => (HOO.out.ge g hg).1); (have k3 : w5.heap[w.heap.size + 1]? = _ := (hgr5.block (w.heap.size + 1) (by simp; omega) (fun e => by have := hge5 _ e.symm; omega)).trans ((Below.heap_alloc wr _ (w.heap.size + 1) (show w.heap.size + 1 < wr.heap.size by omega)).trans HT3.out)); (have k2 : w5.heap[w.heap.size]? = _ := (hgr5.block w.heap.size (by simp; omega) (fun e => by have := hge5 _ e.symm; omega)).trans ((Below.heap_alloc wr _ w.heap.size (show w.heap.size < wr.heap.size by omega)).trans HT2.out)); (obtain ⟨b0, bf⟩ := row1f k3))
              have K3 : Hid ((w5.setCell ⟨w.heap.size + 1, 0, none⟩ (.slice (some ⟨g, 0, none⟩) (lo.length + 1) c3)).heap[w.heap.size + 1]? = _) := Lib.hid (heap_setCell_same w5 (w.heap.size + 1) 0 _ _ (.slice (some ⟨g, 0, none⟩) (lo.length + 1) c3) k3)
              have hgs := grown_set w5 (w.heap.size + 1) 0 (.slice (some ⟨g, 0, none⟩) (lo.length + 1) c3)
              have K2 := Lib.hid ((hgs.block w.heap.size (by omega) (fun e => by injection e with e; omega)).trans k2)
              have HO5 := Lib.hid (OwnG.turn any_turns hown5 hgs (fun g hg => by injection hg with hg; omega))
              have HG5 : Hid (w.grownBy (w5.setCell ⟨w.heap.size + 1, 0, none⟩ (.slice (some ⟨g, 0, none⟩) (lo.length + 1) c3)) (some rb)) := Lib.hid (grown_new (grown_new (grown_add (grown_add HG.out HBI.out) (grown_alloc1 wr _ _)) hgr5 (fun g hg => by have := hge5 g hg; omega)) hgs (fun g hg => by injection hg with hg; omega))
              have HL5 := Lib.hid (((HLN.out.grown (row := none) (grown_alloc1 wr (.cells #[.slice AI li.length ci] 153) none) (fun g hg => by cases hg)).grown hgr5 (fun g hg => by have := hge5 g hg; omega)).grown hgs (fun g hg => by injection hg with hg; omega))
              clear k3 k2 hgs hown5 hgr5
              go_wp2_with fail
              go_roundw
              case rel => exact ⟨j + 1, lo ++ [()], some ⟨g, 0, none⟩, c3, by omega, by go_num, Lib.hid (by rw [List.length_append, HLL.out]; rfl), HL5, by rw [List.length_append]; exact HO5, HG5, K2, by rw [List.length_append]; exact K3⟩
              case measure => simp [intOf]; omega

          · have hki : ¬ (k : Int) < (m : Int) := by omega
            have hd : decide ((k : Int) < (m : Int)) = false := by simp; omega
            obtain rfl : k = m := by omega
            have HSI : StQ wr rb B bs (restS (lsL compV (bs.drop q))) := by
              rw [show lsL compV (bs.drop q) = ri from HRI.out.symm]; exact HLI.out.done
            have HT2 := HT2'
            have HT3 := HT3'
            have HLN : Hid (LsQ (lsL compV) wr rb B bs res n (j + 1)) := Lib.hid (LsQ.next HLO.out hjn HCT.out HSI)
            obtain ⟨t3, _⟩ := row1f HT3.out
            have HOO : Hid (OwnG 153 1 anyI wr W.heap.size (.slice AO lo.length co) lo) := Lib.hid (HO.out.turn any_turns HBI.out (fun g hg => by injection hg with hg; omega))
            have hzi := HBI.out.size
            have HT3A : Hid ((wr.alloc (.cells #[.slice AI li.length ci] 153)).cell? ⟨w.heap.size + 1, 0, none⟩ = some (.slice AO lo.length co)) := Lib.hid ((World.cell?_alloc_lt wr _ ⟨w.heap.size + 1, 0, none⟩ (show w.heap.size + 1 < wr.heap.size by omega)).trans t3)
            have HD := Lib.hid (cells_of (heap_new wr (.cells #[.slice AI li.length ci] 153)))
            go_wp2_with (at_builtin; refine wplG_app any_turns Try.underlying108 infoRCS rfl (by decide) (by decide) rfl (.tmp 52) (.tmp 54) rfl W.heap.size (.slice AO lo.length co) lo rfl (HOO.out.alloc any_turns _) wr.heap.size [.slice AI li.length ci] () rfl rfl HD.out (by intro u hu; simp at hu; subst hu; rfl) trivial (by have := HLL.out; omega) (by simp; omega) ?_; intro g c3 w5 hown5 hgr5; (have hz5 : wr.heap.size + 1 ≤ w5.heap.size := by (have := hgr5.size); rw [World.size_alloc] at this; exact this); (have hge5 := fun g hg => (HOO.out.ge g hg).1); (have k3 : w5.heap[w.heap.size + 1]? = _ := (hgr5.block (w.heap.size + 1) (by simp; omega) (fun e => by have := hge5 _ e.symm; omega)).trans ((Below.heap_alloc wr _ (w.heap.size + 1) (show w.heap.size + 1 < wr.heap.size by omega)).trans HT3.out)); (have k2 : w5.heap[w.heap.size]? = _ := (hgr5.block w.heap.size (by simp; omega) (fun e => by have := hge5 _ e.symm; omega)).trans ((Below.heap_alloc wr _ w.heap.size (show w.heap.size < wr.heap.size by omega)).trans HT2.out)); (obtain ⟨b0, bf⟩ := row1f k3))
            have K3 : Hid ((w5.setCell ⟨w.heap.size + 1, 0, none⟩ (.slice (some ⟨g, 0, none⟩) (lo.length + 1) c3)).heap[w.heap.size + 1]? = _) := Lib.hid (heap_setCell_same w5 (w.heap.size + 1) 0 _ _ (.slice (some ⟨g, 0, none⟩) (lo.length + 1) c3) k3)
            have hgs := grown_set w5 (w.heap.size + 1) 0 (.slice (some ⟨g, 0, none⟩) (lo.length + 1) c3)
            have K2 := Lib.hid ((hgs.block w.heap.size (by omega) (fun e => by injection e with e; omega)).trans k2)
            have HO5 := Lib.hid (OwnG.turn any_turns hown5 hgs (fun g hg => by injection hg with hg; omega))
            have HG5 : Hid (w.grownBy (w5.setCell ⟨w.heap.size + 1, 0, none⟩ (.slice (some ⟨g, 0, none⟩) (lo.length + 1) c3)) (some rb)) := Lib.hid (grown_new (grown_new (grown_add (grown_add HG.out HBI.out) (grown_alloc1 wr _ _)) hgr5 (fun g hg => by have := hge5 g hg; omega)) hgs (fun g hg => by injection hg with hg; omega))
            have HL5 := Lib.hid (((HLN.out.grown (row := none) (grown_alloc1 wr (.cells #[.slice AI li.length ci] 153) none) (fun g hg => by cases hg)).grown hgr5 (fun g hg => by have := hge5 g hg; omega)).grown hgs (fun g hg => by injection hg with hg; omega))
            clear k3 k2 hgs hown5 hgr5
            go_wp2_with fail
            go_roundw
            case rel => exact ⟨j + 1, lo ++ [()], some ⟨g, 0, none⟩, c3, by omega, by go_num, Lib.hid (by rw [List.length_append, HLL.out]; rfl), HL5, by rw [List.length_append]; exact HO5, HG5, K2, by rw [List.length_append]; exact K3⟩
            case measure => simp [intOf]; omega

      · obtain ⟨A', c', hrow, _⟩ := hrf.row
        obtain ⟨hc0, hc1, hc2, _, _⟩ := row3E hrow
        have hne : (e == 0) = false := by rcases he with h | h <;> subst h <;> rfl
        have HSQ : Hid (StQ wo rb B bs (restS (upS rngP s))) := Lib.hid (by rw [← HRES.out, hinl]; exact ⟨he, q, hrf⟩)
        clear hrow hrf hinl he
        go_wp2_with fail
        refine bodyPost_ret (v := .agg #[.slice AO lo.length co]) ?_ rfl ⟨⟨AO, lo.length, co, rfl⟩, ?_, ?_⟩
        · simp [results, Try.results55, go_sem, u0]
        · exact HSQ.out.grown (grown_set _ _ _ _) (fun g hg => by injection hg with hg; omega)
        · exact grown_new HG.out (grown_set _ _ _ _) (fun g hg => by injection hg with hg; omega)

    · have hji : ¬ (j : Int) < (n : Int) := by omega
      have hd : decide ((j : Int) < (n : Int)) = false := by simp; omega
      obtain rfl : j = n := by omega
      have HSQ : Hid (StQ wo rb B bs (restS (upS rngP s))) := Lib.hid (by rw [← HRES.out]; exact HL.out.done)
      go_wp2_with fail
      refine bodyPost_ret (v := .agg #[.slice AO lo.length co]) ?_ rfl ⟨⟨AO, lo.length, co, rfl⟩, ?_, ?_⟩
      · simp [results, Try.results55, go_sem, u0]
      · exact HSQ.out.grown (grown_set _ _ _ _) (fun g hg => by injection hg with hg; omega)
      · exact grown_new HG.out (grown_set _ _ _ _) (fun g hg => by injection hg with hg; omega)

end Go.Proofs.Ytmfoammkcokcoaa
