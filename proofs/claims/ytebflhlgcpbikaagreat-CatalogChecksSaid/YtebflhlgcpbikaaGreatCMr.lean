/-
  slipwaymade.Range.
-/
import Derived.Test.YtebflhlgcpbikaaGreatCMe
namespace Go.Proofs.YtebflhlgcpbikaaGreat
open Go.RowKit
open SemP
set_option linter.unusedVariables false
set_option linter.unusedSimpArgs false
set_option maxRecDepth 10000
theorem infoRC : (Tryz.prog.info? 117).map (fun i => (i.zero, i.size, i.bytes)) = some (some (.agg #[.int .i64 0, .int .i64 0, .int .i64 0, .int .i64 0, .string ⟨#[]⟩]), 5, 48) := by kernel_rfl
theorem infoRCS : (Tryz.prog.info? 115).map (fun i => (i.zero, i.size, i.bytes)) = some (some (.slice none 0 0), 1, 24) := by kernel_rfl
set_option maxHeartbeats 16000000 in
theorem rangeM_all {w : World} {B n c : Nat} {A : Option Addr} {r : List (List CV)} (hr : RdR w B A n r) (hB : B ≤ w.heap.size) :
    Calls Tryz.prog 28 #[.agg #[.slice A n c]] w fun en w' => ∃ A' n' c' ok, en = .returned (.tuple #[.agg #[.slice A' n' c'], .bool ok]) ∧ Below w.heap.size w w' ∧ ((ok = true → SmR r ∧ rgI w' (fun b => b < w.heap.size) [.slice A' n' c'] r) ∧ (SmR r → ok = true)) := by
  obtain ⟨W, hW⟩ : ∃ W, W = ((w.alloc (.cells #[.slice A n c] 82)).alloc (.cells #[.slice none 0 0] 87)).alloc (.cells #[.slice none 0 0] 87) := ⟨_, rfl⟩
  have hbl : Below w.heap.size w W := by rw [hW]; exact (((Below.refl _ w).alloc (Nat.le_refl _) _).alloc (by simp) _).alloc (by simp; omega) _
  have hz : W.heap.size = w.heap.size + 3 := by rw [hW]; simp
  have h0 : W.heap[w.heap.size]? = some (.cells #[.slice A n c] 82 (0, 0)) := by
    rw [hW, Below.heap_alloc _ _ _ (by simp; omega), Below.heap_alloc _ _ _ (by simp)]; exact heap_alloc_new w _
  have h1 : W.heap[w.heap.size + 1]? = some (.cells #[.slice none 0 0] 87 (0, 0)) := by
    rw [hW, Below.heap_alloc _ _ _ (by simp)]
    have h := heap_alloc_new (w.alloc (.cells #[.slice A n c] 82)) (.cells #[.slice none 0 0] 87)
    rw [World.size_alloc] at h; exact h
  have h2 : W.heap[w.heap.size + 1 + 1]? = some (.cells #[.slice none 0 0] 87 (0, 0)) := by
    rw [hW]
    have h := heap_alloc_new ((w.alloc (.cells #[.slice A n c] 82)).alloc (.cells #[.slice none 0 0] 87)) (.cells #[.slice none 0 0] 87)
    rw [World.size_alloc, World.size_alloc] at h; exact h
  have HBL := Lib.hid hbl
  have H0 := Lib.hid h0
  have H1 := Lib.hid h1
  have H2 := Lib.hid h2
  have HW := Lib.hid hW
  have HR := Lib.hid hr
  have HLN := Lib.hid hr.1
  clear hbl h0 h1 h2 hW hr
  go_enter Tryz.func28, Tryz.ntmps28
  go_upto_region 2 with fail
  change Code.wp _ _ _ _ (((w.alloc (.cells #[.slice A n c] 82)).alloc (.cells #[.slice none 0 0] 87)).alloc (.cells #[.slice none 0 0] 87))
  rw [← HW.out]
  obtain ⟨a0, _⟩ := row1f H0.out
  by_cases hn12 : 12 < n
  · have d1 : decide ((12 : Int) < (n : Int)) = true := by simp; omega
    obtain ⟨b0, bf⟩ := row1f H1.out
    obtain ⟨c0, _⟩ := row1f H2.out
    have HNO : Hid (¬ SmR r) := Lib.hid (fun h => by have := h.1; have := HLN.out; omega)
    have HBX := Lib.hid (HBL.out.setCell (p := ⟨w.heap.size + 1, 0, none⟩) (by show w.heap.size ≤ w.heap.size + 1; omega) (.slice none 0 0))
    go_wp2_with fail
    refine bodyPost_ret (v := .tuple #[.agg #[.slice none 0 0], .bool false]) ?_ rfl ⟨_, _, _, false, rfl, ?_, (fun h => by cases h), fun h => absurd h HNO.out⟩
    · rw [results_cell_tmp rfl]; go_simp
    · exact HBX.out

  have d1 : decide ((12 : Int) < (n : Int)) = false := by simp; omega
  go_wp2_with fail
  go_loopw [6, 7, 9, 18, 28] (fun _ _ _ v _ wr => ∃ (j : Nat) (lo : List (List CV)) (AO : Option Addr) (co : Nat), j ≤ n ∧ v = .int .i64 (j : Int) ∧ Hid (lo = r.take j) ∧ Hid (lo.length = j) ∧ Hid (∀ l ∈ lo, SmC l) ∧ Hid (OwnJ 115 1 liI wr W.heap.size (.slice AO lo.length co) lo) ∧ Hid (Below w.heap.size w wr) ∧ Hid (wr.heap[w.heap.size + 1]? = some (.cells #[.slice none 0 0] 87 (0, 0))) ∧ Hid (wr.heap[w.heap.size + 1 + 1]? = some (.cells #[.slice AO lo.length co] 87 (0, 0)))) (fun _ _ _ v _ _ => n - (intOf v).toNat)
  case atStart => exact ⟨0, [], none, 0, Nat.zero_le _, rfl, Lib.hid (by simp), Lib.hid rfl, Lib.hid (fun l hl => by simp at hl), Lib.hid (OwnJ.nil_ _ _ _ _ _), HBL, H1, H2⟩
  case round =>
    obtain ⟨wo, hwo⟩ : ∃ x, x = wr := ⟨_, rfl⟩
    subst hwo
    obtain ⟨j, lo, AO, co, hj, rfl, HLO, HLL, HSM, HO, HB, HT2, HT4⟩ := hrel
    have hpl : w.heap.size + 1 + 1 < wo.heap.size := heapE_lt HT4.out
    obtain ⟨u0, uf⟩ := row1f HT2.out
    obtain ⟨s0, sf⟩ := row1f HT4.out
    by_cases hjn : j < n
    · have hd : decide ((j : Int) < (n : Int)) = true := by simp; omega
      have hi : (j : Int) < (n : Int) := by omega
      have hadd : IntKind.i64.wrap ((j : Int) + 1) = ((j + 1 : Nat) : Int) := by rw [IntWalk.i64_in _ (by omega)]; omega
      have hjl : j < r.length := by rw [HLN.out]; exact hjn
      obtain ⟨b1, o1, Aj, nj, cj, rfl, hb1B, k0, k1⟩ := (HR.out.below (HB.out.mono hB)).2 j hjn
      obtain ⟨x, HX⟩ : ∃ x, Hid (lsAt r j = x) := ⟨_, Lib.hid rfl⟩
      rw [HX.out] at k1
      have HXL := Lib.hid k1.1
      have HRC : Hid (RdC wo B Aj nj x) := Lib.hid k1
      clear k1
      by_cases hnj : 12 < nj
      · have d2 : decide ((12 : Int) < (nj : Int)) = true := by simp; omega
        have HBX := Lib.hid (HB.out.setCell (p := ⟨w.heap.size + 1, 0, none⟩) (by show w.heap.size ≤ w.heap.size + 1; omega) (.slice AO lo.length co))
        have HNO : Hid (¬ SmR r) := Lib.hid (fun h => by have := (h.2 _ (lsAt_mem hjl)).1; rw [HX.out] at this; have := HXL.out; omega)
        go_wp2_with fail
        refine bodyPost_ret (v := .tuple #[.agg #[.slice AO lo.length co], .bool false]) ?_ rfl ⟨_, _, _, false, rfl, ?_, (fun h => by cases h), fun h => absurd h HNO.out⟩
        · rw [results_cell_tmp rfl]; go_simp
        · exact HBX.out

      have d2 : decide ((12 : Int) < (nj : Int)) = false := by simp; omega
      go_wp2_with fail
      go_loopw [7, 9, 28] (fun v7 _ v8 wr => ∃ (k : Nat) (li : List CV) (AI : Option Addr) (ci : Nat), k ≤ nj ∧ v8 = .int .i64 (k : Int) ∧ v7 = .slice AI li.length ci ∧ Hid (li = x.take k) ∧ Hid (li.length = k) ∧ Hid (∀ y ∈ li, y.s.size ≤ 100) ∧ Hid (OwnJ 117 5 cmI wr wo.heap.size (.slice AI li.length ci) li) ∧ Hid (Below wo.heap.size wo wr)) (fun _ _ v _ => nj - (intOf v).toNat)
      case atStart => exact ⟨0, [], none, 0, Nat.zero_le _, rfl, rfl, Lib.hid (by simp), Lib.hid rfl, Lib.hid (fun l hl => by simp at hl), Lib.hid (OwnJ.nil_ _ _ _ _ _), Lib.hid (Below.refl _ _)⟩
      case round =>
        obtain ⟨k, li, AI, ci, hk, rfl, rfl, HLI, HKL, HSI, HOI, HBI⟩ := hrel
        have hzr := HBI.out.size
        have HT2' : Hid (wr.heap[w.heap.size + 1]? = _) := Lib.hid ((HBI.out.block (w.heap.size + 1) (by omega)).trans HT2.out)
        have HT4' : Hid (wr.heap[w.heap.size + 1 + 1]? = _) := Lib.hid ((HBI.out.block (w.heap.size + 1 + 1) (by omega)).trans HT4.out)
        have HBW : Hid (Below w.heap.size w wr) := Lib.hid (HB.out.trans (HBI.out.mono (by omega)))
        by_cases hkn : k < nj
        · have hd2 : decide ((k : Int) < (nj : Int)) = true := by simp; omega
          have hi2 : (k : Int) < (nj : Int) := by omega
          have hadd2 : IntKind.i64.wrap ((k : Int) + 1) = ((k + 1 : Nat) : Int) := by rw [IntWalk.i64_in _ (by omega)]; omega
          have hkl : k < x.length := by rw [HXL.out]; exact hkn
          obtain ⟨b2, o2, rfl, hb2B, q0, q1, q2, q3, q4⟩ := (HRC.out.below (HBI.out.mono (by omega))).2 k hkn
          obtain ⟨y, HY⟩ : ∃ y, Hid (cvAt x k = y) := ⟨_, Lib.hid rfl⟩
          rw [HY.out] at q0 q1 q2 q3 q4
          obtain ⟨op, a, b, c2, sv⟩ := y
          simp only at q0 q1 q2 q3 q4
          obtain ⟨X, HX2⟩ : ∃ X, Hid (X = wr.alloc (ccell 112 op a b c2 sv)) := ⟨_, Lib.hid rfl⟩
          have hXs : X.heap.size = wr.heap.size + 1 := by rw [HX2.out]; simp
          have hX0 : X.heap[wr.heap.size]? = some (ccell 112 op a b c2 sv) := by rw [HX2.out]; exact heap_new wr _
          have HBX : Hid (Below wo.heap.size wo X) := Lib.hid (by rw [HX2.out]; exact HBI.out.alloc hzr _)
          have hbx1 : Below wr.heap.size wr X := by rw [HX2.out]; exact (Below.refl _ wr).alloc (Nat.le_refl _) _
          have HOX : Hid (OwnJ 117 5 cmI X wo.heap.size (.slice AI li.length ci) li) := Lib.hid (HOI.out.kept cm_turns hbx1)
          have HT2X : Hid (X.heap[w.heap.size + 1]? = _) := Lib.hid ((hbx1.block (w.heap.size + 1) (by omega)).trans HT2'.out)
          have HT4X : Hid (X.heap[w.heap.size + 1 + 1]? = _) := Lib.hid ((hbx1.block (w.heap.size + 1 + 1) (by omega)).trans HT4'.out)
          have HBWX : Hid (Below w.heap.size w X) := Lib.hid (HBW.out.trans (hbx1.mono (by omega)))
          obtain ⟨x0, x1, x2, x3, x4, _⟩ := cc_cells hX0
          have HXS := Lib.hid hXs
          clear hX0 hbx1 uf sf u0 s0 k0 hXs
          go_upto_region 13 with fail
          change Code.wp _ _ _ _ (wr.alloc (ccell 112 op a b c2 sv))
          rw [← HX2.out]
          by_cases hsz : 100 < sv.size
          · have d3 : decide ((100 : Int) < (sv.size : Int)) = true := by simp; omega
            have HBY := Lib.hid (HBWX.out.setCell (p := ⟨w.heap.size + 1, 0, none⟩) (by show w.heap.size ≤ w.heap.size + 1; omega) (.slice AO lo.length co))
            obtain ⟨u0, uf⟩ := row1f HT2X.out
            obtain ⟨s0, _⟩ := row1f HT4X.out
            have HNO : Hid (¬ SmR r) := Lib.hid (fun h => by
              have h1 := h.2 _ (lsAt_mem hjl)
              rw [HX.out] at h1
              have h2 := h1.2 _ (cvAt_mem hkl)
              rw [HY.out] at h2
              simp only at h2
              omega)
            clear q0 q1 q2 q3 q4 x0 x1 x2 x3
            go_wp2_with fail
            refine bodyPost_ret (v := .tuple #[.agg #[.slice AO lo.length co], .bool false]) ?_ rfl ⟨_, _, _, false, rfl, ?_, (fun h => by cases h), fun h => absurd h HNO.out⟩
            · rw [results_cell_tmp rfl]; go_simp
            · exact HBY.out

          · have d3 : decide ((100 : Int) < (sv.size : Int)) = false := by simp; omega
            have HD := Lib.hid (cells_of (heap_new X (.cells #[.int .i64 op, .int .i64 a, .int .i64 b, .int .i64 c2, .string sv] 117)))
            have hkk : k ≤ 12 := by omega
            clear q0 q1 q2 q3 q4
            go_wp2_with (at_builtin; (refine wplJ_app cm_turns Tryz.underlying115 infoRC rfl (by decide) (by decide) rfl (.tmp 38) (.tmp 44) rfl wo.heap.size (.slice AI li.length ci) li rfl (HOX.out.alloc cm_turns _) X.heap.size [.int .i64 op, .int .i64 a, .int .i64 b, .int .i64 c2, .string sv] ⟨op, a, b, c2, sv⟩ rfl rfl HD.out (by intro u hu; simp at hu; rcases hu with rfl | rfl | rfl | rfl | rfl <;> rfl) rfl (by have := HKL.out; omega) (by have := HXS.out; simp; omega) ?_); intro g c3 w5 hown5 hgr5)
            have hge5 := fun g hg => (HOX.out.ge g hg).1
            have HO5 := Lib.hid hown5
            have HB5 : Hid (Below wo.heap.size wo w5) := Lib.hid (by
              have := HXS.out
              exact (HBX.out.alloc (by omega) _).grown hgr5 (by simp; omega) hge5)
            clear hown5 hgr5 x0 x1 x2 x3 x4
            go_wp2_with fail
            go_roundw
            case rel => exact ⟨k + 1, li ++ [⟨op, a, b, c2, sv⟩], some ⟨g, 0, none⟩, c3, by omega, by go_num, by rw [List.length_append]; rfl, Lib.hid (by rw [take_cv x k hkl, HY.out, HLI.out]), Lib.hid (by rw [List.length_append, HKL.out]; rfl), Lib.hid (fun y hy => by
              rcases List.mem_append.1 hy with h | h
              · exact HSI.out y h
              · simp at h; subst h; show sv.size ≤ 100; omega), by rw [List.length_append]; exact HO5, HB5⟩
            case measure => simp [intOf]; omega
        · have hd2 : decide ((k : Int) < (nj : Int)) = false := by simp; omega
          obtain rfl : k = nj := by omega
          have hli : li = x := by rw [HLI.out]; exact List.take_of_length_le (by rw [HXL.out]; exact Nat.le_refl _)
          subst hli
          obtain ⟨t3, _⟩ := row1f HT4'.out
          have HOO : Hid (OwnJ 115 1 liI wr W.heap.size (.slice AO lo.length co) lo) := Lib.hid (HO.out.kept li_turns HBI.out)
          have HD := Lib.hid (cells_of (heap_new wr (.cells #[.slice AI li.length ci] 115)))
          have HAP : Hid (liI (wr.alloc (.cells #[.slice AI li.length ci] 115)) (Ap W.heap.size (.slice AO lo.length co)) [.slice AI li.length ci] li) := Lib.hid (li_turns.go (HOI.out.item (M := fun b => b < wo.heap.size) cm_turns (fun b hb => .inl hb)) (FrM.of_grown (row := none) (grown_alloc1 wr _ none) (fun g hg => by cases hg)) (fun b hb => .inl (by
            rcases hb with hb | hb
            · exact (HO.out.ge b hb).2
            · show b < _; omega)))
          clear t3 u0 uf s0 sf k0
          obtain ⟨t3, _⟩ := row1f HT4'.out
          go_wp2_with (at_builtin; refine wplJ_app li_turns Tryz.underlying85 infoRCS rfl (by decide) (by decide) rfl (.tmp 48) (.tmp 50) rfl W.heap.size (.slice AO lo.length co) lo rfl (HOO.out.alloc li_turns _) wr.heap.size [.slice AI li.length ci] li rfl rfl HD.out (by intro u hu; simp at hu; subst hu; rfl) HAP.out (by have := HLL.out; omega) (by simp; omega) ?_; intro g c3 w5 hown5 hgr5; (have hz5 : wr.heap.size + 1 ≤ w5.heap.size := by (have := hgr5.size); rw [World.size_alloc] at this; exact this); (have hge5 := fun g hg => (HOO.out.ge g hg).1); (have k3 : w5.heap[w.heap.size + 1 + 1]? = _ := (hgr5.block (w.heap.size + 1 + 1) (by simp; omega) (fun e => by have := hge5 _ e.symm; omega)).trans ((Below.heap_alloc wr _ (w.heap.size + 1 + 1) (show w.heap.size + 1 + 1 < wr.heap.size by omega)).trans HT4'.out)); (have k2 : w5.heap[w.heap.size + 1]? = _ := (hgr5.block (w.heap.size + 1) (by simp; omega) (fun e => by have := hge5 _ e.symm; omega)).trans ((Below.heap_alloc wr _ (w.heap.size + 1) (show w.heap.size + 1 < wr.heap.size by omega)).trans HT2'.out)); (obtain ⟨b0, bf⟩ := row1f k3))
          have K3 : Hid ((w5.setCell ⟨w.heap.size + 1 + 1, 0, none⟩ (.slice (some ⟨g, 0, none⟩) (lo.length + 1) c3)).heap[w.heap.size + 1 + 1]? = _) := Lib.hid (heap_setCell_same w5 (w.heap.size + 1 + 1) 0 _ _ (.slice (some ⟨g, 0, none⟩) (lo.length + 1) c3) k3)
          have hgs := grown_set w5 (w.heap.size + 1 + 1) 0 (.slice (some ⟨g, 0, none⟩) (lo.length + 1) c3)
          have K2 := Lib.hid ((hgs.block (w.heap.size + 1) (by omega) (fun e => by injection e with e; omega)).trans k2)
          have HO5 := Lib.hid (OwnJ.turn li_turns hown5 hgs (fun g hg => by injection hg with hg; omega))
          have HB5 : Hid (Below w.heap.size w (w5.setCell ⟨w.heap.size + 1 + 1, 0, none⟩ (.slice (some ⟨g, 0, none⟩) (lo.length + 1) c3))) := Lib.hid ((((HBW.out.alloc (by omega) _).grown hgr5 (by simp; omega) (fun g hg => by have := hge5 g hg; omega))).setCell (p := ⟨w.heap.size + 1 + 1, 0, none⟩) (by show w.heap.size ≤ w.heap.size + 1 + 1; omega) _)
          have HS5 : Hid (∀ l ∈ lo ++ [li], SmC l) := Lib.hid (fun l hl => by
            rcases List.mem_append.1 hl with h | h
            · exact HSM.out l h
            · simp at h; subst h; exact ⟨by have := HKL.out; omega, HSI.out⟩)
          clear k3 k2 hgs hown5 hgr5 t3
          go_wp2_with fail
          go_roundw
          case rel => exact ⟨j + 1, lo ++ [li], some ⟨g, 0, none⟩, c3, by omega, by go_num, Lib.hid (by rw [take_ls r j hjl, HX.out, HLO.out]), Lib.hid (by rw [List.length_append, HLL.out]; rfl), HS5, by rw [List.length_append]; exact HO5, HB5, K2, by rw [List.length_append]; exact K3⟩
          case measure => simp [intOf]; omega
    · have hd : decide ((j : Int) < (n : Int)) = false := by simp; omega
      obtain rfl : j = n := by omega
      have hlo : lo = r := by rw [HLO.out]; exact List.take_of_length_le (by rw [HLN.out]; exact Nat.le_refl _)
      subst hlo
      have hgs := grown_set wo (w.heap.size + 1) 0 (.slice AO lo.length co)
      have HIT : Hid (rgI (wo.setCell ⟨w.heap.size + 1, 0, none⟩ (.slice AO lo.length co)) (fun b => b < w.heap.size) [.slice AO lo.length co] lo) := Lib.hid (rg_turns.go (HO.out.item (M := fun b => b < W.heap.size) li_turns (fun b hb => .inl hb)) (FrM.of_grown hgs (fun g hg => by injection hg with hg; subst hg; show _ < _; omega)) (fun b (hb : b < w.heap.size) => .inl (by show b < _; omega)))
      have HBX := Lib.hid (HB.out.setCell (p := ⟨w.heap.size + 1, 0, none⟩) (by show w.heap.size ≤ w.heap.size + 1; omega) (.slice AO lo.length co))
      have HSR : Hid (SmR lo) := Lib.hid ⟨by have := HLN.out; omega, HSM.out⟩
      clear hgs
      go_wp2_with fail
      refine bodyPost_ret (v := .tuple #[.agg #[.slice AO lo.length co], .bool true]) ?_ rfl ⟨_, _, _, true, rfl, HBX.out, (fun _ => ⟨HSR.out, HIT.out⟩), fun _ => rfl⟩
      rw [results_cell_tmp rfl]; go_simp
theorem rangeM_any {w : World} {B n c : Nat} {A : Option Addr} {r : List (List CV)} (hr : RdR w B A n r) (hB : B ≤ w.heap.size) :
    Calls Tryz.prog 28 #[.agg #[.slice A n c]] w fun en w' => ∃ A' n' c' ok, en = .returned (.tuple #[.agg #[.slice A' n' c'], .bool ok]) ∧ Below w.heap.size w w' ∧ (ok = true → SmR r ∧ rgI w' (fun b => b < w.heap.size) [.slice A' n' c'] r) := by
  refine (rangeM_all hr hB).mono ?_
  rintro en w' ⟨A', n', c', ok, h1, h2, h3, _⟩
  exact ⟨A', n', c', ok, h1, h2, h3⟩
end Go.Proofs.YtebflhlgcpbikaaGreat
