/-
 MERGED: CMr CMc CRg.
-/
import Derived.Test.YtminihiecloglaaGreatCMe
import Derived.Test.YtminihiecloglaaGreatCAa
import Derived.Test.YtminihiecloglaaGreatCQk
set_option linter.unusedVariables false
set_option linter.unusedSimpArgs false
namespace Go.Proofs.YtminihiecloglaaGreat
open Go.RowKit
open SemP
set_option maxRecDepth 10000
theorem infoRC : (Tryz.prog.info? 172).map (fun i => (i.zero, i.size, i.bytes)) = some (some (.agg #[.int .i64 0, .int .i64 0, .int .i64 0, .int .i64 0, .string ⟨#[]⟩]), 5, 48) := by kernel_rfl
theorem infoRCS : (Tryz.prog.info? 170).map (fun i => (i.zero, i.size, i.bytes)) = some (some (.slice none 0 0), 1, 24) := by kernel_rfl
set_option maxHeartbeats 16000000 in
theorem rangeM_all {w : World} {B n c : Nat} {A : Option Addr} {r : List (List CV)} (hr : RdR w B A n r) (hB : B ≤ w.heap.size) :
  Calls Tryz.prog 68 #[.agg #[.slice A n c]] w fun en w' => ∃ A' n' c' ok, en = .returned (.tuple #[.agg #[.slice A' n' c'], .bool ok]) ∧ Below w.heap.size w w' ∧ ((ok = true → SmR r ∧ rgI w' (fun b => b < w.heap.size) [.slice A' n' c'] r) ∧ (SmR r → ok = true)) := by
 obtain ⟨W, hW⟩ : ∃ W, W = ((w.alloc (.cells #[.slice A n c] 97)).alloc (.cells #[.slice none 0 0] 144)).alloc (.cells #[.slice none 0 0] 144) := ⟨_, rfl⟩
 have hbl : Below w.heap.size w W := by rw [hW]; exact (((Below.refl _ w).alloc (Nat.le_refl _) _).alloc (by simp) _).alloc (by simp; omega) _
 have hz : W.heap.size = w.heap.size + 3 := by rw [hW]; simp
 have h0 : W.heap[w.heap.size]? = some (.cells #[.slice A n c] 97 (0, 0)) := by
  rw [hW, Below.heap_alloc _ _ _ (by simp; omega), Below.heap_alloc _ _ _ (by simp)]; exact heap_alloc_new w _
 have h1 : W.heap[w.heap.size + 1]? = some (.cells #[.slice none 0 0] 144 (0, 0)) := by
  rw [hW, Below.heap_alloc _ _ _ (by simp)]
  have h := heap_alloc_new (w.alloc (.cells #[.slice A n c] 97)) (.cells #[.slice none 0 0] 144)
  rw [World.size_alloc] at h; exact h
 have h2 : W.heap[w.heap.size + 1 + 1]? = some (.cells #[.slice none 0 0] 144 (0, 0)) := by
  rw [hW]
  have h := heap_alloc_new ((w.alloc (.cells #[.slice A n c] 97)).alloc (.cells #[.slice none 0 0] 144)) (.cells #[.slice none 0 0] 144)
  rw [World.size_alloc, World.size_alloc] at h; exact h
 have HBL := Lib.hid hbl
 have H0 := Lib.hid h0
 have H1 := Lib.hid h1
 have H2 := Lib.hid h2
 have HW := Lib.hid hW
 have HR := Lib.hid hr
 have HLN := Lib.hid hr.1
 clear hbl h0 h1 h2 hW hr
 go_enter Tryz.func68, Tryz.ntmps68
 go_upto_region 2 with fail
 change Code.wp _ _ _ _ (((w.alloc (.cells #[.slice A n c] 97)).alloc (.cells #[.slice none 0 0] 144)).alloc (.cells #[.slice none 0 0] 144))
 rw [← HW.out]
 obtain ⟨a0, _⟩ := row1f H0.out
 by_cases hn12 : 12 < n
 ·have d1 : decide ((12 : Int) < (n : Int)) = true := by simp; omega
  obtain ⟨b0, bf⟩ := row1f H1.out
  obtain ⟨c0, _⟩ := row1f H2.out
  have HNO : Hid (¬ SmR r) := Lib.hid (fun h => by have := h.1; have := HLN.out; omega)
  have HBX := Lib.hid (HBL.out.setCell (p := ⟨w.heap.size + 1, 0, none⟩) (by show w.heap.size ≤ w.heap.size + 1; omega) (.slice none 0 0))
  go_wp2_with fail
  refine bodyPost_ret (v := .tuple #[.agg #[.slice none 0 0], .bool false]) ?_ rfl ⟨_, _, _, false, rfl, ?_, (fun h => by cases h), fun h => absurd h HNO.out⟩
  ·rw [results_cell_tmp rfl]; go_simp
  ·exact HBX.out
 have d1 : decide ((12 : Int) < (n : Int)) = false := by simp; omega
 go_wp2_with fail
 go_loopw [6, 7, 9, 18, 28] (fun _ _ _ v _ wr => ∃ (j : Nat) (lo : List (List CV)) (AO : Option Addr) (co : Nat), j ≤ n ∧ v = .int .i64 (j : Int) ∧ Hid (lo = r.take j) ∧ Hid (lo.length = j) ∧ Hid (∀ l ∈ lo, SmC l) ∧ Hid (OwnJ 170 1 liI wr W.heap.size (.slice AO lo.length co) lo) ∧ Hid (Below w.heap.size w wr) ∧ Hid (wr.heap[w.heap.size + 1]? = some (.cells #[.slice none 0 0] 144 (0, 0))) ∧ Hid (wr.heap[w.heap.size + 1 + 1]? = some (.cells #[.slice AO lo.length co] 144 (0, 0)))) (fun _ _ _ v _ _ => n - (intOf v).toNat)
 case atStart => exact ⟨0, [], none, 0, Nat.zero_le _, rfl, Lib.hid (by simp), Lib.hid rfl, Lib.hid (fun l hl => by simp at hl), Lib.hid (OwnJ.nil_ _ _ _ _ _), HBL, H1, H2⟩
 case round =>
  obtain ⟨wo, hwo⟩ : ∃ x, x = wr := ⟨_, rfl⟩
  subst hwo
  obtain ⟨j, lo, AO, co, hj, rfl, HLO, HLL, HSM, HO, HB, HT2, HT4⟩ := hrel
  have hpl : w.heap.size + 1 + 1 < wo.heap.size := heapE_lt HT4.out
  obtain ⟨u0, uf⟩ := row1f HT2.out
  obtain ⟨s0, sf⟩ := row1f HT4.out
  by_cases hjn : j < n
  ·have hd : decide ((j : Int) < (n : Int)) = true := by simp; omega
   have hi : (j : Int) < (n : Int) := by omega
   have hadd : IntKind.i64.wrap ((j : Int) + 1) = ((j + 1 : Nat) : Int) := by rw [IntWalk.i64_in _ (by omega)]; omega
   have hjl : j < r.length := by rw [HLN.out]; exact hjn
   obtain ⟨b1, o1, Aj, nj, cj, rfl, hb1B, k0, k1⟩ := (HR.out.below (HB.out.mono hB)).2 j hjn
   obtain ⟨x, HX⟩ : ∃ x, Hid (lsAt r j = x) := ⟨_, Lib.hid rfl⟩
   rw [HX.out] at k1
   have HXL := Lib.hid k1.1
   have HRC : Hid (RdC wo B Aj nj x) := Lib.hid k1
   clear k1
   by_cases hnj : 12 < nj
   ·have d2 : decide ((12 : Int) < (nj : Int)) = true := by simp; omega
    have HBX := Lib.hid (HB.out.setCell (p := ⟨w.heap.size + 1, 0, none⟩) (by show w.heap.size ≤ w.heap.size + 1; omega) (.slice AO lo.length co))
    have HNO : Hid (¬ SmR r) := Lib.hid (fun h => by have := (h.2 _ (lsAt_mem hjl)).1; rw [HX.out] at this; have := HXL.out; omega)
    go_wp2_with fail
    refine bodyPost_ret (v := .tuple #[.agg #[.slice AO lo.length co], .bool false]) ?_ rfl ⟨_, _, _, false, rfl, ?_, (fun h => by cases h), fun h => absurd h HNO.out⟩
    ·rw [results_cell_tmp rfl]; go_simp
    ·exact HBX.out
   have d2 : decide ((12 : Int) < (nj : Int)) = false := by simp; omega
   go_wp2_with fail
   go_loopw [7, 9, 28] (fun v7 _ v8 wr => ∃ (k : Nat) (li : List CV) (AI : Option Addr) (ci : Nat), k ≤ nj ∧ v8 = .int .i64 (k : Int) ∧ v7 = .slice AI li.length ci ∧ Hid (li = x.take k) ∧ Hid (li.length = k) ∧ Hid (∀ y ∈ li, y.s.size ≤ 100) ∧ Hid (OwnJ 172 5 cmI wr wo.heap.size (.slice AI li.length ci) li) ∧ Hid (Below wo.heap.size wo wr)) (fun _ _ v _ => nj - (intOf v).toNat)
   case atStart => exact ⟨0, [], none, 0, Nat.zero_le _, rfl, rfl, Lib.hid (by simp), Lib.hid rfl, Lib.hid (fun l hl => by simp at hl), Lib.hid (OwnJ.nil_ _ _ _ _ _), Lib.hid (Below.refl _ _)⟩
   case round =>
    obtain ⟨k, li, AI, ci, hk, rfl, rfl, HLI, HKL, HSI, HOI, HBI⟩ := hrel
    have hzr := HBI.out.size
    have HT2' : Hid (wr.heap[w.heap.size + 1]? = _) := Lib.hid ((HBI.out.block (w.heap.size + 1) (by omega)).trans HT2.out)
    have HT4' : Hid (wr.heap[w.heap.size + 1 + 1]? = _) := Lib.hid ((HBI.out.block (w.heap.size + 1 + 1) (by omega)).trans HT4.out)
    have HBW : Hid (Below w.heap.size w wr) := Lib.hid (HB.out.trans (HBI.out.mono (by omega)))
    by_cases hkn : k < nj
    ·have hd2 : decide ((k : Int) < (nj : Int)) = true := by simp; omega
     have hi2 : (k : Int) < (nj : Int) := by omega
     have hadd2 : IntKind.i64.wrap ((k : Int) + 1) = ((k + 1 : Nat) : Int) := by rw [IntWalk.i64_in _ (by omega)]; omega
     have hkl : k < x.length := by rw [HXL.out]; exact hkn
     obtain ⟨b2, o2, rfl, hb2B, q0, q1, q2, q3, q4⟩ := (HRC.out.below (HBI.out.mono (by omega))).2 k hkn
     obtain ⟨y, HY⟩ : ∃ y, Hid (cvAt x k = y) := ⟨_, Lib.hid rfl⟩
     rw [HY.out] at q0 q1 q2 q3 q4
     obtain ⟨op, a, b, c2, sv⟩ := y
     simp only at q0 q1 q2 q3 q4
     obtain ⟨X, HX2⟩ : ∃ X, Hid (X = wr.alloc (ccell 93 op a b c2 sv)) := ⟨_, Lib.hid rfl⟩
     have hXs : X.heap.size = wr.heap.size + 1 := by rw [HX2.out]; simp
     have hX0 : X.heap[wr.heap.size]? = some (ccell 93 op a b c2 sv) := by rw [HX2.out]; exact heap_new wr _
     have HBX : Hid (Below wo.heap.size wo X) := Lib.hid (by rw [HX2.out]; exact HBI.out.alloc hzr _)
     have hbx1 : Below wr.heap.size wr X := by rw [HX2.out]; exact (Below.refl _ wr).alloc (Nat.le_refl _) _
     have HOX : Hid (OwnJ 172 5 cmI X wo.heap.size (.slice AI li.length ci) li) := Lib.hid (HOI.out.kept cm_turns hbx1)
     have HT2X : Hid (X.heap[w.heap.size + 1]? = _) := Lib.hid ((hbx1.block (w.heap.size + 1) (by omega)).trans HT2'.out)
     have HT4X : Hid (X.heap[w.heap.size + 1 + 1]? = _) := Lib.hid ((hbx1.block (w.heap.size + 1 + 1) (by omega)).trans HT4'.out)
     have HBWX : Hid (Below w.heap.size w X) := Lib.hid (HBW.out.trans (hbx1.mono (by omega)))
     obtain ⟨x0, x1, x2, x3, x4, _⟩ := cc_cells hX0
     have HXS := Lib.hid hXs
     clear hX0 hbx1 uf sf u0 s0 k0 hXs
     go_upto_region 13 with fail
     change Code.wp _ _ _ _ (wr.alloc (ccell 93 op a b c2 sv))
     rw [← HX2.out]
     by_cases hsz : 100 < sv.size
     ·have d3 : decide ((100 : Int) < (sv.size : Int)) = true := by simp; omega
      have HBY := Lib.hid (HBWX.out.setCell (p := ⟨w.heap.size + 1, 0, none⟩) (by show w.heap.size ≤ w.heap.size + 1; omega) (.slice AO lo.length co))
      obtain ⟨u0, uf⟩ := row1f HT2X.out
      obtain ⟨s0, _⟩ := row1f HT4X.out
      have HNO : Hid (¬ SmR r) := Lib.hid (fun h => by
       have h1 := h.2 _ (lsAt_mem hjl)
       rw [HX.out] at h1
       have h2 := h1.2 _ (cvAt_mem hkl)
       rw [HY.out] at h2
       simp only at h2
       omega)
      clear q0 q1 q2 q3 q4 x0 x1 x2 x3
      go_wp2_with fail
      refine bodyPost_ret (v := .tuple #[.agg #[.slice AO lo.length co], .bool false]) ?_ rfl ⟨_, _, _, false, rfl, ?_, (fun h => by cases h), fun h => absurd h HNO.out⟩
      ·rw [results_cell_tmp rfl]; go_simp
      ·exact HBY.out
     ·have d3 : decide ((100 : Int) < (sv.size : Int)) = false := by simp; omega
      have HD := Lib.hid (cells_of (heap_new X (.cells #[.int .i64 op, .int .i64 a, .int .i64 b, .int .i64 c2, .string sv] 172)))
      have hkk : k ≤ 12 := by omega
      clear q0 q1 q2 q3 q4
      go_wp2_with (at_builtin; (refine wplJ_app cm_turns Tryz.underlying170 infoRC rfl (by decide) (by decide) rfl (.tmp 38) (.tmp 44) rfl wo.heap.size (.slice AI li.length ci) li rfl (HOX.out.alloc cm_turns _) X.heap.size [.int .i64 op, .int .i64 a, .int .i64 b, .int .i64 c2, .string sv] ⟨op, a, b, c2, sv⟩ rfl rfl HD.out (by intro u hu; simp at hu; rcases hu with rfl | rfl | rfl | rfl | rfl <;> rfl) rfl (by have := HKL.out; omega) (by have := HXS.out; simp; omega) ?_); intro g c3 w5 hown5 hgr5)
      have hge5 := fun g hg => (HOX.out.ge g hg).1
      have HO5 := Lib.hid hown5
      have HB5 : Hid (Below wo.heap.size wo w5) := Lib.hid (by
       have := HXS.out
       exact (HBX.out.alloc (by omega) _).grown hgr5 (by simp; omega) hge5)
      clear hown5 hgr5 x0 x1 x2 x3 x4
      go_wp2_with fail
      go_roundw
      case rel => exact ⟨k + 1, li ++ [⟨op, a, b, c2, sv⟩], some ⟨g, 0, none⟩, c3, by omega, by go_num, by rw [List.length_append]; rfl, Lib.hid (by rw [take_cv x k hkl, HY.out, HLI.out]), Lib.hid (by rw [List.length_append, HKL.out]; rfl), Lib.hid (fun y hy => by
       rcases List.mem_append.1 hy with h | h
       ·exact HSI.out y h
       ·simp at h; subst h; show sv.size ≤ 100; omega), by rw [List.length_append]; exact HO5, HB5⟩
      case measure => simp [intOf]; omega
    ·have hd2 : decide ((k : Int) < (nj : Int)) = false := by simp; omega
     obtain rfl : k = nj := by omega
     have hli : li = x := by rw [HLI.out]; exact List.take_of_length_le (by rw [HXL.out]; exact Nat.le_refl _)
     subst hli
     obtain ⟨t3, _⟩ := row1f HT4'.out
     have HOO : Hid (OwnJ 170 1 liI wr W.heap.size (.slice AO lo.length co) lo) := Lib.hid (HO.out.kept li_turns HBI.out)
     have HD := Lib.hid (cells_of (heap_new wr (.cells #[.slice AI li.length ci] 170)))
     have HAP : Hid (liI (wr.alloc (.cells #[.slice AI li.length ci] 170)) (Ap W.heap.size (.slice AO lo.length co)) [.slice AI li.length ci] li) := Lib.hid (li_turns.go (HOI.out.item (M := fun b => b < wo.heap.size) cm_turns (fun b hb => .inl hb)) (FrM.of_grown (row := none) (grown_alloc1 wr _ none) (fun g hg => by cases hg)) (fun b hb => .inl (by
      rcases hb with hb | hb
      ·exact (HO.out.ge b hb).2
      ·show b < _; omega)))
     clear t3 u0 uf s0 sf k0
     obtain ⟨t3, _⟩ := row1f HT4'.out
     go_wp2_with (at_builtin; refine wplJ_app li_turns Tryz.underlying142 infoRCS rfl (by decide) (by decide) rfl (.tmp 48) (.tmp 50) rfl W.heap.size (.slice AO lo.length co) lo rfl (HOO.out.alloc li_turns _) wr.heap.size [.slice AI li.length ci] li rfl rfl HD.out (by intro u hu; simp at hu; subst hu; rfl) HAP.out (by have := HLL.out; omega) (by simp; omega) ?_; intro g c3 w5 hown5 hgr5; (have hz5 : wr.heap.size + 1 ≤ w5.heap.size := by (have := hgr5.size); rw [World.size_alloc] at this; exact this); (have hge5 := fun g hg => (HOO.out.ge g hg).1); (have k3 : w5.heap[w.heap.size + 1 + 1]? = _ := (hgr5.block (w.heap.size + 1 + 1) (by simp; omega) (fun e => by have := hge5 _ e.symm; omega)).trans ((Below.heap_alloc wr _ (w.heap.size + 1 + 1) (show w.heap.size + 1 + 1 < wr.heap.size by omega)).trans HT4'.out)); (have k2 : w5.heap[w.heap.size + 1]? = _ := (hgr5.block (w.heap.size + 1) (by simp; omega) (fun e => by have := hge5 _ e.symm; omega)).trans ((Below.heap_alloc wr _ (w.heap.size + 1) (show w.heap.size + 1 < wr.heap.size by omega)).trans HT2'.out)); (obtain ⟨b0, bf⟩ := row1f k3))
     have K3 : Hid ((w5.setCell ⟨w.heap.size + 1 + 1, 0, none⟩ (.slice (some ⟨g, 0, none⟩) (lo.length + 1) c3)).heap[w.heap.size + 1 + 1]? = _) := Lib.hid (heap_setCell_same w5 (w.heap.size + 1 + 1) 0 _ _ (.slice (some ⟨g, 0, none⟩) (lo.length + 1) c3) k3)
     have hgs := grown_set w5 (w.heap.size + 1 + 1) 0 (.slice (some ⟨g, 0, none⟩) (lo.length + 1) c3)
     have K2 := Lib.hid ((hgs.block (w.heap.size + 1) (by omega) (fun e => by injection e with e; omega)).trans k2)
     have HO5 := Lib.hid (OwnJ.turn li_turns hown5 hgs (fun g hg => by injection hg with hg; omega))
     have HB5 : Hid (Below w.heap.size w (w5.setCell ⟨w.heap.size + 1 + 1, 0, none⟩ (.slice (some ⟨g, 0, none⟩) (lo.length + 1) c3))) := Lib.hid ((((HBW.out.alloc (by omega) _).grown hgr5 (by simp; omega) (fun g hg => by have := hge5 g hg; omega))).setCell (p := ⟨w.heap.size + 1 + 1, 0, none⟩) (by show w.heap.size ≤ w.heap.size + 1 + 1; omega) _)
     have HS5 : Hid (∀ l ∈ lo ++ [li], SmC l) := Lib.hid (fun l hl => by
      rcases List.mem_append.1 hl with h | h
      ·exact HSM.out l h
      ·simp at h; subst h; exact ⟨by have := HKL.out; omega, HSI.out⟩)
     clear k3 k2 hgs hown5 hgr5 t3
     go_wp2_with fail
     go_roundw
     case rel => exact ⟨j + 1, lo ++ [li], some ⟨g, 0, none⟩, c3, by omega, by go_num, Lib.hid (by rw [take_ls r j hjl, HX.out, HLO.out]), Lib.hid (by rw [List.length_append, HLL.out]; rfl), HS5, by rw [List.length_append]; exact HO5, HB5, K2, by rw [List.length_append]; exact K3⟩
     case measure => simp [intOf]; omega
  ·have hd : decide ((j : Int) < (n : Int)) = false := by simp; omega
   obtain rfl : j = n := by omega
   have hlo : lo = r := by rw [HLO.out]; exact List.take_of_length_le (by rw [HLN.out]; exact Nat.le_refl _)
   subst hlo
   have hgs := grown_set wo (w.heap.size + 1) 0 (.slice AO lo.length co)
   have HIT : Hid (rgI (wo.setCell ⟨w.heap.size + 1, 0, none⟩ (.slice AO lo.length co)) (fun b => b < w.heap.size) [.slice AO lo.length co] lo) := Lib.hid (rg_turns.go (HO.out.item (M := fun b => b < W.heap.size) li_turns (fun b hb => .inl hb)) (FrM.of_grown hgs (fun g hg => by injection hg with hg; subst hg; show _ < _; omega)) (fun b (hb : b < w.heap.size) => .inl (by show b < _; omega)))
   have HBX := Lib.hid (HB.out.setCell (p := ⟨w.heap.size + 1, 0, none⟩) (by show w.heap.size ≤ w.heap.size + 1; omega) (.slice AO lo.length co))
   have HSR : Hid (SmR lo) := Lib.hid ⟨by have := HLN.out; omega, HSM.out⟩
   clear hgs
   go_wp2_with fail
   refine bodyPost_ret (v := .tuple #[.agg #[.slice AO lo.length co], .bool true]) ?_ rfl ⟨_, _, _, true, rfl, HBX.out, (fun _ => ⟨HSR.out, HIT.out⟩), fun _ => rfl⟩
   rw [results_cell_tmp rfl]; go_simp
end Go.Proofs.YtminihiecloglaaGreat
namespace Go.Proofs.YtminihiecloglaaGreat
open Go.RowKit
open SemP
set_option maxRecDepth 10000
theorem infoMSv : (Tryz.prog.info? 128).map (fun i => (i.zero, i.size, i.bytes)) = some (some (.agg #[.string ⟨#[]⟩, .slice none 0 0]), 2, 40) := by kernel_rfl
theorem infoMRl : (Tryz.prog.info? 125).map (fun i => (i.zero, i.size, i.bytes)) = some (some (.agg #[.int .i64 0, .int .i64 0, .int .i64 0, .string ⟨#[]⟩, .int .i64 0, .slice none 0 0]), 6, 72) := by kernel_rfl
theorem infoMNd : (Tryz.prog.info? 148).map (fun i => (i.zero, i.size, i.bytes)) = some (some (.agg #[.int .i64 0, .slice none 0 0]), 2, 32) := by kernel_rfl
set_option maxHeartbeats 32000000 in
theorem catM_all {w : World} {B n c : Nat} {A : Option Addr} {l : List Sv} (hr : RdJ 2 svI w (fun b => B ≤ b) A n l) (hB : B ≤ w.heap.size) :
  Calls Tryz.prog 38 #[.agg #[.slice A n c]] w fun en w' => ∃ A' n' c' ok, en = .returned (.tuple #[.agg #[.slice A' n' c'], .bool ok]) ∧ Below w.heap.size w w' ∧ ((ok = true → SmCat l ∧ ssI w' (fun b => b < w.heap.size) [.slice A' n' c'] l) ∧ (SmCat l → ok = true)) := by
 obtain ⟨W, hW⟩ : ∃ W, W = ((w.alloc (.cells #[.slice A n c] 24)).alloc (.cells #[.slice none 0 0] 29)).alloc (.cells #[.slice none 0 0] 29) := ⟨_, rfl⟩
 have hbl : Below w.heap.size w W := by rw [hW]; exact (((Below.refl _ w).alloc (Nat.le_refl _) _).alloc (by simp) _).alloc (by simp; omega) _
 have hz : W.heap.size = w.heap.size + 3 := by rw [hW]; simp
 have h0 : W.heap[w.heap.size]? = some (.cells #[.slice A n c] 24 (0, 0)) := by
  rw [hW, Below.heap_alloc _ _ _ (by simp; omega), Below.heap_alloc _ _ _ (by simp)]; exact heap_alloc_new w _
 have h1 : W.heap[w.heap.size + 1]? = some (.cells #[.slice none 0 0] 29 (0, 0)) := by
  rw [hW, Below.heap_alloc _ _ _ (by simp)]
  have h := heap_alloc_new (w.alloc (.cells #[.slice A n c] 24)) (.cells #[.slice none 0 0] 29)
  rw [World.size_alloc] at h; exact h
 have h2 : W.heap[w.heap.size + 1 + 1]? = some (.cells #[.slice none 0 0] 29 (0, 0)) := by
  rw [hW]
  have h := heap_alloc_new ((w.alloc (.cells #[.slice A n c] 24)).alloc (.cells #[.slice none 0 0] 29)) (.cells #[.slice none 0 0] 29)
  rw [World.size_alloc, World.size_alloc] at h; exact h
 have HBL := Lib.hid hbl
 have H0 := Lib.hid h0
 have H1 := Lib.hid h1
 have H2 := Lib.hid h2
 have HW := Lib.hid hW
 have HR := Lib.hid hr
 have HLN := Lib.hid hr.1
 clear hbl h0 h1 h2 hW hr
 go_enter Tryz.func38, Tryz.ntmps38
 go_upto_region 2 with fail
 change Code.wp _ _ _ _ (((w.alloc (.cells #[.slice A n c] 24)).alloc (.cells #[.slice none 0 0] 29)).alloc (.cells #[.slice none 0 0] 29))
 rw [← HW.out]
 obtain ⟨a0, _⟩ := row1f H0.out
 by_cases hn16 : 16 < n
 ·have d1 : decide ((16 : Int) < (n : Int)) = true := by simp; omega
  have HNO : Hid (¬ SmCat l) := Lib.hid (fun h => by have := h.1; have := HLN.out; omega)
  obtain ⟨u0, uf⟩ := row1f H1.out
  obtain ⟨s0, _⟩ := row1f H2.out
  have HBX := Lib.hid (HBL.out.setCell (p := ⟨w.heap.size + 1, 0, none⟩) (by show w.heap.size ≤ w.heap.size + 1; omega) (.slice none 0 0))
  go_wp2_with fail
  refine bodyPost_ret (v := .tuple #[.agg #[.slice none 0 0], .bool false]) ?_ rfl ⟨_, _, _, false, rfl, ?_, (fun h => by cases h), fun h => absurd h HNO.out⟩
  ·rw [results_cell_tmp rfl]; go_simp
  ·exact HBX.out
 have d1 : decide ((16 : Int) < (n : Int)) = false := by simp; omega
 go_wp2_with fail
 go_loopw [6, 7, 9, 10, 12, 13, 14, 23] (fun _ _ _ _ _ _ _ v wr => ∃ (j : Nat) (lo : List Sv) (AO : Option Addr) (co : Nat), j ≤ n ∧ v = .int .i64 (j : Int) ∧ Hid (lo = l.take j) ∧ Hid (lo.length = j) ∧ Hid (∀ s ∈ lo, SmSv s) ∧ Hid (OwnJ 128 2 svI wr W.heap.size (.slice AO lo.length co) lo) ∧ Hid (Below w.heap.size w wr) ∧ Hid (wr.heap[w.heap.size + 1]? = some (.cells #[.slice none 0 0] 29 (0, 0))) ∧ Hid (wr.heap[w.heap.size + 1 + 1]? = some (.cells #[.slice AO lo.length co] 29 (0, 0)))) (fun _ _ _ _ _ _ _ v _ => n - (intOf v).toNat)
 case atStart => exact ⟨0, [], none, 0, Nat.zero_le _, rfl, Lib.hid (by simp), Lib.hid rfl, Lib.hid (fun l hl => by simp at hl), Lib.hid (OwnJ.nil_ _ _ _ _ _), HBL, H1, H2⟩
 case round =>
  obtain ⟨wo, hwo⟩ : ∃ x, x = wr := ⟨_, rfl⟩
  subst hwo
  obtain ⟨j, lo, AO, co, hj, rfl, HLO, HLL, HSM, HO, HB, HT2, HT4⟩ := hrel
  have hpl : w.heap.size + 1 + 1 < wo.heap.size := heapE_lt HT4.out
  by_cases hjn : j < n
  ·have hd : decide ((j : Int) < (n : Int)) = true := by simp; omega
   have hi : (j : Int) < (n : Int) := by omega
   have hadd : IntKind.i64.wrap ((j : Int) + 1) = ((j + 1 : Nat) : Int) := by rw [IntWalk.i64_in _ (by omega)]; omega
   have hjl : j < l.length := by rw [HLN.out]; exact hjn
   obtain ⟨b1, o1, vs, rfl, hb1x, hb1B, _, hcs, hit⟩ := (HR.out.below sv_turns (HB.out.mono hB)).2 j hjn
   obtain ⟨x, HX⟩ : ∃ x, Hid (l.getD j default = x) := ⟨_, Lib.hid rfl⟩
   rw [HX.out] at hit
   obtain ⟨sn, rls⟩ := x
   obtain ⟨Aj, nj, cj, rfl, _, hitr⟩ := hit.parts
   have k0 := hcs 0 _ rfl
   have k1 := hcs 1 _ rfl
   simp only [Nat.add_zero] at k0 k1
   have HRJ : Hid (RdJ 6 reI wo (fun b => B ≤ b) Aj nj rls) := Lib.hid hitr
   have HNJ : Hid (rls.length = nj) := Lib.hid hitr.1
   clear hitr hcs hit
   have HSVJ : Hid (SmCat l → ∀ r ∈ rls, SmRl r) := Lib.hid (fun h => by
    have h1 := h.2 _ (getD_mem hjl)
    rw [HX.out] at h1
    exact h1.2.2)
   obtain ⟨X, HXX⟩ : ∃ X, Hid (X = (wo.alloc (.cells #[.string sn, .slice Aj nj cj] 89)).alloc (.cells #[.string sn, .slice none 0 0] 128)) := ⟨_, Lib.hid rfl⟩
   have hXs : X.heap.size = wo.heap.size + 2 := by rw [HXX.out]; simp
   have hbx : Below wo.heap.size wo X := by rw [HXX.out]; exact ((Below.refl _ wo).alloc (Nat.le_refl _) _).alloc (by simp) _
   have HX6 : Hid (X.heap[wo.heap.size]? = some (.cells #[.string sn, .slice Aj nj cj] 89 (0, 0))) := Lib.hid (by rw [HXX.out, Below.heap_alloc _ _ _ (by simp)]; exact heap_new wo _)
   have HX7 : Hid (X.heap[wo.heap.size + 1]? = some (.cells #[.string sn, .slice none 0 0] 128 (0, 0))) := Lib.hid (by
    rw [HXX.out]
    have h := heap_alloc_new (wo.alloc (.cells #[.string sn, .slice Aj nj cj] 89)) (.cells #[.string sn, .slice none 0 0] 128)
    rw [World.size_alloc] at h; exact h)
   have HBX := Lib.hid hbx
   have HXS := Lib.hid hXs
   obtain ⟨q0, q1, _, _⟩ := row2 (heap_new wo (.cells #[.string sn, .slice Aj nj cj] 89))
   clear hXs hbx
   go_upto_region 8 with fail
   change Code.wp _ _ _ _ ((wo.alloc (.cells #[.string sn, .slice Aj nj cj] 89)).alloc (.cells #[.string sn, .slice none 0 0] 128))
   rw [← HXX.out]
   clear q0 q1 k0 k1
   obtain ⟨q0, q1, _, _⟩ := row2 HX6.out
   have HT2X : Hid (X.heap[w.heap.size + 1]? = _) := Lib.hid ((HBX.out.block (w.heap.size + 1) (by omega)).trans HT2.out)
   have HT4X : Hid (X.heap[w.heap.size + 1 + 1]? = _) := Lib.hid ((HBX.out.block (w.heap.size + 1 + 1) (by omega)).trans HT4.out)
   have HBWX : Hid (Below w.heap.size w X) := Lib.hid (HB.out.trans (HBX.out.mono (by omega)))
   by_cases hsn : 100 < sn.size
   ·have d2 : decide ((100 : Int) < (sn.size : Int)) = true := by simp; omega
    have HNO : Hid (¬ SmCat l) := Lib.hid (fun h => by
     have h1 := h.2 _ (getD_mem hjl)
     rw [HX.out] at h1
     have h2 := h1.1
     simp only at h2
     omega)
    obtain ⟨u0, uf⟩ := row1f HT2X.out
    obtain ⟨s0, _⟩ := row1f HT4X.out
    have HBX := Lib.hid (HBWX.out.setCell (p := ⟨w.heap.size + 1, 0, none⟩) (by show w.heap.size ≤ w.heap.size + 1; omega) (.slice AO lo.length co))
    go_wp2_with fail
    refine bodyPost_ret (v := .tuple #[.agg #[.slice AO lo.length co], .bool false]) ?_ rfl ⟨_, _, _, .inl ⟨rfl, ?_, HNO.out⟩⟩
    ·rw [results_cell_tmp rfl]; go_simp
    ·exact HBX.out
   have d2 : decide ((100 : Int) < (sn.size : Int)) = false := by simp; omega
   by_cases hnj : 16 < nj
   ·have d3 : decide ((16 : Int) < (nj : Int)) = true := by simp; omega
    have HNO : Hid (¬ SmCat l) := Lib.hid (fun h => by
     have h1 := h.2 _ (getD_mem hjl)
     rw [HX.out] at h1
     have h2 := h1.2.1
     have h3 := HNJ.out
     simp only at h2
     omega)
    obtain ⟨u0, uf⟩ := row1f HT2X.out
    obtain ⟨s0, _⟩ := row1f HT4X.out
    have HBX := Lib.hid (HBWX.out.setCell (p := ⟨w.heap.size + 1, 0, none⟩) (by show w.heap.size ≤ w.heap.size + 1; omega) (.slice AO lo.length co))
    go_wp2_with fail
    refine bodyPost_ret (v := .tuple #[.agg #[.slice AO lo.length co], .bool false]) ?_ rfl ⟨_, _, _, .inl ⟨rfl, ?_, HNO.out⟩⟩
    ·rw [results_cell_tmp rfl]; go_simp
    ·exact HBX.out
   have d3 : decide ((16 : Int) < (nj : Int)) = false := by simp; omega
   go_wp2_with fail
   go_loopw [9, 10, 12, 13, 14, 44] (fun _ _ _ _ _ v wr => ∃ (k : Nat) (lm : List Rl) (AM : Option Addr) (cm : Nat), k ≤ nj ∧ v = .int .i64 (k : Int) ∧ Hid (lm = rls.take k) ∧ Hid (lm.length = k) ∧ Hid (∀ r ∈ lm, SmRl r) ∧ Hid (OwnJ 125 6 reI wr (wo.heap.size + 2) (.slice AM lm.length cm) lm) ∧ Hid (Below wo.heap.size wo wr) ∧ Hid (wr.heap[wo.heap.size + 1]? = some (.cells #[.string sn, .slice AM lm.length cm] 128 (0, 0)))) (fun _ _ _ _ _ v _ => nj - (intOf v).toNat)
   case atStart => exact ⟨0, [], none, 0, Nat.zero_le _, rfl, Lib.hid (by simp), Lib.hid rfl, Lib.hid (fun l hl => by simp at hl), Lib.hid (OwnJ.nil_ _ _ _ _ _), HBX, HX7⟩
   case round =>
    obtain ⟨wm, hwm⟩ : ∃ x, x = wr := ⟨_, rfl⟩
    subst hwm
    obtain ⟨k, lm, AM, cm, hk, rfl, HLM, HKL, HSMM, HOM, HBM, HT7⟩ := hrel
    have hzm := HBM.out.size
    have hpm : wo.heap.size + 1 < wm.heap.size := heapE_lt HT7.out
    have HT2m : Hid (wm.heap[w.heap.size + 1]? = _) := Lib.hid ((HBM.out.block (w.heap.size + 1) (by omega)).trans HT2.out)
    have HT4m : Hid (wm.heap[w.heap.size + 1 + 1]? = _) := Lib.hid ((HBM.out.block (w.heap.size + 1 + 1) (by omega)).trans HT4.out)
    have HBWm : Hid (Below w.heap.size w wm) := Lib.hid (HB.out.trans (HBM.out.mono (by omega)))
    clear q0 q1
    by_cases hkn : k < nj
    ·have hd2 : decide ((k : Int) < (nj : Int)) = true := by simp; omega
     have hi2 : (k : Int) < (nj : Int) := by omega
     have hadd2 : IntKind.i64.wrap ((k : Int) + 1) = ((k + 1 : Nat) : Int) := by rw [IntWalk.i64_in _ (by omega)]; omega
     have hkl : k < rls.length := by rw [HNJ.out]; exact hkn
     obtain ⟨b2, o2, vs2, rfl, hb2x, hb2B, _, hcs, hit⟩ := (HRJ.out.below re_turns (HBM.out.mono (by omega))).2 k hkn
     obtain ⟨x, HX⟩ : ∃ x, Hid (rls.getD k default = x) := ⟨_, Lib.hid rfl⟩
     rw [HX.out] at hit
     obtain ⟨⟨va, vb, vc, vs1⟩, lv, nds⟩ := x
     obtain ⟨Ak, nk, ck, rfl, hitr⟩ := hit.parts
     have hitr : RdJ 2 pnI wm (fun b => B ≤ b) Ak nk nds := hitr.rd.2
     have k0 := hcs 0 _ rfl
     have k1 := hcs 1 _ rfl
     have k2 := hcs 2 _ rfl
     have k3 := hcs 3 _ rfl
     have k4 := hcs 4 _ rfl
     have k5 := hcs 5 _ rfl
     simp only [Nat.add_zero] at k0 k1 k2 k3 k4 k5
     have HRK := Lib.hid hitr
     have HNK : Hid (nds.length = nk) := Lib.hid hitr.1
     clear hitr hcs hit
     have HRLK : Hid (SmCat l → ∀ p ∈ nds, SmR p.2) := Lib.hid (fun h => by
      have h1 := HSVJ.out h _ (getD_mem hkl)
      rw [HX.out] at h1
      exact h1.2.2)
     obtain ⟨Y, HYY⟩ : ∃ Y, Hid (Y = (wm.alloc (.cells #[.int .i64 va, .int .i64 vb, .int .i64 vc, .string vs1, .int .i64 lv, .slice Ak nk ck] 86)).alloc (.cells #[.int .i64 va, .int .i64 vb, .int .i64 vc, .string vs1, .int .i64 lv, .slice none 0 0] 125)) := ⟨_, Lib.hid rfl⟩
     have hYs : Y.heap.size = wm.heap.size + 2 := by rw [HYY.out]; simp
     have hby : Below wm.heap.size wm Y := by rw [HYY.out]; exact ((Below.refl _ wm).alloc (Nat.le_refl _) _).alloc (by simp) _
     have HY9 : Hid (Y.heap[wm.heap.size]? = some (.cells #[.int .i64 va, .int .i64 vb, .int .i64 vc, .string vs1, .int .i64 lv, .slice Ak nk ck] 86 (0, 0))) := Lib.hid (by rw [HYY.out, Below.heap_alloc _ _ _ (by simp)]; exact heap_new wm _)
     have HY10 : Hid (Y.heap[wm.heap.size + 1]? = some (.cells #[.int .i64 va, .int .i64 vb, .int .i64 vc, .string vs1, .int .i64 lv, .slice none 0 0] 125 (0, 0))) := Lib.hid (by
      rw [HYY.out]
      have h := heap_alloc_new (wm.alloc (.cells #[.int .i64 va, .int .i64 vb, .int .i64 vc, .string vs1, .int .i64 lv, .slice Ak nk ck] 86)) (.cells #[.int .i64 va, .int .i64 vb, .int .i64 vc, .string vs1, .int .i64 lv, .slice none 0 0] 125)
      rw [World.size_alloc] at h; exact h)
     have HBY := Lib.hid hby
     have HYS := Lib.hid hYs
     obtain ⟨q0, q1, q2, q3, q4, q5, _⟩ := r6_cells (heap_new wm (.cells #[.int .i64 va, .int .i64 vb, .int .i64 vc, .string vs1, .int .i64 lv, .slice Ak nk ck] 86))
     clear hYs hby
     go_upto_region 14 with fail
     change Code.wp _ _ _ _ ((wm.alloc (.cells #[.int .i64 va, .int .i64 vb, .int .i64 vc, .string vs1, .int .i64 lv, .slice Ak nk ck] 86)).alloc (.cells #[.int .i64 va, .int .i64 vb, .int .i64 vc, .string vs1, .int .i64 lv, .slice none 0 0] 125))
     rw [← HYY.out]
     clear q0 q1 q2 q3 q4 q5 k0 k1 k2 k3 k4 k5
     obtain ⟨q0, q1, q2, q3, q4, q5, _⟩ := r6_cells HY9.out
     have HT2Y : Hid (Y.heap[w.heap.size + 1]? = _) := Lib.hid ((HBY.out.block (w.heap.size + 1) (by omega)).trans HT2m.out)
     have HT4Y : Hid (Y.heap[w.heap.size + 1 + 1]? = _) := Lib.hid ((HBY.out.block (w.heap.size + 1 + 1) (by omega)).trans HT4m.out)
     have HBWY : Hid (Below w.heap.size w Y) := Lib.hid (HBWm.out.trans (HBY.out.mono (by omega)))
     by_cases hnk : 12 < nk
     ·have d4 : decide ((12 : Int) < (nk : Int)) = true := by simp; omega
      have HNO : Hid (¬ SmCat l) := Lib.hid (fun h => by
       have h1 := HSVJ.out h _ (getD_mem hkl)
       rw [HX.out] at h1
       have h2 := h1.1
       have h3 := HNK.out
       simp only at h2
       omega)
      obtain ⟨u0, uf⟩ := row1f HT2Y.out
      obtain ⟨s0, _⟩ := row1f HT4Y.out
      have HBX := Lib.hid (HBWY.out.setCell (p := ⟨w.heap.size + 1, 0, none⟩) (by show w.heap.size ≤ w.heap.size + 1; omega) (.slice AO lo.length co))
      go_wp2_with fail
      refine bodyPost_ret (v := .tuple #[.agg #[.slice AO lo.length co], .bool false]) ?_ rfl ⟨_, _, _, .inl ⟨rfl, ?_, HNO.out⟩⟩
      ·rw [results_cell_tmp rfl]; go_simp
      ·exact HBX.out
     have d4 : decide ((12 : Int) < (nk : Int)) = false := by simp; omega
     by_cases hvs : 100 < vs1.size
     ·have d5 : decide ((100 : Int) < (vs1.size : Int)) = true := by simp; omega
      have HNO : Hid (¬ SmCat l) := Lib.hid (fun h => by
       have h1 := HSVJ.out h _ (getD_mem hkl)
       rw [HX.out] at h1
       have h2 := h1.2.1
       simp only at h2
       omega)
      obtain ⟨u0, uf⟩ := row1f HT2Y.out
      obtain ⟨s0, _⟩ := row1f HT4Y.out
      have HBX := Lib.hid (HBWY.out.setCell (p := ⟨w.heap.size + 1, 0, none⟩) (by show w.heap.size ≤ w.heap.size + 1; omega) (.slice AO lo.length co))
      go_wp2_with fail
      refine bodyPost_ret (v := .tuple #[.agg #[.slice AO lo.length co], .bool false]) ?_ rfl ⟨_, _, _, .inl ⟨rfl, ?_, HNO.out⟩⟩
      ·rw [results_cell_tmp rfl]; go_simp
      ·exact HBX.out
     have d5 : decide ((100 : Int) < (vs1.size : Int)) = false := by simp; omega
     go_wp2_with fail
     go_loopw [12, 13, 14, 68] (fun _ _ _ v wr => ∃ (i : Nat) (li : List Nd) (AI : Option Addr) (ci : Nat), i ≤ nk ∧ v = .int .i64 (i : Int) ∧ Hid (li = nds.take i) ∧ Hid (li.length = i) ∧ Hid (∀ p ∈ li, SmR p.2) ∧ Hid (OwnJ 148 2 pnI wr (wm.heap.size + 2) (.slice AI li.length ci) li) ∧ Hid (Below wm.heap.size wm wr) ∧ Hid (wr.heap[wm.heap.size + 1]? = some (.cells #[.int .i64 va, .int .i64 vb, .int .i64 vc, .string vs1, .int .i64 lv, .slice AI li.length ci] 125 (0, 0)))) (fun _ _ _ v _ => nk - (intOf v).toNat)
     case atStart => exact ⟨0, [], none, 0, Nat.zero_le _, rfl, Lib.hid (by simp), Lib.hid rfl, Lib.hid (fun l hl => by simp at hl), Lib.hid (OwnJ.nil_ _ _ _ _ _), HBY, HY10⟩
     case round =>
      obtain ⟨wi, hwi⟩ : ∃ x, x = wr := ⟨_, rfl⟩
      subst hwi
      obtain ⟨i, li, AI, ci, hii, rfl, HLI, HIL, HSI, HOI, HBI, HT10⟩ := hrel
      have hzi := HBI.out.size
      have hpi : wm.heap.size + 1 < wi.heap.size := heapE_lt HT10.out
      have HT2i : Hid (wi.heap[w.heap.size + 1]? = _) := Lib.hid ((HBI.out.block (w.heap.size + 1) (by omega)).trans HT2m.out)
      have HT4i : Hid (wi.heap[w.heap.size + 1 + 1]? = _) := Lib.hid ((HBI.out.block (w.heap.size + 1 + 1) (by omega)).trans HT4m.out)
      have HT7i : Hid (wi.heap[wo.heap.size + 1]? = _) := Lib.hid ((HBI.out.block (wo.heap.size + 1) (by omega)).trans HT7.out)
      have HBWi : Hid (Below w.heap.size w wi) := Lib.hid (HBWm.out.trans (HBI.out.mono (by omega)))
      clear q0 q1 q2 q3 q4 q5
      by_cases hin : i < nk
      ·have hd3 : decide ((i : Int) < (nk : Int)) = true := by simp; omega
       have hi3 : (i : Int) < (nk : Int) := by omega
       have hadd3 : IntKind.i64.wrap ((i : Int) + 1) = ((i + 1 : Nat) : Int) := by rw [IntWalk.i64_in _ (by omega)]; omega
       have hil : i < nds.length := by rw [HNK.out]; exact hin
       obtain ⟨b3, o3, As, ns, cs, rfl, hb3B, k0, k1, _, k2⟩ := nd_at (RdJ.below pn_turns HRK.out (HBI.out.mono (by omega))) hin
       obtain ⟨x, HXN⟩ : ∃ x, Hid (pnAt nds i = x) := ⟨_, Lib.hid rfl⟩
       rw [HXN.out] at k0 k2
       obtain ⟨sv, rg⟩ := x
       simp only at k0 k2
       obtain ⟨P, HPP⟩ : ∃ P, Hid (P = wi.alloc (.cells #[.int .i64 sv, .slice As ns cs] 99)) := ⟨_, Lib.hid rfl⟩
       have hPs : P.heap.size = wi.heap.size + 1 := by rw [HPP.out]; simp
       have hP0 : P.heap[wi.heap.size]? = some (.cells #[.int .i64 sv, .slice As ns cs] 99 (0, 0)) := by rw [HPP.out]; exact heap_new wi _
       have hbp : Below wi.heap.size wi P := by rw [HPP.out]; exact (Below.refl _ wi).alloc (Nat.le_refl _) _
       have HRG : Hid (RdR P B As ns rg) := Lib.hid (k2.below (hbp.mono (by omega)))
       have HM := Lib.hid (rangeM_all (c := cs) HRG.out (by omega))
       have HP0 := Lib.hid hP0
       have HPS := Lib.hid hPs
       have HBP1 := Lib.hid hbp
       obtain ⟨x0, x1, _, _⟩ := row2 hP0
       clear k2 hP0 hPs hbp
       go_upto_region 19 with fail
       change Code.wp _ _ _ _ (wi.alloc (.cells #[.int .i64 sv, .slice As ns cs] 99))
       rw [← HPP.out]
       go_wp2_with fail
       refine HM.out.mono ?_
       rintro en z1 ⟨A', n', c', ok, rfl, hb1, hit, hyes⟩
       have HNOI : Hid (SmCat l → ok = true) := Lib.hid (fun h => hyes (by
        have h1 := HRLK.out h _ (pnAt_mem hil)
        rw [HXN.out] at h1
        exact h1))
       clear hyes
       have HB1 : Hid (Below wi.heap.size wi z1) := Lib.hid (HBP1.out.trans (hb1.mono (by have := HPS.out; omega)))
       have hz1 := HB1.out.size
       have KP : Hid (z1.heap[wi.heap.size]? = _) := Lib.hid ((hb1.block wi.heap.size (by have := HPS.out; omega)).trans HP0.out)
       obtain ⟨Q, HQ⟩ : ∃ Q, Hid (Q = z1.alloc (.cells #[.slice A' n' c'] 144)) := ⟨_, Lib.hid rfl⟩
       have hQs : Q.heap.size = z1.heap.size + 1 := by rw [HQ.out]; simp
       have hbQ : Below z1.heap.size z1 Q := by rw [HQ.out]; exact (Below.refl _ z1).alloc (Nat.le_refl _) _
       have hQ0 : Q.heap[z1.heap.size]? = some (.cells #[.slice A' n' c'] 144 (0, 0)) := by rw [HQ.out]; exact heap_new z1 _
       have hzp : wi.heap.size < z1.heap.size := heapE_lt KP.out
       have hbiQ : Below wi.heap.size wi Q := HB1.out.trans (hbQ.mono hz1)
       have HT2q : Hid (Q.heap[w.heap.size + 1]? = _) := Lib.hid ((hbiQ.block (w.heap.size + 1) (by omega)).trans HT2i.out)
       have HT4q : Hid (Q.heap[w.heap.size + 1 + 1]? = _) := Lib.hid ((hbiQ.block (w.heap.size + 1 + 1) (by omega)).trans HT4i.out)
       have HT10q : Hid (Q.heap[wm.heap.size + 1]? = _) := Lib.hid ((hbiQ.block (wm.heap.size + 1) hpi).trans HT10.out)
       have KPQ : Hid (Q.heap[wi.heap.size]? = _) := Lib.hid ((hbQ.block wi.heap.size hzp).trans KP.out)
       have HBWq : Hid (Below w.heap.size w Q) := Lib.hid (HBWi.out.trans (hbiQ.mono (by omega)))
       have HBMq : Hid (Below wm.heap.size wm Q) := Lib.hid (HBI.out.trans (hbiQ.mono hzi))
       have HOQ : Hid (OwnJ 148 2 pnI Q (wm.heap.size + 2) (.slice AI li.length ci) li) := Lib.hid (HOI.out.kept pn_turns hbiQ)
       have HITQ : Hid (ok = true → SmR rg ∧ rgI Q (fun b => b < wi.heap.size + 1) [.slice A' n' c'] rg) := Lib.hid (fun h => ⟨(hit h).1, rg_turns.kept (by have := (hit h).2; rw [HPS.out] at this; exact this) hbQ⟩)
       have HQS := Lib.hid hQs
       have HQ0 := Lib.hid hQ0
       clear hb1 hit HM x0 x1 hbQ hQ0 hQs k0 k1 hbiQ
       go_upto_region 20 with fail
       change Code.wp _ _ _ _ (z1.alloc (.cells #[.slice A' n' c'] 144))
       rw [← HQ.out]
       cases ok with
       | false =>
        have HNO : Hid (¬ SmCat l) := Lib.hid (fun h => by have := HNOI.out h; cases this)
        clear HNOI
        obtain ⟨u0, uf⟩ := row1f HT2q.out
        obtain ⟨s0, _⟩ := row1f HT4q.out
        have HBX := Lib.hid (HBWq.out.setCell (p := ⟨w.heap.size + 1, 0, none⟩) (by show w.heap.size ≤ w.heap.size + 1; omega) (.slice AO lo.length co))
        go_wp2_with fail
        refine bodyPost_ret (v := .tuple #[.agg #[.slice AO lo.length co], .bool false]) ?_ rfl ⟨_, _, _, false, rfl, ?_, (fun h => by cases h), fun h => absurd h HNO.out⟩
        ·rw [results_cell_tmp rfl]; go_simp
        ·exact HBX.out
       | true =>
        obtain ⟨HSR, hrgi⟩ := HITQ.out rfl
        obtain ⟨_, _, _, _, _, t5, tf⟩ := r6_cells HT10q.out
        have tf5 := tf 5
        obtain ⟨s0, s1, _, _⟩ := row2 KPQ.out
        obtain ⟨r0, _⟩ := row1f HQ0.out
        have HD := Lib.hid (cells_of (heap_new Q (.cells #[.int .i64 sv, .slice A' n' c'] 148)))
        have HAP : Hid (pnI (Q.alloc (.cells #[.int .i64 sv, .slice A' n' c'] 148)) (Ap (wm.heap.size + 2) (.slice AI li.length ci)) [.int .i64 sv, .slice A' n' c'] (sv, rg)) := Lib.hid ⟨[.int .i64 sv], [.slice A' n' c'], rfl, rfl, rg_turns.go hrgi (FrM.of_grown (row := none) (grown_alloc1 Q _ none) (fun g hg => by cases hg)) (fun b hb => .inl (by
         rcases hb with hb | hb
         ·have := (HOI.out.ge b hb).2; show b < _; omega
         ·show b < _; omega))⟩
        have HSRR := Lib.hid HSR
        clear HSR hrgi tf
        go_wp2_with (at_builtin; refine wplJ_app pn_turns Tryz.underlying123 infoMNd rfl (by decide) (by decide) rfl (.tmp 82) (.tmp 87) rfl (wm.heap.size + 2) (.slice AI li.length ci) li rfl (HOQ.out.alloc pn_turns _) Q.heap.size [.int .i64 sv, .slice A' n' c'] (sv, rg) rfl rfl HD.out (by intro u hu; simp at hu; rcases hu with rfl | rfl <;> rfl) HAP.out (by have := HIL.out; omega) (by have := HQS.out; simp; omega) ?_; intro g c3 w5 hown5 hgr5; (have hz5 : Q.heap.size + 1 ≤ w5.heap.size := by (have := hgr5.size); rw [World.size_alloc] at this; exact this); (have hge5 := fun g hg => (HOQ.out.ge g hg).1); (have k3 : w5.heap[wm.heap.size + 1]? = _ := (hgr5.block (wm.heap.size + 1) (by have := HQS.out; simp; omega) (fun e => by have := hge5 _ e.symm; omega)).trans ((Below.heap_alloc Q _ (wm.heap.size + 1) (by have := HQS.out; omega)).trans HT10q.out)); (obtain ⟨_, _, _, _, _, b5, bf⟩ := r6_cells k3); (have bf5 := bf 5))
        have hqs := HQS.out
        have K3 : Hid ((w5.setCell ⟨wm.heap.size + 1, 5, none⟩ (.slice (some ⟨g, 0, none⟩) (li.length + 1) c3)).heap[wm.heap.size + 1]? = _) := Lib.hid (heap_setCell_same w5 (wm.heap.size + 1) 5 _ _ (.slice (some ⟨g, 0, none⟩) (li.length + 1) c3) k3)
        have hgs := grown_set w5 (wm.heap.size + 1) 5 (.slice (some ⟨g, 0, none⟩) (li.length + 1) c3)
        have HO5 := Lib.hid (OwnJ.turn pn_turns hown5 hgs (fun g hg => by injection hg with hg; omega))
        have HB5 : Hid (Below wm.heap.size wm (w5.setCell ⟨wm.heap.size + 1, 5, none⟩ (.slice (some ⟨g, 0, none⟩) (li.length + 1) c3))) := Lib.hid ((((HBMq.out.alloc (by omega) _).grown hgr5 (by simp; omega) (fun g hg => by have := hge5 g hg; omega))).setCell (p := ⟨wm.heap.size + 1, 5, none⟩) (by show wm.heap.size ≤ wm.heap.size + 1; omega) _)
        have HS5 : Hid (∀ p ∈ li ++ [(sv, rg)], SmR p.2) := Lib.hid (fun p hp => by
         rcases List.mem_append.1 hp with h | h
         ·exact HSI.out p h
         ·simp at h; subst h; exact HSRR.out)
        clear k3 hgs hown5 hgr5 t5 tf5 s0 s1 r0 hqs bf
        go_wp2_with fail
        go_roundw
        case rel => exact ⟨i + 1, li ++ [(sv, rg)], some ⟨g, 0, none⟩, c3, by omega, by go_num, Lib.hid (by rw [take_pn nds i hil, HXN.out, HLI.out]), Lib.hid (by rw [List.length_append, HIL.out]; rfl), HS5, by rw [List.length_append]; exact HO5, HB5, by rw [List.length_append]; exact K3⟩
        case measure => simp [intOf]; omega
      ·have hd3 : decide ((i : Int) < (nk : Int)) = false := by simp; omega
       obtain rfl : i = nk := by omega
       have hli : li = nds := by rw [HLI.out]; exact List.take_of_length_le (by rw [HNK.out]; exact Nat.le_refl _)
       subst hli
       obtain ⟨_, t1, _, tf1⟩ := row2 HT7i.out
       obtain ⟨q0, q1, q2, q3, q4, q5, _⟩ := r6_cells HT10.out
       have HOO : Hid (OwnJ 125 6 reI wi (wo.heap.size + 2) (.slice AM lm.length cm) lm) := Lib.hid (HOM.out.kept re_turns HBI.out)
       have HD := Lib.hid (cells_of (heap_new wi (.cells #[.int .i64 va, .int .i64 vb, .int .i64 vc, .string vs1, .int .i64 lv, .slice AI li.length ci] 125)))
       have HAP : Hid (reI (wi.alloc (.cells #[.int .i64 va, .int .i64 vb, .int .i64 vc, .string vs1, .int .i64 lv, .slice AI li.length ci] 125)) (Ap (wo.heap.size + 2) (.slice AM lm.length cm)) [.int .i64 va, .int .i64 vb, .int .i64 vc, .string vs1, .int .i64 lv, .slice AI li.length ci] ((va, vb, vc, vs1), lv, li)) := Lib.hid ⟨[.int .i64 va, .int .i64 vb, .int .i64 vc, .string vs1], [.int .i64 lv, .slice AI li.length ci], rfl, rfl, [.int .i64 lv], [.slice AI li.length ci], rfl, rfl, ps_turns.go (HOI.out.item (M := fun b => b < wm.heap.size + 2) pn_turns (fun b hb => .inl hb)) (FrM.of_grown (row := none) (grown_alloc1 wi _ none) (fun g hg => by cases hg)) (fun b hb => .inl (by
        rcases hb with hb | hb
        ·have := (HOM.out.ge b hb).2; show b < _; omega
        ·show b < _; omega))⟩
       go_wp2_with (at_builtin; refine wplJ_app re_turns Tryz.underlying126 infoMRl rfl (by decide) (by decide) rfl (.tmp 92) (.tmp 94) rfl (wo.heap.size + 2) (.slice AM lm.length cm) lm rfl (HOO.out.alloc re_turns _) wi.heap.size [.int .i64 va, .int .i64 vb, .int .i64 vc, .string vs1, .int .i64 lv, .slice AI li.length ci] ((va, vb, vc, vs1), lv, li) rfl rfl HD.out (by intro u hu; simp at hu; rcases hu with rfl | rfl | rfl | rfl | rfl | rfl <;> rfl) HAP.out (by have := HKL.out; omega) (by simp; omega) ?_; intro g c3 w5 hown5 hgr5; (have hz5 : wi.heap.size + 1 ≤ w5.heap.size := by (have := hgr5.size); rw [World.size_alloc] at this; exact this); (have hge5 := fun g hg => (HOO.out.ge g hg).1); (have k3 : w5.heap[wo.heap.size + 1]? = _ := (hgr5.block (wo.heap.size + 1) (by simp; omega) (fun e => by have := hge5 _ e.symm; omega)).trans ((Below.heap_alloc wi _ (wo.heap.size + 1) (show wo.heap.size + 1 < wi.heap.size by omega)).trans HT7i.out)); (obtain ⟨b0, b1', _, bf1⟩ := row2 k3))
       have K3 : Hid ((w5.setCell ⟨wo.heap.size + 1, 1, none⟩ (.slice (some ⟨g, 0, none⟩) (lm.length + 1) c3)).heap[wo.heap.size + 1]? = _) := Lib.hid (heap_setCell_same w5 (wo.heap.size + 1) 1 _ _ (.slice (some ⟨g, 0, none⟩) (lm.length + 1) c3) k3)
       have hgs := grown_set w5 (wo.heap.size + 1) 1 (.slice (some ⟨g, 0, none⟩) (lm.length + 1) c3)
       have HO5 := Lib.hid (OwnJ.turn re_turns hown5 hgs (fun g hg => by injection hg with hg; omega))
       have HB5 : Hid (Below wo.heap.size wo (w5.setCell ⟨wo.heap.size + 1, 1, none⟩ (.slice (some ⟨g, 0, none⟩) (lm.length + 1) c3))) := Lib.hid ((((HBM.out.trans (HBI.out.mono hzm)).alloc (by omega) _).grown hgr5 (by simp; omega) (fun g hg => by have := hge5 g hg; omega)).setCell (p := ⟨wo.heap.size + 1, 1, none⟩) (by show wo.heap.size ≤ wo.heap.size + 1; omega) _)
       have HS5 : Hid (∀ r ∈ lm ++ [((va, vb, vc, vs1), lv, li)], SmRl r) := Lib.hid (fun r hr => by
        rcases List.mem_append.1 hr with h | h
        ·exact HSMM.out r h
        ·simp at h; subst h; exact ⟨by show li.length ≤ 12; have := HIL.out; omega, by show vs1.size ≤ 100; omega, HSI.out⟩)
       clear k3 hgs hown5 hgr5 t1 tf1 q0 q1 q2 q3 q4 q5
       go_wp2_with fail
       go_roundw
       case rel => exact ⟨k + 1, lm ++ [((va, vb, vc, vs1), lv, li)], some ⟨g, 0, none⟩, c3, by omega, by go_num, Lib.hid (by rw [take_d rls k hkl, HX.out, HLM.out]), Lib.hid (by rw [List.length_append, HKL.out]; rfl), HS5, by rw [List.length_append]; exact HO5, HB5, by rw [List.length_append]; exact K3⟩
       case measure => simp [intOf]; omega
    ·have hd2 : decide ((k : Int) < (nj : Int)) = false := by simp; omega
     obtain rfl : k = nj := by omega
     have hlm : lm = rls := by rw [HLM.out]; exact List.take_of_length_le (by rw [HNJ.out]; exact Nat.le_refl _)
     subst hlm
     obtain ⟨t0, _⟩ := row1f HT4m.out
     obtain ⟨q0, q1, _, _⟩ := row2 HT7.out
     have HOO : Hid (OwnJ 128 2 svI wm W.heap.size (.slice AO lo.length co) lo) := Lib.hid (HO.out.kept sv_turns HBM.out)
     have HD := Lib.hid (cells_of (heap_new wm (.cells #[.string sn, .slice AM lm.length cm] 128)))
     have HAP : Hid (svI (wm.alloc (.cells #[.string sn, .slice AM lm.length cm] 128)) (Ap W.heap.size (.slice AO lo.length co)) [.string sn, .slice AM lm.length cm] (sn, lm)) := Lib.hid ⟨[.string sn], [.slice AM lm.length cm], rfl, rfl, rs_turns.go (HOM.out.item (M := fun b => b < wo.heap.size + 2) re_turns (fun b hb => .inl hb)) (FrM.of_grown (row := none) (grown_alloc1 wm _ none) (fun g hg => by cases hg)) (fun b hb => .inl (by
      rcases hb with hb | hb
      ·have := (HO.out.ge b hb).2; show b < _; omega
      ·show b < _; omega))⟩
     go_wp2_with (at_builtin; refine wplJ_app sv_turns Tryz.underlying27 infoMSv rfl (by decide) (by decide) rfl (.tmp 99) (.tmp 101) rfl W.heap.size (.slice AO lo.length co) lo rfl (HOO.out.alloc sv_turns _) wm.heap.size [.string sn, .slice AM lm.length cm] (sn, lm) rfl rfl HD.out (by intro u hu; simp at hu; rcases hu with rfl | rfl <;> rfl) HAP.out (by have := HLL.out; omega) (by simp; omega) ?_; intro g c3 w5 hown5 hgr5; (have hz5 : wm.heap.size + 1 ≤ w5.heap.size := by (have := hgr5.size); rw [World.size_alloc] at this; exact this); (have hge5 := fun g hg => (HOO.out.ge g hg).1); (have k3 : w5.heap[w.heap.size + 1 + 1]? = _ := (hgr5.block (w.heap.size + 1 + 1) (by simp; omega) (fun e => by have := hge5 _ e.symm; omega)).trans ((Below.heap_alloc wm _ (w.heap.size + 1 + 1) (show w.heap.size + 1 + 1 < wm.heap.size by omega)).trans HT4m.out)); (have k2 : w5.heap[w.heap.size + 1]? = _ := (hgr5.block (w.heap.size + 1) (by simp; omega) (fun e => by have := hge5 _ e.symm; omega)).trans ((Below.heap_alloc wm _ (w.heap.size + 1) (show w.heap.size + 1 < wm.heap.size by omega)).trans HT2m.out)); (obtain ⟨b0, bf⟩ := row1f k3))
     have K3 : Hid ((w5.setCell ⟨w.heap.size + 1 + 1, 0, none⟩ (.slice (some ⟨g, 0, none⟩) (lo.length + 1) c3)).heap[w.heap.size + 1 + 1]? = _) := Lib.hid (heap_setCell_same w5 (w.heap.size + 1 + 1) 0 _ _ (.slice (some ⟨g, 0, none⟩) (lo.length + 1) c3) k3)
     have hgs := grown_set w5 (w.heap.size + 1 + 1) 0 (.slice (some ⟨g, 0, none⟩) (lo.length + 1) c3)
     have K2 := Lib.hid ((hgs.block (w.heap.size + 1) (by omega) (fun e => by injection e with e; omega)).trans k2)
     have HO5 := Lib.hid (OwnJ.turn sv_turns hown5 hgs (fun g hg => by injection hg with hg; omega))
     have HB5 : Hid (Below w.heap.size w (w5.setCell ⟨w.heap.size + 1 + 1, 0, none⟩ (.slice (some ⟨g, 0, none⟩) (lo.length + 1) c3))) := Lib.hid ((((HBWm.out.alloc (by omega) _).grown hgr5 (by simp; omega) (fun g hg => by have := hge5 g hg; omega))).setCell (p := ⟨w.heap.size + 1 + 1, 0, none⟩) (by show w.heap.size ≤ w.heap.size + 1 + 1; omega) _)
     have HS5 : Hid (∀ s ∈ lo ++ [(sn, lm)], SmSv s) := Lib.hid (fun s hs => by
      rcases List.mem_append.1 hs with h | h
      ·exact HSM.out s h
      ·simp at h; subst h; exact ⟨by show sn.size ≤ 100; omega, by show lm.length ≤ 16; have := HKL.out; omega, HSMM.out⟩)
     clear k3 k2 hgs hown5 hgr5 t0 q0 q1
     go_wp2_with fail
     go_roundw
     case rel => exact ⟨j + 1, lo ++ [(sn, lm)], some ⟨g, 0, none⟩, c3, by omega, by go_num, Lib.hid (by rw [take_d l j hjl, HX.out, HLO.out]), Lib.hid (by rw [List.length_append, HLL.out]; rfl), HS5, by rw [List.length_append]; exact HO5, HB5, K2, by rw [List.length_append]; exact K3⟩
     case measure => simp [intOf]; omega
  ·have hd : decide ((j : Int) < (n : Int)) = false := by simp; omega
   obtain rfl : j = n := by omega
   have hlo : lo = l := by rw [HLO.out]; exact List.take_of_length_le (by rw [HLN.out]; exact Nat.le_refl _)
   subst hlo
   obtain ⟨u0, uf⟩ := row1f HT2.out
   obtain ⟨s0, _⟩ := row1f HT4.out
   have hgs := grown_set wo (w.heap.size + 1) 0 (.slice AO lo.length co)
   have HIT : Hid (ssI (wo.setCell ⟨w.heap.size + 1, 0, none⟩ (.slice AO lo.length co)) (fun b => b < w.heap.size) [.slice AO lo.length co] lo) := Lib.hid (ss_turns.go (HO.out.item (M := fun b => b < W.heap.size) sv_turns (fun b hb => .inl hb)) (FrM.of_grown hgs (fun g hg => by injection hg with hg; subst hg; show _ < _; omega)) (fun b (hb : b < w.heap.size) => .inl (by show b < _; omega)))
   have HBX := Lib.hid (HB.out.setCell (p := ⟨w.heap.size + 1, 0, none⟩) (by show w.heap.size ≤ w.heap.size + 1; omega) (.slice AO lo.length co))
   have HSR : Hid (SmCat lo) := Lib.hid ⟨by have := HLN.out; omega, HSM.out⟩
   clear hgs
   go_wp2_with fail
   refine bodyPost_ret (v := .tuple #[.agg #[.slice AO lo.length co], .bool true]) ?_ rfl ⟨_, _, _, true, rfl, HBX.out, (fun _ => ⟨HSR.out, HIT.out⟩), fun _ => rfl⟩
   rw [results_cell_tmp rfl]; go_simp
theorem catM_any {w : World} {B n c : Nat} {A : Option Addr} {l : List Sv} (hr : RdJ 2 svI w (fun b => B ≤ b) A n l) (hB : B ≤ w.heap.size) :
  Calls Tryz.prog 38 #[.agg #[.slice A n c]] w fun en w' => ∃ A' n' c' ok, en = .returned (.tuple #[.agg #[.slice A' n' c'], .bool ok]) ∧ Below w.heap.size w w' ∧ (ok = true → SmCat l ∧ ssI w' (fun b => b < w.heap.size) [.slice A' n' c'] l) := by
 refine (catM_all hr hB).mono ?_
 rintro en w' ⟨A', n', c', ok, h1, h2, h3, _⟩
 exact ⟨A', n', c', ok, h1, h2, h3⟩
end Go.Proofs.YtminihiecloglaaGreat
namespace Go.Proofs.YtminihiecloglaaGreat
open Go.RowKit
open SemP DiP
set_option maxRecDepth 10000
set_option maxHeartbeats 8000000 in
theorem right_any {w : World} {B n c : Nat} {A : Option Addr} {l : List Sv} (hr : RdJ 2 svI w (fun b => B ≤ b) A n l) (hB : B ≤ w.heap.size) (hm : LenAt w) (h1 : 1 < w.heap.size) :
  Calls Tryz.prog 12 #[.agg #[.slice A n c]] w fun en w' => ∃ A' n' c' ok, en = .returned (.tuple #[.agg #[.slice A' n' c'], .bool ok]) ∧ Below w.heap.size w w' ∧ (ok = true → (chkC l).2.2 = 0 ∧ SmCat l ∧ ssI w' (fun b => b < w.heap.size) [.slice A' n' c'] l) := by
 obtain ⟨W, HW⟩ : ∃ W, Hid (W = (w.alloc (.cells #[.slice A n c] 24)).alloc (.cells #[.slice none 0 0] 29)) := ⟨_, Lib.hid rfl⟩
 have hbW : Below w.heap.size w W := by rw [HW.out]; exact ((Below.refl _ w).alloc (Nat.le_refl _) _).alloc (by simp) _
 have hz : W.heap.size = w.heap.size + 2 := by rw [HW.out]; simp
 have h0 : W.heap[w.heap.size]? = some (.cells #[.slice A n c] 24 (0, 0)) := by
  rw [HW.out, Below.heap_alloc _ _ _ (by simp)]; exact heap_new w _
 have hh1 : W.heap[w.heap.size + 1]? = some (.cells #[.slice none 0 0] 29 (0, 0)) := by
  rw [HW.out]
  have h := heap_new (w.alloc (.cells #[.slice A n c] 24)) (.cells #[.slice none 0 0] 29)
  rw [World.size_alloc] at h; exact h
 have HBW := Lib.hid hbW
 have H0 := Lib.hid h0
 have H1 := Lib.hid hh1
 have HZ := Lib.hid hz
 have HLW := Lib.hid (LenAt.below hm h1 hbW)
 have HMC := Lib.hid (catM_any (c := c) (RdJ.below' sv_turns hr hB hbW) (Nat.le_trans hB hbW.size))
 clear hr hm h1 hbW h0 hh1 hz
 obtain ⟨x0, _⟩ := row1f H0.out
 go_enter Tryz.func12, Tryz.ntmps12
 go_upto_region 1 with fail
 change Code.wp _ _ _ _ ((w.alloc (.cells #[.slice A n c] 24)).alloc (.cells #[.slice none 0 0] 29))
 rw [← HW.out]
 go_wp2_with fail
 refine HMC.out.mono ?_
 rintro e z1 ⟨A', n', c', ok, rfl, hb, hit⟩
 have hsz1 := hb.size
 obtain ⟨W2, HW2⟩ : ∃ W2, Hid (W2 = z1.alloc (.cells #[.slice A' n' c'] 29)) := ⟨_, Lib.hid rfl⟩
 have hb2 : Below z1.heap.size z1 W2 := by rw [HW2.out]; exact (Below.refl _ z1).alloc (Nat.le_refl _) _
 have J2 : Hid (W2.heap[z1.heap.size]? = some (.cells #[.slice A' n' c'] 29 (0, 0))) := Lib.hid (by rw [HW2.out]; exact heap_new z1 _)
 have hb12 : Below W.heap.size W W2 := hb.trans (hb2.mono hb.size)
 have HB2 : Hid (Below w.heap.size w W2) := Lib.hid (HBW.out.trans (hb12.mono HBW.out.size))
 have HL2 := Lib.hid (LenAt.below HLW.out.1 HLW.out.2 hb12)
 have K1 : Hid (W2.heap[w.heap.size + 1]? = _) := Lib.hid ((hb12.block (w.heap.size + 1) (heapE_lt H1.out)).trans H1.out)
 have HIT := Lib.hid (fun h => And.intro (hit h).1 (ss_turns.kept (hit h).2 hb2))
 have HLT : Hid (w.heap.size + 1 < z1.heap.size) := Lib.hid (by have := HZ.out; omega)
 clear hb hb2 hb12 hit x0 HMC
 go_upto_region 2 with fail
 change Code.wp _ _ _ _ (z1.alloc (.cells #[.slice A' n' c'] 29))
 rw [← HW2.out]
 obtain ⟨y0, _⟩ := row1f J2.out
 cases ok with
 | false =>
  obtain ⟨u0, uf⟩ := row1f K1.out
  have HBX := Lib.hid (HB2.out.setCell (p := ⟨w.heap.size + 1, 0, none⟩) (by show w.heap.size ≤ w.heap.size + 1; omega) (.slice A' n' c'))
  have S1 : Hid ((W2.setCell ⟨w.heap.size + 1, 0, none⟩ (.slice A' n' c')).heap[w.heap.size + 1]? = _) := Lib.hid (heap_setCell_same W2 (w.heap.size + 1) 0 _ _ (.slice A' n' c') K1.out)
  go_wp2_with fail
  refine bodyPost_ret (v := .tuple #[.agg #[.slice A' n' c'], .bool false]) ?_ rfl ⟨_, _, _, false, rfl, HBX.out, (fun h => by cases h)⟩
  rw [results_cell_tmp rfl]; go_simp
 | true =>
  obtain ⟨hsm, hss⟩ := HIT.out rfl
  obtain ⟨hcap', hrd'⟩ := (ss_turns.go hss (FrM.refl W2 _) (M' := fun b => W2.heap.size ≤ b) (fun b hb => .inr hb)).rd
  have HQ : Hid (CatAt W2 W2.heap.size A' n' c' l) := Lib.hid ⟨hrd', hcap', Nat.le_refl _, hsm, HL2.out.1, HL2.out.2⟩
  have HC2 := Lib.hid (checkQ_any HQ.out)
  have HSM := Lib.hid hsm
  have HSS := Lib.hid hss
  clear hsm hss hcap' hrd' HIT
  obtain ⟨⟨ci, cv, ce⟩, HT⟩ : ∃ t, Hid (chkC l = t) := ⟨_, Lib.hid rfl⟩
  rw [HT.out] at HC2
  unfold t3V at HC2
  simp only at HC2
  go_wp2_with fail
  refine HC2.out.mono ?_
  rintro e w3 ⟨rfl, hb⟩
  have HB3 : Hid (Below w.heap.size w w3) := Lib.hid (HB2.out.trans (hb.mono HB2.out.size))
  have J3 : Hid (w3.heap[z1.heap.size]? = _) := Lib.hid ((hb.block z1.heap.size (heapE_lt J2.out)).trans J2.out)
  have K3 : Hid (w3.heap[w.heap.size + 1]? = _) := Lib.hid ((hb.block (w.heap.size + 1) (heapE_lt K1.out)).trans K1.out)
  have HS3 := Lib.hid (ss_turns.kept HSS.out hb)
  clear hb y0 HC2
  obtain ⟨y0, _⟩ := row1f J3.out
  obtain ⟨u0, uf⟩ := row1f K3.out
  have HBX := Lib.hid (HB3.out.setCell (p := ⟨w.heap.size + 1, 0, none⟩) (by show w.heap.size ≤ w.heap.size + 1; omega) (.slice A' n' c'))
  have HIT : Hid (ssI (w3.setCell ⟨w.heap.size + 1, 0, none⟩ (.slice A' n' c')) (fun b => b < w.heap.size) [.slice A' n' c'] l) := Lib.hid (ss_turns.go HS3.out (FrM.of_grown (grown_set w3 (w.heap.size + 1) 0 (.slice A' n' c')) (M := fun b => b < W.heap.size) (fun g hg => by injection hg with hg; subst hg; show _ < _; have := HZ.out; omega)) (fun b (hb : b < w.heap.size) => .inl (by show b < _; have := HZ.out; omega)))
  by_cases he : ce = 0
  ·subst he
   have HOK : Hid ((chkC l).2.2 = 0) := Lib.hid (by rw [HT.out])
   go_wp2_with fail
   refine bodyPost_ret (v := .tuple #[.agg #[.slice A' n' c'], .bool true]) ?_ rfl ⟨_, _, _, true, rfl, HBX.out, fun _ => ⟨HOK.out, HSM.out, HIT.out⟩⟩
   rw [results_cell_tmp rfl]; go_simp
  ·have h3 : (ce == 0) = false := by rw [beq_eq_false_iff_ne]; exact he
   go_wp2_with fail
   refine bodyPost_ret (v := .tuple #[.agg #[.slice A' n' c'], .bool false]) ?_ rfl ⟨_, _, _, false, rfl, HBX.out, (fun h => by cases h)⟩
   rw [results_cell_tmp rfl]; go_simp
end Go.Proofs.YtminihiecloglaaGreat
