/-
 MERGED: CGr CGq.
-/
import Derived.Test.YtminihiecloglaaGreatCNa
import Derived.Test.YtminihiecloglaaGreatDRow
import Derived.Test.YtminihiecloglaaGreatCQa
set_option linter.unusedVariables false
set_option linter.unusedSimpArgs false
namespace Go.Proofs.YtminihiecloglaaGreat
open Go.RowKit
open SemP DiP
set_option maxRecDepth 10000
def edI : ItT (Nat × Nat) := FlI (fun e => [.int .i64 (e.1 : Int), .int .i64 (e.2 : Int)])
theorem ed_turns : Turns edI := FlI.turns
theorem RdJ.edges {w : World} {B n : Nat} {A : Option Addr} {g : List (Nat × Nat)} (h : RdJ 2 edI w (fun b => B ≤ b) A n g) : RdEg w B A n g := by
 refine ⟨by rw [castE_len]; exact h.1, fun hn => ?_⟩
 obtain ⟨b, off, vs, e, hb, hnb, _⟩ := h.2 0 hn
 refine ⟨b, off, e, by omega, fun j hj => ?_⟩
 obtain ⟨b', off', vs', e', hb', hnb', hl', hc', hit⟩ := h.2 j hj
 have hit' : vs' = [.int .i64 ((g.getD j default).1 : Int), .int .i64 ((g.getD j default).2 : Int)] := hit
 rw [e] at e'
 injection e' with e'
 injection e' with e1 e2
 subst e1 e2 hit'
 have k0 := hc' 0 _ rfl
 have k1 := hc' 1 _ rfl
 rw [ea_cast, eb_cast]
 exact ⟨k0, k1⟩
theorem infoEd : (Tryz.prog.info? 91).map (fun i => (i.zero, i.size, i.bytes)) = some (some (.agg #[.int .i64 0, .int .i64 0]), 2, 16) := by kernel_rfl
end Go.Proofs.YtminihiecloglaaGreat
namespace Go.Proofs.YtminihiecloglaaGreat
open Go.RowKit
open SemP DiP
set_option maxRecDepth 10000
set_option maxHeartbeats 16000000 in
theorem graphQ_any {w : World} {B n c : Nat} {A : Option Addr} {l : List Sv} (h : CatAt w B A n c l) :
  Calls Tryz.prog 71 #[.agg #[.slice A n c]] w fun e w' => ∃ A' c', e = .returned (.agg #[.int .i64 (n : Int), .slice A' (grE l).length c']) ∧ RdEg w' w'.heap.size A' (grE l).length (grE l) ∧ Below w.heap.size w w' := by
 have HN : Hid (l.length = n) := Lib.hid h.rd.1
 have hn16 := h.n16
 obtain ⟨W, HW⟩ : ∃ W, Hid (W = ((w.alloc (.cells #[.slice A n c] 29)).alloc (.cells #[.int .i64 0, .slice none 0 0] 74)).alloc (.cells #[.int .i64 (n : Int), .slice none 0 0] 74)) := ⟨_, Lib.hid rfl⟩
 have hbl : Below w.heap.size w W := by rw [HW.out]; exact (((Below.refl _ w).alloc (Nat.le_refl _) _).alloc (by simp) _).alloc (by simp; omega) _
 have hz : W.heap.size = w.heap.size + 3 := by rw [HW.out]; simp
 have H0 : Hid (W.heap[w.heap.size]? = some (.cells #[.slice A n c] 29 (0, 0))) := Lib.hid (by
  rw [HW.out, Below.heap_alloc _ _ _ (by simp; omega), Below.heap_alloc _ _ _ (by simp)]
  exact heap_new w _)
 have H1 : Hid (W.heap[w.heap.size + 1]? = some (.cells #[.int .i64 0, .slice none 0 0] 74 (0, 0))) := Lib.hid (by
  rw [HW.out, Below.heap_alloc _ _ _ (by simp)]
  have h := heap_new (w.alloc (.cells #[.slice A n c] 29)) (.cells #[.int .i64 0, .slice none 0 0] 74)
  rw [World.size_alloc] at h; exact h)
 have H2 : Hid (W.heap[w.heap.size + 1 + 1]? = some (.cells #[.int .i64 (n : Int), .slice none 0 0] 74 (0, 0))) := Lib.hid (by
  rw [HW.out]
  have h := heap_new ((w.alloc (.cells #[.slice A n c] 29)).alloc (.cells #[.int .i64 0, .slice none 0 0] 74)) (.cells #[.int .i64 (n : Int), .slice none 0 0] 74)
  rw [World.size_alloc, World.size_alloc] at h; exact h)
 have HA0 := Lib.hid h
 have HBL := Lib.hid hbl
 clear h hbl
 go_enter Tryz.func71, Tryz.ntmps71
 go_upto_region 2 with fail
 change Code.wp _ _ _ _ (((w.alloc (.cells #[.slice A n c] 29)).alloc (.cells #[.int .i64 0, .slice none 0 0] 74)).alloc (.cells #[.int .i64 (n : Int), .slice none 0 0] 74))
 rw [← HW.out]
 obtain ⟨x0, _⟩ := row1f H0.out
 go_wp2_with fail
 clear x0
 go_loopw [4, 5] (fun v _ wr => ∃ (j : Nat) (lo : List (Nat × Nat)) (AO : Option Addr) (co : Nat), j ≤ n ∧ v = .int .i64 (j : Int) ∧ Hid (lo = grK l j) ∧ Hid (OwnJ 91 2 edI wr W.heap.size (.slice AO lo.length co) lo) ∧ Hid (Below w.heap.size w wr) ∧ Hid (wr.heap[w.heap.size]? = some (.cells #[.slice A n c] 29 (0, 0))) ∧ Hid (wr.heap[w.heap.size + 1]? = some (.cells #[.int .i64 0, .slice none 0 0] 74 (0, 0))) ∧ Hid (wr.heap[w.heap.size + 1 + 1]? = some (.cells #[.int .i64 (n : Int), .slice AO lo.length co] 74 (0, 0)))) (fun v _ _ => n - (intOf v).toNat)
 case atStart => exact ⟨0, [], none, 0, Nat.zero_le _, rfl, Lib.hid rfl, Lib.hid (OwnJ.nil_ _ _ _ _ _), HBL, H0, H1, H2⟩
 case round =>
  obtain ⟨wo, hwo⟩ : ∃ x, x = wr := ⟨_, rfl⟩
  subst hwo
  obtain ⟨j, lo, AO, co, hj, rfl, HLO, HO, HB, K0, K1, K2⟩ := hrel
  have HZO : Hid (W.heap.size ≤ wo.heap.size) := Lib.hid (by have := heapE_lt K2.out; omega)
  obtain ⟨y0, _⟩ := row1f K0.out
  obtain ⟨z0, z1, _, _⟩ := row2 K2.out
  by_cases hjn : j < n
  ·have hd : decide ((j : Int) < (n : Int)) = true := by simp; omega
   have hji : (j : Int) < (n : Int) := by omega
   have hadd : IntKind.i64.wrap ((j : Int) + 1) = ((j + 1 : Nat) : Int) := by rw [IntWalk.i64_in _ (by omega)]; omega
   go_wp2_with fail
   clear y0 z0 z1
   go_loopw [5] (fun v wr => ∃ (i : Nat) (li : List (Nat × Nat)) (AI : Option Addr) (ci : Nat), i ≤ n ∧ v = .int .i64 (i : Int) ∧ Hid (li = grK l j ++ grR l j i) ∧ Hid (OwnJ 91 2 edI wr W.heap.size (.slice AI li.length ci) li) ∧ Hid (Below w.heap.size w wr) ∧ Hid (wr.heap[w.heap.size]? = some (.cells #[.slice A n c] 29 (0, 0))) ∧ Hid (wr.heap[w.heap.size + 1]? = some (.cells #[.int .i64 0, .slice none 0 0] 74 (0, 0))) ∧ Hid (wr.heap[w.heap.size + 1 + 1]? = some (.cells #[.int .i64 (n : Int), .slice AI li.length ci] 74 (0, 0)))) (fun v _ => n - (intOf v).toNat)
   case atStart => exact ⟨0, lo, AO, co, Nat.zero_le _, rfl, Lib.hid (by rw [HLO.out]; simp [grR]), HO, HB, K0, K1, K2⟩
   case round =>
    obtain ⟨wi, hwi⟩ : ∃ x, x = wr := ⟨_, rfl⟩
    subst hwi
    obtain ⟨i, li, AI, ci, hi, rfl, HLI, HOI, HBI, K0i, K1i, K2i⟩ := hrel
    have hzi : W.heap.size ≤ wi.heap.size := by have := heapE_lt K2i.out; omega
    obtain ⟨y0, _⟩ := row1f K0i.out
    obtain ⟨z0, z1, _, _⟩ := row2 K2i.out
    by_cases hin : i < n
    ·have hd2 : decide ((i : Int) < (n : Int)) = true := by simp; omega
     have hii : (i : Int) < (n : Int) := by omega
     have hadd2 : IntKind.i64.wrap ((i : Int) + 1) = ((i + 1 : Nat) : Int) := by rw [IntWalk.i64_in _ (by omega)]; omega
     have HND := Lib.hid (asksQ_any (j := (j : Int)) (HA0.out.below HBI.out) hin)
     go_wp2_with fail
     refine HND.out.mono ?_
     rintro e w2 ⟨rfl, hb⟩
     have HB2 : Hid (Below w.heap.size w w2) := Lib.hid (HBI.out.trans (hb.mono HBI.out.size))
     have K02 : Hid (w2.heap[w.heap.size]? = _) := Lib.hid ((hb.block w.heap.size (heapE_lt K0i.out)).trans K0i.out)
     have K12 : Hid (w2.heap[w.heap.size + 1]? = _) := Lib.hid ((hb.block (w.heap.size + 1) (heapE_lt K1i.out)).trans K1i.out)
     have K22 : Hid (w2.heap[w.heap.size + 1 + 1]? = _) := Lib.hid ((hb.block (w.heap.size + 1 + 1) (heapE_lt K2i.out)).trans K2i.out)
     have HO2 := Lib.hid (HOI.out.kept ed_turns hb)
     have HZ2 : Hid (W.heap.size ≤ w2.heap.size) := Lib.hid (Nat.le_trans hzi hb.size)
     clear hb HND y0 z0 z1
     cases hq : asks l i (j : Int) with
     | false =>
      have HL2 : Hid (li = grK l j ++ grR l j (i + 1)) := Lib.hid (by rw [grR_succ, hq, HLI.out]; simp)
      clear hq
      go_wp2_with fail
      go_roundw
      case rel => exact ⟨i + 1, li, AI, ci, by omega, by go_num, HL2, HO2, HB2, K02, K12, K22⟩
      case measure => simp [intOf]; omega
     | true =>
      have HL2 : Hid (li ++ [(j, i)] = grK l j ++ grR l j (i + 1)) := Lib.hid (by rw [grR_succ, hq, HLI.out]; simp)
      have HLB : Hid (li.length ≤ 512) := Lib.hid (by
       rw [HLI.out, List.length_append]
       have h1 := grK_len l j
       have h2 := grR_len l j i
       have h3 : j * l.length ≤ 16 * 16 := Nat.mul_le_mul (by omega) (by rw [HN.out]; exact hn16)
       omega)
      obtain ⟨z0, z1, f0, f1⟩ := row2 K22.out
      have HD := Lib.hid (cells_of (heap_new w2 (.cells #[.int .i64 (j : Int), .int .i64 (i : Int)] 91)))
      clear hq
      go_wp2_with (at_builtin; refine wplJ_app ed_turns Tryz.underlying33 infoEd rfl (by decide) (by decide) rfl (.tmp 27) (.tmp 31) rfl W.heap.size (.slice AI li.length ci) li rfl (HO2.out.alloc ed_turns _) w2.heap.size [.int .i64 (j : Int), .int .i64 (i : Int)] (j, i) rfl rfl HD.out (by intro u hu; simp at hu; rcases hu with rfl | rfl <;> rfl) rfl (by have := HLB.out; omega) (by have := HZ2.out; simp; omega) ?_; intro g c3 w5 hown5 hgr5; (have hz5 : w2.heap.size + 1 ≤ w5.heap.size := by (have := hgr5.size); rw [World.size_alloc] at this; exact this); (have hge5 := fun g hg => (HO2.out.ge g hg).1); (have hz2 := HZ2.out); (have k2 : w5.heap[w.heap.size + 1 + 1]? = _ := (hgr5.block (w.heap.size + 1 + 1) (by simp; omega) (fun e => by have := hge5 _ e.symm; omega)).trans ((Below.heap_alloc w2 _ (w.heap.size + 1 + 1) (show w.heap.size + 1 + 1 < w2.heap.size by omega)).trans K22.out)); (have k1 : w5.heap[w.heap.size + 1]? = _ := (hgr5.block (w.heap.size + 1) (by simp; omega) (fun e => by have := hge5 _ e.symm; omega)).trans ((Below.heap_alloc w2 _ (w.heap.size + 1) (show w.heap.size + 1 < w2.heap.size by omega)).trans K12.out)); (have k0 : w5.heap[w.heap.size]? = _ := (hgr5.block w.heap.size (by simp; omega) (fun e => by have := hge5 _ e.symm; omega)).trans ((Below.heap_alloc w2 _ w.heap.size (show w.heap.size < w2.heap.size by omega)).trans K02.out)); (obtain ⟨b0, b1, bf0, bf1⟩ := row2 k2))
      have K2s : Hid ((w5.setCell ⟨w.heap.size + 1 + 1, 1, none⟩ (.slice (some ⟨g, 0, none⟩) (li.length + 1) c3)).heap[w.heap.size + 1 + 1]? = _) := Lib.hid (heap_setCell_same w5 (w.heap.size + 1 + 1) 1 _ _ (.slice (some ⟨g, 0, none⟩) (li.length + 1) c3) k2)
      have hgs := grown_set w5 (w.heap.size + 1 + 1) 1 (.slice (some ⟨g, 0, none⟩) (li.length + 1) c3)
      have K1s := Lib.hid ((hgs.block (w.heap.size + 1) (by omega) (fun e => by injection e with e; omega)).trans k1)
      have K0s := Lib.hid ((hgs.block w.heap.size (by omega) (fun e => by injection e with e; omega)).trans k0)
      have HO5 := Lib.hid (OwnJ.turn ed_turns hown5 hgs (fun g hg => by injection hg with hg; omega))
      have HB5 : Hid (Below w.heap.size w (w5.setCell ⟨w.heap.size + 1 + 1, 1, none⟩ (.slice (some ⟨g, 0, none⟩) (li.length + 1) c3))) := Lib.hid ((((HB2.out.alloc (by omega) _).grown hgr5 (by simp; omega) (fun g hg => by have := hge5 g hg; omega))).setCell (p := ⟨w.heap.size + 1 + 1, 1, none⟩) (by show w.heap.size ≤ w.heap.size + 1 + 1; omega) _)
      clear k0 k1 k2 hgs hown5 hgr5 z0 z1 f0 f1
      go_wp2_with fail
      go_roundw
      case rel => exact ⟨i + 1, li ++ [(j, i)], some ⟨g, 0, none⟩, c3, by omega, by go_num, HL2, by rw [List.length_append]; exact HO5, HB5, K0s, K1s, by rw [List.length_append]; exact K2s⟩
      case measure => simp [intOf]; omega
    ·have hd2 : decide ((i : Int) < (n : Int)) = false := by simp; omega
     obtain rfl : i = n := by omega
     have HL2 : Hid (li = grK l (j + 1)) := Lib.hid (by rw [HLI.out]; show _ = grK l j ++ grR l j l.length; rw [HN.out])
     go_wp2_with fail
     go_roundw
     case rel => exact ⟨j + 1, li, AI, ci, by omega, by go_num, HL2, HOI, HBI, K0i, K1i, K2i⟩
     case measure => simp [intOf]; omega
  ·have hd : decide ((j : Int) < (n : Int)) = false := by simp; omega
   obtain rfl : j = n := by omega
   have hlo : lo = grE l := by rw [HLO.out]; show _ = grK l l.length; rw [HN.out]
   subst hlo
   obtain ⟨w0, w1, fw0, fw1⟩ := row2 K1.out
   have hs0 := grown_set wo (w.heap.size + 1) 0 (.int .i64 (j : Int))
   have hs1 := grown_set (wo.setCell ⟨w.heap.size + 1, 0, none⟩ (.int .i64 (j : Int))) (w.heap.size + 1) 1 (.slice AO (grE l).length co)
   have HO5 := Lib.hid (OwnJ.turn ed_turns (OwnJ.turn ed_turns HO.out hs0 (fun g hg => by injection hg with hg; omega)) hs1 (fun g hg => by injection hg with hg; omega))
   have HB5 := Lib.hid ((HB.out.setCell (p := ⟨w.heap.size + 1, 0, none⟩) (by show w.heap.size ≤ w.heap.size + 1; omega) (.int .i64 (j : Int))).setCell (p := ⟨w.heap.size + 1, 1, none⟩) (by show w.heap.size ≤ w.heap.size + 1; omega) (.slice AO (grE l).length co))
   have KR := Lib.hid (heap_setCell_same (wo.setCell ⟨w.heap.size + 1, 0, none⟩ (.int .i64 (j : Int))) (w.heap.size + 1) 1 _ _ (.slice AO (grE l).length co) (heap_setCell_same wo (w.heap.size + 1) 0 _ _ (.int .i64 (j : Int)) K1.out))
   clear hs0 hs1
   go_wp2_with fail
   obtain ⟨r0, r1, _, _⟩ := row2 (w := (wo.setCell ⟨w.heap.size + 1, 0, none⟩ (.int .i64 (j : Int))).setCell ⟨w.heap.size + 1, 1, none⟩ (.slice AO (grE l).length co)) (g := w.heap.size + 1) (x := .int .i64 (j : Int)) (y := .slice AO (grE l).length co) (t := 74) KR.out
   refine bodyPost_ret (v := .agg #[.int .i64 (j : Int), .slice AO (grE l).length co]) ?_ rfl ⟨AO, co, rfl, (HO5.out.rd ed_turns (M := fun b => _ ≤ b) (fun b hb => .inr hb)).edges, HB5.out⟩
   simp [results, Tryz.results71, go_sem, r0, r1]
end Go.Proofs.YtminihiecloglaaGreat
