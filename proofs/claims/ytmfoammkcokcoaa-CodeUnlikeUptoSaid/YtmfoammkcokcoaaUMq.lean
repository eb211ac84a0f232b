/-
  Requests, as the document has them.
-/
import Derived.Test.YtmfoammkcokcoaaUMr
import Derived.Test.YtmfoammkcokcoaaUGr
namespace Go.Proofs.Ytmfoammkcokcoaa
open Go.RowKit
open ByteP CodeP
set_option linter.unusedVariables false
set_option maxRecDepth 10000
/-- Pins that a play goes through with. -/
def SmN (l : List (Int × List (List CV))) : Prop := l.length ≤ 40 ∧ ∀ p ∈ l, SmR p.2
theorem SmN.sh {l : List (Int × List (List CV))} (h : SmN l) : ShN l := ⟨by have := h.1; omega, fun p hp => (h.2 p hp).sh⟩
theorem outN_le : ∀ {l : List (Int × List (List CV))}, (∀ p ∈ l, SmR p.2) → (outN l).length ≤ 20000 * l.length
  | [], _ => by simp [outN]
  | p :: l, h => by
    have h0 := h p (by simp)
    have h1 := outL_le h0.2
    have h2 := outN_le (l := l) (fun y hy => h y (by simp [hy]))
    have h3 := outI_len p.1
    have h4 := enc_small (n := p.2.length) (by have := h0.1; omega)
    have e : outN (p :: l) = pinO p ++ outN l := by simp [outN]
    have h5 := h0.1
    rw [e, List.length_append, List.length_cons]
    unfold pinO rngO
    rw [List.length_append, List.length_append]; omega
theorem infoRPn2 : (Try.prog.info? 135).map (fun i => (i.zero, i.size, i.bytes)) = some (some (.agg #[.int .i64 0, .slice none 0 0]), 2, 32) := by kernel_rfl
set_option maxHeartbeats 16000000 in
theorem requestM_any {w : World} {B n m c1 c2 : Nat} {A1 A2 : Option Addr} {l : List (Int × List (List CV))} (hr : RdN w B A1 n l) (hB : B ≤ w.heap.size) :
    Calls Try.prog 18 #[.agg #[.slice A1 n c1, .slice A2 m c2]] w fun en w' => ∃ A' n' c' ok, en = .returned (.tuple #[.agg #[.slice A' n' c', .slice A2 m c2], .bool ok]) ∧ Below w.heap.size w w' ∧ (ok = true → SmN l ∧ m ≤ 100 ∧ psI w' (fun b => b < w.heap.size) [.slice A' n' c'] l) := by
  obtain ⟨W, hW⟩ : ∃ W, W = ((w.alloc (.cells #[.slice A1 n c1, .slice A2 m c2] 53)).alloc (.cells #[.slice none 0 0, .slice none 0 0] 56)).alloc (.cells #[.slice none 0 0, .slice A2 m c2] 56) := ⟨_, rfl⟩
  have hbl : Below w.heap.size w W := by rw [hW]; exact (((Below.refl _ w).alloc (Nat.le_refl _) _).alloc (by simp) _).alloc (by simp; omega) _
  have hz : W.heap.size = w.heap.size + 3 := by rw [hW]; simp
  have h0 : W.heap[w.heap.size]? = some (.cells #[.slice A1 n c1, .slice A2 m c2] 53 (0, 0)) := by
    rw [hW, Below.heap_alloc _ _ _ (by simp; omega), Below.heap_alloc _ _ _ (by simp)]; exact heap_alloc_new w _
  have h1 : W.heap[w.heap.size + 1]? = some (.cells #[.slice none 0 0, .slice none 0 0] 56 (0, 0)) := by
    rw [hW, Below.heap_alloc _ _ _ (by simp)]
    have h := heap_alloc_new (w.alloc (.cells #[.slice A1 n c1, .slice A2 m c2] 53)) (.cells #[.slice none 0 0, .slice none 0 0] 56)
    rw [World.size_alloc] at h; exact h
  have h2 : W.heap[w.heap.size + 1 + 1]? = some (.cells #[.slice none 0 0, .slice A2 m c2] 56 (0, 0)) := by
    rw [hW]
    have h := heap_alloc_new ((w.alloc (.cells #[.slice A1 n c1, .slice A2 m c2] 53)).alloc (.cells #[.slice none 0 0, .slice none 0 0] 56)) (.cells #[.slice none 0 0, .slice A2 m c2] 56)
    rw [World.size_alloc, World.size_alloc] at h; exact h
  have HBL := Lib.hid hbl
  have H0 := Lib.hid h0
  have H1 := Lib.hid h1
  have H2 := Lib.hid h2
  have HW := Lib.hid hW
  have HR := Lib.hid hr
  have HLN := Lib.hid hr.1
  clear hbl h0 h1 h2 hW hr
  go_enter Try.func18, Try.ntmps18
  obtain ⟨p0, p1, _, _⟩ := row2 (heap_alloc_new w (.cells #[.slice A1 n c1, .slice A2 m c2] 53))
  go_upto_region 2 with fail
  change Code.wp _ _ _ _ (((w.alloc (.cells #[.slice A1 n c1, .slice A2 m c2] 53)).alloc (.cells #[.slice none 0 0, .slice none 0 0] 56)).alloc (.cells #[.slice none 0 0, .slice A2 m c2] 56))
  rw [← HW.out]
  clear p0 p1
  obtain ⟨a0, a1, _, _⟩ := row2 H0.out
  have HBX := Lib.hid (fun (u v : Value) => (HBL.out.setCell (p := ⟨w.heap.size + 1, 0, none⟩) (by show w.heap.size ≤ w.heap.size + 1; omega) u).setCell (p := ⟨w.heap.size + 1, 1, none⟩) (by show w.heap.size ≤ w.heap.size + 1; omega) v)
  by_cases hn40 : 40 < n
  · have d1 : decide ((40 : Int) < (n : Int)) = true := by simp; omega
    obtain ⟨b0, b1, bf0, bf1⟩ := row2 H1.out
    obtain ⟨c0, c1', _, _⟩ := row2 H2.out
    go_wp2_with fail
    refine bodyPost_ret (v := .tuple #[.agg #[.slice none 0 0, .slice A2 m c2], .bool false]) ?_ rfl ⟨_, _, _, false, rfl, ?_, fun h => by cases h⟩
    · rw [results_cell_tmp rfl]; go_simp
    · exact HBX.out _ _

  have d1 : decide ((40 : Int) < (n : Int)) = false := by simp; omega
  by_cases hm100 : 100 < m
  · have d2 : decide ((100 : Int) < (m : Int)) = true := by simp; omega
    obtain ⟨b0, b1, bf0, bf1⟩ := row2 H1.out
    obtain ⟨c0, c1', _, _⟩ := row2 H2.out
    go_wp2_with fail
    refine bodyPost_ret (v := .tuple #[.agg #[.slice none 0 0, .slice A2 m c2], .bool false]) ?_ rfl ⟨_, _, _, false, rfl, ?_, fun h => by cases h⟩
    · rw [results_cell_tmp rfl]; go_simp
    · exact HBX.out _ _

  have d2 : decide ((100 : Int) < (m : Int)) = false := by simp; omega
  go_wp2_with fail
  go_loopw [6, 7, 8, 26] (fun _ _ _ v wr => ∃ (j : Nat) (lo : List (Int × List (List CV))) (AO : Option Addr) (co : Nat), j ≤ n ∧ v = .int .i64 (j : Int) ∧ Hid (lo = l.take j) ∧ Hid (lo.length = j) ∧ Hid (∀ p ∈ lo, SmR p.2) ∧ Hid (OwnG 135 2 pnI wr W.heap.size (.slice AO lo.length co) lo) ∧ Hid (Below w.heap.size w wr) ∧ Hid (wr.heap[w.heap.size + 1]? = some (.cells #[.slice none 0 0, .slice none 0 0] 56 (0, 0))) ∧ Hid (wr.heap[w.heap.size + 1 + 1]? = some (.cells #[.slice AO lo.length co, .slice A2 m c2] 56 (0, 0)))) (fun _ _ _ v _ => n - (intOf v).toNat)
  case atStart => exact ⟨0, [], none, 0, Nat.zero_le _, rfl, Lib.hid (by simp), Lib.hid rfl, Lib.hid (fun l hl => by simp at hl), Lib.hid (OwnG.nil_ _ _ _ _ _), HBL, H1, H2⟩
  case round =>
    obtain ⟨wo, hwo⟩ : ∃ x, x = wr := ⟨_, rfl⟩
    subst hwo
    obtain ⟨j, lo, AO, co, hj, rfl, HLO, HLL, HSM, HO, HB, HT2, HT4⟩ := hrel
    have hpl : w.heap.size + 1 + 1 < wo.heap.size := heapE_lt HT4.out
    by_cases hjn : j < n
    · have hd : decide ((j : Int) < (n : Int)) = true := by simp; omega
      have hi : (j : Int) < (n : Int) := by omega
      have hadd : IntKind.i64.wrap ((j : Int) + 1) = ((j + 1 : Nat) : Int) := by rw [IntWalk.i64_in _ (by omega)]; omega
      have hjl : j < l.length := by rw [HLN.out]; exact hjn
      obtain ⟨b1, o1, Aj, nj, cj, rfl, hb1B, k0, k1, k2⟩ := (HR.out.below (HB.out.mono hB)).2 j hjn
      obtain ⟨x, HX⟩ : ∃ x, Hid (pnAt l j = x) := ⟨_, Lib.hid rfl⟩
      rw [HX.out] at k0 k2
      obtain ⟨sv, rg⟩ := x
      simp only at k0 k2
      obtain ⟨X, HXX⟩ : ∃ X, Hid (X = wo.alloc (.cells #[.int .i64 sv, .slice Aj nj cj] 134)) := ⟨_, Lib.hid rfl⟩
      have hXs : X.heap.size = wo.heap.size + 1 := by rw [HXX.out]; simp
      have hX0 : X.heap[wo.heap.size]? = some (.cells #[.int .i64 sv, .slice Aj nj cj] 134 (0, 0)) := by rw [HXX.out]; exact heap_new wo _
      have hbx : Below wo.heap.size wo X := by rw [HXX.out]; exact (Below.refl _ wo).alloc (Nat.le_refl _) _
      have HRG : Hid (RdR X B Aj nj rg) := Lib.hid (k2.below (hbx.mono (by omega)))
      have HM := Lib.hid (rangeM_any (c := cj) HRG.out (by omega))
      have HX0 := Lib.hid hX0
      have HXS := Lib.hid hXs
      have HBX1 := Lib.hid hbx
      obtain ⟨x0, x1, _, _⟩ := row2 hX0
      clear k2 hX0 hXs hbx
      go_upto_region 7 with fail
      change Code.wp _ _ _ _ (wo.alloc (.cells #[.int .i64 sv, .slice Aj nj cj] 134))
      rw [← HXX.out]
      go_wp2_with fail
      refine HM.out.mono ?_
      rintro en z1 ⟨A', n', c', ok, rfl, hb1, hit⟩
      have HB1 : Hid (Below wo.heap.size wo z1) := Lib.hid (HBX1.out.trans (hb1.mono (by have := HXS.out; omega)))
      have hz1 := HB1.out.size
      have HBW : Hid (Below w.heap.size w z1) := Lib.hid (HB.out.trans (HB1.out.mono (by omega)))
      have KP : Hid (z1.heap[wo.heap.size]? = _) := Lib.hid ((hb1.block wo.heap.size (by have := HXS.out; omega)).trans HX0.out)
      have HIT := Lib.hid hit
      obtain ⟨Y, HY⟩ : ∃ Y, Hid (Y = z1.alloc (.cells #[.slice A' n' c'] 110)) := ⟨_, Lib.hid rfl⟩
      have hYs : Y.heap.size = z1.heap.size + 1 := by rw [HY.out]; simp
      have hbY : Below z1.heap.size z1 Y := by rw [HY.out]; exact (Below.refl _ z1).alloc (Nat.le_refl _) _
      have hY0 : Y.heap[z1.heap.size]? = some (.cells #[.slice A' n' c'] 110 (0, 0)) := by rw [HY.out]; exact heap_new z1 _
      have hzp : wo.heap.size < z1.heap.size := heapE_lt KP.out
      have HT2' : Hid (Y.heap[w.heap.size + 1]? = _) := Lib.hid ((hbY.block (w.heap.size + 1) (by omega)).trans ((HB1.out.block (w.heap.size + 1) (by omega)).trans HT2.out))
      have HT4' : Hid (Y.heap[w.heap.size + 1 + 1]? = _) := Lib.hid ((hbY.block (w.heap.size + 1 + 1) (by omega)).trans ((HB1.out.block (w.heap.size + 1 + 1) (by omega)).trans HT4.out))
      have KPY : Hid (Y.heap[wo.heap.size]? = _) := Lib.hid ((hbY.block wo.heap.size hzp).trans KP.out)
      have HBWY : Hid (Below w.heap.size w Y) := Lib.hid (HBW.out.trans (hbY.mono (by omega)))
      have HOY : Hid (OwnG 135 2 pnI Y W.heap.size (.slice AO lo.length co) lo) := Lib.hid ((HO.out.kept pn_turns HB1.out).kept pn_turns hbY)
      have HITY : Hid (ok = true → SmR rg ∧ rgI Y (fun b => b < wo.heap.size + 1) [.slice A' n' c'] rg) := Lib.hid (fun h => ⟨(hit h).1, rg_turns.kept (by have := (hit h).2; rw [HXS.out] at this; exact this) hbY⟩)
      have HYS := Lib.hid hYs
      have HY0 := Lib.hid hY0
      clear hb1 hit HM x0 x1 hbY hY0 hYs k0 k1
      go_upto_region 8 with fail
      change Code.wp _ _ _ _ (z1.alloc (.cells #[.slice A' n' c'] 110))
      rw [← HY.out]
      cases ok with
      | false =>
        obtain ⟨b0, b1', bf0, bf1⟩ := row2 HT2'.out
        obtain ⟨c0, c1', _, _⟩ := row2 HT4'.out
        have HBX := Lib.hid (fun (u v : Value) => (HBWY.out.setCell (p := ⟨w.heap.size + 1, 0, none⟩) (by show w.heap.size ≤ w.heap.size + 1; omega) u).setCell (p := ⟨w.heap.size + 1, 1, none⟩) (by show w.heap.size ≤ w.heap.size + 1; omega) v)
        go_wp2_with fail
        refine bodyPost_ret (v := .tuple #[.agg #[.slice AO lo.length co, .slice A2 m c2], .bool false]) ?_ rfl ⟨_, _, _, false, rfl, ?_, fun h => by cases h⟩
        · rw [results_cell_tmp rfl]; go_simp
        · exact HBX.out _ _

      | true =>
        obtain ⟨HSR, hrgi⟩ := HITY.out rfl
        obtain ⟨t0, t1, tf0, _⟩ := row2 HT4'.out
        obtain ⟨s0, s1, _, _⟩ := row2 KPY.out
        obtain ⟨r0, _⟩ := row1f HY0.out
        have HD := Lib.hid (cells_of (heap_new Y (.cells #[.int .i64 sv, .slice A' n' c'] 135)))
        have HAP : Hid (pnI (Y.alloc (.cells #[.int .i64 sv, .slice A' n' c'] 135)) (Ap W.heap.size (.slice AO lo.length co)) [.int .i64 sv, .slice A' n' c'] (sv, rg)) := Lib.hid ⟨[.int .i64 sv], [.slice A' n' c'], rfl, rfl, rg_turns.go hrgi (FrM.of_grown (row := none) (grown_alloc1 Y _ none) (fun g hg => by cases hg)) (fun b hb => .inl (by
          rcases hb with hb | hb
          · have := (HO.out.ge b hb).2; show b < _; omega
          · show b < _; omega))⟩
        have HSRR := Lib.hid HSR
        clear HSR hrgi
        go_wp2_with (at_builtin; refine wplG_app pn_turns Try.underlying54 infoRPn2 rfl (by decide) (by decide) rfl (.tmp 40) (.tmp 45) rfl W.heap.size (.slice AO lo.length co) lo rfl (HOY.out.alloc pn_turns _) Y.heap.size [.int .i64 sv, .slice A' n' c'] (sv, rg) rfl rfl HD.out (by intro u hu; simp at hu; rcases hu with rfl | rfl <;> rfl) HAP.out (by have := HLL.out; omega) (by have := HYS.out; simp; omega) ?_; intro g c3 w5 hown5 hgr5; (have hz5 : Y.heap.size + 1 ≤ w5.heap.size := by (have := hgr5.size); rw [World.size_alloc] at this; exact this); (have hge5 := fun g hg => (HOY.out.ge g hg).1); (have k3 : w5.heap[w.heap.size + 1 + 1]? = _ := (hgr5.block (w.heap.size + 1 + 1) (by have := HYS.out; simp; omega) (fun e => by have := hge5 _ e.symm; omega)).trans ((Below.heap_alloc Y _ (w.heap.size + 1 + 1) (by have := HYS.out; omega)).trans HT4'.out)); (have k2 : w5.heap[w.heap.size + 1]? = _ := (hgr5.block (w.heap.size + 1) (by have := HYS.out; simp; omega) (fun e => by have := hge5 _ e.symm; omega)).trans ((Below.heap_alloc Y _ (w.heap.size + 1) (by have := HYS.out; omega)).trans HT2'.out)); (obtain ⟨b0, b1', bf, _⟩ := row2 k3))
        have hys := HYS.out
        have K3 : Hid ((w5.setCell ⟨w.heap.size + 1 + 1, 0, none⟩ (.slice (some ⟨g, 0, none⟩) (lo.length + 1) c3)).heap[w.heap.size + 1 + 1]? = _) := Lib.hid (heap_setCell_same w5 (w.heap.size + 1 + 1) 0 _ _ (.slice (some ⟨g, 0, none⟩) (lo.length + 1) c3) k3)
        have hgs := grown_set w5 (w.heap.size + 1 + 1) 0 (.slice (some ⟨g, 0, none⟩) (lo.length + 1) c3)
        have K2 := Lib.hid ((hgs.block (w.heap.size + 1) (by omega) (fun e => by injection e with e; omega)).trans k2)
        have HO5 := Lib.hid (OwnG.turn pn_turns hown5 hgs (fun g hg => by injection hg with hg; omega))
        have HB5 : Hid (Below w.heap.size w (w5.setCell ⟨w.heap.size + 1 + 1, 0, none⟩ (.slice (some ⟨g, 0, none⟩) (lo.length + 1) c3))) := Lib.hid ((((HBWY.out.alloc (by omega) _).grown hgr5 (by simp; omega) (fun g hg => by have := hge5 g hg; omega))).setCell (p := ⟨w.heap.size + 1 + 1, 0, none⟩) (by show w.heap.size ≤ w.heap.size + 1 + 1; omega) _)
        have HS5 : Hid (∀ p ∈ lo ++ [(sv, rg)], SmR p.2) := Lib.hid (fun p hp => by
          rcases List.mem_append.1 hp with h | h
          · exact HSM.out p h
          · simp at h; subst h; exact HSRR.out)
        clear k3 k2 hgs hown5 hgr5 t0 t1 tf0 s0 s1 r0 hys
        go_wp2_with fail
        go_roundw
        case rel => exact ⟨j + 1, lo ++ [(sv, rg)], some ⟨g, 0, none⟩, c3, by omega, by go_num, Lib.hid (by rw [take_pn l j hjl, HX.out, HLO.out]), Lib.hid (by rw [List.length_append, HLL.out]; rfl), HS5, by rw [List.length_append]; exact HO5, HB5, K2, by rw [List.length_append]; exact K3⟩
        case measure => simp [intOf]; omega
    · have hd : decide ((j : Int) < (n : Int)) = false := by simp; omega
      obtain rfl : j = n := by omega
      have hlo : lo = l := by rw [HLO.out]; exact List.take_of_length_le (by rw [HLN.out]; exact Nat.le_refl _)
      subst hlo
      obtain ⟨b0, b1, bf0, bf1⟩ := row2 HT2.out
      obtain ⟨c0, c1', _, _⟩ := row2 HT4.out
      have HIT : Hid (psI ((wo.setCell ⟨w.heap.size + 1, 0, none⟩ (.slice AO lo.length co)).setCell ⟨w.heap.size + 1, 1, none⟩ (.slice A2 m c2)) (fun b => b < w.heap.size) [.slice AO lo.length co] lo) := Lib.hid (ps_turns.go (HO.out.item (M := fun b => b < W.heap.size) pn_turns (fun b hb => .inl hb)) (FrM.of_grown (grown_add (grown_set wo (w.heap.size + 1) 0 _) (grown_set _ (w.heap.size + 1) 1 _)) (fun g hg => by injection hg with hg; subst hg; show _ < _; omega)) (fun b (hb : b < w.heap.size) => .inl (by show b < _; omega)))
      have HBX := Lib.hid (fun (u v : Value) => (HB.out.setCell (p := ⟨w.heap.size + 1, 0, none⟩) (by show w.heap.size ≤ w.heap.size + 1; omega) u).setCell (p := ⟨w.heap.size + 1, 1, none⟩) (by show w.heap.size ≤ w.heap.size + 1; omega) v)
      have HSR : Hid (SmN lo) := Lib.hid ⟨by have := HLN.out; omega, HSM.out⟩
      go_wp2_with fail
      refine bodyPost_ret (v := .tuple #[.agg #[.slice AO lo.length co, .slice A2 m c2], .bool true]) ?_ rfl ⟨_, _, _, true, rfl, HBX.out _ _, fun _ => ⟨HSR.out, by omega, HIT.out⟩⟩
      rw [results_cell_tmp rfl]; go_simp
end Go.Proofs.Ytmfoammkcokcoaa
