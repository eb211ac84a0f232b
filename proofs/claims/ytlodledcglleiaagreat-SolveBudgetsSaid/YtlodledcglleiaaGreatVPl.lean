/-
  CONTRACTS: a request, as the document has it; lists that are the same.
-/
import Derived.Test.YtlodledcglleiaaGreatVCk
import Derived.Test.YtlodledcglleiaaGreatCRg
namespace Go.Proofs.YtlodledcglleiaaGreat
open Go.RowKit
open SemP DiP FlP GaP SeaP
set_option linter.unusedVariables false
set_option linter.unusedSimpArgs false
set_option maxRecDepth 10000
theorem ints_any {w : World} {B B2 n m c d : Nat} {A D : Option Addr} {xs ys : List Int} (hx : Rd w B A n xs) (hy : Rd w B2 D m ys) (hn : n ≤ 1000000) (hm : m ≤ 1000000) :
    Calls Tryz.prog 17 #[.slice A n c, .slice D m d] w fun e w' => e = .returned (.bool (decide (xs = ys))) ∧ Below w.heap.size w w' := by
  have HX := Lib.hid hx
  have HY := Lib.hid hy
  have HXL := Lib.hid hx.len
  have HYL := Lib.hid hy.len
  clear hx hy
  by_cases hmn : n = m
  rotate_left
  · have hne : ((n : Int) != (m : Int)) = true := by rw [bne_iff_ne]; omega
    have HF : Hid (decide (xs = ys) = false) := Lib.hid (decide_eq_false (fun e => hmn (by rw [← HXL.out, ← HYL.out, e])))
    go_enter Tryz.func17, Tryz.ntmps17
    go_wp2_with fail
    refine bodyPost_ret (results_tmp rfl _ _ _) rfl ⟨?_, Below.refl _ _⟩
    exact congrArg (fun b => Ending.returned (.bool b)) HF.out.symm
  subst hmn
  go_enter Tryz.func17, Tryz.ntmps17
  go_wp2_with fail
  go_loop [5, 6, 14] (fun _ _ v => ∃ k : Nat, k ≤ n ∧ v = .int .i64 (k : Int) ∧ Hid (∀ i, i < k → ix xs i = ix ys i)) (fun _ _ v => n - (intOf v).toNat)
  case atStart => exact ⟨0, Nat.zero_le _, rfl, Lib.hid (fun i h => absurd h (by omega))⟩
  case round =>
    obtain ⟨k, hk, rfl, HOK⟩ := hrel
    by_cases hkn : k < n
    · have hd : decide ((k : Int) < (n : Int)) = true := by simp; omega
      have hki : (k : Int) < (n : Int) := by omega
      have hk0 : (0 : Int) ≤ (k : Int) := by omega
      have hadd : IntKind.i64.wrap ((k : Int) + 1) = ((k + 1 : Nat) : Int) := by rw [IntWalk.i64_in _ (by omega)]; omega
      obtain ⟨b1, o1, rfl, _, k1⟩ := HX.out.at_ hkn
      obtain ⟨b2, o2, rfl, _, k2⟩ := HY.out.at_ hkn
      obtain ⟨u, HU⟩ : ∃ u, Hid (ix xs k = u) := ⟨_, Lib.hid rfl⟩
      obtain ⟨v, HV⟩ : ∃ u, Hid (ix ys k = u) := ⟨_, Lib.hid rfl⟩
      rw [HU.out] at k1
      rw [HV.out] at k2
      by_cases he : u = v
      · have hne : (u != v) = false := by rw [bne_eq_false_iff_eq]; exact he
        have HE : Hid (ix xs k = ix ys k) := Lib.hid (by rw [HU.out, HV.out, he])
        clear he
        go_wp2_with fail
        go_round
        case rel => exact ⟨k + 1, by omega, by go_num, Lib.hid (fun i hi => by
          by_cases e : i = k
          · subst e; exact HE.out
          · exact HOK.out i (by omega))⟩
        case measure => simp [intOf]; omega
      · have hne : (u != v) = true := by rw [bne_iff_ne]; exact he
        have HF : Hid (decide (xs = ys) = false) := Lib.hid (decide_eq_false (fun e => he (by rw [← HU.out, ← HV.out, e])))
        clear he
        go_wp2_with fail
        refine bodyPost_ret (results_tmp rfl _ _ _) rfl ⟨?_, Below.refl _ _⟩
        exact congrArg (fun b => Ending.returned (.bool b)) HF.out.symm
    · have hd : decide ((k : Int) < (n : Int)) = false := by simp; omega
      have HF : Hid (decide (xs = ys) = true) := Lib.hid (decide_eq_true (list_ext_getD (by rw [HXL.out, HYL.out]) (fun i hi => HOK.out i (by have := HXL.out; omega))))
      go_wp2_with fail
      refine bodyPost_ret (results_tmp rfl _ _ _) rfl ⟨?_, Below.refl _ _⟩
      exact congrArg (fun b => Ending.returned (.bool b)) HF.out.symm
theorem infoPin : (Tryz.prog.info? 104).map (fun i => (i.zero, i.size, i.bytes)) = some (some (.agg #[.int .i64 0, .slice none 0 0]), 2, 32) := by kernel_rfl
theorem grown_set2 (w : World) (g : Nat) (a b : Value) : w.grownBy ((w.setCell ⟨g, 0, none⟩ a).setCell ⟨g, 1, none⟩ b) (some g) := grown_add (grown_set w g 0 a) (grown_set _ g 1 b)
theorem alloc3b (w : World) (o0 o1 o2 : Obj) : (((w.alloc o0).alloc o1).alloc o2).heap[w.heap.size]? = some o0 ∧ (((w.alloc o0).alloc o1).alloc o2).heap[w.heap.size + 1]? = some o1 ∧ (((w.alloc o0).alloc o1).alloc o2).heap[w.heap.size + 1 + 1]? = some o2 ∧ Below w.heap.size w (((w.alloc o0).alloc o1).alloc o2) ∧ (((w.alloc o0).alloc o1).alloc o2).heap.size = w.heap.size + 3 := by
  have s1 : (w.alloc o0).heap.size = w.heap.size + 1 := World.size_alloc _ _
  have s2 : ((w.alloc o0).alloc o1).heap.size = w.heap.size + 1 + 1 := by rw [World.size_alloc, s1]
  refine ⟨?_, ?_, ?_, ?_, by rw [World.size_alloc, s2]⟩
  · rw [Below.heap_alloc _ _ _ (by omega), Below.heap_alloc _ _ _ (by omega)]; exact heap_new w _
  · rw [Below.heap_alloc _ _ _ (by omega)]
    have := heap_new (w.alloc o0) o1; rw [s1] at this; exact this
  · have := heap_new ((w.alloc o0).alloc o1) o2; rw [s2] at this; exact this
  · exact (((Below.refl _ w).alloc (Nat.le_refl _) _).alloc (by omega) _).alloc (by omega) _
set_option maxHeartbeats 16000000 in
theorem plain_any {w : World} {B np cp nm cm : Nat} {Aq Am : Option Addr} {ps : List Nd} (hp : RdJ 2 pnI w (fun b => B ≤ b) Aq np ps) (hB : B ≤ w.heap.size) :
    Calls Tryz.prog 14 #[.agg #[.slice Aq np cp, .slice Am nm cm]] w fun en w' => ∃ A' n' c' ok, en = .returned (.tuple #[.agg #[.slice A' n' c', .slice Am nm cm], .bool ok]) ∧ Below w.heap.size w w' ∧ (ok = true → np ≤ 40 ∧ nm ≤ 40 ∧ (∀ p ∈ ps, SmR p.2) ∧ psI w' (fun b => b < w.heap.size) [.slice A' n' c'] ps) := by
  obtain ⟨W, HW⟩ : ∃ W, Hid (W = ((w.alloc (.cells #[.slice Aq np cp, .slice Am nm cm] 46)).alloc (.cells #[.slice none 0 0, .slice none 0 0] 49)).alloc (.cells #[.slice none 0 0, .slice Am nm cm] 49)) := ⟨_, Lib.hid rfl⟩
  obtain ⟨h0, h1, h2, hbl, hz⟩ := alloc3b w (.cells #[.slice Aq np cp, .slice Am nm cm] 46) (.cells #[.slice none 0 0, .slice none 0 0] 49) (.cells #[.slice none 0 0, .slice Am nm cm] 49)
  rw [← HW.out] at h0 h1 h2 hbl hz
  have HBL := Lib.hid hbl
  have HZ := Lib.hid hz
  have H0 := Lib.hid h0
  have H1 := Lib.hid h1
  have H2 := Lib.hid h2
  have HP := Lib.hid hp
  have HPL : Hid (ps.length = np) := Lib.hid hp.1
  clear hp h0 h1 h2 hbl hz
  obtain ⟨x0, x1, _⟩ := row2 H0.out
  go_enter Tryz.func14, Tryz.ntmps14
  go_upto_region 2 with fail
  change Code.wp _ _ _ _ (((w.alloc (.cells #[.slice Aq np cp, .slice Am nm cm] 46)).alloc (.cells #[.slice none 0 0, .slice none 0 0] 49)).alloc (.cells #[.slice none 0 0, .slice Am nm cm] 49))
  rw [← HW.out]
  obtain ⟨y0, y1, g0, g1⟩ := row2 H1.out
  obtain ⟨z0, z1, f0, f1⟩ := row2 H2.out
  by_cases h40 : 40 < np
  · have d1 : decide ((40 : Int) < (np : Int)) = true := by simp; omega
    go_wp2_with fail
    refine bodyPost_ret (v := .tuple #[.agg #[.slice none 0 0, .slice Am nm cm], .bool false]) ?_ rfl ⟨none, 0, 0, false, rfl, ?_, (fun h => by cases h)⟩
    · rw [results_cell_tmp rfl]; go_simp
    · exact (HBL.out.setCell (p := ⟨w.heap.size + 1, 0, none⟩) (by show w.heap.size ≤ w.heap.size + 1; omega) _).setCell (p := ⟨w.heap.size + 1, 1, none⟩) (by show w.heap.size ≤ w.heap.size + 1; omega) _
  have d1 : decide ((40 : Int) < (np : Int)) = false := by simp; omega
  by_cases h41 : 40 < nm
  · have d2 : decide ((40 : Int) < (nm : Int)) = true := by simp; omega
    go_wp2_with fail
    refine bodyPost_ret (v := .tuple #[.agg #[.slice none 0 0, .slice Am nm cm], .bool false]) ?_ rfl ⟨none, 0, 0, false, rfl, ?_, (fun h => by cases h)⟩
    · rw [results_cell_tmp rfl]; go_simp
    · exact (HBL.out.setCell (p := ⟨w.heap.size + 1, 0, none⟩) (by show w.heap.size ≤ w.heap.size + 1; omega) _).setCell (p := ⟨w.heap.size + 1, 1, none⟩) (by show w.heap.size ≤ w.heap.size + 1; omega) _
  have d2 : decide ((40 : Int) < (nm : Int)) = false := by simp; omega
  have HN40 : Hid (np ≤ 40 ∧ nm ≤ 40) := Lib.hid ⟨by omega, by omega⟩
  have hnp : np ≤ 40 := by omega
  clear y0 y1 g0 g1 z0 z1 f0 f1
  go_wp2_with fail
  clear x0 x1
  go_loopw [6, 7, 8, 26] (fun _ _ _ v wr => ∃ (k cO : Nat) (AO : Option Addr), k ≤ np ∧ v = .int .i64 (k : Int) ∧ Hid (Below w.heap.size w wr) ∧ Hid (wr.heap[w.heap.size + 1]? = some (.cells #[.slice none 0 0, .slice none 0 0] 49 (0, 0))) ∧ Hid (wr.heap[w.heap.size + 1 + 1]? = some (.cells #[.slice AO k cO, .slice Am nm cm] 49 (0, 0))) ∧ Hid (OwnJ 104 2 pnI wr (w.heap.size + 1 + 1 + 1) (.slice AO k cO) (ps.take k)) ∧ Hid (∀ i, i < k → SmR (pnAt ps i).2)) (fun _ _ _ v _ => np - (intOf v).toNat)
  case atStart => exact ⟨0, 0, none, Nat.zero_le _, rfl, HBL, H1, H2, Lib.hid (OwnJ.nil_ _ _ _ _ _), Lib.hid (fun i h => absurd h (by omega))⟩
  case round =>
    obtain ⟨wo, hwo⟩ : ∃ x, x = wr := ⟨_, rfl⟩
    subst hwo
    obtain ⟨k, cO, AO, hk, rfl, HBo, K1, K2, HO, HSM⟩ := hrel
    have hzo := HBo.out.size
    have hzo2 := heapE_lt K2.out
    by_cases hkn : k < np
    · have hd2 : decide ((k : Int) < (np : Int)) = true := by simp; omega
      have hki : (k : Int) < (np : Int) := by omega
      have hk0 : (0 : Int) ≤ (k : Int) := by omega
      have hadd2 : IntKind.i64.wrap ((k : Int) + 1) = ((k + 1 : Nat) : Int) := by rw [IntWalk.i64_in _ (by omega)]; omega
      have HKL : Hid (k < ps.length) := Lib.hid (by rw [HPL.out]; exact hkn)
      obtain ⟨b4, o4, A5, n5, c5, hA4, hb4, p0, p1, hcap5, hr5⟩ := nd_at (RdJ.below pn_turns HP.out (HBo.out.mono hB)) hkn
      subst hA4
      obtain ⟨pj, HPJ⟩ : ∃ pj, Hid ((pnAt ps k).1 = pj) := ⟨_, Lib.hid rfl⟩
      rw [HPJ.out] at p0
      obtain ⟨X, HX⟩ : ∃ X, Hid (X = wo.alloc (.cells #[.int .i64 pj, .slice A5 n5 c5] 97)) := ⟨_, Lib.hid rfl⟩
      have hbX : Below wo.heap.size wo X := by rw [HX.out]; exact (Below.refl _ wo).alloc (Nat.le_refl _) _
      have HX0 : Hid (X.heap[wo.heap.size]? = some (.cells #[.int .i64 pj, .slice A5 n5 c5] 97 (0, 0))) := Lib.hid (by rw [HX.out]; exact heap_new wo _)
      have HBX := Lib.hid hbX
      have HI := Lib.hid (rangeM_any (c := c5) (hr5.below (hbX.mono (Nat.le_trans hB hzo))) (Nat.le_trans (Nat.le_trans hB hzo) hbX.size))
      obtain ⟨y0, y1, _⟩ := row2 HX0.out
      clear hr5 hbX y0
      go_upto_region 7 with fail
      change Code.wp _ _ _ _ (wo.alloc (.cells #[.int .i64 pj, .slice A5 n5 c5] 97))
      rw [← HX.out]
      clear p0 p1
      go_wp2_with fail
      refine HI.out.mono ?_
      rintro e w1 ⟨A', n', c', okk, rfl, hb, hit⟩
      obtain ⟨X2, HX2⟩ : ∃ X2, Hid (X2 = w1.alloc (.cells #[.slice A' n' c'] 100)) := ⟨_, Lib.hid rfl⟩
      have hbX2 : Below w1.heap.size w1 X2 := by rw [HX2.out]; exact (Below.refl _ w1).alloc (Nat.le_refl _) _
      have HX20 : Hid (X2.heap[w1.heap.size]? = some (.cells #[.slice A' n' c'] 100 (0, 0))) := Lib.hid (by rw [HX2.out]; exact heap_new w1 _)
      have HB1 : Hid (Below wo.heap.size wo w1) := Lib.hid (HBX.out.trans (hb.mono HBX.out.size))
      have HB2 : Hid (Below wo.heap.size wo X2) := Lib.hid (HB1.out.trans (hbX2.mono HB1.out.size))
      have HW2 : Hid (Below w.heap.size w X2) := Lib.hid (HBo.out.trans (HB2.out.mono HBo.out.size))
      have Q1 : Hid (X2.heap[w.heap.size + 1]? = _) := Lib.hid ((HB2.out.block (w.heap.size + 1) (heapE_lt K1.out)).trans K1.out)
      have Q2 : Hid (X2.heap[w.heap.size + 1 + 1]? = _) := Lib.hid ((HB2.out.block (w.heap.size + 1 + 1) (heapE_lt K2.out)).trans K2.out)
      have HO2 := Lib.hid (HO.out.kept pn_turns HB2.out)
      have HQX : Hid (X2.heap[wo.heap.size]? = _) := Lib.hid ((hbX2.block wo.heap.size (by have := hb.size; have := heapE_lt HX0.out; omega)).trans ((hb.block wo.heap.size (heapE_lt HX0.out)).trans HX0.out))
      have HIT : Hid (okk = true → SmR (pnAt ps k).2 ∧ rgI X2 (fun b => b < X.heap.size) [.slice A' n' c'] (pnAt ps k).2) := Lib.hid (fun h => ⟨(hit h).1, rg_turns.kept (hit h).2 hbX2⟩)
      have HZX : Hid (wo.heap.size < X.heap.size ∧ X.heap.size ≤ X2.heap.size) := Lib.hid ⟨heapE_lt HX0.out, Nat.le_trans hb.size hbX2.size⟩
      clear hb hit hbX2 y1 HI
      go_upto_region 8 with fail
      change Code.wp _ _ _ _ (w1.alloc (.cells #[.slice A' n' c'] 100))
      rw [← HX2.out]
      obtain ⟨y0, y1, g0, g1⟩ := row2 Q1.out
      obtain ⟨z0, z1, f0, f1⟩ := row2 Q2.out
      cases okk with
      | false =>
        go_wp2_with fail
        refine bodyPost_ret (v := .tuple #[.agg #[.slice AO k cO, .slice Am nm cm], .bool false]) ?_ rfl ⟨AO, k, cO, false, rfl, ?_, (fun h => by cases h)⟩
        · rw [results_cell_tmp rfl]; go_simp
        · exact (HW2.out.setCell (p := ⟨w.heap.size + 1, 0, none⟩) (by show w.heap.size ≤ w.heap.size + 1; omega) _).setCell (p := ⟨w.heap.size + 1, 1, none⟩) (by show w.heap.size ≤ w.heap.size + 1; omega) _
      | true =>
        obtain ⟨hsm, hrg⟩ := HIT.out rfl
        have HSMk := Lib.hid hsm
        obtain ⟨rg, HRG⟩ : ∃ rg, Hid ((pnAt ps k).2 = rg) := ⟨_, Lib.hid rfl⟩
        rw [HRG.out] at hrg
        obtain ⟨u0, u1, _⟩ := row2 HQX.out
        obtain ⟨v0, _⟩ := row1f HX20.out
        have hal : Below X2.heap.size X2 (X2.alloc (.cells #[.int .i64 pj, .slice A' n' c'] 104)) := (Below.refl _ X2).alloc (Nat.le_refl _) _
        have HD := Lib.hid (cells_of (heap_new X2 (.cells #[.int .i64 pj, .slice A' n' c'] 104)))
        have HPI : Hid (pnI (X2.alloc (.cells #[.int .i64 pj, .slice A' n' c'] 104)) (Ap (w.heap.size + 1 + 1 + 1) (.slice AO k cO)) [.int .i64 pj, .slice A' n' c'] (pj, rg)) := Lib.hid ⟨[.int .i64 pj], [.slice A' n' c'], rfl, rfl, rg_turns.go hrg (FrM.of_grown (row := none) (grown_alloc1 X2 _ none) (fun g hg => by cases hg)) (fun b hb => .inl (by
          have := HZX.out
          rcases hb with hb | hb
          · have := (HO.out.ge b hb).2; show b < X.heap.size; omega
          · have : b < w.heap.size + 1 + 1 + 1 := hb; show b < X.heap.size; omega))⟩
        have hkl : (ps.take k).length = k := by rw [List.length_take, HPL.out]; omega
        have HKL2 := Lib.hid hkl
        have hzz := HZX.out
        clear hsm hrg hkl u1
        go_wp2_with (at_builtin; refine wplJ_app pn_turns Tryz.underlying47 infoPin rfl (by decide) (by decide) rfl (.tmp 40) (.tmp 45) rfl (w.heap.size + 1 + 1 + 1) (.slice AO k cO) (ps.take k) rfl (HO2.out.alloc pn_turns _) X2.heap.size [.int .i64 pj, .slice A' n' c'] (pj, rg) rfl rfl HD.out (by intro u hu; simp at hu; rcases hu with rfl | rfl <;> rfl) HPI.out (by rw [HKL2.out]; omega) (by simp; omega) ?_; intro g5 c5' w5 hown5 hgr5; (rw [HKL2.out] at hown5 ⊢); (have hge5 := fun g hg => (HO2.out.ge g hg).1); (have hz5 : X2.heap.size + 1 ≤ w5.heap.size := by (have := hgr5.size); rw [World.size_alloc] at this; exact this); (have k2 : w5.heap[w.heap.size + 1 + 1]? = _ := (hgr5.block (w.heap.size + 1 + 1) (by simp; omega) (fun e => by have := hge5 _ e.symm; omega)).trans ((Below.heap_alloc X2 _ (w.heap.size + 1 + 1) (heapE_lt Q2.out)).trans Q2.out)); (clear z0 z1 f0 f1); (obtain ⟨z0, z1, f0, f1⟩ := row2 k2))
        have KB : Hid (Below w.heap.size w (w5.setCell ⟨w.heap.size + 1 + 1, 0, none⟩ (.slice (some ⟨g5, 0, none⟩) (k + 1) c5'))) := Lib.hid ((((HW2.out.alloc HW2.out.size _).grown hgr5 (by simp; omega) (fun g hg => by have := hge5 g hg; omega))).setCell (p := ⟨w.heap.size + 1 + 1, 0, none⟩) (by show w.heap.size ≤ w.heap.size + 1 + 1; omega) _)
        have KK2 : Hid ((w5.setCell ⟨w.heap.size + 1 + 1, 0, none⟩ (.slice (some ⟨g5, 0, none⟩) (k + 1) c5')).heap[w.heap.size + 1 + 1]? = _) := Lib.hid (heap_setCell_same w5 (w.heap.size + 1 + 1) 0 _ _ (.slice (some ⟨g5, 0, none⟩) (k + 1) c5') k2)
        have k1 : w5.heap[w.heap.size + 1]? = _ := (hgr5.block (w.heap.size + 1) (by simp; omega) (fun e => by have := hge5 _ e.symm; omega)).trans ((Below.heap_alloc X2 _ (w.heap.size + 1) (heapE_lt Q1.out)).trans Q1.out)
        have hgs := grown_set w5 (w.heap.size + 1 + 1) 0 (.slice (some ⟨g5, 0, none⟩) (k + 1) c5')
        have KK1 : Hid ((w5.setCell ⟨w.heap.size + 1 + 1, 0, none⟩ (.slice (some ⟨g5, 0, none⟩) (k + 1) c5')).heap[w.heap.size + 1]? = _) := Lib.hid ((hgs.block (w.heap.size + 1) (by omega) (fun e => by injection e with e; omega)).trans k1)
        have KO : Hid (OwnJ 104 2 pnI (w5.setCell ⟨w.heap.size + 1 + 1, 0, none⟩ (.slice (some ⟨g5, 0, none⟩) (k + 1) c5')) (w.heap.size + 1 + 1 + 1) (.slice (some ⟨g5, 0, none⟩) (k + 1) c5') (ps.take (k + 1))) := Lib.hid (by
          rw [take_pn ps k HKL.out, show pnAt ps k = (pj, rg) by rw [← HPJ.out, ← HRG.out]]
          exact OwnJ.turn pn_turns hown5 hgs (fun g hg => by injection hg with hg; omega))
        have HSK : Hid (∀ i, i < k + 1 → SmR (pnAt ps i).2) := Lib.hid (fun i hi => by
          by_cases e : i = k
          · subst e; exact HSMk.out
          · exact HSM.out i (by omega))
        clear k1 k2 hgs hown5 hgr5 hge5 z0 z1 f0 f1
        go_wp2_with fail
        go_roundw
        case rel => exact ⟨k + 1, c5', some ⟨g5, 0, none⟩, by omega, by go_num, KB, KK1, KK2, KO, HSK⟩
        case measure => simp [intOf]; omega
    · have hd2 : decide ((k : Int) < (np : Int)) = false := by simp; omega
      obtain rfl : k = np := by omega
      have hps : ps.take k = ps := List.take_of_length_le (by rw [HPL.out]; exact Nat.le_refl _)
      have hO := HO.out
      rw [hps] at hO
      have HOF := Lib.hid hO
      have HSA : Hid (∀ p ∈ ps, SmR p.2) := Lib.hid (fun p hp => by
        obtain ⟨i, hi, rfl⟩ := List.getElem_of_mem hp
        have := HSM.out i (by rw [← HPL.out]; exact hi)
        rw [show pnAt ps i = ps[i] by simp [pnAt, List.getD, hi]] at this
        exact this)
      obtain ⟨y0, y1, g0, g1⟩ := row2 K1.out
      obtain ⟨z0, z1, f0, f1⟩ := row2 K2.out
      have hgs := grown_set2 wo (w.heap.size + 1) (.slice AO k cO) (.slice Am nm cm)
      have HPS : Hid (psI ((wo.setCell ⟨w.heap.size + 1, 0, none⟩ (.slice AO k cO)).setCell ⟨w.heap.size + 1, 1, none⟩ (.slice Am nm cm)) (fun b => b < w.heap.size) [.slice AO k cO] ps) := Lib.hid (ps_turns.go (HOF.out.item (M := fun b => b < w.heap.size + 1 + 1 + 1) pn_turns (fun b hb => .inl hb)) (FrM.of_grown hgs (fun g hg => by injection hg with hg; subst hg; show _ < _; omega)) (fun b (hb : b < w.heap.size) => .inl (by show b < _; omega)))
      clear hps hO hgs
      go_wp2_with fail
      refine bodyPost_ret (v := .tuple #[.agg #[.slice AO k cO, .slice Am nm cm], .bool true]) ?_ rfl ⟨AO, k, cO, true, rfl, ?_, (fun _ => ⟨HN40.out.1, HN40.out.2, HSA.out, HPS.out⟩)⟩
      · rw [results_cell_tmp rfl]; go_simp
      · exact (HBo.out.setCell (p := ⟨w.heap.size + 1, 0, none⟩) (by show w.heap.size ≤ w.heap.size + 1; omega) _).setCell (p := ⟨w.heap.size + 1, 1, none⟩) (by show w.heap.size ≤ w.heap.size + 1; omega) _
end Go.Proofs.YtlodledcglleiaaGreat
