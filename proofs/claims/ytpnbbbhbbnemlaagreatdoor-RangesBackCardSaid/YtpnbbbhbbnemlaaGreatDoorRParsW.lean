/-
  RANGES: contract: Parse.
-/
import Derived.Test.YtpnbbbhbbnemlaaGreatDoorRParse
namespace Go.Proofs.YtpnbbbhbbnemlaaGreatDoor
open Go.RowKit
open SemP
set_option linter.unusedVariables false
set_option linter.unusedSimpArgs false
set_option maxRecDepth 100000

set_option maxHeartbeats 8000000 in
theorem RgParse_any (s : ByteArray) (w : World) (hs : s.size < 4294967281) (hg : SignsAt w) (hm : LenAt w) (h1 : 1 < w.heap.size) :
    Calls Tryz.prog 15 #[.string s] w fun e w' => RangeR (parseG s) e w' ∧ Below w.heap.size w w' := by
  obtain ⟨W0, hW0⟩ : ∃ W0, w.alloc (.cells #[.slice none 0 0] 24) = W0 := ⟨_, rfl⟩
  have hb0 : Below w.heap.size w W0 := by rw [← hW0]; exact (Below.refl _ w).alloc (Nat.le_refl _) _
  have HX0 : Hid (W0.heap[w.heap.size]? = some (.cells #[.slice none 0 0] 24)) := Lib.hid (by rw [← hW0]; exact World.alloc_heap_new _ _)
  have HL0 : Hid (w.heap.size < W0.heap.size) := Lib.hid (by rw [← hW0]; simp)
  have HM0 := Lib.hid (hm.below h1 hb0)
  have HG0 : Hid (SignsAt W0) := Lib.hid (hg.below hb0 (by omega))
  have HB0 := Lib.hid hb0
  have HW0 := Lib.hid hW0
  obtain ⟨m, hmm⟩ := HM0.out.1
  have HSP := Lib.hid (Tryz.strings_SplitN s ⟨#[32, 124, 124, 32]⟩ 9 m W0 hs hmm (by decide) (by decide) (by decide))
  obtain ⟨ps, hps⟩ : ∃ ps, Lib.splitB ⟨#[32, 124, 124, 32]⟩ 0 (min 9 (s.size + 1) - 1) s = ps := ⟨_, rfl⟩
  have HPS : Hid (texts9 ⟨#[32, 124, 124, 32]⟩ s = ps) := Lib.hid hps
  have HL9 : Hid (ps.length ≤ 9) := Lib.hid (by rw [← HPS.out]; exact texts9_len _ _)
  have HPZ : Hid (∀ i, i < ps.length → (ps.getD i ⟨#[]⟩).size < 4294967281) := Lib.hid (fun i hi => by
    have := splitB_size ⟨#[32, 124, 124, 32]⟩ (min 9 (s.size + 1) - 1) s (ps.getD i ⟨#[]⟩) (by rw [hps]; simp [List.getD, hi])
    omega)
  rw [hps] at HSP
  clear hmm hg hps hs hm hb0 hW0
  go_enter Tryz.func15, Tryz.ntmps15
  go_wp2_with fail
  try rw [show w.alloc (.cells #[.slice none 0 0] 24) = W0 from HW0.out]
  refine HSP.out.mono ?_
  rintro e W1 ⟨rfl, hw⟩
  have HC1 : Hid (∀ i, i < ps.length → W1.cell? ⟨W0.heap.size, i, none⟩ = some (.string (ps.getD i ⟨#[]⟩))) := Lib.hid (fun i hi => by
    have h := World.alloc_heap_new W0 (.cells (Lib.cellsOf ps (min 9 (s.size + 1))) 9)
    rw [hw]
    simp only [World.cell?, h]
    simp [cellsOf_get hi])
  have hb1 : Below W0.heap.size W0 W1 := by rw [hw]; exact (Below.refl _ W0).alloc (Nat.le_refl _) _
  have HZ1 : Hid (W0.heap.size < W1.heap.size) := Lib.hid (by rw [hw]; simp)
  have HB1 : Hid (Below w.heap.size w W1) := Lib.hid (HB0.out.trans (hb1.mono HB0.out.size))
  have HM1 := Lib.hid (HM0.out.1.below HM0.out.2 hb1)
  have HG1 : Hid (SignsAt W1) := Lib.hid (HG0.out.below hb1 (by have := HM0.out.2; omega))
  have HX1 : Hid (W1.heap[w.heap.size]? = some (.cells #[.slice none 0 0] 24)) := Lib.hid ((hb1.block _ HL0.out).trans HX0.out)
  have HL1 : Hid (w.heap.size < W1.heap.size) := Lib.hid (Nat.lt_trans HL0.out HZ1.out)
  clear hw HSP hb1
  obtain ⟨L, hL⟩ : ∃ L, ps.length = L := ⟨_, rfl⟩
  have HL := Lib.hid hL
  rw [hL]
  rw [hL] at HL9 HPZ HC1
  clear hL
  have x0 : W1.cell? ⟨w.heap.size, 0, none⟩ = some (.slice none 0 0) := cell1 HX1.out
  have xf : W1.frozen? ⟨w.heap.size, 0, none⟩ = false := by simp only [World.frozen?, HX1.out]; rfl
  by_cases h8 : 8 < L
  · have d8 : decide (8 < (L : Int)) = true := decide_eq_true (by omega)
    have HN : Hid (parseG s = none) := Lib.hid (by unfold parseG; rw [HPS.out, if_pos (by rw [HL.out]; exact h8)])
    have HBS : Hid (∀ u, Below w.heap.size w (W1.setCell ⟨w.heap.size, 0, none⟩ u)) := Lib.hid (fun u => HB1.out.setCell (p := ⟨w.heap.size, 0, none⟩) (Nat.le_refl _) u)
    go_wp2
    refine bodyPost_ret (v := .tuple #[.agg #[.slice none 0 0], .int .i64 10]) (by simp [results, Tryz.results15, go_sem, x0]) rfl ⟨?_, HBS.out _⟩
    rw [HN.out]; rfl
  · have d8 : decide (8 < (L : Int)) = false := decide_eq_false (by omega)
    have HPL : Hid (parseG s = if ps.all (fun p => (parseL p).isSome) then some (ps.map (fun p => (parseL p).getD [])) else none) := Lib.hid (by unfold parseG; rw [HPS.out, if_neg (by rw [HL.out]; exact h8)])
    obtain ⟨W2, hW2⟩ : ∃ W2, W1.alloc (.cells #[.slice none 0 0] 24) = W2 := ⟨_, rfl⟩
    obtain ⟨b5, hb5⟩ : ∃ b5, W1.heap.size = b5 := ⟨_, rfl⟩
    have HB5 := Lib.hid hb5
    have HX2 : Hid (W2.heap[b5]? = some (.cells #[.slice none 0 0] 24)) := Lib.hid (by rw [← hW2, ← hb5]; exact World.alloc_heap_new _ _)
    have hz2 : W2.heap.size = b5 + 1 := by rw [← hW2, ← hb5]; simp
    have hb2 : Below b5 W1 W2 := by rw [← hW2, ← hb5]; exact (Below.refl _ W1).alloc (Nat.le_refl _) _
    have HB12 := Lib.hid hb2
    have HZ2 := Lib.hid hz2
    have HC2 : Hid (∀ i, i < L → W2.cell? ⟨W0.heap.size, i, none⟩ = some (.string (ps.getD i ⟨#[]⟩))) := Lib.hid (fun i hi => (hb2.cell (p := ⟨W0.heap.size, i, none⟩) (by rw [← hb5]; exact HZ1.out)).trans (HC1.out i hi))
    have HW2 := Lib.hid hW2
    have HLW : Hid (w.heap.size < b5 ∧ W0.heap.size < b5 ∧ 1 < b5) := Lib.hid ⟨by rw [← hb5]; exact HL1.out, by rw [← hb5]; exact HZ1.out, by rw [← hb5]; exact HM1.out.2⟩
    clear hz2 hb2 hW2 x0 xf
    go_wp2
    rw [show W1.alloc (.cells #[.slice none 0 0] 24) = W2 from HW2.out]
    go_loopw [7, 8, 9, 18] (fun v7 v8 v9 v18 wr => ∃ (i : Nat) (v : Value) (vs : List Value), i ≤ L ∧ v18 = .int .i64 (i : Int) ∧ Hid (∀ j, j < i → (parseL (ps.getD j ⟨#[]⟩)).isSome = true) ∧ Hid (wr.cell? ⟨b5, 0, none⟩ = some v ∧ wr.frozen? ⟨b5, 0, none⟩ = false) ∧ Hid (OwnV wr (b5 + 1) v vs) ∧ Hid (RowL wr b5 v vs ((ps.take i).map (fun p => (parseL p).getD []))) ∧ Hid (Below b5 W1 wr) ∧ Hid (b5 + 1 ≤ wr.heap.size)) (fun _ _ _ v _ => L - (intOf v).toNat)
    case atStart => exact ⟨0, .slice none 0 0, [], Nat.zero_le _, rfl, Lib.hid (fun j hj => absurd hj (by omega)), Lib.hid ⟨cell1 HX2.out, by simp only [World.frozen?, HX2.out]; rfl⟩, Lib.hid (World.ownsRow_nil _ _ _ _), Lib.hid (RowL.nil _ _ _), HB12, Lib.hid (Nat.le_of_eq HZ2.out.symm)⟩
    case round =>
      obtain ⟨i, v, vs, hi, rfl, HD, HC, HO, HR, HB, HZ⟩ := hrel
      have HLV : Hid (vs.length = i ∨ True) := Lib.hid (.inr trivial)
      have HTL : Hid (((ps.take i).map (fun p => (parseL p).getD [])).length = i) := Lib.hid (by rw [List.length_map, List.length_take, HL.out]; omega)
      have HVL : Hid (vs.length = i) := Lib.hid (HR.out.1.trans HTL.out)
      by_cases him : i < L
      · have hd : decide ((i : Int) < (L : Int)) = true := decide_eq_true (by omega)
        have hadd : IntKind.i64.wrap ((i : Int) + 1) = ((i + 1 : Nat) : Int) := by rw [IntWalk.i64_in _ (by have := HL9.out; omega)]; omega
        have hc : wr.cell? ⟨W0.heap.size, i, none⟩ = some (.string (ps.getD i ⟨#[]⟩)) := (HB.out.cell (p := ⟨W0.heap.size, i, none⟩) HLW.out.2.1).trans (HC1.out i him)
        have HMr : Hid (LenAt wr ∧ 1 < wr.heap.size) := Lib.hid (by
          obtain ⟨m, hmm⟩ := HM1.out.1
          exact ⟨⟨m, (HB.out.cell (p := ⟨1, 0, none⟩) HLW.out.2.2).trans hmm⟩, by have := HZ.out; have := HLW.out.2.2; omega⟩)
        have HGr : Hid (SignsAt wr) := Lib.hid (HG1.out.below HB.out (by have := HLW.out.2.2; omega))
        have HZP : Hid ((ps.getD i ⟨#[]⟩).size < 4294967281) := Lib.hid (HPZ.out i him)
        obtain ⟨p, hp⟩ : ∃ p, ps.getD i ⟨#[]⟩ = p := ⟨_, rfl⟩
        have HPI := Lib.hid hp
        rw [hp] at hc HZP
        have HPC := Lib.hid (parseList_any p wr HZP.out HGr.out HMr.out.1 HMr.out.2)
        clear hp
        go_wp2_with fail
        refine HPC.out.mono ?_
        rintro e W4 ⟨hl, hb⟩
        have HC4 : Hid (W4.cell? ⟨b5, 0, none⟩ = some v ∧ W4.frozen? ⟨b5, 0, none⟩ = false) := Lib.hid ⟨(hb.cell (p := ⟨b5, 0, none⟩) (by have := HZ.out; show b5 < _; omega)).trans HC.out.1, (hb.frozen (p := ⟨b5, 0, none⟩) (by have := HZ.out; show b5 < _; omega)).trans HC.out.2⟩
        have HO4 : Hid (OwnV W4 (b5 + 1) v vs) := Lib.hid (own_kept HO.out hb)
        have HR4 := Lib.hid (HR.out.map (fun A n l h => h.below hb))
        have HB4 : Hid (Below b5 W1 W4) := Lib.hid (HB.out.trans (hb.mono (by have := HZ.out; omega)))
        have HZ4 : Hid (b5 + 1 ≤ W4.heap.size) := Lib.hid (Nat.le_trans HZ.out hb.size)
        have HOV : Hid (∀ g, v.ownBlock = some g → g < wr.heap.size) := Lib.hid (own_lt HO.out)
        clear hb HPC hc
        cases hpl : parseL p with
        | none =>
          rw [hpl] at hl
          obtain rfl : e = .returned (.tuple #[.slice none 0 0, .bool false]) := hl
          have HN : Hid (parseG s = none) := Lib.hid (by
            rw [HPL.out, if_neg]
            rw [allp_not (p := fun p => (parseL p).isSome) (by rw [HL.out]; exact him) (by show (parseL (ps.getD i ⟨#[]⟩)).isSome = false; rw [HPI.out, hpl]; rfl)]; simp)
          have hx4 : W4.heap[w.heap.size]? = some (.cells #[.slice none 0 0] 24) := (HB4.out.block _ HLW.out.1).trans HX1.out
          have x0 : W4.cell? ⟨w.heap.size, 0, none⟩ = some (.slice none 0 0) := cell1 hx4
          have xf : W4.frozen? ⟨w.heap.size, 0, none⟩ = false := by simp only [World.frozen?, hx4]; rfl
          have HBS : Hid (∀ u, Below w.heap.size w (W4.setCell ⟨w.heap.size, 0, none⟩ u)) := Lib.hid (fun u => (HB1.out.trans (HB4.out.mono (by have := HLW.out.1; omega))).setCell (p := ⟨w.heap.size, 0, none⟩) (Nat.le_refl _) u)
          clear hpl hx4
          go_wp2
          refine bodyPost_ret (v := .tuple #[.agg #[.slice none 0 0], .int .i64 10]) (by simp [results, Tryz.results15, go_sem, x0]) rfl ⟨?_, HBS.out _⟩
          rw [HN.out]; rfl
        | some l =>
          rw [hpl] at hl
          obtain ⟨Al, cl, rfl, hrc, hlo⟩ := hl
          have HRC := Lib.hid hrc
          have HOK2 : Hid (∀ j, j < i + 1 → (parseL (ps.getD j ⟨#[]⟩)).isSome = true) := Lib.hid (fun j hj => by
            rcases Nat.lt_succ_iff_lt_or_eq.1 hj with h | h
            · exact HD.out j h
            · subst h; rw [HPI.out, hpl]; rfl)
          have HTS : Hid ((ps.take (i + 1)).map (fun p => (parseL p).getD []) = (ps.take i).map (fun p => (parseL p).getD []) ++ [l]) := Lib.hid (by rw [take_snocL (by rw [HL.out]; exact him) (fun p => (parseL p).getD []), HPI.out, hpl]; rfl)
          have HIN : Hid (InL W4 b5 v Al l.length l) := Lib.hid ⟨hrc, fun b off e => ⟨fun e2 => by have h1 := HOV.out b e2; have h2 := (hlo b off e).1; omega, by have h2 := (hlo b off e).1; have := HZ.out; omega, (hlo b off e).2⟩⟩
          obtain ⟨Av, cv, hv⟩ := HO4.out.shape
          rw [HVL.out] at hv
          subst hv
          have x0 := HC4.out.1
          have xf := HC4.out.2
          have HO5 : Hid (OwnV (W4.alloc (.cells #[.slice Al l.length cl] 70)) (b5 + 1) (.slice Av i cv) vs) := Lib.hid (World.ownsRow.alloc HO4.out _)
          have ha : Below W4.heap.size W4 (W4.alloc (.cells #[.slice Al l.length cl] 70)) := (Below.refl _ W4).alloc (Nat.le_refl _) _
          have HR5 := Lib.hid ((HR4.out.snoc (c := cl) HIN.out).map (fun A n l h => h.below ha))
          have HB5' : Hid (Below b5 W1 (W4.alloc (.cells #[.slice Al l.length cl] 70))) := Lib.hid (HB4.out.trans (ha.mono (by have := HZ4.out; omega)))
          have HZ5 : Hid (b5 + 1 ≤ (W4.alloc (.cells #[.slice Al l.length cl] 70)).heap.size) := Lib.hid (Nat.le_trans HZ4.out ha.size)
          have HC5 : Hid ((W4.alloc (.cells #[.slice Al l.length cl] 70)).heap[b5]? = W4.heap[b5]?) := Lib.hid (Below.heap_alloc _ _ _ (by have := HZ4.out; omega))
          clear hrc hlo hpl ha
          go_wp2_with (at_builtin; refine wpl_appL rfl (.tmp 31) (.tmp 33) rfl (b5 + 1) (.slice Av i cv) vs rfl HO5.out W4.heap.size Al l.length cl rfl (by simp) (by rw [HVL.out]; have := HL9.out; omega) HZ5.out ?_; intro g c2 w2 hown2 hgr2 hat2; (have hb52 : w2.heap[b5]? = W4.heap[b5]? := (hgr2.block b5 (by have := HZ5.out; omega) (fun e2 => by have := own_ge HO5.out b5 e2.symm; omega)).trans HC5.out); (have y0 : w2.cell? ⟨b5, 0, none⟩ = some (.slice Av i cv) := (World.cell?_of_block hb52).trans HC4.out.1); (have yf : w2.frozen? ⟨b5, 0, none⟩ = false := (World.frozen?_of_block hb52).trans HC4.out.2); (have HOWN2 := Lib.hid hown2); (have HGR2 := Lib.hid hgr2); (have HAT2 := Lib.hid hat2); clear hown2 hgr2 hat2 hb52)
          go_roundw
          case rel =>
            have hV : (Value.slice (some ⟨g, 0, none⟩) (vs.length + 1) c2).ownBlock = (Value.slice Av i cv).ownBlock ∨ (Value.slice (some ⟨g, 0, none⟩) (vs.length + 1) c2).ownBlock = some (W4.alloc (.cells #[.slice Al l.length cl] 70)).heap.size := HAT2.out
            have hgb : b5 + 1 ≤ g := own_ge HOWN2.out g rfl
            refine ⟨i + 1, .slice (some ⟨g, 0, none⟩) (vs.length + 1) c2, vs ++ [.slice Al l.length cl], by omega, rfl, HOK2, Lib.hid ⟨World.cell?_setCell_same _ _ _ y0, by simp [yf]⟩, Lib.hid ?_, Lib.hid ?_, Lib.hid ?_, Lib.hid ?_⟩
            · have h := HOWN2.out
              refine ⟨h.1, ?_⟩
              rcases h.2 with h | ⟨g', cap, cur, hv, hbg, hh, r⟩
              · exact .inl h
              · refine .inr ⟨g', cap, cur, hv, hbg, ?_, r⟩
                rw [Below.heap_setCell _ _ _ _ (by show g' ≠ b5; omega)]
                exact hh
            · rw [HTS.out]
              exact (HR5.out.map (fun A n l h => h.grown HGR2.out hV)).map (fun A n l h => h.setBox (Nat.le_refl _))
            · exact (HB5'.out.grown HGR2.out (by have := HZ5.out; omega) (fun g hg => by have := own_ge HO5.out g hg; omega)).setCell (p := ⟨b5, 0, none⟩) (Nat.le_refl _) _
            · have := HGR2.out.size; have := HZ5.out; simp; omega
          case measure => simp [intOf]; omega
      · have hd : decide ((i : Int) < (L : Int)) = false := decide_eq_false (by omega)
        have hiL : i = L := by omega
        subst hiL
        have HT : Hid (parseG s = some (ps.map (fun p => (parseL p).getD []))) := Lib.hid (by rw [HPL.out, if_pos (allp_at (fun j hj => HD.out j (by rw [HL.out] at hj; exact hj)))])
        have HRF : Hid (RowL wr b5 v vs (ps.map (fun p => (parseL p).getD []))) := Lib.hid (by have h := HR.out; rw [List.take_of_length_le (by rw [HL.out]; exact Nat.le_refl _)] at h; exact h)
        obtain ⟨Av, cv, hv⟩ := HO.out.shape
        rw [HRF.out.1] at hv
        subst hv
        have x0 := HC.out.1
        have hx4 : wr.heap[w.heap.size]? = some (.cells #[.slice none 0 0] 24) := (HB.out.block _ HLW.out.1).trans HX1.out
        have y0 : wr.cell? ⟨w.heap.size, 0, none⟩ = some (.slice none 0 0) := cell1 hx4
        have yf : wr.frozen? ⟨w.heap.size, 0, none⟩ = false := by simp only [World.frozen?, hx4]; rfl
        have HBS : Hid (∀ u, Below w.heap.size w (wr.setCell ⟨w.heap.size, 0, none⟩ u)) := Lib.hid (fun u => (HB1.out.trans (HB.out.mono (by have := HLW.out.1; omega))).setCell (p := ⟨w.heap.size, 0, none⟩) (Nat.le_refl _) u)
        have HRD : Hid (∀ u, RdR (wr.setCell ⟨w.heap.size, 0, none⟩ u) (wr.setCell ⟨w.heap.size, 0, none⟩ u).heap.size Av (ps.map (fun p => (parseL p).getD [])).length (ps.map (fun p => (parseL p).getD []))) := Lib.hid (fun u => by
          have h1 := HRF.out.map (fun A n l h => h.setBox (u := u) (k := w.heap.size) (by have := HLW.out.1; omega))
          refine RowL.rd h1 (base := b5 + 1) ?_ rfl
          have h := HO.out
          refine ⟨h.1, ?_⟩
          rcases h.2 with h | ⟨g', cap, cur, hv, hbg, hh, r⟩
          · exact .inl h
          · refine .inr ⟨g', cap, cur, hv, hbg, ?_, r⟩
            rw [Below.heap_setCell _ _ _ _ (by have := HLW.out.1; show g' ≠ w.heap.size; omega)]
            exact hh)
        clear hx4
        go_wp2
        refine bodyPost_ret (v := .tuple #[.agg #[.slice Av (ps.map (fun p => (parseL p).getD [])).length cv], .int .i64 0]) (by simp [results, Tryz.results15, go_sem, y0]) rfl ⟨?_, HBS.out _⟩
        rw [HT.out]
        exact ⟨Av, cv, rfl, HRD.out _⟩
end Go.Proofs.YtpnbbbhbbnemlaaGreatDoor
