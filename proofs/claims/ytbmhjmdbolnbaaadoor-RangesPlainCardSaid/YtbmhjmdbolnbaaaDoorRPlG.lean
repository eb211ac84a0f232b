/-
  CONTRACT: Plain (printed by genrpl3.py).
-/
import Derived.Test.YtbmhjmdbolnbaaaDoorRPlL
namespace Go.Proofs.YtbmhjmdbolnbaaaDoor
open Go.RowKit
open SemP
set_option linter.unusedVariables false
set_option linter.unusedSimpArgs false
set_option maxRecDepth 100000
/-- What Plain answers. -/
def PlainA (r : List (List CV)) (e : Ending) (w' : World) : Prop :=
  if rightR r = false then e = .returned (.tuple #[.agg #[.slice none 0 0], .int .i64 12])
  else if shortR r = false then e = .returned (.tuple #[.agg #[.slice none 0 0], .int .i64 11])
  else ∃ A c, e = .returned (.tuple #[.agg #[.slice A r.length c], .int .i64 0]) ∧ RdR w' w'.heap.size A r.length (plainRg r)
theorem short_not {r : List (List CV)} {j : Nat} (hj : j < r.length) (h : ¬ (plainLs (lsAt r j)).length ≤ 8) : shortR r = false := by
  unfold shortR
  exact allR_not (p := fun l => decide ((plainLs l).length ≤ 8)) hj (decide_eq_false h)
set_option maxHeartbeats 16000000 in
theorem RgPlain_any (A : Option Addr) (m cp : Nat) (r : List (List CV)) (w : World) (B : Nat) (hr : RdR w B A m r) (hB : B ≤ w.heap.size) (hf : Fits r) (hm20 : m ≤ 20) (hm : LenAt w) (h1 : 1 < w.heap.size) :
    Calls Tryd.prog 38 #[.agg #[.slice A m cp]] w fun e w' => PlainA r e w' ∧ Below w.heap.size w w' := by
  obtain ⟨W0, hW0⟩ : ∃ W0, (w.alloc (.cells #[.slice A m cp] 48)).alloc (.cells #[.slice none 0 0] 48) = W0 := ⟨_, rfl⟩
  have hz0 : W0.heap.size = w.heap.size + 2 := by rw [← hW0]; simp
  have hb0 : Below w.heap.size w W0 := by rw [← hW0]; exact ((Below.refl _ w).alloc (Nat.le_refl _) _).alloc (by simp) _
  have hX0 : W0.heap[w.heap.size]? = some (.cells #[.slice A m cp] 48) := by
    rw [← hW0, Below.heap_alloc _ _ _ (by simp)]; exact World.alloc_heap_new _ _
  have hX1 : W0.heap[w.heap.size + 1]? = some (.cells #[.slice none 0 0] 48) := by
    rw [← hW0]
    have h := World.alloc_heap_new (w.alloc (.cells #[.slice A m cp] 48)) (.cells #[.slice none 0 0] 48)
    rw [World.size_alloc] at h; exact h
  have HX0 := Lib.hid hX0
  have HX1 := Lib.hid hX1
  have HL0 : Hid (w.heap.size < W0.heap.size ∧ w.heap.size + 1 < W0.heap.size) := Lib.hid ⟨by omega, by omega⟩
  have HM0 := Lib.hid (hm.below h1 hb0)
  have HB0 := Lib.hid hb0
  have HW0 := Lib.hid hW0
  have HR0 : Hid (RdR W0 B A m r) := Lib.hid (hr.below (hb0.mono hB))
  have HBB := Lib.hid hB
  have HLE := Lib.hid hr.1
  have HM20 := Lib.hid hm20
  have HC := Lib.hid (RgRight_any A m cp r W0 B HR0.out (Nat.le_trans hB hb0.size) hf (by omega) HM0.out.1 HM0.out.2)
  have c1 := cell1 hX0
  rw [← hW0] at c1
  clear hr hf hB hb0 hW0 hX0 hX1 hz0 hm20 hm h1
  go_enter Tryd.func38, Tryd.ntmps38
  go_wp2_with fail
  try rw [show (w.alloc (.cells #[.slice A m cp] 48)).alloc (.cells #[.slice none 0 0] 48) = W0 from HW0.out]
  refine HC.out.mono ?_
  rintro e W1 ⟨rfl, hb⟩
  clear HC c1
  have HB1 : Hid (Below w.heap.size w W1) := Lib.hid (HB0.out.trans (hb.mono HB0.out.size))
  have HM1 := Lib.hid (HM0.out.1.below HM0.out.2 hb)
  have hx1 : W1.heap[w.heap.size + 1]? = some (.cells #[.slice none 0 0] 48) := (hb.block _ HL0.out.2).trans HX1.out
  have hx0 : W1.heap[w.heap.size]? = some (.cells #[.slice A m cp] 48) := (hb.block _ HL0.out.1).trans HX0.out
  have HXX1 := Lib.hid (And.intro hx0 hx1)
  have HL1 : Hid (w.heap.size < W1.heap.size ∧ w.heap.size + 1 < W1.heap.size) := Lib.hid ⟨Nat.lt_of_lt_of_le HL0.out.1 hb.size, Nat.lt_of_lt_of_le HL0.out.2 hb.size⟩
  have HR1 : Hid (RdR W1 B A m r) := Lib.hid (HR0.out.below (hb.mono (Nat.le_trans HBB.out HB0.out.size)))
  clear hb
  cases hrr : rightR r with
  | false =>
    have HP : Hid (∀ w', PlainA r (.returned (.tuple #[.agg #[.slice none 0 0], .int .i64 12])) w') := Lib.hid (fun w' => by unfold PlainA; rw [if_pos hrr])
    have x0 : W1.cell? ⟨w.heap.size + 1, 0, none⟩ = some (.slice none 0 0) := cell1 hx1
    have xf : W1.frozen? ⟨w.heap.size + 1, 0, none⟩ = false := by simp only [World.frozen?, hx1]; rfl
    have HBS : Hid (∀ u, Below w.heap.size w (W1.setCell ⟨w.heap.size + 1, 0, none⟩ u)) := Lib.hid (fun u => HB1.out.setCell (p := ⟨w.heap.size + 1, 0, none⟩) (by simp) u)
    clear hrr hx0 hx1
    go_wp2
    refine bodyPost_ret (v := .tuple #[.agg #[.slice none 0 0], .int .i64 12]) (by simp [results, Tryd.results38, go_sem, x0]) rfl ⟨HP.out _, HBS.out _⟩
  | true =>
    have HRR := Lib.hid hrr
    obtain ⟨b5, hb5⟩ : ∃ b5, W1.heap.size = b5 := ⟨_, rfl⟩
    obtain ⟨W2, hW2⟩ : ∃ W2, W1.alloc (.cells #[.slice none 0 0] 48) = W2 := ⟨_, rfl⟩
    have HX2 : Hid (W2.heap[b5]? = some (.cells #[.slice none 0 0] 48)) := Lib.hid (by rw [← hW2, ← hb5]; exact World.alloc_heap_new _ _)
    have HZ2 : Hid (W2.heap.size = b5 + 1) := Lib.hid (by rw [← hW2, ← hb5]; simp)
    have HB12 : Hid (Below b5 W1 W2) := Lib.hid (by rw [← hW2, ← hb5]; exact (Below.refl _ W1).alloc (Nat.le_refl _) _)
    have HLW : Hid (w.heap.size < b5 ∧ w.heap.size + 1 < b5 ∧ 1 < b5) := Lib.hid ⟨by rw [← hb5]; exact HL1.out.1, by rw [← hb5]; exact HL1.out.2, by rw [← hb5]; exact HM1.out.2⟩
    have c1 : (W1.alloc (.cells #[.slice none 0 0] 48)).cell? ⟨w.heap.size, 0, none⟩ = some (.slice A m cp) := cell1 ((Below.heap_alloc _ _ _ HL1.out.1).trans hx0)
    have HW2 := Lib.hid hW2
    have HB5 := Lib.hid hb5
    clear hrr hx0 hx1 hW2 hb5
    go_wp2
    try rw [show W1.alloc (.cells #[.slice none 0 0] 48) = W2 from HW2.out]
    try rw [show W1.heap.size = b5 from HB5.out]
    clear c1
    go_loopw [6, 7, 15] (fun v6 v7 v15 wr => ∃ (i : Nat) (v : Value) (vs : List Value), i ≤ m ∧ v15 = .int .i64 (i : Int) ∧ Hid (∀ j, j < i → decide ((plainLs (lsAt r j)).length ≤ 8) = true) ∧ Hid (wr.cell? ⟨b5, 0, none⟩ = some v ∧ wr.frozen? ⟨b5, 0, none⟩ = false) ∧ Hid (OwnV wr (b5 + 1) v vs) ∧ Hid (RowL wr b5 v vs (plainRg (r.take i))) ∧ Hid (Below b5 W1 wr) ∧ Hid (b5 + 1 ≤ wr.heap.size)) (fun _ _ v _ => m - (intOf v).toNat)
    case atStart => exact ⟨0, .slice none 0 0, [], Nat.zero_le _, rfl, Lib.hid (fun j hj => absurd hj (by omega)), Lib.hid ⟨cell1 HX2.out, by simp only [World.frozen?, HX2.out]; rfl⟩, Lib.hid (World.ownsRow_nil _ _ _ _), Lib.hid (RowL.nil _ _ _), HB12, Lib.hid (Nat.le_of_eq HZ2.out.symm)⟩
    case round =>
      obtain ⟨i, v, vs, hi, rfl, HD, HC, HO, HR, HB, HZ⟩ := hrel
      have HTL : Hid ((plainRg (r.take i)).length = i) := Lib.hid (by unfold plainRg; rw [List.length_map, List.length_take, HLE.out]; omega)
      have HVL : Hid (vs.length = i) := Lib.hid (HR.out.1.trans HTL.out)
      by_cases him : i < m
      · have hd : decide ((i : Int) < (m : Int)) = true := decide_eq_true (by omega)
        have hadd : IntKind.i64.wrap ((i : Int) + 1) = ((i + 1 : Nat) : Int) := by rw [IntWalk.i64_in _ (by have := HM20.out; omega)]; omega
        obtain ⟨b, off, Aj, nj, cj, rfl, hlt, q0, hrc⟩ := (HR1.out.below (HB.out.mono (by have := HBB.out; have := HLW.out.1; omega))).2 i him
        have HIL : Hid (i < r.length) := Lib.hid (by rw [HLE.out]; exact him)
        obtain ⟨l, hl⟩ : ∃ l, lsAt r i = l := ⟨_, rfl⟩
        have HLL := Lib.hid hl
        rw [hl] at hrc
        have hml : l ∈ r := by rw [← hl]; exact lsAt_mem HIL.out
        have HRL := Lib.hid (rightR_list HRR.out hml)
        have HMr : Hid (LenAt wr ∧ 1 < wr.heap.size) := Lib.hid (by
          obtain ⟨mm, hmm⟩ := HM1.out.1
          exact ⟨⟨mm, (HB.out.cell (p := ⟨1, 0, none⟩) HLW.out.2.2).trans hmm⟩, by have := HZ.out; have := HLW.out.2.2; omega⟩)
        have HPC := Lib.hid (plainList_any Aj nj cj l wr B hrc (by have := HBB.out; have := HLW.out.1; have := HZ.out; omega) HRL.out.2 (by rw [← hrc.1]; have := HRL.out.1; omega) HMr.out.1 HMr.out.2)
        clear hl hrc hml
        go_wp2_with fail
        refine HPC.out.mono ?_
        rintro e W4 ⟨⟨Al, cl, rfl, hrc, hlo⟩, hb⟩
        have HC4 : Hid (W4.cell? ⟨b5, 0, none⟩ = some v ∧ W4.frozen? ⟨b5, 0, none⟩ = false) := Lib.hid ⟨(hb.cell (p := ⟨b5, 0, none⟩) (by have := HZ.out; show b5 < _; omega)).trans HC.out.1, (hb.frozen (p := ⟨b5, 0, none⟩) (by have := HZ.out; show b5 < _; omega)).trans HC.out.2⟩
        have HO4 : Hid (OwnV W4 (b5 + 1) v vs) := Lib.hid (own_kept HO.out hb)
        have HR4 := Lib.hid (HR.out.map (fun A n l h => h.below hb))
        have HB4 : Hid (Below b5 W1 W4) := Lib.hid (HB.out.trans (hb.mono (by have := HZ.out; omega)))
        have HZ4 : Hid (b5 + 1 ≤ W4.heap.size) := Lib.hid (Nat.le_trans HZ.out hb.size)
        have HOV : Hid (∀ g, v.ownBlock = some g → g < wr.heap.size) := Lib.hid (own_lt HO.out)
        have HRC := Lib.hid hrc
        have HLO := Lib.hid hlo
        clear hb HPC q0 hrc hlo
        obtain ⟨p, hp⟩ : ∃ p, plainLs l = p := ⟨_, rfl⟩
        have HP := Lib.hid hp
        rw [hp] at HRC ⊢
        clear hp
        by_cases h8 : 8 < p.length
        · have d8 : decide (8 < (p.length : Int)) = true := decide_eq_true (by omega)
          have HN : Hid (∀ w', PlainA r (.returned (.tuple #[.agg #[.slice none 0 0], .int .i64 11])) w') := Lib.hid (fun w' => by
            unfold PlainA; rw [if_neg (by rw [HRR.out]; decide), if_pos (short_not HIL.out (by rw [HLL.out, HP.out]; omega))])
          have hx4 : W4.heap[w.heap.size + 1]? = some (.cells #[.slice none 0 0] 48) := (HB4.out.block _ HLW.out.2.1).trans HXX1.out.2
          have x0 : W4.cell? ⟨w.heap.size + 1, 0, none⟩ = some (.slice none 0 0) := cell1 hx4
          have xf : W4.frozen? ⟨w.heap.size + 1, 0, none⟩ = false := by simp only [World.frozen?, hx4]; rfl
          have HBS : Hid (∀ u, Below w.heap.size w (W4.setCell ⟨w.heap.size + 1, 0, none⟩ u)) := Lib.hid (fun u => (HB1.out.trans (HB4.out.mono (by have := HLW.out.1; omega))).setCell (p := ⟨w.heap.size + 1, 0, none⟩) (by simp) u)
          clear hx4 h8
          go_wp2
          refine bodyPost_ret (v := .tuple #[.agg #[.slice none 0 0], .int .i64 11]) (by simp [results, Tryd.results38, go_sem, x0]) rfl ⟨HN.out _, HBS.out _⟩
        · have d8 : decide (8 < (p.length : Int)) = false := decide_eq_false (by omega)
          have HOK2 : Hid (∀ j, j < i + 1 → decide ((plainLs (lsAt r j)).length ≤ 8) = true) := Lib.hid (fun j hj => by
            rcases Nat.lt_succ_iff_lt_or_eq.1 hj with h | h
            · exact HD.out j h
            · subst h; rw [HLL.out, HP.out]; exact decide_eq_true (by omega))
          have HTS : Hid (plainRg (r.take (i + 1)) = plainRg (r.take i) ++ [p]) := Lib.hid (by rw [take_snocR HIL.out, plainRg_snoc, HLL.out, HP.out])
          have HIN : Hid (InL W4 b5 v Al p.length p) := Lib.hid ⟨HRC.out, fun b off e => ⟨fun e2 => by have h1 := HOV.out b e2; have h2 := (HLO.out b off e).1; omega, by have h2 := (HLO.out b off e).1; have := HZ.out; omega, (HLO.out b off e).2⟩⟩
          obtain ⟨Av, cv, hv⟩ := HO4.out.shape
          rw [HVL.out] at hv
          subst hv
          have x0 := HC4.out.1
          have xf := HC4.out.2
          have HO5 : Hid (OwnV (W4.alloc (.cells #[.slice Al p.length cl] 69)) (b5 + 1) (.slice Av i cv) vs) := Lib.hid (World.ownsRow.alloc HO4.out _)
          have ha : Below W4.heap.size W4 (W4.alloc (.cells #[.slice Al p.length cl] 69)) := (Below.refl _ W4).alloc (Nat.le_refl _) _
          have HR5 := Lib.hid ((HR4.out.snoc (c := cl) HIN.out).map (fun A n l h => h.below ha))
          have HB5' : Hid (Below b5 W1 (W4.alloc (.cells #[.slice Al p.length cl] 69))) := Lib.hid (HB4.out.trans (ha.mono (by have := HZ4.out; omega)))
          have HZ5 : Hid (b5 + 1 ≤ (W4.alloc (.cells #[.slice Al p.length cl] 69)).heap.size) := Lib.hid (Nat.le_trans HZ4.out ha.size)
          have HC5 : Hid ((W4.alloc (.cells #[.slice Al p.length cl] 69)).heap[b5]? = W4.heap[b5]?) := Lib.hid (Below.heap_alloc _ _ _ (by have := HZ4.out; omega))
          clear ha h8
          go_wp2_with (at_builtin; refine wpl_appL rfl (.tmp 26) (.tmp 28) rfl (b5 + 1) (.slice Av i cv) vs rfl HO5.out W4.heap.size Al p.length cl rfl (by simp) (by rw [HVL.out]; have := HM20.out; omega) HZ5.out ?_; intro g c2 w2 hown2 hgr2 hat2; (have hb52 : w2.heap[b5]? = W4.heap[b5]? := (hgr2.block b5 (by have := HZ5.out; omega) (fun e2 => by have := own_ge HO5.out b5 e2.symm; omega)).trans HC5.out); (have y0 : w2.cell? ⟨b5, 0, none⟩ = some (.slice Av i cv) := (World.cell?_of_block hb52).trans HC4.out.1); (have yf : w2.frozen? ⟨b5, 0, none⟩ = false := (World.frozen?_of_block hb52).trans HC4.out.2); (have HOWN2 := Lib.hid hown2); (have HGR2 := Lib.hid hgr2); (have HAT2 := Lib.hid hat2); clear hown2 hgr2 hat2 hb52)
          go_roundw
          case rel =>
            have hV : (Value.slice (some ⟨g, 0, none⟩) (vs.length + 1) c2).ownBlock = (Value.slice Av i cv).ownBlock ∨ (Value.slice (some ⟨g, 0, none⟩) (vs.length + 1) c2).ownBlock = some (W4.alloc (.cells #[.slice Al p.length cl] 69)).heap.size := HAT2.out
            have hgb : b5 + 1 ≤ g := own_ge HOWN2.out g rfl
            refine ⟨i + 1, .slice (some ⟨g, 0, none⟩) (vs.length + 1) c2, vs ++ [.slice Al p.length cl], by omega, rfl, HOK2, Lib.hid ⟨World.cell?_setCell_same _ _ _ y0, by simp [yf]⟩, Lib.hid ?_, Lib.hid ?_, Lib.hid ?_, Lib.hid ?_⟩
            · have h := HOWN2.out
              refine ⟨h.1, ?_⟩
              rcases h.2 with h | ⟨g', cap, cur, hv, hbg, hh, r⟩
              · exact .inl h
              · refine .inr ⟨g', cap, cur, hv, hbg, ?_, r⟩
                rw [Below.heap_setCell _ _ _ _ (by show g' ≠ b5; omega)]
                exact hh
            · rw [HTS.out]
              exact (HR5.out.map (fun A n l h => h.grown HGR2.out hV)).map (fun A n l h => h.setBox (Nat.le_refl _))
            · exact (HB5'.out.grown HGR2.out (by have := HZ5.out; omega) (fun g hg => by have := own_ge HO5.out g hg; omega)).setCell (p := ⟨b5, 0, none⟩) (Nat.le_refl _) _
            · have := HGR2.out.size; have := HZ5.out; simp; omega
          case measure => simp [intOf]; omega
      · have hd : decide ((i : Int) < (m : Int)) = false := decide_eq_false (by omega)
        have hiL : i = m := by omega
        subst hiL
        have HSH : Hid (shortR r = true) := Lib.hid (by unfold shortR; exact allR_at (p := fun l => decide ((plainLs l).length ≤ 8)) (fun j hj => HD.out j (by rw [HLE.out] at hj; exact hj)))
        have HLN : Hid ((plainRg r).length = r.length) := Lib.hid (by unfold plainRg; rw [List.length_map])
        have HRF : Hid (RowL wr b5 v vs (plainRg r)) := Lib.hid (by have h := HR.out; rw [List.take_of_length_le (by rw [HLE.out]; exact Nat.le_refl _)] at h; exact h)
        obtain ⟨Av, cv, hv⟩ := HO.out.shape
        rw [HRF.out.1, HLN.out] at hv
        subst hv
        have x0 := HC.out.1
        have hx4 : wr.heap[w.heap.size + 1]? = some (.cells #[.slice none 0 0] 48) := (HB.out.block _ HLW.out.2.1).trans HXX1.out.2
        have y0 : wr.cell? ⟨w.heap.size + 1, 0, none⟩ = some (.slice none 0 0) := cell1 hx4
        have yf : wr.frozen? ⟨w.heap.size + 1, 0, none⟩ = false := by simp only [World.frozen?, hx4]; rfl
        have g0 : ∀ u, (wr.setCell ⟨w.heap.size + 1, 0, none⟩ u).cell? ⟨w.heap.size + 1, 0, none⟩ = some u := fun u => World.cell?_setCell_same _ _ _ y0
        have HBS : Hid (∀ u, Below w.heap.size w (wr.setCell ⟨w.heap.size + 1, 0, none⟩ u)) := Lib.hid (fun u => (HB1.out.trans (HB.out.mono (by have := HLW.out.1; omega))).setCell (p := ⟨w.heap.size + 1, 0, none⟩) (by simp) u)
        have HRD : Hid (∀ u, RdR (wr.setCell ⟨w.heap.size + 1, 0, none⟩ u) (wr.setCell ⟨w.heap.size + 1, 0, none⟩ u).heap.size Av r.length (plainRg r)) := Lib.hid (fun u => by
          have h1 := HRF.out.map (fun A n l h => h.setBox (u := u) (k := w.heap.size + 1) (by have := HLW.out.2.1; omega))
          rw [← HLN.out] at h1 ⊢
          refine RowL.rd h1 (base := b5 + 1) ?_ rfl
          have h := HO.out
          rw [HLN.out]
          refine ⟨h.1, ?_⟩
          rcases h.2 with h | ⟨g', cap, cur, hv, hbg, hh, r⟩
          · exact .inl h
          · refine .inr ⟨g', cap, cur, hv, hbg, ?_, r⟩
            rw [Below.heap_setCell _ _ _ _ (by have := HLW.out.2.1; show g' ≠ w.heap.size + 1; omega)]
            exact hh)
        clear hx4
        go_wp2
        refine bodyPost_ret (v := .tuple #[.agg #[.slice Av r.length cv], .int .i64 0]) (by simp [results, Tryd.results38, go_sem, g0]) rfl ⟨?_, HBS.out _⟩
        unfold PlainA
        rw [if_neg (by rw [HRR.out]; decide), if_neg (by rw [HSH.out]; decide)]
        exact ⟨Av, cv, rfl, HRD.out _⟩
end Go.Proofs.YtbmhjmdbolnbaaaDoor
