/-
  CONTRACT of package semver: comparePres.
  CONTRACT of package semver: Compare.
  CONTRACT of package semver: Right.
-/
import Derived.Test.YtpnbbbhbbnemlaaGreatDoorSGc
import Derived.StillTailTactics
import Derived.Deep.QuietTactic
import Derived.BigQuiet
namespace Go.Proofs.YtpnbbbhbbnemlaaGreatDoor
open Go.RowKit Go.Shelf
open SemP
set_option linter.unusedVariables false
set_option linter.unusedSimpArgs false
set_option maxRecDepth 100000
attribute [local go_sem] Oper.semAt_some

theorem cmpMarks_refl (x : Str) : cmpMarks x x = 0 := cmpMarks_tot.refl x
theorem row_longer (l : List Str) (x : Str) (r : List Str) : rowC cmpMarks (l ++ x :: r) l = 1 := by
  induction l with
  | nil => rfl
  | cons y l ih => simp only [List.cons_append, rowC]; rw [cmpMarks_refl, orI_zero, ih]
theorem row_shorter (l : List Str) (x : Str) (r : List Str) : rowC cmpMarks l (l ++ x :: r) = -1 := by
  induction l with
  | nil => rfl
  | cons y l ih => simp only [List.cons_append, rowC]; rw [cmpMarks_refl, orI_zero, ih]
theorem row_at (l : List Str) (x y : Str) (r q : List Str) (h : cmpMarks x y ≠ 0) : rowC cmpMarks (l ++ x :: r) (l ++ y :: q) = cmpMarks x y := by
  induction l with
  | nil => simp only [List.nil_append, rowC]; rw [orI_ne h]
  | cons z l ih => simp only [List.cons_append, rowC]; rw [cmpMarks_refl, orI_zero, ih]
theorem cut_next (r : Str) (hr : r.length < 4294967281) : ∃ (o r' : Str) (more : Bool), Lib.cut r [46] = (o, r', more) ∧ pieces 46 r = o :: (if more then pieces 46 r' else []) ∧ o.length < 4294967281 ∧ r'.length < 4294967281 := by
  rcases cut_pieces r 46 with ⟨p, q, h1, h2, h3, _⟩ | ⟨h1, h2, _⟩
  · refine ⟨p, q, true, h1, by rw [h2]; rfl, ?_, ?_⟩ <;> (rw [h3, List.length_append, List.length_cons] at hr; omega)
  · exact ⟨r, [], false, h1, by rw [h2]; rfl, hr, by simp⟩
theorem cell_lt {w : World} {b o : Nat} {v : Value} (h : w.cell? ⟨b, o, none⟩ = some v) : b < w.heap.size := by
  rcases Nat.lt_or_ge b w.heap.size with hlt | hge
  · exact hlt
  · simp [World.cell?, Array.getElem?_eq_none hge] at h
theorem below_grown {w w' : World} (h : Below w.heap.size w w') : w.grownBy w' none := ⟨h.os, h.tape, h.output, h.size, fun k hk _ => h.block k hk⟩
theorem below_others {w w' : World} (h : Below w.heap.size w w') : KeepsOthers w w' := KeepsOthers.of_grownBy (below_grown h) (fun j o e => by cases e)
set_option maxHeartbeats 4000000 in
theorem comparePres_any (s t : ByteArray) (w : World) (hs : s.size < 4294967281) (ht : t.size < 4294967281) (hm : LenAt w) (h1 : 1 < w.heap.size) :
    Calls Tryz.prog 135 #[.string s, .string t] w fun e w' => e = .returned (.int .i64 (cmpPre (bs s) (bs t))) ∧ Below w.heap.size w w' := by
  refine (callsIn_wide (n := 4)).1 ?_
  refine callsIn_of_wp_marks Tryz.func135 rfl trivial ?_ rfl
  simp only [Tryz.ntmps135, List.size_toArray, List.length_cons, List.length_nil, Nat.reduceAdd, Nat.reduceSub, Array.replicate_succ, Array.replicate_zero, List.push_toArray, List.append_toArray, List.nil_append, List.cons_append]
  gi_wp2_with (refine ⟨trivial, ?_⟩; gi_at_call 115; refine (marks_in _ _ _).mono ?_; rintro e w' ⟨rfl, rfl⟩)
  · rename_i h
    have e : bs s = bs t := by
      have := eq_of_beq h
      rw [ByteArray.toList_eq, ByteArray.toList_eq] at this; exact this
    refine ⟨.int .i64 0, by simp [results, Tryz.f135, go_sem], ?_, ?_⟩
    · unfold cmpPre; rw [if_pos e]
    · exact (Below.refl _ _).alloc (Nat.le_refl _) _
  · rename_i h h2
    have e : ¬ bs s = bs t := by
      intro e; rw [ByteArray.toList_eq, ByteArray.toList_eq, show s.data.toList = t.data.toList from e, beq_self_eq_true] at h; cases h
    have e2 : bs s = [] := by rw [ByteArray.toList_eq, List.isEmpty_iff] at h2; exact h2
    refine ⟨.int .i64 1, by simp [results, Tryz.f135, go_sem], ?_, ?_⟩
    · unfold cmpPre; rw [if_neg e, if_pos e2]
    · exact (Below.refl _ _).alloc (Nat.le_refl _) _
  · rename_i h h2 h3
    have e : ¬ bs s = bs t := by
      intro e; rw [ByteArray.toList_eq, ByteArray.toList_eq, show s.data.toList = t.data.toList from e, beq_self_eq_true] at h; cases h
    have e2 : ¬ bs s = [] := by intro e2; rw [ByteArray.toList_eq, show s.data.toList = [] from e2] at h2; cases h2
    have e3 : bs t = [] := by rw [ByteArray.toList_eq, List.isEmpty_iff] at h3; exact h3
    refine ⟨.int .i64 (-1), by simp [results, Tryz.f135, go_sem], ?_, ?_⟩
    · unfold cmpPre; rw [if_neg e, if_neg e2, if_pos e3]
    · exact (Below.refl _ _).alloc (Nat.le_refl _) _
  · rename_i h h2 h3 K0 hK0
    have e : ¬ bs s = bs t := by
      intro e; rw [ByteArray.toList_eq, ByteArray.toList_eq, show s.data.toList = t.data.toList from e, beq_self_eq_true] at h; cases h
    have e2 : ¬ bs s = [] := by intro e2; rw [ByteArray.toList_eq, show s.data.toList = [] from e2] at h2; cases h2
    have e3 : ¬ bs t = [] := by intro e2; rw [ByteArray.toList_eq, show t.data.toList = [] from e2] at h3; cases h3
    have HC : Hid (cmpPre (bs s) (bs t) = rowC cmpMarks (pieces 46 (bs s)) (pieces 46 (bs t))) := Lib.hid (by unfold cmpPre; rw [if_neg e, if_neg e2, if_neg e3])
    have HNE := Lib.hid e
    clear h h2 h3 e e2 e3
    have hzt : (bs t).length = t.size := (Lib.size_eq t).symm
    obtain ⟨W0, hW0⟩ : ∃ W0, (((w.alloc (.cells #[.int .i64 0] 3)).alloc (.cells #[.string t] 9)).alloc (.cells #[.bool true] 4)).alloc (.cells #[.string s] 9) = W0 := ⟨_, rfl⟩
    have hz0 : W0.heap.size = w.heap.size + 4 := by rw [← hW0]; simp
    have c0 := cell_new1 w (.int .i64 0) 3
    have c1 := cell_new1 (w.alloc (.cells #[.int .i64 0] 3)) (.string t) 9
    have c2 := cell_new1 ((w.alloc (.cells #[.int .i64 0] 3)).alloc (.cells #[.string t] 9)) (.bool true) 4
    have c3 := cell_new1 (((w.alloc (.cells #[.int .i64 0] 3)).alloc (.cells #[.string t] 9)).alloc (.cells #[.bool true] 4)) (.string s) 9
    simp only [World.size_alloc] at c1 c2 c3
    have d0 : W0.cell? ⟨w.heap.size, 0, none⟩ = some (.int .i64 0) ∧ W0.frozen? ⟨w.heap.size, 0, none⟩ = false := by rw [← hW0]; exact ⟨cell_al _ (cell_al _ (cell_al _ c0.1)), frozen_al _ (cell_al _ (cell_al _ c0.1)) (frozen_al _ (cell_al _ c0.1) (frozen_al _ c0.1 c0.2))⟩
    have d1 : W0.cell? ⟨w.heap.size + 1, 0, none⟩ = some (.string t) ∧ W0.frozen? ⟨w.heap.size + 1, 0, none⟩ = false := by rw [← hW0]; exact ⟨cell_al _ (cell_al _ c1.1), frozen_al _ (cell_al _ c1.1) (frozen_al _ c1.1 c1.2)⟩
    have d2 : W0.cell? ⟨w.heap.size + 1 + 1, 0, none⟩ = some (.bool true) ∧ W0.frozen? ⟨w.heap.size + 1 + 1, 0, none⟩ = false := by rw [← hW0]; exact ⟨cell_al _ c2.1, frozen_al _ c2.1 c2.2⟩
    have d3 : W0.cell? ⟨w.heap.size + 1 + 1 + 1, 0, none⟩ = some (.string s) := by rw [← hW0]; exact c3.1
    have hB0 : Below w.heap.size w W0 := by rw [← hW0]; exact ((((Below.refl _ w).alloc (Nat.le_refl _) _).alloc (by simp) _).alloc (by simp; omega) _).alloc (by simp; omega) _
    rw [hW0]
    clear hW0 c0 c1 c2 c3
    have hm0 : LenAt W0 := by
      obtain ⟨m, hm⟩ := hm
      exact ⟨m, (hB0.cell (show 1 < _ from h1)).trans hm⟩
    refine wpIn_rangeFunc_ownF rfl (by omega) (gf := 145) (lb := #[.pointer (some ⟨w.heap.size + 1 + 1 + 1, 0, none⟩)]) rfl trivial (enters_of Tryz.func145 (by kernel_rfl) rfl)
      (marks_stops 3 (by omega) (w.heap.size + 1 + 1 + 1) w.heap.size s hs W0 h1 (by omega) d3 hm0 (by omega)) belowK_t (belowK_b (by omega)) (Below.refl _ _) (fun _ => rfl)
      (fun pre W => (∃ (r : Str) (more : Bool), (pieces 46 (bs t) = strs pre ++ (if more then pieces 46 r else []) ∧ r.length < 4294967281) ∧
          (W.cell? ⟨w.heap.size, 0, none⟩ = some (.int .i64 0) ∧ W.frozen? ⟨w.heap.size, 0, none⟩ = false) ∧ (W.cell? ⟨w.heap.size + 1, 0, none⟩ = some (.string (mk r)) ∧ W.frozen? ⟨w.heap.size + 1, 0, none⟩ = false) ∧ (W.cell? ⟨w.heap.size + 1 + 1, 0, none⟩ = some (.bool more) ∧ W.frozen? ⟨w.heap.size + 1 + 1, 0, none⟩ = false)) ∧ Below w.heap.size w W)
      (fun c pre W => (∃ v : Int, (c = .ret ∧ ∀ l, strs pre <+: l → rowC cmpMarks l (pieces 46 (bs t)) = v) ∧ W.cell? ⟨w.heap.size, 0, none⟩ = some (.int .i64 v)) ∧ Below w.heap.size w W)
      (OwnFrom.and (Own.from (fun s A B row hs hg hr => by
        obtain ⟨r, more, h0, ⟨a1, a2⟩, ⟨b1, b2⟩, c1, c2⟩ := hs
        exact ⟨r, more, h0, ⟨cell_kept a1 hg hr, (frozen_kept a1 hg hr).trans a2⟩, ⟨cell_kept b1 hg hr, (frozen_kept b1 hg hr).trans b2⟩, cell_kept c1 hg hr, (frozen_kept c1 hg hr).trans c2⟩) _) (ownFrom_below (Nat.le_refl _) (by omega)))
      (fun c => OwnFrom.and (Own.from (fun s A B row hs hg hr => by
        obtain ⟨v, h0, a1⟩ := hs
        exact ⟨v, h0, cell_kept a1 hg hr⟩) _) (ownFrom_below (Nat.le_refl _) (by omega)))
      ⟨⟨bs t, true, ⟨rfl, by rw [hzt]; exact ht⟩, d0, d1, d2⟩, hB0⟩
      (fun x => { tmps := #[.string s, .string t, undef, undef, .pointer (some ⟨w.heap.size, 0, none⟩), .pointer (some ⟨w.heap.size + 1, 0, none⟩), .pointer (some ⟨w.heap.size + 1 + 1, 0, none⟩), .string (mk x.1), undef, undef, .bool false, .string s, .string t, .bool false, .bool false, .string s, .bool false, .bool false, .string t, .bool false, .string t, .string s, .func (.func 145) #[] #[.pointer (some ⟨w.heap.size + 1 + 1 + 1, 0, none⟩)], .string (mk x.1), undef, undef, undef, undef, undef, undef, undef, undef, undef, undef, undef, undef, undef, undef], defers := [] }) ?assign ?body ?done ?stop
    case assign =>
      intro l x W K hK
      gi_wp2
      exact hK
    case body =>
      rintro l pre x W ⟨⟨r, more, ⟨hp, hrl⟩, ⟨a1, a2⟩, ⟨b1, b2⟩, c1, c2⟩, hB⟩ hlen
      have hx := x.2
      have hxs := mk_size x.1
      have HP := Lib.hid hp
      have hmW : LenAt W := by
        obtain ⟨m, hm⟩ := hm
        exact ⟨m, (hB.cell (show 1 < _ from h1)).trans hm⟩
      clear hp
      cases more with
      | false =>
        have HV : Hid (∀ l, strs (pre ++ [x]) <+: l → rowC cmpMarks l (pieces 46 (bs t)) = 1) := Lib.hid (by
          rintro l ⟨q, rfl⟩
          rw [HP.out, strs_snoc]
          simp only [Bool.false_eq_true, if_false, List.append_nil, List.append_assoc, List.cons_append, List.nil_append]
          exact row_longer _ _ _)
        gi_wp2
        exact ⟨KeepsOthers.setCell _ _ _, ⟨1, ⟨rfl, HV.out⟩, World.cell?_setCell_same' _ _ _ (by rw [a1]; rfl)⟩, hB.setCell (p := ⟨w.heap.size, 0, none⟩) (Nat.le_refl _) _⟩
      | true =>
        obtain ⟨m, hmw⟩ := hmW
        have hrs := mk_size r
        obtain ⟨o, r', more', hcut, hpp, hol, hrl'⟩ := cut_next r hrl
        have HCUT := Lib.hid (Tryz.strings_Cut (mk r) ⟨#[46]⟩ m W (by omega) hmw)
        have HP2 : Hid (pieces 46 (bs t) = strs pre ++ o :: (if more' then pieces 46 r' else [])) := Lib.hid (by rw [HP.out, ← hpp]; rfl)
        have HCT : Hid (Lib.cut (mk r).data.toList [46] = (o, r', more')) := Lib.hid hcut
        clear HP hcut hpp
        gi_wp2_with fail
        refine ⟨trivial, ?_⟩
        gi_at_call 37
        refine (CallsIn.inRound l (callsIn_wide.2 HCUT.out)).mono ?_
        rintro e w1 ⟨rfl, k, rfl⟩
        rw [HCT.out]
        clear HCUT
        have HK1 : Hid (KeepsOthers W (W.drewN k)) := Lib.hid (below_others ⟨rfl, rfl, rfl, Nat.le_refl _, fun _ _ => rfl⟩)
        have HB1 : Hid (Below w.heap.size W (W.drewN k)) := Lib.hid ⟨rfl, rfl, rfl, Nat.le_refl _, fun _ _ => rfl⟩
        obtain ⟨W1, hW1⟩ : ∃ W1, W.drewN k = W1 := ⟨_, rfl⟩
        have a1' : W1.cell? ⟨w.heap.size, 0, none⟩ = some (.int .i64 0) := by rw [← hW1]; exact a1
        have a2' : W1.frozen? ⟨w.heap.size, 0, none⟩ = false := by rw [← hW1]; exact a2
        have b1' : W1.cell? ⟨w.heap.size + 1, 0, none⟩ = some (.string (mk r)) := by rw [← hW1]; exact b1
        have b2' : W1.frozen? ⟨w.heap.size + 1, 0, none⟩ = false := by rw [← hW1]; exact b2
        have c1' : W1.cell? ⟨w.heap.size + 1 + 1, 0, none⟩ = some (.bool true) := by rw [← hW1]; exact c1
        have c2' : W1.frozen? ⟨w.heap.size + 1 + 1, 0, none⟩ = false := by rw [← hW1]; exact c2
        have hz1 : W.heap.size = W1.heap.size := by rw [← hW1]; rfl
        rw [hW1] at HK1 HB1 ⊢
        clear hW1 a1 a2 b1 b2 c1 c2
        have hos := mk_size o
        gi_wp2_with fail
        refine ⟨trivial, ?_⟩
        gi_at_call 155
        refine (CallsIn.inRound l (callsIn_wide.2 (compareMarks_any (mk x.1) (mk o) _ (by rw [hxs]; omega) (by rw [hos]; omega)))).mono ?_
        rintro e W3 ⟨rfl, h3⟩
        have e0 : ((W1.setCell ⟨w.heap.size + 1, 0, none⟩ (.string (mk r'))).setCell ⟨w.heap.size + 1 + 1, 0, none⟩ (.bool more')).cell? ⟨w.heap.size, 0, none⟩ = some (.int .i64 0) :=
          (World.cell?_setCell_other _ _ _ _ (by simp)).trans ((World.cell?_setCell_other _ _ _ _ (by simp)).trans a1')
        have e1 : ((W1.setCell ⟨w.heap.size + 1, 0, none⟩ (.string (mk r'))).setCell ⟨w.heap.size + 1 + 1, 0, none⟩ (.bool more')).cell? ⟨w.heap.size + 1, 0, none⟩ = some (.string (mk r')) :=
          (World.cell?_setCell_other _ _ _ _ (by simp)).trans (World.cell?_setCell_same' _ _ _ (by rw [b1']; rfl))
        have e2 : ((W1.setCell ⟨w.heap.size + 1, 0, none⟩ (.string (mk r'))).setCell ⟨w.heap.size + 1 + 1, 0, none⟩ (.bool more')).cell? ⟨w.heap.size + 1 + 1, 0, none⟩ = some (.bool more') :=
          World.cell?_setCell_same' _ _ _ (by rw [World.cell?_setCell_other _ _ _ _ (by simp), c1']; rfl)
        have f0 : ((W1.setCell ⟨w.heap.size + 1, 0, none⟩ (.string (mk r'))).setCell ⟨w.heap.size + 1 + 1, 0, none⟩ (.bool more')).frozen? ⟨w.heap.size, 0, none⟩ = false := by rw [World.frozen?_setCell, World.frozen?_setCell]; exact a2'
        have f1 : ((W1.setCell ⟨w.heap.size + 1, 0, none⟩ (.string (mk r'))).setCell ⟨w.heap.size + 1 + 1, 0, none⟩ (.bool more')).frozen? ⟨w.heap.size + 1, 0, none⟩ = false := by rw [World.frozen?_setCell, World.frozen?_setCell]; exact b2'
        have f2 : ((W1.setCell ⟨w.heap.size + 1, 0, none⟩ (.string (mk r'))).setCell ⟨w.heap.size + 1 + 1, 0, none⟩ (.bool more')).frozen? ⟨w.heap.size + 1 + 1, 0, none⟩ = false := by rw [World.frozen?_setCell, World.frozen?_setCell]; exact c2'
        have HK2 : Hid (KeepsOthers W ((W1.setCell ⟨w.heap.size + 1, 0, none⟩ (.string (mk r'))).setCell ⟨w.heap.size + 1 + 1, 0, none⟩ (.bool more'))) := Lib.hid (HK1.out.trans ((KeepsOthers.setCell _ _ _).trans (KeepsOthers.setCell _ _ _)))
        have HB2 : Hid (Below w.heap.size W ((W1.setCell ⟨w.heap.size + 1, 0, none⟩ (.string (mk r'))).setCell ⟨w.heap.size + 1 + 1, 0, none⟩ (.bool more'))) := Lib.hid ((HB1.out.setCell (p := ⟨w.heap.size + 1, 0, none⟩) (by simp) _).setCell (p := ⟨w.heap.size + 1 + 1, 0, none⟩) (by simp; omega) _)
        have hz2 : ((W1.setCell ⟨w.heap.size + 1, 0, none⟩ (.string (mk r'))).setCell ⟨w.heap.size + 1 + 1, 0, none⟩ (.bool more')).heap.size = W1.heap.size := by simp
        generalize (W1.setCell ⟨w.heap.size + 1, 0, none⟩ (.string (mk r'))).setCell ⟨w.heap.size + 1 + 1, 0, none⟩ (.bool more') = W2 at h3 e0 e1 e2 f0 f1 f2 HK2 HB2 hz2
        clear a1' a2' b1' b2' c1' c2'
        have hsz1 : w.heap.size ≤ W.heap.size := hB.size
        have l0 : w.heap.size < W2.heap.size ∧ w.heap.size + 1 < W2.heap.size ∧ w.heap.size + 1 + 1 < W2.heap.size := ⟨cell_lt e0, cell_lt e1, cell_lt e2⟩
        have g0 := (h3.cell (p := ⟨w.heap.size, 0, none⟩) l0.1).trans e0
        have g1 := (h3.cell (p := ⟨w.heap.size + 1, 0, none⟩) l0.2.1).trans e1
        have g2 := (h3.cell (p := ⟨w.heap.size + 1 + 1, 0, none⟩) l0.2.2).trans e2
        have k0 := (h3.frozen (p := ⟨w.heap.size, 0, none⟩) l0.1).trans f0
        have k1 := (h3.frozen (p := ⟨w.heap.size + 1, 0, none⟩) l0.2.1).trans f1
        have k2 := (h3.frozen (p := ⟨w.heap.size + 1 + 1, 0, none⟩) l0.2.2).trans f2
        have HK3 : Hid (KeepsOthers W W3) := Lib.hid (HK2.out.trans (below_others h3))
        have HB3 : Hid (Below w.heap.size W W3) := Lib.hid (HB2.out.trans (h3.mono (by omega)))
        clear h3 e0 e1 e2 f0 f1 f2 HK1 HK2 HB1 HB2
        by_cases hc : cmpMarks x.1 o = 0
        · have hxo : x.1 = o := (cmpMarks_tot.eq _ _).1 hc
          have HPX : Hid (pieces 46 (bs t) = strs (pre ++ [x]) ++ (if more' then pieces 46 r' else [])) := Lib.hid (by rw [HP2.out, strs_snoc, hxo]; simp)
          rw [show cmpMarks (bs (mk x.1)) (bs (mk o)) = 0 from hc]
          clear hxo hc
          gi_wp2
          exact ⟨HK3.out, HB3.out, ⟨r', more', ⟨HPX.out, hrl'⟩, ⟨g0, k0⟩, ⟨g1, k1⟩, g2, k2⟩, hB.trans HB3.out⟩
        · have hcb : (cmpMarks x.1 o != 0) = true := by rw [bne_iff_ne]; exact hc
          have HV : Hid (∀ l, strs (pre ++ [x]) <+: l → rowC cmpMarks l (pieces 46 (bs t)) = cmpMarks x.1 o) := Lib.hid (by
            rintro l ⟨q, rfl⟩
            rw [HP2.out, strs_snoc]
            simp only [List.append_assoc, List.cons_append, List.nil_append]
            exact row_at _ _ _ _ _ hc)
          rw [show cmpMarks (bs (mk x.1)) (bs (mk o)) = cmpMarks x.1 o from rfl]
          generalize cmpMarks x.1 o = c at hcb HV hc
          clear hc
          gi_wp2
          exact ⟨HK3.out.trans (KeepsOthers.setCell _ _ _), ⟨c, ⟨rfl, HV.out⟩, World.cell?_setCell_same' _ _ _ (by rw [g0]; rfl)⟩, (hB.trans HB3.out).setCell (p := ⟨w.heap.size, 0, none⟩) (Nat.le_refl _) _⟩
    case done =>
      rintro D ys W hD hys ⟨⟨r, more, ⟨hp, hrl⟩, ⟨a1, a2⟩, _, _⟩, hB⟩ hK
      have HR : Hid (cmpPre (bs s) (bs t) = -1) := Lib.hid (by
        rw [HC.out, ← hys, hp]
        cases more with
        | true =>
          cases hq : pieces 46 r with
          | nil => exact absurd hq (pieces_ne 46 r)
          | cons y q => exact row_shorter _ _ _
        | false =>
          exfalso
          apply HNE.out
          apply pieces_inj 46
          rw [hp, ← hys]; simp)
      clear hp
      gi_wp2
      have hK' := (KeepsOthers.setCell W ⟨w.heap.size, 0, none⟩ (.int .i64 (-1))).same D _ hK rfl
      refine ⟨by simp, .inl ⟨_, _, rfl, run_takeDeferred hK', ?_⟩⟩
      have hc5 := cell_kept (World.cell?_setCell_same' W ⟨w.heap.size, 0, none⟩ (.int .i64 (-1)) (by rw [a1]; rfl)) (grownBy_putObj' _ D (.deferred none)) (fun r e => by cases e; exact ⟨_, hK', rfl⟩)
      refine ⟨.int .i64 (-1), ?_, by rw [HR.out], (hB.setCell (p := ⟨w.heap.size, 0, none⟩) (Nat.le_refl _) _).trans (belowK_b (w := w) (Nat.le_refl _) _ D _ _ (by omega) hK' rfl rfl)⟩
      simp [results, Tryz.f135, go_sem, hc5]
    case stop =>
      rintro D c pre W hD hpre ⟨⟨v, ⟨rfl, hv⟩, hcr⟩, hB⟩ hK
      have HV := Lib.hid (hv _ hpre)
      clear hv
      gi_wp2
      refine ⟨by simp, .inl ⟨_, _, rfl, run_takeDeferred hK, ?_⟩⟩
      have hc5 := cell_kept hcr (grownBy_putObj' _ D (.deferred none)) (fun r e => by cases e; exact ⟨_, hK, rfl⟩)
      refine ⟨.int .i64 v, ?_, by rw [HC.out, HV.out], hB.trans (belowK_b (w := w) (Nat.le_refl _) W D _ _ (by omega) hK rfl rfl)⟩
      simp [results, Tryz.f135, go_sem, hc5]
end Go.Proofs.YtpnbbbhbbnemlaaGreatDoor
namespace Go.Proofs.YtpnbbbhbbnemlaaGreatDoor
open Go.RowKit
open SemP
set_option linter.unusedVariables false
set_option linter.unusedSimpArgs false
set_option maxRecDepth 100000

/-- A version as a value. -/
abbrev verV (a b c : Int) (s : ByteArray) : Value := .agg #[.int .i64 a, .int .i64 b, .int .i64 c, .string s]
abbrev verC (a b c : Int) (s : ByteArray) : Obj := .cells #[.int .i64 a, .int .i64 b, .int .i64 c, .string s] 69
theorem cells4 {w : World} {g : Nat} {x y z u : Value} {T : TypeId} (h : w.heap[g]? = some (.cells #[x, y, z, u] T (0, 0))) : w.cell? ⟨g, 0, none⟩ = some x ∧ w.cell? ⟨g, 1, none⟩ = some y ∧ w.cell? ⟨g, 2, none⟩ = some z ∧ w.cell? ⟨g, 3, none⟩ = some u :=
  ⟨by simp only [World.cell?, h]; rfl, by simp only [World.cell?, h]; rfl, by simp only [World.cell?, h]; rfl, by simp only [World.cell?, h]; rfl⟩
set_option maxHeartbeats 4000000 in
theorem Compare_any (a b c : Int) (s : ByteArray) (a' b' c' : Int) (t : ByteArray) (w : World) (hs : s.size < 4294967281) (ht : t.size < 4294967281) (hm : LenAt w) (h1 : 1 < w.heap.size) :
    Calls Tryz.prog 105 #[verV a b c s, verV a' b' c' t] w fun e w' => e = .returned (.int .i64 (cmpV ⟨a, b, c, bs s⟩ ⟨a', b', c', bs t⟩)) ∧ Below w.heap.size w w' := by
  have hb0 : Below w.heap.size w ((w.alloc (verC a b c s)).alloc (verC a' b' c' t)) := ((Below.refl _ w).alloc (Nat.le_refl _) _).alloc (by simp) _
  have hA : ((w.alloc (verC a b c s)).alloc (verC a' b' c' t)).heap[w.heap.size]? = some (verC a b c s) := by
    rw [Below.heap_alloc _ _ _ (by simp)]; exact World.alloc_heap_new _ _
  have hB : ((w.alloc (verC a b c s)).alloc (verC a' b' c' t)).heap[w.heap.size + 1]? = some (verC a' b' c' t) := by
    have := World.alloc_heap_new (w.alloc (verC a b c s)) (verC a' b' c' t)
    rw [World.size_alloc] at this; exact this
  obtain ⟨x0, x1, x2, x3⟩ := cells4 hA
  obtain ⟨y0, y1, y2, y3⟩ := cells4 hB
  have HB0 := Lib.hid hb0
  have hm1 : LenAt ((w.alloc (verC a b c s)).alloc (verC a' b' c' t)) := by
    obtain ⟨m, hm⟩ := hm
    exact ⟨m, (hb0.cell (show 1 < _ from h1)).trans hm⟩
  have HM := Lib.hid hm1
  clear hA hB hb0 hm1 hm
  go_enter Tryz.func105, Tryz.ntmps105
  go_wp2_with fail
  have hz0 : ((w.alloc (verC a b c s)).alloc (verC a' b' c' t)).heap.size = w.heap.size + 2 := by simp
  generalize hW0 : (w.alloc (verC a b c s)).alloc (verC a' b' c' t) = W0 at x0 x1 x2 x3 y0 y1 y2 y3 HB0 HM hz0
  try rw [show ((w.alloc (.cells #[.int .i64 a, .int .i64 b, .int .i64 c, .string s] 69)).alloc (.cells #[.int .i64 a', .int .i64 b', .int .i64 c', .string t] 69)) = W0 from hW0]
  clear hW0
  refine wp_region_still_tail 19 (by kernel_rfl) (by kernel_rfl) ?_
  simp only [List.take_succ_cons, List.take_zero, List.drop_succ_cons, List.drop_zero]
  repeat still_step
  still_call (Tryz.cmp_Compare_int a a' _)
  repeat still_step
  still_call (Tryz.cmp_Compare_int b b' _)
  repeat still_step
  still_call (Tryz.cmp_Compare_int c c' _)
  repeat still_step
  try refine wpStill_nil ?_
  obtain ⟨W1, HW1⟩ : ∃ W1, Hid (W1 = W0.drewN 1) := ⟨_, Lib.hid rfl⟩
  have e1 : ({ heap := W0.heap, tape := W0.tape, drawn := W0.drawn + 1, os := W0.os, output := W0.output } : World) = W1 := HW1.out.symm
  rw [e1]
  have HB1 : Hid (Below w.heap.size w W1) := Lib.hid (HB0.out.trans (by rw [HW1.out]; exact ⟨rfl, rfl, rfl, Nat.le_refl _, fun _ _ => rfl⟩))
  have hz1 : W1.heap.size = w.heap.size + 2 := by rw [HW1.out]; exact hz0
  have HCP := Lib.hid (comparePres_any s t W1 hs ht (by rw [HW1.out]; exact HM.out) (by omega))
  clear e1 x0 x1 x2 x3 y0 y1 y2 y3 HW1 HM HB0
  go_wp2_with fail
  refine HCP.out.mono ?_
  rintro e W2 ⟨rfl, h2⟩
  have HB2 : Hid (Below w.heap.size w W2) := Lib.hid (HB1.out.trans (h2.mono (by omega)))
  clear h2 HCP HB1
  have hb := World.alloc_heap_new W2 (.cells #[.int .i64 (Lib.compareInt a a'), .int .i64 (Lib.compareInt b b'), .int .i64 (Lib.compareInt c c'), .int .i64 (cmpPre (bs s) (bs t))] 3)
  obtain ⟨c0, c1, c2, c3⟩ := cells4 hb
  have HOR := Lib.hid (or4_any c0 c1 c2 c3)
  clear hb c0 c1 c2 c3
  go_wp2_with fail
  refine HOR.out.mono ?_
  rintro e W3 ⟨rfl, rfl⟩
  go_wp2
  go_ret
  exact ⟨rfl, HB2.out.alloc (by have := HB2.out.size; omega) _⟩
end Go.Proofs.YtpnbbbhbbnemlaaGreatDoor
namespace Go.Proofs.YtpnbbbhbbnemlaaGreatDoor
open Go.RowKit
open SemP
set_option linter.unusedVariables false
set_option linter.unusedSimpArgs false
set_option maxRecDepth 100000

theorem rightNumber_any (n : Int) (w : World) : Calls Tryz.prog 83 #[.int .i64 n] w fun e w' => e = .returned (.bool (rightN n)) ∧ w' = w := by
  have HR := Lib.hid (show rightN n = (decide (0 ≤ n) && decide (n ≤ 999999)) from rfl)
  go_enter Tryz.func83, Tryz.ntmps83
  go_wp2
  all_goals (refine bodyPost_ret (results_tmp rfl _ _ _) rfl ⟨?_, rfl⟩)
  all_goals (rw [HR.out])
  all_goals (first | rfl | (rename_i h; simp; omega) | (simp [*]; done))
set_option maxHeartbeats 4000000 in
theorem Right_any (a b c : Int) (s : ByteArray) (w : World) (hs : s.size < 4294967281) (hm : LenAt w) (h1 : 1 < w.heap.size) :
    Calls Tryz.prog 54 #[verV a b c s] w fun e w' => e = .returned (.bool (Ver.right ⟨a, b, c, bs s⟩)) ∧ Below w.heap.size w w' := by
  have hb0 : Below w.heap.size w (w.alloc (verC a b c s)) := (Below.refl _ w).alloc (Nat.le_refl _) _
  obtain ⟨x0, x1, x2, x3⟩ := cells4 (World.alloc_heap_new w (verC a b c s))
  have hm1 : LenAt (w.alloc (verC a b c s)) := by
    obtain ⟨m, hm⟩ := hm
    exact ⟨m, (hb0.cell (show 1 < _ from h1)).trans hm⟩
  have HRP := Lib.hid (rightPre_any s (w.alloc (verC a b c s)) hs hm1 (by simp; omega))
  have HB0 := Lib.hid hb0
  have HR := Lib.hid (show Ver.right ⟨a, b, c, bs s⟩ = (rightN a && rightN b && rightN c && ((bs s).isEmpty || rightPre (bs s))) from rfl)
  have HSE := Lib.hid (show s.toList.isEmpty = (bs s).isEmpty by rw [ByteArray.toList_eq])
  cases ha : rightN a with
  | false =>
    have HA := Lib.hid ha
    clear ha hb0 hm hm1
    go_enter Tryz.func54, Tryz.ntmps54
    go_wp2_with fail
    refine (rightNumber_any a _).mono ?_
    rintro e w' ⟨rfl, rfl⟩
    rw [HA.out]
    go_wp2
    refine bodyPost_ret (results_tmp rfl _ _ _) rfl ⟨?_, HB0.out⟩
    rw [HR.out, HA.out]; rfl
  | true =>
    have HA := Lib.hid ha
    cases hbb : rightN b with
    | false =>
      have HBB := Lib.hid hbb
      clear ha hbb hb0 hm hm1
      go_enter Tryz.func54, Tryz.ntmps54
      go_wp2_with fail
      refine (rightNumber_any a _).mono ?_
      rintro e w' ⟨rfl, rfl⟩
      rw [HA.out]
      go_wp2_with fail
      refine (rightNumber_any b _).mono ?_
      rintro e w' ⟨rfl, rfl⟩
      rw [HBB.out]
      go_wp2
      refine bodyPost_ret (results_tmp rfl _ _ _) rfl ⟨?_, HB0.out⟩
      rw [HR.out, HA.out, HBB.out]; rfl
    | true =>
      have HBB := Lib.hid hbb
      cases hcc : rightN c with
      | false =>
        have HCC := Lib.hid hcc
        clear ha hbb hcc hb0 hm hm1
        go_enter Tryz.func54, Tryz.ntmps54
        go_wp2_with fail
        refine (rightNumber_any a _).mono ?_
        rintro e w' ⟨rfl, rfl⟩
        rw [HA.out]
        go_wp2_with fail
        refine (rightNumber_any b _).mono ?_
        rintro e w' ⟨rfl, rfl⟩
        rw [HBB.out]
        go_wp2_with fail
        refine (rightNumber_any c _).mono ?_
        rintro e w' ⟨rfl, rfl⟩
        rw [HCC.out]
        go_wp2
        refine bodyPost_ret (results_tmp rfl _ _ _) rfl ⟨?_, HB0.out⟩
        rw [HR.out, HA.out, HBB.out, HCC.out]; rfl
      | true =>
        have HCC := Lib.hid hcc
        cases hee : (bs s).isEmpty with
        | true =>
          have hse : s.toList.isEmpty = true := by rw [HSE.out]; exact hee
          have HEE := Lib.hid hee
          clear ha hbb hcc hee hb0 hm hm1
          go_enter Tryz.func54, Tryz.ntmps54
          go_wp2_with fail
          refine (rightNumber_any a _).mono ?_
          rintro e w' ⟨rfl, rfl⟩
          rw [HA.out]
          go_wp2_with fail
          refine (rightNumber_any b _).mono ?_
          rintro e w' ⟨rfl, rfl⟩
          rw [HBB.out]
          go_wp2_with fail
          refine (rightNumber_any c _).mono ?_
          rintro e w' ⟨rfl, rfl⟩
          rw [HCC.out]
          go_wp2
          refine bodyPost_ret (results_tmp rfl _ _ _) rfl ⟨?_, HB0.out⟩
          rw [HR.out, HA.out, HBB.out, HCC.out, HEE.out]; rfl
        | false =>
          have hse : s.toList.isEmpty = false := by rw [HSE.out]; exact hee
          have HEE := Lib.hid hee
          clear ha hbb hcc hee hb0 hm hm1
          go_enter Tryz.func54, Tryz.ntmps54
          go_wp2_with fail
          refine (rightNumber_any a _).mono ?_
          rintro e w' ⟨rfl, rfl⟩
          rw [HA.out]
          go_wp2_with fail
          refine (rightNumber_any b _).mono ?_
          rintro e w' ⟨rfl, rfl⟩
          rw [HBB.out]
          go_wp2_with fail
          refine (rightNumber_any c _).mono ?_
          rintro e w' ⟨rfl, rfl⟩
          rw [HCC.out]
          go_wp2_with fail
          refine HRP.out.mono ?_
          rintro e W2 ⟨rfl, h2⟩
          have HB2 := Lib.hid (HB0.out.trans (h2.mono (by simp)))
          clear h2 HRP
          go_wp2
          refine bodyPost_ret (results_tmp rfl _ _ _) rfl ⟨?_, HB2.out⟩
          rw [HR.out, HA.out, HBB.out, HCC.out, HEE.out]; rfl
end Go.Proofs.YtpnbbbhbbnemlaaGreatDoor
