/-
  RIGHT for a Pre of any length: strings.Cut at a text of one byte, the marks, rightPre, Right (printed by genrlong.py).
-/
import Derived.Test.YtbmhjmdbolnbaaaDoorSGd
import Derived.Lib.IndexBytes
namespace Go.Proofs.YtbmhjmdbolnbaaaDoor
open Go.RowKit Go.Shelf
open SemP
set_option linter.unusedVariables false
set_option linter.unusedSimpArgs false
set_option maxRecDepth 100000
section
theorem Index_one (s : ByteArray) (c : UInt8) (w : World) :
    Calls Tryd.prog 91 #[.string s, .string ⟨#[c]⟩] w fun e w' => e = .returned (.int .i64 (Lib.indexByte s.data.toList c)) ∧ w' = w :=
  Go.Proofs.Any.stringslite_Index_one { Tryd.lays145 with } s c w
theorem index_one (s : ByteArray) (c : UInt8) : Lib.index s.data.toList [c] = Lib.indexByte s.data.toList c := by
  exact Lib.index_one _ _
set_option maxHeartbeats 4000000 in
theorem Cut_lite (s : ByteArray) (c : UInt8) (w : World) (hs : s.size < 9223372036854775808) :
    Calls Tryd.prog 71 #[.string s, .string ⟨#[c]⟩] w fun e w' => e = .returned (.tuple #[.string ⟨(Lib.cut s.data.toList [c]).1.toArray⟩, .string ⟨(Lib.cut s.data.toList [c]).2.1.toArray⟩, .bool (Lib.cut s.data.toList [c]).2.2]) ∧ ∃ n, w' = w.drewN n := by
  have HI := Lib.hid (fun w => Index_one s c w)
  rcases Lib.indexB_cases s ⟨#[c]⟩ with hix | ⟨i, hix, hroom⟩
  · obtain ⟨e1, e2, e3⟩ := Lib.cutB_miss s ⟨#[c]⟩ hix
    have e0 : Lib.indexByte s.data.toList c = -1 := (index_one s c).symm.trans hix
    rw [e0] at HI
    rw [show (Lib.cut s.data.toList [c]) = Lib.cut s.data.toList (⟨#[c]⟩ : ByteArray).data.toList from rfl, e1, e2, e3]
    clear hix e0 e1 e2 e3
    go_enter Tryd.func71, Tryd.ntmps71
    go_wp2_with fail
    refine (HI.out _).mono ?_
    rintro e w' ⟨rfl, rfl⟩
    go_wp2
    go_ret3
    exact ⟨rfl, 0, rfl⟩
  · obtain ⟨e1, e2, e3⟩ := Lib.cutB_hit s ⟨#[c]⟩ i hix
    have e0 : Lib.indexByte s.data.toList c = (i : Int) := (index_one s c).symm.trans hix
    rw [e0] at HI
    rw [show (Lib.cut s.data.toList [c]) = Lib.cut s.data.toList (⟨#[c]⟩ : ByteArray).data.toList from rfl, e1, e2, e3]
    have mixed : Tryd.prog.follows Departure.mixedOrders = true := by kernel_rfl
    have hz : (⟨#[c]⟩ : ByteArray).size = 1 := rfl
    rw [hz] at hroom
    have c1 : (0 : Int) ≤ ↑i := by omega
    have c2 : (↑i : Int) ≤ ↑s.size := by omega
    have c3 : (0 : Int) ≤ ↑i + 1 := by omega
    have c4 : (↑i + 1 : Int) ≤ ↑s.size := by omega
    have hadd : IntKind.i64.wrap ((i : Int) + 1) = (i : Int) + 1 := by rw [IntWalk.i64_in _ (by omega)]
    clear hix e0 e1 e2 e3
    go_enter Tryd.func71, Tryd.ntmps71
    go_wp2_with fail
    refine (HI.out _).mono ?_
    rintro e w' ⟨rfl, rfl⟩
    go_wp2
    go_region_o
    go_wp2
    go_ret3
    exact ⟨rfl, 1, rfl⟩
set_option maxHeartbeats 4000000 in
theorem Cut_one (s : ByteArray) (c : UInt8) (w : World) (hs : s.size < 9223372036854775808) :
    Calls Tryd.prog 45 #[.string s, .string ⟨#[c]⟩] w fun e w' => e = .returned (.tuple #[.string ⟨(Lib.cut s.data.toList [c]).1.toArray⟩, .string ⟨(Lib.cut s.data.toList [c]).2.1.toArray⟩, .bool (Lib.cut s.data.toList [c]).2.2]) ∧ ∃ n, w' = w.drewN n := by
  have HC := Lib.hid (fun w => Cut_lite s c w hs)
  go_enter Tryd.func45, Tryd.ntmps45
  go_wp2_with fail
  refine (HC.out _).mono ?_
  rintro e w' ⟨rfl, n, rfl⟩
  go_wp2
  go_ret3
  exact ⟨rfl, n, rfl⟩
end
attribute [local go_sem] Oper.semAt_some
abbrev MkL := { x : Str // x.length < 9223372036854775808 }
abbrev strsL (l : List MkL) : List Str := l.map Subtype.val
theorem strsL_snoc (l : List MkL) (x : MkL) : strsL (l ++ [x]) = strsL l ++ [x.1] := by simp [strsL]
set_option maxHeartbeats 2000000 in
/-- The iterator: one round a piece, from the box that bears the text. -/
theorem marks_stopsL (n : Nat) (hn : 1 ≤ n) (Bn n₀ : Nat) (s : ByteArray) (hs : s.size < 9223372036854775808) (w : World) (h1 : 1 < n₀) (hn0 : n₀ ≤ w.heap.size) (hb : w.cell? ⟨Bn, 0, none⟩ = some (.string s)) (hm : LenAt w) (hBw : Bn < w.heap.size) :
    SeqStopsK Fence.wide n Tryd.prog 92 #[.pointer (some ⟨Bn, 0, none⟩)] (fun x : MkL => #[.string (mk x.1)]) (Below n₀) (fun xs => strsL xs = pieces 46 (bs s)) (fun pre => strsL pre <+: pieces 46 (bs s)) (pieces 46 (bs s)).length w := by
  intro l J Jx W hW hJ hJx hY h0
  have hb2 : W.cell? ⟨Bn, 0, none⟩ = some (.string s) := (hW.cell hBw).trans hb
  have hm2 : ∃ m, W.cell? ⟨1, 0, none⟩ = some (.int .i64 m) := by obtain ⟨m, hm⟩ := hm; exact ⟨m, (hW.cell (show 1 < _ by omega)).trans hm⟩
  refine callsIn_of_wp Tryd.func92 rfl trivial ?_ rfl
  simp only [Tryd.ntmps92, List.size_toArray, List.length_cons, List.length_nil, Nat.reduceAdd, Nat.reduceSub, Array.replicate_succ, Array.replicate_zero, List.push_toArray, List.append_toArray, List.nil_append, List.cons_append]
  gi_wp2
  gi_loopw [3, 4] (fun p more wr => ∃ (pre : List MkL) (rest : Str), p = .string (mk rest) ∧ rest.length < 9223372036854775808 ∧ LenAt wr ∧ J pre wr ∧
      ((more = .bool true ∧ pieces 46 (bs s) = strsL pre ++ pieces 46 rest) ∨ (more = .bool false ∧ pieces 46 (bs s) = strsL pre)))
    (fun p more _ => toGo p more)
  case atStart => exact ⟨[], bs s, by simp [mk], by rw [show (bs s).length = s.size from (Lib.size_eq s).symm]; exact hs, hm2, h0, .inl ⟨rfl, rfl⟩⟩
  case round =>
    obtain ⟨pre, rest, rfl, hrl, ⟨m, hmw⟩, hJs, hcase⟩ := hrel
    rcases hcase with ⟨rfl, hp⟩ | ⟨rfl, hp⟩
    · have hsz := mk_size rest
      have HCUT := Lib.hid (Cut_one (mk rest) 46 wr (by omega))
      gi_wp2_with fail
      refine ⟨trivial, ?_⟩
      gi_at_call 45
      refine (callsIn_wide.2 HCUT.out).mono ?_
      rintro e w1 ⟨rfl, k, rfl⟩
      clear HCUT
      have hJ2 : J pre (wr.drewN k) := hJ pre wr _ none hJs ⟨rfl, rfl, rfl, Nat.le_refl _, fun _ _ _ => rfl⟩ (fun r e => by cases e)
      have hmw2 : (wr.drewN k).cell? ⟨1, 0, none⟩ = some (.int .i64 m) := hmw
      rcases cut_pieces rest 46 with ⟨p, r, hcut, hpp, hrr, hnp⟩ | ⟨hcut, hpp, hnp⟩
      · subst hrr
        rw [hcut]
        have hlen : pre.length < (pieces 46 (bs s)).length := by rw [hp, hpp]; simp [strsL]
        have hpl : p.length < 9223372036854775808 := by rw [List.length_append] at hrl; omega
        obtain ⟨fn, tmps, assign, body, hy, hR⟩ := hY pre ⟨p, hpl⟩ (wr.drewN k) hJ2 hlen
        try dsimp only at hy
        have hl2 : r.length < 9223372036854775808 := by rw [List.length_append, List.length_cons] at hrl; omega
        have hpN : pieces 46 (bs s) = strsL (pre ++ [⟨p, hpl⟩]) ++ pieces 46 r := by rw [hp, hpp, strsL_snoc]; simp
        have hms : r.length + 1 < (p ++ 46 :: r).length + 1 := by rw [List.length_append, List.length_cons]; omega
        have HX := Lib.hid (And.intro hpN hms)
        clear hp hpp hcut hpN hms
        gi_wp2
        refine hR.mono ?_
        rintro e W3 (⟨rfl, hJ3, hk3⟩ | ⟨rfl, hJx3⟩)
        · have hm3 : W3.cell? ⟨1, 0, none⟩ = some (.int .i64 m) := (hk3.cell (show 1 < _ from h1)).trans hmw2
          gi_wp2
          go_roundw
          case rel => exact ⟨pre ++ [⟨p, hpl⟩], r, rfl, hl2, ⟨m, hm3⟩, hJ3, .inl ⟨rfl, HX.out.1⟩⟩
          case measure =>
            show toGo (.string (mk r)) (.bool true) < toGo (.string (mk (p ++ 46 :: r))) (.bool true)
            simp only [toGo, mk_size]
            exact HX.out.2
        · gi_wp2
          refine bodyPost_ret (results_none rfl _ _ _) rfl ?_
          exact ⟨⟨_, rfl⟩, .inr ⟨pre ++ [⟨p, hpl⟩], ⟨pieces 46 r, HX.out.1.symm⟩, hJx3⟩⟩
      · rw [hcut]
        have hlen : pre.length < (pieces 46 (bs s)).length := by rw [hp, hpp]; simp [strsL]
        obtain ⟨fn, tmps, assign, body, hy, hR⟩ := hY pre ⟨rest, hrl⟩ (wr.drewN k) hJ2 hlen
        have HX : Hid (pieces 46 (bs s) = strsL (pre ++ [⟨rest, hrl⟩])) := Lib.hid (by rw [hp, hpp, strsL_snoc])
        clear hp hpp hcut
        gi_wp2
        refine hR.mono ?_
        rintro e W3 (⟨rfl, hJ3, hk3⟩ | ⟨rfl, hJx3⟩)
        · have hm3 : W3.cell? ⟨1, 0, none⟩ = some (.int .i64 m) := (hk3.cell (show 1 < _ from h1)).trans hmw2
          gi_wp2
          go_roundw
          case rel => exact ⟨pre ++ [⟨rest, hrl⟩], [], rfl, by simp, ⟨m, hm3⟩, hJ3, .inr ⟨rfl, HX.out⟩⟩
          case measure =>
            show toGo (.string (mk [])) (.bool false) < toGo (.string (mk rest)) (.bool true)
            simp only [toGo]
            omega
        · gi_wp2
          refine bodyPost_ret (results_none rfl _ _ _) rfl ?_
          exact ⟨⟨_, rfl⟩, .inr ⟨pre ++ [⟨rest, hrl⟩], ⟨[], by rw [List.append_nil]; exact HX.out.symm⟩, hJx3⟩⟩
    · gi_wp2
      go_end0
      exact ⟨⟨_, rfl⟩, .inl ⟨pre, hp.symm, hJs⟩⟩
set_option maxHeartbeats 4000000 in
theorem rightPre_anyL (s : ByteArray) (w : World) (hs : s.size < 9223372036854775808) (hm : LenAt w) (h1 : 1 < w.heap.size) :
    Calls Tryd.prog 46 #[.string s] w fun e w' => e = .returned (.bool (rightPre (bs s))) ∧ Below w.heap.size w w' := by
  refine (callsIn_wide (n := 4)).1 ?_
  refine callsIn_of_wp_marks Tryd.func46 rfl trivial ?_ rfl
  simp only [Tryd.ntmps46, List.size_toArray, List.length_cons, List.length_nil, Nat.reduceAdd, Nat.reduceSub, Array.replicate_succ, Array.replicate_zero, List.push_toArray, List.append_toArray, List.nil_append, List.cons_append]
  gi_wp2_with (refine ⟨trivial, ?_⟩; gi_at_call 72; refine (marks_in _ _ _).mono ?_; rintro e w' ⟨rfl, rfl⟩)
  have c0 := cell_new1 w (.bool false) 4
  have c1 := cell_new1 (w.alloc (.cells #[.bool false] 4)) (.int .i64 0) 3
  have c2 := cell_new1 ((w.alloc (.cells #[.bool false] 4)).alloc (.cells #[.int .i64 0] 3)) (.string s) 9
  simp only [World.size_alloc] at c1 c2
  have hB0 : Below w.heap.size w (((w.alloc (.cells #[.bool false] 4)).alloc (.cells #[.int .i64 0] 3)).alloc (.cells #[.string s] 9)) := (((Below.refl _ w).alloc (Nat.le_refl _) _).alloc (by simp) _).alloc (by simp; omega) _
  have hm0 : LenAt (((w.alloc (.cells #[.bool false] 4)).alloc (.cells #[.int .i64 0] 3)).alloc (.cells #[.string s] 9)) := by
    obtain ⟨m, hm⟩ := hm
    exact ⟨m, (hB0.cell (show 1 < _ from h1)).trans hm⟩
  have HRP := Lib.hid (rightPre_iff (bs s))
  have HPL := Lib.hid (piece_len 46 (bs s))
  have hzs : (bs s).length = s.size := (Lib.size_eq s).symm
  refine wpIn_rangeFunc_ownF rfl (by omega) (gf := 92) (lb := #[.pointer (some ⟨w.heap.size + 1 + 1, 0, none⟩)]) rfl trivial (enters_of Tryd.func92 (by kernel_rfl) rfl)
    (marks_stopsL 3 (by omega) (w.heap.size + 1 + 1) w.heap.size s hs _ h1 (by simp; omega) c2.1 hm0 (by simp)) belowK_t (belowK_b (by simp; omega)) (Below.refl _ _) (fun _ => rfl)
    (fun pre W => ((soFar (strsL pre) ∧ W.cell? ⟨w.heap.size, 0, none⟩ = some (.bool false) ∧ W.frozen? ⟨w.heap.size, 0, none⟩ = false) ∧ W.cell? ⟨w.heap.size + 1, 0, none⟩ = some (.int .i64 (pre.length : Int)) ∧ W.frozen? ⟨w.heap.size + 1, 0, none⟩ = false) ∧ Below w.heap.size w W)
    (fun c pre W => (c = .ret ∧ ¬ soFar (strsL pre) ∧ W.cell? ⟨w.heap.size, 0, none⟩ = some (.bool false)) ∧ Below w.heap.size w W)
    (OwnFrom.and (Own.from (fun s A B row hs hg hr => ⟨⟨hs.1.1, cell_kept hs.1.2.1 hg hr, (frozen_kept hs.1.2.1 hg hr).trans hs.1.2.2⟩, cell_kept hs.2.1 hg hr, (frozen_kept hs.2.1 hg hr).trans hs.2.2⟩) _) (ownFrom_below (Nat.le_refl _) (by simp; omega)))
    (fun c => OwnFrom.and (Own.from (fun s A B row hs hg hr => ⟨hs.1, hs.2.1, cell_kept hs.2.2 hg hr⟩) _) (ownFrom_below (Nat.le_refl _) (by simp; omega)))
    ⟨⟨⟨⟨by simp [strsL], by simp [strsL]⟩, cell_al _ (cell_al _ c0.1), frozen_al _ (cell_al _ c0.1) (frozen_al _ c0.1 c0.2)⟩, cell_al _ c1.1, frozen_al _ c1.1 c1.2⟩, hB0⟩
    (fun x => { tmps := #[.string s, undef, .pointer (some ⟨w.heap.size, 0, none⟩), .pointer (some ⟨w.heap.size + 1, 0, none⟩), .string (mk x.1), .string s, .func (.func 92) #[] #[.pointer (some ⟨w.heap.size + 1 + 1, 0, none⟩)], .string (mk x.1), undef, undef, undef, undef, undef, undef, undef, undef, undef], defers := [] }) ?assign ?body ?done ?stop
  case assign =>
    intro l x W K hK
    gi_wp2
    exact hK
  case body =>
    rintro l pre x W ⟨⟨⟨hsf, hc0, hf0⟩, hc1, hf1⟩, hB⟩ hlen
    have hx := x.2
    have hxs := mk_size x.1
    have hlp : pre.length ≤ 4 := by have := hsf.1; rw [List.length_map] at this; exact this
    have hadd : IntKind.i64.wrap ((pre.length : Int) + 1) = ((pre.length + 1 : Nat) : Int) := by rw [IntWalk.i64_in _ (by omega)]; omega
    have HSF := Lib.hid hsf
    have HSN := Lib.hid (@soFar_snoc (strsL pre) x.1)
    clear hsf
    have hc0' : ∀ v, (W.setCell ⟨w.heap.size + 1, 0, none⟩ v).cell? ⟨w.heap.size, 0, none⟩ = some (.bool false) := fun v => (World.cell?_setCell_other _ _ _ _ (by simp)).trans hc0
    have hb1 : ∀ v, Below w.heap.size w (W.setCell ⟨w.heap.size + 1, 0, none⟩ v) := fun v => hB.setCell (p := ⟨w.heap.size + 1, 0, none⟩) (by simp) _
    have hls : (strsL pre).length = pre.length := by simp [strsL]
    by_cases h4 : 4 < pre.length + 1
    · have hd : decide (4 < ((pre.length + 1 : Nat) : Int)) = true := by simp; omega
      have HNO : Hid (¬ soFar (strsL (pre ++ [x]))) := Lib.hid (by rw [strsL_snoc, HSN.out]; rintro ⟨_, h, _⟩; omega)
      gi_wp2
      refine ⟨trivial, ?_⟩
      gi_wp2
      exact ⟨(KeepsOthers.setCell _ _ _).trans (KeepsOthers.setCell _ _ _), ⟨rfl, HNO.out, World.cell?_setCell_same' _ _ _ (by rw [hc0']; rfl)⟩, (hb1 _).setCell (p := ⟨w.heap.size, 0, none⟩) (Nat.le_refl _) _⟩
    · have hd : decide (4 < ((pre.length + 1 : Nat) : Int)) = false := by simp; omega
      gi_wp2_with (refine ⟨trivial, ?_⟩; gi_at_call 73; refine (CallsIn.inRound l (callsIn_wide.2 (rightMark_any _ _ (by rw [hxs]; omega)))).mono ?_; rintro e w' ⟨rfl, rfl⟩)
      · rename_i hh
        have HNO : ¬ soFar (strsL (pre ++ [x])) := by
          rw [strsL_snoc, HSN.out]; rintro ⟨_, h, hr⟩
          rw [show bs (mk x.1) = x.1 from rfl, hr] at hh
          simp at hh; omega
        exact ⟨(KeepsOthers.setCell _ _ _).trans (KeepsOthers.setCell _ _ _), ⟨rfl, HNO, World.cell?_setCell_same' _ _ _ (by rw [hc0']; rfl)⟩, (hb1 _).setCell (p := ⟨w.heap.size, 0, none⟩) (Nat.le_refl _) _⟩
      · rename_i hh
        have HYES : soFar (strsL (pre ++ [x])) := by
          rw [strsL_snoc, HSN.out]
          have h2 := hh.2
          rw [show bs (mk x.1) = x.1 from rfl] at h2
          simp at h2
          exact ⟨HSF.out, by omega, h2⟩
        refine ⟨KeepsOthers.setCell _ _ _, (Below.refl w.heap.size W).setCell (p := ⟨w.heap.size + 1, 0, none⟩) (by simp) _, ⟨⟨HYES, hc0' _, by rw [World.frozen?_setCell]; exact hf0⟩, ?_, by rw [World.frozen?_setCell]; exact hf1⟩, hb1 _⟩
        rw [World.cell?_setCell_same' _ _ _ (by rw [hc1]; rfl)]
        simp
  case done =>
    rintro D ys W hD hys ⟨⟨⟨hsf, hc0, hf0⟩, _, _⟩, hB⟩ hK
    have HR : Hid (rightPre (bs s) = true) := Lib.hid (HRP.out.2 (by rw [← hys]; exact hsf))
    gi_wp2
    have hK' := (KeepsOthers.setCell W ⟨w.heap.size, 0, none⟩ (.bool true)).same D _ hK rfl
    refine ⟨by simp, .inl ⟨_, _, rfl, run_takeDeferred hK', ?_⟩⟩
    have hc5 := cell_kept (World.cell?_setCell_same' W ⟨w.heap.size, 0, none⟩ (.bool true) (by rw [hc0]; rfl)) (grownBy_putObj' _ D (.deferred none)) (fun r e => by cases e; exact ⟨_, hK', rfl⟩)
    refine ⟨.bool true, ?_, by rw [HR.out], (hB.setCell (p := ⟨w.heap.size, 0, none⟩) (Nat.le_refl _) _).trans (belowK_b (w := w) (Nat.le_refl _) _ D _ _ (by simp at hD; omega) hK' rfl rfl)⟩
    simp [results, Tryd.f46, go_sem, hc5]
  case stop =>
    rintro D c pre W hD hpre ⟨⟨rfl, hno, hcr⟩, hB⟩ hK
    have HR : Hid (rightPre (bs s) = false) := Lib.hid (by
      rw [Bool.eq_false_iff]
      intro h
      exact hno (soFar_prefix hpre (HRP.out.1 h)))
    gi_wp2
    refine ⟨by simp, .inl ⟨_, _, rfl, run_takeDeferred hK, ?_⟩⟩
    have hc5 := cell_kept hcr (grownBy_putObj' _ D (.deferred none)) (fun r e => by cases e; exact ⟨_, hK, rfl⟩)
    refine ⟨.bool false, ?_, by rw [HR.out], hB.trans (belowK_b (w := w) (Nat.le_refl _) W D _ _ (by simp at hD; omega) hK rfl rfl)⟩
    simp [results, Tryd.f46, go_sem, hc5]
set_option maxHeartbeats 4000000 in
theorem Right_anyL (a b c : Int) (s : ByteArray) (w : World) (hs : s.size < 9223372036854775808) (hm : LenAt w) (h1 : 1 < w.heap.size) :
    Calls Tryd.prog 24 #[verV a b c s] w fun e w' => e = .returned (.bool (Ver.right ⟨a, b, c, bs s⟩)) ∧ Below w.heap.size w w' := by
  have hb0 : Below w.heap.size w (w.alloc (verC a b c s)) := (Below.refl _ w).alloc (Nat.le_refl _) _
  obtain ⟨x0, x1, x2, x3⟩ := cells4 (World.alloc_heap_new w (verC a b c s))
  have hm1 : LenAt (w.alloc (verC a b c s)) := by
    obtain ⟨m, hm⟩ := hm
    exact ⟨m, (hb0.cell (show 1 < _ from h1)).trans hm⟩
  have HRP := Lib.hid (rightPre_anyL s (w.alloc (verC a b c s)) hs hm1 (by simp; omega))
  have HB0 := Lib.hid hb0
  have HR := Lib.hid (show Ver.right ⟨a, b, c, bs s⟩ = (rightN a && rightN b && rightN c && ((bs s).isEmpty || rightPre (bs s))) from rfl)
  have HSE := Lib.hid (show s.toList.isEmpty = (bs s).isEmpty by rw [ByteArray.toList_eq])
  cases ha : rightN a with
  | false =>
    have HA := Lib.hid ha
    clear ha hb0 hm hm1
    go_enter Tryd.func24, Tryd.ntmps24
    go_wp2_with fail
    refine (rightNumber_any a _).mono ?_
    rintro e w' ⟨rfl, rfl⟩
    rw [HA.out]
    go_wp2
    refine bodyPost_ret (results_tmp rfl _ _ _) rfl ⟨?_, HB0.out⟩
    rw [HR.out, HA.out]; rfl
  | true =>
    have HA := Lib.hid ha
    cases hbb : rightN b with
    | false =>
      have HBB := Lib.hid hbb
      clear ha hbb hb0 hm hm1
      go_enter Tryd.func24, Tryd.ntmps24
      go_wp2_with fail
      refine (rightNumber_any a _).mono ?_
      rintro e w' ⟨rfl, rfl⟩
      rw [HA.out]
      go_wp2_with fail
      refine (rightNumber_any b _).mono ?_
      rintro e w' ⟨rfl, rfl⟩
      rw [HBB.out]
      go_wp2
      refine bodyPost_ret (results_tmp rfl _ _ _) rfl ⟨?_, HB0.out⟩
      rw [HR.out, HA.out, HBB.out]; rfl
    | true =>
      have HBB := Lib.hid hbb
      cases hcc : rightN c with
      | false =>
        have HCC := Lib.hid hcc
        clear ha hbb hcc hb0 hm hm1
        go_enter Tryd.func24, Tryd.ntmps24
        go_wp2_with fail
        refine (rightNumber_any a _).mono ?_
        rintro e w' ⟨rfl, rfl⟩
        rw [HA.out]
        go_wp2_with fail
        refine (rightNumber_any b _).mono ?_
        rintro e w' ⟨rfl, rfl⟩
        rw [HBB.out]
        go_wp2_with fail
        refine (rightNumber_any c _).mono ?_
        rintro e w' ⟨rfl, rfl⟩
        rw [HCC.out]
        go_wp2
        refine bodyPost_ret (results_tmp rfl _ _ _) rfl ⟨?_, HB0.out⟩
        rw [HR.out, HA.out, HBB.out, HCC.out]; rfl
      | true =>
        have HCC := Lib.hid hcc
        cases hee : (bs s).isEmpty with
        | true =>
          have hse : s.toList.isEmpty = true := by rw [HSE.out]; exact hee
          have HEE := Lib.hid hee
          clear ha hbb hcc hee hb0 hm hm1
          go_enter Tryd.func24, Tryd.ntmps24
          go_wp2_with fail
          refine (rightNumber_any a _).mono ?_
          rintro e w' ⟨rfl, rfl⟩
          rw [HA.out]
          go_wp2_with fail
          refine (rightNumber_any b _).mono ?_
          rintro e w' ⟨rfl, rfl⟩
          rw [HBB.out]
          go_wp2_with fail
          refine (rightNumber_any c _).mono ?_
          rintro e w' ⟨rfl, rfl⟩
          rw [HCC.out]
          go_wp2
          refine bodyPost_ret (results_tmp rfl _ _ _) rfl ⟨?_, HB0.out⟩
          rw [HR.out, HA.out, HBB.out, HCC.out, HEE.out]; rfl
        | false =>
          have hse : s.toList.isEmpty = false := by rw [HSE.out]; exact hee
          have HEE := Lib.hid hee
          clear ha hbb hcc hee hb0 hm hm1
          go_enter Tryd.func24, Tryd.ntmps24
          go_wp2_with fail
          refine (rightNumber_any a _).mono ?_
          rintro e w' ⟨rfl, rfl⟩
          rw [HA.out]
          go_wp2_with fail
          refine (rightNumber_any b _).mono ?_
          rintro e w' ⟨rfl, rfl⟩
          rw [HBB.out]
          go_wp2_with fail
          refine (rightNumber_any c _).mono ?_
          rintro e w' ⟨rfl, rfl⟩
          rw [HCC.out]
          go_wp2_with fail
          refine HRP.out.mono ?_
          rintro e W2 ⟨rfl, h2⟩
          have HB2 := Lib.hid (HB0.out.trans (h2.mono (by simp)))
          clear h2 HRP
          go_wp2
          refine bodyPost_ret (results_tmp rfl _ _ _) rfl ⟨?_, HB2.out⟩
          rw [HR.out, HA.out, HBB.out, HCC.out, HEE.out]; rfl
end Go.Proofs.YtbmhjmdbolnbaaaDoor
