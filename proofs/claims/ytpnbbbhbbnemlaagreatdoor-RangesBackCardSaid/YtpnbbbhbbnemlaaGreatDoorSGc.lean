/-
  CONTRACTS of package semver: the iterator over a Pre's marks, inside a fence.
  CONTRACT of package semver: rightPre.
-/
import Derived.Test.YtpnbbbhbbnemlaaGreatDoorSNum
import Derived.RangeFuncNested
import Derived.RangeFuncBound
import Derived.RangeFuncCalls
import Derived.RangeFuncLeaves
import Derived.Shelf.Abstract
import Derived.Shelf.RegionOpen
import Derived.OwnWalkIn
import Derived.TacticsInMore
import Derived.LoopNIn
import Derived.LoopIn
namespace Go.Proofs.YtpnbbbhbbnemlaaGreatDoor
open Go.RowKit Go.Shelf
open SemP
set_option linter.unusedVariables false
set_option linter.unusedSimpArgs false
set_option maxRecDepth 100000
attribute [local go_sem] Oper.semAt_some

/-- A mark as a value. -/
abbrev mk (x : Str) : ByteArray := ⟨x.toArray⟩
/-- What a round is handed: a text that isn't too long. -/
abbrev Mk := { x : Str // x.length < 4294967281 }
abbrev strs (l : List Mk) : List Str := l.map Subtype.val
theorem strs_snoc (l : List Mk) (x : Mk) : strs (l ++ [x]) = strs l ++ [x.1] := by simp [strs]
theorem mk_size (x : Str) : (mk x).size = x.length := Lib.size_eq _
theorem marks_in (n : Nat) (s : ByteArray) (w : World) :
    CallsIn Fence.wide n Tryz.prog 115 #[.string s] w fun e w' => e = .returned (.func (.func 145) #[] #[.pointer (some ⟨w.heap.size, 0, none⟩)]) ∧ w' = w.alloc (.cells #[.string s] 9) := by
  refine callsIn_of_wp Tryz.func115 rfl trivial ?_ rfl
  simp only [Tryz.ntmps115, List.size_toArray, List.length_cons, List.length_nil, Nat.reduceAdd, Nat.reduceSub, Array.replicate_succ, Array.replicate_zero, List.push_toArray, List.append_toArray, List.nil_append, List.cons_append]
  gi_wp2
  go_ret
  exact ⟨rfl, rfl⟩
/-- What is left to go through. -/
def toGo (p more : Value) : Nat := match p, more with
  | .string b, .bool true => b.size + 1
  | _, _ => 0
set_option maxHeartbeats 2000000 in
/-- The iterator: one round a piece, from the box that bears the text. -/
theorem marks_stops (n : Nat) (hn : 1 ≤ n) (Bn n₀ : Nat) (s : ByteArray) (hs : s.size < 4294967281) (w : World) (h1 : 1 < n₀) (hn0 : n₀ ≤ w.heap.size) (hb : w.cell? ⟨Bn, 0, none⟩ = some (.string s)) (hm : LenAt w) (hBw : Bn < w.heap.size) :
    SeqStopsK Fence.wide n Tryz.prog 145 #[.pointer (some ⟨Bn, 0, none⟩)] (fun x : Mk => #[.string (mk x.1)]) (Below n₀) (fun xs => strs xs = pieces 46 (bs s)) (fun pre => strs pre <+: pieces 46 (bs s)) (pieces 46 (bs s)).length w := by
  intro l J Jx W hW hJ hJx hY h0
  have hb2 : W.cell? ⟨Bn, 0, none⟩ = some (.string s) := (hW.cell hBw).trans hb
  have hm2 : ∃ m, W.cell? ⟨1, 0, none⟩ = some (.int .i64 m) := by obtain ⟨m, hm⟩ := hm; exact ⟨m, (hW.cell (show 1 < _ by omega)).trans hm⟩
  refine callsIn_of_wp Tryz.func145 rfl trivial ?_ rfl
  simp only [Tryz.ntmps145, List.size_toArray, List.length_cons, List.length_nil, Nat.reduceAdd, Nat.reduceSub, Array.replicate_succ, Array.replicate_zero, List.push_toArray, List.append_toArray, List.nil_append, List.cons_append]
  gi_wp2
  gi_loopw [3, 4] (fun p more wr => ∃ (pre : List Mk) (rest : Str), p = .string (mk rest) ∧ rest.length < 4294967281 ∧ LenAt wr ∧ J pre wr ∧
      ((more = .bool true ∧ pieces 46 (bs s) = strs pre ++ pieces 46 rest) ∨ (more = .bool false ∧ pieces 46 (bs s) = strs pre)))
    (fun p more _ => toGo p more)
  case atStart => exact ⟨[], bs s, by simp [mk], by rw [show (bs s).length = s.size from (Lib.size_eq s).symm]; exact hs, hm2, h0, .inl ⟨rfl, rfl⟩⟩
  case round =>
    obtain ⟨pre, rest, rfl, hrl, ⟨m, hmw⟩, hJs, hcase⟩ := hrel
    rcases hcase with ⟨rfl, hp⟩ | ⟨rfl, hp⟩
    · have hsz := mk_size rest
      have HCUT := Lib.hid (Tryz.strings_Cut (mk rest) ⟨#[46]⟩ m wr (by omega) hmw)
      gi_wp2_with fail
      refine ⟨trivial, ?_⟩
      gi_at_call 37
      refine (callsIn_wide.2 HCUT.out).mono ?_
      rintro e w1 ⟨rfl, k, rfl⟩
      clear HCUT
      have hJ2 : J pre (wr.drewN k) := hJ pre wr _ none hJs ⟨rfl, rfl, rfl, Nat.le_refl _, fun _ _ _ => rfl⟩ (fun r e => by cases e)
      have hmw2 : (wr.drewN k).cell? ⟨1, 0, none⟩ = some (.int .i64 m) := hmw
      rcases cut_pieces rest 46 with ⟨p, r, hcut, hpp, hrr, hnp⟩ | ⟨hcut, hpp, hnp⟩
      · subst hrr
        rw [hcut]
        have hlen : pre.length < (pieces 46 (bs s)).length := by rw [hp, hpp]; simp [strs]
        have hpl : p.length < 4294967281 := by rw [List.length_append] at hrl; omega
        obtain ⟨fn, tmps, assign, body, hy, hR⟩ := hY pre ⟨p, hpl⟩ (wr.drewN k) hJ2 hlen
        try dsimp only at hy
        have hl2 : r.length < 4294967281 := by rw [List.length_append, List.length_cons] at hrl; omega
        have hpN : pieces 46 (bs s) = strs (pre ++ [⟨p, hpl⟩]) ++ pieces 46 r := by rw [hp, hpp, strs_snoc]; simp
        have hms : r.length + 1 < (p ++ 46 :: r).length + 1 := by rw [List.length_append, List.length_cons]; omega
        have HX := Lib.hid (And.intro hpN hms)
        clear hp hpp hcut hpN hms
        gi_wp2
        refine hR.mono ?_
        rintro e W3 (⟨rfl, hJ3, hk3⟩ | ⟨rfl, hJx3⟩)
        · have hm3 : W3.cell? ⟨1, 0, none⟩ = some (.int .i64 m) := (hk3.cell (show 1 < _ from h1)).trans hmw2
          gi_wp2
          go_roundw
          case rel => exact ⟨pre ++ [⟨p, hpl⟩], r, rfl, hl2, ⟨m, hm3⟩, hJ3, .inl ⟨rfl, HX.out.1⟩⟩
          case measure =>
            show toGo (.string (mk r)) (.bool true) < toGo (.string (mk (p ++ 46 :: r))) (.bool true)
            simp only [toGo, mk_size]
            exact HX.out.2
        · gi_wp2
          refine bodyPost_ret (results_none rfl _ _ _) rfl ?_
          exact ⟨⟨_, rfl⟩, .inr ⟨pre ++ [⟨p, hpl⟩], ⟨pieces 46 r, HX.out.1.symm⟩, hJx3⟩⟩
      · rw [hcut]
        have hlen : pre.length < (pieces 46 (bs s)).length := by rw [hp, hpp]; simp [strs]
        obtain ⟨fn, tmps, assign, body, hy, hR⟩ := hY pre ⟨rest, hrl⟩ (wr.drewN k) hJ2 hlen
        have HX : Hid (pieces 46 (bs s) = strs (pre ++ [⟨rest, hrl⟩])) := Lib.hid (by rw [hp, hpp, strs_snoc])
        clear hp hpp hcut
        gi_wp2
        refine hR.mono ?_
        rintro e W3 (⟨rfl, hJ3, hk3⟩ | ⟨rfl, hJx3⟩)
        · have hm3 : W3.cell? ⟨1, 0, none⟩ = some (.int .i64 m) := (hk3.cell (show 1 < _ from h1)).trans hmw2
          gi_wp2
          go_roundw
          case rel => exact ⟨pre ++ [⟨rest, hrl⟩], [], rfl, by simp, ⟨m, hm3⟩, hJ3, .inr ⟨rfl, HX.out⟩⟩
          case measure =>
            show toGo (.string (mk [])) (.bool false) < toGo (.string (mk rest)) (.bool true)
            simp only [toGo]
            omega
        · gi_wp2
          refine bodyPost_ret (results_none rfl _ _ _) rfl ?_
          exact ⟨⟨_, rfl⟩, .inr ⟨pre ++ [⟨rest, hrl⟩], ⟨[], by rw [List.append_nil]; exact HX.out.symm⟩, hJx3⟩⟩
    · gi_wp2
      go_end0
      exact ⟨⟨_, rfl⟩, .inl ⟨pre, hp.symm, hJs⟩⟩
end Go.Proofs.YtpnbbbhbbnemlaaGreatDoor
namespace Go.Proofs.YtpnbbbhbbnemlaaGreatDoor
open Go.RowKit Go.Shelf
open SemP
set_option linter.unusedVariables false
set_option linter.unusedSimpArgs false
set_option maxRecDepth 100000
attribute [local go_sem] Oper.semAt_some

theorem cell_new1 (W : World) (v : Value) (t : TypeId) : (W.alloc (.cells #[v] t)).cell? ⟨W.heap.size, 0, none⟩ = some v ∧ (W.alloc (.cells #[v] t)).frozen? ⟨W.heap.size, 0, none⟩ = false := by
  have hb := World.alloc_heap_new W (.cells #[v] t)
  exact ⟨by simp only [World.cell?, hb]; rfl, by simp only [World.frozen?, hb]; rfl⟩
theorem cell_al {W : World} {a : Addr} {v : Value} (o : Obj) (h : W.cell? a = some v) : (W.alloc o).cell? a = some v := cell_kept h (World.grownBy_alloc W o none) (fun r e => by cases e)
theorem frozen_al {W : World} {a : Addr} {v : Value} (o : Obj) (h : W.cell? a = some v) (hf : W.frozen? a = false) : (W.alloc o).frozen? a = false := (frozen_kept h (World.grownBy_alloc W o none) (fun r e => by cases e)).trans hf
/-- So far it may be a Pre. -/
def soFar (pre : List Str) : Prop := pre.length ≤ 4 ∧ ∀ x ∈ pre, rightMark x = true
theorem soFar_snoc {pre : List Str} {x : Str} : soFar (pre ++ [x]) ↔ soFar pre ∧ pre.length < 4 ∧ rightMark x = true := by
  unfold soFar
  simp only [List.length_append, List.length_cons, List.length_nil, List.mem_append, List.mem_singleton]
  constructor
  · rintro ⟨h1, h2⟩
    exact ⟨⟨by omega, fun y hy => h2 y (.inl hy)⟩, by omega, h2 x (.inr rfl)⟩
  · rintro ⟨⟨h1, h2⟩, h3, h4⟩
    exact ⟨by omega, fun y hy => hy.elim (h2 y) (fun e => by rw [e]; exact h4)⟩
theorem soFar_prefix {pre l : List Str} (h : pre <+: l) (hl : soFar l) : soFar pre :=
  ⟨Nat.le_trans h.length_le hl.1, fun x hx => hl.2 x (h.subset hx)⟩
theorem rightPre_iff (p : Str) : rightPre p = true ↔ soFar (pieces 46 p) := by
  unfold rightPre soFar
  rw [Bool.and_eq_true, decide_eq_true_iff, List.all_eq_true]
theorem piece_len (c : UInt8) (l : Str) : ∀ x ∈ pieces c l, x.length ≤ l.length := by
  induction l with
  | nil => intro x hx; simp [pieces] at hx; subst hx; simp
  | cons b l ih =>
    intro x hx
    unfold pieces at hx
    split at hx
    · simp at hx
      rcases hx with rfl | hx
      · simp
      · have := ih x hx; simp; omega
    · split at hx
      · simp at hx; subst hx; simp
      · next p ps he =>
        simp at hx
        rcases hx with rfl | hx
        · have := ih p (by rw [he]; simp); simp; omega
        · have := ih x (by rw [he]; simp [hx]); simp; omega
set_option maxHeartbeats 4000000 in
theorem rightPre_any (s : ByteArray) (w : World) (hs : s.size < 4294967281) (hm : LenAt w) (h1 : 1 < w.heap.size) :
    Calls Tryz.prog 84 #[.string s] w fun e w' => e = .returned (.bool (rightPre (bs s))) ∧ Below w.heap.size w w' := by
  refine (callsIn_wide (n := 4)).1 ?_
  refine callsIn_of_wp_marks Tryz.func84 rfl trivial ?_ rfl
  simp only [Tryz.ntmps84, List.size_toArray, List.length_cons, List.length_nil, Nat.reduceAdd, Nat.reduceSub, Array.replicate_succ, Array.replicate_zero, List.push_toArray, List.append_toArray, List.nil_append, List.cons_append]
  gi_wp2_with (refine ⟨trivial, ?_⟩; gi_at_call 115; refine (marks_in _ _ _).mono ?_; rintro e w' ⟨rfl, rfl⟩)
  have c0 := cell_new1 w (.bool false) 4
  have c1 := cell_new1 (w.alloc (.cells #[.bool false] 4)) (.int .i64 0) 3
  have c2 := cell_new1 ((w.alloc (.cells #[.bool false] 4)).alloc (.cells #[.int .i64 0] 3)) (.string s) 9
  simp only [World.size_alloc] at c1 c2
  have hB0 : Below w.heap.size w (((w.alloc (.cells #[.bool false] 4)).alloc (.cells #[.int .i64 0] 3)).alloc (.cells #[.string s] 9)) := (((Below.refl _ w).alloc (Nat.le_refl _) _).alloc (by simp) _).alloc (by simp; omega) _
  have hm0 : LenAt (((w.alloc (.cells #[.bool false] 4)).alloc (.cells #[.int .i64 0] 3)).alloc (.cells #[.string s] 9)) := by
    obtain ⟨m, hm⟩ := hm
    exact ⟨m, (hB0.cell (show 1 < _ from h1)).trans hm⟩
  have HRP := Lib.hid (rightPre_iff (bs s))
  have HPL := Lib.hid (piece_len 46 (bs s))
  have hzs : (bs s).length = s.size := (Lib.size_eq s).symm
  refine wpIn_rangeFunc_ownF rfl (by omega) (gf := 145) (lb := #[.pointer (some ⟨w.heap.size + 1 + 1, 0, none⟩)]) rfl trivial (enters_of Tryz.func145 (by kernel_rfl) rfl)
    (marks_stops 3 (by omega) (w.heap.size + 1 + 1) w.heap.size s hs _ h1 (by simp; omega) c2.1 hm0 (by simp)) belowK_t (belowK_b (by simp; omega)) (Below.refl _ _) (fun _ => rfl)
    (fun pre W => ((soFar (strs pre) ∧ W.cell? ⟨w.heap.size, 0, none⟩ = some (.bool false) ∧ W.frozen? ⟨w.heap.size, 0, none⟩ = false) ∧ W.cell? ⟨w.heap.size + 1, 0, none⟩ = some (.int .i64 (pre.length : Int)) ∧ W.frozen? ⟨w.heap.size + 1, 0, none⟩ = false) ∧ Below w.heap.size w W)
    (fun c pre W => (c = .ret ∧ ¬ soFar (strs pre) ∧ W.cell? ⟨w.heap.size, 0, none⟩ = some (.bool false)) ∧ Below w.heap.size w W)
    (OwnFrom.and (Own.from (fun s A B row hs hg hr => ⟨⟨hs.1.1, cell_kept hs.1.2.1 hg hr, (frozen_kept hs.1.2.1 hg hr).trans hs.1.2.2⟩, cell_kept hs.2.1 hg hr, (frozen_kept hs.2.1 hg hr).trans hs.2.2⟩) _) (ownFrom_below (Nat.le_refl _) (by simp; omega)))
    (fun c => OwnFrom.and (Own.from (fun s A B row hs hg hr => ⟨hs.1, hs.2.1, cell_kept hs.2.2 hg hr⟩) _) (ownFrom_below (Nat.le_refl _) (by simp; omega)))
    ⟨⟨⟨⟨by simp [strs], by simp [strs]⟩, cell_al _ (cell_al _ c0.1), frozen_al _ (cell_al _ c0.1) (frozen_al _ c0.1 c0.2)⟩, cell_al _ c1.1, frozen_al _ c1.1 c1.2⟩, hB0⟩
    (fun x => { tmps := #[.string s, undef, .pointer (some ⟨w.heap.size, 0, none⟩), .pointer (some ⟨w.heap.size + 1, 0, none⟩), .string (mk x.1), .string s, .func (.func 145) #[] #[.pointer (some ⟨w.heap.size + 1 + 1, 0, none⟩)], .string (mk x.1), undef, undef, undef, undef, undef, undef, undef, undef, undef], defers := [] }) ?assign ?body ?done ?stop
  case assign =>
    intro l x W K hK
    gi_wp2
    exact hK
  case body =>
    rintro l pre x W ⟨⟨⟨hsf, hc0, hf0⟩, hc1, hf1⟩, hB⟩ hlen
    have hx := x.2
    have hxs := mk_size x.1
    have hlp : pre.length ≤ 4 := by have := hsf.1; rw [List.length_map] at this; exact this
    have hadd : IntKind.i64.wrap ((pre.length : Int) + 1) = ((pre.length + 1 : Nat) : Int) := by rw [IntWalk.i64_in _ (by omega)]; omega
    have HSF := Lib.hid hsf
    have HSN := Lib.hid (@soFar_snoc (strs pre) x.1)
    clear hsf
    have hc0' : ∀ v, (W.setCell ⟨w.heap.size + 1, 0, none⟩ v).cell? ⟨w.heap.size, 0, none⟩ = some (.bool false) := fun v => (World.cell?_setCell_other _ _ _ _ (by simp)).trans hc0
    have hb1 : ∀ v, Below w.heap.size w (W.setCell ⟨w.heap.size + 1, 0, none⟩ v) := fun v => hB.setCell (p := ⟨w.heap.size + 1, 0, none⟩) (by simp) _
    have hls : (strs pre).length = pre.length := by simp [strs]
    by_cases h4 : 4 < pre.length + 1
    · have hd : decide (4 < ((pre.length + 1 : Nat) : Int)) = true := by simp; omega
      have HNO : Hid (¬ soFar (strs (pre ++ [x]))) := Lib.hid (by rw [strs_snoc, HSN.out]; rintro ⟨_, h, _⟩; omega)
      gi_wp2
      refine ⟨trivial, ?_⟩
      gi_wp2
      exact ⟨(KeepsOthers.setCell _ _ _).trans (KeepsOthers.setCell _ _ _), ⟨rfl, HNO.out, World.cell?_setCell_same' _ _ _ (by rw [hc0']; rfl)⟩, (hb1 _).setCell (p := ⟨w.heap.size, 0, none⟩) (Nat.le_refl _) _⟩
    · have hd : decide (4 < ((pre.length + 1 : Nat) : Int)) = false := by simp; omega
      gi_wp2_with (refine ⟨trivial, ?_⟩; gi_at_call 116; refine (CallsIn.inRound l (callsIn_wide.2 (rightMark_any _ _ (by rw [hxs]; omega)))).mono ?_; rintro e w' ⟨rfl, rfl⟩)
      · rename_i hh
        have HNO : ¬ soFar (strs (pre ++ [x])) := by
          rw [strs_snoc, HSN.out]; rintro ⟨_, h, hr⟩
          rw [show bs (mk x.1) = x.1 from rfl, hr] at hh
          simp at hh; omega
        exact ⟨(KeepsOthers.setCell _ _ _).trans (KeepsOthers.setCell _ _ _), ⟨rfl, HNO, World.cell?_setCell_same' _ _ _ (by rw [hc0']; rfl)⟩, (hb1 _).setCell (p := ⟨w.heap.size, 0, none⟩) (Nat.le_refl _) _⟩
      · rename_i hh
        have HYES : soFar (strs (pre ++ [x])) := by
          rw [strs_snoc, HSN.out]
          have h2 := hh.2
          rw [show bs (mk x.1) = x.1 from rfl] at h2
          simp at h2
          exact ⟨HSF.out, by omega, h2⟩
        refine ⟨KeepsOthers.setCell _ _ _, (Below.refl w.heap.size W).setCell (p := ⟨w.heap.size + 1, 0, none⟩) (by simp) _, ⟨⟨HYES, hc0' _, by rw [World.frozen?_setCell]; exact hf0⟩, ?_, by rw [World.frozen?_setCell]; exact hf1⟩, hb1 _⟩
        rw [World.cell?_setCell_same' _ _ _ (by rw [hc1]; rfl)]
        simp
  case done =>
    rintro D ys W hD hys ⟨⟨⟨hsf, hc0, hf0⟩, _, _⟩, hB⟩ hK
    have HR : Hid (rightPre (bs s) = true) := Lib.hid (HRP.out.2 (by rw [← hys]; exact hsf))
    gi_wp2
    have hK' := (KeepsOthers.setCell W ⟨w.heap.size, 0, none⟩ (.bool true)).same D _ hK rfl
    refine ⟨by simp, .inl ⟨_, _, rfl, run_takeDeferred hK', ?_⟩⟩
    have hc5 := cell_kept (World.cell?_setCell_same' W ⟨w.heap.size, 0, none⟩ (.bool true) (by rw [hc0]; rfl)) (grownBy_putObj' _ D (.deferred none)) (fun r e => by cases e; exact ⟨_, hK', rfl⟩)
    refine ⟨.bool true, ?_, by rw [HR.out], (hB.setCell (p := ⟨w.heap.size, 0, none⟩) (Nat.le_refl _) _).trans (belowK_b (w := w) (Nat.le_refl _) _ D _ _ (by simp at hD; omega) hK' rfl rfl)⟩
    simp [results, Tryz.f84, go_sem, hc5]
  case stop =>
    rintro D c pre W hD hpre ⟨⟨rfl, hno, hcr⟩, hB⟩ hK
    have HR : Hid (rightPre (bs s) = false) := Lib.hid (by
      rw [Bool.eq_false_iff]
      intro h
      exact hno (soFar_prefix hpre (HRP.out.1 h)))
    gi_wp2
    refine ⟨by simp, .inl ⟨_, _, rfl, run_takeDeferred hK, ?_⟩⟩
    have hc5 := cell_kept hcr (grownBy_putObj' _ D (.deferred none)) (fun r e => by cases e; exact ⟨_, hK, rfl⟩)
    refine ⟨.bool false, ?_, by rw [HR.out], hB.trans (belowK_b (w := w) (Nat.le_refl _) W D _ _ (by simp at hD; omega) hK rfl rfl)⟩
    simp [results, Tryz.f84, go_sem, hc5]
end Go.Proofs.YtpnbbbhbbnemlaaGreatDoor
