/-
  CONTRACTS of package semver: the iterator over a Pre's marks, inside a fence.
-/
import Derived.Test.YtbmhjmdbolnbaaaDoorSNum
import Derived.RangeFuncNested
import Derived.RangeFuncBound
import Derived.RangeFuncCalls
import Derived.RangeFuncLeaves
import Derived.Shelf.Abstract
import Derived.Shelf.RegionOpen
import Derived.OwnWalkIn
import Derived.TacticsInMore
import Derived.LoopNIn
import Derived.LoopIn
namespace Go.Proofs.YtbmhjmdbolnbaaaDoor
open Go.RowKit Go.Shelf
open SemP
set_option linter.unusedVariables false
set_option linter.unusedSimpArgs false
set_option maxRecDepth 100000
attribute [local go_sem] Oper.semAt_some

/-- A mark as a value. -/
abbrev mk (x : Str) : ByteArray := ⟨x.toArray⟩
/-- What a round is handed: a text that isn't too long. -/
abbrev Mk := { x : Str // x.length < 4294967281 }
abbrev strs (l : List Mk) : List Str := l.map Subtype.val
theorem strs_snoc (l : List Mk) (x : Mk) : strs (l ++ [x]) = strs l ++ [x.1] := by simp [strs]
theorem mk_size (x : Str) : (mk x).size = x.length := Lib.size_eq _
theorem marks_in (n : Nat) (s : ByteArray) (w : World) :
    CallsIn Fence.wide n Tryd.prog 72 #[.string s] w fun e w' => e = .returned (.func (.func 92) #[] #[.pointer (some ⟨w.heap.size, 0, none⟩)]) ∧ w' = w.alloc (.cells #[.string s] 9) := by
  refine callsIn_of_wp Tryd.func72 rfl trivial ?_ rfl
  simp only [Tryd.ntmps72, List.size_toArray, List.length_cons, List.length_nil, Nat.reduceAdd, Nat.reduceSub, Array.replicate_succ, Array.replicate_zero, List.push_toArray, List.append_toArray, List.nil_append, List.cons_append]
  gi_wp2
  go_ret
  exact ⟨rfl, rfl⟩
/-- What is left to go through. -/
def toGo (p more : Value) : Nat := match p, more with
  | .string b, .bool true => b.size + 1
  | _, _ => 0
set_option maxHeartbeats 2000000 in
/-- The iterator: one round a piece, from the box that bears the text. -/
theorem marks_stops (n : Nat) (hn : 1 ≤ n) (Bn n₀ : Nat) (s : ByteArray) (hs : s.size < 4294967281) (w : World) (h1 : 1 < n₀) (hn0 : n₀ ≤ w.heap.size) (hb : w.cell? ⟨Bn, 0, none⟩ = some (.string s)) (hm : LenAt w) (hBw : Bn < w.heap.size) :
    SeqStopsK Fence.wide n Tryd.prog 92 #[.pointer (some ⟨Bn, 0, none⟩)] (fun x : Mk => #[.string (mk x.1)]) (Below n₀) (fun xs => strs xs = pieces 46 (bs s)) (fun pre => strs pre <+: pieces 46 (bs s)) (pieces 46 (bs s)).length w := by
  intro l J Jx W hW hJ hJx hY h0
  have hb2 : W.cell? ⟨Bn, 0, none⟩ = some (.string s) := (hW.cell hBw).trans hb
  have hm2 : ∃ m, W.cell? ⟨1, 0, none⟩ = some (.int .i64 m) := by obtain ⟨m, hm⟩ := hm; exact ⟨m, (hW.cell (show 1 < _ by omega)).trans hm⟩
  refine callsIn_of_wp Tryd.func92 rfl trivial ?_ rfl
  simp only [Tryd.ntmps92, List.size_toArray, List.length_cons, List.length_nil, Nat.reduceAdd, Nat.reduceSub, Array.replicate_succ, Array.replicate_zero, List.push_toArray, List.append_toArray, List.nil_append, List.cons_append]
  gi_wp2
  gi_loopw [3, 4] (fun p more wr => ∃ (pre : List Mk) (rest : Str), p = .string (mk rest) ∧ rest.length < 4294967281 ∧ LenAt wr ∧ J pre wr ∧
      ((more = .bool true ∧ pieces 46 (bs s) = strs pre ++ pieces 46 rest) ∨ (more = .bool false ∧ pieces 46 (bs s) = strs pre)))
    (fun p more _ => toGo p more)
  case atStart => exact ⟨[], bs s, by simp [mk], by rw [show (bs s).length = s.size from (Lib.size_eq s).symm]; exact hs, hm2, h0, .inl ⟨rfl, rfl⟩⟩
  case round =>
    obtain ⟨pre, rest, rfl, hrl, ⟨m, hmw⟩, hJs, hcase⟩ := hrel
    rcases hcase with ⟨rfl, hp⟩ | ⟨rfl, hp⟩
    · have hsz := mk_size rest
      have HCUT := Lib.hid (Tryd.strings_Cut (mk rest) ⟨#[46]⟩ m wr (by omega) hmw)
      gi_wp2_with fail
      refine ⟨trivial, ?_⟩
      gi_at_call 45
      refine (callsIn_wide.2 HCUT.out).mono ?_
      rintro e w1 ⟨rfl, k, rfl⟩
      clear HCUT
      have hJ2 : J pre (wr.drewN k) := hJ pre wr _ none hJs ⟨rfl, rfl, rfl, Nat.le_refl _, fun _ _ _ => rfl⟩ (fun r e => by cases e)
      have hmw2 : (wr.drewN k).cell? ⟨1, 0, none⟩ = some (.int .i64 m) := hmw
      rcases cut_pieces rest 46 with ⟨p, r, hcut, hpp, hrr, hnp⟩ | ⟨hcut, hpp, hnp⟩
      · subst hrr
        rw [hcut]
        have hlen : pre.length < (pieces 46 (bs s)).length := by rw [hp, hpp]; simp [strs]
        have hpl : p.length < 4294967281 := by rw [List.length_append] at hrl; omega
        obtain ⟨fn, tmps, assign, body, hy, hR⟩ := hY pre ⟨p, hpl⟩ (wr.drewN k) hJ2 hlen
        try dsimp only at hy
        have hl2 : r.length < 4294967281 := by rw [List.length_append, List.length_cons] at hrl; omega
        have hpN : pieces 46 (bs s) = strs (pre ++ [⟨p, hpl⟩]) ++ pieces 46 r := by rw [hp, hpp, strs_snoc]; simp
        have hms : r.length + 1 < (p ++ 46 :: r).length + 1 := by rw [List.length_append, List.length_cons]; omega
        have HX := Lib.hid (And.intro hpN hms)
        clear hp hpp hcut hpN hms
        gi_wp2
        refine hR.mono ?_
        rintro e W3 (⟨rfl, hJ3, hk3⟩ | ⟨rfl, hJx3⟩)
        · have hm3 : W3.cell? ⟨1, 0, none⟩ = some (.int .i64 m) := (hk3.cell (show 1 < _ from h1)).trans hmw2
          gi_wp2
          go_roundw
          case rel => exact ⟨pre ++ [⟨p, hpl⟩], r, rfl, hl2, ⟨m, hm3⟩, hJ3, .inl ⟨rfl, HX.out.1⟩⟩
          case measure =>
            show toGo (.string (mk r)) (.bool true) < toGo (.string (mk (p ++ 46 :: r))) (.bool true)
            simp only [toGo, mk_size]
            exact HX.out.2
        · gi_wp2
          refine bodyPost_ret (results_none rfl _ _ _) rfl ?_
          exact ⟨⟨_, rfl⟩, .inr ⟨pre ++ [⟨p, hpl⟩], ⟨pieces 46 r, HX.out.1.symm⟩, hJx3⟩⟩
      · rw [hcut]
        have hlen : pre.length < (pieces 46 (bs s)).length := by rw [hp, hpp]; simp [strs]
        obtain ⟨fn, tmps, assign, body, hy, hR⟩ := hY pre ⟨rest, hrl⟩ (wr.drewN k) hJ2 hlen
        have HX : Hid (pieces 46 (bs s) = strs (pre ++ [⟨rest, hrl⟩])) := Lib.hid (by rw [hp, hpp, strs_snoc])
        clear hp hpp hcut
        gi_wp2
        refine hR.mono ?_
        rintro e W3 (⟨rfl, hJ3, hk3⟩ | ⟨rfl, hJx3⟩)
        · have hm3 : W3.cell? ⟨1, 0, none⟩ = some (.int .i64 m) := (hk3.cell (show 1 < _ from h1)).trans hmw2
          gi_wp2
          go_roundw
          case rel => exact ⟨pre ++ [⟨rest, hrl⟩], [], rfl, by simp, ⟨m, hm3⟩, hJ3, .inr ⟨rfl, HX.out⟩⟩
          case measure =>
            show toGo (.string (mk [])) (.bool false) < toGo (.string (mk rest)) (.bool true)
            simp only [toGo]
            omega
        · gi_wp2
          refine bodyPost_ret (results_none rfl _ _ _) rfl ?_
          exact ⟨⟨_, rfl⟩, .inr ⟨pre ++ [⟨rest, hrl⟩], ⟨[], by rw [List.append_nil]; exact HX.out.symm⟩, hJx3⟩⟩
    · gi_wp2
      go_end0
      exact ⟨⟨_, rfl⟩, .inl ⟨pre, hp.symm, hJs⟩⟩
end Go.Proofs.YtbmhjmdbolnbaaaDoor
