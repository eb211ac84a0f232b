/-
  CONTRACTS of package lattice: the iterator over a set's nodes, inside a fence.
-/
import Derived.Test.YtfcabdgidlnljaaDoorLPa
import Derived.Test.YtfcabdgidlnljaaDoorLLay
import Derived.Test.YtfcabdgidlnljaaDoorDSets
import Derived.RangeFuncNested
import Derived.RangeFuncBound
import Derived.RangeFuncCalls
import Derived.RangeFuncLeaves
import Derived.Shelf.Abstract
import Derived.Shelf.RegionOpen
import Derived.OwnWalkIn
import Derived.TacticsInMore
import Derived.LoopNIn
import Derived.LoopIn
import Derived.Laws.Bits64b
namespace Go.Proofs.YtfcabdgidlnljaaDoor
open Go.RowKit Go.Shelf
open DiP
set_option linter.unusedVariables false
set_option linter.unusedSimpArgs false
set_option maxRecDepth 100000
attribute [local go_sem] Oper.semAt_some

/-- What a round is handed: a node. -/
abbrev Nd := { x : Nat // x < 64 }
abbrev nds (l : List Nd) : List Nat := l.map Subtype.val
theorem nds_snoc (l : List Nd) (x : Nd) : nds (l ++ [x]) = nds l ++ [x.1] := by simp [nds]
/-- The table that TrailingZeros64 reads. -/
abbrev Tz (w : World) : Prop := TabAt 0 Lib.deBruijn64tab w
theorem Tz.below {B : Nat} {w w' : World} (h : Tz w) (hb : Below B w w') (h0 : 0 < B) : Tz w' := fun j hj => (hb.cell (p := ⟨0, j, none⟩) h0).trans (h j hj)
theorem members_in (n : Nat) (s : Nat) (w : World) :
    CallsIn Fence.wide n Tryd.prog 28 #[.int .u64 (s : Int)] w fun e w' => e = .returned (.func (.func 39) #[] #[.pointer (some ⟨w.heap.size, 0, none⟩)]) ∧ w' = w.alloc (.cells #[.int .u64 (s : Int)] 35) := by
  refine callsIn_of_wp Tryd.func28 rfl trivial ?_ rfl
  simp only [Tryd.ntmps28, List.size_toArray, List.length_cons, List.length_nil, Nat.reduceAdd, Nat.reduceSub, Array.replicate_succ, Array.replicate_zero, List.push_toArray, List.append_toArray, List.nil_append, List.cons_append]
  gi_wp2
  go_ret
  exact ⟨rfl, rfl⟩
theorem take_low {r : Nat} (h0 : r ≠ 0) (hr : r < lim) : bits BinOp.and IntKind.u64 (r : Int) (IntKind.u64.wrap ((r : Int) - 1)) = ((del r (tz r) : Nat) : Int) := by
  have hr' : r < 18446744073709551616 := hr
  have e : IntKind.u64.wrap ((r : Int) - 1) = ((r - 1 : Nat) : Int) := by rw [IntKind.wrap_u64]; omega
  rw [e, bits_and_u64_nat r (r - 1) hr' (by omega), and_pred h0 hr]
set_option maxHeartbeats 2000000 in
/-- The iterator: one round a node, the lowest first. -/
theorem members_stops (n : Nat) (hn : 1 ≤ n) (Bn n₀ : Nat) (s : Nat) (hs : s < lim) (w : World) (h1 : 0 < n₀) (hn0 : n₀ ≤ w.heap.size) (hb : w.cell? ⟨Bn, 0, none⟩ = some (.int .u64 (s : Int))) (hm : Tz w) (hBw : Bn < w.heap.size) :
    SeqStopsK Fence.wide n Tryd.prog 39 #[.pointer (some ⟨Bn, 0, none⟩)] (fun x : Nd => #[.int .i64 (x.1 : Int)]) (Below n₀) (fun xs => nds xs = memL s) (fun pre => nds pre <+: memL s) 64 w := by
  intro l J Jx W hW hJ hJx hY h0
  have hb2 : W.cell? ⟨Bn, 0, none⟩ = some (.int .u64 (s : Int)) := (hW.cell hBw).trans hb
  have HT0 : Hid (Tz W) := Lib.hid (hm.below hW (by omega))
  have HS := Lib.hid hs
  clear hm
  refine callsIn_of_wp Tryd.func39 rfl trivial ?_ rfl
  simp only [Tryd.ntmps39, List.size_toArray, List.length_cons, List.length_nil, Nat.reduceAdd, Nat.reduceSub, Array.replicate_succ, Array.replicate_zero, List.push_toArray, List.append_toArray, List.nil_append, List.cons_append]
  gi_wp2
  gi_loopw [3] (fun p wr => ∃ (pre : List Nd) (r : Nat), p = .int .u64 (r : Int) ∧ Hid (r < lim) ∧ Hid (Tz wr) ∧ J pre wr ∧ Hid (memL s = nds pre ++ memL r))
    (fun p _ => (memL (intOf p).toNat).length)
  case atStart => exact ⟨[], s, rfl, HS, HT0, h0, Lib.hid rfl⟩
  case round =>
    obtain ⟨pre, r, rfl, HR, HTz, hJs, HP⟩ := hrel
    by_cases hr0 : r = 0
    · subst hr0
      gi_wp2
      go_end0
      exact ⟨⟨_, rfl⟩, .inl ⟨pre, by have := HP.out; rw [memL_zero, List.append_nil] at this; exact this.symm, hJs⟩⟩
    · have hne : ((r : Int) != 0) = true := by rw [bne_iff_ne]; omega
      have HCUT := Lib.hid (Tryd.bits_TrailingZeros64 r HR.out wr (fun _ => HTz.out))
      have hk := tz_lt hr0 HR.out
      have HC := Lib.hid (memL_cons hr0 HR.out)
      have HL := Lib.hid (take_low hr0 HR.out)
      have HD : Hid (del r (tz r) < lim) := Lib.hid (del_lt _ HR.out)
      have hlen : pre.length < 64 := by
        have h2 := memL_len s
        rw [HP.out, HC.out] at h2
        simp [nds] at h2
        omega
      gi_wp2_with fail
      refine ⟨trivial, ?_⟩
      gi_at_call 40
      refine (callsIn_wide.2 HCUT.out).mono ?_
      rintro e w1 ⟨rfl, rfl⟩
      clear HCUT
      rw [show Lib.ctz 64 r = tz r from rfl]
      obtain ⟨fn, tmps, assign, body, hy, hR⟩ := hY pre ⟨tz r, hk⟩ w1 hJs hlen
      try dsimp only at hy
      clear hne
      gi_wp2
      refine hR.mono ?_
      rintro e W3 (⟨rfl, hJ3, hk3⟩ | ⟨rfl, hJx3⟩)
      · have HT3 : Hid (Tz W3) := Lib.hid (HTz.out.below hk3 h1)
        have hl := HL.out
        gi_wp2
        go_roundw
        case rel => exact ⟨pre ++ [⟨tz r, hk⟩], del r (tz r), rfl, HD, HT3, hJ3, Lib.hid (by rw [HP.out, HC.out, nds_snoc]; simp)⟩
        case measure =>
          simp only [intOf, Int.toNat_natCast]
          rw [HC.out]
          simp
      · gi_wp2
        refine bodyPost_ret (results_none rfl _ _ _) rfl ?_
        exact ⟨⟨_, rfl⟩, .inr ⟨pre ++ [⟨tz r, hk⟩], ⟨memL (del r (tz r)), by rw [HP.out, HC.out, nds_snoc]; simp⟩, hJx3⟩⟩
end Go.Proofs.YtfcabdgidlnljaaDoor
