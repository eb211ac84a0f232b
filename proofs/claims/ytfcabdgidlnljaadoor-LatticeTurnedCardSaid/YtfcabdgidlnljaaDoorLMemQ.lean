/-
  CONTRACT of package lattice: the iterator over a set's nodes, where the round wants to know that each is one of the set.
-/
import Derived.Test.YtfcabdgidlnljaaDoorLMem
namespace Go.Proofs.YtfcabdgidlnljaaDoor
open Go.RowKit Go.Shelf
open DiP
set_option linter.unusedVariables false
set_option linter.unusedSimpArgs false
set_option maxRecDepth 100000
attribute [local go_sem] Oper.semAt_some
abbrev NdP (P : Nat → Prop) := { x : Nat // x < 64 ∧ P x }
abbrev ndp {P : Nat → Prop} (l : List (NdP P)) : List Nat := l.map Subtype.val
theorem ndp_snoc {P : Nat → Prop} (l : List (NdP P)) (x : NdP P) : ndp (l ++ [x]) = ndp l ++ [x.1] := by simp [ndp]
set_option maxHeartbeats 2000000 in
/-- The iterator: one round a node, the lowest first; each is one of the set. -/
theorem members_stopsP {P : Nat → Prop} (n : Nat) (hn : 1 ≤ n) (Bn n₀ : Nat) (s : Nat) (hs : s < lim) (hP : ∀ v, v < 64 → bt s v = true → P v) (w : World) (h1 : 0 < n₀) (hn0 : n₀ ≤ w.heap.size) (hb : w.cell? ⟨Bn, 0, none⟩ = some (.int .u64 (s : Int))) (hm : Tz w) (hBw : Bn < w.heap.size) :
    SeqStopsK Fence.wide n Tryd.prog 39 #[.pointer (some ⟨Bn, 0, none⟩)] (fun x : NdP P => #[.int .i64 (x.1 : Int)]) (Below n₀) (fun xs => ndp xs = memL s) (fun pre => ndp pre <+: memL s) 64 w := by
  intro l J Jx W hW hJ hJx hY h0
  have hb2 : W.cell? ⟨Bn, 0, none⟩ = some (.int .u64 (s : Int)) := (hW.cell hBw).trans hb
  have HT0 : Hid (Tz W) := Lib.hid (hm.below hW (by omega))
  have HS := Lib.hid hs
  clear hm
  refine callsIn_of_wp Tryd.func39 rfl trivial ?_ rfl
  simp only [Tryd.ntmps39, List.size_toArray, List.length_cons, List.length_nil, Nat.reduceAdd, Nat.reduceSub, Array.replicate_succ, Array.replicate_zero, List.push_toArray, List.append_toArray, List.nil_append, List.cons_append]
  gi_wp2
  gi_loopw [3] (fun p wr => ∃ (pre : List (NdP P)) (r : Nat), p = .int .u64 (r : Int) ∧ Hid (r < lim) ∧ Hid (Tz wr) ∧ J pre wr ∧ Hid (memL s = ndp pre ++ memL r))
    (fun p _ => (memL (intOf p).toNat).length)
  case atStart => exact ⟨[], s, rfl, HS, HT0, h0, Lib.hid rfl⟩
  case round =>
    obtain ⟨pre, r, rfl, HR, HTz, hJs, HP⟩ := hrel
    by_cases hr0 : r = 0
    · subst hr0
      gi_wp2
      go_end0
      exact ⟨⟨_, rfl⟩, .inl ⟨pre, by have := HP.out; rw [memL_zero, List.append_nil] at this; exact this.symm, hJs⟩⟩
    · have hne : ((r : Int) != 0) = true := by rw [bne_iff_ne]; omega
      have HCUT := Lib.hid (Tryd.bits_TrailingZeros64 r HR.out wr (fun _ => HTz.out))
      have hk := tz_lt hr0 HR.out
      have HC := Lib.hid (memL_cons hr0 HR.out)
      have HL := Lib.hid (take_low hr0 HR.out)
      have HD : Hid (del r (tz r) < lim) := Lib.hid (del_lt _ HR.out)
      have hPk : P (tz r) := hP _ hk (by
        have h2 : tz r ∈ memL s := by rw [HP.out, HC.out]; simp
        exact (memL_mem.1 h2).2)
      have hlen : pre.length < 64 := by
        have h2 := memL_len s
        rw [HP.out, HC.out] at h2
        simp [ndp] at h2
        omega
      gi_wp2_with fail
      refine ⟨trivial, ?_⟩
      gi_at_call 40
      refine (callsIn_wide.2 HCUT.out).mono ?_
      rintro e w1 ⟨rfl, rfl⟩
      clear HCUT
      rw [show Lib.ctz 64 r = tz r from rfl]
      obtain ⟨fn, tmps, assign, body, hy, hR⟩ := hY pre ⟨tz r, hk, hPk⟩ w1 hJs hlen
      try dsimp only at hy
      clear hne
      gi_wp2
      refine hR.mono ?_
      rintro e W3 (⟨rfl, hJ3, hk3⟩ | ⟨rfl, hJx3⟩)
      · have HT3 : Hid (Tz W3) := Lib.hid (HTz.out.below hk3 h1)
        have hl := HL.out
        gi_wp2
        go_roundw
        case rel => exact ⟨pre ++ [⟨tz r, hk, hPk⟩], del r (tz r), rfl, HD, HT3, hJ3, Lib.hid (by rw [HP.out, HC.out, ndp_snoc]; simp)⟩
        case measure =>
          simp only [intOf, Int.toNat_natCast]
          rw [HC.out]
          simp
      · gi_wp2
        refine bodyPost_ret (results_none rfl _ _ _) rfl ?_
        exact ⟨⟨_, rfl⟩, .inr ⟨pre ++ [⟨tz r, hk, hPk⟩], ⟨memL (del r (tz r)), by rw [HP.out, HC.out, ndp_snoc]; simp⟩, hJx3⟩⟩
end Go.Proofs.YtfcabdgidlnljaaDoor
