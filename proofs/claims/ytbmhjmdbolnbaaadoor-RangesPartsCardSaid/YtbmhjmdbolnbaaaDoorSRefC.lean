/-
  CONTRACTS of the document's own package of layer 1: Cut.
-/
import Derived.Test.YtbmhjmdbolnbaaaDoorSRefN
import Derived.Test.YtbmhjmdbolnbaaaDoorSRefP
import Derived.Test.YtbmhjmdbolnbaaaDoorSStrs
namespace Go.Proofs.YtbmhjmdbolnbaaaDoor
open Go.RowKit
open SemP
set_option linter.unusedVariables false
set_option linter.unusedSimpArgs false
set_option maxRecDepth 100000

theorem bs_extract (s : ByteArray) (a b : Nat) : bs (s.extract a b) = ((bs s).drop a).take (b - a) := by
  show (s.extract a b).data.toList = _
  rw [ByteArray.data_extract]
  simp [bs, List.extract]
theorem eq_ints (k m : Nat) (h : k = m) : ((k : Int) == (m : Int)) = true := by subst h; simp
theorem ne_ints (k m : Nat) (h : k ≠ m) : ((k : Int) == (m : Int)) = false := by rw [beq_eq_false_iff_ne]; omega
theorem at_eq {s : ByteArray} {i : Nat} (h : i < s.size) {c : UInt8} (e : (bs s).getD i 0 = c) : s[i].toNat = c.toNat := by
  rw [Lib.getD_at s i h]; exact congrArg UInt8.toNat e
theorem at_ne {s : ByteArray} {i : Nat} (h : i < s.size) {c : UInt8} (e : (bs s).getD i 0 ≠ c) : s[i].toNat ≠ c.toNat := by
  rw [Lib.getD_at s i h]; exact fun x => e (UInt8.toNat_inj.1 x)
set_option maxHeartbeats 2000000 in
theorem Cut_any (s : ByteArray) (c : UInt8) (w : World) (hs : s.size ≤ 1000000000000) :
    Calls Tryd.prog 48 #[.string s, .int .u8 (c.toNat : Int)] w fun e w' =>
      ∃ v, e = .returned v ∧ OwnS w' w.heap.size v (pieces c (bs s)).length (pieces c (bs s)) ∧ Below w.heap.size w w' := by
  have HZ : Hid (s.size = (bs s).length) := Lib.hid (Lib.size_eq s)
  have HPL : Hid ((pieces c (bs s)).length ≤ s.size + 1) := Lib.hid (by rw [HZ.out]; exact pieces_len c (bs s))
  go_enter Tryd.func48, Tryd.ntmps48
  go_wp2
  go_loopw [5, 6, 7] (fun v5 v6 v7 wr => ∃ (outs : List Str) (l i : Nat), i ≤ s.size ∧ l ≤ i ∧ v6 = .int .i64 (l : Int) ∧ v7 = .int .i64 (i : Int) ∧ Hid (CutAt c (bs s) outs l i) ∧ Hid (OwnS wr w.heap.size v5 outs.length outs) ∧ Hid (Below w.heap.size w wr)) (fun _ _ v _ => s.size - (intOf v).toNat)
  case atStart => exact ⟨[], 0, 0, Nat.zero_le _, Nat.zero_le _, rfl, rfl, Lib.hid (CutAt.start _ _), Lib.hid (OwnS.nil_ _ _), Lib.hid (Below.refl _ _)⟩
  case round =>
    obtain ⟨outs, l, i, hi, hli, rfl, rfl, HC, HO, HB⟩ := hrel
    by_cases him : i < s.size
    · have hd : decide ((i : Int) < (s.size : Int)) = true := by simp; omega
      have hadd : IntKind.i64.wrap ((i : Int) + 1) = ((i + 1 : Nat) : Int) := by rw [IntWalk.i64_in _ (by omega)]; omega
      have HLI : Hid (i < (bs s).length) := Lib.hid (by rw [← HZ.out]; exact him)
      cases hq : decide ((bs s).getD i 0 = c) with
      | true =>
        have HE : Hid ((bs s).getD i 0 = c) := Lib.hid (of_decide_eq_true hq)
        have hqe : ((s[i].toNat : Int) == (c.toNat : Int)) = true := eq_ints _ _ (at_eq him HE.out)
        have HOL : Hid (outs.length ≤ 1000000000001) := Lib.hid (by have := HC.out.len; have := HPL.out; omega)
        have HBL := Lib.hid HB.out.size
        clear hq
        go_wp2_with (at_builtin; refine wplS_app rfl (.tmp 19) (.tmp 24) rfl w.heap.size _ outs.length outs rfl (HO.out.alloc _) wr.heap.size (s.extract l i) rfl (by simp) (by have := HOL.out; omega) (by have := HBL.out; simp; omega) ?_; intro g c2 w2 hown2 hge hgr2 hat2)
        go_roundw
        case rel =>
          refine ⟨outs ++ [bs (s.extract l i)], i + 1, i + 1, by omega, by omega, rfl, rfl, Lib.hid ?_, Lib.hid (by simpa using hown2), Lib.hid ?_⟩
          · rw [bs_extract]; exact HC.out.hit HLI.out HE.out
          · have hx := HB.out.alloc (o := .cells #[.string (s.extract l i)] 9) HBL.out
            exact hx.grown hgr2 (by have := HBL.out; simp; omega) (fun g hg => OwnS.ge HO.out g hg)
        case measure => simp [intOf]; omega
      | false =>
        have HE : Hid ((bs s).getD i 0 ≠ c) := Lib.hid (of_decide_eq_false hq)
        have hqe : ((s[i].toNat : Int) == (c.toNat : Int)) = false := ne_ints _ _ (at_ne him HE.out)
        clear hq
        go_wp2
        go_roundw
        case rel => exact ⟨outs, l, i + 1, by omega, by omega, rfl, rfl, Lib.hid (HC.out.skip HLI.out HE.out), HO, HB⟩
        case measure => simp [intOf]; omega
    · have hd : decide ((i : Int) < (s.size : Int)) = false := by simp; omega
      have HOL : Hid (outs.length ≤ 1000000000001) := Lib.hid (by have := HC.out.len; have := HPL.out; omega)
      have HBL := Lib.hid HB.out.size
      have HFI : Hid (pieces c (bs s) = outs ++ [bs (s.extract l s.size)]) := Lib.hid (by
        rw [bs_extract, HC.out.fin (by rw [← HZ.out]; omega), List.take_of_length_le (by rw [List.length_drop, ← HZ.out]; omega)])
      go_wp2_with (at_builtin; refine wplS_app rfl (.tmp 28) (.tmp 32) rfl w.heap.size _ outs.length outs rfl (HO.out.alloc _) wr.heap.size (s.extract l s.size) rfl (by simp) (by have := HOL.out; omega) (by have := HBL.out; simp; omega) ?_; intro g c2 w2 hown2 hge hgr2 hat2)
      refine bodyPost_ret (results_tmp rfl _ _ _) rfl ⟨_, rfl, ?_, ?_⟩
      · rw [HFI.out]; simpa using hown2
      · have hx := HB.out.alloc (o := .cells #[.string (s.extract l s.size)] 9) HBL.out
        exact hx.grown hgr2 (by have := HBL.out; simp; omega) (fun g hg => OwnS.ge HO.out g hg)
end Go.Proofs.YtbmhjmdbolnbaaaDoor
