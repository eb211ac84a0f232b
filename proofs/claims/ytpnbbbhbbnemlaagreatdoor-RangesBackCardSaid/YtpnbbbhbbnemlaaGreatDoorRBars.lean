/-
  CONTRACT of the document's own package of layer 2: bars (printed by genrps.py).
-/
import Derived.Test.YtpnbbbhbbnemlaaGreatDoorRPsC
namespace SemP
open Go.Lib
abbrev sepL : Str := [32, 124, 124, 32]
theorem occ_take {s : Str} {i : Nat} : occAt s sepL i = true ↔ (s.drop i).take 4 = sepL := by
  unfold occAt
  rw [List.isPrefixOf_iff_prefix, List.prefix_iff_eq_take]
  exact ⟨fun h => h.symm, fun h => h.symm⟩
/-- bars' loop, between two rounds. -/
structure BarsAt (s : Str) (outs : List Str) (l i : Nat) : Prop where
  no : NoOcc (s.drop l) sepL (i - l)
  len : outs.length ≤ l
  full : ∀ ps, Full sepL (s.drop l) ps → Full sepL s (outs ++ ps)
theorem BarsAt.start (s : Str) : BarsAt s [] 0 0 := ⟨NoOcc.zero _ _, Nat.zero_le _, fun ps h => by simpa using h⟩
theorem BarsAt.skip {s : Str} {outs : List Str} {l i : Nat} (h : BarsAt s outs l i) (hl : l ≤ i) (hn : (s.drop i).take 4 ≠ sepL) : BarsAt s outs l (i + 1) := by
  refine ⟨?_, h.len, h.full⟩
  have e : i + 1 - l = (i - l) + 1 := by omega
  rw [e]
  refine h.no.succ ?_
  cases ho : occAt (s.drop l) sepL (i - l) with
  | false => rfl
  | true =>
    exfalso
    have h2 := occ_take.1 ho
    rw [List.drop_drop, show l + (i - l) = i by omega] at h2
    exact hn h2
theorem BarsAt.hit {s : Str} {outs : List Str} {l i : Nat} (h : BarsAt s outs l i) (hl : l ≤ i) (hi : i + 4 ≤ s.length) (hy : (s.drop i).take 4 = sepL) : BarsAt s (outs ++ [(s.drop l).take (i - l)]) (i + 4) (i + 4) := by
  have ho : occAt (s.drop l) sepL (i - l) = true := by
    refine occ_take.2 ?_
    rw [List.drop_drop, show l + (i - l) = i by omega]; exact hy
  have hx : index (s.drop l) sepL = ((i - l : Nat) : Int) := index_hit h.no (by rw [List.length_drop]; omega) ho
  refine ⟨by rw [Nat.sub_self]; exact NoOcc.zero _ _, by have := h.len; simp; omega, fun ps hp => ?_⟩
  rw [List.append_assoc]
  refine h.full _ (Full.more (s.drop l) (i - l) ps hx (by rw [List.length_drop]; simp; omega) ?_)
  have e : (s.drop l).drop (i - l + sepL.length) = s.drop (i + 4) := by
    rw [List.drop_drop]; congr 1; simp; omega
  rw [e]; exact hp
theorem BarsAt.fin {s : Str} {outs : List Str} {l i : Nat} (h : BarsAt s outs l i) (hl : l ≤ i) (hi : s.length < i + 4) (hls : l ≤ s.length) : Full sepL s (outs ++ [s.drop l]) := by
  refine h.full _ (Full.last _ (index_past (by simp) h.no ?_))
  rw [List.length_drop]; simp; omega
end SemP
namespace Go.Proofs.YtpnbbbhbbnemlaaGreatDoor
open Go.RowKit
open SemP
set_option linter.unusedVariables false
set_option linter.unusedSimpArgs false
set_option maxRecDepth 100000
set_option maxHeartbeats 4000000 in
theorem bars_any (s : ByteArray) (w : World) (hs : s.size ≤ 1000000) :
    Calls Tryz.prog 138 #[.string s] w fun e w' => ∃ v ps, e = .returned v ∧ OwnS w' w.heap.size v ps.length ps ∧ Full sepL (bs s) ps ∧ Below w.heap.size w w' := by
  have HZ : Hid (s.size = (bs s).length) := Lib.hid (Lib.size_eq s)
  have HS := Lib.hid hs
  have HEX : Hid (∀ i, (s.extract i (i + 4)).toList = ((bs s).drop i).take 4) := Lib.hid (fun i => by
    rw [ByteArray.toList_eq]
    show bs (s.extract i (i + 4)) = _
    rw [bs_extract]; congr 1; omega)
  go_enter Tryz.func138, Tryz.ntmps138
  go_wp2
  go_loopw [3, 4, 5] (fun v3 v4 v5 wr => ∃ (outs : List Str) (l i : Nat), i ≤ s.size ∧ l ≤ i ∧ v4 = .int .i64 (l : Int) ∧ v5 = .int .i64 (i : Int) ∧ Hid (BarsAt (bs s) outs l i) ∧ Hid (OwnS wr w.heap.size v3 outs.length outs) ∧ Hid (Below w.heap.size w wr)) (fun _ _ v _ => s.size - (intOf v).toNat)
  case atStart => exact ⟨[], 0, 0, Nat.zero_le _, Nat.zero_le _, rfl, rfl, Lib.hid (BarsAt.start _), Lib.hid (OwnS.nil_ _ _), Lib.hid (Below.refl _ _)⟩
  case round =>
    obtain ⟨outs, l, i, hi, hli, rfl, rfl, HC, HO, HB⟩ := hrel
    have hadd4 : IntKind.i64.wrap ((i : Int) + 4) = (i : Int) + 4 := by rw [IntWalk.i64_in _ (by omega)]
    have HBL := Lib.hid HB.out.size
    have HOL : Hid (outs.length ≤ 1000001) := Lib.hid (by have := HC.out.len; have := HS.out; omega)
    by_cases him : i + 4 ≤ s.size
    · have hd : decide ((i : Int) + 4 ≤ (s.size : Int)) = true := decide_eq_true (by omega)
      have hadd : IntKind.i64.wrap ((i : Int) + 1) = ((i + 1 : Nat) : Int) := by rw [IntWalk.i64_in _ (by omega)]; omega
      have c1 : (0 : Int) ≤ (i : Int) + 4 := by omega
      have c2 : (i : Int) ≤ (i : Int) + 4 := by omega
      have c3 : (i : Int) + 4 ≤ (s.size : Int) := by omega
      have ht : ((i : Int) + 4).toNat = i + 4 := by omega
      by_cases hq : ((bs s).drop i).take 4 = sepL
      · have hqe : ((s.extract i (i + 4)).toList == [32, 124, 124, 32]) = true := by rw [HEX.out, hq]; rfl
        have HE := Lib.hid hq
        clear hq
        go_wp2_with (at_builtin; refine wplS_app rfl (.tmp 17) (.tmp 22) rfl w.heap.size _ outs.length outs rfl (HO.out.alloc _) wr.heap.size (s.extract l i) rfl (by simp) (by have := HOL.out; omega) (by have := HBL.out; simp; omega) ?_; intro g c2 w2 hown2 hge hgr2 hat2)
        go_roundw
        case rel =>
          refine ⟨outs ++ [bs (s.extract l i)], i + 4, i + 4, by omega, by omega, by simp, by simp, Lib.hid ?_, Lib.hid (by simpa using hown2), Lib.hid ?_⟩
          · rw [bs_extract]; exact HC.out.hit hli (by rw [← HZ.out]; exact him) HE.out
          · have hx := HB.out.alloc (o := .cells #[.string (s.extract l i)] 9) HBL.out
            exact hx.grown hgr2 (by have := HBL.out; simp; omega) (fun g hg => OwnS.ge HO.out g hg)
        case measure => simp [intOf]; omega
      · have hqe : ((s.extract i (i + 4)).toList == [32, 124, 124, 32]) = false := by rw [HEX.out, beq_eq_false_iff_ne]; exact hq
        have HE := Lib.hid hq
        clear hq
        go_wp2
        go_roundw
        case rel => exact ⟨outs, l, i + 1, by omega, by omega, rfl, rfl, Lib.hid (HC.out.skip hli HE.out), HO, HB⟩
        case measure => simp [intOf]; omega
    · have hd : decide ((i : Int) + 4 ≤ (s.size : Int)) = false := decide_eq_false (by omega)
      have HFI : Hid (Full sepL (bs s) (outs ++ [bs (s.extract l s.size)])) := Lib.hid (by
        rw [bs_tail]; exact HC.out.fin hli (by rw [← HZ.out]; omega) (by rw [← HZ.out]; omega))
      go_wp2_with (at_builtin; refine wplS_app rfl (.tmp 30) (.tmp 34) rfl w.heap.size _ outs.length outs rfl (HO.out.alloc _) wr.heap.size (s.extract l s.size) rfl (by simp) (by have := HOL.out; omega) (by have := HBL.out; simp; omega) ?_; intro g c2 w2 hown2 hge hgr2 hat2)
      refine bodyPost_ret (results_tmp rfl _ _ _) rfl ⟨_, outs ++ [bs (s.extract l s.size)], rfl, ?_, HFI.out, ?_⟩
      · simpa using hown2
      · have hx := HB.out.alloc (o := .cells #[.string (s.extract l s.size)] 9) HBL.out
        exact hx.grown hgr2 (by have := HBL.out; simp; omega) (fun g hg => OwnS.ge HO.out g hg)
end Go.Proofs.YtpnbbbhbbnemlaaGreatDoor
