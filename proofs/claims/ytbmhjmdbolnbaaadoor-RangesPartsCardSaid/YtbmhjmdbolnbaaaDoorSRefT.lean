/-
  CONTRACTS of the document's own package of layer 1: texts, marks.
-/
import Derived.Test.YtbmhjmdbolnbaaaDoorSRefD
import Derived.BigQuiet
namespace Go.Proofs.YtbmhjmdbolnbaaaDoor
open Go.RowKit
open SemP
set_option linter.unusedVariables false
set_option linter.unusedSimpArgs false
set_option maxRecDepth 100000

theorem drew_more {w wr : World} (h : ∃ k, wr = w.drewN k) (n : Nat) : ∃ k, wr.drewN n = w.drewN k := by
  obtain ⟨k, rfl⟩ := h
  exact ⟨k + n, World.drewN_drewN _ _ _⟩
theorem Below.drewN_ (B : Nat) (w : World) (k : Nat) : Below B w (w.drewN k) := ⟨rfl, rfl, rfl, Nat.le_refl _, fun _ _ => rfl⟩
theorem cmpB_int (s t : ByteArray) (i : Nat) (h : i < s.size) (h2 : i < t.size) : cmpB ((bs s).getD i 0) ((bs t).getD i 0) = Lib.compareInt s[i].toNat t[i].toNat := by
  rw [cmpB_eq, Lib.getD_at s i h, Lib.getD_at t i h2]
set_option maxHeartbeats 4000000 in
theorem texts_any (a b : ByteArray) (w : World) (ha : a.size ≤ 1000000000000) (hb : b.size ≤ 1000000000000) :
    Calls Tryd.prog 82 #[.string a, .string b] w fun e w' => e = .returned (.int .i64 (Lib.compareBytes (bs a) (bs b))) ∧ ∃ k, w' = w.drewN k := by
  have HZ : Hid (a.size = (bs a).length) := Lib.hid (Lib.size_eq a)
  have HZ2 : Hid (b.size = (bs b).length) := Lib.hid (Lib.size_eq b)
  have HCB := Lib.hid (compareBytes_eq (bs a) (bs b))
  go_enter Tryd.func82, Tryd.ntmps82
  go_wp2
  go_loopw [5] (fun v5 wr => ∃ (i : Nat), v5 = .int .i64 (i : Int) ∧ Hid (i ≤ a.size ∧ i ≤ b.size) ∧ Hid (RowAt cmpB (bs a) (bs b) i) ∧ Hid (∃ k, wr = w.drewN k)) (fun v _ => a.size - (intOf v).toNat)
  case atStart => exact ⟨0, rfl, Lib.hid ⟨Nat.zero_le _, Nat.zero_le _⟩, Lib.hid (RowAt.start _ _ _), Lib.hid ⟨0, rfl⟩⟩
  case round =>
    obtain ⟨i, rfl, HI, HR, HB⟩ := hrel
    by_cases hia : i < a.size
    · have da : decide ((i : Int) < (a.size : Int)) = true := by simp; omega
      by_cases hib : i < b.size
      · have db : decide ((i : Int) < (b.size : Int)) = true := by simp; omega
        have hadd : IntKind.i64.wrap ((i : Int) + 1) = ((i + 1 : Nat) : Int) := by rw [IntWalk.i64_in _ (by omega)]; omega
        have HL : Hid (i < (bs a).length ∧ i < (bs b).length) := Lib.hid ⟨by rw [← HZ.out]; exact hia, by rw [← HZ2.out]; exact hib⟩
        have HCI := Lib.hid (cmpB_int a b i hia hib)
        by_cases hq : a[i].toNat = b[i].toNat
        · have dq : ((a[i].toNat : Int) == (b[i].toNat : Int)) = true := eq_ints _ _ hq
          have HR2 : Hid (RowAt cmpB (bs a) (bs b) (i + 1)) := Lib.hid (HR.out.next HL.out.1 HL.out.2 0 (by rw [HCI.out, hq]; exact compareInt_tot.refl _))
          clear hq
          go_wp2_with (first | go_quiet (fail) | go_in)
          exact ⟨⟨i + 1, by simp, Lib.hid (by omega), HR2, Lib.hid (drew_more HB.out _)⟩, by simp [intOf]; omega⟩
        · have dq : ((a[i].toNat : Int) == (b[i].toNat : Int)) = false := ne_ints _ _ hq
          have HV : Hid (Lib.compareBytes (bs a) (bs b) = Lib.compareInt a[i].toNat b[i].toNat) := Lib.hid (by
            rw [HCB.out, HR.out.stop HL.out.1 HL.out.2 0 (by rw [HCI.out]; intro e; have := (compareInt_tot.eq _ _).1 e; omega), HCI.out])
          have hwa : IntKind.i64.wrap (a[i].toNat : Int) = (a[i].toNat : Int) := IntWalk.i64_in _ (by have := a[i].toNat_lt; omega)
          have hwb : IntKind.i64.wrap (b[i].toNat : Int) = (b[i].toNat : Int) := IntWalk.i64_in _ (by have := b[i].toNat_lt; omega)
          have HBY := Lib.hid (fun W => by_any (a[i].toNat : Int) (b[i].toNat : Int) W)
          clear hq
          go_wp2_with (first | go_quiet (fail) | go_in)
          have HBQ : Hid (∃ k, wr.drewN nq = w.drewN k) := Lib.hid (drew_more HB.out _)
          generalize wr.drewN nq = wq at *
          go_quiet ((go_at_call 57; refine Calls.quiet_of_same (HBY.out _)))
          go_wp2
          refine bodyPost_ret (results_tmp rfl _ _ _) rfl ⟨by rw [HV.out]; rfl, drew_more HBQ.out _⟩
      · have db : decide ((i : Int) < (b.size : Int)) = false := by simp; omega
        have HV : Hid (Lib.compareBytes (bs a) (bs b) = Lib.compareInt a.size b.size) := Lib.hid (by
          rw [HCB.out, HR.out.fin (by rw [← HZ.out, ← HZ2.out]; omega), ← HZ.out, ← HZ2.out])
        go_wp2_with fail
        refine (by_any (a.size : Int) (b.size : Int) _).mono ?_
        rintro e w' ⟨rfl, rfl⟩
        go_wp2
        refine bodyPost_ret (results_tmp rfl _ _ _) rfl ⟨by rw [HV.out]; rfl, HB.out⟩
    · have da : decide ((i : Int) < (a.size : Int)) = false := by simp; omega
      have HV : Hid (Lib.compareBytes (bs a) (bs b) = Lib.compareInt a.size b.size) := Lib.hid (by
        rw [HCB.out, HR.out.fin (by rw [← HZ.out, ← HZ2.out]; omega), ← HZ.out, ← HZ2.out])
      go_wp2_with fail
      refine (by_any (a.size : Int) (b.size : Int) _).mono ?_
      rintro e w' ⟨rfl, rfl⟩
      go_wp2
      refine bodyPost_ret (results_tmp rfl _ _ _) rfl ⟨by rw [HV.out]; rfl, HB.out⟩
def optV (o : Option Nat) : Value := match o with
  | some n => .tuple #[.int .i64 (n : Int), .bool true]
  | none => .tuple #[.int .i64 0, .bool false]
set_option maxHeartbeats 4000000 in
theorem marks_any (a b : ByteArray) (w : World) (ha : a.size ≤ 1000000000000) (hb : b.size ≤ 1000000000000) :
    Calls Tryd.prog 58 #[.string a, .string b] w fun e w' => e = .returned (.int .i64 (refMarks (bs a) (bs b))) ∧ ∃ k, w' = w.drewN k := by
  have HNA := Lib.hid (Number_any a w)
  have HNB := Lib.hid (Number_any b w)
  have HTX := Lib.hid (texts_any a b w ha hb)
  cases hx : num (bs a) with
  | some m =>
    have HX : Hid (numV (bs a) = .tuple #[.int .i64 (m : Int), .bool true]) := Lib.hid (by unfold numV; rw [hx])
    cases hy : num (bs b) with
    | some n =>
      have HY : Hid (numV (bs b) = .tuple #[.int .i64 (n : Int), .bool true]) := Lib.hid (by unfold numV; rw [hy])
      have HV : Hid (refMarks (bs a) (bs b) = Lib.compareInt m n) := Lib.hid (by unfold refMarks; rw [hx, hy])
      clear hx hy
      go_enter Tryd.func58, Tryd.ntmps58
      go_wp2_with fail
      refine HNA.out.mono ?_
      rintro e w' ⟨rfl, rfl⟩
      rw [HX.out]
      go_wp2_with fail
      refine HNB.out.mono ?_
      rintro e w' ⟨rfl, rfl⟩
      rw [HY.out]
      go_wp2_with fail
      refine (by_any (m : Int) (n : Int) _).mono ?_
      rintro e w' ⟨rfl, rfl⟩
      go_wp2
      refine bodyPost_ret (results_tmp rfl _ _ _) rfl ⟨by rw [HV.out]; rfl, ⟨0, rfl⟩⟩
    | none =>
      have HY : Hid (numV (bs b) = .tuple #[.int .i64 0, .bool false]) := Lib.hid (by unfold numV; rw [hy])
      have HV : Hid (refMarks (bs a) (bs b) = -1) := Lib.hid (by unfold refMarks; rw [hx, hy])
      clear hx hy
      go_enter Tryd.func58, Tryd.ntmps58
      go_wp2_with fail
      refine HNA.out.mono ?_
      rintro e w' ⟨rfl, rfl⟩
      rw [HX.out]
      go_wp2_with fail
      refine HNB.out.mono ?_
      rintro e w' ⟨rfl, rfl⟩
      rw [HY.out]
      go_wp2
      refine bodyPost_ret (results_tmp rfl _ _ _) rfl ⟨by rw [HV.out]; rfl, ⟨0, rfl⟩⟩
  | none =>
    have HX : Hid (numV (bs a) = .tuple #[.int .i64 0, .bool false]) := Lib.hid (by unfold numV; rw [hx])
    cases hy : num (bs b) with
    | some n =>
      have HY : Hid (numV (bs b) = .tuple #[.int .i64 (n : Int), .bool true]) := Lib.hid (by unfold numV; rw [hy])
      have HV : Hid (refMarks (bs a) (bs b) = 1) := Lib.hid (by unfold refMarks; rw [hx, hy])
      clear hx hy
      go_enter Tryd.func58, Tryd.ntmps58
      go_wp2_with fail
      refine HNA.out.mono ?_
      rintro e w' ⟨rfl, rfl⟩
      rw [HX.out]
      go_wp2_with fail
      refine HNB.out.mono ?_
      rintro e w' ⟨rfl, rfl⟩
      rw [HY.out]
      go_wp2
      refine bodyPost_ret (results_tmp rfl _ _ _) rfl ⟨by rw [HV.out]; rfl, ⟨0, rfl⟩⟩
    | none =>
      have HY : Hid (numV (bs b) = .tuple #[.int .i64 0, .bool false]) := Lib.hid (by unfold numV; rw [hy])
      have HV : Hid (refMarks (bs a) (bs b) = Lib.compareBytes (bs a) (bs b)) := Lib.hid (by unfold refMarks; rw [hx, hy])
      clear hx hy
      go_enter Tryd.func58, Tryd.ntmps58
      go_wp2_with fail
      refine HNA.out.mono ?_
      rintro e w' ⟨rfl, rfl⟩
      rw [HX.out]
      go_wp2_with fail
      refine HNB.out.mono ?_
      rintro e w' ⟨rfl, rfl⟩
      rw [HY.out]
      go_wp2_with fail
      refine HTX.out.mono ?_
      rintro e w2 ⟨rfl, hb2⟩
      have HB2 := Lib.hid hb2
      clear hb2
      go_wp2
      refine bodyPost_ret (results_tmp rfl _ _ _) rfl ⟨by rw [HV.out]; rfl, HB2.out⟩
end Go.Proofs.YtbmhjmdbolnbaaaDoor
