/-
 MERGED: SDig SNum SGc SGd SBump.
-/
import Derived.Test.YtminihiecloglaaGreatSLay
import Derived.Test.YtminihiecloglaaGreatSPure
import Derived.Test.YtminihiecloglaaGreatChecked
import Derived.Lib.ItoaWalk
import Derived.WalkKit
import Derived.Below
import Derived.Lib.Walk
import Derived.Lib.Strings
import Derived.Lib.Hide
import Derived.BigCall
import Derived.BigGuard
import Derived.RangeFuncRecord
import Derived.Lib.AtoiErrMem
import Derived.RangeFuncNested
import Derived.RangeFuncBound
import Derived.RangeFuncCalls
import Derived.RangeFuncLeaves
import Derived.Shelf.Abstract
import Derived.Shelf.RegionOpen
import Derived.OwnWalkIn
import Derived.TacticsInMore
import Derived.LoopNIn
import Derived.LoopIn
import Derived.StillTailTactics
import Derived.Deep.QuietTactic
import Derived.BigQuiet
import Derived.Deep.Cut
set_option linter.unusedVariables false
set_option linter.unusedSimpArgs false
namespace Go.Proofs.YtminihiecloglaaGreat
open Go.RowKit
open SemP
set_option maxRecDepth 100000
abbrev bs (s : ByteArray) : Str := s.data.toList
def digsTo (l : Str) (k : Nat) : Bool := (l.take k).all dig
theorem digsTo_zero (l : Str) : digsTo l 0 = true := by simp [digsTo]
theorem digsTo_succ {l : Str} {k : Nat} (h : k < l.length) : digsTo l (k + 1) = (digsTo l k && dig (l.getD k 0)) := by
 unfold digsTo
 rw [List.take_succ_eq_append_getElem h, List.all_append]
 simp [List.getD, h]
theorem digsTo_all {l : Str} {k : Nat} (h : l.length ≤ k) : digsTo l k = l.all dig := by
 unfold digsTo; rw [List.take_of_length_le h]
theorem dig_at (s : ByteArray) (i : Nat) (h : i < s.size) : dig ((bs s).getD i 0) = (decide (48 ≤ s[i].toNat) && decide (s[i].toNat ≤ 57)) := by
 rw [Lib.getD_at s i h]; rfl
theorem allDig_false {l : Str} {k : Nat} (hk : k < l.length) (h : dig (l.getD k 0) = false) : allDig l = false := by
 have : l.all dig = false := by
  rw [List.all_eq_false]
  exact ⟨l.getD k 0, by simp [List.getD, hk], by rw [h]; simp⟩
 unfold allDig; rw [this, Bool.and_false]
set_option maxHeartbeats 1000000 in
theorem allDigits_any (s : ByteArray) (w : World) (hs : s.size ≤ 9223372036854775807) :
  Calls Tryz.prog 170 #[.string s] w fun e w' => e = .returned (.bool (allDig (bs s))) ∧ w' = w := by
 have HZ := Lib.hid (Lib.size_eq s)
 go_enter Tryz.func170, Tryz.ntmps170
 go_wp2
 go_loopw [6] (fun v6 wr => ∃ (i : Nat), i ≤ s.size ∧ v6 = .int .i64 (i : Int) ∧ Hid (digsTo (bs s) i = true) ∧ wr = w) (fun v _ => s.size - (intOf v).toNat)
 case atStart => exact ⟨0, Nat.zero_le _, rfl, Lib.hid (digsTo_zero _), rfl⟩
 case round =>
  obtain ⟨i, hi, rfl, HD, rfl⟩ := hrel
  by_cases him : i < s.size
  ·have hd : decide ((i : Int) < (s.size : Int)) = true := by simp; omega
   have hadd : IntKind.i64.wrap ((i : Int) + 1) = ((i + 1 : Nat) : Int) := by rw [IntWalk.i64_in _ (by omega)]; omega
   have HA := Lib.hid (dig_at s i him)
   have HNO : Hid (dig ((bs s).getD i 0) = false → allDig (bs s) = false) := Lib.hid (fun h => allDig_false (by rw [← HZ.out]; exact him) h)
   go_wp2
   ·have e : allDig (bs s) = false := HNO.out (by rw [HA.out]; simp; omega)
    refine bodyPost_ret (results_tmp rfl _ _ _) rfl ?_
    exact ⟨by rw [e]; rfl, rfl⟩
   ·go_roundw
    case rel => exact ⟨i + 1, by omega, rfl, Lib.hid (by rw [digsTo_succ (by rw [← HZ.out]; exact him), HD.out, HA.out]; simp; omega), trivial⟩
    case measure => simp [intOf]; omega
   ·have e : allDig (bs s) = false := HNO.out (by rw [HA.out]; simp; omega)
    refine bodyPost_ret (results_tmp rfl _ _ _) rfl ?_
    exact ⟨by rw [e]; rfl, rfl⟩
  ·have hd : decide ((i : Int) < (s.size : Int)) = false := by simp; omega
   have HAL : Hid ((bs s).all dig = true) := Lib.hid (by rw [← digsTo_all (k := i) (by rw [← HZ.out]; omega)]; exact HD.out)
   go_wp2
   go_ret
   refine ⟨?_, rfl⟩
   show Ending.returned (.bool (!s.toList.isEmpty)) = _
   rw [show s.toList = s.data.toList from ByteArray.toList_eq s]
   unfold allDig
   rw [HAL.out, Bool.and_true]
theorem plainN_big {l : Str} (h : 6 < l.length) : plainN l = false := by
 unfold plainN; rw [decide_eq_false (by omega)]; rfl
theorem plain_at (s : ByteArray) (h0 : 0 < s.size) (h6 : s.size ≤ 6) : ((bs s == [48]) || (((s[0]'h0).toNat : Nat) : Int) != 48) = plainN (bs s) := by
 have h1 := Lib.getD_at s 0 h0
 have h2 : s.size = (bs s).length := Lib.size_eq s
 rw [h1]
 unfold plainN
 rw [decide_eq_true (show (bs s).length ≤ 6 by omega), Bool.true_and]
 congr 1
 show _ = ((bs s).head? != some 48)
 cases hl : bs s with
 | nil =>
  rw [hl] at h2
  have h3 : ([] : Str).length = 0 := rfl
  omega
 | cons b l =>
  have : s.data.toList = b :: l := hl
  rw [this]
  simp only [List.getD_cons_zero, List.head?_cons]
  by_cases hb : b = 48
  ·subst hb; rfl
  ·have hn : b.toNat ≠ 48 := fun e => hb (UInt8.toNat_inj.1 (by rw [e]; rfl))
   have e1 : ((b.toNat : Int) != 48) = true := by rw [bne_iff_ne]; omega
   have e2 : (some b != some (48 : UInt8)) = true := by rw [bne_iff_ne]; intro e; injection e with e; exact hb e
   rw [e1, e2]
theorem plainNumber_any (s : ByteArray) (w : World) (hs : s.size ≤ 9223372036854775807) (h0 : 0 < s.size) :
  Calls Tryz.prog 171 #[.string s] w fun e w' => e = .returned (.bool (plainN (bs s))) ∧ w' = w := by
 have HZ := Lib.hid (Lib.size_eq s)
 have HH : Hid (s.size ≤ 6 → ((bs s == [48]) || (((s[0]'h0).toNat : Nat) : Int) != 48) = plainN (bs s)) := Lib.hid (plain_at s h0)
 by_cases h6 : s.size ≤ 6
 ·have HH := Lib.hid (HH.out h6)
  have hd : decide ((s.size : Int) ≤ 6) = true := by simp; omega
  go_enter Tryz.func171, Tryz.ntmps171
  go_wp2
  ·rename_i h
   refine bodyPost_ret (results_tmp rfl _ _ _) rfl ?_
   refine ⟨?_, rfl⟩
   have e : bs s = [48] := by rw [← h, ByteArray.toList_eq]
   rw [e]; rfl
  ·refine bodyPost_ret (results_tmp rfl _ _ _) rfl ?_
   refine ⟨?_, rfl⟩
   show Ending.returned (.bool (s.toList == [48] || ((s[0].toNat : Nat) : Int) != 48)) = _
   rw [ByteArray.toList_eq, HH.out]
 ·have hd : decide ((s.size : Int) ≤ 6) = false := by simp; omega
  have HN : Hid (plainN (bs s) = false) := Lib.hid (plainN_big (by rw [← HZ.out]; omega))
  go_enter Tryz.func171, Tryz.ntmps171
  go_wp2
  go_ret
  exact ⟨by rw [HN.out]; rfl, rfl⟩
theorem rightMark_empty {l : Str} (h : l.length = 0) : rightMark l = false := by
 cases l with
 | nil => rfl
 | cons b l => simp at h
theorem rightMark_long {l : Str} (h : 10 < l.length) : rightMark l = false := by
 unfold rightMark; rw [decide_eq_false (show ¬ l.length ≤ 10 by omega), Bool.and_false, Bool.false_and]
theorem rightMark_mid {l : Str} (h0 : 0 < l.length) (h : l.length ≤ 10) : rightMark l = (if allDig l then plainN l else l.all (fun b => dig b || low b)) := by
 unfold rightMark
 rw [decide_eq_true h]
 cases l with
 | nil => simp at h0
 | cons b l => simp
def wordTo (l : Str) (k : Nat) : Bool := (l.take k).all (fun b => dig b || low b)
theorem wordTo_zero (l : Str) : wordTo l 0 = true := by simp [wordTo]
theorem wordTo_succ {l : Str} {k : Nat} (h : k < l.length) : wordTo l (k + 1) = (wordTo l k && (dig (l.getD k 0) || low (l.getD k 0))) := by
 unfold wordTo
 rw [List.take_succ_eq_append_getElem h, List.all_append]
 simp [List.getD, h]
theorem wordTo_all {l : Str} {k : Nat} (h : l.length ≤ k) : wordTo l k = l.all (fun b => dig b || low b) := by
 unfold wordTo; rw [List.take_of_length_le h]
theorem word_at (s : ByteArray) (i : Nat) (h : i < s.size) : (dig ((bs s).getD i 0) || low ((bs s).getD i 0)) = ((decide (48 ≤ s[i].toNat) && decide (s[i].toNat ≤ 57)) || (decide (97 ≤ s[i].toNat) && decide (s[i].toNat ≤ 122))) := by
 rw [Lib.getD_at s i h]; rfl
theorem word_false {l : Str} {k : Nat} (hk : k < l.length) (h : (dig (l.getD k 0) || low (l.getD k 0)) = false) : (l.all (fun b => dig b || low b)) = false := by
 rw [List.all_eq_false]
 exact ⟨l.getD k 0, by simp [List.getD, hk], by rw [h]; simp⟩
set_option maxHeartbeats 2000000 in
theorem rightMark_any (s : ByteArray) (w : World) (hs : s.size ≤ 9223372036854775807) :
  Calls Tryz.prog 165 #[.string s] w fun e w' => e = .returned (.bool (rightMark (bs s))) ∧ w' = w := by
 have HZ : Hid (s.size = (bs s).length) := Lib.hid (Lib.size_eq s)
 by_cases h0 : s.size = 0
 ·have HR : Hid (rightMark (bs s) = false) := Lib.hid (rightMark_empty (by rw [← HZ.out]; exact h0))
  have he : s.toList = [] := by
   have := HZ.out
   rw [ByteArray.toList_eq]
   exact List.eq_nil_of_length_eq_zero (by rw [← h0]; exact this.symm)
  go_enter Tryz.func165, Tryz.ntmps165
  go_wp2
  refine bodyPost_ret (results_tmp rfl _ _ _) rfl ?_
  exact ⟨by rw [HR.out]; rfl, rfl⟩
 ·have hne : s.toList.isEmpty = false := by
   cases he : s.toList.isEmpty with
   | false => rfl
   | true =>
    exfalso
    apply h0
    rw [ByteArray.toList_eq, List.isEmpty_iff] at he
    have := HZ.out
    rw [show bs s = [] from he] at this
    exact this
  by_cases h10 : s.size ≤ 10
  ·have hd : decide (10 < (s.size : Int)) = false := by simp; omega
   have HR : Hid (rightMark (bs s) = if allDig (bs s) then plainN (bs s) else (bs s).all (fun b => dig b || low b)) := Lib.hid (rightMark_mid (by rw [← HZ.out]; omega) (by rw [← HZ.out]; exact h10))
   cases hA : allDig (bs s) with
   | true =>
    have HA := Lib.hid hA
    clear hA
    go_enter Tryz.func165, Tryz.ntmps165
    go_wp2_with fail
    refine (allDigits_any s w hs).mono ?_
    rintro e w' ⟨rfl, rfl⟩
    rw [HA.out]
    go_wp2_with fail
    refine (plainNumber_any s _ hs (by omega)).mono ?_
    rintro e w' ⟨rfl, rfl⟩
    go_wp2
    refine bodyPost_ret (results_tmp rfl _ _ _) rfl ?_
    exact ⟨by rw [HR.out, HA.out]; rfl, rfl⟩
   | false =>
    have HA := Lib.hid hA
    clear hA
    go_enter Tryz.func165, Tryz.ntmps165
    go_wp2_with fail
    refine (allDigits_any s w hs).mono ?_
    rintro e w' ⟨rfl, rfl⟩
    rw [HA.out]
    go_wp2
    go_loopw [19] (fun v6 wr => ∃ (i : Nat), i ≤ s.size ∧ v6 = .int .i64 (i : Int) ∧ Hid (wordTo (bs s) i = true) ∧ wr = w') (fun v _ => s.size - (intOf v).toNat)
    case atStart => exact ⟨0, Nat.zero_le _, rfl, Lib.hid (wordTo_zero _), rfl⟩
    case round =>
     obtain ⟨i, hi, rfl, HD, rfl⟩ := hrel
     by_cases him : i < s.size
     ·have hd : decide ((i : Int) < (s.size : Int)) = true := by simp; omega
      have hadd : IntKind.i64.wrap ((i : Int) + 1) = ((i + 1 : Nat) : Int) := by rw [IntWalk.i64_in _ (by omega)]; omega
      have HA2 := Lib.hid (word_at s i him)
      have HNO : Hid ((dig ((bs s).getD i 0) || low ((bs s).getD i 0)) = false → (bs s).all (fun b => dig b || low b) = false) := Lib.hid (fun h => word_false (by rw [← HZ.out]; exact him) h)
      go_wp2
      all_goals first
       |(go_roundw
         case rel => exact ⟨i + 1, by omega, rfl, Lib.hid (by rw [wordTo_succ (by rw [← HZ.out]; exact him), HD.out, HA2.out]; rename_i hh; simp at hh ⊢; omega), trivial⟩
         case measure => simp [intOf]; omega)
       |(have e : rightMark (bs s) = false := by
          rw [HR.out, HA.out]; simp only [Bool.false_eq_true, if_false]
          exact HNO.out (by rw [HA2.out]; rename_i hh; simp at hh ⊢; omega)
         refine bodyPost_ret (results_tmp rfl _ _ _) rfl ?_
         exact ⟨by rw [e]; rfl, rfl⟩)
     ·have hd : decide ((i : Int) < (s.size : Int)) = false := by simp; omega
      have HAL : Hid ((bs s).all (fun b => dig b || low b) = true) := Lib.hid (by rw [← wordTo_all (k := i) (by rw [← HZ.out]; omega)]; exact HD.out)
      go_wp2
      go_ret
      exact ⟨by rw [HR.out, HA.out]; simp only [Bool.false_eq_true, if_false]; rw [HAL.out]; rfl, rfl⟩
  ·have hd : decide (10 < (s.size : Int)) = true := by simp; omega
   have HR : Hid (rightMark (bs s) = false) := Lib.hid (rightMark_long (by rw [← HZ.out]; omega))
   go_enter Tryz.func165, Tryz.ntmps165
   go_wp2
   refine bodyPost_ret (results_tmp rfl _ _ _) rfl ?_
   exact ⟨by rw [HR.out]; rfl, rfl⟩
end Go.Proofs.YtminihiecloglaaGreat
namespace Go.Proofs.YtminihiecloglaaGreat
open Go.RowKit
open SemP
set_option maxRecDepth 100000
abbrev LenAt (w : World) : Prop := ∃ m, w.cell? ⟨1, 0, none⟩ = some (.int .i64 m)
def numV (l : Str) : Value := match num l with
 | some n => .tuple #[.int .i64 (n : Int), .bool true]
 | none => .tuple #[.int .i64 0, .bool false]
theorem or2_any {w : World} {g : Nat} {a b : Int} (h0 : w.cell? ⟨g, 0, none⟩ = some (.int .i64 a)) (h1 : w.cell? ⟨g, 1, none⟩ = some (.int .i64 b)) :
  Calls Tryz.prog 172 #[.slice (some ⟨g, 0, none⟩) 2 2] w fun e w' => e = .returned (.int .i64 (orI a b)) ∧ w' = w := by
 by_cases ha : a = 0
 ·subst ha
  rw [orI_zero]
  by_cases hb : b = 0
  ·subst hb
   go_enter Tryz.func172, Tryz.ntmps172
   go_wp2
   refine wp_loop_rounds 3 ?_
   rw [rounds_succ]
   go_wp2
   rw [rounds_succ]
   go_wp2
   rw [rounds_succ]
   go_wp2
   go_ret
   exact ⟨rfl, rfl⟩
  ·have hbe : (b == 0) = false := by simp; omega
   go_enter Tryz.func172, Tryz.ntmps172
   go_wp2
   refine wp_loop_rounds 2 ?_
   rw [rounds_succ]
   go_wp2
   rw [rounds_succ]
   go_wp2
   go_ret
   exact ⟨rfl, rfl⟩
 ·have hae : (a == 0) = false := by simp; omega
  rw [orI_ne ha]
  go_enter Tryz.func172, Tryz.ntmps172
  go_wp2
  refine wp_loop_rounds 1 ?_
  rw [rounds_succ]
  go_wp2
  go_ret
  exact ⟨rfl, rfl⟩
theorem or4_any {w : World} {g : Nat} {a b c d : Int} (h0 : w.cell? ⟨g, 0, none⟩ = some (.int .i64 a)) (h1 : w.cell? ⟨g, 1, none⟩ = some (.int .i64 b)) (h2 : w.cell? ⟨g, 2, none⟩ = some (.int .i64 c)) (h3 : w.cell? ⟨g, 3, none⟩ = some (.int .i64 d)) :
  Calls Tryz.prog 172 #[.slice (some ⟨g, 0, none⟩) 4 4] w fun e w' => e = .returned (.int .i64 (orI a (orI b (orI c d)))) ∧ w' = w := by
 by_cases ha : a = 0
 ·subst ha
  rw [orI_zero]
  by_cases hb : b = 0
  ·subst hb
   rw [orI_zero]
   by_cases hc : c = 0
   ·subst hc
    rw [orI_zero]
    by_cases hd : d = 0
    ·subst hd
     go_enter Tryz.func172, Tryz.ntmps172
     go_wp2
     refine wp_loop_rounds 5 ?_
     iterate 5 (rw [rounds_succ]; go_wp2)
     go_ret
     exact ⟨rfl, rfl⟩
    ·have hde : (d == 0) = false := by simp; omega
     go_enter Tryz.func172, Tryz.ntmps172
     go_wp2
     refine wp_loop_rounds 4 ?_
     iterate 4 (rw [rounds_succ]; go_wp2)
     go_ret
     exact ⟨rfl, rfl⟩
   ·have hce : (c == 0) = false := by simp; omega
    rw [orI_ne hc]
    go_enter Tryz.func172, Tryz.ntmps172
    go_wp2
    refine wp_loop_rounds 3 ?_
    iterate 3 (rw [rounds_succ]; go_wp2)
    go_ret
    exact ⟨rfl, rfl⟩
  ·have hbe : (b == 0) = false := by simp; omega
   rw [orI_ne hb]
   go_enter Tryz.func172, Tryz.ntmps172
   go_wp2
   refine wp_loop_rounds 2 ?_
   iterate 2 (rw [rounds_succ]; go_wp2)
   go_ret
   exact ⟨rfl, rfl⟩
 ·have hae : (a == 0) = false := by simp; omega
  rw [orI_ne ha]
  go_enter Tryz.func172, Tryz.ntmps172
  go_wp2
  refine wp_loop_rounds 1 ?_
  rw [rounds_succ]
  go_wp2
  go_ret
  exact ⟨rfl, rfl⟩
theorem cells2 (w : World) (p q : Int) : (w.alloc (.cells #[.int .i64 p, .int .i64 q] 3)).cell? ⟨w.heap.size, 0, none⟩ = some (.int .i64 p) ∧ (w.alloc (.cells #[.int .i64 p, .int .i64 q] 3)).cell? ⟨w.heap.size, 1, none⟩ = some (.int .i64 q) := by
 have hb := World.alloc_heap_new w (.cells #[.int .i64 p, .int .i64 q] 3)
 exact ⟨by simp only [World.cell?, hb]; rfl, by simp only [World.cell?, hb]; rfl⟩
theorem compareMarks_any (s t : ByteArray) (w : World) (hs : s.size ≤ 9223372036854775807) (ht : t.size ≤ 9223372036854775807) :
  Calls Tryz.prog 176 #[.string s, .string t] w fun e w' => e = .returned (.int .i64 (cmpMarks (bs s) (bs t))) ∧ Below w.heap.size w w' := by
 have HZ : Hid (s.size = (bs s).length) := Lib.hid (Lib.size_eq s)
 have HZt : Hid (t.size = (bs t).length) := Lib.hid (Lib.size_eq t)
 cases hA : allDig (bs s) <;> cases hB : allDig (bs t)
 all_goals
  have HA := Lib.hid hA
  have HB := Lib.hid hB
  have HC := Lib.hid (show cmpMarks (bs s) (bs t) = _ from rfl)
  simp only [cmpMarks, hA, hB, Bool.and_self, Bool.and_false, Bool.false_and, Bool.and_true, Bool.false_eq_true, if_false, if_true]
  clear hA hB HC
  go_enter Tryz.func176, Tryz.ntmps176
  go_wp2_with fail
  refine (allDigits_any s w hs).mono ?_
  rintro e w' ⟨rfl, rfl⟩
  rw [HA.out]
  go_wp2_with fail
  refine (allDigits_any t _ ht).mono ?_
  rintro e w' ⟨rfl, rfl⟩
  rw [HB.out]
 ·go_wp2_with fail
  refine (Tryz.strings_Compare s t _).mono ?_
  rintro e w' ⟨rfl, rfl⟩
  go_wp2
  refine bodyPost_ret (results_tmp rfl _ _ _) rfl ?_
  exact ⟨rfl, Below.refl _ _⟩
 ·go_wp2
  refine bodyPost_ret (results_tmp rfl _ _ _) rfl ?_
  exact ⟨rfl, Below.refl _ _⟩
 ·go_wp2
  refine bodyPost_ret (results_tmp rfl _ _ _) rfl ?_
  exact ⟨rfl, Below.refl _ _⟩
 ·go_wp2_with fail
  refine (Tryz.cmp_Compare_int _ _ _).mono ?_
  rintro e w1 ⟨rfl, rfl⟩
  go_wp2_with fail
  refine (Tryz.strings_Compare s t _).mono ?_
  rintro e w2 ⟨rfl, rfl⟩
  obtain ⟨c0, c1⟩ := cells2 w2 (Lib.compareInt (s.size : Int) (t.size : Int)) (Lib.compareBytes (bs s) (bs t))
  have HOR := Lib.hid (or2_any c0 c1)
  clear c0 c1
  go_wp2_with fail
  refine HOR.out.mono ?_
  rintro e w3 ⟨rfl, rfl⟩
  go_wp2
  refine bodyPost_ret (results_tmp rfl _ _ _) rfl ?_
  exact ⟨by rw [← HZ.out, ← HZt.out]; rfl, (Below.refl _ _).alloc (Nat.le_refl _) _⟩
end Go.Proofs.YtminihiecloglaaGreat
namespace Go.Proofs.YtminihiecloglaaGreat
open Go.RowKit Go.Shelf
open SemP
set_option maxRecDepth 100000
attribute [local go_sem] Oper.semAt_some
abbrev mk (x : Str) : ByteArray := ⟨x.toArray⟩
abbrev Mk := { x : Str // x.length < 4294967281 }
abbrev strs (l : List Mk) : List Str := l.map Subtype.val
theorem strs_snoc (l : List Mk) (x : Mk) : strs (l ++ [x]) = strs l ++ [x.1] := by simp [strs]
theorem mk_size (x : Str) : (mk x).size = x.length := Lib.size_eq _
theorem marks_in (n : Nat) (s : ByteArray) (w : World) :
  CallsIn Fence.wide n Tryz.prog 164 #[.string s] w fun e w' => e = .returned (.func (.func 168) #[] #[.pointer (some ⟨w.heap.size, 0, none⟩)]) ∧ w' = w.alloc (.cells #[.string s] 9) := by
 refine callsIn_of_wp Tryz.func164 rfl trivial ?_ rfl
 simp only [Tryz.ntmps164, List.size_toArray, List.length_cons, List.length_nil, Nat.reduceAdd, Nat.reduceSub, Array.replicate_succ, Array.replicate_zero, List.push_toArray, List.append_toArray, List.nil_append, List.cons_append]
 gi_wp2
 go_ret
 exact ⟨rfl, rfl⟩
def toGo (p more : Value) : Nat := match p, more with
 | .string b, .bool true => b.size + 1
 | _, _ => 0
set_option maxHeartbeats 2000000 in
theorem marks_stops (n : Nat) (hn : 1 ≤ n) (Bn n₀ : Nat) (s : ByteArray) (hs : s.size < 4294967281) (w : World) (h1 : 1 < n₀) (hn0 : n₀ ≤ w.heap.size) (hb : w.cell? ⟨Bn, 0, none⟩ = some (.string s)) (hm : LenAt w) (hBw : Bn < w.heap.size) :
  SeqStopsK Fence.wide n Tryz.prog 168 #[.pointer (some ⟨Bn, 0, none⟩)] (fun x : Mk => #[.string (mk x.1)]) (Below n₀) (fun xs => strs xs = pieces 46 (bs s)) (fun pre => strs pre <+: pieces 46 (bs s)) (pieces 46 (bs s)).length w := by
 intro l J Jx W hW hJ hJx hY h0
 have hb2 : W.cell? ⟨Bn, 0, none⟩ = some (.string s) := (hW.cell hBw).trans hb
 have hm2 : ∃ m, W.cell? ⟨1, 0, none⟩ = some (.int .i64 m) := by obtain ⟨m, hm⟩ := hm; exact ⟨m, (hW.cell (show 1 < _ by omega)).trans hm⟩
 refine callsIn_of_wp Tryz.func168 rfl trivial ?_ rfl
 simp only [Tryz.ntmps168, List.size_toArray, List.length_cons, List.length_nil, Nat.reduceAdd, Nat.reduceSub, Array.replicate_succ, Array.replicate_zero, List.push_toArray, List.append_toArray, List.nil_append, List.cons_append]
 gi_wp2
 gi_loopw [3, 4] (fun p more wr => ∃ (pre : List Mk) (rest : Str), p = .string (mk rest) ∧ rest.length < 4294967281 ∧ LenAt wr ∧ J pre wr ∧
   ((more = .bool true ∧ pieces 46 (bs s) = strs pre ++ pieces 46 rest) ∨ (more = .bool false ∧ pieces 46 (bs s) = strs pre)))
  (fun p more _ => toGo p more)
 case atStart => exact ⟨[], bs s, by simp [mk], by rw [show (bs s).length = s.size from (Lib.size_eq s).symm]; exact hs, hm2, h0, .inl ⟨rfl, rfl⟩⟩
 case round =>
  obtain ⟨pre, rest, rfl, hrl, ⟨m, hmw⟩, hJs, hcase⟩ := hrel
  rcases hcase with ⟨rfl, hp⟩ | ⟨rfl, hp⟩
  ·have hsz := mk_size rest
   have HCUT := Lib.hid (Tryz.strings_Cut (mk rest) ⟨#[46]⟩ m wr (by omega) hmw)
   gi_wp2_with fail
   refine ⟨trivial, ?_⟩
   gi_at_call 169
   refine (callsIn_wide.2 HCUT.out).mono ?_
   rintro e w1 ⟨rfl, k, rfl⟩
   clear HCUT
   have hJ2 : J pre (wr.drewN k) := hJ pre wr _ none hJs ⟨rfl, rfl, rfl, Nat.le_refl _, fun _ _ _ => rfl⟩ (fun r e => by cases e)
   have hmw2 : (wr.drewN k).cell? ⟨1, 0, none⟩ = some (.int .i64 m) := hmw
   rcases cut_pieces rest 46 with ⟨p, r, hcut, hpp, hrr, hnp⟩ | ⟨hcut, hpp, hnp⟩
   ·subst hrr
    rw [hcut]
    have hlen : pre.length < (pieces 46 (bs s)).length := by rw [hp, hpp]; simp [strs]
    have hpl : p.length < 4294967281 := by rw [List.length_append] at hrl; omega
    obtain ⟨fn, tmps, assign, body, hy, hR⟩ := hY pre ⟨p, hpl⟩ (wr.drewN k) hJ2 hlen
    try dsimp only at hy
    have hl2 : r.length < 4294967281 := by rw [List.length_append, List.length_cons] at hrl; omega
    have hpN : pieces 46 (bs s) = strs (pre ++ [⟨p, hpl⟩]) ++ pieces 46 r := by rw [hp, hpp, strs_snoc]; simp
    have hms : r.length + 1 < (p ++ 46 :: r).length + 1 := by rw [List.length_append, List.length_cons]; omega
    have HX := Lib.hid (And.intro hpN hms)
    clear hp hpp hcut hpN hms
    gi_wp2
    refine hR.mono ?_
    rintro e W3 (⟨rfl, hJ3, hk3⟩ | ⟨rfl, hJx3⟩)
    ·have hm3 : W3.cell? ⟨1, 0, none⟩ = some (.int .i64 m) := (hk3.cell (show 1 < _ from h1)).trans hmw2
     gi_wp2
     go_roundw
     case rel => exact ⟨pre ++ [⟨p, hpl⟩], r, rfl, hl2, ⟨m, hm3⟩, hJ3, .inl ⟨rfl, HX.out.1⟩⟩
     case measure =>
      show toGo (.string (mk r)) (.bool true) < toGo (.string (mk (p ++ 46 :: r))) (.bool true)
      simp only [toGo, mk_size]
      exact HX.out.2
    ·gi_wp2
     refine bodyPost_ret (results_none rfl _ _ _) rfl ?_
     exact ⟨⟨_, rfl⟩, .inr ⟨pre ++ [⟨p, hpl⟩], ⟨pieces 46 r, HX.out.1.symm⟩, hJx3⟩⟩
   ·rw [hcut]
    have hlen : pre.length < (pieces 46 (bs s)).length := by rw [hp, hpp]; simp [strs]
    obtain ⟨fn, tmps, assign, body, hy, hR⟩ := hY pre ⟨rest, hrl⟩ (wr.drewN k) hJ2 hlen
    have HX : Hid (pieces 46 (bs s) = strs (pre ++ [⟨rest, hrl⟩])) := Lib.hid (by rw [hp, hpp, strs_snoc])
    clear hp hpp hcut
    gi_wp2
    refine hR.mono ?_
    rintro e W3 (⟨rfl, hJ3, hk3⟩ | ⟨rfl, hJx3⟩)
    ·have hm3 : W3.cell? ⟨1, 0, none⟩ = some (.int .i64 m) := (hk3.cell (show 1 < _ from h1)).trans hmw2
     gi_wp2
     go_roundw
     case rel => exact ⟨pre ++ [⟨rest, hrl⟩], [], rfl, by simp, ⟨m, hm3⟩, hJ3, .inr ⟨rfl, HX.out⟩⟩
     case measure =>
      show toGo (.string (mk [])) (.bool false) < toGo (.string (mk rest)) (.bool true)
      simp only [toGo]
      omega
    ·gi_wp2
     refine bodyPost_ret (results_none rfl _ _ _) rfl ?_
     exact ⟨⟨_, rfl⟩, .inr ⟨pre ++ [⟨rest, hrl⟩], ⟨[], by rw [List.append_nil]; exact HX.out.symm⟩, hJx3⟩⟩
  ·gi_wp2
   go_end0
   exact ⟨⟨_, rfl⟩, .inl ⟨pre, hp.symm, hJs⟩⟩
end Go.Proofs.YtminihiecloglaaGreat
namespace Go.Proofs.YtminihiecloglaaGreat
open Go.RowKit Go.Shelf
open SemP
set_option maxRecDepth 100000
attribute [local go_sem] Oper.semAt_some
theorem cell_new1 (W : World) (v : Value) (t : TypeId) : (W.alloc (.cells #[v] t)).cell? ⟨W.heap.size, 0, none⟩ = some v ∧ (W.alloc (.cells #[v] t)).frozen? ⟨W.heap.size, 0, none⟩ = false := by
 have hb := World.alloc_heap_new W (.cells #[v] t)
 exact ⟨by simp only [World.cell?, hb]; rfl, by simp only [World.frozen?, hb]; rfl⟩
theorem cell_al {W : World} {a : Addr} {v : Value} (o : Obj) (h : W.cell? a = some v) : (W.alloc o).cell? a = some v := cell_kept h (World.grownBy_alloc W o none) (fun r e => by cases e)
theorem frozen_al {W : World} {a : Addr} {v : Value} (o : Obj) (h : W.cell? a = some v) (hf : W.frozen? a = false) : (W.alloc o).frozen? a = false := (frozen_kept h (World.grownBy_alloc W o none) (fun r e => by cases e)).trans hf
def soFar (pre : List Str) : Prop := pre.length ≤ 4 ∧ ∀ x ∈ pre, rightMark x = true
theorem soFar_snoc {pre : List Str} {x : Str} : soFar (pre ++ [x]) ↔ soFar pre ∧ pre.length < 4 ∧ rightMark x = true := by
 unfold soFar
 simp only [List.length_append, List.length_cons, List.length_nil, List.mem_append, List.mem_singleton]
 constructor
 ·rintro ⟨h1, h2⟩
  exact ⟨⟨by omega, fun y hy => h2 y (.inl hy)⟩, by omega, h2 x (.inr rfl)⟩
 ·rintro ⟨⟨h1, h2⟩, h3, h4⟩
  exact ⟨by omega, fun y hy => hy.elim (h2 y) (fun e => by rw [e]; exact h4)⟩
theorem soFar_prefix {pre l : List Str} (h : pre <+: l) (hl : soFar l) : soFar pre :=
 ⟨Nat.le_trans h.length_le hl.1, fun x hx => hl.2 x (h.subset hx)⟩
theorem rightPre_iff (p : Str) : rightPre p = true ↔ soFar (pieces 46 p) := by
 unfold rightPre soFar
 rw [Bool.and_eq_true, decide_eq_true_iff, List.all_eq_true]
theorem piece_len (c : UInt8) (l : Str) : ∀ x ∈ pieces c l, x.length ≤ l.length := by
 induction l with
 | nil => intro x hx; simp [pieces] at hx; subst hx; simp
 | cons b l ih =>
  intro x hx
  unfold pieces at hx
  split at hx
  ·simp at hx
   rcases hx with rfl | hx
   ·simp
   ·have := ih x hx; simp; omega
  ·split at hx
   ·simp at hx; subst hx; simp
   ·next p ps he =>
    simp at hx
    rcases hx with rfl | hx
    ·have := ih p (by rw [he]; simp); simp; omega
    ·have := ih x (by rw [he]; simp [hx]); simp; omega
set_option maxHeartbeats 4000000 in
theorem rightPre_any (s : ByteArray) (w : World) (hs : s.size < 4294967281) (hm : LenAt w) (h1 : 1 < w.heap.size) :
  Calls Tryz.prog 157 #[.string s] w fun e w' => e = .returned (.bool (rightPre (bs s))) ∧ Below w.heap.size w w' := by
 refine (callsIn_wide (n := 4)).1 ?_
 refine callsIn_of_wp_marks Tryz.func157 rfl trivial ?_ rfl
 simp only [Tryz.ntmps157, List.size_toArray, List.length_cons, List.length_nil, Nat.reduceAdd, Nat.reduceSub, Array.replicate_succ, Array.replicate_zero, List.push_toArray, List.append_toArray, List.nil_append, List.cons_append]
 gi_wp2_with (refine ⟨trivial, ?_⟩; gi_at_call 164; refine (marks_in _ _ _).mono ?_; rintro e w' ⟨rfl, rfl⟩)
 have c0 := cell_new1 w (.bool false) 4
 have c1 := cell_new1 (w.alloc (.cells #[.bool false] 4)) (.int .i64 0) 3
 have c2 := cell_new1 ((w.alloc (.cells #[.bool false] 4)).alloc (.cells #[.int .i64 0] 3)) (.string s) 9
 simp only [World.size_alloc] at c1 c2
 have hB0 : Below w.heap.size w (((w.alloc (.cells #[.bool false] 4)).alloc (.cells #[.int .i64 0] 3)).alloc (.cells #[.string s] 9)) := (((Below.refl _ w).alloc (Nat.le_refl _) _).alloc (by simp) _).alloc (by simp; omega) _
 have hm0 : LenAt (((w.alloc (.cells #[.bool false] 4)).alloc (.cells #[.int .i64 0] 3)).alloc (.cells #[.string s] 9)) := by
  obtain ⟨m, hm⟩ := hm
  exact ⟨m, (hB0.cell (show 1 < _ from h1)).trans hm⟩
 have HRP := Lib.hid (rightPre_iff (bs s))
 have HPL := Lib.hid (piece_len 46 (bs s))
 have hzs : (bs s).length = s.size := (Lib.size_eq s).symm
 refine wpIn_rangeFunc_ownF rfl (by omega) (gf := 168) (lb := #[.pointer (some ⟨w.heap.size + 1 + 1, 0, none⟩)]) rfl trivial (enters_of Tryz.func168 (by kernel_rfl) rfl)
  (marks_stops 3 (by omega) (w.heap.size + 1 + 1) w.heap.size s hs _ h1 (by simp; omega) c2.1 hm0 (by simp)) belowK_t (belowK_b (by simp; omega)) (Below.refl _ _) (fun _ => rfl)
  (fun pre W => ((soFar (strs pre) ∧ W.cell? ⟨w.heap.size, 0, none⟩ = some (.bool false) ∧ W.frozen? ⟨w.heap.size, 0, none⟩ = false) ∧ W.cell? ⟨w.heap.size + 1, 0, none⟩ = some (.int .i64 (pre.length : Int)) ∧ W.frozen? ⟨w.heap.size + 1, 0, none⟩ = false) ∧ Below w.heap.size w W)
  (fun c pre W => (c = .ret ∧ ¬ soFar (strs pre) ∧ W.cell? ⟨w.heap.size, 0, none⟩ = some (.bool false)) ∧ Below w.heap.size w W)
  (OwnFrom.and (Own.from (fun s A B row hs hg hr => ⟨⟨hs.1.1, cell_kept hs.1.2.1 hg hr, (frozen_kept hs.1.2.1 hg hr).trans hs.1.2.2⟩, cell_kept hs.2.1 hg hr, (frozen_kept hs.2.1 hg hr).trans hs.2.2⟩) _) (ownFrom_below (Nat.le_refl _) (by simp; omega)))
  (fun c => OwnFrom.and (Own.from (fun s A B row hs hg hr => ⟨hs.1, hs.2.1, cell_kept hs.2.2 hg hr⟩) _) (ownFrom_below (Nat.le_refl _) (by simp; omega)))
  ⟨⟨⟨⟨by simp [strs], by simp [strs]⟩, cell_al _ (cell_al _ c0.1), frozen_al _ (cell_al _ c0.1) (frozen_al _ c0.1 c0.2)⟩, cell_al _ c1.1, frozen_al _ c1.1 c1.2⟩, hB0⟩
  (fun x => { tmps := #[.string s, undef, .pointer (some ⟨w.heap.size, 0, none⟩), .pointer (some ⟨w.heap.size + 1, 0, none⟩), .string (mk x.1), .string s, .func (.func 168) #[] #[.pointer (some ⟨w.heap.size + 1 + 1, 0, none⟩)], .string (mk x.1), undef, undef, undef, undef, undef, undef, undef, undef, undef], defers := [] }) ?assign ?body ?done ?stop
 case assign =>
  intro l x W K hK
  gi_wp2
  exact hK
 case body =>
  rintro l pre x W ⟨⟨⟨hsf, hc0, hf0⟩, hc1, hf1⟩, hB⟩ hlen
  have hx := x.2
  have hxs := mk_size x.1
  have hlp : pre.length ≤ 4 := by have := hsf.1; rw [List.length_map] at this; exact this
  have hadd : IntKind.i64.wrap ((pre.length : Int) + 1) = ((pre.length + 1 : Nat) : Int) := by rw [IntWalk.i64_in _ (by omega)]; omega
  have HSF := Lib.hid hsf
  have HSN := Lib.hid (@soFar_snoc (strs pre) x.1)
  clear hsf
  have hc0' : ∀ v, (W.setCell ⟨w.heap.size + 1, 0, none⟩ v).cell? ⟨w.heap.size, 0, none⟩ = some (.bool false) := fun v => (World.cell?_setCell_other _ _ _ _ (by simp)).trans hc0
  have hb1 : ∀ v, Below w.heap.size w (W.setCell ⟨w.heap.size + 1, 0, none⟩ v) := fun v => hB.setCell (p := ⟨w.heap.size + 1, 0, none⟩) (by simp) _
  have hls : (strs pre).length = pre.length := by simp [strs]
  by_cases h4 : 4 < pre.length + 1
  ·have hd : decide (4 < ((pre.length + 1 : Nat) : Int)) = true := by simp; omega
   have HNO : Hid (¬ soFar (strs (pre ++ [x]))) := Lib.hid (by rw [strs_snoc, HSN.out]; rintro ⟨_, h, _⟩; omega)
   gi_wp2
   refine ⟨trivial, ?_⟩
   gi_wp2
   exact ⟨(KeepsOthers.setCell _ _ _).trans (KeepsOthers.setCell _ _ _), ⟨rfl, HNO.out, World.cell?_setCell_same' _ _ _ (by rw [hc0']; rfl)⟩, (hb1 _).setCell (p := ⟨w.heap.size, 0, none⟩) (Nat.le_refl _) _⟩
  ·have hd : decide (4 < ((pre.length + 1 : Nat) : Int)) = false := by simp; omega
   gi_wp2_with (refine ⟨trivial, ?_⟩; gi_at_call 165; refine (CallsIn.inRound l (callsIn_wide.2 (rightMark_any _ _ (by rw [hxs]; omega)))).mono ?_; rintro e w' ⟨rfl, rfl⟩)
   ·rename_i hh
    have HNO : ¬ soFar (strs (pre ++ [x])) := by
     rw [strs_snoc, HSN.out]; rintro ⟨_, h, hr⟩
     rw [show bs (mk x.1) = x.1 from rfl, hr] at hh
     simp at hh; omega
    exact ⟨(KeepsOthers.setCell _ _ _).trans (KeepsOthers.setCell _ _ _), ⟨rfl, HNO, World.cell?_setCell_same' _ _ _ (by rw [hc0']; rfl)⟩, (hb1 _).setCell (p := ⟨w.heap.size, 0, none⟩) (Nat.le_refl _) _⟩
   ·rename_i hh
    have HYES : soFar (strs (pre ++ [x])) := by
     rw [strs_snoc, HSN.out]
     have h2 := hh.2
     rw [show bs (mk x.1) = x.1 from rfl] at h2
     simp at h2
     exact ⟨HSF.out, by omega, h2⟩
    refine ⟨KeepsOthers.setCell _ _ _, (Below.refl w.heap.size W).setCell (p := ⟨w.heap.size + 1, 0, none⟩) (by simp) _, ⟨⟨HYES, hc0' _, by rw [World.frozen?_setCell]; exact hf0⟩, ?_, by rw [World.frozen?_setCell]; exact hf1⟩, hb1 _⟩
    rw [World.cell?_setCell_same' _ _ _ (by rw [hc1]; rfl)]
    simp
 case done =>
  rintro D ys W hD hys ⟨⟨⟨hsf, hc0, hf0⟩, _, _⟩, hB⟩ hK
  have HR : Hid (rightPre (bs s) = true) := Lib.hid (HRP.out.2 (by rw [← hys]; exact hsf))
  gi_wp2
  have hK' := (KeepsOthers.setCell W ⟨w.heap.size, 0, none⟩ (.bool true)).same D _ hK rfl
  refine ⟨by simp, .inl ⟨_, _, rfl, run_takeDeferred hK', ?_⟩⟩
  have hc5 := cell_kept (World.cell?_setCell_same' W ⟨w.heap.size, 0, none⟩ (.bool true) (by rw [hc0]; rfl)) (grownBy_putObj' _ D (.deferred none)) (fun r e => by cases e; exact ⟨_, hK', rfl⟩)
  refine ⟨.bool true, ?_, by rw [HR.out], (hB.setCell (p := ⟨w.heap.size, 0, none⟩) (Nat.le_refl _) _).trans (belowK_b (w := w) (Nat.le_refl _) _ D _ _ (by simp at hD; omega) hK' rfl rfl)⟩
  simp [results, Tryz.f157, go_sem, hc5]
 case stop =>
  rintro D c pre W hD hpre ⟨⟨rfl, hno, hcr⟩, hB⟩ hK
  have HR : Hid (rightPre (bs s) = false) := Lib.hid (by
   rw [Bool.eq_false_iff]
   intro h
   exact hno (soFar_prefix hpre (HRP.out.1 h)))
  gi_wp2
  refine ⟨by simp, .inl ⟨_, _, rfl, run_takeDeferred hK, ?_⟩⟩
  have hc5 := cell_kept hcr (grownBy_putObj' _ D (.deferred none)) (fun r e => by cases e; exact ⟨_, hK, rfl⟩)
  refine ⟨.bool false, ?_, by rw [HR.out], hB.trans (belowK_b (w := w) (Nat.le_refl _) W D _ _ (by simp at hD; omega) hK rfl rfl)⟩
  simp [results, Tryz.f157, go_sem, hc5]
end Go.Proofs.YtminihiecloglaaGreat
namespace Go.Proofs.YtminihiecloglaaGreat
open Go.RowKit Go.Shelf
open SemP
set_option maxRecDepth 100000
attribute [local go_sem] Oper.semAt_some
theorem cmpMarks_refl (x : Str) : cmpMarks x x = 0 := cmpMarks_tot.refl x
theorem row_longer (l : List Str) (x : Str) (r : List Str) : rowC cmpMarks (l ++ x :: r) l = 1 := by
 induction l with
 | nil => rfl
 | cons y l ih => simp only [List.cons_append, rowC]; rw [cmpMarks_refl, orI_zero, ih]
theorem row_shorter (l : List Str) (x : Str) (r : List Str) : rowC cmpMarks l (l ++ x :: r) = -1 := by
 induction l with
 | nil => rfl
 | cons y l ih => simp only [List.cons_append, rowC]; rw [cmpMarks_refl, orI_zero, ih]
theorem row_at (l : List Str) (x y : Str) (r q : List Str) (h : cmpMarks x y ≠ 0) : rowC cmpMarks (l ++ x :: r) (l ++ y :: q) = cmpMarks x y := by
 induction l with
 | nil => simp only [List.nil_append, rowC]; rw [orI_ne h]
 | cons z l ih => simp only [List.cons_append, rowC]; rw [cmpMarks_refl, orI_zero, ih]
theorem cut_next (r : Str) (hr : r.length < 4294967281) : ∃ (o r' : Str) (more : Bool), Lib.cut r [46] = (o, r', more) ∧ pieces 46 r = o :: (if more then pieces 46 r' else []) ∧ o.length < 4294967281 ∧ r'.length < 4294967281 := by
 rcases cut_pieces r 46 with ⟨p, q, h1, h2, h3, _⟩ | ⟨h1, h2, _⟩
 ·refine ⟨p, q, true, h1, by rw [h2]; rfl, ?_, ?_⟩ <;> (rw [h3, List.length_append, List.length_cons] at hr; omega)
 ·exact ⟨r, [], false, h1, by rw [h2]; rfl, hr, by simp⟩
theorem cell_lt {w : World} {b o : Nat} {v : Value} (h : w.cell? ⟨b, o, none⟩ = some v) : b < w.heap.size := by
 rcases Nat.lt_or_ge b w.heap.size with hlt | hge
 ·exact hlt
 ·simp [World.cell?, Array.getElem?_eq_none hge] at h
theorem below_grown {w w' : World} (h : Below w.heap.size w w') : w.grownBy w' none := ⟨h.os, h.tape, h.output, h.size, fun k hk _ => h.block k hk⟩
theorem below_others {w w' : World} (h : Below w.heap.size w w') : KeepsOthers w w' := KeepsOthers.of_grownBy (below_grown h) (fun j o e => by cases e)
set_option maxHeartbeats 4000000 in
theorem comparePres_any (s t : ByteArray) (w : World) (hs : s.size < 4294967281) (ht : t.size < 4294967281) (hm : LenAt w) (h1 : 1 < w.heap.size) :
  Calls Tryz.prog 173 #[.string s, .string t] w fun e w' => e = .returned (.int .i64 (cmpPre (bs s) (bs t))) ∧ Below w.heap.size w w' := by
 refine (callsIn_wide (n := 4)).1 ?_
 refine callsIn_of_wp_marks Tryz.func173 rfl trivial ?_ rfl
 simp only [Tryz.ntmps173, List.size_toArray, List.length_cons, List.length_nil, Nat.reduceAdd, Nat.reduceSub, Array.replicate_succ, Array.replicate_zero, List.push_toArray, List.append_toArray, List.nil_append, List.cons_append]
 gi_wp2_with (refine ⟨trivial, ?_⟩; gi_at_call 164; refine (marks_in _ _ _).mono ?_; rintro e w' ⟨rfl, rfl⟩)
 ·rename_i h
  have e : bs s = bs t := by
   have := eq_of_beq h
   rw [ByteArray.toList_eq, ByteArray.toList_eq] at this; exact this
  refine ⟨.int .i64 0, by simp [results, Tryz.f173, go_sem], ?_, ?_⟩
  ·unfold cmpPre; rw [if_pos e]
  ·exact (Below.refl _ _).alloc (Nat.le_refl _) _
 ·rename_i h h2
  have e : ¬ bs s = bs t := by
   intro e; rw [ByteArray.toList_eq, ByteArray.toList_eq, show s.data.toList = t.data.toList from e, beq_self_eq_true] at h; cases h
  have e2 : bs s = [] := by rw [ByteArray.toList_eq, List.isEmpty_iff] at h2; exact h2
  refine ⟨.int .i64 1, by simp [results, Tryz.f173, go_sem], ?_, ?_⟩
  ·unfold cmpPre; rw [if_neg e, if_pos e2]
  ·exact (Below.refl _ _).alloc (Nat.le_refl _) _
 ·rename_i h h2 h3
  have e : ¬ bs s = bs t := by
   intro e; rw [ByteArray.toList_eq, ByteArray.toList_eq, show s.data.toList = t.data.toList from e, beq_self_eq_true] at h; cases h
  have e2 : ¬ bs s = [] := by intro e2; rw [ByteArray.toList_eq, show s.data.toList = [] from e2] at h2; cases h2
  have e3 : bs t = [] := by rw [ByteArray.toList_eq, List.isEmpty_iff] at h3; exact h3
  refine ⟨.int .i64 (-1), by simp [results, Tryz.f173, go_sem], ?_, ?_⟩
  ·unfold cmpPre; rw [if_neg e, if_neg e2, if_pos e3]
  ·exact (Below.refl _ _).alloc (Nat.le_refl _) _
 ·rename_i h h2 h3 K0 hK0
  have e : ¬ bs s = bs t := by
   intro e; rw [ByteArray.toList_eq, ByteArray.toList_eq, show s.data.toList = t.data.toList from e, beq_self_eq_true] at h; cases h
  have e2 : ¬ bs s = [] := by intro e2; rw [ByteArray.toList_eq, show s.data.toList = [] from e2] at h2; cases h2
  have e3 : ¬ bs t = [] := by intro e2; rw [ByteArray.toList_eq, show t.data.toList = [] from e2] at h3; cases h3
  have HC : Hid (cmpPre (bs s) (bs t) = rowC cmpMarks (pieces 46 (bs s)) (pieces 46 (bs t))) := Lib.hid (by unfold cmpPre; rw [if_neg e, if_neg e2, if_neg e3])
  have HNE := Lib.hid e
  clear h h2 h3 e e2 e3
  have hzt : (bs t).length = t.size := (Lib.size_eq t).symm
  obtain ⟨W0, hW0⟩ : ∃ W0, (((w.alloc (.cells #[.int .i64 0] 3)).alloc (.cells #[.string t] 9)).alloc (.cells #[.bool true] 4)).alloc (.cells #[.string s] 9) = W0 := ⟨_, rfl⟩
  have hz0 : W0.heap.size = w.heap.size + 4 := by rw [← hW0]; simp
  have c0 := cell_new1 w (.int .i64 0) 3
  have c1 := cell_new1 (w.alloc (.cells #[.int .i64 0] 3)) (.string t) 9
  have c2 := cell_new1 ((w.alloc (.cells #[.int .i64 0] 3)).alloc (.cells #[.string t] 9)) (.bool true) 4
  have c3 := cell_new1 (((w.alloc (.cells #[.int .i64 0] 3)).alloc (.cells #[.string t] 9)).alloc (.cells #[.bool true] 4)) (.string s) 9
  simp only [World.size_alloc] at c1 c2 c3
  have d0 : W0.cell? ⟨w.heap.size, 0, none⟩ = some (.int .i64 0) ∧ W0.frozen? ⟨w.heap.size, 0, none⟩ = false := by rw [← hW0]; exact ⟨cell_al _ (cell_al _ (cell_al _ c0.1)), frozen_al _ (cell_al _ (cell_al _ c0.1)) (frozen_al _ (cell_al _ c0.1) (frozen_al _ c0.1 c0.2))⟩
  have d1 : W0.cell? ⟨w.heap.size + 1, 0, none⟩ = some (.string t) ∧ W0.frozen? ⟨w.heap.size + 1, 0, none⟩ = false := by rw [← hW0]; exact ⟨cell_al _ (cell_al _ c1.1), frozen_al _ (cell_al _ c1.1) (frozen_al _ c1.1 c1.2)⟩
  have d2 : W0.cell? ⟨w.heap.size + 1 + 1, 0, none⟩ = some (.bool true) ∧ W0.frozen? ⟨w.heap.size + 1 + 1, 0, none⟩ = false := by rw [← hW0]; exact ⟨cell_al _ c2.1, frozen_al _ c2.1 c2.2⟩
  have d3 : W0.cell? ⟨w.heap.size + 1 + 1 + 1, 0, none⟩ = some (.string s) := by rw [← hW0]; exact c3.1
  have hB0 : Below w.heap.size w W0 := by rw [← hW0]; exact ((((Below.refl _ w).alloc (Nat.le_refl _) _).alloc (by simp) _).alloc (by simp; omega) _).alloc (by simp; omega) _
  rw [hW0]
  clear hW0 c0 c1 c2 c3
  have hm0 : LenAt W0 := by
   obtain ⟨m, hm⟩ := hm
   exact ⟨m, (hB0.cell (show 1 < _ from h1)).trans hm⟩
  refine wpIn_rangeFunc_ownF rfl (by omega) (gf := 168) (lb := #[.pointer (some ⟨w.heap.size + 1 + 1 + 1, 0, none⟩)]) rfl trivial (enters_of Tryz.func168 (by kernel_rfl) rfl)
   (marks_stops 3 (by omega) (w.heap.size + 1 + 1 + 1) w.heap.size s hs W0 h1 (by omega) d3 hm0 (by omega)) belowK_t (belowK_b (by omega)) (Below.refl _ _) (fun _ => rfl)
   (fun pre W => (∃ (r : Str) (more : Bool), (pieces 46 (bs t) = strs pre ++ (if more then pieces 46 r else []) ∧ r.length < 4294967281) ∧
     (W.cell? ⟨w.heap.size, 0, none⟩ = some (.int .i64 0) ∧ W.frozen? ⟨w.heap.size, 0, none⟩ = false) ∧ (W.cell? ⟨w.heap.size + 1, 0, none⟩ = some (.string (mk r)) ∧ W.frozen? ⟨w.heap.size + 1, 0, none⟩ = false) ∧ (W.cell? ⟨w.heap.size + 1 + 1, 0, none⟩ = some (.bool more) ∧ W.frozen? ⟨w.heap.size + 1 + 1, 0, none⟩ = false)) ∧ Below w.heap.size w W)
   (fun c pre W => (∃ v : Int, (c = .ret ∧ ∀ l, strs pre <+: l → rowC cmpMarks l (pieces 46 (bs t)) = v) ∧ W.cell? ⟨w.heap.size, 0, none⟩ = some (.int .i64 v)) ∧ Below w.heap.size w W)
   (OwnFrom.and (Own.from (fun s A B row hs hg hr => by
    obtain ⟨r, more, h0, ⟨a1, a2⟩, ⟨b1, b2⟩, c1, c2⟩ := hs
    exact ⟨r, more, h0, ⟨cell_kept a1 hg hr, (frozen_kept a1 hg hr).trans a2⟩, ⟨cell_kept b1 hg hr, (frozen_kept b1 hg hr).trans b2⟩, cell_kept c1 hg hr, (frozen_kept c1 hg hr).trans c2⟩) _) (ownFrom_below (Nat.le_refl _) (by omega)))
   (fun c => OwnFrom.and (Own.from (fun s A B row hs hg hr => by
    obtain ⟨v, h0, a1⟩ := hs
    exact ⟨v, h0, cell_kept a1 hg hr⟩) _) (ownFrom_below (Nat.le_refl _) (by omega)))
   ⟨⟨bs t, true, ⟨rfl, by rw [hzt]; exact ht⟩, d0, d1, d2⟩, hB0⟩
   (fun x => { tmps := #[.string s, .string t, undef, undef, .pointer (some ⟨w.heap.size, 0, none⟩), .pointer (some ⟨w.heap.size + 1, 0, none⟩), .pointer (some ⟨w.heap.size + 1 + 1, 0, none⟩), .string (mk x.1), undef, undef, .bool false, .string s, .string t, .bool false, .bool false, .string s, .bool false, .bool false, .string t, .bool false, .string t, .string s, .func (.func 168) #[] #[.pointer (some ⟨w.heap.size + 1 + 1 + 1, 0, none⟩)], .string (mk x.1), undef, undef, undef, undef, undef, undef, undef, undef, undef, undef, undef, undef, undef, undef], defers := [] }) ?assign ?body ?done ?stop
  case assign =>
   intro l x W K hK
   gi_wp2
   exact hK
  case body =>
   rintro l pre x W ⟨⟨r, more, ⟨hp, hrl⟩, ⟨a1, a2⟩, ⟨b1, b2⟩, c1, c2⟩, hB⟩ hlen
   have hx := x.2
   have hxs := mk_size x.1
   have HP := Lib.hid hp
   have hmW : LenAt W := by
    obtain ⟨m, hm⟩ := hm
    exact ⟨m, (hB.cell (show 1 < _ from h1)).trans hm⟩
   clear hp
   cases more with
   | false =>
    have HV : Hid (∀ l, strs (pre ++ [x]) <+: l → rowC cmpMarks l (pieces 46 (bs t)) = 1) := Lib.hid (by
     rintro l ⟨q, rfl⟩
     rw [HP.out, strs_snoc]
     simp only [Bool.false_eq_true, if_false, List.append_nil, List.append_assoc, List.cons_append, List.nil_append]
     exact row_longer _ _ _)
    gi_wp2
    exact ⟨KeepsOthers.setCell _ _ _, ⟨1, ⟨rfl, HV.out⟩, World.cell?_setCell_same' _ _ _ (by rw [a1]; rfl)⟩, hB.setCell (p := ⟨w.heap.size, 0, none⟩) (Nat.le_refl _) _⟩
   | true =>
    obtain ⟨m, hmw⟩ := hmW
    have hrs := mk_size r
    obtain ⟨o, r', more', hcut, hpp, hol, hrl'⟩ := cut_next r hrl
    have HCUT := Lib.hid (Tryz.strings_Cut (mk r) ⟨#[46]⟩ m W (by omega) hmw)
    have HP2 : Hid (pieces 46 (bs t) = strs pre ++ o :: (if more' then pieces 46 r' else [])) := Lib.hid (by rw [HP.out, ← hpp]; rfl)
    have HCT : Hid (Lib.cut (mk r).data.toList [46] = (o, r', more')) := Lib.hid hcut
    clear HP hcut hpp
    gi_wp2_with fail
    refine ⟨trivial, ?_⟩
    gi_at_call 169
    refine (CallsIn.inRound l (callsIn_wide.2 HCUT.out)).mono ?_
    rintro e w1 ⟨rfl, k, rfl⟩
    rw [HCT.out]
    clear HCUT
    have HK1 : Hid (KeepsOthers W (W.drewN k)) := Lib.hid (below_others ⟨rfl, rfl, rfl, Nat.le_refl _, fun _ _ => rfl⟩)
    have HB1 : Hid (Below w.heap.size W (W.drewN k)) := Lib.hid ⟨rfl, rfl, rfl, Nat.le_refl _, fun _ _ => rfl⟩
    obtain ⟨W1, hW1⟩ : ∃ W1, W.drewN k = W1 := ⟨_, rfl⟩
    have a1' : W1.cell? ⟨w.heap.size, 0, none⟩ = some (.int .i64 0) := by rw [← hW1]; exact a1
    have a2' : W1.frozen? ⟨w.heap.size, 0, none⟩ = false := by rw [← hW1]; exact a2
    have b1' : W1.cell? ⟨w.heap.size + 1, 0, none⟩ = some (.string (mk r)) := by rw [← hW1]; exact b1
    have b2' : W1.frozen? ⟨w.heap.size + 1, 0, none⟩ = false := by rw [← hW1]; exact b2
    have c1' : W1.cell? ⟨w.heap.size + 1 + 1, 0, none⟩ = some (.bool true) := by rw [← hW1]; exact c1
    have c2' : W1.frozen? ⟨w.heap.size + 1 + 1, 0, none⟩ = false := by rw [← hW1]; exact c2
    have hz1 : W.heap.size = W1.heap.size := by rw [← hW1]; rfl
    rw [hW1] at HK1 HB1 ⊢
    clear hW1 a1 a2 b1 b2 c1 c2
    have hos := mk_size o
    gi_wp2_with fail
    refine ⟨trivial, ?_⟩
    gi_at_call 176
    refine (CallsIn.inRound l (callsIn_wide.2 (compareMarks_any (mk x.1) (mk o) _ (by rw [hxs]; omega) (by rw [hos]; omega)))).mono ?_
    rintro e W3 ⟨rfl, h3⟩
    have e0 : ((W1.setCell ⟨w.heap.size + 1, 0, none⟩ (.string (mk r'))).setCell ⟨w.heap.size + 1 + 1, 0, none⟩ (.bool more')).cell? ⟨w.heap.size, 0, none⟩ = some (.int .i64 0) :=
     (World.cell?_setCell_other _ _ _ _ (by simp)).trans ((World.cell?_setCell_other _ _ _ _ (by simp)).trans a1')
    have e1 : ((W1.setCell ⟨w.heap.size + 1, 0, none⟩ (.string (mk r'))).setCell ⟨w.heap.size + 1 + 1, 0, none⟩ (.bool more')).cell? ⟨w.heap.size + 1, 0, none⟩ = some (.string (mk r')) :=
     (World.cell?_setCell_other _ _ _ _ (by simp)).trans (World.cell?_setCell_same' _ _ _ (by rw [b1']; rfl))
    have e2 : ((W1.setCell ⟨w.heap.size + 1, 0, none⟩ (.string (mk r'))).setCell ⟨w.heap.size + 1 + 1, 0, none⟩ (.bool more')).cell? ⟨w.heap.size + 1 + 1, 0, none⟩ = some (.bool more') :=
     World.cell?_setCell_same' _ _ _ (by rw [World.cell?_setCell_other _ _ _ _ (by simp), c1']; rfl)
    have f0 : ((W1.setCell ⟨w.heap.size + 1, 0, none⟩ (.string (mk r'))).setCell ⟨w.heap.size + 1 + 1, 0, none⟩ (.bool more')).frozen? ⟨w.heap.size, 0, none⟩ = false := by rw [World.frozen?_setCell, World.frozen?_setCell]; exact a2'
    have f1 : ((W1.setCell ⟨w.heap.size + 1, 0, none⟩ (.string (mk r'))).setCell ⟨w.heap.size + 1 + 1, 0, none⟩ (.bool more')).frozen? ⟨w.heap.size + 1, 0, none⟩ = false := by rw [World.frozen?_setCell, World.frozen?_setCell]; exact b2'
    have f2 : ((W1.setCell ⟨w.heap.size + 1, 0, none⟩ (.string (mk r'))).setCell ⟨w.heap.size + 1 + 1, 0, none⟩ (.bool more')).frozen? ⟨w.heap.size + 1 + 1, 0, none⟩ = false := by rw [World.frozen?_setCell, World.frozen?_setCell]; exact c2'
    have HK2 : Hid (KeepsOthers W ((W1.setCell ⟨w.heap.size + 1, 0, none⟩ (.string (mk r'))).setCell ⟨w.heap.size + 1 + 1, 0, none⟩ (.bool more'))) := Lib.hid (HK1.out.trans ((KeepsOthers.setCell _ _ _).trans (KeepsOthers.setCell _ _ _)))
    have HB2 : Hid (Below w.heap.size W ((W1.setCell ⟨w.heap.size + 1, 0, none⟩ (.string (mk r'))).setCell ⟨w.heap.size + 1 + 1, 0, none⟩ (.bool more'))) := Lib.hid ((HB1.out.setCell (p := ⟨w.heap.size + 1, 0, none⟩) (by simp) _).setCell (p := ⟨w.heap.size + 1 + 1, 0, none⟩) (by simp; omega) _)
    have hz2 : ((W1.setCell ⟨w.heap.size + 1, 0, none⟩ (.string (mk r'))).setCell ⟨w.heap.size + 1 + 1, 0, none⟩ (.bool more')).heap.size = W1.heap.size := by simp
    generalize (W1.setCell ⟨w.heap.size + 1, 0, none⟩ (.string (mk r'))).setCell ⟨w.heap.size + 1 + 1, 0, none⟩ (.bool more') = W2 at h3 e0 e1 e2 f0 f1 f2 HK2 HB2 hz2
    clear a1' a2' b1' b2' c1' c2'
    have hsz1 : w.heap.size ≤ W.heap.size := hB.size
    have l0 : w.heap.size < W2.heap.size ∧ w.heap.size + 1 < W2.heap.size ∧ w.heap.size + 1 + 1 < W2.heap.size := ⟨cell_lt e0, cell_lt e1, cell_lt e2⟩
    have g0 := (h3.cell (p := ⟨w.heap.size, 0, none⟩) l0.1).trans e0
    have g1 := (h3.cell (p := ⟨w.heap.size + 1, 0, none⟩) l0.2.1).trans e1
    have g2 := (h3.cell (p := ⟨w.heap.size + 1 + 1, 0, none⟩) l0.2.2).trans e2
    have k0 := (h3.frozen (p := ⟨w.heap.size, 0, none⟩) l0.1).trans f0
    have k1 := (h3.frozen (p := ⟨w.heap.size + 1, 0, none⟩) l0.2.1).trans f1
    have k2 := (h3.frozen (p := ⟨w.heap.size + 1 + 1, 0, none⟩) l0.2.2).trans f2
    have HK3 : Hid (KeepsOthers W W3) := Lib.hid (HK2.out.trans (below_others h3))
    have HB3 : Hid (Below w.heap.size W W3) := Lib.hid (HB2.out.trans (h3.mono (by omega)))
    clear h3 e0 e1 e2 f0 f1 f2 HK1 HK2 HB1 HB2
    by_cases hc : cmpMarks x.1 o = 0
    ·have hxo : x.1 = o := (cmpMarks_tot.eq _ _).1 hc
     have HPX : Hid (pieces 46 (bs t) = strs (pre ++ [x]) ++ (if more' then pieces 46 r' else [])) := Lib.hid (by rw [HP2.out, strs_snoc, hxo]; simp)
     rw [show cmpMarks (bs (mk x.1)) (bs (mk o)) = 0 from hc]
     clear hxo hc
     gi_wp2
     exact ⟨HK3.out, HB3.out, ⟨r', more', ⟨HPX.out, hrl'⟩, ⟨g0, k0⟩, ⟨g1, k1⟩, g2, k2⟩, hB.trans HB3.out⟩
    ·have hcb : (cmpMarks x.1 o != 0) = true := by rw [bne_iff_ne]; exact hc
     have HV : Hid (∀ l, strs (pre ++ [x]) <+: l → rowC cmpMarks l (pieces 46 (bs t)) = cmpMarks x.1 o) := Lib.hid (by
      rintro l ⟨q, rfl⟩
      rw [HP2.out, strs_snoc]
      simp only [List.append_assoc, List.cons_append, List.nil_append]
      exact row_at _ _ _ _ _ hc)
     rw [show cmpMarks (bs (mk x.1)) (bs (mk o)) = cmpMarks x.1 o from rfl]
     generalize cmpMarks x.1 o = c at hcb HV hc
     clear hc
     gi_wp2
     exact ⟨HK3.out.trans (KeepsOthers.setCell _ _ _), ⟨c, ⟨rfl, HV.out⟩, World.cell?_setCell_same' _ _ _ (by rw [g0]; rfl)⟩, (hB.trans HB3.out).setCell (p := ⟨w.heap.size, 0, none⟩) (Nat.le_refl _) _⟩
  case done =>
   rintro D ys W hD hys ⟨⟨r, more, ⟨hp, hrl⟩, ⟨a1, a2⟩, _, _⟩, hB⟩ hK
   have HR : Hid (cmpPre (bs s) (bs t) = -1) := Lib.hid (by
    rw [HC.out, ← hys, hp]
    cases more with
    | true =>
     cases hq : pieces 46 r with
     | nil => exact absurd hq (pieces_ne 46 r)
     | cons y q => exact row_shorter _ _ _
    | false =>
     exfalso
     apply HNE.out
     apply pieces_inj 46
     rw [hp, ← hys]; simp)
   clear hp
   gi_wp2
   have hK' := (KeepsOthers.setCell W ⟨w.heap.size, 0, none⟩ (.int .i64 (-1))).same D _ hK rfl
   refine ⟨by simp, .inl ⟨_, _, rfl, run_takeDeferred hK', ?_⟩⟩
   have hc5 := cell_kept (World.cell?_setCell_same' W ⟨w.heap.size, 0, none⟩ (.int .i64 (-1)) (by rw [a1]; rfl)) (grownBy_putObj' _ D (.deferred none)) (fun r e => by cases e; exact ⟨_, hK', rfl⟩)
   refine ⟨.int .i64 (-1), ?_, by rw [HR.out], (hB.setCell (p := ⟨w.heap.size, 0, none⟩) (Nat.le_refl _) _).trans (belowK_b (w := w) (Nat.le_refl _) _ D _ _ (by omega) hK' rfl rfl)⟩
   simp [results, Tryz.f173, go_sem, hc5]
  case stop =>
   rintro D c pre W hD hpre ⟨⟨v, ⟨rfl, hv⟩, hcr⟩, hB⟩ hK
   have HV := Lib.hid (hv _ hpre)
   clear hv
   gi_wp2
   refine ⟨by simp, .inl ⟨_, _, rfl, run_takeDeferred hK, ?_⟩⟩
   have hc5 := cell_kept hcr (grownBy_putObj' _ D (.deferred none)) (fun r e => by cases e; exact ⟨_, hK, rfl⟩)
   refine ⟨.int .i64 v, ?_, by rw [HC.out, HV.out], hB.trans (belowK_b (w := w) (Nat.le_refl _) W D _ _ (by omega) hK rfl rfl)⟩
   simp [results, Tryz.f173, go_sem, hc5]
end Go.Proofs.YtminihiecloglaaGreat
namespace Go.Proofs.YtminihiecloglaaGreat
open Go.RowKit
open SemP
set_option maxRecDepth 100000
abbrev verV (a b c : Int) (s : ByteArray) : Value := .agg #[.int .i64 a, .int .i64 b, .int .i64 c, .string s]
abbrev verC (a b c : Int) (s : ByteArray) : Obj := .cells #[.int .i64 a, .int .i64 b, .int .i64 c, .string s] 83
theorem cells4 {w : World} {g : Nat} {x y z u : Value} {T : TypeId} (h : w.heap[g]? = some (.cells #[x, y, z, u] T (0, 0))) : w.cell? ⟨g, 0, none⟩ = some x ∧ w.cell? ⟨g, 1, none⟩ = some y ∧ w.cell? ⟨g, 2, none⟩ = some z ∧ w.cell? ⟨g, 3, none⟩ = some u :=
 ⟨by simp only [World.cell?, h]; rfl, by simp only [World.cell?, h]; rfl, by simp only [World.cell?, h]; rfl, by simp only [World.cell?, h]; rfl⟩
set_option maxHeartbeats 4000000 in
theorem Compare_any (a b c : Int) (s : ByteArray) (a' b' c' : Int) (t : ByteArray) (w : World) (hs : s.size < 4294967281) (ht : t.size < 4294967281) (hm : LenAt w) (h1 : 1 < w.heap.size) :
  Calls Tryz.prog 166 #[verV a b c s, verV a' b' c' t] w fun e w' => e = .returned (.int .i64 (cmpV ⟨a, b, c, bs s⟩ ⟨a', b', c', bs t⟩)) ∧ Below w.heap.size w w' := by
 have hb0 : Below w.heap.size w ((w.alloc (verC a b c s)).alloc (verC a' b' c' t)) := ((Below.refl _ w).alloc (Nat.le_refl _) _).alloc (by simp) _
 have hA : ((w.alloc (verC a b c s)).alloc (verC a' b' c' t)).heap[w.heap.size]? = some (verC a b c s) := by
  rw [Below.heap_alloc _ _ _ (by simp)]; exact World.alloc_heap_new _ _
 have hB : ((w.alloc (verC a b c s)).alloc (verC a' b' c' t)).heap[w.heap.size + 1]? = some (verC a' b' c' t) := by
  have := World.alloc_heap_new (w.alloc (verC a b c s)) (verC a' b' c' t)
  rw [World.size_alloc] at this; exact this
 obtain ⟨x0, x1, x2, x3⟩ := cells4 hA
 obtain ⟨y0, y1, y2, y3⟩ := cells4 hB
 have HB0 := Lib.hid hb0
 have hm1 : LenAt ((w.alloc (verC a b c s)).alloc (verC a' b' c' t)) := by
  obtain ⟨m, hm⟩ := hm
  exact ⟨m, (hb0.cell (show 1 < _ from h1)).trans hm⟩
 have HM := Lib.hid hm1
 clear hA hB hb0 hm1 hm
 go_enter Tryz.func166, Tryz.ntmps166
 go_wp2_with fail
 have hz0 : ((w.alloc (verC a b c s)).alloc (verC a' b' c' t)).heap.size = w.heap.size + 2 := by simp
 generalize hW0 : (w.alloc (verC a b c s)).alloc (verC a' b' c' t) = W0 at x0 x1 x2 x3 y0 y1 y2 y3 HB0 HM hz0
 try rw [show ((w.alloc (.cells #[.int .i64 a, .int .i64 b, .int .i64 c, .string s] 83)).alloc (.cells #[.int .i64 a', .int .i64 b', .int .i64 c', .string t] 83)) = W0 from hW0]
 clear hW0
 refine wp_region_still_tail 19 (by kernel_rfl) (by kernel_rfl) ?_
 simp only [List.take_succ_cons, List.take_zero, List.drop_succ_cons, List.drop_zero]
 repeat still_step
 still_call (Tryz.cmp_Compare_int a a' _)
 repeat still_step
 still_call (Tryz.cmp_Compare_int b b' _)
 repeat still_step
 still_call (Tryz.cmp_Compare_int c c' _)
 repeat still_step
 try refine wpStill_nil ?_
 obtain ⟨W1, HW1⟩ : ∃ W1, Hid (W1 = W0.drewN 1) := ⟨_, Lib.hid rfl⟩
 have e1 : ({ heap := W0.heap, tape := W0.tape, drawn := W0.drawn + 1, os := W0.os, output := W0.output } : World) = W1 := HW1.out.symm
 rw [e1]
 have HB1 : Hid (Below w.heap.size w W1) := Lib.hid (HB0.out.trans (by rw [HW1.out]; exact ⟨rfl, rfl, rfl, Nat.le_refl _, fun _ _ => rfl⟩))
 have hz1 : W1.heap.size = w.heap.size + 2 := by rw [HW1.out]; exact hz0
 have HCP := Lib.hid (comparePres_any s t W1 hs ht (by rw [HW1.out]; exact HM.out) (by omega))
 clear e1 x0 x1 x2 x3 y0 y1 y2 y3 HW1 HM HB0
 go_wp2_with fail
 refine HCP.out.mono ?_
 rintro e W2 ⟨rfl, h2⟩
 have HB2 : Hid (Below w.heap.size w W2) := Lib.hid (HB1.out.trans (h2.mono (by omega)))
 clear h2 HCP HB1
 have hb := World.alloc_heap_new W2 (.cells #[.int .i64 (Lib.compareInt a a'), .int .i64 (Lib.compareInt b b'), .int .i64 (Lib.compareInt c c'), .int .i64 (cmpPre (bs s) (bs t))] 3)
 obtain ⟨c0, c1, c2, c3⟩ := cells4 hb
 have HOR := Lib.hid (or4_any c0 c1 c2 c3)
 clear hb c0 c1 c2 c3
 go_wp2_with fail
 refine HOR.out.mono ?_
 rintro e W3 ⟨rfl, rfl⟩
 go_wp2
 go_ret
 exact ⟨rfl, HB2.out.alloc (by have := HB2.out.size; omega) _⟩
end Go.Proofs.YtminihiecloglaaGreat
namespace Go.Proofs.YtminihiecloglaaGreat
open Go.RowKit
open SemP
set_option maxRecDepth 100000
theorem rightNumber_any (n : Int) (w : World) : Calls Tryz.prog 156 #[.int .i64 n] w fun e w' => e = .returned (.bool (rightN n)) ∧ w' = w := by
 have HR := Lib.hid (show rightN n = (decide (0 ≤ n) && decide (n ≤ 999999)) from rfl)
 go_enter Tryz.func156, Tryz.ntmps156
 go_wp2
 all_goals (refine bodyPost_ret (results_tmp rfl _ _ _) rfl ⟨?_, rfl⟩)
 all_goals (rw [HR.out])
 all_goals (first | rfl | (rename_i h; simp; omega) | (simp [*]; done))
set_option maxHeartbeats 4000000 in
theorem Right_any (a b c : Int) (s : ByteArray) (w : World) (hs : s.size < 4294967281) (hm : LenAt w) (h1 : 1 < w.heap.size) :
  Calls Tryz.prog 150 #[verV a b c s] w fun e w' => e = .returned (.bool (Ver.right ⟨a, b, c, bs s⟩)) ∧ Below w.heap.size w w' := by
 have hb0 : Below w.heap.size w (w.alloc (verC a b c s)) := (Below.refl _ w).alloc (Nat.le_refl _) _
 obtain ⟨x0, x1, x2, x3⟩ := cells4 (World.alloc_heap_new w (verC a b c s))
 have hm1 : LenAt (w.alloc (verC a b c s)) := by
  obtain ⟨m, hm⟩ := hm
  exact ⟨m, (hb0.cell (show 1 < _ from h1)).trans hm⟩
 have HRP := Lib.hid (rightPre_any s (w.alloc (verC a b c s)) hs hm1 (by simp; omega))
 have HB0 := Lib.hid hb0
 have HR := Lib.hid (show Ver.right ⟨a, b, c, bs s⟩ = (rightN a && rightN b && rightN c && ((bs s).isEmpty || rightPre (bs s))) from rfl)
 have HSE := Lib.hid (show s.toList.isEmpty = (bs s).isEmpty by rw [ByteArray.toList_eq])
 cases ha : rightN a with
 | false =>
  have HA := Lib.hid ha
  clear ha hb0 hm hm1
  go_enter Tryz.func150, Tryz.ntmps150
  go_wp2_with fail
  refine (rightNumber_any a _).mono ?_
  rintro e w' ⟨rfl, rfl⟩
  rw [HA.out]
  go_wp2
  refine bodyPost_ret (results_tmp rfl _ _ _) rfl ⟨?_, HB0.out⟩
  rw [HR.out, HA.out]; rfl
 | true =>
  have HA := Lib.hid ha
  cases hbb : rightN b with
  | false =>
   have HBB := Lib.hid hbb
   clear ha hbb hb0 hm hm1
   go_enter Tryz.func150, Tryz.ntmps150
   go_wp2_with fail
   refine (rightNumber_any a _).mono ?_
   rintro e w' ⟨rfl, rfl⟩
   rw [HA.out]
   go_wp2_with fail
   refine (rightNumber_any b _).mono ?_
   rintro e w' ⟨rfl, rfl⟩
   rw [HBB.out]
   go_wp2
   refine bodyPost_ret (results_tmp rfl _ _ _) rfl ⟨?_, HB0.out⟩
   rw [HR.out, HA.out, HBB.out]; rfl
  | true =>
   have HBB := Lib.hid hbb
   cases hcc : rightN c with
   | false =>
    have HCC := Lib.hid hcc
    clear ha hbb hcc hb0 hm hm1
    go_enter Tryz.func150, Tryz.ntmps150
    go_wp2_with fail
    refine (rightNumber_any a _).mono ?_
    rintro e w' ⟨rfl, rfl⟩
    rw [HA.out]
    go_wp2_with fail
    refine (rightNumber_any b _).mono ?_
    rintro e w' ⟨rfl, rfl⟩
    rw [HBB.out]
    go_wp2_with fail
    refine (rightNumber_any c _).mono ?_
    rintro e w' ⟨rfl, rfl⟩
    rw [HCC.out]
    go_wp2
    refine bodyPost_ret (results_tmp rfl _ _ _) rfl ⟨?_, HB0.out⟩
    rw [HR.out, HA.out, HBB.out, HCC.out]; rfl
   | true =>
    have HCC := Lib.hid hcc
    cases hee : (bs s).isEmpty with
    | true =>
     have hse : s.toList.isEmpty = true := by rw [HSE.out]; exact hee
     have HEE := Lib.hid hee
     clear ha hbb hcc hee hb0 hm hm1
     go_enter Tryz.func150, Tryz.ntmps150
     go_wp2_with fail
     refine (rightNumber_any a _).mono ?_
     rintro e w' ⟨rfl, rfl⟩
     rw [HA.out]
     go_wp2_with fail
     refine (rightNumber_any b _).mono ?_
     rintro e w' ⟨rfl, rfl⟩
     rw [HBB.out]
     go_wp2_with fail
     refine (rightNumber_any c _).mono ?_
     rintro e w' ⟨rfl, rfl⟩
     rw [HCC.out]
     go_wp2
     refine bodyPost_ret (results_tmp rfl _ _ _) rfl ⟨?_, HB0.out⟩
     rw [HR.out, HA.out, HBB.out, HCC.out, HEE.out]; rfl
    | false =>
     have hse : s.toList.isEmpty = false := by rw [HSE.out]; exact hee
     have HEE := Lib.hid hee
     clear ha hbb hcc hee hb0 hm hm1
     go_enter Tryz.func150, Tryz.ntmps150
     go_wp2_with fail
     refine (rightNumber_any a _).mono ?_
     rintro e w' ⟨rfl, rfl⟩
     rw [HA.out]
     go_wp2_with fail
     refine (rightNumber_any b _).mono ?_
     rintro e w' ⟨rfl, rfl⟩
     rw [HBB.out]
     go_wp2_with fail
     refine (rightNumber_any c _).mono ?_
     rintro e w' ⟨rfl, rfl⟩
     rw [HCC.out]
     go_wp2_with fail
     refine HRP.out.mono ?_
     rintro e W2 ⟨rfl, h2⟩
     have HB2 := Lib.hid (HB0.out.trans (h2.mono (by simp)))
     clear h2 HRP
     go_wp2
     refine bodyPost_ret (results_tmp rfl _ _ _) rfl ⟨?_, HB2.out⟩
     rw [HR.out, HA.out, HBB.out, HCC.out, HEE.out]; rfl
end Go.Proofs.YtminihiecloglaaGreat
namespace Go.Proofs.YtminihiecloglaaGreat
open Go.RowKit
open SemP
set_option maxRecDepth 100000
structure PAt (w W : World) : Prop where
 bel : Below w.heap.size w W
 len : LenAt W
 row : W.heap[w.heap.size]? = some (verC 0 0 0 ⟨#[]⟩)
theorem PAt.start {w : World} (hm : LenAt w) (h1 : 1 < w.heap.size) : PAt w (w.alloc (verC 0 0 0 ⟨#[]⟩)) := by
 have hb : Below w.heap.size w (w.alloc (verC 0 0 0 ⟨#[]⟩)) := (Below.refl _ w).alloc (Nat.le_refl _) _
 obtain ⟨m, hm⟩ := hm
 exact ⟨hb, ⟨m, (hb.cell (show 1 < _ from h1)).trans hm⟩, World.alloc_heap_new _ _⟩
theorem PAt.lt {w W : World} (h : PAt w W) : w.heap.size < W.heap.size := by
 rcases Nat.lt_or_ge w.heap.size W.heap.size with hlt | hge
 ·exact hlt
 ·have := h.row; rw [Array.getElem?_eq_none hge] at this; cases this
theorem PAt.next {w W W' : World} (h : PAt w W) (h1 : 1 < w.heap.size) (hb : Below W.heap.size W W') : PAt w W' := by
 have hlt := h.lt
 obtain ⟨m, hm⟩ := h.len
 exact ⟨h.bel.trans (hb.mono (by omega)), ⟨m, (hb.cell (show 1 < _ by omega)).trans hm⟩, (hb.block _ hlt).trans h.row⟩
theorem PAt.drew {w W : World} (h : PAt w W) (h1 : 1 < w.heap.size) (k : Nat) : PAt w (W.drewN k) := h.next h1 ⟨rfl, rfl, rfl, Nat.le_refl _, fun _ _ => rfl⟩
theorem froz4 {w : World} {g : Nat} {x y z u : Value} {T : TypeId} (h : w.heap[g]? = some (.cells #[x, y, z, u] T (0, 0))) : w.frozen? ⟨g, 0, none⟩ = false ∧ w.frozen? ⟨g, 1, none⟩ = false ∧ w.frozen? ⟨g, 2, none⟩ = false ∧ w.frozen? ⟨g, 3, none⟩ = false :=
 ⟨by simp only [World.frozen?, h]; rfl, by simp only [World.frozen?, h]; rfl, by simp only [World.frozen?, h]; rfl, by simp only [World.frozen?, h]; rfl⟩
end Go.Proofs.YtminihiecloglaaGreat
namespace Go.Proofs.YtminihiecloglaaGreat
open Go.RowKit
open SemP
set_option maxRecDepth 100000
theorem LenAt.below {w w' : World} (h : LenAt w) (h1 : 1 < w.heap.size) (hb : Below w.heap.size w w') : LenAt w' ∧ 1 < w'.heap.size := by
 obtain ⟨m, hm⟩ := h
 exact ⟨⟨m, (hb.cell (show 1 < _ from h1)).trans hm⟩, by have := hb.size; omega⟩
end Go.Proofs.YtminihiecloglaaGreat
namespace Go.Proofs.YtminihiecloglaaGreat
open Go.RowKit
open SemP
set_option maxRecDepth 100000
def Ver.val (v : Ver) : Value := verV v.major v.minor v.patch (mk v.pre)
set_option maxHeartbeats 4000000 in
theorem above_any (a b c : Int) (s : ByteArray) (part : Int) (w : World) (ha : 0 ≤ a ∧ a ≤ 999999) (hb : 0 ≤ b ∧ b ≤ 999999) (hc : 0 ≤ c ∧ c ≤ 999999) :
  Calls Tryz.prog 177 #[verV a b c s, .int .i64 part] w fun e w' => e = .returned (Ver.val (Ver.bump ⟨a, b, c, bs s⟩ part)) ∧ Below w.heap.size w w' := by
 have e1 : IntKind.i64.wrap (a + 1) = a + 1 := IntWalk.i64_in _ (by omega)
 have e2 : IntKind.i64.wrap (b + 1) = b + 1 := IntWalk.i64_in _ (by omega)
 have e3 : IntKind.i64.wrap (c + 1) = c + 1 := IntWalk.i64_in _ (by omega)
 have HSE := Lib.hid (show s.toList.isEmpty = (bs s).isEmpty by rw [ByteArray.toList_eq])
 have fin : ∀ (x y z : Int) (u : ByteArray), Below w.heap.size w ((w.alloc (verC a b c s)).alloc (verC x y z u)) := fun x y z u => ((Below.refl _ w).alloc (Nat.le_refl _) _).alloc (by simp) _
 have HFIN := Lib.hid fin
 clear fin
 by_cases h0 : part = 0
 ·subst h0
  have HV : Hid (Ver.val (Ver.bump ⟨a, b, c, bs s⟩ 0) = verV (a + 1) 0 0 ⟨#[]⟩) := Lib.hid rfl
  go_enter Tryz.func177, Tryz.ntmps177
  go_wp2
  refine bodyPost_ret (v := verV (a + 1) 0 0 ⟨#[]⟩) (by simp [results, Tryz.results177, go_sem]) rfl ⟨by rw [HV.out], HFIN.out _ _ _ _⟩
 ·have q0 : (part == 0) = false := by simp [h0]
  by_cases h1 : part = 1
  ·subst h1
   have HV : Hid (Ver.val (Ver.bump ⟨a, b, c, bs s⟩ 1) = verV a (b + 1) 0 ⟨#[]⟩) := Lib.hid rfl
   clear h0 q0
   go_enter Tryz.func177, Tryz.ntmps177
   go_wp2
   refine bodyPost_ret (v := verV a (b + 1) 0 ⟨#[]⟩) (by simp [results, Tryz.results177, go_sem]) rfl ⟨by rw [HV.out], HFIN.out _ _ _ _⟩
  ·have q1 : (part == 1) = false := by simp [h1]
   cases hee : (bs s).isEmpty with
   | true =>
    have hse : s.toList.isEmpty = true := by rw [HSE.out]; exact hee
    have HV : Hid (Ver.val (Ver.bump ⟨a, b, c, bs s⟩ part) = verV a b (c + 1) ⟨#[]⟩) := Lib.hid (by
     unfold Ver.bump; rw [if_neg h0, if_neg h1, if_pos (List.isEmpty_iff.1 hee)]; rfl)
    clear h0 h1 hee
    go_enter Tryz.func177, Tryz.ntmps177
    go_wp2
    refine bodyPost_ret (v := verV a b (c + 1) ⟨#[]⟩) (by simp [results, Tryz.results177, go_sem]) rfl ⟨by rw [HV.out], HFIN.out _ _ _ _⟩
   | false =>
    have hse : s.toList.isEmpty = false := by rw [HSE.out]; exact hee
    have HV : Hid (Ver.val (Ver.bump ⟨a, b, c, bs s⟩ part) = verV a b c ⟨#[]⟩) := Lib.hid (by
     unfold Ver.bump
     rw [if_neg h0, if_neg h1, if_neg (fun e => by rw [List.isEmpty_iff.2 e] at hee; cases hee)]; rfl)
    clear h0 h1 hee
    go_enter Tryz.func177, Tryz.ntmps177
    go_wp2
    refine bodyPost_ret (v := verV a b c ⟨#[]⟩) (by simp [results, Tryz.results177, go_sem]) rfl ⟨by rw [HV.out], HFIN.out _ _ _ _⟩
def bumpR (v : Ver) (part : Int) : Value :=
 if v.right = true ∧ 0 ≤ part ∧ part ≤ 2 then (if (v.bump part).right = true then .tuple #[Ver.val (v.bump part), .int .i64 0] else .tuple #[verV 0 0 0 ⟨#[]⟩, .int .i64 11])
 else .tuple #[verV 0 0 0 ⟨#[]⟩, .int .i64 12]
theorem bump_len (v : Ver) (part : Int) : (v.bump part).pre = [] := by
 unfold Ver.bump; split
 ·rfl
 ·split
  ·rfl
  ·split <;> rfl
set_option maxHeartbeats 4000000 in
theorem Bump_any (a b c : Int) (s : ByteArray) (part : Int) (w : World) (hs : s.size < 4294967281) (hm : LenAt w) (h1 : 1 < w.heap.size) :
  Calls Tryz.prog 174 #[verV a b c s, .int .i64 part] w fun e w' => e = .returned (bumpR ⟨a, b, c, bs s⟩ part) ∧ Below w.heap.size w w' := by
 have hb0 : Below w.heap.size w ((w.alloc (verC a b c s)).alloc (verC 0 0 0 ⟨#[]⟩)) := ((Below.refl _ w).alloc (Nat.le_refl _) _).alloc (by simp) _
 have hA : ((w.alloc (verC a b c s)).alloc (verC 0 0 0 ⟨#[]⟩)).heap[w.heap.size]? = some (verC a b c s) := by
  rw [Below.heap_alloc _ _ _ (by simp)]; exact World.alloc_heap_new _ _
 have hB : ((w.alloc (verC a b c s)).alloc (verC 0 0 0 ⟨#[]⟩)).heap[w.heap.size + 1]? = some (verC 0 0 0 ⟨#[]⟩) := by
  have := World.alloc_heap_new (w.alloc (verC a b c s)) (verC 0 0 0 ⟨#[]⟩)
  rw [World.size_alloc] at this; exact this
 obtain ⟨W0, hW0⟩ : ∃ W0, (w.alloc (verC a b c s)).alloc (verC 0 0 0 ⟨#[]⟩) = W0 := ⟨_, rfl⟩
 have hz0 : W0.heap.size = w.heap.size + 2 := by rw [← hW0]; simp
 rw [hW0] at hb0 hA hB
 have hM0 := hm.below h1 hb0
 have HRG := Lib.hid (Right_any a b c s W0 hs hM0.1 hM0.2)
 have HW0 := Lib.hid hW0
 have HAB := Lib.hid (And.intro hA hB)
 have HB0 := Lib.hid hb0
 have HM0 := Lib.hid hM0
 clear hA hB hW0 hb0 hM0 hm
 go_enter Tryz.func174, Tryz.ntmps174
 go_wp2_with fail
 try rw [show (w.alloc (.cells #[.int .i64 a, .int .i64 b, .int .i64 c, .string s] 83)).alloc (.cells #[.int .i64 0, .int .i64 0, .int .i64 0, .string ⟨#[]⟩] 83) = W0 from HW0.out]
 refine HRG.out.mono ?_
 rintro e W1 ⟨rfl, h2⟩
 have hA1 := (h2.block _ (show w.heap.size < W0.heap.size by omega)).trans HAB.out.1
 have hB1 := (h2.block _ (show w.heap.size + 1 < W0.heap.size by omega)).trans HAB.out.2
 obtain ⟨x0, x1, x2, x3⟩ := cells4 hA1
 obtain ⟨y0, y1, y2, y3⟩ := cells4 hB1
 obtain ⟨f0, f1, f2, f3⟩ := froz4 hB1
 have HAB1 := Lib.hid (And.intro hA1 hB1)
 have HB1 : Hid (Below w.heap.size w W1) := Lib.hid (HB0.out.trans (h2.mono (by omega)))
 have HM1 := Lib.hid (HM0.out.1.below HM0.out.2 h2)
 have hz1 := h2.size
 clear h2 HRG hA1 hB1
 have HSET : Hid (∀ (W : World) (u0 u1 u2 u3 : Value), Below w.heap.size w W → Below w.heap.size w ((((W.setCell ⟨w.heap.size + 1, 0, none⟩ u0).setCell ⟨w.heap.size + 1, 1, none⟩ u1).setCell ⟨w.heap.size + 1, 2, none⟩ u2).setCell ⟨w.heap.size + 1, 3, none⟩ u3)) := Lib.hid (fun W u0 u1 u2 u3 h => (((h.setCell (p := ⟨w.heap.size + 1, 0, none⟩) (by simp) _).setCell (p := ⟨w.heap.size + 1, 1, none⟩) (by simp) _).setCell (p := ⟨w.heap.size + 1, 2, none⟩) (by simp) _).setCell (p := ⟨w.heap.size + 1, 3, none⟩) (by simp) _)
 cases hr : Ver.right ⟨a, b, c, bs s⟩ with
 | false =>
  have HV : Hid (bumpR ⟨a, b, c, bs s⟩ part = .tuple #[verV 0 0 0 ⟨#[]⟩, .int .i64 12]) := Lib.hid (by unfold bumpR; rw [if_neg]; intro h; rw [hr] at h; cases h.1)
  clear hr
  go_wp2
  refine bodyPost_ret (v := .tuple #[verV 0 0 0 ⟨#[]⟩, .int .i64 12]) (by simp [results, Tryz.results174, go_sem, y0, y1, y2, y3]) rfl ⟨by rw [HV.out], HSET.out _ _ _ _ _ HB1.out⟩
 | true =>
  have HR := Lib.hid hr
  by_cases hp : 0 ≤ part ∧ part ≤ 2
  ·have d0 : decide (part < 0) = false := by simp; omega
   have d2 : decide (2 < part) = false := by simp; omega
   have HV : Hid (bumpR ⟨a, b, c, bs s⟩ part = if (Ver.bump ⟨a, b, c, bs s⟩ part).right = true then .tuple #[Ver.val (Ver.bump ⟨a, b, c, bs s⟩ part), .int .i64 0] else .tuple #[verV 0 0 0 ⟨#[]⟩, .int .i64 11]) := Lib.hid (by unfold bumpR; rw [if_pos ⟨hr, hp⟩])
   have hrr : (0 ≤ a ∧ a ≤ 999999) ∧ (0 ≤ b ∧ b ≤ 999999) ∧ (0 ≤ c ∧ c ≤ 999999) := by
    have := hr
    unfold Ver.right rightN at this
    simp at this
    omega
   have HAV := Lib.hid (above_any a b c s part W1 hrr.1 hrr.2.1 hrr.2.2)
   have HPE := Lib.hid (bump_len ⟨a, b, c, bs s⟩ part)
   obtain ⟨x, y, z, hV⟩ : ∃ x y z, Ver.bump ⟨a, b, c, bs s⟩ part = ⟨x, y, z, []⟩ := by
    have h := HPE.out
    cases hv : Ver.bump ⟨a, b, c, bs s⟩ part with
    | mk x y z q => rw [hv] at h; simp only at h; subst h; exact ⟨x, y, z, rfl⟩
   rw [hV] at HV HAV
   clear hr hrr hp HPE hV
   go_wp2_with fail
   refine HAV.out.mono ?_
   rintro e W2 ⟨rfl, h3⟩
   rw [show Ver.val ⟨x, y, z, []⟩ = verV x y z ⟨#[]⟩ from rfl]
   have hB2 := (h3.block _ (show w.heap.size + 1 < W1.heap.size by omega)).trans HAB1.out.2
   have hC0 := World.alloc_heap_new W2 (verC x y z ⟨#[]⟩)
   have hz2 := h3.size
   have hB3 : (W2.alloc (verC x y z ⟨#[]⟩)).heap[w.heap.size + 1]? = some (verC 0 0 0 ⟨#[]⟩) := (Below.heap_alloc _ _ _ (by omega)).trans hB2
   obtain ⟨W3, hW3⟩ : ∃ W3, W2.alloc (verC x y z ⟨#[]⟩) = W3 := ⟨_, rfl⟩
   have hlt3 : W2.heap.size < W3.heap.size := by rw [← hW3]; simp
   have HB3 : Hid (Below W1.heap.size W1 W3) := Lib.hid (by rw [← hW3]; exact h3.alloc h3.size _)
   have HM3 := Lib.hid (HM1.out.1.below HM1.out.2 HB3.out)
   have HW3 := Lib.hid hW3
   have HR3 := Lib.hid (Right_any x y z ⟨#[]⟩ W3 (by decide) HM3.out.1 HM3.out.2)
   have HH3 : Hid (W3.heap[W2.heap.size]? = some (verC x y z ⟨#[]⟩) ∧ W3.heap[w.heap.size + 1]? = some (verC 0 0 0 ⟨#[]⟩)) := Lib.hid (by rw [← hW3]; exact ⟨hC0, hB3⟩)
   have HB03 : Hid (Below w.heap.size w W3) := Lib.hid (HB1.out.trans (HB3.out.mono (by have := HB1.out.size; omega)))
   clear h3 hB2 hC0 hB3 hW3 x0 x1 x2 x3 y0 y1 y2 y3 f0 f1 f2 f3 HAV
   go_wp2_with fail
   try rw [show W2.alloc (.cells #[.int .i64 x, .int .i64 y, .int .i64 z, .string ⟨#[]⟩] 83) = W3 from HW3.out]
   refine HR3.out.mono ?_
   rintro e W4 ⟨rfl, h4⟩
   have hC4 := (h4.block _ hlt3).trans HH3.out.1
   have hB4 := (h4.block _ (show w.heap.size + 1 < W3.heap.size by omega)).trans HH3.out.2
   obtain ⟨x0, x1, x2, x3⟩ := cells4 hC4
   obtain ⟨y0, y1, y2, y3⟩ := cells4 hB4
   obtain ⟨f0, f1, f2, f3⟩ := froz4 hB4
   have HB04 : Hid (Below w.heap.size w W4) := Lib.hid (HB03.out.trans (h4.mono HB03.out.size))
   rw [show Ver.right ⟨x, y, z, bs ⟨#[]⟩⟩ = Ver.right ⟨x, y, z, []⟩ from rfl]
   have hne : w.heap.size + 1 ≠ W2.heap.size := by omega
   have hne2 : W2.heap.size ≠ w.heap.size + 1 := by omega
   clear h4 hC4 hB4 HR3
   cases hq : Ver.right ⟨x, y, z, []⟩ with
   | false =>
    have HV2 : Hid (bumpR ⟨a, b, c, bs s⟩ part = .tuple #[verV 0 0 0 ⟨#[]⟩, .int .i64 11]) := Lib.hid (by rw [HV.out, hq]; rfl)
    clear hq
    go_wp2
    refine bodyPost_ret (v := .tuple #[verV 0 0 0 ⟨#[]⟩, .int .i64 11]) (by simp [results, Tryz.results174, go_sem, y0, y1, y2, y3]) rfl ⟨by rw [HV2.out], HSET.out _ _ _ _ _ HB04.out⟩
   | true =>
    have HV2 : Hid (bumpR ⟨a, b, c, bs s⟩ part = .tuple #[verV x y z ⟨#[]⟩, .int .i64 0]) := Lib.hid (by rw [HV.out, hq]; rfl)
    clear hq
    go_wp2
    refine bodyPost_ret (v := .tuple #[verV x y z ⟨#[]⟩, .int .i64 0]) (by simp [results, Tryz.results174, go_sem, y0, y1, y2, y3]) rfl ⟨by rw [HV2.out], HSET.out _ _ _ _ _ HB04.out⟩
  ·have HV : Hid (bumpR ⟨a, b, c, bs s⟩ part = .tuple #[verV 0 0 0 ⟨#[]⟩, .int .i64 12]) := Lib.hid (by unfold bumpR; rw [if_neg]; intro h; exact hp h.2)
   clear hr
   go_wp2
   all_goals (refine bodyPost_ret (v := .tuple #[verV 0 0 0 ⟨#[]⟩, .int .i64 12]) (by simp [results, Tryz.results174, go_sem, y0, y1, y2, y3]) rfl ⟨by rw [HV.out], HSET.out _ _ _ _ _ HB1.out⟩)
end Go.Proofs.YtminihiecloglaaGreat
