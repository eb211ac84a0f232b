/-
  CONTRACTS of package semver: digits, marks, numbers.
-/
import Derived.Test.YtpnbbbhbbnemlaaGreatDoorSLay
import Derived.Test.YtpnbbbhbbnemlaaGreatDoorSPure
import Derived.Test.YtpnbbbhbbnemlaaGreatDoorTied
import Derived.WalkKit
import Derived.Below
import Derived.Lib.Walk
import Derived.Lib.Strings
import Derived.Lib.Hide
import Derived.BigCall
import Derived.BigGuard
namespace Go.Proofs.YtpnbbbhbbnemlaaGreatDoor
open Go.RowKit
open SemP
set_option linter.unusedVariables false
set_option maxRecDepth 100000

abbrev bs (s : ByteArray) : Str := s.data.toList
/-- The first k bytes are digits. -/
def digsTo (l : Str) (k : Nat) : Bool := (l.take k).all dig
theorem digsTo_zero (l : Str) : digsTo l 0 = true := by simp [digsTo]
theorem digsTo_succ {l : Str} {k : Nat} (h : k < l.length) : digsTo l (k + 1) = (digsTo l k && dig (l.getD k 0)) := by
  unfold digsTo
  rw [List.take_succ_eq_append_getElem h, List.all_append]
  simp [List.getD, h]
theorem digsTo_all {l : Str} {k : Nat} (h : l.length ≤ k) : digsTo l k = l.all dig := by
  unfold digsTo; rw [List.take_of_length_le h]
theorem digsTo_false {l : Str} {k : Nat} (h : digsTo l k = false) : l.all dig = false := by
  unfold digsTo at h
  rw [List.all_eq_false] at h ⊢
  obtain ⟨x, hx, hd⟩ := h
  exact ⟨x, List.mem_of_mem_take hx, hd⟩
theorem dig_at (s : ByteArray) (i : Nat) (h : i < s.size) : dig ((bs s).getD i 0) = (decide (48 ≤ s[i].toNat) && decide (s[i].toNat ≤ 57)) := by
  rw [Lib.getD_at s i h]; rfl
theorem allDig_false {l : Str} {k : Nat} (hk : k < l.length) (h : dig (l.getD k 0) = false) : allDig l = false := by
  have : l.all dig = false := by
    rw [List.all_eq_false]
    exact ⟨l.getD k 0, by simp [List.getD, hk], by rw [h]; simp⟩
  unfold allDig; rw [this, Bool.and_false]
set_option maxHeartbeats 1000000 in
theorem allDigits_any (s : ByteArray) (w : World) (hs : s.size ≤ 9223372036854775807) :
    Calls Tryz.prog 146 #[.string s] w fun e w' => e = .returned (.bool (allDig (bs s))) ∧ w' = w := by
  have HZ := Lib.hid (Lib.size_eq s)
  go_enter Tryz.func146, Tryz.ntmps146
  go_wp2
  go_loopw [6] (fun v6 wr => ∃ (i : Nat), i ≤ s.size ∧ v6 = .int .i64 (i : Int) ∧ Hid (digsTo (bs s) i = true) ∧ wr = w) (fun v _ => s.size - (intOf v).toNat)
  case atStart => exact ⟨0, Nat.zero_le _, rfl, Lib.hid (digsTo_zero _), rfl⟩
  case round =>
    obtain ⟨i, hi, rfl, HD, rfl⟩ := hrel
    by_cases him : i < s.size
    · have hd : decide ((i : Int) < (s.size : Int)) = true := by simp; omega
      have hadd : IntKind.i64.wrap ((i : Int) + 1) = ((i + 1 : Nat) : Int) := by rw [IntWalk.i64_in _ (by omega)]; omega
      have HA := Lib.hid (dig_at s i him)
      have HNO : Hid (dig ((bs s).getD i 0) = false → allDig (bs s) = false) := Lib.hid (fun h => allDig_false (by rw [← HZ.out]; exact him) h)
      go_wp2
      · have e : allDig (bs s) = false := HNO.out (by rw [HA.out]; simp; omega)
        refine bodyPost_ret (results_tmp rfl _ _ _) rfl ?_
        exact ⟨by rw [e]; rfl, rfl⟩
      · go_roundw
        case rel => exact ⟨i + 1, by omega, rfl, Lib.hid (by rw [digsTo_succ (by rw [← HZ.out]; exact him), HD.out, HA.out]; simp; omega), trivial⟩
        case measure => simp [intOf]; omega
      · have e : allDig (bs s) = false := HNO.out (by rw [HA.out]; simp; omega)
        refine bodyPost_ret (results_tmp rfl _ _ _) rfl ?_
        exact ⟨by rw [e]; rfl, rfl⟩
    · have hd : decide ((i : Int) < (s.size : Int)) = false := by simp; omega
      have HAL : Hid ((bs s).all dig = true) := Lib.hid (by rw [← digsTo_all (k := i) (by rw [← HZ.out]; omega)]; exact HD.out)
      go_wp2
      go_ret
      refine ⟨?_, rfl⟩
      show Ending.returned (.bool (!s.toList.isEmpty)) = _
      rw [show s.toList = s.data.toList from ByteArray.toList_eq s]
      unfold allDig
      rw [HAL.out, Bool.and_true]
theorem plainN_big {l : Str} (h : 6 < l.length) : plainN l = false := by
  unfold plainN; rw [decide_eq_false (by omega)]; rfl
theorem plain_at (s : ByteArray) (h0 : 0 < s.size) (h6 : s.size ≤ 6) : ((bs s == [48]) || (((s[0]'h0).toNat : Nat) : Int) != 48) = plainN (bs s) := by
  have h1 := Lib.getD_at s 0 h0
  have h2 : s.size = (bs s).length := Lib.size_eq s
  rw [h1]
  unfold plainN
  rw [decide_eq_true (show (bs s).length ≤ 6 by omega), Bool.true_and]
  congr 1
  show _ = ((bs s).head? != some 48)
  cases hl : bs s with
  | nil =>
    rw [hl] at h2
    have h3 : ([] : Str).length = 0 := rfl
    omega
  | cons b l =>
    have : s.data.toList = b :: l := hl
    rw [this]
    simp only [List.getD_cons_zero, List.head?_cons]
    by_cases hb : b = 48
    · subst hb; rfl
    · have hn : b.toNat ≠ 48 := fun e => hb (UInt8.toNat_inj.1 (by rw [e]; rfl))
      have e1 : ((b.toNat : Int) != 48) = true := by rw [bne_iff_ne]; omega
      have e2 : (some b != some (48 : UInt8)) = true := by rw [bne_iff_ne]; intro e; injection e with e; exact hb e
      rw [e1, e2]
theorem plainNumber_any (s : ByteArray) (w : World) (hs : s.size ≤ 9223372036854775807) (h0 : 0 < s.size) :
    Calls Tryz.prog 147 #[.string s] w fun e w' => e = .returned (.bool (plainN (bs s))) ∧ w' = w := by
  have HZ := Lib.hid (Lib.size_eq s)
  have HH : Hid (s.size ≤ 6 → ((bs s == [48]) || (((s[0]'h0).toNat : Nat) : Int) != 48) = plainN (bs s)) := Lib.hid (plain_at s h0)
  by_cases h6 : s.size ≤ 6
  · have HH := Lib.hid (HH.out h6)
    have hd : decide ((s.size : Int) ≤ 6) = true := by simp; omega
    go_enter Tryz.func147, Tryz.ntmps147
    go_wp2
    · rename_i h
      refine bodyPost_ret (results_tmp rfl _ _ _) rfl ?_
      refine ⟨?_, rfl⟩
      have e : bs s = [48] := by rw [← h, ByteArray.toList_eq]
      rw [e]; rfl
    · refine bodyPost_ret (results_tmp rfl _ _ _) rfl ?_
      refine ⟨?_, rfl⟩
      show Ending.returned (.bool (s.toList == [48] || ((s[0].toNat : Nat) : Int) != 48)) = _
      rw [ByteArray.toList_eq, HH.out]
  · have hd : decide ((s.size : Int) ≤ 6) = false := by simp; omega
    have HN : Hid (plainN (bs s) = false) := Lib.hid (plainN_big (by rw [← HZ.out]; omega))
    go_enter Tryz.func147, Tryz.ntmps147
    go_wp2
    go_ret
    exact ⟨by rw [HN.out]; rfl, rfl⟩

theorem rightMark_empty {l : Str} (h : l.length = 0) : rightMark l = false := by
  cases l with
  | nil => rfl
  | cons b l => simp at h
theorem rightMark_long {l : Str} (h : 10 < l.length) : rightMark l = false := by
  unfold rightMark; rw [decide_eq_false (show ¬ l.length ≤ 10 by omega), Bool.and_false, Bool.false_and]
theorem rightMark_mid {l : Str} (h0 : 0 < l.length) (h : l.length ≤ 10) : rightMark l = (if allDig l then plainN l else l.all (fun b => dig b || low b)) := by
  unfold rightMark
  rw [decide_eq_true h]
  cases l with
  | nil => simp at h0
  | cons b l => simp
/-- The first k bytes are digits or letters. -/
def wordTo (l : Str) (k : Nat) : Bool := (l.take k).all (fun b => dig b || low b)
theorem wordTo_zero (l : Str) : wordTo l 0 = true := by simp [wordTo]
theorem wordTo_succ {l : Str} {k : Nat} (h : k < l.length) : wordTo l (k + 1) = (wordTo l k && (dig (l.getD k 0) || low (l.getD k 0))) := by
  unfold wordTo
  rw [List.take_succ_eq_append_getElem h, List.all_append]
  simp [List.getD, h]
theorem wordTo_all {l : Str} {k : Nat} (h : l.length ≤ k) : wordTo l k = l.all (fun b => dig b || low b) := by
  unfold wordTo; rw [List.take_of_length_le h]
theorem word_at (s : ByteArray) (i : Nat) (h : i < s.size) : (dig ((bs s).getD i 0) || low ((bs s).getD i 0)) = ((decide (48 ≤ s[i].toNat) && decide (s[i].toNat ≤ 57)) || (decide (97 ≤ s[i].toNat) && decide (s[i].toNat ≤ 122))) := by
  rw [Lib.getD_at s i h]; rfl
theorem word_false {l : Str} {k : Nat} (hk : k < l.length) (h : (dig (l.getD k 0) || low (l.getD k 0)) = false) : (l.all (fun b => dig b || low b)) = false := by
  rw [List.all_eq_false]
  exact ⟨l.getD k 0, by simp [List.getD, hk], by rw [h]; simp⟩
set_option maxHeartbeats 2000000 in
theorem rightMark_any (s : ByteArray) (w : World) (hs : s.size ≤ 9223372036854775807) :
    Calls Tryz.prog 116 #[.string s] w fun e w' => e = .returned (.bool (rightMark (bs s))) ∧ w' = w := by
  have HZ : Hid (s.size = (bs s).length) := Lib.hid (Lib.size_eq s)
  by_cases h0 : s.size = 0
  · have HR : Hid (rightMark (bs s) = false) := Lib.hid (rightMark_empty (by rw [← HZ.out]; exact h0))
    have he : s.toList = [] := by
      have := HZ.out
      rw [ByteArray.toList_eq]
      exact List.eq_nil_of_length_eq_zero (by rw [← h0]; exact this.symm)
    go_enter Tryz.func116, Tryz.ntmps116
    go_wp2
    refine bodyPost_ret (results_tmp rfl _ _ _) rfl ?_
    exact ⟨by rw [HR.out]; rfl, rfl⟩
  · have hne : s.toList.isEmpty = false := by
      cases he : s.toList.isEmpty with
      | false => rfl
      | true =>
        exfalso
        apply h0
        rw [ByteArray.toList_eq, List.isEmpty_iff] at he
        have := HZ.out
        rw [show bs s = [] from he] at this
        exact this
    by_cases h10 : s.size ≤ 10
    · have hd : decide (10 < (s.size : Int)) = false := by simp; omega
      have HR : Hid (rightMark (bs s) = if allDig (bs s) then plainN (bs s) else (bs s).all (fun b => dig b || low b)) := Lib.hid (rightMark_mid (by rw [← HZ.out]; omega) (by rw [← HZ.out]; exact h10))
      cases hA : allDig (bs s) with
      | true =>
        have HA := Lib.hid hA
        clear hA
        go_enter Tryz.func116, Tryz.ntmps116
        go_wp2_with fail
        refine (allDigits_any s w hs).mono ?_
        rintro e w' ⟨rfl, rfl⟩
        rw [HA.out]
        go_wp2_with fail
        refine (plainNumber_any s _ hs (by omega)).mono ?_
        rintro e w' ⟨rfl, rfl⟩
        go_wp2
        refine bodyPost_ret (results_tmp rfl _ _ _) rfl ?_
        exact ⟨by rw [HR.out, HA.out]; rfl, rfl⟩
      | false =>
        have HA := Lib.hid hA
        clear hA
        go_enter Tryz.func116, Tryz.ntmps116
        go_wp2_with fail
        refine (allDigits_any s w hs).mono ?_
        rintro e w' ⟨rfl, rfl⟩
        rw [HA.out]
        go_wp2
        go_loopw [19] (fun v6 wr => ∃ (i : Nat), i ≤ s.size ∧ v6 = .int .i64 (i : Int) ∧ Hid (wordTo (bs s) i = true) ∧ wr = w') (fun v _ => s.size - (intOf v).toNat)
        case atStart => exact ⟨0, Nat.zero_le _, rfl, Lib.hid (wordTo_zero _), rfl⟩
        case round =>
          obtain ⟨i, hi, rfl, HD, rfl⟩ := hrel
          by_cases him : i < s.size
          · have hd : decide ((i : Int) < (s.size : Int)) = true := by simp; omega
            have hadd : IntKind.i64.wrap ((i : Int) + 1) = ((i + 1 : Nat) : Int) := by rw [IntWalk.i64_in _ (by omega)]; omega
            have HA2 := Lib.hid (word_at s i him)
            have HNO : Hid ((dig ((bs s).getD i 0) || low ((bs s).getD i 0)) = false → (bs s).all (fun b => dig b || low b) = false) := Lib.hid (fun h => word_false (by rw [← HZ.out]; exact him) h)
            go_wp2
            all_goals first
              | (go_roundw
                 case rel => exact ⟨i + 1, by omega, rfl, Lib.hid (by rw [wordTo_succ (by rw [← HZ.out]; exact him), HD.out, HA2.out]; rename_i hh; simp at hh ⊢; omega), trivial⟩
                 case measure => simp [intOf]; omega)
              | (have e : rightMark (bs s) = false := by
                   rw [HR.out, HA.out]; simp only [Bool.false_eq_true, if_false]
                   exact HNO.out (by rw [HA2.out]; rename_i hh; simp at hh ⊢; omega)
                 refine bodyPost_ret (results_tmp rfl _ _ _) rfl ?_
                 exact ⟨by rw [e]; rfl, rfl⟩)
          · have hd : decide ((i : Int) < (s.size : Int)) = false := by simp; omega
            have HAL : Hid ((bs s).all (fun b => dig b || low b) = true) := Lib.hid (by rw [← wordTo_all (k := i) (by rw [← HZ.out]; omega)]; exact HD.out)
            go_wp2
            go_ret
            exact ⟨by rw [HR.out, HA.out]; simp only [Bool.false_eq_true, if_false]; rw [HAL.out]; rfl, rfl⟩
    · have hd : decide (10 < (s.size : Int)) = true := by simp; omega
      have HR : Hid (rightMark (bs s) = false) := Lib.hid (rightMark_long (by rw [← HZ.out]; omega))
      go_enter Tryz.func116, Tryz.ntmps116
      go_wp2
      refine bodyPost_ret (results_tmp rfl _ _ _) rfl ?_
      exact ⟨by rw [HR.out]; rfl, rfl⟩
end Go.Proofs.YtpnbbbhbbnemlaaGreatDoor
