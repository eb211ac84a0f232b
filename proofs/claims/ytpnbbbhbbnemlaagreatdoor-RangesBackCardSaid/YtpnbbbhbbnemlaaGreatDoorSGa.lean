/-
  CONTRACTS of the document's own package of layer 1: digit, Number.
  CONTRACTS of the document's own package of layer 1: mark.
  CONTRACTS of the document's own package of layer 1: by.
  PURE: what the document's loops over a text hold.
  WORDS FOR MEMORY: a slice of strings that the call itself made.
  CONTRACTS of the document's own package of layer 1: Cut.
  CONTRACTS of the document's own package of layer 1: Pre, texts, marks.
  PURE: the document's Parse answers as the program's.
  CONTRACTS of the document's own package of layer 1: texts, marks.
-/
import Derived.Test.YtpnbbbhbbnemlaaGreatDoorSNum
import Derived.Test.YtpnbbbhbbnemlaaGreatDoorSPure
import Derived.Test.YtpnbbbhbbnemlaaGreatDoorSGc
import Derived.WalkKit
import Derived.WalkSpells
import Derived.WalkSmall
import Derived.Below
import Derived.Laws.OwnMore
import Derived.Deep.AppendLies
import Derived.Deep.Draws
import Derived.Lib.Hide
import Derived.Maps.AppendAt
import Derived.BigQuiet
namespace Go.Proofs.YtpnbbbhbbnemlaaGreatDoor
open Go.RowKit
open SemP
set_option linter.unusedVariables false
set_option linter.unusedSimpArgs false
set_option maxRecDepth 100000

theorem digit_any (k : Nat) (w : World) : Calls Tryz.prog 110 #[.int .u8 (k : Int)] w fun e w' => e = .returned (.bool (decide (48 ≤ k) && decide (k ≤ 57))) ∧ w' = w := by
  go_enter Tryz.func110, Tryz.ntmps110
  go_wp2
  all_goals (refine bodyPost_ret (results_tmp rfl _ _ _) rfl ⟨?_, rfl⟩)
  · rename_i h
    by_cases h2 : k ≤ 57
    · rw [decide_eq_true (show 48 ≤ k by omega), decide_eq_true h2]; simp; omega
    · rw [decide_eq_true (show 48 ≤ k by omega), decide_eq_false h2]; simp; omega
  · rename_i h
    rw [decide_eq_false (show ¬ 48 ≤ k by omega)]; simp
theorem digit_of (k : Nat) (h : Bool) (hk : (decide (48 ≤ k) && decide (k ≤ 57)) = h) (w : World) : Calls Tryz.prog 110 #[.int .u8 (k : Int)] w fun e w' => e = .returned (.bool h) ∧ w' = w := by
  subst hk; exact digit_any k w
theorem sub48 (k : Nat) (h : 48 ≤ k ∧ k ≤ 57) : IntKind.u8.wrap ((k : Int) - 48) = ((k - 48 : Nat) : Int) := by
  rw [show ((k : Int) - 48) = ((k - 48 : Nat) : Int) by omega]
  exact IntWalk.u8_in _ (by omega)
theorem sum48 (n k m : Nat) (h : 48 ≤ k ∧ k ≤ 57) (hn : n < 1000000) (e : m = 10 * n + (k - 48)) : IntKind.i64.wrap (10 * (n : Int) + ((k - 48 : Nat) : Int)) = (m : Int) := by
  rw [IntWalk.i64_in _ (by omega), e]; omega
/-- The number of the first k bytes. -/
def numTo (l : Str) (k : Nat) : Nat := numOf (l.take k)
theorem numTo_succ {l : Str} {k : Nat} (h : k < l.length) : numTo l (k + 1) = 10 * numTo l k + ((l.getD k 0).toNat - 48) := by
  unfold numTo numOf
  rw [List.take_succ_eq_append_getElem h, numAcc_snoc]
  simp [List.getD, h]
theorem numTo_lt {l : Str} {k : Nat} (h : digsTo l k = true) (hk : k ≤ 6) : numTo l k < 1000000 := by
  unfold numTo
  have h1 := numOf_lt (l.take k) h
  have h2 : 10 ^ (l.take k).length ≤ 10 ^ 6 := Nat.pow_le_pow_right (by omega) (by rw [List.length_take]; omega)
  omega
theorem plain_not (s : ByteArray) (h0 : 0 < s.size) (h6 : s.size ≤ 6) : (¬ ((s[0]'h0).toNat = 48 ∧ 1 < s.size) → plainN (bs s) = true) ∧ ((s[0]'h0).toNat = 48 ∧ 1 < s.size → plainN (bs s) = false) := by
  have h1 := Lib.getD_at s 0 h0
  have h2 : s.size = (bs s).length := Lib.size_eq s
  have h3 := plain_at s h0 h6
  cases hl : bs s with
  | nil => rw [hl] at h2; have h3 : ([] : Str).length = 0 := rfl; omega
  | cons b l =>
    have e : s.data.toList = b :: l := hl
    rw [e, List.getD_cons_zero] at h1
    rw [hl] at h2 h3
    rw [h1] at h3 ⊢
    rw [List.length_cons] at h2
    constructor
    · intro h
      rw [← h3]
      by_cases hb : b.toNat = 48
      · have hb2 : b = 48 := UInt8.toNat_inj.1 (by rw [hb]; rfl)
        have hl0 : l = [] := List.eq_nil_of_length_eq_zero (by omega)
        subst hb2 hl0; rfl
      · have : ((b.toNat : Int) != 48) = true := by rw [bne_iff_ne]; omega
        rw [this, Bool.or_true]
    · rintro ⟨hb, hs⟩
      rw [← h3]
      have hb2 : b = 48 := UInt8.toNat_inj.1 (by rw [hb]; rfl)
      subst hb2
      cases l with
      | nil => simp at h2; omega
      | cons c l => simp
set_option maxHeartbeats 2000000 in
theorem Number_any (s : ByteArray) (w : World) :
    Calls Tryz.prog 75 #[.string s] w fun e w' => e = .returned (numV (bs s)) ∧ w' = w := by
  have HZ : Hid (s.size = (bs s).length) := Lib.hid (Lib.size_eq s)
  by_cases h0 : s.size = 0
  · have HN : Hid (numV (bs s) = .tuple #[.int .i64 0, .bool false]) := Lib.hid (by
      rw [show bs s = [] from List.eq_nil_of_length_eq_zero (by rw [← HZ.out]; exact h0)]; rfl)
    have hd : ((s.size : Int) == 0) = true := by rw [beq_iff_eq]; omega
    go_enter Tryz.func75, Tryz.ntmps75
    go_wp2
    refine bodyPost_ret (results_tmp2 rfl _ _ _) rfl ⟨by rw [HN.out]; rfl, rfl⟩
  · have hd : ((s.size : Int) == 0) = false := by rw [beq_eq_false_iff_ne]; omega
    by_cases h6 : s.size ≤ 6
    · have hd6 : decide (6 < (s.size : Int)) = false := by simp; omega
      go_enter Tryz.func75, Tryz.ntmps75
      go_wp2
      go_loopw [4, 5] (fun v4 v5 wr => ∃ (i : Nat), i ≤ s.size ∧ v5 = .int .i64 (i : Int) ∧ v4 = .int .i64 (numTo (bs s) i : Int) ∧ Hid (digsTo (bs s) i = true) ∧ wr = w) (fun _ v _ => s.size - (intOf v).toNat)
      case atStart => exact ⟨0, Nat.zero_le _, rfl, rfl, Lib.hid (digsTo_zero _), rfl⟩
      case round =>
        obtain ⟨i, hi, rfl, rfl, HD, rfl⟩ := hrel
        by_cases him : i < s.size
        · have hd : decide ((i : Int) < (s.size : Int)) = true := by simp; omega
          have hadd : IntKind.i64.wrap ((i : Int) + 1) = ((i + 1 : Nat) : Int) := by rw [IntWalk.i64_in _ (by omega)]; omega
          have HA := Lib.hid (dig_at s i him)
          have HLI : Hid (i < (bs s).length) := Lib.hid (by rw [← HZ.out]; exact him)
          have HGD : Hid ((bs s).getD i 0 = s[i]) := Lib.hid (Lib.getD_at s i him).symm
          cases hdg : dig ((bs s).getD i 0) with
          | false =>
            have HN : Hid (numV (bs s) = .tuple #[.int .i64 0, .bool false]) := Lib.hid (by
              unfold numV num; rw [allDig_false HLI.out hdg]; rfl)
            have HQ : Hid ((decide (48 ≤ s[i].toNat) && decide (s[i].toNat ≤ 57)) = false) := Lib.hid (HA.out.symm.trans hdg)
            clear hdg
            go_wp2_with fail
            refine (digit_of s[i].toNat false HQ.out _).mono ?_
            rintro e w' ⟨rfl, rfl⟩
            go_wp2
            refine bodyPost_ret (results_tmp2 rfl _ _ _) rfl ⟨by rw [HN.out]; rfl, rfl⟩
          | true =>
            have HQ : Hid ((decide (48 ≤ s[i].toNat) && decide (s[i].toNat ≤ 57)) = true) := Lib.hid (HA.out.symm.trans hdg)
            have HD2 : Hid (digsTo (bs s) (i + 1) = true) := Lib.hid (by rw [digsTo_succ HLI.out, HD.out, hdg]; rfl)
            have hlo : 48 ≤ s[i].toNat ∧ s[i].toNat ≤ 57 := by have := HQ.out; simp at this; exact this
            have hlt := numTo_lt HD.out (show i ≤ 6 by omega)
            have HNS : Hid (numTo (bs s) (i + 1) = 10 * numTo (bs s) i + (s[i].toNat - 48)) := Lib.hid (by rw [numTo_succ HLI.out, HGD.out])
            clear hdg
            go_wp2_with fail
            refine (digit_of s[i].toNat true HQ.out _).mono ?_
            rintro e w' ⟨rfl, rfl⟩
            have e8 := sub48 s[i].toNat hlo
            have e9 : IntKind.i64.wrap (10 * (numTo (bs s) i : Int)) = 10 * (numTo (bs s) i : Int) := IntWalk.i64_in _ (by omega)
            have e10 := sum48 (numTo (bs s) i) s[i].toNat (numTo (bs s) (i + 1)) hlo hlt HNS.out
            clear e10
            go_wp2
            go_roundw
            case rel => exact ⟨i + 1, by omega, rfl, congrArg (Value.int .i64) (by have := HNS.out; omega), HD2, trivial⟩
            case measure => simp [intOf]; omega
        · have hd : decide ((i : Int) < (s.size : Int)) = false := by simp; omega
          have HAD : Hid (allDig (bs s) = true) := Lib.hid (by
            unfold allDig
            rw [← digsTo_all (k := i) (by rw [← HZ.out]; omega), HD.out]
            cases hl : bs s with
            | nil => exact absurd (HZ.out.trans (by rw [hl]; rfl)) h0
            | cons b l => rfl)
          have HNO : Hid (numTo (bs s) i = numOf (bs s)) := Lib.hid (by unfold numTo; rw [List.take_of_length_le (by rw [← HZ.out]; omega)])
          have hp : 0 < s.size := by omega
          have HP := Lib.hid (plain_not s hp h6)
          by_cases hq : (s[0]'hp).toNat = 48 ∧ 1 < s.size
          · have HN : Hid (numV (bs s) = .tuple #[.int .i64 0, .bool false]) := Lib.hid (by
              unfold numV num; rw [HP.out.2 hq, Bool.and_false]; rfl)
            have d1 : (((s[0]'hp).toNat : Int) == 48) = true := by rw [beq_iff_eq]; omega
            have d2 : decide (1 < (s.size : Int)) = true := by simp; omega
            clear hq
            go_wp2
            refine bodyPost_ret (results_tmp2 rfl _ _ _) rfl ⟨by rw [HN.out]; rfl, rfl⟩
          · have HN : Hid (numV (bs s) = .tuple #[.int .i64 (numTo (bs s) i : Int), .bool true]) := Lib.hid (by
              unfold numV num; rw [HP.out.1 hq, HAD.out, HNO.out]; rfl)
            by_cases h48 : (s[0]'hp).toNat = 48
            · have d1 : (((s[0]'hp).toNat : Int) == 48) = true := by rw [beq_iff_eq]; omega
              have d2 : decide (1 < (s.size : Int)) = false := by simp; omega
              clear hq h48
              go_wp2
              refine bodyPost_ret (results_tmp2 rfl _ _ _) rfl ⟨by rw [HN.out]; rfl, rfl⟩
            · have d1 : (((s[0]'hp).toNat : Int) == 48) = false := by rw [beq_eq_false_iff_ne]; omega
              clear hq h48
              go_wp2
              refine bodyPost_ret (results_tmp2 rfl _ _ _) rfl ⟨by rw [HN.out]; rfl, rfl⟩
    · have HN : Hid (numV (bs s) = .tuple #[.int .i64 0, .bool false]) := Lib.hid (by
        unfold numV num; rw [plainN_big (by rw [← HZ.out]; omega), Bool.and_false]; rfl)
      have hd6 : decide (6 < (s.size : Int)) = true := by simp; omega
      go_enter Tryz.func75, Tryz.ntmps75
      go_wp2
      refine bodyPost_ret (results_tmp2 rfl _ _ _) rfl ⟨by rw [HN.out]; rfl, rfl⟩
end Go.Proofs.YtpnbbbhbbnemlaaGreatDoor
namespace Go.Proofs.YtpnbbbhbbnemlaaGreatDoor
open Go.RowKit
open SemP
set_option linter.unusedVariables false
set_option linter.unusedSimpArgs false
set_option maxRecDepth 100000

theorem low_at (s : ByteArray) (i : Nat) (h : i < s.size) : low ((bs s).getD i 0) = (decide (97 ≤ s[i].toNat) && decide (s[i].toNat ≤ 122)) := by
  rw [Lib.getD_at s i h]; rfl
set_option maxHeartbeats 2000000 in
theorem mark_any (s : ByteArray) (w : World) :
    Calls Tryz.prog 89 #[.string s] w fun e w' => e = .returned (.bool (rightMark (bs s))) ∧ w' = w := by
  have HZ : Hid (s.size = (bs s).length) := Lib.hid (Lib.size_eq s)
  by_cases h0 : s.size = 0
  · have HR : Hid (rightMark (bs s) = false) := Lib.hid (rightMark_empty (by rw [← HZ.out]; exact h0))
    have hd : ((s.size : Int) == 0) = true := by rw [beq_iff_eq]; omega
    go_enter Tryz.func89, Tryz.ntmps89
    go_wp2
    refine bodyPost_ret (results_tmp rfl _ _ _) rfl ⟨by rw [HR.out]; rfl, rfl⟩
  · have hd : ((s.size : Int) == 0) = false := by rw [beq_eq_false_iff_ne]; omega
    by_cases h10 : s.size ≤ 10
    · have hd6 : decide (10 < (s.size : Int)) = false := by simp; omega
      have HR : Hid (rightMark (bs s) = if allDig (bs s) then plainN (bs s) else (bs s).all (fun b => dig b || low b)) := Lib.hid (rightMark_mid (by rw [← HZ.out]; omega) (by rw [← HZ.out]; exact h10))
      go_enter Tryz.func89, Tryz.ntmps89
      go_wp2
      go_loopw [3, 4] (fun v3 v4 wr => ∃ (i : Nat), i ≤ s.size ∧ v4 = .int .i64 (i : Int) ∧ v3 = .bool (digsTo (bs s) i) ∧ Hid (wordTo (bs s) i = true) ∧ wr = w) (fun _ v _ => s.size - (intOf v).toNat)
      case atStart => exact ⟨0, Nat.zero_le _, rfl, by rw [digsTo_zero], Lib.hid (wordTo_zero _), rfl⟩
      case round =>
        obtain ⟨i, hi, rfl, rfl, HD, rfl⟩ := hrel
        by_cases him : i < s.size
        · have hd : decide ((i : Int) < (s.size : Int)) = true := by simp; omega
          have hadd : IntKind.i64.wrap ((i : Int) + 1) = ((i + 1 : Nat) : Int) := by rw [IntWalk.i64_in _ (by omega)]; omega
          have HA := Lib.hid (dig_at s i him)
          have HLA := Lib.hid (low_at s i him)
          have HLI : Hid (i < (bs s).length) := Lib.hid (by rw [← HZ.out]; exact him)
          cases hdg : dig ((bs s).getD i 0) with
          | true =>
            have HQ : Hid ((decide (48 ≤ s[i].toNat) && decide (s[i].toNat ≤ 57)) = true) := Lib.hid (HA.out.symm.trans hdg)
            have HD2 : Hid (digsTo (bs s) (i + 1) = digsTo (bs s) i) := Lib.hid (by rw [digsTo_succ HLI.out, hdg, Bool.and_true])
            have HW2 : Hid (wordTo (bs s) (i + 1) = true) := Lib.hid (by rw [wordTo_succ HLI.out, HD.out, hdg]; rfl)
            clear hdg
            go_wp2_with fail
            refine (digit_of s[i].toNat true HQ.out _).mono ?_
            rintro e w' ⟨rfl, rfl⟩
            go_wp2
            go_roundw
            case rel => exact ⟨i + 1, by omega, rfl, by rw [HD2.out], HW2, trivial⟩
            case measure => simp [intOf]; omega
          | false =>
            have HQ : Hid ((decide (48 ≤ s[i].toNat) && decide (s[i].toNat ≤ 57)) = false) := Lib.hid (HA.out.symm.trans hdg)
            have HD2 : Hid (digsTo (bs s) (i + 1) = false) := Lib.hid (by rw [digsTo_succ HLI.out, hdg, Bool.and_false])
            have HAF : Hid (allDig (bs s) = false) := Lib.hid (allDig_false HLI.out hdg)
            cases hlw : low ((bs s).getD i 0) with
            | true =>
              have HW2 : Hid (wordTo (bs s) (i + 1) = true) := Lib.hid (by rw [wordTo_succ HLI.out, HD.out, hlw, Bool.or_true]; rfl)
              have hlo : 97 ≤ s[i].toNat ∧ s[i].toNat ≤ 122 := by
                have h := HLA.out.symm.trans hlw
                simp at h; exact h
              have d1 : decide ((s[i].toNat : Int) < 97) = false := by simp; omega
              have d2 : decide (122 < (s[i].toNat : Int)) = false := by simp; omega
              clear hdg hlw
              go_wp2_with fail
              refine (digit_of s[i].toNat false HQ.out _).mono ?_
              rintro e w' ⟨rfl, rfl⟩
              go_wp2
              all_goals first
                | (exfalso; omega)
                | (go_roundw
                   case rel => exact ⟨i + 1, by omega, rfl, by rw [HD2.out], HW2, trivial⟩
                   case measure => simp [intOf]; omega)
            | false =>
              have HF : Hid (rightMark (bs s) = false) := Lib.hid (by
                rw [HR.out, HAF.out]; simp only [Bool.false_eq_true, if_false]
                exact word_false HLI.out (by rw [hdg, hlw]; rfl))
              have hlo : ¬ (97 ≤ s[i].toNat ∧ s[i].toNat ≤ 122) := by
                have h := HLA.out.symm.trans hlw
                simp at h; omega
              clear hdg hlw
              go_wp2_with fail
              refine (digit_of s[i].toNat false HQ.out _).mono ?_
              rintro e w' ⟨rfl, rfl⟩
              go_wp2
              all_goals first
                | (exfalso; omega)
                | (refine bodyPost_ret (results_tmp rfl _ _ _) rfl ⟨by rw [HF.out]; rfl, rfl⟩)
        · have hd : decide ((i : Int) < (s.size : Int)) = false := by simp; omega
          have HWA : Hid ((bs s).all (fun b => dig b || low b) = true) := Lib.hid (by rw [← wordTo_all (k := i) (by rw [← HZ.out]; omega)]; exact HD.out)
          have HDA : Hid (digsTo (bs s) i = allDig (bs s)) := Lib.hid (by
            rw [digsTo_all (by rw [← HZ.out]; omega)]
            unfold allDig
            cases hl : bs s with
            | nil => exact absurd (HZ.out.trans (by rw [hl]; rfl)) h0
            | cons b l => rfl)
          have HNM := Lib.hid (Number_any s wr)
          rw [HDA.out]
          cases hA : allDig (bs s) with
          | false =>
            have HN : Hid (numV (bs s) = .tuple #[.int .i64 0, .bool false]) := Lib.hid (by unfold numV num; rw [hA]; rfl)
            have HF : Hid (rightMark (bs s) = true) := Lib.hid (by rw [HR.out, hA]; simp only [Bool.false_eq_true, if_false]; exact HWA.out)
            clear hA
            go_wp2_with fail
            refine HNM.out.mono ?_
            rintro e w' ⟨rfl, rfl⟩
            rw [HN.out]
            go_wp2
            refine bodyPost_ret (results_tmp rfl _ _ _) rfl ⟨by rw [HF.out]; rfl, rfl⟩
          | true =>
            cases hP : plainN (bs s) with
            | false =>
              have HN : Hid (numV (bs s) = .tuple #[.int .i64 0, .bool false]) := Lib.hid (by unfold numV num; rw [hA, hP]; rfl)
              have HF : Hid (rightMark (bs s) = false) := Lib.hid (by rw [HR.out, hA]; exact hP)
              clear hA hP
              go_wp2_with fail
              refine HNM.out.mono ?_
              rintro e w' ⟨rfl, rfl⟩
              rw [HN.out]
              go_wp2
              refine bodyPost_ret (results_tmp rfl _ _ _) rfl ⟨by rw [HF.out]; rfl, rfl⟩
            | true =>
              have HN : Hid (numV (bs s) = .tuple #[.int .i64 (numOf (bs s) : Int), .bool true]) := Lib.hid (by unfold numV num; rw [hA, hP]; rfl)
              have HF : Hid (rightMark (bs s) = true) := Lib.hid (by rw [HR.out, hA]; exact hP)
              clear hA hP
              go_wp2_with fail
              refine HNM.out.mono ?_
              rintro e w' ⟨rfl, rfl⟩
              rw [HN.out]
              go_wp2
              refine bodyPost_ret (results_tmp rfl _ _ _) rfl ⟨by rw [HF.out]; rfl, rfl⟩
    · have HR : Hid (rightMark (bs s) = false) := Lib.hid (rightMark_long (by rw [← HZ.out]; omega))
      have hd6 : decide (10 < (s.size : Int)) = true := by simp; omega
      go_enter Tryz.func89, Tryz.ntmps89
      go_wp2
      refine bodyPost_ret (results_tmp rfl _ _ _) rfl ⟨by rw [HR.out]; rfl, rfl⟩
end Go.Proofs.YtpnbbbhbbnemlaaGreatDoor
namespace Go.Proofs.YtpnbbbhbbnemlaaGreatDoor
open Go.RowKit
open SemP
set_option linter.unusedVariables false
set_option linter.unusedSimpArgs false
set_option maxRecDepth 100000

theorem by_any (a b : Int) (w : World) : Calls Tryz.prog 113 #[.int .i64 a, .int .i64 b] w fun e w' => e = .returned (.int .i64 (Lib.compareInt a b)) ∧ w' = w := by
  by_cases h1 : a < b
  · have d1 : decide (a < b) = true := decide_eq_true h1
    have HV : Hid (Lib.compareInt a b = -1) := Lib.hid (if_pos h1)
    clear h1
    go_enter Tryz.func113, Tryz.ntmps113
    go_wp2
    refine bodyPost_ret (results_tmp rfl _ _ _) rfl ⟨by rw [HV.out]; rfl, rfl⟩
  · have d1 : decide (a < b) = false := decide_eq_false h1
    by_cases h2 : b < a
    · have d2 : decide (b < a) = true := decide_eq_true h2
      have HV : Hid (Lib.compareInt a b = 1) := Lib.hid (by unfold Lib.compareInt; rw [if_neg h1, if_pos h2])
      clear h1 h2
      go_enter Tryz.func113, Tryz.ntmps113
      go_wp2
      refine bodyPost_ret (results_tmp rfl _ _ _) rfl ⟨by rw [HV.out]; rfl, rfl⟩
    · have d2 : decide (b < a) = false := decide_eq_false h2
      have HV : Hid (Lib.compareInt a b = 0) := Lib.hid (by unfold Lib.compareInt; rw [if_neg h1, if_neg h2])
      clear h1 h2
      go_enter Tryz.func113, Tryz.ntmps113
      go_wp2
      go_ret
      exact ⟨by rw [HV.out]; rfl, rfl⟩
end Go.Proofs.YtpnbbbhbbnemlaaGreatDoor
namespace SemP
open Go.Lib

/-- The pieces cut so far, and what is left from 'last' on. -/
def CutAt (c : UInt8) (s : Str) (outs : List Str) (last i : Nat) : Prop :=
  last ≤ i ∧ i ≤ s.length ∧ pieces c s = outs ++ pieces c (s.drop last) ∧ c ∉ (s.drop last).take (i - last)
theorem CutAt.start (c : UInt8) (s : Str) : CutAt c s [] 0 0 := ⟨Nat.le_refl _, Nat.zero_le _, rfl, by simp⟩
theorem drop_parts (s : Str) (l i : Nat) (h : l ≤ i) (hi : i < s.length) : s.drop l = (s.drop l).take (i - l) ++ s.getD i 0 :: s.drop (i + 1) := by
  have h1 : (s.drop l).drop (i - l) = s.getD i 0 :: s.drop (i + 1) := by
    rw [List.drop_drop, show l + (i - l) = i by omega, List.drop_eq_getElem_cons hi]
    simp [List.getD, hi]
  rw [← h1, List.take_append_drop]
theorem CutAt.skip {c : UInt8} {s : Str} {outs : List Str} {l i : Nat} (h : CutAt c s outs l i) (hi : i < s.length) (hne : s.getD i 0 ≠ c) : CutAt c s outs l (i + 1) := by
  obtain ⟨h1, h2, h3, h4⟩ := h
  refine ⟨by omega, hi, h3, ?_⟩
  have hp := drop_parts s l i h1 hi
  have : (s.drop l).take (i + 1 - l) = (s.drop l).take (i - l) ++ [s.getD i 0] := by
    rw [show i + 1 - l = (i - l) + 1 by omega, List.take_add_one]
    congr 1
    have : (s.drop l)[i - l]? = some (s.getD i 0) := by
      rw [List.getElem?_drop, show l + (i - l) = i by omega]
      simp [List.getD, hi]
    rw [this]; rfl
  rw [this]
  simp only [List.mem_append, List.mem_singleton, not_or]
  exact ⟨h4, fun e => hne e.symm⟩
theorem CutAt.hit {c : UInt8} {s : Str} {outs : List Str} {l i : Nat} (h : CutAt c s outs l i) (hi : i < s.length) (he : s.getD i 0 = c) : CutAt c s (outs ++ [(s.drop l).take (i - l)]) (i + 1) (i + 1) := by
  obtain ⟨h1, h2, h3, h4⟩ := h
  refine ⟨Nat.le_refl _, hi, ?_, by simp⟩
  have hp := drop_parts s l i h1 hi
  rw [he] at hp
  rw [h3]
  conv => lhs; rw [hp, pieces_app c _ _ h4]
  simp
theorem CutAt.fin {c : UInt8} {s : Str} {outs : List Str} {l i : Nat} (h : CutAt c s outs l i) (hi : i = s.length) : pieces c s = outs ++ [s.drop l] := by
  obtain ⟨h1, h2, h3, h4⟩ := h
  rw [h3, pieces_one c (s.drop l)]
  rw [List.take_of_length_le (by rw [List.length_drop]; omega)] at h4
  exact h4
theorem CutAt.len {c : UInt8} {s : Str} {outs : List Str} {l i : Nat} (h : CutAt c s outs l i) : outs.length ≤ (pieces c s).length := by
  rw [h.2.2.1, List.length_append]; omega
theorem pieces_len (c : UInt8) (s : Str) : (pieces c s).length ≤ s.length + 1 := by
  induction s with
  | nil => simp [pieces]
  | cons b l ih =>
    unfold pieces
    split
    · simp; omega
    · split
      · simp
      · next h => rw [h] at ih; simp at ih ⊢; omega

/-! ### Two rows that begin alike -/
theorem rowC_step {α : Type} {c : α → α → Int} {a b : List α} {i : Nat} (ha : i < a.length) (hb : i < b.length) : rowC c (a.drop i) (b.drop i) = orI (c a[i] b[i]) (rowC c (a.drop (i + 1)) (b.drop (i + 1))) := by
  rw [List.drop_eq_getElem_cons ha, List.drop_eq_getElem_cons hb]; rfl
theorem rowC_end {α : Type} {c : α → α → Int} {a b : List α} {i : Nat} (hi : i ≤ a.length) (hj : i ≤ b.length) (h : ¬ (i < a.length ∧ i < b.length)) : rowC c (a.drop i) (b.drop i) = compareInt a.length b.length := by
  rcases Nat.lt_or_ge i a.length with ha | ha
  · have hb : i = b.length := by omega
    rw [List.drop_eq_getElem_cons ha, List.drop_eq_nil_of_le (show b.length ≤ i by omega)]
    show (1 : Int) = _
    unfold compareInt; rw [if_neg (by omega), if_pos (by omega)]
  · rw [List.drop_eq_nil_of_le (show a.length ≤ i by omega)]
    rcases Nat.lt_or_ge i b.length with hb | hb
    · rw [List.drop_eq_getElem_cons hb]
      show (-1 : Int) = _
      unfold compareInt; rw [if_pos (by omega)]
    · rw [List.drop_eq_nil_of_le (show b.length ≤ i by omega)]
      show (0 : Int) = _
      unfold compareInt; rw [if_neg (by omega), if_neg (by omega)]
/-- Rows that agree before i. -/
def RowAt {α : Type} (c : α → α → Int) (a b : List α) (i : Nat) : Prop := i ≤ a.length ∧ i ≤ b.length ∧ rowC c a b = rowC c (a.drop i) (b.drop i)
theorem RowAt.start {α : Type} (c : α → α → Int) (a b : List α) : RowAt c a b 0 := ⟨Nat.zero_le _, Nat.zero_le _, rfl⟩
theorem RowAt.next {α : Type} {c : α → α → Int} {a b : List α} {i : Nat} (h : RowAt c a b i) (ha : i < a.length) (hb : i < b.length) (d : α) (h0 : c (a.getD i d) (b.getD i d) = 0) : RowAt c a b (i + 1) := by
  refine ⟨ha, hb, ?_⟩
  rw [h.2.2, rowC_step ha hb]
  have : c a[i] b[i] = 0 := by simpa [List.getD, ha, hb] using h0
  rw [this, orI_zero]
theorem RowAt.stop {α : Type} {c : α → α → Int} {a b : List α} {i : Nat} (h : RowAt c a b i) (ha : i < a.length) (hb : i < b.length) (d : α) (h0 : c (a.getD i d) (b.getD i d) ≠ 0) : rowC c a b = c (a.getD i d) (b.getD i d) := by
  rw [h.2.2, rowC_step ha hb]
  have e : c a[i] b[i] = c (a.getD i d) (b.getD i d) := by simp [List.getD, ha, hb]
  rw [e, orI_ne h0]
theorem RowAt.fin {α : Type} {c : α → α → Int} {a b : List α} {i : Nat} (h : RowAt c a b i) (hn : ¬ (i < a.length ∧ i < b.length)) : rowC c a b = compareInt a.length b.length := by
  rw [h.2.2, rowC_end h.1 h.2.1 hn]
/-- What the document asks of two Pres. -/
def refPre (a b : Str) : Int := if a = b then 0 else if a = [] then 1 else if b = [] then -1 else rowC refMarks (pieces 46 a) (pieces 46 b)
theorem refPre_cmp {a b : Str} (ha : a = [] ∨ rightPre a = true) (hb : b = [] ∨ rightPre b = true) : refPre a b = cmpPre a b := by
  unfold refPre cmpPre
  split
  · rfl
  · split
    · rfl
    · split
      · rfl
      · next h1 h2 h3 => exact refPre_eq (ha.resolve_left h2) (hb.resolve_left h3)
def refV (a b : Ver) : Int := orI (compareInt a.major b.major) (orI (compareInt a.minor b.minor) (orI (compareInt a.patch b.patch) (refPre a.pre b.pre)))
theorem refV_cmp {a b : Ver} (ha : a.right = true) (hb : b.right = true) : refV a b = cmpV a b := by
  unfold Ver.right at ha hb
  simp only [Bool.and_eq_true, Bool.or_eq_true, List.isEmpty_iff] at ha hb
  unfold refV cmpV
  rw [refPre_cmp ha.2 hb.2]
end SemP
namespace Go.Proofs.YtpnbbbhbbnemlaaGreatDoor
open Go.RowKit
open SemP
set_option linter.unusedVariables false
set_option linter.unusedSimpArgs false

abbrev strc (x : Str) : Value := .string (mk x)
theorem infoStr : (Tryz.prog.info? 9).map (fun i => (i.zero, i.size, i.bytes)) = some (some (.string ⟨#[]⟩), 1, 16) := by kernel_rfl
/-- The slice value v, of n elements, made by the call itself (its block is numbered from base on), reads as xs. -/
def OwnS (w : World) (base : Nat) (v : Value) (n : Nat) (xs : List Str) : Prop := w.ownsRow base 9 1 v n (xs.map strc)
section
variable {w w' : World} {base n c g : Nat} {v : Value} {xs : List Str}
theorem OwnS.len (h : OwnS w base v n xs) : xs.length = n := by simpa using h.1
theorem OwnS.nil_ (w : World) (base : Nat) : OwnS w base (.slice none 0 0) 0 [] := World.ownsRow_nil _ _ _ _
theorem OwnS.form (h : OwnS w base v n xs) (hn : 0 < n) : ∃ g c, v = .slice (some ⟨g, 0, none⟩) n c ∧ base ≤ g ∧ g < w.heap.size := by
  obtain ⟨g, cap, hv, hb, hlt⟩ := World.ownsRow.form h hn
  exact ⟨g, cap, hv, hb, hlt⟩
theorem strc_map (xs : List Str) (j : Nat) (h : j < xs.length) : (xs.map strc)[j]? = some (strc (xs.getD j [])) := by
  simp [List.getD, h]
theorem OwnS.cell (h : OwnS w base (.slice (some ⟨g, 0, none⟩) n c) n xs) {j : Nat} (hj : j < n) : w.cell? ⟨g, j, none⟩ = some (strc (xs.getD j [])) := by
  rw [h.cellAt j (by omega), strc_map xs j (by rw [h.len]; exact hj)]
theorem OwnS.alloc (h : OwnS w base v n xs) (o : Obj) : OwnS (w.alloc o) base v n xs := World.ownsRow.alloc h o
theorem OwnS.ge (h : OwnS w base v n xs) : ∀ g, v.ownBlock = some g → base ≤ g := by
  intro g hg
  rcases h.2 with ⟨rfl, _⟩ | ⟨g', cap, cur, rfl, hb, _⟩
  · cases hg
  · have : g' = g := by simpa [Value.ownBlock] using hg
    omega
theorem OwnS.drewN (h : OwnS w base v n xs) (k : Nat) : OwnS (w.drewN k) base v n xs := h
theorem OwnS.kept (h : OwnS w base v n xs) (hb : Below w.heap.size w w') : OwnS w' base v n xs := by
  refine ⟨h.1, ?_⟩
  rcases h.2 with h | ⟨g, cap, cur, hv, hbg, hh, r⟩
  · exact .inl h
  · have hlt : g < w.heap.size := by
      rcases Nat.lt_or_ge g w.heap.size with hlt | hge
      · exact hlt
      · rw [Array.getElem?_eq_none hge] at hh; cases hh
    refine .inr ⟨g, cap, cur, hv, hbg, ?_, r⟩
    rw [hb.block g hlt]
    exact hh
end

/-- 'append(s, x)', s the call's own: s grows by one. -/
theorem wplS_app {w : World} {ops : Array Oper} {rest : List Oper} {o : Oper} {a : Act} {Q : Exit → Act → World → Prop} (hgd : o.guard = none) (s x : Operand)
    (ho : o.op = .call { callee := .builtin .append, args := #[s, x], argTypes := #[77, 77] })
    (base : Nat) (v : Value) (n : Nat) (xs : List Str) (hs : a.eval s = v) (hown : OwnS w base v n xs)
    (b : Nat) (u : ByteArray) (hx : a.eval x = .slice (some ⟨b, 0, none⟩) 1 1) (hc : w.cell? ⟨b, 0, none⟩ = some (.string u)) (hn : n ≤ 1099511627776) (hbase : base ≤ w.heap.size)
    (h : ∀ g c w', OwnS w' base (.slice (some ⟨g, 0, none⟩) (n + 1) c) (n + 1) (xs ++ [bs u]) → base ≤ g → w.grownBy w' v.ownBlock → (v.ownBlock = some g ∨ g = w.heap.size) → wpList Tryz.prog ops Q rest (a.put o.dst (.slice (some ⟨g, 0, none⟩) (n + 1) c)) w') :
    wpList Tryz.prog ops Q (o :: rest) a w := by
  obtain ⟨i0, hi, hz0, hz1, hz2⟩ := info_parts infoStr
  have hmk : mk (bs u) = u := by cases u; rfl
  refine wpList_append_own_at w hgd s x 77 ho base 9 i0 (.string ⟨#[]⟩) 1 16 Tryz.underlying77 hi hz0 hz1 hz2 rfl (by decide) v n _ hs hown ⟨b, 0, none⟩ 1 1 [.string u] hx rfl ?_ ?_ (by unfold maxLen; omega) (by omega) hbase ?_
  · intro j z hj
    match j, hj with
    | 0, hj => simp at hj; subst hj; simpa [Addr.add] using hc
  · intro z hz; simp at hz; subst hz; rfl
  · intro v' w' hown' hg _ hat
    have ho' : OwnS w' base v' (n + 1) (xs ++ [bs u]) := by
      unfold OwnS; rw [List.map_append]
      show w'.ownsRow base _ 1 v' (n + 1) (xs.map strc ++ [.string (mk (bs u))])
      rw [hmk]; exact hown'
    obtain ⟨g, c, rfl, hbg, _⟩ := ho'.form (by omega)
    exact h g c w' ho' hbg hg (by
      rcases hat with h | h
      · exact .inl h.symm
      · right; have : some g = some w.heap.size := h; injection this)
end Go.Proofs.YtpnbbbhbbnemlaaGreatDoor
namespace Go.Proofs.YtpnbbbhbbnemlaaGreatDoor
open Go.RowKit
open SemP
set_option linter.unusedVariables false
set_option linter.unusedSimpArgs false
set_option maxRecDepth 100000

theorem bs_extract (s : ByteArray) (a b : Nat) : bs (s.extract a b) = ((bs s).drop a).take (b - a) := by
  show (s.extract a b).data.toList = _
  rw [ByteArray.data_extract]
  simp [bs, List.extract]
theorem eq_ints (k m : Nat) (h : k = m) : ((k : Int) == (m : Int)) = true := by subst h; simp
theorem ne_ints (k m : Nat) (h : k ≠ m) : ((k : Int) == (m : Int)) = false := by rw [beq_eq_false_iff_ne]; omega
theorem at_eq {s : ByteArray} {i : Nat} (h : i < s.size) {c : UInt8} (e : (bs s).getD i 0 = c) : s[i].toNat = c.toNat := by
  rw [Lib.getD_at s i h]; exact congrArg UInt8.toNat e
theorem at_ne {s : ByteArray} {i : Nat} (h : i < s.size) {c : UInt8} (e : (bs s).getD i 0 ≠ c) : s[i].toNat ≠ c.toNat := by
  rw [Lib.getD_at s i h]; exact fun x => e (UInt8.toNat_inj.1 x)
set_option maxHeartbeats 2000000 in
theorem Cut_any (s : ByteArray) (c : UInt8) (w : World) (hs : s.size ≤ 1000000000000) :
    Calls Tryz.prog 88 #[.string s, .int .u8 (c.toNat : Int)] w fun e w' =>
      ∃ v, e = .returned v ∧ OwnS w' w.heap.size v (pieces c (bs s)).length (pieces c (bs s)) ∧ Below w.heap.size w w' := by
  have HZ : Hid (s.size = (bs s).length) := Lib.hid (Lib.size_eq s)
  have HPL : Hid ((pieces c (bs s)).length ≤ s.size + 1) := Lib.hid (by rw [HZ.out]; exact pieces_len c (bs s))
  go_enter Tryz.func88, Tryz.ntmps88
  go_wp2
  go_loopw [5, 6, 7] (fun v5 v6 v7 wr => ∃ (outs : List Str) (l i : Nat), i ≤ s.size ∧ l ≤ i ∧ v6 = .int .i64 (l : Int) ∧ v7 = .int .i64 (i : Int) ∧ Hid (CutAt c (bs s) outs l i) ∧ Hid (OwnS wr w.heap.size v5 outs.length outs) ∧ Hid (Below w.heap.size w wr)) (fun _ _ v _ => s.size - (intOf v).toNat)
  case atStart => exact ⟨[], 0, 0, Nat.zero_le _, Nat.zero_le _, rfl, rfl, Lib.hid (CutAt.start _ _), Lib.hid (OwnS.nil_ _ _), Lib.hid (Below.refl _ _)⟩
  case round =>
    obtain ⟨outs, l, i, hi, hli, rfl, rfl, HC, HO, HB⟩ := hrel
    by_cases him : i < s.size
    · have hd : decide ((i : Int) < (s.size : Int)) = true := by simp; omega
      have hadd : IntKind.i64.wrap ((i : Int) + 1) = ((i + 1 : Nat) : Int) := by rw [IntWalk.i64_in _ (by omega)]; omega
      have HLI : Hid (i < (bs s).length) := Lib.hid (by rw [← HZ.out]; exact him)
      cases hq : decide ((bs s).getD i 0 = c) with
      | true =>
        have HE : Hid ((bs s).getD i 0 = c) := Lib.hid (of_decide_eq_true hq)
        have hqe : ((s[i].toNat : Int) == (c.toNat : Int)) = true := eq_ints _ _ (at_eq him HE.out)
        have HOL : Hid (outs.length ≤ 1000000000001) := Lib.hid (by have := HC.out.len; have := HPL.out; omega)
        have HBL := Lib.hid HB.out.size
        clear hq
        go_wp2_with (at_builtin; refine wplS_app rfl (.tmp 19) (.tmp 24) rfl w.heap.size _ outs.length outs rfl (HO.out.alloc _) wr.heap.size (s.extract l i) rfl (by simp) (by have := HOL.out; omega) (by have := HBL.out; simp; omega) ?_; intro g c2 w2 hown2 hge hgr2 hat2)
        go_roundw
        case rel =>
          refine ⟨outs ++ [bs (s.extract l i)], i + 1, i + 1, by omega, by omega, rfl, rfl, Lib.hid ?_, Lib.hid (by simpa using hown2), Lib.hid ?_⟩
          · rw [bs_extract]; exact HC.out.hit HLI.out HE.out
          · have hx := HB.out.alloc (o := .cells #[.string (s.extract l i)] 9) HBL.out
            exact hx.grown hgr2 (by have := HBL.out; simp; omega) (fun g hg => OwnS.ge HO.out g hg)
        case measure => simp [intOf]; omega
      | false =>
        have HE : Hid ((bs s).getD i 0 ≠ c) := Lib.hid (of_decide_eq_false hq)
        have hqe : ((s[i].toNat : Int) == (c.toNat : Int)) = false := ne_ints _ _ (at_ne him HE.out)
        clear hq
        go_wp2
        go_roundw
        case rel => exact ⟨outs, l, i + 1, by omega, by omega, rfl, rfl, Lib.hid (HC.out.skip HLI.out HE.out), HO, HB⟩
        case measure => simp [intOf]; omega
    · have hd : decide ((i : Int) < (s.size : Int)) = false := by simp; omega
      have HOL : Hid (outs.length ≤ 1000000000001) := Lib.hid (by have := HC.out.len; have := HPL.out; omega)
      have HBL := Lib.hid HB.out.size
      have HFI : Hid (pieces c (bs s) = outs ++ [bs (s.extract l s.size)]) := Lib.hid (by
        rw [bs_extract, HC.out.fin (by rw [← HZ.out]; omega), List.take_of_length_le (by rw [List.length_drop, ← HZ.out]; omega)])
      go_wp2_with (at_builtin; refine wplS_app rfl (.tmp 28) (.tmp 32) rfl w.heap.size _ outs.length outs rfl (HO.out.alloc _) wr.heap.size (s.extract l s.size) rfl (by simp) (by have := HOL.out; omega) (by have := HBL.out; simp; omega) ?_; intro g c2 w2 hown2 hge hgr2 hat2)
      refine bodyPost_ret (results_tmp rfl _ _ _) rfl ⟨_, rfl, ?_, ?_⟩
      · rw [HFI.out]; simpa using hown2
      · have hx := HB.out.alloc (o := .cells #[.string (s.extract l s.size)] 9) HBL.out
        exact hx.grown hgr2 (by have := HBL.out; simp; omega) (fun g hg => OwnS.ge HO.out g hg)
end Go.Proofs.YtpnbbbhbbnemlaaGreatDoor
namespace Go.Proofs.YtpnbbbhbbnemlaaGreatDoor
open Go.RowKit
open SemP
set_option linter.unusedVariables false
set_option linter.unusedSimpArgs false
set_option maxRecDepth 100000

theorem bs_mk (x : Str) : bs (mk x) = x := rfl
theorem all_getD {l : List Str} {p : Str → Bool} (h : ∀ j, j < l.length → p (l.getD j []) = true) : l.all p = true := by
  rw [List.all_eq_true]
  intro x hx
  obtain ⟨j, hj, rfl⟩ := List.getElem_of_mem hx
  have := h j hj
  simpa [List.getD, hj] using this
theorem rightPre_eq {p : Str} (h : (pieces 46 p).length ≤ 4) : rightPre p = (pieces 46 p).all rightMark := by
  unfold rightPre; rw [decide_eq_true h, Bool.true_and]
theorem rightPre_long {p : Str} (h : ¬ (pieces 46 p).length ≤ 4) : rightPre p = false := by
  unfold rightPre; rw [decide_eq_false h, Bool.false_and]
theorem rightPre_bad {p : Str} {i : Nat} (hi : i < (pieces 46 p).length) (h : rightMark ((pieces 46 p).getD i []) = false) : rightPre p = false := by
  cases hr : rightPre p with
  | false => rfl
  | true =>
    have := rightPre_all hr ((pieces 46 p).getD i []) (by simp [List.getD, hi])
    rw [h] at this; cases this
set_option maxHeartbeats 2000000 in
theorem Pre_any (s : ByteArray) (w : World) (hs : s.size ≤ 1000000000000) :
    Calls Tryz.prog 59 #[.string s] w fun e w' => e = .returned (.bool ((bs s).isEmpty || rightPre (bs s))) ∧ Below w.heap.size w w' := by
  have HSE := Lib.hid (show s.toList.isEmpty = (bs s).isEmpty by rw [ByteArray.toList_eq])
  cases hee : (bs s).isEmpty with
  | true =>
    have hse : s.toList.isEmpty = true := by rw [HSE.out]; exact hee
    clear hee
    go_enter Tryz.func59, Tryz.ntmps59
    go_wp2
    refine bodyPost_ret (results_tmp rfl _ _ _) rfl ⟨rfl, Below.refl _ _⟩
  | false =>
    have hse : s.toList.isEmpty = false := by rw [HSE.out]; exact hee
    clear hee
    have HCUT := Lib.hid (Cut_any s 46 w hs)
    go_enter Tryz.func59, Tryz.ntmps59
    go_wp2_with fail
    refine HCUT.out.mono ?_
    rintro e w1 ⟨v, rfl, ho, hb⟩
    have HO := Lib.hid ho
    have HB := Lib.hid hb
    clear ho hb HCUT
    have HNE : Hid (0 < (pieces 46 (bs s)).length) := Lib.hid (List.length_pos_iff.2 (pieces_ne _ _))
    obtain ⟨g, c, rfl, _, hgl⟩ := HO.out.form HNE.out
    obtain ⟨n, hn⟩ : ∃ n, (pieces 46 (bs s)).length = n := ⟨_, rfl⟩
    have HN := Lib.hid hn
    rw [hn] at HO
    rw [hn]
    clear hn
    by_cases h4 : n ≤ 4
    · have hd4 : decide (4 < (n : Int)) = false := by simp; omega
      have HR : Hid (rightPre (bs s) = (pieces 46 (bs s)).all rightMark) := Lib.hid (rightPre_eq (by rw [HN.out]; exact h4))
      go_wp2
      go_loopw [4] (fun v4 wr => ∃ (i : Nat), i ≤ n ∧ v4 = .int .i64 (i : Int) ∧ Hid (∀ j, j < i → rightMark ((pieces 46 (bs s)).getD j []) = true) ∧ wr = w1) (fun v _ => n - (intOf v).toNat)
      case atStart => exact ⟨0, Nat.zero_le _, rfl, Lib.hid (fun j hj => absurd hj (by omega)), rfl⟩
      case round =>
        obtain ⟨i, hi, rfl, HD, rfl⟩ := hrel
        by_cases him : i < n
        · have hd : decide ((i : Int) < (n : Int)) = true := by simp; omega
          have hadd : IntKind.i64.wrap ((i : Int) + 1) = ((i + 1 : Nat) : Int) := by rw [IntWalk.i64_in _ (by omega)]; omega
          have hc : wr.cell? ⟨g, i, none⟩ = some (strc ((pieces 46 (bs s)).getD i [])) := HO.out.cell him
          have HMK := Lib.hid (mark_any (mk ((pieces 46 (bs s)).getD i [])) wr)
          cases hmk : rightMark ((pieces 46 (bs s)).getD i []) with
          | true =>
            have HD2 : Hid (∀ j, j < i + 1 → rightMark ((pieces 46 (bs s)).getD j []) = true) := Lib.hid (fun j hj => by
              rcases Nat.lt_succ_iff_lt_or_eq.1 hj with h | h
              · exact HD.out j h
              · subst h; exact hmk)
            have HM := Lib.hid hmk
            clear hmk
            go_wp2_with fail
            refine HMK.out.mono ?_
            rintro e w' ⟨rfl, rfl⟩
            rw [bs_mk, HM.out]
            go_wp2
            go_roundw
            case rel => exact ⟨i + 1, by omega, rfl, HD2, trivial⟩
            case measure => simp [intOf]; omega
          | false =>
            have HF : Hid (rightPre (bs s) = false) := Lib.hid (rightPre_bad (by rw [HN.out]; exact him) hmk)
            have HM := Lib.hid hmk
            clear hmk
            go_wp2_with fail
            refine HMK.out.mono ?_
            rintro e w' ⟨rfl, rfl⟩
            rw [bs_mk, HM.out]
            go_wp2
            refine bodyPost_ret (results_tmp rfl _ _ _) rfl ⟨by rw [HF.out]; rfl, HB.out⟩
        · have hd : decide ((i : Int) < (n : Int)) = false := by simp; omega
          have HT : Hid (rightPre (bs s) = true) := Lib.hid (by rw [HR.out]; exact all_getD (fun j hj => HD.out j (by rw [HN.out] at hj; omega)))
          go_wp2
          refine bodyPost_ret (results_tmp rfl _ _ _) rfl ⟨by rw [HT.out]; rfl, HB.out⟩
    · have hd4 : decide (4 < (n : Int)) = true := by simp; omega
      have HF : Hid (rightPre (bs s) = false) := Lib.hid (rightPre_long (by rw [HN.out]; exact h4))
      go_wp2
      refine bodyPost_ret (results_tmp rfl _ _ _) rfl ⟨by rw [HF.out]; rfl, HB.out⟩
end Go.Proofs.YtpnbbbhbbnemlaaGreatDoor
namespace SemP
open Go.Lib

theorem mark_no {m : Str} (h : rightMark m = true) : (45 : UInt8) ∉ m := by
  intro hc
  unfold rightMark at h
  cases hd : allDig m with
  | true =>
    have := List.all_eq_true.1 (allDig_all hd).2 _ hc
    exact absurd this (by decide)
  | false =>
    rw [hd] at h
    simp only [Bool.and_eq_true, Bool.false_eq_true, if_false] at h
    have := List.all_eq_true.1 h.2 _ hc
    exact absurd this (by decide)
theorem mem_pieces (c x : UInt8) (hx : x ≠ c) : ∀ l : Str, x ∈ l → ∃ m ∈ pieces c l, x ∈ m := by
  intro l
  induction l with
  | nil => intro h; cases h
  | cons b l ih =>
    intro h
    unfold pieces
    split
    · next e =>
      rcases List.mem_cons.1 h with h | h
      · exact absurd (h.trans e) hx
      · obtain ⟨m, hm, h2⟩ := ih h
        exact ⟨m, List.mem_cons_of_mem _ hm, h2⟩
    · split
      · next hp => exact absurd hp (pieces_ne c l)
      · next p ps hp =>
        rcases List.mem_cons.1 h with h | h
        · exact ⟨b :: p, by simp, by rw [h]; simp⟩
        · obtain ⟨m, hm, h2⟩ := ih h
          rw [hp] at hm
          rcases List.mem_cons.1 hm with hm | hm
          · exact ⟨b :: p, by simp, by rw [← hm]; exact List.mem_cons_of_mem _ h2⟩
          · exact ⟨m, List.mem_cons_of_mem _ hm, h2⟩
theorem pre_no {p : Str} (h : rightPre p = true) : (45 : UInt8) ∉ p := by
  intro hc
  obtain ⟨m, hm, h2⟩ := mem_pieces 46 45 (by decide) p hc
  exact mark_no (rightPre_all h m hm) h2
theorem pre_nil : rightPre [] = false := by rfl
theorem parse_trail (s : Str) (h0 : 0 < s.length) (h : s.getD (s.length - 1) 0 = 45) : parseV s = none := by
  have hm : (45 : UInt8) ∈ s := by
    rw [← h]
    have : s.length - 1 < s.length := by omega
    simp [List.getD, this]
  rcases cut_pieces s 45 with ⟨p, r, h1, _, h3, h4⟩ | ⟨_, _, h3⟩
  · have hr : rightPre r = false := by
      cases hb : rightPre r with
      | false => rfl
      | true =>
        exfalso
        cases r with
        | nil => rw [pre_nil] at hb; cases hb
        | cons x r =>
          apply pre_no hb
          rw [h3] at h
          have e1 : (p ++ 45 :: x :: r).length - 1 = p.length + (r.length + 1) := by simp
          rw [e1] at h
          have : (p ++ 45 :: x :: r).getD (p.length + (r.length + 1)) 0 = (x :: r).getD r.length 0 := by
            simp [List.getD]
          rw [this] at h
          rw [← h]
          simp [List.getD]
    unfold parseV
    rw [h1]
    simp [hr]
  · exact absurd hm h3
/-- The numbers of a core, and a Pre. -/
def parse3 (core pre : Str) : Option Ver :=
  match pieces 46 core with
  | [x, y, z] => match num x, num y, num z with
    | some a, some b, some d => some ⟨a, b, d, pre⟩
    | _, _, _ => none
  | _ => none
theorem num_nil : num [] = none := by rfl
theorem num_dot {l : Str} (h : (46 : UInt8) ∈ l) : num l = none := by
  cases hn : num l with
  | none => rfl
  | some n => exact absurd h (num_no hn (by decide))
theorem parse3_of (core pre : Str) : parse3 core pre =
    (let p := cut core [46]
     let q := cut p.2.1 [46]
     match num p.1, num q.1, num q.2.1 with
     | some a, some b, some d => some ⟨a, b, d, pre⟩
     | _, _, _ => none) := by
  unfold parse3
  simp only
  rcases cut_pieces core 46 with ⟨p1, r1, h1, h2, _, _⟩ | ⟨h1, h2, _⟩
  · rw [h1, h2]
    simp only
    rcases cut_pieces r1 46 with ⟨p2, r2, g1, g2, _, _⟩ | ⟨g1, g2, _⟩
    · rw [g1, g2]
      simp only
      rcases cut_pieces r2 46 with ⟨p3, r3, k1, k2, k3, _⟩ | ⟨k1, k2, _⟩
      · rw [k2]
        have : num r2 = none := num_dot (by rw [k3]; simp)
        rw [this]
        cases hpp : pieces 46 r3 with
        | nil => exact absurd hpp (pieces_ne _ _)
        | cons u us => cases num p1 <;> cases num p2 <;> rfl
      · rw [k2]
    · rw [g1, g2]
      simp only [num_nil]
      cases num p1 <;> cases num r1 <;> rfl
  · rw [h1, h2]
    simp only
    rw [show cut ([] : Str) [46] = ([], [], false) from cut_miss [] 46 (by simp)]
    simp only [num_nil]
    cases num core <;> rfl
theorem parse_miss {s : Str} (h : (45 : UInt8) ∉ s) : parseV s = parse3 s [] := by
  rw [parse3_of]; unfold parseV; rw [cut_miss s 45 h]
  simp only [Bool.false_and, Bool.false_eq_true, if_false]
  rfl
theorem parse_hit {p r : Str} (h : (45 : UInt8) ∉ p) : parseV (p ++ 45 :: r) = if rightPre r = true then parse3 p r else none := by
  cases hb : rightPre r with
  | false => rw [if_neg (by simp)]; unfold parseV; rw [cut_hit p r 45 h]; simp [hb]
  | true =>
    rw [if_pos rfl, parse3_of]; unfold parseV; rw [cut_hit p r 45 h]
    simp only [hb, Bool.not_true, Bool.and_false, Bool.false_eq_true, if_false]
    rfl

/-- What the document's loop has found from i on: no '-', or the first one at k. -/
def DashAt (s : Str) (i : Nat) (e : Nat) (pre : Str) : Prop :=
  i ≤ s.length ∧ (((45 : UInt8) ∉ s.drop i ∧ e = s.length ∧ pre = []) ∨ (i ≤ e ∧ e < s.length ∧ s.getD e 0 = 45 ∧ (45 : UInt8) ∉ (s.drop i).take (e - i) ∧ pre = s.drop (e + 1) ∧ pre ≠ []))
theorem DashAt.start (s : Str) : DashAt s s.length s.length [] := ⟨Nat.le_refl _, .inl ⟨by simp, rfl, rfl⟩⟩
theorem drop_cons' {s : Str} {i : Nat} (hi : i < s.length) : s.drop i = s.getD i 0 :: s.drop (i + 1) := by
  rw [List.drop_eq_getElem_cons hi]; simp [List.getD, hi]
theorem DashAt.skip {s : Str} {i e : Nat} {pre : Str} (h : DashAt s (i + 1) e pre) (hne : s.getD i 0 ≠ 45) : DashAt s i e pre := by
  obtain ⟨h0, h⟩ := h
  refine ⟨by omega, ?_⟩
  have hd := drop_cons' (s := s) (i := i) (by omega)
  rcases h with ⟨h1, h2, h3⟩ | ⟨h1, h2, h3, h4, h5, h6⟩
  · refine .inl ⟨?_, h2, h3⟩
    rw [hd]; simp only [List.mem_cons, not_or]; exact ⟨fun e => hne e.symm, h1⟩
  · refine .inr ⟨by omega, h2, h3, ?_, h5, h6⟩
    rw [hd, show e - i = (e - (i + 1)) + 1 by omega, List.take_succ_cons]
    simp only [List.mem_cons, not_or]; exact ⟨fun e => hne e.symm, h4⟩
theorem DashAt.hit {s : Str} {i e : Nat} {pre : Str} (h : DashAt s (i + 1) e pre) (he : s.getD i 0 = 45) (hn : s.drop (i + 1) ≠ []) : DashAt s i i (s.drop (i + 1)) := by
  refine ⟨by have := h.1; omega, .inr ⟨Nat.le_refl _, by have := h.1; omega, he, by simp, rfl, hn⟩⟩
theorem DashAt.le {s : Str} {i e : Nat} {pre : Str} (h : DashAt s i e pre) : e ≤ s.length := by
  rcases h.2 with ⟨_, h, _⟩ | ⟨_, h, _⟩ <;> omega
theorem DashAt.fin {s : Str} {e : Nat} {pre : Str} (h : DashAt s 0 e pre) : parseV s = if (pre.isEmpty || rightPre pre) = true then parse3 (s.take e) pre else none := by
  rcases h.2 with ⟨h1, h2, h3⟩ | ⟨h1, h2, h3, h4, h5, h6⟩
  · subst h2 h3
    rw [parse_miss (by simpa using h1)]
    simp
  · have hp : s = s.take e ++ 45 :: pre := by
      have := drop_parts s 0 e (Nat.zero_le _) h2
      rw [h3, ← h5] at this
      simpa using this
    have hh := parse_hit (p := s.take e) (r := pre) (by simpa using h4)
    rw [← hp] at hh
    rw [hh]
    have : pre.isEmpty = false := by cases pre with
      | nil => exact absurd rfl h6
      | cons x l => rfl
    rw [this, Bool.false_or]
end SemP
namespace Go.Proofs.YtpnbbbhbbnemlaaGreatDoor
open Go.RowKit
open SemP
set_option linter.unusedVariables false
set_option linter.unusedSimpArgs false
set_option maxRecDepth 100000

theorem drew_more {w wr : World} (h : ∃ k, wr = w.drewN k) (n : Nat) : ∃ k, wr.drewN n = w.drewN k := by
  obtain ⟨k, rfl⟩ := h
  exact ⟨k + n, World.drewN_drewN _ _ _⟩
theorem Below.drewN_ (B : Nat) (w : World) (k : Nat) : Below B w (w.drewN k) := ⟨rfl, rfl, rfl, Nat.le_refl _, fun _ _ => rfl⟩
theorem cmpB_int (s t : ByteArray) (i : Nat) (h : i < s.size) (h2 : i < t.size) : cmpB ((bs s).getD i 0) ((bs t).getD i 0) = Lib.compareInt s[i].toNat t[i].toNat := by
  rw [cmpB_eq, Lib.getD_at s i h, Lib.getD_at t i h2]
set_option maxHeartbeats 4000000 in
theorem texts_any (a b : ByteArray) (w : World) (ha : a.size ≤ 1000000000000) (hb : b.size ≤ 1000000000000) :
    Calls Tryz.prog 144 #[.string a, .string b] w fun e w' => e = .returned (.int .i64 (Lib.compareBytes (bs a) (bs b))) ∧ ∃ k, w' = w.drewN k := by
  have HZ : Hid (a.size = (bs a).length) := Lib.hid (Lib.size_eq a)
  have HZ2 : Hid (b.size = (bs b).length) := Lib.hid (Lib.size_eq b)
  have HCB := Lib.hid (compareBytes_eq (bs a) (bs b))
  go_enter Tryz.func144, Tryz.ntmps144
  go_wp2
  go_loopw [5] (fun v5 wr => ∃ (i : Nat), v5 = .int .i64 (i : Int) ∧ Hid (i ≤ a.size ∧ i ≤ b.size) ∧ Hid (RowAt cmpB (bs a) (bs b) i) ∧ Hid (∃ k, wr = w.drewN k)) (fun v _ => a.size - (intOf v).toNat)
  case atStart => exact ⟨0, rfl, Lib.hid ⟨Nat.zero_le _, Nat.zero_le _⟩, Lib.hid (RowAt.start _ _ _), Lib.hid ⟨0, rfl⟩⟩
  case round =>
    obtain ⟨i, rfl, HI, HR, HB⟩ := hrel
    by_cases hia : i < a.size
    · have da : decide ((i : Int) < (a.size : Int)) = true := by simp; omega
      by_cases hib : i < b.size
      · have db : decide ((i : Int) < (b.size : Int)) = true := by simp; omega
        have hadd : IntKind.i64.wrap ((i : Int) + 1) = ((i + 1 : Nat) : Int) := by rw [IntWalk.i64_in _ (by omega)]; omega
        have HL : Hid (i < (bs a).length ∧ i < (bs b).length) := Lib.hid ⟨by rw [← HZ.out]; exact hia, by rw [← HZ2.out]; exact hib⟩
        have HCI := Lib.hid (cmpB_int a b i hia hib)
        by_cases hq : a[i].toNat = b[i].toNat
        · have dq : ((a[i].toNat : Int) == (b[i].toNat : Int)) = true := eq_ints _ _ hq
          have HR2 : Hid (RowAt cmpB (bs a) (bs b) (i + 1)) := Lib.hid (HR.out.next HL.out.1 HL.out.2 0 (by rw [HCI.out, hq]; exact compareInt_tot.refl _))
          clear hq
          go_wp2_with (first | go_quiet (fail) | go_in)
          exact ⟨⟨i + 1, by simp, Lib.hid (by omega), HR2, Lib.hid (drew_more HB.out _)⟩, by simp [intOf]; omega⟩
        · have dq : ((a[i].toNat : Int) == (b[i].toNat : Int)) = false := ne_ints _ _ hq
          have HV : Hid (Lib.compareBytes (bs a) (bs b) = Lib.compareInt a[i].toNat b[i].toNat) := Lib.hid (by
            rw [HCB.out, HR.out.stop HL.out.1 HL.out.2 0 (by rw [HCI.out]; intro e; have := (compareInt_tot.eq _ _).1 e; omega), HCI.out])
          have hwa : IntKind.i64.wrap (a[i].toNat : Int) = (a[i].toNat : Int) := IntWalk.i64_in _ (by have := a[i].toNat_lt; omega)
          have hwb : IntKind.i64.wrap (b[i].toNat : Int) = (b[i].toNat : Int) := IntWalk.i64_in _ (by have := b[i].toNat_lt; omega)
          have HBY := Lib.hid (fun W => by_any (a[i].toNat : Int) (b[i].toNat : Int) W)
          clear hq
          go_wp2_with (first | go_quiet (fail) | go_in)
          have HBQ : Hid (∃ k, wr.drewN nq = w.drewN k) := Lib.hid (drew_more HB.out _)
          generalize wr.drewN nq = wq at *
          go_quiet ((go_at_call 113; refine Calls.quiet_of_same (HBY.out _)))
          go_wp2
          refine bodyPost_ret (results_tmp rfl _ _ _) rfl ⟨by rw [HV.out]; rfl, drew_more HBQ.out _⟩
      · have db : decide ((i : Int) < (b.size : Int)) = false := by simp; omega
        have HV : Hid (Lib.compareBytes (bs a) (bs b) = Lib.compareInt a.size b.size) := Lib.hid (by
          rw [HCB.out, HR.out.fin (by rw [← HZ.out, ← HZ2.out]; omega), ← HZ.out, ← HZ2.out])
        go_wp2_with fail
        refine (by_any (a.size : Int) (b.size : Int) _).mono ?_
        rintro e w' ⟨rfl, rfl⟩
        go_wp2
        refine bodyPost_ret (results_tmp rfl _ _ _) rfl ⟨by rw [HV.out]; rfl, HB.out⟩
    · have da : decide ((i : Int) < (a.size : Int)) = false := by simp; omega
      have HV : Hid (Lib.compareBytes (bs a) (bs b) = Lib.compareInt a.size b.size) := Lib.hid (by
        rw [HCB.out, HR.out.fin (by rw [← HZ.out, ← HZ2.out]; omega), ← HZ.out, ← HZ2.out])
      go_wp2_with fail
      refine (by_any (a.size : Int) (b.size : Int) _).mono ?_
      rintro e w' ⟨rfl, rfl⟩
      go_wp2
      refine bodyPost_ret (results_tmp rfl _ _ _) rfl ⟨by rw [HV.out]; rfl, HB.out⟩
def optV (o : Option Nat) : Value := match o with
  | some n => .tuple #[.int .i64 (n : Int), .bool true]
  | none => .tuple #[.int .i64 0, .bool false]
set_option maxHeartbeats 4000000 in
theorem marks_any (a b : ByteArray) (w : World) (ha : a.size ≤ 1000000000000) (hb : b.size ≤ 1000000000000) :
    Calls Tryz.prog 114 #[.string a, .string b] w fun e w' => e = .returned (.int .i64 (refMarks (bs a) (bs b))) ∧ ∃ k, w' = w.drewN k := by
  have HNA := Lib.hid (Number_any a w)
  have HNB := Lib.hid (Number_any b w)
  have HTX := Lib.hid (texts_any a b w ha hb)
  cases hx : num (bs a) with
  | some m =>
    have HX : Hid (numV (bs a) = .tuple #[.int .i64 (m : Int), .bool true]) := Lib.hid (by unfold numV; rw [hx])
    cases hy : num (bs b) with
    | some n =>
      have HY : Hid (numV (bs b) = .tuple #[.int .i64 (n : Int), .bool true]) := Lib.hid (by unfold numV; rw [hy])
      have HV : Hid (refMarks (bs a) (bs b) = Lib.compareInt m n) := Lib.hid (by unfold refMarks; rw [hx, hy])
      clear hx hy
      go_enter Tryz.func114, Tryz.ntmps114
      go_wp2_with fail
      refine HNA.out.mono ?_
      rintro e w' ⟨rfl, rfl⟩
      rw [HX.out]
      go_wp2_with fail
      refine HNB.out.mono ?_
      rintro e w' ⟨rfl, rfl⟩
      rw [HY.out]
      go_wp2_with fail
      refine (by_any (m : Int) (n : Int) _).mono ?_
      rintro e w' ⟨rfl, rfl⟩
      go_wp2
      refine bodyPost_ret (results_tmp rfl _ _ _) rfl ⟨by rw [HV.out]; rfl, ⟨0, rfl⟩⟩
    | none =>
      have HY : Hid (numV (bs b) = .tuple #[.int .i64 0, .bool false]) := Lib.hid (by unfold numV; rw [hy])
      have HV : Hid (refMarks (bs a) (bs b) = -1) := Lib.hid (by unfold refMarks; rw [hx, hy])
      clear hx hy
      go_enter Tryz.func114, Tryz.ntmps114
      go_wp2_with fail
      refine HNA.out.mono ?_
      rintro e w' ⟨rfl, rfl⟩
      rw [HX.out]
      go_wp2_with fail
      refine HNB.out.mono ?_
      rintro e w' ⟨rfl, rfl⟩
      rw [HY.out]
      go_wp2
      refine bodyPost_ret (results_tmp rfl _ _ _) rfl ⟨by rw [HV.out]; rfl, ⟨0, rfl⟩⟩
  | none =>
    have HX : Hid (numV (bs a) = .tuple #[.int .i64 0, .bool false]) := Lib.hid (by unfold numV; rw [hx])
    cases hy : num (bs b) with
    | some n =>
      have HY : Hid (numV (bs b) = .tuple #[.int .i64 (n : Int), .bool true]) := Lib.hid (by unfold numV; rw [hy])
      have HV : Hid (refMarks (bs a) (bs b) = 1) := Lib.hid (by unfold refMarks; rw [hx, hy])
      clear hx hy
      go_enter Tryz.func114, Tryz.ntmps114
      go_wp2_with fail
      refine HNA.out.mono ?_
      rintro e w' ⟨rfl, rfl⟩
      rw [HX.out]
      go_wp2_with fail
      refine HNB.out.mono ?_
      rintro e w' ⟨rfl, rfl⟩
      rw [HY.out]
      go_wp2
      refine bodyPost_ret (results_tmp rfl _ _ _) rfl ⟨by rw [HV.out]; rfl, ⟨0, rfl⟩⟩
    | none =>
      have HY : Hid (numV (bs b) = .tuple #[.int .i64 0, .bool false]) := Lib.hid (by unfold numV; rw [hy])
      have HV : Hid (refMarks (bs a) (bs b) = Lib.compareBytes (bs a) (bs b)) := Lib.hid (by unfold refMarks; rw [hx, hy])
      clear hx hy
      go_enter Tryz.func114, Tryz.ntmps114
      go_wp2_with fail
      refine HNA.out.mono ?_
      rintro e w' ⟨rfl, rfl⟩
      rw [HX.out]
      go_wp2_with fail
      refine HNB.out.mono ?_
      rintro e w' ⟨rfl, rfl⟩
      rw [HY.out]
      go_wp2_with fail
      refine HTX.out.mono ?_
      rintro e w2 ⟨rfl, hb2⟩
      have HB2 := Lib.hid hb2
      clear hb2
      go_wp2
      refine bodyPost_ret (results_tmp rfl _ _ _) rfl ⟨by rw [HV.out]; rfl, HB2.out⟩
end Go.Proofs.YtpnbbbhbbnemlaaGreatDoor
