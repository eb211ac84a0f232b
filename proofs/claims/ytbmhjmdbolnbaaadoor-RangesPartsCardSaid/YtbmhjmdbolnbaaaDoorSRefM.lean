/-
  CONTRACTS of the document's own package of layer 1: mark.
-/
import Derived.Test.YtbmhjmdbolnbaaaDoorSRefN
namespace Go.Proofs.YtbmhjmdbolnbaaaDoor
open Go.RowKit
open SemP
set_option linter.unusedVariables false
set_option linter.unusedSimpArgs false
set_option maxRecDepth 100000

theorem low_at (s : ByteArray) (i : Nat) (h : i < s.size) : low ((bs s).getD i 0) = (decide (97 ≤ s[i].toNat) && decide (s[i].toNat ≤ 122)) := by
  rw [Lib.getD_at s i h]; rfl
set_option maxHeartbeats 2000000 in
theorem mark_any (s : ByteArray) (w : World) :
    Calls Tryd.prog 77 #[.string s] w fun e w' => e = .returned (.bool (rightMark (bs s))) ∧ w' = w := by
  have HZ : Hid (s.size = (bs s).length) := Lib.hid (Lib.size_eq s)
  by_cases h0 : s.size = 0
  · have HR : Hid (rightMark (bs s) = false) := Lib.hid (rightMark_empty (by rw [← HZ.out]; exact h0))
    have hd : ((s.size : Int) == 0) = true := by rw [beq_iff_eq]; omega
    go_enter Tryd.func77, Tryd.ntmps77
    go_wp2
    refine bodyPost_ret (results_tmp rfl _ _ _) rfl ⟨by rw [HR.out]; rfl, rfl⟩
  · have hd : ((s.size : Int) == 0) = false := by rw [beq_eq_false_iff_ne]; omega
    by_cases h10 : s.size ≤ 10
    · have hd6 : decide (10 < (s.size : Int)) = false := by simp; omega
      have HR : Hid (rightMark (bs s) = if allDig (bs s) then plainN (bs s) else (bs s).all (fun b => dig b || low b)) := Lib.hid (rightMark_mid (by rw [← HZ.out]; omega) (by rw [← HZ.out]; exact h10))
      go_enter Tryd.func77, Tryd.ntmps77
      go_wp2
      go_loopw [3, 4] (fun v3 v4 wr => ∃ (i : Nat), i ≤ s.size ∧ v4 = .int .i64 (i : Int) ∧ v3 = .bool (digsTo (bs s) i) ∧ Hid (wordTo (bs s) i = true) ∧ wr = w) (fun _ v _ => s.size - (intOf v).toNat)
      case atStart => exact ⟨0, Nat.zero_le _, rfl, by rw [digsTo_zero], Lib.hid (wordTo_zero _), rfl⟩
      case round =>
        obtain ⟨i, hi, rfl, rfl, HD, rfl⟩ := hrel
        by_cases him : i < s.size
        · have hd : decide ((i : Int) < (s.size : Int)) = true := by simp; omega
          have hadd : IntKind.i64.wrap ((i : Int) + 1) = ((i + 1 : Nat) : Int) := by rw [IntWalk.i64_in _ (by omega)]; omega
          have HA := Lib.hid (dig_at s i him)
          have HLA := Lib.hid (low_at s i him)
          have HLI : Hid (i < (bs s).length) := Lib.hid (by rw [← HZ.out]; exact him)
          cases hdg : dig ((bs s).getD i 0) with
          | true =>
            have HQ : Hid ((decide (48 ≤ s[i].toNat) && decide (s[i].toNat ≤ 57)) = true) := Lib.hid (HA.out.symm.trans hdg)
            have HD2 : Hid (digsTo (bs s) (i + 1) = digsTo (bs s) i) := Lib.hid (by rw [digsTo_succ HLI.out, hdg, Bool.and_true])
            have HW2 : Hid (wordTo (bs s) (i + 1) = true) := Lib.hid (by rw [wordTo_succ HLI.out, HD.out, hdg]; rfl)
            clear hdg
            go_wp2_with fail
            refine (digit_of s[i].toNat true HQ.out _).mono ?_
            rintro e w' ⟨rfl, rfl⟩
            go_wp2
            go_roundw
            case rel => exact ⟨i + 1, by omega, rfl, by rw [HD2.out], HW2, trivial⟩
            case measure => simp [intOf]; omega
          | false =>
            have HQ : Hid ((decide (48 ≤ s[i].toNat) && decide (s[i].toNat ≤ 57)) = false) := Lib.hid (HA.out.symm.trans hdg)
            have HD2 : Hid (digsTo (bs s) (i + 1) = false) := Lib.hid (by rw [digsTo_succ HLI.out, hdg, Bool.and_false])
            have HAF : Hid (allDig (bs s) = false) := Lib.hid (allDig_false HLI.out hdg)
            cases hlw : low ((bs s).getD i 0) with
            | true =>
              have HW2 : Hid (wordTo (bs s) (i + 1) = true) := Lib.hid (by rw [wordTo_succ HLI.out, HD.out, hlw, Bool.or_true]; rfl)
              have hlo : 97 ≤ s[i].toNat ∧ s[i].toNat ≤ 122 := by
                have h := HLA.out.symm.trans hlw
                simp at h; exact h
              have d1 : decide ((s[i].toNat : Int) < 97) = false := by simp; omega
              have d2 : decide (122 < (s[i].toNat : Int)) = false := by simp; omega
              clear hdg hlw
              go_wp2_with fail
              refine (digit_of s[i].toNat false HQ.out _).mono ?_
              rintro e w' ⟨rfl, rfl⟩
              go_wp2
              all_goals first
                | (exfalso; omega)
                | (go_roundw
                   case rel => exact ⟨i + 1, by omega, rfl, by rw [HD2.out], HW2, trivial⟩
                   case measure => simp [intOf]; omega)
            | false =>
              have HF : Hid (rightMark (bs s) = false) := Lib.hid (by
                rw [HR.out, HAF.out]; simp only [Bool.false_eq_true, if_false]
                exact word_false HLI.out (by rw [hdg, hlw]; rfl))
              have hlo : ¬ (97 ≤ s[i].toNat ∧ s[i].toNat ≤ 122) := by
                have h := HLA.out.symm.trans hlw
                simp at h; omega
              clear hdg hlw
              go_wp2_with fail
              refine (digit_of s[i].toNat false HQ.out _).mono ?_
              rintro e w' ⟨rfl, rfl⟩
              go_wp2
              all_goals first
                | (exfalso; omega)
                | (refine bodyPost_ret (results_tmp rfl _ _ _) rfl ⟨by rw [HF.out]; rfl, rfl⟩)
        · have hd : decide ((i : Int) < (s.size : Int)) = false := by simp; omega
          have HWA : Hid ((bs s).all (fun b => dig b || low b) = true) := Lib.hid (by rw [← wordTo_all (k := i) (by rw [← HZ.out]; omega)]; exact HD.out)
          have HDA : Hid (digsTo (bs s) i = allDig (bs s)) := Lib.hid (by
            rw [digsTo_all (by rw [← HZ.out]; omega)]
            unfold allDig
            cases hl : bs s with
            | nil => exact absurd (HZ.out.trans (by rw [hl]; rfl)) h0
            | cons b l => rfl)
          have HNM := Lib.hid (Number_any s wr)
          rw [HDA.out]
          cases hA : allDig (bs s) with
          | false =>
            have HN : Hid (numV (bs s) = .tuple #[.int .i64 0, .bool false]) := Lib.hid (by unfold numV num; rw [hA]; rfl)
            have HF : Hid (rightMark (bs s) = true) := Lib.hid (by rw [HR.out, hA]; simp only [Bool.false_eq_true, if_false]; exact HWA.out)
            clear hA
            go_wp2_with fail
            refine HNM.out.mono ?_
            rintro e w' ⟨rfl, rfl⟩
            rw [HN.out]
            go_wp2
            refine bodyPost_ret (results_tmp rfl _ _ _) rfl ⟨by rw [HF.out]; rfl, rfl⟩
          | true =>
            cases hP : plainN (bs s) with
            | false =>
              have HN : Hid (numV (bs s) = .tuple #[.int .i64 0, .bool false]) := Lib.hid (by unfold numV num; rw [hA, hP]; rfl)
              have HF : Hid (rightMark (bs s) = false) := Lib.hid (by rw [HR.out, hA]; exact hP)
              clear hA hP
              go_wp2_with fail
              refine HNM.out.mono ?_
              rintro e w' ⟨rfl, rfl⟩
              rw [HN.out]
              go_wp2
              refine bodyPost_ret (results_tmp rfl _ _ _) rfl ⟨by rw [HF.out]; rfl, rfl⟩
            | true =>
              have HN : Hid (numV (bs s) = .tuple #[.int .i64 (numOf (bs s) : Int), .bool true]) := Lib.hid (by unfold numV num; rw [hA, hP]; rfl)
              have HF : Hid (rightMark (bs s) = true) := Lib.hid (by rw [HR.out, hA]; exact hP)
              clear hA hP
              go_wp2_with fail
              refine HNM.out.mono ?_
              rintro e w' ⟨rfl, rfl⟩
              rw [HN.out]
              go_wp2
              refine bodyPost_ret (results_tmp rfl _ _ _) rfl ⟨by rw [HF.out]; rfl, rfl⟩
    · have HR : Hid (rightMark (bs s) = false) := Lib.hid (rightMark_long (by rw [← HZ.out]; omega))
      have hd6 : decide (10 < (s.size : Int)) = true := by simp; omega
      go_enter Tryd.func77, Tryd.ntmps77
      go_wp2
      refine bodyPost_ret (results_tmp rfl _ _ _) rfl ⟨by rw [HR.out]; rfl, rfl⟩
end Go.Proofs.YtbmhjmdbolnbaaaDoor
