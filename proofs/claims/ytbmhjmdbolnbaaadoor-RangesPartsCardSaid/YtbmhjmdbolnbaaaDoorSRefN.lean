/-
  CONTRACTS of the document's own package of layer 1: digit, Number.
-/
import Derived.Test.YtbmhjmdbolnbaaaDoorSNum
namespace Go.Proofs.YtbmhjmdbolnbaaaDoor
open Go.RowKit
open SemP
set_option linter.unusedVariables false
set_option linter.unusedSimpArgs false
set_option maxRecDepth 100000

theorem digit_any (k : Nat) (w : World) : Calls Tryd.prog 78 #[.int .u8 (k : Int)] w fun e w' => e = .returned (.bool (decide (48 ≤ k) && decide (k ≤ 57))) ∧ w' = w := by
  go_enter Tryd.func78, Tryd.ntmps78
  go_wp2
  all_goals (refine bodyPost_ret (results_tmp rfl _ _ _) rfl ⟨?_, rfl⟩)
  · rename_i h
    by_cases h2 : k ≤ 57
    · rw [decide_eq_true (show 48 ≤ k by omega), decide_eq_true h2]; simp; omega
    · rw [decide_eq_true (show 48 ≤ k by omega), decide_eq_false h2]; simp; omega
  · rename_i h
    rw [decide_eq_false (show ¬ 48 ≤ k by omega)]; simp
theorem digit_of (k : Nat) (h : Bool) (hk : (decide (48 ≤ k) && decide (k ≤ 57)) = h) (w : World) : Calls Tryd.prog 78 #[.int .u8 (k : Int)] w fun e w' => e = .returned (.bool h) ∧ w' = w := by
  subst hk; exact digit_any k w
theorem sub48 (k : Nat) (h : 48 ≤ k ∧ k ≤ 57) : IntKind.u8.wrap ((k : Int) - 48) = ((k - 48 : Nat) : Int) := by
  rw [show ((k : Int) - 48) = ((k - 48 : Nat) : Int) by omega]
  exact IntWalk.u8_in _ (by omega)
theorem sum48 (n k m : Nat) (h : 48 ≤ k ∧ k ≤ 57) (hn : n < 1000000) (e : m = 10 * n + (k - 48)) : IntKind.i64.wrap (10 * (n : Int) + ((k - 48 : Nat) : Int)) = (m : Int) := by
  rw [IntWalk.i64_in _ (by omega), e]; omega
/-- The number of the first k bytes. -/
def numTo (l : Str) (k : Nat) : Nat := numOf (l.take k)
theorem numTo_succ {l : Str} {k : Nat} (h : k < l.length) : numTo l (k + 1) = 10 * numTo l k + ((l.getD k 0).toNat - 48) := by
  unfold numTo numOf
  rw [List.take_succ_eq_append_getElem h, numAcc_snoc]
  simp [List.getD, h]
theorem numTo_lt {l : Str} {k : Nat} (h : digsTo l k = true) (hk : k ≤ 6) : numTo l k < 1000000 := by
  unfold numTo
  have h1 := numOf_lt (l.take k) h
  have h2 : 10 ^ (l.take k).length ≤ 10 ^ 6 := Nat.pow_le_pow_right (by omega) (by rw [List.length_take]; omega)
  omega
theorem plain_not (s : ByteArray) (h0 : 0 < s.size) (h6 : s.size ≤ 6) : (¬ ((s[0]'h0).toNat = 48 ∧ 1 < s.size) → plainN (bs s) = true) ∧ ((s[0]'h0).toNat = 48 ∧ 1 < s.size → plainN (bs s) = false) := by
  have h1 := Lib.getD_at s 0 h0
  have h2 : s.size = (bs s).length := Lib.size_eq s
  have h3 := plain_at s h0 h6
  cases hl : bs s with
  | nil => rw [hl] at h2; have h3 : ([] : Str).length = 0 := rfl; omega
  | cons b l =>
    have e : s.data.toList = b :: l := hl
    rw [e, List.getD_cons_zero] at h1
    rw [hl] at h2 h3
    rw [h1] at h3 ⊢
    rw [List.length_cons] at h2
    constructor
    · intro h
      rw [← h3]
      by_cases hb : b.toNat = 48
      · have hb2 : b = 48 := UInt8.toNat_inj.1 (by rw [hb]; rfl)
        have hl0 : l = [] := List.eq_nil_of_length_eq_zero (by omega)
        subst hb2 hl0; rfl
      · have : ((b.toNat : Int) != 48) = true := by rw [bne_iff_ne]; omega
        rw [this, Bool.or_true]
    · rintro ⟨hb, hs⟩
      rw [← h3]
      have hb2 : b = 48 := UInt8.toNat_inj.1 (by rw [hb]; rfl)
      subst hb2
      cases l with
      | nil => simp at h2; omega
      | cons c l => simp
set_option maxHeartbeats 2000000 in
theorem Number_any (s : ByteArray) (w : World) :
    Calls Tryd.prog 50 #[.string s] w fun e w' => e = .returned (numV (bs s)) ∧ w' = w := by
  have HZ : Hid (s.size = (bs s).length) := Lib.hid (Lib.size_eq s)
  by_cases h0 : s.size = 0
  · have HN : Hid (numV (bs s) = .tuple #[.int .i64 0, .bool false]) := Lib.hid (by
      rw [show bs s = [] from List.eq_nil_of_length_eq_zero (by rw [← HZ.out]; exact h0)]; rfl)
    have hd : ((s.size : Int) == 0) = true := by rw [beq_iff_eq]; omega
    go_enter Tryd.func50, Tryd.ntmps50
    go_wp2
    refine bodyPost_ret (results_tmp2 rfl _ _ _) rfl ⟨by rw [HN.out]; rfl, rfl⟩
  · have hd : ((s.size : Int) == 0) = false := by rw [beq_eq_false_iff_ne]; omega
    by_cases h6 : s.size ≤ 6
    · have hd6 : decide (6 < (s.size : Int)) = false := by simp; omega
      go_enter Tryd.func50, Tryd.ntmps50
      go_wp2
      go_loopw [4, 5] (fun v4 v5 wr => ∃ (i : Nat), i ≤ s.size ∧ v5 = .int .i64 (i : Int) ∧ v4 = .int .i64 (numTo (bs s) i : Int) ∧ Hid (digsTo (bs s) i = true) ∧ wr = w) (fun _ v _ => s.size - (intOf v).toNat)
      case atStart => exact ⟨0, Nat.zero_le _, rfl, rfl, Lib.hid (digsTo_zero _), rfl⟩
      case round =>
        obtain ⟨i, hi, rfl, rfl, HD, rfl⟩ := hrel
        by_cases him : i < s.size
        · have hd : decide ((i : Int) < (s.size : Int)) = true := by simp; omega
          have hadd : IntKind.i64.wrap ((i : Int) + 1) = ((i + 1 : Nat) : Int) := by rw [IntWalk.i64_in _ (by omega)]; omega
          have HA := Lib.hid (dig_at s i him)
          have HLI : Hid (i < (bs s).length) := Lib.hid (by rw [← HZ.out]; exact him)
          have HGD : Hid ((bs s).getD i 0 = s[i]) := Lib.hid (Lib.getD_at s i him).symm
          cases hdg : dig ((bs s).getD i 0) with
          | false =>
            have HN : Hid (numV (bs s) = .tuple #[.int .i64 0, .bool false]) := Lib.hid (by
              unfold numV num; rw [allDig_false HLI.out hdg]; rfl)
            have HQ : Hid ((decide (48 ≤ s[i].toNat) && decide (s[i].toNat ≤ 57)) = false) := Lib.hid (HA.out.symm.trans hdg)
            clear hdg
            go_wp2_with fail
            refine (digit_of s[i].toNat false HQ.out _).mono ?_
            rintro e w' ⟨rfl, rfl⟩
            go_wp2
            refine bodyPost_ret (results_tmp2 rfl _ _ _) rfl ⟨by rw [HN.out]; rfl, rfl⟩
          | true =>
            have HQ : Hid ((decide (48 ≤ s[i].toNat) && decide (s[i].toNat ≤ 57)) = true) := Lib.hid (HA.out.symm.trans hdg)
            have HD2 : Hid (digsTo (bs s) (i + 1) = true) := Lib.hid (by rw [digsTo_succ HLI.out, HD.out, hdg]; rfl)
            have hlo : 48 ≤ s[i].toNat ∧ s[i].toNat ≤ 57 := by have := HQ.out; simp at this; exact this
            have hlt := numTo_lt HD.out (show i ≤ 6 by omega)
            have HNS : Hid (numTo (bs s) (i + 1) = 10 * numTo (bs s) i + (s[i].toNat - 48)) := Lib.hid (by rw [numTo_succ HLI.out, HGD.out])
            clear hdg
            go_wp2_with fail
            refine (digit_of s[i].toNat true HQ.out _).mono ?_
            rintro e w' ⟨rfl, rfl⟩
            have e8 := sub48 s[i].toNat hlo
            have e9 : IntKind.i64.wrap (10 * (numTo (bs s) i : Int)) = 10 * (numTo (bs s) i : Int) := IntWalk.i64_in _ (by omega)
            have e10 := sum48 (numTo (bs s) i) s[i].toNat (numTo (bs s) (i + 1)) hlo hlt HNS.out
            clear e10
            go_wp2
            go_roundw
            case rel => exact ⟨i + 1, by omega, rfl, congrArg (Value.int .i64) (by have := HNS.out; omega), HD2, trivial⟩
            case measure => simp [intOf]; omega
        · have hd : decide ((i : Int) < (s.size : Int)) = false := by simp; omega
          have HAD : Hid (allDig (bs s) = true) := Lib.hid (by
            unfold allDig
            rw [← digsTo_all (k := i) (by rw [← HZ.out]; omega), HD.out]
            cases hl : bs s with
            | nil => exact absurd (HZ.out.trans (by rw [hl]; rfl)) h0
            | cons b l => rfl)
          have HNO : Hid (numTo (bs s) i = numOf (bs s)) := Lib.hid (by unfold numTo; rw [List.take_of_length_le (by rw [← HZ.out]; omega)])
          have hp : 0 < s.size := by omega
          have HP := Lib.hid (plain_not s hp h6)
          by_cases hq : (s[0]'hp).toNat = 48 ∧ 1 < s.size
          · have HN : Hid (numV (bs s) = .tuple #[.int .i64 0, .bool false]) := Lib.hid (by
              unfold numV num; rw [HP.out.2 hq, Bool.and_false]; rfl)
            have d1 : (((s[0]'hp).toNat : Int) == 48) = true := by rw [beq_iff_eq]; omega
            have d2 : decide (1 < (s.size : Int)) = true := by simp; omega
            clear hq
            go_wp2
            refine bodyPost_ret (results_tmp2 rfl _ _ _) rfl ⟨by rw [HN.out]; rfl, rfl⟩
          · have HN : Hid (numV (bs s) = .tuple #[.int .i64 (numTo (bs s) i : Int), .bool true]) := Lib.hid (by
              unfold numV num; rw [HP.out.1 hq, HAD.out, HNO.out]; rfl)
            by_cases h48 : (s[0]'hp).toNat = 48
            · have d1 : (((s[0]'hp).toNat : Int) == 48) = true := by rw [beq_iff_eq]; omega
              have d2 : decide (1 < (s.size : Int)) = false := by simp; omega
              clear hq h48
              go_wp2
              refine bodyPost_ret (results_tmp2 rfl _ _ _) rfl ⟨by rw [HN.out]; rfl, rfl⟩
            · have d1 : (((s[0]'hp).toNat : Int) == 48) = false := by rw [beq_eq_false_iff_ne]; omega
              clear hq h48
              go_wp2
              refine bodyPost_ret (results_tmp2 rfl _ _ _) rfl ⟨by rw [HN.out]; rfl, rfl⟩
    · have HN : Hid (numV (bs s) = .tuple #[.int .i64 0, .bool false]) := Lib.hid (by
        unfold numV num; rw [plainN_big (by rw [← HZ.out]; omega), Bool.and_false]; rfl)
      have hd6 : decide (6 < (s.size : Int)) = true := by simp; omega
      go_enter Tryd.func50, Tryd.ntmps50
      go_wp2
      refine bodyPost_ret (results_tmp2 rfl _ _ _) rfl ⟨by rw [HN.out]; rfl, rfl⟩
end Go.Proofs.YtbmhjmdbolnbaaaDoor
