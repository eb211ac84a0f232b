/-
  CONTRACTS: isLetter, rightName, checkService and its closure.
-/
import Derived.Test.YtebflhlgcpbikaaGreatCAt
import Derived.Test.YtebflhlgcpbikaaGreatCIx
namespace Go.Proofs.YtebflhlgcpbikaaGreat
open Go.RowKit
open SemP
set_option linter.unusedVariables false
set_option linter.unusedSimpArgs false
set_option maxRecDepth 10000
theorem isLetter_is (k : Nat) (q : Bool) (h : (decide (97 ≤ k) && decide (k ≤ 122)) = q) (w : World) : Calls Tryz.prog 73 #[.int .u8 (k : Int)] w fun e w' => e = .returned (.bool q) ∧ w' = w := by
  have H := Lib.hid h
  clear h
  go_enter Tryz.func73, Tryz.ntmps73
  go_wp2
  all_goals (refine bodyPost_ret (results_tmp rfl _ _ _) rfl ⟨?_, rfl⟩)
  all_goals (refine congrArg (fun b => Ending.returned (.bool b)) ?_; rw [← H.out])
  all_goals (rw [Bool.eq_iff_iff]; simp; omega)
theorem dash_at (s : ByteArray) (i : Nat) (h : i < s.size) : ((bs s).getD i 0 == 45) = decide (s[i].toNat = 45) := by
  have e : (bs s).getD i 0 = s[i] := (Lib.getD_at s i h).symm
  rw [e]
  by_cases hb : s[i] = 45
  · rw [hb]; rfl
  · have : s[i].toNat ≠ 45 := fun e => hb (UInt8.toNat_inj.1 (by rw [e]; rfl))
    simp [hb, this]
theorem nameB_no {l : Str} {i : Nat} (hi : i < l.length) (h : nameC (l.getD i 0) = false) : nameB l = false := by
  have : l.all nameC = false := by
    rw [List.all_eq_false]
    exact ⟨l.getD i 0, by simp [List.getD, hi], by rw [h]; simp⟩
  unfold nameB; rw [this, Bool.and_false]
theorem nameB_yes {l : Str} (h0 : 0 < l.length) (h1 : l.length ≤ 20) (h2 : low (l.getD 0 0) = true) (h : ∀ i, i < l.length → nameC (l.getD i 0) = true) : nameB l = true := by
  have h3 : l.all nameC = true := by
    rw [List.all_eq_true]
    intro x hx
    obtain ⟨j, hj, rfl⟩ := List.getElem_of_mem hx
    have := h j hj
    simpa [List.getD, hj] using this
  have h4 : l.isEmpty = false := by cases l; simp at h0; rfl
  unfold nameB; rw [h2, h3, h4, decide_eq_true h1]; rfl
set_option maxHeartbeats 4000000 in
theorem rightName_any (s : ByteArray) (w : World) (hs : s.size ≤ 1000000) :
    Calls Tryz.prog 50 #[.string s] w fun e w' => e = .returned (.bool (nameB (bs s))) ∧ w' = w := by
  have HZ : Hid (s.size = (bs s).length) := Lib.hid (Lib.size_eq s)
  by_cases h0 : s.size = 0
  · have hse : s.toList.isEmpty = true := by
      have h : (bs s).length = 0 := by have := HZ.out; omega
      rw [ByteArray.toList_eq]; exact List.isEmpty_iff_length_eq_zero.2 h
    have HV : Hid (nameB (bs s) = false) := Lib.hid (by
      have h := hse
      rw [ByteArray.toList_eq] at h
      unfold nameB; rw [show (bs s).isEmpty = true from h]; rfl)
    go_enter Tryz.func50, Tryz.ntmps50
    go_wp2
    refine bodyPost_ret (results_tmp rfl _ _ _) rfl ⟨?_, rfl⟩; exact congrArg (fun b => Ending.returned (.bool b)) HV.out.symm
  have hse : s.toList.isEmpty = false := by
    have h : ¬ (bs s).length = 0 := by have := HZ.out; omega
    rw [ByteArray.toList_eq]
    cases he : s.data.toList.isEmpty with
    | false => rfl
    | true => exact absurd (List.isEmpty_iff_length_eq_zero.1 he) h
  by_cases h20 : 20 < s.size
  · have d1 : decide ((20 : Int) < (s.size : Int)) = true := by simp; omega
    have HV : Hid (nameB (bs s) = false) := Lib.hid (by
      unfold nameB; rw [decide_eq_false (by have := HZ.out; omega)]; simp)
    go_enter Tryz.func50, Tryz.ntmps50
    go_wp2
    refine bodyPost_ret (results_tmp rfl _ _ _) rfl ⟨?_, rfl⟩; exact congrArg (fun b => Ending.returned (.bool b)) HV.out.symm
  have d1 : decide ((20 : Int) < (s.size : Int)) = false := by simp; omega
  have hpos : 0 < s.size := by omega
  have HL0 := Lib.hid (low_at s 0 hpos)
  cases hq0 : (decide (97 ≤ (s[0]'hpos).toNat) && decide ((s[0]'hpos).toNat ≤ 122)) with
  | false =>
    have HV : Hid (nameB (bs s) = false) := Lib.hid (by
      unfold nameB; rw [HL0.out, hq0]; simp)
    have HI := Lib.hid (isLetter_is _ _ hq0)
    clear hq0
    go_enter Tryz.func50, Tryz.ntmps50
    go_wp2_with (go_at_call 73; refine (HI.out _).mono ?_; rintro e w' ⟨rfl, rfl⟩)
    refine bodyPost_ret (results_tmp rfl _ _ _) rfl ⟨?_, rfl⟩; exact congrArg (fun b => Ending.returned (.bool b)) HV.out.symm
  | true =>
    have HQ0 : Hid (low ((bs s).getD 0 0) = true) := Lib.hid (by rw [HL0.out, hq0])
    have HI := Lib.hid (isLetter_is _ _ hq0)
    clear hq0
    go_enter Tryz.func50, Tryz.ntmps50
    go_wp2_with (go_at_call 73; refine (HI.out _).mono ?_; rintro e w' ⟨rfl, rfl⟩)
    clear HI
    obtain ⟨w1, hw1⟩ : ∃ w1 : World, w1 = w' := ⟨_, rfl⟩
    subst hw1
    go_loopw [3, 4, 20] (fun _ _ v wr => ∃ i : Nat, i ≤ s.size ∧ v = .int .i64 (i : Int) ∧ wr = w1 ∧ Hid (∀ j, j < i → nameC ((bs s).getD j 0) = true)) (fun _ _ v _ => s.size - (intOf v).toNat)
    case atStart => exact ⟨0, Nat.zero_le _, rfl, rfl, Lib.hid (fun j h => absurd h (by omega))⟩
    case round =>
      obtain ⟨i, hi, rfl, rfl, HN⟩ := hrel
      by_cases him : i < s.size
      · have hd : decide ((i : Int) < (s.size : Int)) = true := by simp; omega
        have hadd : IntKind.i64.wrap ((i : Int) + 1) = ((i + 1 : Nat) : Int) := by rw [IntWalk.i64_in _ (by omega)]; omega
        have HL := Lib.hid (low_at s i him)
        have HD := Lib.hid (dig_at s i him)
        have HS := Lib.hid (dash_at s i him)
        have HNE : Hid (nameC ((bs s).getD i 0) = ((decide (97 ≤ (s[i]'him).toNat) && decide ((s[i]'him).toNat ≤ 122)) || (decide (48 ≤ (s[i]'him).toNat) && decide ((s[i]'him).toNat ≤ 57)) || decide ((s[i]'him).toNat = 45))) := Lib.hid (by unfold nameC; rw [HL.out, HD.out, HS.out])
        have HIL : Hid (i < (bs s).length) := Lib.hid (by rw [← HZ.out]; exact him)
        by_cases c1 : 48 ≤ (s[i]'him).toNat ∧ (s[i]'him).toNat ≤ 57
        · have e1 : decide ((48 : Int) ≤ (((s[i]'him).toNat : Nat) : Int)) = true := by simp; omega
          have e2 : decide ((((s[i]'him).toNat : Nat) : Int) ≤ 57) = true := by simp; omega
          have e2p : ((((s[i]'him).toNat : Nat) : Int) ≤ 57) := by omega
          have HOK : Hid (nameC ((bs s).getD i 0) = true) := Lib.hid (by have hc := c1; rw [HNE.out]; simp; omega)
          clear c1
          go_wp2_with fail
          go_roundw
          case rel => exact ⟨i + 1, by omega, by go_num, trivial, Lib.hid (fun j hj => by
            by_cases e : j = i
            · subst e; exact HOK.out
            · exact HN.out j (by omega))⟩
          case measure => simp [intOf]; omega
        · cases hq : (decide (97 ≤ (s[i]'him).toNat) && decide ((s[i]'him).toNat ≤ 122)) with
          | true =>
            have HI := Lib.hid (isLetter_is _ _ hq)
            have HOK : Hid (nameC ((bs s).getD i 0) = true) := Lib.hid (by rw [HNE.out]; simp at hq; simp; omega)
            have hx : 57 < (s[i]'him).toNat := by simp at hq; omega
            have e1 : decide ((48 : Int) ≤ (((s[i]'him).toNat : Nat) : Int)) = true := by simp; omega
            have e1p : ((48 : Int) ≤ (((s[i]'him).toNat : Nat) : Int)) := by omega
            have e2 : decide ((((s[i]'him).toNat : Nat) : Int) ≤ 57) = false := by simp; omega
            have e2p : ¬ ((((s[i]'him).toNat : Nat) : Int) ≤ 57) := by omega
            clear c1 hq hx
            go_wp2_with (go_at_call 73; refine (HI.out _).mono ?_; rintro e w' ⟨rfl, rfl⟩)
            go_roundw
            case rel => exact ⟨i + 1, by omega, by go_num, trivial, Lib.hid (fun j hj => by
              by_cases e : j = i
              · subst e; exact HOK.out
              · exact HN.out j (by omega))⟩
            case measure => simp [intOf]; omega
          | false =>
            have HI := Lib.hid (isLetter_is _ _ hq)
            by_cases c3 : (s[i]'him).toNat = 45
            · have HOK : Hid (nameC ((bs s).getD i 0) = true) := Lib.hid (by rw [HNE.out]; simp; omega)
              have e1 : decide ((48 : Int) ≤ (((s[i]'him).toNat : Nat) : Int)) = false := by simp; omega
              have e1p : ¬ ((48 : Int) ≤ (((s[i]'him).toNat : Nat) : Int)) := by omega
              have e3 : ((((s[i]'him).toNat : Nat) : Int) != 45) = false := by simp; omega
              clear c1 hq c3
              go_wp2_with (go_at_call 73; refine (HI.out _).mono ?_; rintro e w' ⟨rfl, rfl⟩)
              go_roundw
              case rel => exact ⟨i + 1, by omega, by go_num, trivial, Lib.hid (fun j hj => by
                by_cases e : j = i
                · subst e; exact HOK.out
                · exact HN.out j (by omega))⟩
              case measure => simp [intOf]; omega
            · have e3 : ((((s[i]'him).toNat : Nat) : Int) != 45) = true := by simp; omega
              have HNO : Hid (nameC ((bs s).getD i 0) = false) := Lib.hid (by
                rw [HNE.out]; simp at hq; simp; omega)
              have HV : Hid (nameB (bs s) = false) := Lib.hid (nameB_no HIL.out HNO.out)
              by_cases h48 : 48 ≤ (s[i]'him).toNat
              · have e1 : decide ((48 : Int) ≤ (((s[i]'him).toNat : Nat) : Int)) = true := by simp; omega
                have e2 : decide ((((s[i]'him).toNat : Nat) : Int) ≤ 57) = false := by simp; omega
                have e2p : ¬ ((((s[i]'him).toNat : Nat) : Int) ≤ 57) := by omega
                clear c1 hq c3 h48
                go_wp2_with (go_at_call 73; refine (HI.out _).mono ?_; rintro e w' ⟨rfl, rfl⟩)
                refine bodyPost_ret (results_tmp rfl _ _ _) rfl ⟨?_, rfl⟩; exact congrArg (fun b => Ending.returned (.bool b)) HV.out.symm
              · have e1 : decide ((48 : Int) ≤ (((s[i]'him).toNat : Nat) : Int)) = false := by simp; omega
                clear c1 hq c3 h48
                go_wp2_with (go_at_call 73; refine (HI.out _).mono ?_; rintro e w' ⟨rfl, rfl⟩)
                refine bodyPost_ret (results_tmp rfl _ _ _) rfl ⟨?_, rfl⟩; exact congrArg (fun b => Ending.returned (.bool b)) HV.out.symm
      · have hd : decide ((i : Int) < (s.size : Int)) = false := by simp; omega
        have HV : Hid (nameB (bs s) = true) := Lib.hid (nameB_yes (by rw [← HZ.out]; omega) (by rw [← HZ.out]; omega) HQ0.out (fun j hj => HN.out j (by rw [← HZ.out] at hj; omega)))
        go_wp2_with fail
        refine bodyPost_ret (results_tmp rfl _ _ _) rfl ⟨?_, rfl⟩; exact congrArg (fun b => Ending.returned (.bool b)) HV.out.symm
/-- other.Name == s.Name. -/
theorem sameName_any {w : World} {W : World} {g Bx : Nat} {s t : ByteArray} {v1 v2 : Value} {T : TypeId} (hk : w.heap[g]? = some (.cells #[.string s, v2] T (0, 0))) (hb : Below w.heap.size w W) :
    Calls Tryz.prog 49 #[.agg #[.string t, v1], .pointer (some ⟨g, 0, none⟩)] W fun e w' => e = .returned (.bool (decide (t = s))) ∧ Below w.heap.size w w' := by
  have hg : g < w.heap.size := heapE_lt hk
  obtain ⟨k0, k1, _, _⟩ := row2 ((hb.block g hg).trans hk)
  have hne : g ≠ W.heap.size := by have := hb.size; omega
  have hgW : g < W.heap.size := by have := hb.size; omega
  have HX : Hid (Below w.heap.size w (W.alloc (.cells #[.string t, v1] 70))) := Lib.hid (hb.alloc hb.size _)
  clear hk hb
  by_cases h : t = s
  · subst h
    have HD : Hid (decide (t = t) = true) := Lib.hid (by simp)
    go_enter Tryz.func49, Tryz.ntmps49
    go_wp2_with fail
    go_ret
    exact ⟨congrArg (fun b => Ending.returned (.bool b)) HD.out.symm, HX.out⟩
  · have HD : Hid (decide (t = s) = false) := Lib.hid (decide_eq_false h)
    have h2 : ¬ t.toList = s.toList := fun e => h (toL_inj e)
    have h3 : (t.toList == s.toList) = false := by rw [beq_eq_false_iff_ne]; exact h2
    go_enter Tryz.func49, Tryz.ntmps49
    go_wp2_with fail
    go_ret
    exact ⟨congrArg (fun b => Ending.returned (.bool b)) HD.out.symm, HX.out⟩
end Go.Proofs.YtebflhlgcpbikaaGreat
