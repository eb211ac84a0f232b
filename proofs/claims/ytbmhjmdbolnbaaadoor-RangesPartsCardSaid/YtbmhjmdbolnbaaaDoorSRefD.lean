/-
  CONTRACTS of the document's own package of layer 1: Pre, texts, marks.
-/
import Derived.Test.YtbmhjmdbolnbaaaDoorSRefC
import Derived.Test.YtbmhjmdbolnbaaaDoorSRefM
import Derived.Test.YtbmhjmdbolnbaaaDoorSRefB
namespace Go.Proofs.YtbmhjmdbolnbaaaDoor
open Go.RowKit
open SemP
set_option linter.unusedVariables false
set_option linter.unusedSimpArgs false
set_option maxRecDepth 100000

theorem bs_mk (x : Str) : bs (mk x) = x := rfl
theorem all_getD {l : List Str} {p : Str → Bool} (h : ∀ j, j < l.length → p (l.getD j []) = true) : l.all p = true := by
  rw [List.all_eq_true]
  intro x hx
  obtain ⟨j, hj, rfl⟩ := List.getElem_of_mem hx
  have := h j hj
  simpa [List.getD, hj] using this
theorem rightPre_eq {p : Str} (h : (pieces 46 p).length ≤ 4) : rightPre p = (pieces 46 p).all rightMark := by
  unfold rightPre; rw [decide_eq_true h, Bool.true_and]
theorem rightPre_long {p : Str} (h : ¬ (pieces 46 p).length ≤ 4) : rightPre p = false := by
  unfold rightPre; rw [decide_eq_false h, Bool.false_and]
theorem rightPre_bad {p : Str} {i : Nat} (hi : i < (pieces 46 p).length) (h : rightMark ((pieces 46 p).getD i []) = false) : rightPre p = false := by
  cases hr : rightPre p with
  | false => rfl
  | true =>
    have := rightPre_all hr ((pieces 46 p).getD i []) (by simp [List.getD, hi])
    rw [h] at this; cases this
set_option maxHeartbeats 2000000 in
theorem Pre_any (s : ByteArray) (w : World) (hs : s.size ≤ 1000000000000) :
    Calls Tryd.prog 49 #[.string s] w fun e w' => e = .returned (.bool ((bs s).isEmpty || rightPre (bs s))) ∧ Below w.heap.size w w' := by
  have HSE := Lib.hid (show s.toList.isEmpty = (bs s).isEmpty by rw [ByteArray.toList_eq])
  cases hee : (bs s).isEmpty with
  | true =>
    have hse : s.toList.isEmpty = true := by rw [HSE.out]; exact hee
    clear hee
    go_enter Tryd.func49, Tryd.ntmps49
    go_wp2
    refine bodyPost_ret (results_tmp rfl _ _ _) rfl ⟨rfl, Below.refl _ _⟩
  | false =>
    have hse : s.toList.isEmpty = false := by rw [HSE.out]; exact hee
    clear hee
    have HCUT := Lib.hid (Cut_any s 46 w hs)
    go_enter Tryd.func49, Tryd.ntmps49
    go_wp2_with fail
    refine HCUT.out.mono ?_
    rintro e w1 ⟨v, rfl, ho, hb⟩
    have HO := Lib.hid ho
    have HB := Lib.hid hb
    clear ho hb HCUT
    have HNE : Hid (0 < (pieces 46 (bs s)).length) := Lib.hid (List.length_pos_iff.2 (pieces_ne _ _))
    obtain ⟨g, c, rfl, _, hgl⟩ := HO.out.form HNE.out
    obtain ⟨n, hn⟩ : ∃ n, (pieces 46 (bs s)).length = n := ⟨_, rfl⟩
    have HN := Lib.hid hn
    rw [hn] at HO
    rw [hn]
    clear hn
    by_cases h4 : n ≤ 4
    · have hd4 : decide (4 < (n : Int)) = false := by simp; omega
      have HR : Hid (rightPre (bs s) = (pieces 46 (bs s)).all rightMark) := Lib.hid (rightPre_eq (by rw [HN.out]; exact h4))
      go_wp2
      go_loopw [4] (fun v4 wr => ∃ (i : Nat), i ≤ n ∧ v4 = .int .i64 (i : Int) ∧ Hid (∀ j, j < i → rightMark ((pieces 46 (bs s)).getD j []) = true) ∧ wr = w1) (fun v _ => n - (intOf v).toNat)
      case atStart => exact ⟨0, Nat.zero_le _, rfl, Lib.hid (fun j hj => absurd hj (by omega)), rfl⟩
      case round =>
        obtain ⟨i, hi, rfl, HD, rfl⟩ := hrel
        by_cases him : i < n
        · have hd : decide ((i : Int) < (n : Int)) = true := by simp; omega
          have hadd : IntKind.i64.wrap ((i : Int) + 1) = ((i + 1 : Nat) : Int) := by rw [IntWalk.i64_in _ (by omega)]; omega
          have hc : wr.cell? ⟨g, i, none⟩ = some (strc ((pieces 46 (bs s)).getD i [])) := HO.out.cell him
          have HMK := Lib.hid (mark_any (mk ((pieces 46 (bs s)).getD i [])) wr)
          cases hmk : rightMark ((pieces 46 (bs s)).getD i []) with
          | true =>
            have HD2 : Hid (∀ j, j < i + 1 → rightMark ((pieces 46 (bs s)).getD j []) = true) := Lib.hid (fun j hj => by
              rcases Nat.lt_succ_iff_lt_or_eq.1 hj with h | h
              · exact HD.out j h
              · subst h; exact hmk)
            have HM := Lib.hid hmk
            clear hmk
            go_wp2_with fail
            refine HMK.out.mono ?_
            rintro e w' ⟨rfl, rfl⟩
            rw [bs_mk, HM.out]
            go_wp2
            go_roundw
            case rel => exact ⟨i + 1, by omega, rfl, HD2, trivial⟩
            case measure => simp [intOf]; omega
          | false =>
            have HF : Hid (rightPre (bs s) = false) := Lib.hid (rightPre_bad (by rw [HN.out]; exact him) hmk)
            have HM := Lib.hid hmk
            clear hmk
            go_wp2_with fail
            refine HMK.out.mono ?_
            rintro e w' ⟨rfl, rfl⟩
            rw [bs_mk, HM.out]
            go_wp2
            refine bodyPost_ret (results_tmp rfl _ _ _) rfl ⟨by rw [HF.out]; rfl, HB.out⟩
        · have hd : decide ((i : Int) < (n : Int)) = false := by simp; omega
          have HT : Hid (rightPre (bs s) = true) := Lib.hid (by rw [HR.out]; exact all_getD (fun j hj => HD.out j (by rw [HN.out] at hj; omega)))
          go_wp2
          refine bodyPost_ret (results_tmp rfl _ _ _) rfl ⟨by rw [HT.out]; rfl, HB.out⟩
    · have hd4 : decide (4 < (n : Int)) = true := by simp; omega
      have HF : Hid (rightPre (bs s) = false) := Lib.hid (rightPre_long (by rw [HN.out]; exact h4))
      go_wp2
      refine bodyPost_ret (results_tmp rfl _ _ _) rfl ⟨by rw [HF.out]; rfl, HB.out⟩
end Go.Proofs.YtbmhjmdbolnbaaaDoor
