/-
  RANGES: contracts: Right, end, has.
-/
import Derived.Test.YtpnbbbhbbnemlaaGreatDoorRPure
namespace Go.Proofs.YtpnbbbhbbnemlaaGreatDoor
open Go.RowKit
open SemP
set_option linter.unusedVariables false
set_option linter.unusedSimpArgs false
set_option maxRecDepth 100000

abbrev lsAt (r : List (List CV)) (j : Nat) : List CV := r.getD j []
/-- A slice of lists reads, in w, as r. -/
def RdR (w : World) (B : Nat) (A : Option Addr) (m : Nat) (r : List (List CV)) : Prop := r.length = m ∧ ∀ j, j < m → ∃ b off Aj nj cj, A = some ⟨b, off, none⟩ ∧ b < B ∧ w.cell? ⟨b, off + j, none⟩ = some (.slice Aj nj cj) ∧ RdC w B Aj nj (lsAt r j)
theorem RdR.below {w w' : World} {B m : Nat} {A : Option Addr} {r : List (List CV)} (h : RdR w B A m r) (hb : Below B w w') : RdR w' B A m r := ⟨h.1, fun j hj => by
  obtain ⟨b, off, Aj, nj, cj, e, hlt, h0, h1⟩ := h.2 j hj
  exact ⟨b, off, Aj, nj, cj, e, hlt, (hb.cell hlt).trans h0, h1.below hb⟩⟩
def Fits (r : List (List CV)) : Prop := ∀ l ∈ r, Short l ∧ l.length ≤ 1000000
theorem lsAt_mem {r : List (List CV)} {j : Nat} (h : j < r.length) : lsAt r j ∈ r := by simp [lsAt, List.getD, h]
theorem allR_at {r : List (List CV)} {p : List CV → Bool} (h : ∀ j, j < r.length → p (lsAt r j) = true) : r.all p = true := by
  rw [List.all_eq_true]
  intro x hx
  obtain ⟨j, hj, rfl⟩ := List.getElem_of_mem hx
  have := h j hj
  simpa [lsAt, List.getD, hj] using this
theorem allR_not {r : List (List CV)} {p : List CV → Bool} {j : Nat} (hj : j < r.length) (h : p (lsAt r j) = false) : r.all p = false := by
  cases ha : r.all p with
  | false => rfl
  | true => have := List.all_eq_true.1 ha _ (lsAt_mem hj); rw [h] at this; cases this
set_option maxHeartbeats 4000000 in
theorem RgRight_any (A : Option Addr) (m cp : Nat) (r : List (List CV)) (w : World) (B : Nat) (hr : RdR w B A m r) (hB : B ≤ w.heap.size) (hf : Fits r) (hmm : m ≤ 1000000) (hm : LenAt w) (h1 : 1 < w.heap.size) :
    Calls Tryz.prog 13 #[.agg #[.slice A m cp]] w fun e w' => e = .returned (.bool (rightR r)) ∧ Below w.heap.size w w' := by
  obtain ⟨W0, hW0⟩ : ∃ W0, w.alloc (.cells #[.slice A m cp] 24) = W0 := ⟨_, rfl⟩
  have hb0 : Below w.heap.size w W0 := by rw [← hW0]; exact (Below.refl _ w).alloc (Nat.le_refl _) _
  have hX : W0.heap[w.heap.size]? = some (.cells #[.slice A m cp] 24) := by rw [← hW0]; exact World.alloc_heap_new _ _
  have HM0 := Lib.hid (hm.below h1 hb0)
  have HB0 := Lib.hid hb0
  have HW0 := Lib.hid hW0
  have HR0 : Hid (RdR W0 B A m r) := Lib.hid (hr.below (hb0.mono hB))
  have HLE := Lib.hid hr.1
  have HF := Lib.hid hf
  have HBB : Hid (B ≤ W0.heap.size) := Lib.hid (Nat.le_trans hB hb0.size)
  have HV := Lib.hid (show rightR r = (decide (1 ≤ r.length) && decide (r.length ≤ 8) && r.all rightL) from rfl)
  have HBW : Hid (Below w.heap.size w (w.alloc (.cells #[.slice A m cp] 24))) := Lib.hid (by rw [hW0]; exact hb0)
  clear hr hf hm h1 hB hb0 hX hW0
  by_cases hn1 : m < 1
  · have d1 : decide ((m : Int) < 1) = true := decide_eq_true (by omega)
    have HQ : Hid (rightR r = false) := Lib.hid (by rw [HV.out, HLE.out, decide_eq_false (show ¬ 1 ≤ m by omega)]; rfl)
    go_enter Tryz.func13, Tryz.ntmps13
    go_wp2
    refine bodyPost_ret (results_tmp rfl _ _ _) rfl ⟨by rw [HQ.out]; rfl, HBW.out⟩
  · have d1 : decide ((m : Int) < 1) = false := decide_eq_false (by omega)
    by_cases hn8 : 8 < m
    · have d2 : decide (8 < (m : Int)) = true := decide_eq_true (by omega)
      have HQ : Hid (rightR r = false) := Lib.hid (by rw [HV.out, HLE.out, decide_eq_false (show ¬ m ≤ 8 by omega), Bool.and_false]; rfl)
      go_enter Tryz.func13, Tryz.ntmps13
      go_wp2
      refine bodyPost_ret (results_tmp rfl _ _ _) rfl ⟨by rw [HQ.out]; rfl, HBW.out⟩
    · have d2 : decide (8 < (m : Int)) = false := decide_eq_false (by omega)
      have HV2 : Hid (rightR r = r.all rightL) := Lib.hid (by rw [HV.out, HLE.out, decide_eq_true (show 1 ≤ m by omega), decide_eq_true (show m ≤ 8 by omega)]; rfl)
      go_enter Tryz.func13, Tryz.ntmps13
      go_wp2
      try rw [show w.alloc (.cells #[.slice A m cp] 24) = W0 from HW0.out]
      go_loopw [4, 18] (fun v4 v18 wr => ∃ (i : Nat), i ≤ m ∧ v18 = .int .i64 (i : Int) ∧ Hid (∀ j, j < i → rightL (lsAt r j) = true) ∧ Hid (Below W0.heap.size W0 wr)) (fun _ v _ => m - (intOf v).toNat)
      case atStart => exact ⟨0, Nat.zero_le _, rfl, Lib.hid (fun j hj => absurd hj (by omega)), Lib.hid (Below.refl _ _)⟩
      case round =>
        obtain ⟨i, hi, rfl, HD, HB⟩ := hrel
        by_cases him : i < m
        · have hd : decide ((i : Int) < (m : Int)) = true := decide_eq_true (by omega)
          have hadd : IntKind.i64.wrap ((i : Int) + 1) = ((i + 1 : Nat) : Int) := by rw [IntWalk.i64_in _ (by omega)]; omega
          have HRr : Hid (RdR wr B A m r) := Lib.hid (HR0.out.below (HB.out.mono HBB.out))
          obtain ⟨b, off, Aj, nj, cj, rfl, hlt, q0, hrc⟩ := HRr.out.2 i him
          have HRC := Lib.hid hrc
          have HMr := Lib.hid (HM0.out.1.below HM0.out.2 HB.out)
          have HIL : Hid (i < r.length) := Lib.hid (by rw [HLE.out]; exact him)
          have HFI := Lib.hid (HF.out _ (lsAt_mem HIL.out))
          have HC := Lib.hid (rightList_any Aj nj cj (lsAt r i) wr B hrc (Nat.le_trans HBB.out HB.out.size) HFI.out.1 (by rw [← hrc.1]; exact HFI.out.2) HMr.out.1 HMr.out.2)
          clear hrc
          go_wp2_with fail
          refine HC.out.mono ?_
          rintro e W2 ⟨rfl, hb⟩
          have HB2 : Hid (Below W0.heap.size W0 W2) := Lib.hid (HB.out.trans (hb.mono HB.out.size))
          clear hb HC
          cases hcr : rightL (lsAt r i) with
          | true =>
            have HD2 : Hid (∀ j, j < i + 1 → rightL (lsAt r j) = true) := Lib.hid (fun j hj => by
              rcases Nat.lt_succ_iff_lt_or_eq.1 hj with h | h
              · exact HD.out j h
              · subst h; exact hcr)
            clear hcr q0
            go_wp2
            go_roundw
            case rel => exact ⟨i + 1, by omega, rfl, HD2, HB2⟩
            case measure => simp [intOf]; omega
          | false =>
            have HQ : Hid (rightR r = false) := Lib.hid (by rw [HV2.out]; exact allR_not HIL.out hcr)
            clear hcr q0
            go_wp2
            refine bodyPost_ret (results_tmp rfl _ _ _) rfl ⟨by rw [HQ.out]; rfl, HB0.out.trans (HB2.out.mono HB0.out.size)⟩
        · have hd : decide ((i : Int) < (m : Int)) = false := decide_eq_false (by omega)
          have HT : Hid (rightR r = true) := Lib.hid (by rw [HV2.out]; exact allR_at (fun j hj => HD.out j (by rw [HLE.out] at hj; omega)))
          go_wp2
          refine bodyPost_ret (results_tmp rfl _ _ _) rfl ⟨by rw [HT.out]; rfl, HB0.out.trans (HB.out.mono HB0.out.size)⟩

/-! ### The upper end -/
/-- Which number a caret or a tilde bumps. -/
def partOf (op : Int) (v : Ver) : Int := if op = 7 then 1 else if 0 < v.major then 0 else if 0 < v.minor then 1 else 2
def endR (op : Int) (v : Ver) : Option Ver := if Ver.right ⟨v.major, v.minor, v.patch, []⟩ = true ∧ (Ver.bump ⟨v.major, v.minor, v.patch, []⟩ (partOf op v)).right = true then some (Ver.bump ⟨v.major, v.minor, v.patch, []⟩ (partOf op v)) else none
def endV : Option Ver → Value
  | some v => .tuple #[Ver.val v, .bool true]
  | none => .tuple #[verV 0 0 0 ⟨#[]⟩, .bool false]
theorem partOf_range (op : Int) (v : Ver) : 0 ≤ partOf op v ∧ partOf op v ≤ 2 := by
  unfold partOf; split
  · omega
  · split
    · omega
    · split <;> omega
theorem end_bump (op : Int) (v : Ver) : ∃ (x y z k : Int), bumpR ⟨v.major, v.minor, v.patch, []⟩ (partOf op v) = .tuple #[verV x y z ⟨#[]⟩, .int .i64 k] ∧ endV (endR op v) = .tuple #[verV x y z ⟨#[]⟩, .bool (k == 0)] := by
  have hp := partOf_range op v
  unfold bumpR endR
  by_cases h1 : Ver.right ⟨v.major, v.minor, v.patch, []⟩ = true
  · rw [if_pos ⟨h1, hp⟩]
    by_cases h2 : (Ver.bump ⟨v.major, v.minor, v.patch, []⟩ (partOf op v)).right = true
    · rw [if_pos h2, if_pos ⟨h1, h2⟩]
      have hl := bump_len ⟨v.major, v.minor, v.patch, []⟩ (partOf op v)
      cases hv : Ver.bump ⟨v.major, v.minor, v.patch, []⟩ (partOf op v) with
      | mk x y z q =>
        rw [hv] at hl; simp only at hl; subst hl
        exact ⟨x, y, z, 0, rfl, rfl⟩
    · rw [if_neg h2, if_neg (fun h => h2 h.2)]
      exact ⟨0, 0, 0, 11, rfl, rfl⟩
  · rw [if_neg (fun h => h1 h.1), if_neg (fun h => h1 h.1)]
    exact ⟨0, 0, 0, 12, rfl, rfl⟩
end Go.Proofs.YtpnbbbhbbnemlaaGreatDoor
