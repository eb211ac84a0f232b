/-
  CONTRACTS of the sort's parts at sets: reverseRange.
  CONTRACTS of the sort's parts at sets: siftDown (printed by genlsrtc.py).
  WORDS for the sort's parts at sets: one call behind another.
  CONTRACTS of the sort's parts at sets: heapSort; and the words for what makes memory.
  CONTRACTS of the sort's parts at sets: order2, median, medianAdjacent, choosePivot.
  CONTRACTS of the sort's parts at sets: nextPowerOfTwo, xorshift's Next, breakPatterns.
  CONTRACTS of the sort's parts at sets: nextPowerOfTwo, breakPatterns (printed by genlsrtg2.py).
-/
import Derived.Test.YtfcabdgidlnljaaDoorLSort
import Derived.Sort.WalkB3
import Derived.Sort.LotB
import Derived.RangeFuncRecord
import Derived.Sort.LotD1
import Derived.Laws.Bits64
import Derived.Laws.Bits64b
import Derived.Lib.ItoaNum
namespace Go.Proofs.YtfcabdgidlnljaaDoor
open Go.RowKit Go.Sort
set_option linter.unusedVariables false
set_option linter.unusedSimpArgs false
set_option maxRecDepth 100000
set_option maxHeartbeats 4000000 in
theorem reverse_any (blk off cap a b : Nat) (d : Array Int) (w : World) (hH : Holds eU w blk off d) (h1 : 1 ≤ b) (hb : b ≤ d.size) (hsz : d.size < 1000000) (ha : a ≤ b) :
    Calls Tryd.prog 54 #[.slice (some ⟨blk, off, none⟩) d.size cap, .int .i64 a, .int .i64 b] w fun e w' => e = .returned (.tuple #[]) ∧ RowS w blk off (reverseRange d a b) w' := by
  have HH := Lib.hid hH
  have hb1 : IntKind.i64.wrap ((b : Int) - 1) = ((b - 1 : Nat) : Int) := by rw [IntWalk.i64_in _ (by omega)]; omega
  clear hH
  go_enter Tryd.func54, Tryd.ntmps54
  go_wp2
  go_loopw [6, 7] (fun vi vj wr => ∃ (i j : Nat) (dk : Array Int), vi = .int .i64 i ∧ vj = .int .i64 j ∧ i ≤ b ∧ j ≤ b - 1 ∧ dk.size = d.size ∧ Hid (RowS w blk off dk wr) ∧ Hid (reverseLoop i j dk = reverseLoop a (b - 1) d)) (fun vi vj _ => (intOf vj + 1 - intOf vi).toNat)
  case atStart => exact ⟨a, b - 1, d, rfl, by go_num, by omega, Nat.le_refl _, rfl, Lib.hid ⟨0, (putRow_self _ _ _ _ _ HH.out).symm⟩, Lib.hid rfl⟩
  case round =>
    obtain ⟨i, j, dk, rfl, rfl, hib, hjb, hsk, HR, HO⟩ := hrel
    by_cases hlt : i < j
    · have hd : decide ((i : Int) < (j : Int)) = true := decide_eq_true (by omega)
      obtain ⟨m, hm⟩ := HR.out
      obtain ⟨V, hV⟩ : ∃ V : Nat → Int, ∀ t, V t = dk[t]! := ⟨fun t => dk[t]!, fun _ => rfl⟩
      have hcw : ∀ t, t < d.size → wr.cell? ⟨blk, off + t, none⟩ = some (.int .u64 (V t)) := fun t ht => by
        rw [hm, hV]; exact cell?_putRow _ _ _ _ d dk (holds_ahead _ _ _ _ _ _ HH.out) hsk t (by omega)
      have hfw : ∀ t, t < d.size → wr.frozen? ⟨blk, off + t, none⟩ = false := fun t ht => by
        rw [hm, frozen?_putRow]; exact ((holds_ahead _ _ m _ _ _ HH.out) t ht).2
      have HV := Lib.hid hV
      have hci := hcw i (by omega)
      have hcj := hcw j (by omega)
      have hfi := hfw i (by omega)
      have hfj := hfw j (by omega)
      have hil : (i : Int) < (d.size : Int) := by omega
      have hjl : (j : Int) < (d.size : Int) := by omega
      have hj1 : IntKind.i64.wrap ((j : Int) - 1) = ((j - 1 : Nat) : Int) := by rw [IntWalk.i64_in _ (by omega)]; omega
      have hi1 : IntKind.i64.wrap ((i : Int) + 1) = ((i + 1 : Nat) : Int) := by rw [IntWalk.i64_in _ (by omega)]; omega
      have HLT := Lib.hid hlt
      clear hm hV
      go_wp2_with fail
      go_region
      all_goals go_wp2
      go_roundw
      case rel =>
        refine ⟨i + 1, j - 1, swp dk i j, by go_num, by go_num, by omega, by omega, by rw [size_swp]; exact hsk, Lib.hid ?_, Lib.hid ?_⟩
        · have h := (HR.out.drew 1).swap (j := i) (k := j) (by omega) (by omega)
          rw [← HV.out, ← HV.out] at h
          exact h
        · rw [← HO.out]; conv => rhs; rw [reverseLoop, if_pos HLT.out]
      case measure => simp [intOf]; omega
    · have hd : decide ((i : Int) < (j : Int)) = false := decide_eq_false (by omega)
      have HE : Hid (reverseRange d a b = dk) := Lib.hid (by unfold reverseRange; rw [← HO.out, reverseLoop, if_neg hlt])
      go_wp2
      go_end0
      exact ⟨rfl, by rw [HE.out]; exact HR.out⟩
end Go.Proofs.YtfcabdgidlnljaaDoor
namespace Go.Proofs.YtfcabdgidlnljaaDoor
open Go.RowKit Go.Sort
set_option linter.unusedVariables false
set_option linter.unusedSimpArgs false
set_option maxRecDepth 100000
section
variable (lt : Int → Int → Bool)
theorem sft_end {hi F r : Nat} {d : Array Int} (h : hi ≤ 2 * r + 1) : siftDown lt hi F r d = d := by rw [siftDown, dif_pos h]
theorem sft_left {hi F r : Nat} {d : Array Int} (h : 2 * r + 1 < hi) (hc : ¬ 2 * r + 2 < hi ∨ lt d[F + (2 * r + 1)]! d[F + (2 * r + 2)]! = false) :
    siftDown lt hi F r d = if lt d[F + r]! d[F + (2 * r + 1)]! = true then siftDown lt hi F (2 * r + 1) (swp d (F + r) (F + (2 * r + 1))) else d := by
  rw [siftDown, dif_neg (by omega), if_neg]
  · cases lt d[F + r]! d[F + (2 * r + 1)]! <;> rfl
  · rw [Bool.and_eq_true, decide_eq_true_eq]
    rintro ⟨h1, h2⟩
    rcases hc with hc | hc
    · omega
    · rw [show F + (2 * r + 1) + 1 = F + (2 * r + 2) by omega, hc] at h2; cases h2
theorem sft_right {hi F r : Nat} {d : Array Int} (h : 2 * r + 2 < hi) (hc : lt d[F + (2 * r + 1)]! d[F + (2 * r + 2)]! = true) :
    siftDown lt hi F r d = if lt d[F + r]! d[F + (2 * r + 2)]! = true then siftDown lt hi F (2 * r + 2) (swp d (F + r) (F + (2 * r + 2))) else d := by
  rw [siftDown, dif_neg (by omega), if_pos]
  · cases h3 : lt d[F + r]! d[F + (2 * r + 2)]! with
    | false => rfl
    | true => simp [h]
  · rw [Bool.and_eq_true, decide_eq_true_eq]
    exact ⟨by omega, by rw [show F + (2 * r + 1) + 1 = F + (2 * r + 2) by omega]; exact hc⟩
end
set_option maxHeartbeats 8000000 in
theorem sift_any (blk off cap lo hi F : Nat) (d : Array Int) (w : World) (hH : Holds eU w blk off d) (hlo : lo ≤ hi) (hb : F + hi ≤ d.size) (hsz : d.size < 1000000) :
    Calls Tryd.prog 61 #[.slice (some ⟨blk, off, none⟩) d.size cap, .int .i64 lo, .int .i64 hi, .int .i64 F] w fun e w' => e = .returned (.tuple #[]) ∧ RowS w blk off (siftDown ltInt hi F lo d) w' := by
  have HH := Lib.hid hH
  clear hH
  go_enter Tryd.func61, Tryd.ntmps61
  go_wp2
  go_loopw [8] (fun s8 wr => ∃ (r : Nat) (dk : Array Int), s8 = .int .i64 r ∧ r ≤ hi ∧ dk.size = d.size ∧ Hid (RowS w blk off dk wr) ∧ Hid (siftDown ltInt hi F r dk = siftDown ltInt hi F lo d)) (fun s8 _ => hi - (intOf s8).toNat)
  case atStart => exact ⟨lo, d, rfl, hlo, rfl, Lib.hid ⟨0, (putRow_self _ _ _ _ _ HH.out).symm⟩, Lib.hid rfl⟩
  case round =>
    obtain ⟨r, dk, rfl, hr, hsk, HR, HO⟩ := hrel
    obtain ⟨m, hm⟩ := HR.out
    obtain ⟨V, hV⟩ : ∃ V : Nat → Int, ∀ t, V t = dk[t]! := ⟨fun t => dk[t]!, fun _ => rfl⟩
    have hcw : ∀ t, t < d.size → wr.cell? ⟨blk, off + t, none⟩ = some (.int .u64 (V t)) := fun t ht => by
      rw [hm, hV]; exact cell?_putRow _ _ _ _ d dk (holds_ahead _ _ _ _ _ _ HH.out) hsk t (by omega)
    have hfw : ∀ t, t < d.size → wr.frozen? ⟨blk, off + t, none⟩ = false := fun t ht => by
      rw [hm, frozen?_putRow]; exact ((holds_ahead _ _ m _ _ _ HH.out) t ht).2
    have HV := Lib.hid hV
    clear hm hV
    have e1 : IntKind.i64.wrap (2 * (r : Int)) = 2 * (r : Int) := IntWalk.i64_in _ (by omega)
    have e2 : IntKind.i64.wrap (2 * (r : Int) + 1) = ((2 * r + 1 : Nat) : Int) := by rw [IntWalk.i64_in _ (by omega)]; omega
    by_cases h0 : hi ≤ 2 * r + 1
    · have hd : decide ((hi : Int) ≤ ((2 * r + 1 : Nat) : Int)) = true := decide_eq_true (by omega)
      have HE : Hid (siftDown ltInt hi F lo d = dk) := Lib.hid (by rw [← HO.out]; exact sft_end ltInt h0)
      go_wp2
      go_end0
      exact ⟨rfl, by rw [HE.out]; exact HR.out⟩
    · have hd : decide ((hi : Int) ≤ ((2 * r + 1 : Nat) : Int)) = false := decide_eq_false (by omega)
      obtain ⟨c1, hc1⟩ : ∃ c1, 2 * r + 1 = c1 := ⟨_, rfl⟩
      have Hc1 := Lib.hid hc1
      obtain ⟨c2, hc2⟩ : ∃ c2, c1 + 1 = c2 := ⟨_, rfl⟩
      obtain ⟨a0, ha0⟩ : ∃ a0, F + r = a0 := ⟨_, rfl⟩
      obtain ⟨a1, ha1⟩ : ∃ a1, F + c1 = a1 := ⟨_, rfl⟩
      obtain ⟨a2, ha2⟩ : ∃ a2, F + c2 = a2 := ⟨_, rfl⟩
      have HEQ : Hid (2 * r + 1 = c1 ∧ c1 + 1 = c2 ∧ F + r = a0 ∧ F + c1 = a1 ∧ F + c2 = a2) := Lib.hid ⟨hc1, hc2, ha0, ha1, ha2⟩
      have e3 : IntKind.i64.wrap ((c1 : Int) + 1) = (c2 : Int) := by rw [IntWalk.i64_in _ (by omega)]; omega
      have e4 : IntKind.i64.wrap ((F : Int) + (c1 : Int)) = (a1 : Int) := by rw [IntWalk.i64_in _ (by omega)]; omega
      have e5 : IntKind.i64.wrap ((a1 : Int) + 1) = (a2 : Int) := by rw [IntWalk.i64_in _ (by omega)]; omega
      have e6 : IntKind.i64.wrap ((F : Int) + (r : Int)) = (a0 : Int) := by rw [IntWalk.i64_in _ (by omega)]; omega
      have e7 : IntKind.i64.wrap ((F : Int) + (c2 : Int)) = (a2 : Int) := by rw [IntWalk.i64_in _ (by omega)]; omega
      rw [hc1] at e2 hd
      have e2b : 2 * (r : Int) + 1 = (c1 : Int) := by omega
      have e3b : (c1 : Int) + 1 = (c2 : Int) := by omega
      have l1 : (a1 : Int) < (d.size : Int) := by omega
      have l3 : (a0 : Int) < (d.size : Int) := by omega
      have n1 : (0 : Int) ≤ (a1 : Int) := by omega
      have n2 : (0 : Int) ≤ (a2 : Int) := by omega
      have n3 : (0 : Int) ≤ (a0 : Int) := by omega
      have q1 := hcw a1 (by omega)
      have q3 := hcw a0 (by omega)
      have f1 := hfw a1 (by omega)
      have f3 := hfw a0 (by omega)
      by_cases h1 : c2 < hi
      · have hd1 : decide ((c2 : Int) < (hi : Int)) = true := decide_eq_true (by omega)
        have l2 : (a2 : Int) < (d.size : Int) := by omega
        have q2 := hcw a2 (by omega)
        have f2 := hfw a2 (by omega)
        clear hc1 hc2 ha0 ha1 ha2 hcw hfw
        go_wp2_with fail
        go_quiet (first | (go_at_call 56; refine Calls.quiet_of_same (less_any _ _ _)))
        cases hl : ltInt (V a1) (V a2) with
        | true =>
          have HL := Lib.hid hl
          clear hl
          have HSF : Hid (siftDown ltInt hi F r dk = if ltInt (V a0) (V a2) = true then siftDown ltInt hi F c2 (swp dk a0 a2) else dk) := Lib.hid (by
            obtain ⟨g1, g2, g3, g4, g5⟩ := HEQ.out
            have h := sft_right ltInt (hi := hi) (F := F) (r := r) (d := dk) (by omega) (by rw [g1, g4, show 2 * r + 2 = c2 by omega, g5, ← HV.out, ← HV.out]; exact HL.out)
            rw [show 2 * r + 2 = c2 by omega, g3, g5] at h
            rw [HV.out, HV.out]; exact h)
          go_wp2_with fail
          have z0 : (wr.drewN nq).cell? ⟨blk, off + a0, none⟩ = some (.int .u64 (V a0)) := q3
          have zx : (wr.drewN nq).cell? ⟨blk, off + a2, none⟩ = some (.int .u64 (V a2)) := q2
          have y0 : (wr.drewN nq).frozen? ⟨blk, off + a0, none⟩ = false := f3
          have yx : (wr.drewN nq).frozen? ⟨blk, off + a2, none⟩ = false := f2
          have HRq : Hid (RowS w blk off dk (wr.drewN nq)) := Lib.hid (HR.out.drew nq)
          clear q1 q3 f1 f3
          generalize wr.drewN nq = wq at z0 zx y0 yx HRq ⊢
          go_quiet (first | (go_at_call 56; refine Calls.quiet_of_same (less_any _ _ _)))
          cases hm : ltInt (V a0) (V a2) with
          | false =>
            have HE : Hid (siftDown ltInt hi F lo d = dk) := Lib.hid (by rw [← HO.out, HSF.out, hm]; rfl)
            clear hm
            go_wp2
            exact bodyPost_ret (results_none rfl _ _ _) rfl ⟨rfl, by rw [HE.out]; exact HRq.out.drew _⟩
          | true =>
            have HE : Hid (siftDown ltInt hi F c2 (swp dk a0 a2) = siftDown ltInt hi F lo d) := Lib.hid (by rw [← HO.out, HSF.out, hm]; rfl)
            clear hm
            go_wp2_with fail
            have hne : ¬ a0 = a2 := by have := HEQ.out; omega
            have hne2 : ¬ a2 = a0 := by have := HEQ.out; omega
            go_region
            all_goals go_wp2
            go_roundw
            case rel =>
              refine ⟨c2, swp dk a0 a2, rfl, by omega, by rw [size_swp]; exact hsk, Lib.hid ?_, HE⟩
              simp only [HV.out]
              exact (HRq.out.drew _).swap (j := a0) (k := a2) (by omega) (by omega)
            case measure => have := HEQ.out; simp [intOf]; omega
        | false =>
          have HL := Lib.hid hl
          clear hl
          have HSF : Hid (siftDown ltInt hi F r dk = if ltInt (V a0) (V a1) = true then siftDown ltInt hi F c1 (swp dk a0 a1) else dk) := Lib.hid (by
            obtain ⟨g1, g2, g3, g4, g5⟩ := HEQ.out
            have h := sft_left ltInt (hi := hi) (F := F) (r := r) (d := dk) (by omega) (.inr (by rw [g1, g4, show 2 * r + 2 = c2 by omega, g5, ← HV.out, ← HV.out]; exact HL.out))
            rw [g1, g3, g4] at h
            rw [HV.out, HV.out]; exact h)
          go_wp2_with fail
          have z0 : (wr.drewN nq).cell? ⟨blk, off + a0, none⟩ = some (.int .u64 (V a0)) := q3
          have zx : (wr.drewN nq).cell? ⟨blk, off + a1, none⟩ = some (.int .u64 (V a1)) := q1
          have y0 : (wr.drewN nq).frozen? ⟨blk, off + a0, none⟩ = false := f3
          have yx : (wr.drewN nq).frozen? ⟨blk, off + a1, none⟩ = false := f1
          have HRq : Hid (RowS w blk off dk (wr.drewN nq)) := Lib.hid (HR.out.drew nq)
          clear q1 q3 f1 f3
          generalize wr.drewN nq = wq at z0 zx y0 yx HRq ⊢
          go_quiet (first | (go_at_call 56; refine Calls.quiet_of_same (less_any _ _ _)))
          cases hm : ltInt (V a0) (V a1) with
          | false =>
            have HE : Hid (siftDown ltInt hi F lo d = dk) := Lib.hid (by rw [← HO.out, HSF.out, hm]; rfl)
            clear hm
            go_wp2
            exact bodyPost_ret (results_none rfl _ _ _) rfl ⟨rfl, by rw [HE.out]; exact HRq.out.drew _⟩
          | true =>
            have HE : Hid (siftDown ltInt hi F c1 (swp dk a0 a1) = siftDown ltInt hi F lo d) := Lib.hid (by rw [← HO.out, HSF.out, hm]; rfl)
            clear hm
            go_wp2_with fail
            have hne : ¬ a0 = a1 := by have := HEQ.out; omega
            have hne2 : ¬ a1 = a0 := by have := HEQ.out; omega
            go_region
            all_goals go_wp2
            go_roundw
            case rel =>
              refine ⟨c1, swp dk a0 a1, rfl, by omega, by rw [size_swp]; exact hsk, Lib.hid ?_, HE⟩
              simp only [HV.out]
              exact (HRq.out.drew _).swap (j := a0) (k := a1) (by omega) (by omega)
            case measure => have := HEQ.out; simp [intOf]; omega
      · have hd1 : decide ((c2 : Int) < (hi : Int)) = false := decide_eq_false (by omega)
        clear hc1 hc2 ha0 ha1 ha2 hcw hfw
        go_wp2_with fail
        go_quiet (first | (go_at_call 56; refine Calls.quiet_of_same (less_any _ _ _)))
        have HSF : Hid (siftDown ltInt hi F r dk = if ltInt (V a0) (V a1) = true then siftDown ltInt hi F c1 (swp dk a0 a1) else dk) := Lib.hid (by
          obtain ⟨g1, g2, g3, g4, g5⟩ := HEQ.out
          have h := sft_left ltInt (hi := hi) (F := F) (r := r) (d := dk) (by omega) (.inl (by omega))
          rw [g1, g3, g4] at h
          rw [HV.out, HV.out]; exact h)
        go_wp2_with fail
        have z0 : (wr.drewN nq).cell? ⟨blk, off + a0, none⟩ = some (.int .u64 (V a0)) := q3
        have zx : (wr.drewN nq).cell? ⟨blk, off + a1, none⟩ = some (.int .u64 (V a1)) := q1
        have y0 : (wr.drewN nq).frozen? ⟨blk, off + a0, none⟩ = false := f3
        have yx : (wr.drewN nq).frozen? ⟨blk, off + a1, none⟩ = false := f1
        have HRq : Hid (RowS w blk off dk (wr.drewN nq)) := Lib.hid (HR.out.drew nq)
        clear q1 q3 f1 f3
        generalize wr.drewN nq = wq at z0 zx y0 yx HRq ⊢
        go_quiet (first | (go_at_call 56; refine Calls.quiet_of_same (less_any _ _ _)))
        cases hm : ltInt (V a0) (V a1) with
        | false =>
          have HE : Hid (siftDown ltInt hi F lo d = dk) := Lib.hid (by rw [← HO.out, HSF.out, hm]; rfl)
          clear hm
          go_wp2
          exact bodyPost_ret (results_none rfl _ _ _) rfl ⟨rfl, by rw [HE.out]; exact HRq.out.drew _⟩
        | true =>
          have HE : Hid (siftDown ltInt hi F c1 (swp dk a0 a1) = siftDown ltInt hi F lo d) := Lib.hid (by rw [← HO.out, HSF.out, hm]; rfl)
          clear hm
          go_wp2_with fail
          have hne : ¬ a0 = a1 := by have := HEQ.out; omega
          have hne2 : ¬ a1 = a0 := by have := HEQ.out; omega
          go_region
          all_goals go_wp2
          go_roundw
          case rel =>
            refine ⟨c1, swp dk a0 a1, rfl, by omega, by rw [size_swp]; exact hsk, Lib.hid ?_, HE⟩
            simp only [HV.out]
            exact (HRq.out.drew _).swap (j := a0) (k := a1) (by omega) (by omega)
          case measure => have := HEQ.out; simp [intOf]; omega
end Go.Proofs.YtfcabdgidlnljaaDoor
namespace Go.Proofs.YtfcabdgidlnljaaDoor
open Go.RowKit Go.Sort
set_option linter.unusedVariables false
theorem RowS.holds {w w' : World} {blk off : Nat} {d0 d : Array Int} (h : RowS w blk off d w') (hH : Holds eU w blk off d0) (hs : d.size = d0.size) : Holds eU w' blk off d := by
  obtain ⟨n, rfl⟩ := h
  exact holds_putRow eU _ blk off d0 d (holds_ahead eU w n blk off d0 hH) hs
theorem RowS.trans {w w1 w2 : World} {blk off : Nat} {d d' : Array Int} (h : RowS w blk off d w1) (k : RowS w1 blk off d' w2) (hs : d'.size = d.size) : RowS w blk off d' w2 := by
  obtain ⟨n, rfl⟩ := h
  obtain ⟨m, rfl⟩ := k
  exact ⟨n + m, putRow_ahead_putRow eU w n m blk off d d' hs⟩
end Go.Proofs.YtfcabdgidlnljaaDoor
namespace Go.Proofs.YtfcabdgidlnljaaDoor
open Go.RowKit Go.Sort
set_option linter.unusedVariables false
set_option linter.unusedSimpArgs false
set_option maxRecDepth 100000
/-- The row holds d; of what was there nothing else has turned. -/
structure RowG (w : World) (blk off : Nat) (d : Array Int) (w' : World) : Prop where
  grown : w.grownBy w' (some blk)
  holds : Holds eU w' blk off d
theorem RowG.refl {w : World} {blk off : Nat} {d : Array Int} (h : Holds eU w blk off d) : RowG w blk off d w := ⟨⟨rfl, rfl, rfl, Nat.le_refl _, fun _ _ _ => rfl⟩, h⟩
theorem RowG.trans {w w1 w2 : World} {blk off : Nat} {d d' : Array Int} (h : RowG w blk off d w1) (k : RowG w1 blk off d' w2) : RowG w blk off d' w2 :=
  ⟨⟨k.grown.os.trans h.grown.os, k.grown.tape.trans h.grown.tape, k.grown.output.trans h.grown.output, Nat.le_trans h.grown.size k.grown.size,
    fun i hi hn => (k.grown.block i (Nat.lt_of_lt_of_le hi h.grown.size) hn).trans (h.grown.block i hi hn)⟩, k.holds⟩
theorem RowS.toG {w w' : World} {blk off : Nat} {d0 d : Array Int} (h : RowS w blk off d w') (hH : Holds eU w blk off d0) (hs : d.size = d0.size) : RowG w blk off d w' := ⟨h.grown, h.holds hH hs⟩
theorem RowG.below {w w1 w2 : World} {blk off B : Nat} {d : Array Int} (h : RowG w blk off d w1) (hb : blk < B) (hB : w.heap.size ≤ B) (k : Below B w1 w2) : RowG w blk off d w2 :=
  ⟨⟨k.os.trans h.grown.os, k.tape.trans h.grown.tape, k.output.trans h.grown.output, Nat.le_trans h.grown.size k.size,
    fun i hi hn => (k.block i (by omega)).trans (h.grown.block i hi hn)⟩, fun j hj => by
      obtain ⟨h1, h2⟩ := h.holds j hj
      exact ⟨by rw [k.cell (show (⟨blk, off + j, none⟩ : Addr).block < B from hb)]; exact h1, by rw [k.frozen (show (⟨blk, off + j, none⟩ : Addr).block < B from hb)]; exact h2⟩⟩
theorem holds_lt {w : World} {blk off : Nat} {d : Array Int} (h : Holds eU w blk off d) (hd : 0 < d.size) : blk < w.heap.size := by
  obtain ⟨h1, _⟩ := h 0 hd
  obtain ⟨c, e, fr, hc, _⟩ := cells_of_cell? h1
  by_cases hb : blk < w.heap.size
  · exact hb
  · rw [Array.getElem?_eq_none (by omega)] at hc; cases hc
theorem sd_size (hi F r : Nat) (d : Array Int) : (siftDown ltInt hi F r d).size = d.size := size_siftDown ltInt hi F _ r d (Nat.le_refl _)
theorem heapBuild_size (hi F : Nat) : ∀ (k : Nat) (d : Array Int), (heapBuild ltInt hi F k d).size = d.size
  | 0, d => rfl
  | k + 1, d => by rw [heapBuild, heapBuild_size hi F k]; exact sd_size hi F _ d
theorem sift_L {blk off cap lo hi F L : Nat} {d : Array Int} {w : World} (hL : d.size = L) (hH : Holds eU w blk off d) (hlo : lo ≤ hi) (hb : F + hi ≤ d.size) (hsz : d.size < 1000000) :
    Calls Tryd.prog 61 #[.slice (some ⟨blk, off, none⟩) L cap, .int .i64 lo, .int .i64 hi, .int .i64 F] w fun e w' => e = .returned (.tuple #[]) ∧ RowS w blk off (siftDown ltInt hi F lo d) w' := by
  subst hL
  exact sift_any blk off cap lo hi F d w hH hlo hb hsz
set_option maxHeartbeats 4000000 in
theorem heap_any (blk off cap a b : Nat) (d : Array Int) (w : World) (hH : Holds eU w blk off d) (hab : a < b) (hb : b ≤ d.size) (hsz : d.size < 1000000) :
    Calls Tryd.prog 51 #[.slice (some ⟨blk, off, none⟩) d.size cap, .int .i64 a, .int .i64 b] w fun e w' => e = .returned (.tuple #[]) ∧ RowS w blk off (heapSort ltInt d a b) w' := by
  have HH := Lib.hid hH
  obtain ⟨H, hH2⟩ : ∃ H : Nat, b - a = H := ⟨_, rfl⟩
  obtain ⟨q, hq⟩ : ∃ q : Nat, (H - 1) / 2 = q := ⟨_, rfl⟩
  obtain ⟨L, hL⟩ : ∃ L : Nat, d.size = L := ⟨_, rfl⟩
  have HHs : Hid (heapSort ltInt d a b = heapPop ltInt a H (heapBuild ltInt H a (q + 1) d)) := Lib.hid (by unfold heapSort; rw [hH2, hq])
  have e1 : IntKind.i64.wrap ((b : Int) - (a : Int)) = (H : Int) := by rw [IntWalk.i64_in _ (by omega)]; omega
  have e2 : IntKind.i64.wrap ((H : Int) - 1) = ((H - 1 : Nat) : Int) := by rw [IntWalk.i64_in _ (by omega)]; omega
  have e3 : ((H - 1 : Nat) : Int).tdiv 2 = (q : Int) := by rw [Int.tdiv_eq_ediv_of_nonneg (by omega)]; omega
  have e4 : IntKind.i64.wrap (q : Int) = (q : Int) := IntWalk.i64_in _ (by omega)
  have HQ : Hid (b - a = H ∧ (H - 1) / 2 = q ∧ a < b ∧ b ≤ L ∧ L < 1000000 ∧ d.size = L) := Lib.hid ⟨hH2, hq, hab, by omega, by omega, hL⟩
  rw [hL]
  clear hH hH2 hq hab hb hsz hL
  go_enter Tryd.func51, Tryd.ntmps51
  go_wp2
  go_loopw [9] (fun v wr => ∃ (z : Int) (k : Nat) (dk : Array Int), v = .int .i64 z ∧ z = (k : Int) - 1 ∧ k ≤ q + 1 ∧ dk.size = L ∧ Hid (RowS w blk off dk wr) ∧ Hid (heapBuild ltInt H a k dk = heapBuild ltInt H a (q + 1) d)) (fun v _ => (intOf v + 1).toNat)
  case atStart => exact ⟨q, q + 1, d, rfl, by omega, Nat.le_refl _, HQ.out.2.2.2.2.2, Lib.hid ⟨0, (putRow_self _ _ _ _ _ HH.out).symm⟩, Lib.hid rfl⟩
  case round =>
    obtain ⟨z, k, dk, rfl, hz, hk, hsk, HR, HO⟩ := hrel
    cases k with
    | succ j =>
      have hz2 : z = (j : Int) := by omega
      subst hz2
      have hd : decide ((0 : Int) ≤ (j : Int)) = true := decide_eq_true (by omega)
      have hj1 : IntKind.i64.wrap ((j : Int) - 1) = (j : Int) - 1 := IntWalk.i64_in _ (by have := HQ.out; omega)
      have HC := Lib.hid (sift_L (cap := cap) (lo := j) (hi := H) (F := a) hsk (HR.out.holds HH.out (by rw [hsk, HQ.out.2.2.2.2.2])) (by have := HQ.out; omega) (by have := HQ.out; omega) (by have := HQ.out; omega))
      clear hz
      go_wp2_with (go_at_call 61; refine HC.out.mono ?_; rintro e w1 ⟨rfl, hr⟩; have HR1 := Lib.hid hr; clear hr HC)
      go_roundw
      case rel => exact ⟨_, j, siftDown ltInt H a j dk, rfl, by omega, by omega, by rw [sd_size]; exact hsk, Lib.hid (HR.out.trans HR1.out (sd_size _ _ _ _)), Lib.hid (by rw [← HO.out]; rfl)⟩
      case measure => simp [intOf]
    | zero =>
      have hz2 : z = -1 := by omega
      subst hz2
      have HD1 : Hid (heapBuild ltInt H a (q + 1) d = dk) := Lib.hid HO.out.symm
      have hsk2 := hsk
      clear hz hk HO
      go_wp2
      obtain ⟨wo, hwo⟩ : ∃ x, x = wr := ⟨_, rfl⟩
      subst hwo
      go_loopw [10] (fun v wr => ∃ (z : Int) (k : Nat) (dj : Array Int), v = .int .i64 z ∧ z = (k : Int) - 1 ∧ k ≤ H ∧ dj.size = L ∧ Hid (RowS w blk off dj wr) ∧ Hid (heapPop ltInt a k dj = heapPop ltInt a H dk)) (fun v _ => (intOf v + 1).toNat)
      case atStart => exact ⟨_, H, dk, rfl, by have := HQ.out; omega, Nat.le_refl _, hsk, HR, Lib.hid rfl⟩
      case round =>
        obtain ⟨z, k, dj, rfl, hz, hk, hsj, HR2, HO⟩ := hrel
        cases k with
        | succ j =>
          have hz2 : z = (j : Int) := by omega
          subst hz2
          have hd : decide ((0 : Int) ≤ (j : Int)) = true := decide_eq_true (by omega)
          have hj1 : IntKind.i64.wrap ((j : Int) - 1) = (j : Int) - 1 := IntWalk.i64_in _ (by have := HQ.out; omega)
          obtain ⟨c, hc⟩ : ∃ c : Nat, a + j = c := ⟨_, rfl⟩
          have hcL : c < L := by have := HQ.out; omega
          have haL : a < L := by have := HQ.out; omega
          have hw : IntKind.i64.wrap ((a : Int) + (j : Int)) = (c : Int) := by rw [IntWalk.i64_in _ (by have := HQ.out; omega)]; omega
          obtain ⟨m, hm⟩ := HR2.out
          obtain ⟨V, hV⟩ : ∃ V : Nat → Int, ∀ t, V t = dj[t]! := ⟨fun t => dj[t]!, fun _ => rfl⟩
          have hcw : ∀ t, t < L → wr.cell? ⟨blk, off + t, none⟩ = some (.int .u64 (V t)) := fun t ht => by
            rw [hm, hV]; exact cell?_putRow _ _ _ _ d dj (holds_ahead _ _ _ _ _ _ HH.out) (by rw [hsj, HQ.out.2.2.2.2.2]) t (by omega)
          have hfw : ∀ t, t < L → wr.frozen? ⟨blk, off + t, none⟩ = false := fun t ht => by
            rw [hm, frozen?_putRow]; exact ((holds_ahead _ _ m _ _ _ HH.out) t (by have := HQ.out; omega)).2
          have q1 := hcw a haL
          have q2 := hcw c hcL
          have f1 := hfw a haL
          have f2 := hfw c hcL
          have l1 : (a : Int) < (L : Int) := by omega
          have l2 : (c : Int) < (L : Int) := by omega
          have HSW : ∀ W, W = ((wr.drewN 1).setCell ⟨blk, off + a, none⟩ (.int .u64 (V c))).setCell ⟨blk, off + c, none⟩ (.int .u64 (V a)) → RowS w blk off (swp dj a c) W := fun W hW => by
            rw [hW, hV, hV]; exact (HR2.out.drew 1).swap (j := a) (k := c) (by omega) (by omega)
          have HS := Lib.hid HSW
          have HE : Hid (heapPop ltInt a j (siftDown ltInt j a 0 (swp dj a c)) = heapPop ltInt a H dk) := Lib.hid (by rw [← HO.out, ← hc]; rfl)
          have hcj : a + j < L := by omega
          clear hz hm hV hcw hfw hc HSW
          have hac : a = c ∨ a ≠ c := by omega
          rcases hac with hac | hne
          · subst hac
            go_wp2_with fail
            go_region
            all_goals go_wp2_with (go_at_call 61; refine (sift_L (cap := cap) (lo := 0) (hi := j) (F := a) (d := swp dj a a) (by rw [size_swp]; exact hsj) ((HS.out _ rfl).holds HH.out (by rw [size_swp, hsj, HQ.out.2.2.2.2.2])) (by omega) (by rw [size_swp]; omega) (by rw [size_swp]; have := HQ.out; omega)).mono ?_; rintro e w1 ⟨rfl, hr⟩; have HR3 : Hid (RowS w blk off (siftDown ltInt j a 0 (swp dj a a)) w1) := Lib.hid ((HS.out _ rfl).trans hr (sd_size _ _ _ _)); clear hr HS)
            go_roundw
            case rel => exact ⟨_, j, _, rfl, by omega, by omega, by rw [sd_size, size_swp]; exact hsj, HR3, HE⟩
            case measure => simp [intOf]
          · have hne2 : c ≠ a := fun e => hne e.symm
            go_wp2_with fail
            go_region
            all_goals go_wp2_with (go_at_call 61; refine (sift_L (cap := cap) (lo := 0) (hi := j) (F := a) (d := swp dj a c) (by rw [size_swp]; exact hsj) ((HS.out _ rfl).holds HH.out (by rw [size_swp, hsj, HQ.out.2.2.2.2.2])) (by omega) (by rw [size_swp]; omega) (by rw [size_swp]; have := HQ.out; omega)).mono ?_; rintro e w1 ⟨rfl, hr⟩; have HR3 : Hid (RowS w blk off (siftDown ltInt j a 0 (swp dj a c)) w1) := Lib.hid ((HS.out _ rfl).trans hr (sd_size _ _ _ _)); clear hr HS)
            go_roundw
            case rel => exact ⟨_, j, _, rfl, by omega, by omega, by rw [sd_size, size_swp]; exact hsj, HR3, HE⟩
            case measure => simp [intOf]
        | zero =>
          have hz2 : z = -1 := by omega
          subst hz2
          have HD2 : Hid (heapPop ltInt a H dk = dj) := Lib.hid HO.out.symm
          clear hz hk HO
          go_wp2
          go_end0
          exact ⟨rfl, by rw [HHs.out, HD1.out, HD2.out]; exact HR2.out⟩
end Go.Proofs.YtfcabdgidlnljaaDoor
namespace Go.Proofs.YtfcabdgidlnljaaDoor
open Go.RowKit Go.Sort
set_option linter.unusedVariables false
set_option linter.unusedSimpArgs false
set_option maxRecDepth 100000
/-- A box with a count. -/
def BoxN (w : World) (sb : Nat) : Prop := ∃ s : Int, w.heap[sb]? = some (.cells #[.int .i64 s] 3 (0, 0))
theorem BoxN.set {w : World} {sb : Nat} (h : BoxN w sb) (s : Int) : BoxN (w.setCell ⟨sb, 0, none⟩ (.int .i64 s)) sb := by
  obtain ⟨z, hz⟩ := h
  exact ⟨s, heap_setCell_same w sb 0 _ _ _ hz⟩
set_option maxHeartbeats 4000000 in
theorem order2_any {blk off cap L a b sb : Nat} {d : Array Int} {w : World} (hL : d.size = L) (hH : Holds eU w blk off d) (ha : a < L) (hb : b < L) (hs : BoxN w sb) (hlt : blk < sb) :
    Calls Tryd.prog 67 #[.slice (some ⟨blk, off, none⟩) L cap, .int .i64 a, .int .i64 b, .pointer (some ⟨sb, 0, none⟩)] w fun e w' => ∃ x y : Nat, e = .returned (.tuple #[.int .i64 x, .int .i64 y]) ∧ (x = a ∧ y = b ∨ x = b ∧ y = a) ∧ Below sb w w' ∧ BoxN w' sb := by
  obtain ⟨V, hV⟩ : ∃ V : Nat → Int, ∀ t, d[t]! = V t := ⟨fun t => d[t]!, fun _ => rfl⟩
  have q1 : w.cell? ⟨blk, off + a, none⟩ = some (.int .u64 (V a)) := by rw [← hV]; exact (hH a (by omega)).1
  have q2 : w.cell? ⟨blk, off + b, none⟩ = some (.int .u64 (V b)) := by rw [← hV]; exact (hH b (by omega)).1
  have l1 : (a : Int) < (L : Int) := by omega
  have l2 : (b : Int) < (L : Int) := by omega
  obtain ⟨s, hsb⟩ := hs
  have HSB := Lib.hid hsb
  have HLT := Lib.hid hlt
  clear hV hH hsb hL ha hb hlt
  go_enter Tryd.func67, Tryd.ntmps67
  go_wp2_with fail
  go_quiet (first | (go_at_call 56; refine Calls.quiet_of_same (less_any _ _ _)))
  have c1 : (w.drewN nq).cell? ⟨sb, 0, none⟩ = some (.int .i64 s) := by
    have h : w.cell? ⟨sb, 0, none⟩ = some (.int .i64 s) := by simp [World.cell?, HSB.out]
    exact h
  have c2 : (w.drewN nq).frozen? ⟨sb, 0, none⟩ = false := by
    have h : w.frozen? ⟨sb, 0, none⟩ = false := by simp [World.frozen?, HSB.out]
    exact h
  have HD : Hid (Below sb w (w.drewN nq) ∧ (w.drewN nq).heap[sb]? = some (.cells #[.int .i64 s] 3 (0, 0))) := Lib.hid ⟨⟨rfl, rfl, rfl, Nat.le_refl _, fun _ _ => rfl⟩, HSB.out⟩
  clear q1 q2
  generalize w.drewN nq = w1 at c1 c2 HD ⊢
  cases hl : ltInt (V b) (V a) with
  | true =>
    clear hl
    go_wp2
    refine bodyPost_ret (results_tmp2 rfl _ _ _) rfl ?_
    exact ⟨b, a, rfl, .inr ⟨rfl, rfl⟩, HD.out.1.setCell (Nat.le_refl _) _, BoxN.set ⟨s, HD.out.2⟩ _⟩
  | false =>
    clear hl
    go_wp2
    refine bodyPost_ret (results_tmp2 rfl _ _ _) rfl ?_
    exact ⟨a, b, rfl, .inl ⟨rfl, rfl⟩, HD.out.1, ⟨s, HD.out.2⟩⟩
theorem Holds.below {w w' : World} {blk off B : Nat} {d : Array Int} (h : Holds eU w blk off d) (hb : blk < B) (k : Below B w w') : Holds eU w' blk off d := fun j hj => by
  obtain ⟨h1, h2⟩ := h j hj
  exact ⟨by rw [k.cell (show (⟨blk, off + j, none⟩ : Addr).block < B from hb)]; exact h1, by rw [k.frozen (show (⟨blk, off + j, none⟩ : Addr).block < B from hb)]; exact h2⟩
set_option maxHeartbeats 4000000 in
theorem median_any {blk off cap L a b c sb : Nat} {d : Array Int} {w : World} (hL : d.size = L) (hH : Holds eU w blk off d) (ha : a < L) (hb : b < L) (hc : c < L) (hs : BoxN w sb) (hlt : blk < sb) :
    Calls Tryd.prog 65 #[.slice (some ⟨blk, off, none⟩) L cap, .int .i64 a, .int .i64 b, .int .i64 c, .pointer (some ⟨sb, 0, none⟩)] w fun e w' => ∃ x : Nat, e = .returned (.int .i64 x) ∧ (x = a ∨ x = b ∨ x = c) ∧ Below sb w w' ∧ BoxN w' sb := by
  have HC1 := Lib.hid (order2_any (cap := cap) hL hH ha hb hs hlt)
  have HA : Hid (d.size = L ∧ Holds eU w blk off d ∧ a < L ∧ b < L ∧ c < L ∧ blk < sb) := Lib.hid ⟨hL, hH, ha, hb, hc, hlt⟩
  clear hL hH ha hb hc hs hlt
  go_enter Tryd.func65, Tryd.ntmps65
  go_wp2_with (first
    | (go_at_call 67; refine HC1.out.mono ?_; rintro e w1 ⟨x1, y1, rfl, hp1, hb1, hs1⟩; have HP1 : Hid (x1 = a ∧ y1 = b ∨ x1 = b ∧ y1 = a) := Lib.hid hp1; have HB1 : Hid (Below sb w w1) := Lib.hid hb1; have HC2 := Lib.hid (order2_any (cap := cap) (a := y1) (b := c) HA.out.1 (Holds.below HA.out.2.1 HA.out.2.2.2.2.2 hb1) (by have := HA.out; omega) (by have := HA.out; omega) hs1 HA.out.2.2.2.2.2); clear HC1 hp1 hb1 hs1)
    | (go_at_call 67; refine HC2.out.mono ?_; rintro e w2 ⟨x2, y2, rfl, hp2, hb2, hs2⟩; have HP2 : Hid (x2 = y1 ∧ y2 = c ∨ x2 = c ∧ y2 = y1) := Lib.hid hp2; have HB2 : Hid (Below sb w w2) := Lib.hid (HB1.out.trans hb2); have HC3 := Lib.hid (order2_any (cap := cap) (a := x1) (b := x2) HA.out.1 (Holds.below HA.out.2.1 HA.out.2.2.2.2.2 HB2.out) (by have := HA.out; have := HP1.out; omega) (by have := HA.out; have := HP1.out; omega) hs2 HA.out.2.2.2.2.2); clear HC2 hp2 hb2 hs2)
    | (go_at_call 67; refine HC3.out.mono ?_; rintro e w3 ⟨x3, y3, rfl, hp3, hb3, hs3⟩; have HP3 : Hid (x3 = x1 ∧ y3 = x2 ∨ x3 = x2 ∧ y3 = x1) := Lib.hid hp3; have HB3 : Hid (Below sb w w3 ∧ BoxN w3 sb) := Lib.hid ⟨HB2.out.trans hb3, hs3⟩; clear HC3 hp3 hb3 hs3))
  go_ret
  exact ⟨y3, rfl, by have := HP1.out; have := HP2.out; have := HP3.out; omega, HB3.out⟩
set_option maxHeartbeats 4000000 in
theorem medianAdjacent_any {blk off cap L a sb : Nat} {d : Array Int} {w : World} (hL : d.size = L) (hH : Holds eU w blk off d) (h1 : 1 ≤ a) (ha : a + 1 < L) (hsz : L < 1000000) (hs : BoxN w sb) (hlt : blk < sb) :
    Calls Tryd.prog 64 #[.slice (some ⟨blk, off, none⟩) L cap, .int .i64 a, .pointer (some ⟨sb, 0, none⟩)] w fun e w' => ∃ x : Nat, e = .returned (.int .i64 x) ∧ (x = a - 1 ∨ x = a ∨ x = a + 1) ∧ Below sb w w' ∧ BoxN w' sb := by
  have HC1 := Lib.hid (median_any (cap := cap) (a := a - 1) (b := a) (c := a + 1) hL hH (by omega) (by omega) (by omega) hs hlt)
  obtain ⟨x, hx⟩ : ∃ x, a - 1 = x := ⟨_, rfl⟩
  obtain ⟨y, hy⟩ : ∃ y, a + 1 = y := ⟨_, rfl⟩
  have e1 : IntKind.i64.wrap ((a : Int) - 1) = (x : Int) := by rw [IntWalk.i64_in _ (by omega)]; omega
  have e2 : IntKind.i64.wrap ((a : Int) + 1) = (y : Int) := by rw [IntWalk.i64_in _ (by omega)]; omega
  rw [hx, hy] at HC1
  rw [hx, hy]
  clear hL hH h1 ha hsz hs hlt hx hy
  go_enter Tryd.func64, Tryd.ntmps64
  go_wp2_with (first
    | (go_at_call 65; refine HC1.out.mono ?_; rintro e w1 ⟨x1, rfl, hp, hb, hs⟩; have HH : Hid ((x1 = x ∨ x1 = a ∨ x1 = y) ∧ Below sb w w1 ∧ BoxN w1 sb) := Lib.hid ⟨hp, hb, hs⟩; clear HC1 hp hb hs))
  go_ret
  exact ⟨x1, rfl, HH.out⟩
set_option maxHeartbeats 4000000 in
theorem choose_any {blk off cap L a b : Nat} {d : Array Int} {w : World} (hL : d.size = L) (hH : Holds eU w blk off d) (hab : 12 < b - a) (hb : b ≤ L) (hsz : L < 1000000) :
    Calls Tryd.prog 53 #[.slice (some ⟨blk, off, none⟩) L cap, .int .i64 a, .int .i64 b] w fun e w' => ∃ (x : Nat) (h : Int), e = .returned (.tuple #[.int .i64 x, .int .i64 h]) ∧ a ≤ x ∧ x < b ∧ Below w.heap.size w w' := by
  have hblk : blk < w.heap.size := holds_lt hH (by omega)
  obtain ⟨K, hK⟩ : ∃ K, w.heap.size = K := ⟨_, rfl⟩
  obtain ⟨W0, hW0⟩ : ∃ W0, w.alloc (.cells #[.int .i64 0] 3) = W0 := ⟨_, rfl⟩
  have hb0 : Below K w W0 := by rw [← hW0, ← hK]; exact (Below.refl _ w).alloc (Nat.le_refl _) _
  have hs0 : BoxN W0 K := ⟨0, by rw [← hW0, ← hK]; exact World.alloc_heap_new _ _⟩
  obtain ⟨l, hl⟩ : ∃ l, b - a = l := ⟨_, rfl⟩
  obtain ⟨Q, hQ⟩ : ∃ Q, l / 4 = Q := ⟨_, rfl⟩
  obtain ⟨Q2, hQ2⟩ : ∃ Q2, Q * 2 = Q2 := ⟨_, rfl⟩
  obtain ⟨Q3, hQ3⟩ : ∃ Q3, Q * 3 = Q3 := ⟨_, rfl⟩
  obtain ⟨i, hi⟩ : ∃ i, a + Q = i := ⟨_, rfl⟩
  obtain ⟨j, hj⟩ : ∃ j, a + Q2 = j := ⟨_, rfl⟩
  obtain ⟨k, hk⟩ : ∃ k, a + Q3 = k := ⟨_, rfl⟩
  have e1 : IntKind.i64.wrap ((b : Int) - (a : Int)) = (l : Int) := by rw [IntWalk.i64_in _ (by omega)]; omega
  have e2 : (l : Int).tdiv 4 = (Q : Int) := by rw [Int.tdiv_eq_ediv_of_nonneg (by omega)]; omega
  have e3 : IntKind.i64.wrap (Q : Int) = (Q : Int) := IntWalk.i64_in _ (by omega)
  have e4 : IntKind.i64.wrap ((Q : Int) * 2) = (Q2 : Int) := by rw [IntWalk.i64_in _ (by omega)]; omega
  have e5 : IntKind.i64.wrap ((Q : Int) * 3) = (Q3 : Int) := by rw [IntWalk.i64_in _ (by omega)]; omega
  have e6 : IntKind.i64.wrap ((a : Int) + (Q : Int)) = (i : Int) := by rw [IntWalk.i64_in _ (by omega)]; omega
  have e7 : IntKind.i64.wrap ((a : Int) + (Q2 : Int)) = (j : Int) := by rw [IntWalk.i64_in _ (by omega)]; omega
  have e8 : IntKind.i64.wrap ((a : Int) + (Q3 : Int)) = (k : Int) := by rw [IntWalk.i64_in _ (by omega)]; omega
  have t8 : decide ((8 : Int) ≤ (l : Int)) = true := decide_eq_true (by omega)
  have HQ : Hid (b - a = l ∧ l / 4 = Q ∧ Q * 2 = Q2 ∧ Q * 3 = Q3 ∧ a + Q = i ∧ a + Q2 = j ∧ a + Q3 = k ∧ 12 < l ∧ b ≤ L ∧ L < 1000000 ∧ a < b) := Lib.hid ⟨hl, hQ, hQ2, hQ3, hi, hj, hk, by omega, hb, hsz, by omega⟩
  have HD : Hid (d.size = L ∧ blk < K) := Lib.hid ⟨hL, by omega⟩
  have HH0 : Hid (Holds eU W0 blk off d) := Lib.hid (Holds.below hH HD.out.2 hb0)
  have HB0 := Lib.hid hb0
  have HS0 : Hid (BoxN W0 K) := Lib.hid hs0
  have HW0 := Lib.hid hW0
  have HK := Lib.hid hK
  rw [hK]
  by_cases h50 : 50 ≤ l
  · have t50 : decide ((50 : Int) ≤ (l : Int)) = true := decide_eq_true (by omega)
    have HC1 := Lib.hid (medianAdjacent_any (cap := cap) (a := i) hL HH0.out (by omega) (by omega) hsz hs0 HD.out.2)
    have H50 := Lib.hid h50
    clear hH hb0 hs0 hW0 hK hl hQ hQ2 hQ3 hi hj hk hblk hab hb hsz hL h50
    go_enter Tryd.func53, Tryd.ntmps53
    go_wp2_with fail
    rw [HK.out, HW0.out]
    go_wp2_with (first
      | (go_at_call 64; refine HC1.out.mono ?_; rintro e w1 ⟨x1, rfl, hp, hb1, hs1⟩; have HP1 : Hid (x1 = i - 1 ∨ x1 = i ∨ x1 = i + 1) := Lib.hid hp; have HB1 : Hid (Below K W0 w1) := Lib.hid hb1; have HC2 := Lib.hid (medianAdjacent_any (cap := cap) (a := j) HD.out.1 (Holds.below HH0.out HD.out.2 hb1) (by have := HQ.out; have := H50.out; omega) (by have := HQ.out; have := H50.out; omega) (by have := HQ.out; omega) hs1 HD.out.2); clear HC1 hp hb1 hs1)
      | (go_at_call 64; refine HC2.out.mono ?_; rintro e w2 ⟨x2, rfl, hp, hb1, hs1⟩; have HP2 : Hid (x2 = j - 1 ∨ x2 = j ∨ x2 = j + 1) := Lib.hid hp; have HB2 : Hid (Below K W0 w2) := Lib.hid (HB1.out.trans hb1); have HC3 := Lib.hid (medianAdjacent_any (cap := cap) (a := k) HD.out.1 (Holds.below HH0.out HD.out.2 HB2.out) (by have := HQ.out; have := H50.out; omega) (by have := HQ.out; have := H50.out; omega) (by have := HQ.out; omega) hs1 HD.out.2); clear HC2 hp hb1 hs1)
      | (go_at_call 64; refine HC3.out.mono ?_; rintro e w3 ⟨x3, rfl, hp, hb1, hs1⟩; have HP3 : Hid (x3 = k - 1 ∨ x3 = k ∨ x3 = k + 1) := Lib.hid hp; have HB3 : Hid (Below K W0 w3) := Lib.hid (HB2.out.trans hb1); have HC4 := Lib.hid (median_any (cap := cap) (a := x1) (b := x2) (c := x3) HD.out.1 (Holds.below HH0.out HD.out.2 HB3.out) (by have := HQ.out; have := H50.out; have := HP1.out; omega) (by have := HQ.out; have := H50.out; have := HP2.out; omega) (by have := HQ.out; have := H50.out; have := HP3.out; omega) hs1 HD.out.2); clear HC3 hp hb1 hs1)
      | (go_at_call 65; refine HC4.out.mono ?_; rintro e w4 ⟨x4, rfl, hp, hb1, ⟨s, hs1⟩⟩; have HP4 : Hid (x4 = x1 ∨ x4 = x2 ∨ x4 = x3) := Lib.hid hp; have HB4 : Hid (Below K w w4) := Lib.hid ((HB0.out.trans HB3.out).trans hb1); have cs : w4.cell? ⟨K, 0, none⟩ = some (.int .i64 s) := (by simp [World.cell?, hs1]); clear HC4 hp hb1 hs1))
    all_goals (refine bodyPost_ret (results_tmp2 rfl _ _ _) rfl ?_)
    all_goals exact ⟨x4, _, rfl, by have := HQ.out; have := H50.out; have := HP1.out; have := HP2.out; have := HP3.out; have := HP4.out; omega, by have := HQ.out; have := H50.out; have := HP1.out; have := HP2.out; have := HP3.out; have := HP4.out; omega, HB4.out⟩
  · have t50 : decide ((50 : Int) ≤ (l : Int)) = false := decide_eq_false (by omega)
    have HC4 := Lib.hid (median_any (cap := cap) (a := i) (b := j) (c := k) hL HH0.out (by omega) (by omega) (by omega) hs0 HD.out.2)
    clear hH hb0 hs0 hW0 hK hl hQ hQ2 hQ3 hi hj hk hblk hab hb hsz hL h50
    go_enter Tryd.func53, Tryd.ntmps53
    go_wp2_with fail
    rw [HK.out, HW0.out]
    go_wp2_with (first
      | (go_at_call 65; refine HC4.out.mono ?_; rintro e w4 ⟨x4, rfl, hp, hb1, ⟨s, hs1⟩⟩; have HP4 : Hid (x4 = i ∨ x4 = j ∨ x4 = k) := Lib.hid hp; have HB4 : Hid (Below K w w4) := Lib.hid (HB0.out.trans hb1); have cs : w4.cell? ⟨K, 0, none⟩ = some (.int .i64 s) := (by simp [World.cell?, hs1]); clear HC4 hp hb1 hs1))
    all_goals (refine bodyPost_ret (results_tmp2 rfl _ _ _) rfl ?_)
    all_goals exact ⟨x4, _, rfl, by have := HQ.out; have := HP4.out; omega, by have := HQ.out; have := HP4.out; omega, HB4.out⟩
end Go.Proofs.YtfcabdgidlnljaaDoor
namespace Go.Proofs.YtfcabdgidlnljaaDoor
open Go.RowKit Go.Sort
set_option linter.unusedVariables false
set_option linter.unusedSimpArgs false
set_option maxRecDepth 100000
/-- A box with a random number. -/
def BoxX (w : World) (sb : Nat) : Prop := ∃ s : Nat, s < 18446744073709551616 ∧ w.heap[sb]? = some (.cells #[.int .u64 s] 94 (0, 0))
theorem BoxX.cell {w : World} {sb s : Nat} (h : w.heap[sb]? = some (.cells #[.int .u64 s] 94 (0, 0))) : w.cell? ⟨sb, 0, none⟩ = some (.int .u64 s) ∧ w.frozen? ⟨sb, 0, none⟩ = false := by
  constructor
  · simp [World.cell?, h]
  · simp [World.frozen?, h]
set_option maxHeartbeats 4000000 in
theorem next_any {w : World} {sb : Nat} (hs : BoxX w sb) :
    Calls Tryd.prog 63 #[.pointer (some ⟨sb, 0, none⟩)] w fun e w' => ∃ s : Nat, e = .returned (.int .u64 s) ∧ s < 18446744073709551616 ∧ Below sb w w' ∧ BoxX w' sb := by
  obtain ⟨X, hX, hsb⟩ := hs
  obtain ⟨c1, f1⟩ := BoxX.cell hsb
  obtain ⟨A, hA⟩ : ∃ A : Nat, A = X ^^^ (X * 8192 % 18446744073709551616) := ⟨_, rfl⟩
  have lA : A < 18446744073709551616 := by rw [hA]; exact Nat.xor_lt_two_pow (n := 64) (by omega) (by omega)
  obtain ⟨B, hB⟩ : ∃ B : Nat, B = A ^^^ (A / 128) := ⟨_, rfl⟩
  have lB : B < 18446744073709551616 := by rw [hB]; exact Nat.xor_lt_two_pow (n := 64) (by omega) (by omega)
  obtain ⟨C, hC⟩ : ∃ C : Nat, C = B ^^^ (B * 131072 % 18446744073709551616) := ⟨_, rfl⟩
  have lC : C < 18446744073709551616 := by rw [hC]; exact Nat.xor_lt_two_pow (n := 64) (by omega) (by omega)
  have e1 : bits .xor .u64 (X : Int) (IntKind.u64.wrap ((X : Int) * 8192)) = (A : Int) := by
    rw [IntKind.wrap_u64, show ((X : Int) * 8192 % 18446744073709551616) = ((X * 8192 % 18446744073709551616 : Nat) : Int) by omega, bits_xor_u64_nat _ _ hX (by omega), hA]
  have e2 : bits .xor .u64 (A : Int) ((A : Int) / 128) = (B : Int) := by
    rw [show ((A : Int) / 128) = ((A / 128 : Nat) : Int) by omega, bits_xor_u64_nat _ _ lA (by omega), hB]
  have e3 : bits .xor .u64 (B : Int) (IntKind.u64.wrap ((B : Int) * 131072)) = (C : Int) := by
    rw [IntKind.wrap_u64, show ((B : Int) * 131072 % 18446744073709551616) = ((B * 131072 % 18446744073709551616 : Nat) : Int) by omega, bits_xor_u64_nat _ _ lB (by omega), hC]
  have HS : Hid (∀ (v : World) (Y : Nat), Below sb w v → v.heap[sb]? = some (.cells #[.int .u64 Y] 94 (0, 0)) → ∀ Z : Nat, Below sb w (v.setCell ⟨sb, 0, none⟩ (.int .u64 Z)).drew ∧ (v.setCell ⟨sb, 0, none⟩ (.int .u64 Z)).drew.heap[sb]? = some (.cells #[.int .u64 Z] 94 (0, 0))) :=
    Lib.hid (fun v Y hb hv Z => ⟨(hb.setCell (Nat.le_refl _) _).drew, heap_setCell_same v sb 0 _ _ _ hv⟩)
  have HB0 : Hid (Below sb w w ∧ w.heap[sb]? = some (.cells #[.int .u64 X] 94 (0, 0))) := Lib.hid ⟨Below.refl _ _, hsb⟩
  clear hA hB hC hsb hX lA lB
  go_enter Tryd.func63, Tryd.ntmps63
  go_wp2_with fail
  go_region
  all_goals go_wp2_with fail
  have H1 := Lib.hid (HS.out w X HB0.out.1 HB0.out.2 A)
  generalize (w.setCell ⟨sb, 0, none⟩ (.int .u64 A)).drew = v1 at H1 ⊢
  clear c1 f1
  obtain ⟨c1, f1⟩ := BoxX.cell H1.out.2
  go_region
  all_goals go_wp2_with fail
  have H2 := Lib.hid (HS.out v1 A H1.out.1 H1.out.2 B)
  generalize (v1.setCell ⟨sb, 0, none⟩ (.int .u64 B)).drew = v2 at H2 ⊢
  clear c1 f1
  obtain ⟨c1, f1⟩ := BoxX.cell H2.out.2
  go_region
  all_goals go_wp2_with fail
  have H3 := Lib.hid (HS.out v2 B H2.out.1 H2.out.2 C)
  generalize (v2.setCell ⟨sb, 0, none⟩ (.int .u64 C)).drew = v3 at H3 ⊢
  clear c1 f1
  obtain ⟨c1, f1⟩ := BoxX.cell H3.out.2
  go_wp2
  go_ret
  exact ⟨C, rfl, lC, H3.out.1, ⟨C, lC, H3.out.2⟩⟩
end Go.Proofs.YtfcabdgidlnljaaDoor
namespace Go.Proofs.YtfcabdgidlnljaaDoor
open Go.RowKit Go.Sort
set_option linter.unusedVariables false
set_option linter.unusedSimpArgs false
set_option maxRecDepth 100000
theorem RowG.swap {w w' : World} {blk off : Nat} {d : Array Int} (h : RowG w blk off d w') {j k : Nat} (hj : j < d.size) (hk : k < d.size) : RowG w blk off (swp d j k) ((w'.setCell ⟨blk, off + j, none⟩ (eU d[k]!)).setCell ⟨blk, off + k, none⟩ (eU d[j]!)) := by
  have hS : RowS w' blk off (swp d j k) ((w'.setCell ⟨blk, off + j, none⟩ (eU d[k]!)).setCell ⟨blk, off + k, none⟩ (eU d[j]!)) := by
    refine ⟨0, ?_⟩
    have e := putRow_swp eU w' blk off d j k hj hk
    rw [putRow_self _ _ _ _ _ h.holds] at e
    exact e
  exact h.trans (hS.toG h.holds (size_swp d j k))
theorem RowG.drew {w w' : World} {blk off : Nat} {d : Array Int} (h : RowG w blk off d w') : RowG w blk off d w'.drew := ⟨⟨h.grown.os, h.grown.tape, h.grown.output, h.grown.size, h.grown.block⟩, h.holds⟩
theorem BoxX.other {w : World} {sb : Nat} (h : BoxX w sb) {p : Addr} (hp : p.block ≠ sb) (u : Value) : BoxX (w.setCell p u) sb := by
  obtain ⟨s, hs, hh⟩ := h
  exact ⟨s, hs, (Below.heap_setCell w p u sb (fun e => hp e.symm)).trans hh⟩
theorem BoxX.drew {w : World} {sb : Nat} (h : BoxX w sb) : BoxX w.drew sb := h
set_option maxHeartbeats 4000000 in
theorem power_any {l : Nat} {w : World} (h1 : 0 < l) (hsz : l < 1000000) :
    Calls Tryd.prog 62 #[.int .i64 l] w fun e w' => ∃ M : Nat, e = .returned (.int .u64 M) ∧ l < M ∧ M ≤ 2 * l ∧ w' = w := by
  have HL := Lib.hid (Tryd.bits_Len (l : Int) w (by omega) (by omega))
  obtain ⟨k, hk⟩ : ∃ k : Nat, Lib.bitLen ((l : Int)).toNat = k := ⟨_, rfl⟩
  obtain ⟨hk1, hk2, hk3⟩ := Lib.bitLenAux_bounds 64 l (by omega) (by omega)
  have hk4 : Lib.bitLenAux 64 l = k := by rw [← hk]; rfl
  rw [hk4] at hk1 hk2 hk3
  obtain ⟨m, rfl⟩ : ∃ m, k = m + 1 := ⟨k - 1, by omega⟩
  rw [Nat.add_sub_cancel] at hk2
  have h2 : 2 ^ (m + 1) = 2 * 2 ^ m := by rw [Nat.pow_succ, Nat.mul_comm]
  have h20 : m < 20 := by
    apply Nat.lt_of_not_le
    intro hm
    have := Nat.pow_le_pow_right (n := 2) (by omega) hm
    omega
  obtain ⟨M, hM⟩ : ∃ M : Nat, 2 ^ (m + 1) = M := ⟨_, rfl⟩
  have HK := Lib.hid hk
  have hw : IntKind.u64.wrap (l : Int) = (l : Int) := by rw [IntKind.wrap_u64]; omega
  have e1 : IntKind.u64.wrap (2 ^ min (m + 1) 64) = (M : Int) := by
    rw [show min (m + 1) 64 = m + 1 by omega, IntKind.wrap_u64, ← hM, Int.natCast_pow]
    have : ((2 : Nat) : Int) ^ (m + 1) = ((2 ^ (m + 1) : Nat) : Int) := (Int.natCast_pow 2 (m + 1)).symm
    rw [this, show ((2 : Int)) ^ (m + 1) = ((2 ^ (m + 1) : Nat) : Int) from this]
    omega
  have hM2 : Hid (l < M ∧ M ≤ 2 * l) := Lib.hid ⟨by omega, by omega⟩
  obtain ⟨k, hkm⟩ : ∃ k, m + 1 = k := ⟨_, rfl⟩
  rw [hkm] at e1 HK
  have hk0 : (0 : Int) ≤ (k : Int) := by omega
  clear hk hk1 hk2 hk3 hk4 h20 h1 hsz h2 hM hkm
  go_enter Tryd.func62, Tryd.ntmps62
  go_wp2_with (first
    | (go_at_call 48; refine HL.out.mono ?_; rintro e w' ⟨rfl, rfl⟩; rw [HK.out]; clear HL))
  go_ret
  exact ⟨M, rfl, hM2.out.1, hM2.out.2, rfl⟩
set_option maxHeartbeats 8000000 in
theorem break_any {blk off cap L a b : Nat} {d : Array Int} {w : World} (hL : d.size = L) (hH : Holds eU w blk off d) (hab : 12 < b - a) (hb : b ≤ L) (hsz : L < 1000000) :
    Calls Tryd.prog 52 #[.slice (some ⟨blk, off, none⟩) L cap, .int .i64 a, .int .i64 b] w fun e w' => e = .returned (.tuple #[]) ∧ ∃ d', PermIn a b d d' ∧ RowG w blk off d' w' := by
  have hblk : blk < w.heap.size := holds_lt hH (by omega)
  obtain ⟨K, hK⟩ : ∃ K, w.heap.size = K := ⟨_, rfl⟩
  obtain ⟨l, hl⟩ : ∃ l, b - a = l := ⟨_, rfl⟩
  obtain ⟨Q, hQ⟩ : ∃ Q, l / 4 = Q := ⟨_, rfl⟩
  obtain ⟨Q2, hQ2⟩ : ∃ Q2, Q * 2 = Q2 := ⟨_, rfl⟩
  obtain ⟨S, hS⟩ : ∃ S, a + Q2 = S := ⟨_, rfl⟩
  obtain ⟨S0, hS0⟩ : ∃ S0, S - 1 = S0 := ⟨_, rfl⟩
  obtain ⟨S1, hS1⟩ : ∃ S1, S + 1 = S1 := ⟨_, rfl⟩
  have hbt : a < S0 ∧ S1 + 1 < b ∧ S1 = S0 + 2 := by omega
  have e1 : IntKind.i64.wrap ((b : Int) - (a : Int)) = (l : Int) := by rw [IntWalk.i64_in _ (by omega)]; omega
  have e2 : (l : Int).tdiv 4 = (Q : Int) := by rw [Int.tdiv_eq_ediv_of_nonneg (by omega)]; omega
  have e3 : IntKind.i64.wrap (Q : Int) = (Q : Int) := IntWalk.i64_in _ (by omega)
  have e4 : IntKind.i64.wrap ((Q : Int) * 2) = (Q2 : Int) := by rw [IntWalk.i64_in _ (by omega)]; omega
  have e5 : IntKind.i64.wrap ((a : Int) + (Q2 : Int)) = (S : Int) := by rw [IntWalk.i64_in _ (by omega)]; omega
  have e6 : IntKind.i64.wrap ((S : Int) - 1) = (S0 : Int) := by rw [IntWalk.i64_in _ (by omega)]; omega
  have e7 : IntKind.i64.wrap ((S : Int) + 1) = (S1 : Int) := by rw [IntWalk.i64_in _ (by omega)]; omega
  have e8 : IntKind.u64.wrap (l : Int) = (l : Int) := by rw [IntKind.wrap_u64]; omega
  have t8 : decide ((8 : Int) ≤ (l : Int)) = true := decide_eq_true (by omega)
  obtain ⟨W1, hW1⟩ : ∃ W1, w.alloc (.cells #[.int .u64 l] 94) = W1 := ⟨_, rfl⟩
  have hb1 : Below K w W1 := by rw [← hW1, ← hK]; exact (Below.refl _ w).alloc (Nat.le_refl _) _
  have hs1 : BoxX W1 K := ⟨l, by omega, by rw [← hW1, ← hK]; exact World.alloc_heap_new _ _⟩
  have hz1 : K < W1.heap.size := by
    obtain ⟨s, _, hh⟩ := hs1
    by_cases h : K < W1.heap.size
    · exact h
    · rw [Array.getElem?_eq_none (by omega)] at hh; cases hh
  have HQ : Hid (b - a = l ∧ a < S0 ∧ S1 + 1 < b ∧ S1 = S0 + 2 ∧ 12 < l ∧ b ≤ L ∧ L < 1000000 ∧ a < b ∧ d.size = L ∧ blk < K) := Lib.hid ⟨hl, hbt.1, hbt.2.1, hbt.2.2, by omega, hb, hsz, by omega, hL, by omega⟩
  have HP := Lib.hid (power_any (l := l) (w := W1) (by omega) (by omega))
  have HG0 : Hid (RowG w blk off d W1) := Lib.hid ((RowG.refl hH).below (B := K) (by omega) (by omega) hb1)
  have HX0 : Hid (BoxX W1 K ∧ K < W1.heap.size) := Lib.hid ⟨hs1, hz1⟩
  have HW1 := Lib.hid hW1
  have HK := Lib.hid hK
  clear hL hH hab hb hsz hblk hK hl hQ hQ2 hS hS0 hS1 hbt hW1 hb1 hs1 hz1
  go_enter Tryd.func52, Tryd.ntmps52
  go_wp2_with fail
  rw [HK.out]
  go_wp2_with fail
  rw [HW1.out]
  go_wp2_with (first
    | (go_at_call 62; refine HP.out.mono ?_; rintro e w2 ⟨M, rfl, hM1, hM2, rfl⟩; have HM : Hid (l < M ∧ M ≤ 2 * l) := Lib.hid ⟨hM1, hM2⟩; have eM : IntKind.u64.wrap ((M : Int) - 1) = ((M - 1 : Nat) : Int) := (by rw [IntKind.wrap_u64]; have := HQ.out; omega); clear HP hM1 hM2))
  go_loopw [9] (fun v wr => ∃ (x : Nat) (dk : Array Int), v = .int .i64 x ∧ S0 ≤ x ∧ x ≤ S1 + 1 ∧ dk.size = L ∧ Hid (PermIn a b d dk) ∧ Hid (RowG w blk off dk wr) ∧ Hid (BoxX wr K ∧ K < wr.heap.size)) (fun v _ => S1 + 1 - (intOf v).toNat)
  case atStart => exact ⟨S0, d, rfl, Nat.le_refl _, by have := HQ.out; omega, HQ.out.2.2.2.2.2.2.2.2.1, Lib.hid (permIn_refl _ _ _), HG0, HX0⟩
  case round =>
    obtain ⟨x, dk, rfl, hx0, hx1, hsk, HPm, HR, HX⟩ := hrel
    by_cases hx : x ≤ S1
    · have hd : decide ((x : Int) ≤ (S1 : Int)) = true := decide_eq_true (by omega)
      have hxp : IntKind.i64.wrap ((x : Int) + 1) = ((x + 1 : Nat) : Int) := by rw [IntWalk.i64_in _ (by have := HQ.out; omega)]; omega
      have HN := Lib.hid (next_any HX.out.1)
      go_wp2_with fail
      go_at_call 63
      refine HN.out.mono ?_
      rintro e w2 ⟨s, rfl, hs, hbel, hbx⟩
      obtain ⟨O, hO⟩ : ∃ O : Nat, O = s &&& (M - 1) := ⟨_, rfl⟩
      have lO : O ≤ M - 1 := by rw [hO]; exact Nat.and_le_right
      have eAnd : bits .and .u64 (s : Int) ((M - 1 : Nat) : Int) = (O : Int) := by rw [bits_and_u64_nat _ _ hs (by have := HM.out; have := HQ.out; omega), hO]
      have eO : IntKind.i64.wrap (O : Int) = (O : Int) := IntWalk.i64_in _ (by have := HM.out; have := HQ.out; omega)
      have HR2 : Hid (RowG w blk off dk w2) := Lib.hid (HR.out.below (B := K) HQ.out.2.2.2.2.2.2.2.2.2 (by rw [HK.out]; exact Nat.le_refl _) hbel)
      have HX2 : Hid (BoxX w2 K ∧ K < w2.heap.size) := Lib.hid ⟨hbx, Nat.lt_of_lt_of_le HX.out.2 hbel.size⟩
      have HlO : Hid (O ≤ M - 1) := Lib.hid lO
      clear HN hs hbel hbx hO lO
      obtain ⟨V, hV⟩ : ∃ V : Nat → Int, ∀ t, V t = dk[t]! := ⟨fun t => dk[t]!, fun _ => rfl⟩
      have HV := Lib.hid hV
      have HCW : Hid (∀ t, t < L → w2.cell? ⟨blk, off + t, none⟩ = some (.int .u64 (V t)) ∧ w2.frozen? ⟨blk, off + t, none⟩ = false) := Lib.hid fun t ht => by
        rw [hV]; exact HR2.out.holds t (by omega)
      have lx : (x : Int) < (L : Int) := by have := HQ.out; omega
      have lxn : x < L := by have := HQ.out; omega
      obtain ⟨q1, f1⟩ := HCW.out x lxn
      clear hV
      by_cases hlO : l ≤ O
      · have hdO : decide ((l : Int) ≤ (O : Int)) = true := decide_eq_true (by omega)
        have hdN : decide (l ≤ O) = true := decide_eq_true hlO
        obtain ⟨P, hP⟩ : ∃ P, O - l = P := ⟨_, rfl⟩
        have eP : IntKind.i64.wrap ((O : Int) - (l : Int)) = (P : Int) := by rw [IntWalk.i64_in _ (by have := HlO.out; have := HM.out; have := HQ.out; omega)]; omega
        obtain ⟨c, hc⟩ : ∃ c, a + P = c := ⟨_, rfl⟩
        have ec : IntKind.i64.wrap ((a : Int) + (P : Int)) = (c : Int) := by rw [IntWalk.i64_in _ (by have := HlO.out; have := HM.out; have := HQ.out; omega)]; omega
        have hcab : a ≤ c ∧ c < b := by have := HlO.out; have := HM.out; have := HQ.out; omega
        have hcL : c < L := by have := HQ.out; omega
        clear hP hc hlO
        obtain ⟨q2, f2⟩ := HCW.out c hcL
        have l2 : (c : Int) < (L : Int) := by omega
        have HC2 : Hid (a ≤ c ∧ c < b) := Lib.hid (by have := HQ.out; omega)
        have hcc : x = c ∨ x ≠ c := by omega
        clear hcL hcab
        rcases hcc with hcc | hne
        · subst hcc
          go_wp2_with fail
          go_region
          all_goals go_wp2_with fail
          go_roundw
          case rel =>
            refine ⟨x + 1, swp dk x x, by go_num, by omega, by omega, by rw [size_swp]; exact hsk, Lib.hid (permIn_trans _ _ _ _ _ HPm.out (swp_permIn _ _ _ _ _ (by have := HQ.out; omega) (by have := HQ.out; omega) HC2.out.1 HC2.out.2 (by have := HQ.out; omega))), Lib.hid ?_, Lib.hid ⟨?_, ?_⟩⟩
            · simp only [HV.out]
              exact (HR2.out.swap (j := x) (k := x) (by omega) (by have := HC2.out; have := HQ.out; omega)).drew
            · have hn : blk ≠ K := by have := HQ.out; omega
              exact ((HX2.out.1.other (p := ⟨blk, off + x, none⟩) hn _).other (p := ⟨blk, off + x, none⟩) hn _).drew
            · have h := HX2.out.2
              simpa [World.setCell, World.drew] using h
          case measure => have := HQ.out; simp [intOf]; omega
        · have hne2 : c ≠ x := fun e => hne e.symm
          go_wp2_with fail
          go_region
          all_goals go_wp2_with fail
          go_roundw
          case rel =>
            refine ⟨x + 1, swp dk x c, by go_num, by omega, by omega, by rw [size_swp]; exact hsk, Lib.hid (permIn_trans _ _ _ _ _ HPm.out (swp_permIn _ _ _ _ _ (by have := HQ.out; omega) (by have := HQ.out; omega) HC2.out.1 HC2.out.2 (by have := HQ.out; omega))), Lib.hid ?_, Lib.hid ⟨?_, ?_⟩⟩
            · simp only [HV.out]
              exact (HR2.out.swap (j := x) (k := c) (by omega) (by have := HC2.out; have := HQ.out; omega)).drew
            · have hn : blk ≠ K := by have := HQ.out; omega
              exact ((HX2.out.1.other (p := ⟨blk, off + x, none⟩) hn _).other (p := ⟨blk, off + c, none⟩) hn _).drew
            · have h := HX2.out.2
              simpa [World.setCell, World.drew] using h
          case measure => have := HQ.out; simp [intOf]; omega
      · have hdO : decide ((l : Int) ≤ (O : Int)) = false := decide_eq_false (by omega)
        have hdN : decide (l ≤ O) = false := decide_eq_false hlO
        obtain ⟨c, hc⟩ : ∃ c, a + O = c := ⟨_, rfl⟩
        have ec : IntKind.i64.wrap ((a : Int) + (O : Int)) = (c : Int) := by rw [IntWalk.i64_in _ (by have := HlO.out; have := HM.out; have := HQ.out; omega)]; omega
        have hcab : a ≤ c ∧ c < b := by have := HQ.out; omega
        have hcL : c < L := by have := HQ.out; omega
        clear hc hlO
        obtain ⟨q2, f2⟩ := HCW.out c hcL
        have l2 : (c : Int) < (L : Int) := by omega
        have HC2 : Hid (a ≤ c ∧ c < b) := Lib.hid (by have := HQ.out; omega)
        have hcc : x = c ∨ x ≠ c := by omega
        clear hcL hcab
        rcases hcc with hcc | hne
        · subst hcc
          go_wp2_with fail
          go_region
          all_goals go_wp2_with fail
          go_roundw
          case rel =>
            refine ⟨x + 1, swp dk x x, by go_num, by omega, by omega, by rw [size_swp]; exact hsk, Lib.hid (permIn_trans _ _ _ _ _ HPm.out (swp_permIn _ _ _ _ _ (by have := HQ.out; omega) (by have := HQ.out; omega) HC2.out.1 HC2.out.2 (by have := HQ.out; omega))), Lib.hid ?_, Lib.hid ⟨?_, ?_⟩⟩
            · simp only [HV.out]
              exact (HR2.out.swap (j := x) (k := x) (by omega) (by have := HC2.out; have := HQ.out; omega)).drew
            · have hn : blk ≠ K := by have := HQ.out; omega
              exact ((HX2.out.1.other (p := ⟨blk, off + x, none⟩) hn _).other (p := ⟨blk, off + x, none⟩) hn _).drew
            · have h := HX2.out.2
              simpa [World.setCell, World.drew] using h
          case measure => have := HQ.out; simp [intOf]; omega
        · have hne2 : c ≠ x := fun e => hne e.symm
          go_wp2_with fail
          go_region
          all_goals go_wp2_with fail
          go_roundw
          case rel =>
            refine ⟨x + 1, swp dk x c, by go_num, by omega, by omega, by rw [size_swp]; exact hsk, Lib.hid (permIn_trans _ _ _ _ _ HPm.out (swp_permIn _ _ _ _ _ (by have := HQ.out; omega) (by have := HQ.out; omega) HC2.out.1 HC2.out.2 (by have := HQ.out; omega))), Lib.hid ?_, Lib.hid ⟨?_, ?_⟩⟩
            · simp only [HV.out]
              exact (HR2.out.swap (j := x) (k := c) (by omega) (by have := HC2.out; have := HQ.out; omega)).drew
            · have hn : blk ≠ K := by have := HQ.out; omega
              exact ((HX2.out.1.other (p := ⟨blk, off + x, none⟩) hn _).other (p := ⟨blk, off + c, none⟩) hn _).drew
            · have h := HX2.out.2
              simpa [World.setCell, World.drew] using h
          case measure => have := HQ.out; simp [intOf]; omega
    · have hd : decide ((x : Int) ≤ (S1 : Int)) = false := decide_eq_false (by omega)
      go_wp2
      go_end0
      exact ⟨rfl, dk, HPm.out, HR.out⟩
end Go.Proofs.YtfcabdgidlnljaaDoor
