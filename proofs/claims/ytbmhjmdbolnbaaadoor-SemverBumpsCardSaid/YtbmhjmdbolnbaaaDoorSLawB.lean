/-
  THE LAW SemverBumps.
-/
import Derived.Test.YtbmhjmdbolnbaaaDoorSBump
import Derived.Test.YtbmhjmdbolnbaaaDoorSRefR
namespace Go.Proofs.YtbmhjmdbolnbaaaDoor
open Go.RowKit
open SemP
set_option linter.unusedVariables false
set_option linter.unusedSimpArgs false
set_option maxRecDepth 100000

set_option maxHeartbeats 8000000 in
theorem law_bumps (a b c : Int) (s : ByteArray) (part : Int) (w : World) (hm : LenAt w) (h1 : 1 < w.heap.size) :
    Calls Tryd.prog 7 #[verV a b c s, .int .i64 part] w fun e w' => e = .returned (.bool true) ∧ Below w.heap.size w w' := by
  have hb0 : Below w.heap.size w (w.alloc (verC a b c s)) := (Below.refl _ w).alloc (Nat.le_refl _) _
  have hA : (w.alloc (verC a b c s)).heap[w.heap.size]? = some (verC a b c s) := World.alloc_heap_new _ _
  obtain ⟨W0, hW0⟩ : ∃ W0, w.alloc (verC a b c s) = W0 := ⟨_, rfl⟩
  have hz0 : W0.heap.size = w.heap.size + 1 := by rw [← hW0]; simp
  rw [hW0] at hb0 hA
  have hM0 := hm.below h1 hb0
  have HAN := Lib.hid (anchor_any W0 hM0.1 hM0.2)
  have HW0 := Lib.hid hW0
  have HA := Lib.hid hA
  have HB0 := Lib.hid hb0
  have HM0 := Lib.hid hM0
  clear hA hW0 hb0 hM0 hm
  go_enter Tryd.func7, Tryd.ntmps7
  go_wp2_with fail
  try rw [show w.alloc (.cells #[.int .i64 a, .int .i64 b, .int .i64 c, .string s] 25) = W0 from HW0.out]
  refine HAN.out.mono ?_
  rintro e W1 ⟨rfl, h2⟩
  have hA1 := (h2.block _ (show w.heap.size < W0.heap.size by omega)).trans HA.out
  obtain ⟨x0, x1, x2, x3⟩ := cells4 hA1
  have HA1 := Lib.hid hA1
  have HB1 : Hid (Below w.heap.size w W1) := Lib.hid (HB0.out.trans (h2.mono (by omega)))
  have HM1 := Lib.hid (HM0.out.1.below HM0.out.2 h2)
  have hz1 : w.heap.size + 1 ≤ W1.heap.size := by have := h2.size; omega
  clear h2 HAN hA1
  go_wp2_with fail
  refine (short_any s W1).mono ?_
  rintro e w' ⟨rfl, rfl⟩
  cases hsh : decide (s.size ≤ 300) with
  | false =>
    go_wp2
    refine bodyPost_ret (results_tmp rfl _ _ _) rfl ⟨rfl, HB1.out⟩
  | true =>
    have HS : Hid (s.size ≤ 300) := Lib.hid (of_decide_eq_true hsh)
    have HBU := Lib.hid (Bump_any a b c s part w' (by have := HS.out; omega) HM1.out.1 HM1.out.2)
    clear hsh
    go_wp2_with fail
    refine HBU.out.mono ?_
    rintro e W2 ⟨rfl, h3⟩
    have hA2 := (h3.block _ (show w.heap.size < w'.heap.size by omega)).trans HA1.out
    have HB2 : Hid (Below w.heap.size w W2) := Lib.hid (HB1.out.trans (h3.mono (by omega)))
    have hz2 : w.heap.size + 1 ≤ W2.heap.size := by have := h3.size; omega
    have HM2 := Lib.hid (HM1.out.1.below HM1.out.2 h3)
    clear h3 HBU x0 x1 x2 x3
    have HALL : Hid (∀ (x y z k : Int) (u : ByteArray), bumpR ⟨a, b, c, bs s⟩ part = .tuple #[verV x y z u, .int .i64 k] → ∃ W3, W2.alloc (verC x y z u) = W3 ∧ Below w.heap.size w W3 ∧ W3.heap[w.heap.size]? = some (verC a b c s) ∧ W3.heap[W2.heap.size]? = some (verC x y z u) ∧ LenAt W3 ∧ 1 < W3.heap.size ∧ W2.heap.size < W3.heap.size) := Lib.hid (by
      intro x y z k u _
      have hb := HB2.out.alloc HB2.out.size (o := verC x y z u)
      have hb2 : Below W2.heap.size W2 (W2.alloc (verC x y z u)) := (Below.refl _ W2).alloc (Nat.le_refl _) _
      have hl := HM2.out.1.below HM2.out.2 hb2
      exact ⟨_, rfl, hb, (Below.heap_alloc _ _ _ (by omega)).trans hA2, World.alloc_heap_new _ _, hl.1, hl.2, by simp⟩)
    clear hA2
    have HSE := Lib.hid (show s.toList.isEmpty = (bs s).isEmpty by rw [ByteArray.toList_eq])
    cases hr : Ver.right ⟨a, b, c, bs s⟩ with
    | false =>
      have HV : Hid (bumpR ⟨a, b, c, bs s⟩ part = .tuple #[verV 0 0 0 ⟨#[]⟩, .int .i64 12]) := Lib.hid (by unfold bumpR; rw [if_neg]; intro h; rw [hr] at h; cases h.1)
      have HRR := Lib.hid hr
      obtain ⟨W3, hW3, hB3, hA3, hC3, hM3, hM3', hz3⟩ := HALL.out _ _ _ _ _ HV.out
      have HR := Lib.hid (RefRight_any a b c s W3 (by have := HS.out; omega))
      have HW3 := Lib.hid hW3
      have HB3 := Lib.hid hB3
      have HAC := Lib.hid (And.intro hA3 hC3)
      have HM3 := Lib.hid (And.intro hM3 hM3')
      rw [← hW3] at hA3
      obtain ⟨x0, x1, x2, x3⟩ := cells4 hA3
      clear HALL hB3 hA3 hC3 hM3 hM3' hW3 hr
      rw [HV.out]
      go_wp2_with fail
      try rw [show W2.alloc (.cells #[.int .i64 (0), .int .i64 (0), .int .i64 (0), .string ⟨#[]⟩] 25) = W3 from HW3.out]
      clear x0 x1 x2 x3
      refine HR.out.mono ?_
      rintro e W4 ⟨rfl, h4⟩
      rw [HRR.out]
      have hA4 := (h4.block _ (show w.heap.size < W3.heap.size by omega)).trans HAC.out.1
      have hC4 := (h4.block _ hz3).trans HAC.out.2
      obtain ⟨x0, x1, x2, x3⟩ := cells4 hA4
      obtain ⟨y0, y1, y2, y3⟩ := cells4 hC4
      have HAC4 := Lib.hid (And.intro hA4 hC4)
      have HM4 := Lib.hid (HM3.out.1.below HM3.out.2 h4)
      have HB4 : Hid (Below w.heap.size w W4) := Lib.hid (HB3.out.trans (h4.mono HB3.out.size))
      have hz4 : W2.heap.size < W4.heap.size := by have := h4.size; omega
      clear h4 hA4 hC4 HR
      go_wp2
      refine bodyPost_ret (results_tmp rfl _ _ _) rfl ⟨rfl, HB4.out⟩
    | true =>
      have HRR := Lib.hid hr
      have hrr : (0 ≤ a ∧ a ≤ 999999) ∧ (0 ≤ b ∧ b ≤ 999999) ∧ (0 ≤ c ∧ c ≤ 999999) := by
        have := hr
        unfold Ver.right rightN at this
        simp at this
        omega
      by_cases hlo : part < 0
      · have dlo : decide (part < 0) = true := decide_eq_true hlo
        have HV : Hid (bumpR ⟨a, b, c, bs s⟩ part = .tuple #[verV 0 0 0 ⟨#[]⟩, .int .i64 12]) := Lib.hid (by unfold bumpR; rw [if_neg]; intro h; omega)
        clear hlo hrr
        obtain ⟨W3, hW3, hB3, hA3, hC3, hM3, hM3', hz3⟩ := HALL.out _ _ _ _ _ HV.out
        have HR := Lib.hid (RefRight_any a b c s W3 (by have := HS.out; omega))
        have HW3 := Lib.hid hW3
        have HB3 := Lib.hid hB3
        have HAC := Lib.hid (And.intro hA3 hC3)
        have HM3 := Lib.hid (And.intro hM3 hM3')
        rw [← hW3] at hA3
        obtain ⟨x0, x1, x2, x3⟩ := cells4 hA3
        clear HALL hB3 hA3 hC3 hM3 hM3' hW3 hr
        rw [HV.out]
        go_wp2_with fail
        try rw [show W2.alloc (.cells #[.int .i64 (0), .int .i64 (0), .int .i64 (0), .string ⟨#[]⟩] 25) = W3 from HW3.out]
        clear x0 x1 x2 x3
        refine HR.out.mono ?_
        rintro e W4 ⟨rfl, h4⟩
        rw [HRR.out]
        have hA4 := (h4.block _ (show w.heap.size < W3.heap.size by omega)).trans HAC.out.1
        have hC4 := (h4.block _ hz3).trans HAC.out.2
        obtain ⟨x0, x1, x2, x3⟩ := cells4 hA4
        obtain ⟨y0, y1, y2, y3⟩ := cells4 hC4
        have HAC4 := Lib.hid (And.intro hA4 hC4)
        have HM4 := Lib.hid (HM3.out.1.below HM3.out.2 h4)
        have HB4 : Hid (Below w.heap.size w W4) := Lib.hid (HB3.out.trans (h4.mono HB3.out.size))
        have hz4 : W2.heap.size < W4.heap.size := by have := h4.size; omega
        clear h4 hA4 hC4 HR
        go_wp2
        refine bodyPost_ret (results_tmp rfl _ _ _) rfl ⟨rfl, HB4.out⟩
      have dlo : decide (part < 0) = false := decide_eq_false hlo
      by_cases hhi : 2 < part
      · have dhi : decide (2 < part) = true := decide_eq_true hhi
        have HV : Hid (bumpR ⟨a, b, c, bs s⟩ part = .tuple #[verV 0 0 0 ⟨#[]⟩, .int .i64 12]) := Lib.hid (by unfold bumpR; rw [if_neg]; intro h; omega)
        clear hlo hhi hrr
        obtain ⟨W3, hW3, hB3, hA3, hC3, hM3, hM3', hz3⟩ := HALL.out _ _ _ _ _ HV.out
        have HR := Lib.hid (RefRight_any a b c s W3 (by have := HS.out; omega))
        have HW3 := Lib.hid hW3
        have HB3 := Lib.hid hB3
        have HAC := Lib.hid (And.intro hA3 hC3)
        have HM3 := Lib.hid (And.intro hM3 hM3')
        rw [← hW3] at hA3
        obtain ⟨x0, x1, x2, x3⟩ := cells4 hA3
        clear HALL hB3 hA3 hC3 hM3 hM3' hW3 hr
        rw [HV.out]
        go_wp2_with fail
        try rw [show W2.alloc (.cells #[.int .i64 (0), .int .i64 (0), .int .i64 (0), .string ⟨#[]⟩] 25) = W3 from HW3.out]
        clear x0 x1 x2 x3
        refine HR.out.mono ?_
        rintro e W4 ⟨rfl, h4⟩
        rw [HRR.out]
        have hA4 := (h4.block _ (show w.heap.size < W3.heap.size by omega)).trans HAC.out.1
        have hC4 := (h4.block _ hz3).trans HAC.out.2
        obtain ⟨x0, x1, x2, x3⟩ := cells4 hA4
        obtain ⟨y0, y1, y2, y3⟩ := cells4 hC4
        have HAC4 := Lib.hid (And.intro hA4 hC4)
        have HM4 := Lib.hid (HM3.out.1.below HM3.out.2 h4)
        have HB4 : Hid (Below w.heap.size w W4) := Lib.hid (HB3.out.trans (h4.mono HB3.out.size))
        have hz4 : W2.heap.size < W4.heap.size := by have := h4.size; omega
        clear h4 hA4 hC4 HR
        go_wp2
        refine bodyPost_ret (results_tmp rfl _ _ _) rfl ⟨rfl, HB4.out⟩
      have hpp : part = 0 ∨ part = 1 ∨ part = 2 := by omega
      clear dlo hlo hhi
      rcases hpp with rfl | rfl | rfl
      · by_cases hbig : 999999 < a + 1
        · have dbig : decide (999999 < a + 1) = true := decide_eq_true hbig
          have HV : Hid (bumpR ⟨a, b, c, bs s⟩ 0 = .tuple #[verV 0 0 0 ⟨#[]⟩, .int .i64 11]) := Lib.hid (by
            unfold bumpR; rw [if_pos ⟨hr, by decide, by decide⟩, if_neg]
            intro h;  unfold Ver.bump Ver.right rightN at h; simp  at h; omega)
          have e1 : IntKind.i64.wrap (a + 1) = a + 1 := IntWalk.i64_in _ (by omega)
          have da : decide (999999 < a) = false := by simp; omega
          have db : decide (999999 < b) = false := by simp; omega
          clear hbig hrr
          obtain ⟨W3, hW3, hB3, hA3, hC3, hM3, hM3', hz3⟩ := HALL.out _ _ _ _ _ HV.out
          have HR := Lib.hid (RefRight_any a b c s W3 (by have := HS.out; omega))
          have HW3 := Lib.hid hW3
          have HB3 := Lib.hid hB3
          have HAC := Lib.hid (And.intro hA3 hC3)
          have HM3 := Lib.hid (And.intro hM3 hM3')
          rw [← hW3] at hA3
          obtain ⟨x0, x1, x2, x3⟩ := cells4 hA3
          clear HALL hB3 hA3 hC3 hM3 hM3' hW3 hr
          rw [HV.out]
          go_wp2_with fail
          try rw [show W2.alloc (.cells #[.int .i64 (0), .int .i64 (0), .int .i64 (0), .string ⟨#[]⟩] 25) = W3 from HW3.out]
          clear x0 x1 x2 x3
          refine HR.out.mono ?_
          rintro e W4 ⟨rfl, h4⟩
          rw [HRR.out]
          have hA4 := (h4.block _ (show w.heap.size < W3.heap.size by omega)).trans HAC.out.1
          have hC4 := (h4.block _ hz3).trans HAC.out.2
          obtain ⟨x0, x1, x2, x3⟩ := cells4 hA4
          obtain ⟨y0, y1, y2, y3⟩ := cells4 hC4
          have HAC4 := Lib.hid (And.intro hA4 hC4)
          have HM4 := Lib.hid (HM3.out.1.below HM3.out.2 h4)
          have HB4 : Hid (Below w.heap.size w W4) := Lib.hid (HB3.out.trans (h4.mono HB3.out.size))
          have hz4 : W2.heap.size < W4.heap.size := by have := h4.size; omega
          clear h4 hA4 hC4 HR
          have hA5 : (W4.alloc (.cells #[.int .i64 a, .int .i64 b, .int .i64 c, .string ⟨#[]⟩] 25)).heap[w.heap.size]? = some (verC a b c s) := (Below.heap_alloc _ _ _ (by omega)).trans HAC4.out.1
          obtain ⟨z0, z1, z2, z3⟩ := cells4 hA5
          clear hA5
          have HBA : Hid (∀ o : Obj, Below w.heap.size w (W4.alloc o)) := Lib.hid (fun o => HB4.out.alloc HB4.out.size o)
          go_wp2
          refine bodyPost_ret (results_tmp rfl _ _ _) rfl ⟨rfl, HBA.out _⟩
        · have dbig : decide (999999 < a + 1) = false := decide_eq_false hbig
          have e1 : IntKind.i64.wrap (a + 1) = a + 1 := IntWalk.i64_in _ (by omega)
          have HBV : Hid (Ver.bump ⟨a, b, c, bs s⟩ 0 = ⟨a + 1, 0, 0, []⟩) := Lib.hid (by unfold Ver.bump; simp )
          have HV : Hid (bumpR ⟨a, b, c, bs s⟩ 0 = .tuple #[verV (a + 1) (0) (0) ⟨#[]⟩, .int .i64 0]) := Lib.hid (by
            unfold bumpR; rw [if_pos ⟨hr, by decide, by decide⟩, HBV.out, if_pos]
            · rfl
            · unfold Ver.right rightN; simp; omega)
          have HCV : Hid (cmpV ⟨a, b, c, bs s⟩ ⟨a + 1, 0, 0, []⟩ = -1) := Lib.hid (by rw [← HBV.out]; exact bump_above _ _)
          have da : decide (999999 < a) = false := by simp; omega
          have db : decide (999999 < b) = false := by simp; omega
          have dc : decide (999999 < c) = false := by simp; omega
          clear hrr
          clear hbig
          obtain ⟨W3, hW3, hB3, hA3, hC3, hM3, hM3', hz3⟩ := HALL.out _ _ _ _ _ HV.out
          have HR := Lib.hid (RefRight_any a b c s W3 (by have := HS.out; omega))
          have HW3 := Lib.hid hW3
          have HB3 := Lib.hid hB3
          have HAC := Lib.hid (And.intro hA3 hC3)
          have HM3 := Lib.hid (And.intro hM3 hM3')
          rw [← hW3] at hA3
          obtain ⟨x0, x1, x2, x3⟩ := cells4 hA3
          clear HALL hB3 hA3 hC3 hM3 hM3' hW3 hr
          rw [HV.out]
          go_wp2_with fail
          try rw [show W2.alloc (.cells #[.int .i64 (a + 1), .int .i64 (0), .int .i64 (0), .string ⟨#[]⟩] 25) = W3 from HW3.out]
          clear x0 x1 x2 x3
          refine HR.out.mono ?_
          rintro e W4 ⟨rfl, h4⟩
          rw [HRR.out]
          have hA4 := (h4.block _ (show w.heap.size < W3.heap.size by omega)).trans HAC.out.1
          have hC4 := (h4.block _ hz3).trans HAC.out.2
          obtain ⟨x0, x1, x2, x3⟩ := cells4 hA4
          obtain ⟨y0, y1, y2, y3⟩ := cells4 hC4
          have HAC4 := Lib.hid (And.intro hA4 hC4)
          have HM4 := Lib.hid (HM3.out.1.below HM3.out.2 h4)
          have HB4 : Hid (Below w.heap.size w W4) := Lib.hid (HB3.out.trans (h4.mono HB3.out.size))
          have hz4 : W2.heap.size < W4.heap.size := by have := h4.size; omega
          clear h4 hA4 hC4 HR
          have hA5 : (W4.alloc (.cells #[.int .i64 a, .int .i64 b, .int .i64 c, .string ⟨#[]⟩] 25)).heap[w.heap.size]? = some (verC a b c s) := (Below.heap_alloc _ _ _ (by omega)).trans HAC4.out.1
          obtain ⟨z0, z1, z2, z3⟩ := cells4 hA5
          clear hA5
          have HBA : Hid (∀ o : Obj, Below w.heap.size w (W4.alloc o)) := Lib.hid (fun o => HB4.out.alloc HB4.out.size o)
          have hA6 : (W4.alloc (.cells #[.int .i64 (a + 1), .int .i64 (0), .int .i64 (0), .string ⟨#[]⟩] 25)).heap[w.heap.size]? = some (verC a b c s) := (Below.heap_alloc _ _ _ (by omega)).trans HAC4.out.1
          have hC6 : (W4.alloc (.cells #[.int .i64 (a + 1), .int .i64 (0), .int .i64 (0), .string ⟨#[]⟩] 25)).heap[W2.heap.size]? = some (verC (a + 1) (0) (0) ⟨#[]⟩) := (Below.heap_alloc _ _ _ hz4).trans HAC4.out.2
          obtain ⟨p0, p1, p2, p3⟩ := cells4 hA6
          obtain ⟨q0, q1, q2, q3⟩ := cells4 hC6
          have HM6 := Lib.hid (HM4.out.1.below HM4.out.2 (show Below W4.heap.size W4 (W4.alloc (verC (a + 1) (0) (0) ⟨#[]⟩)) from (Below.refl _ W4).alloc (Nat.le_refl _) _))
          have HCMP := Lib.hid (Compare_any a b c s (a + 1) (0) (0) ⟨#[]⟩ (W4.alloc (verC (a + 1) (0) (0) ⟨#[]⟩)) (by have := HS.out; omega) (by decide) HM6.out.1 HM6.out.2)
          clear hA6 hC6
          go_wp2_with fail
          refine HCMP.out.mono ?_
          rintro e W7 ⟨rfl, h7⟩
          rw [show cmpV ⟨a, b, c, bs s⟩ ⟨a + 1, 0, 0, bs ⟨#[]⟩⟩ = -1 from HCV.out]
          have HB7 : Hid (Below w.heap.size w W7) := Lib.hid ((HBA.out _).trans (h7.mono (HBA.out _).size))
          clear h7 HCMP p0 p1 p2 p3 q0 q1 q2 q3 z0 z1 z2 z3 x0 x1 x2 x3 y0 y1 y2 y3
          go_wp2
          refine bodyPost_ret (results_tmp rfl _ _ _) rfl ⟨rfl, HB7.out⟩
      · by_cases hbig : 999999 < b + 1
        · have dbig : decide (999999 < b + 1) = true := decide_eq_true hbig
          have HV : Hid (bumpR ⟨a, b, c, bs s⟩ 1 = .tuple #[verV 0 0 0 ⟨#[]⟩, .int .i64 11]) := Lib.hid (by
            unfold bumpR; rw [if_pos ⟨hr, by decide, by decide⟩, if_neg]
            intro h;  unfold Ver.bump Ver.right rightN at h; simp  at h; omega)
          have e1 : IntKind.i64.wrap (b + 1) = b + 1 := IntWalk.i64_in _ (by omega)
          have da : decide (999999 < a) = false := by simp; omega
          have db : decide (999999 < b) = false := by simp; omega
          clear hbig hrr
          obtain ⟨W3, hW3, hB3, hA3, hC3, hM3, hM3', hz3⟩ := HALL.out _ _ _ _ _ HV.out
          have HR := Lib.hid (RefRight_any a b c s W3 (by have := HS.out; omega))
          have HW3 := Lib.hid hW3
          have HB3 := Lib.hid hB3
          have HAC := Lib.hid (And.intro hA3 hC3)
          have HM3 := Lib.hid (And.intro hM3 hM3')
          rw [← hW3] at hA3
          obtain ⟨x0, x1, x2, x3⟩ := cells4 hA3
          clear HALL hB3 hA3 hC3 hM3 hM3' hW3 hr
          rw [HV.out]
          go_wp2_with fail
          try rw [show W2.alloc (.cells #[.int .i64 (0), .int .i64 (0), .int .i64 (0), .string ⟨#[]⟩] 25) = W3 from HW3.out]
          clear x0 x1 x2 x3
          refine HR.out.mono ?_
          rintro e W4 ⟨rfl, h4⟩
          rw [HRR.out]
          have hA4 := (h4.block _ (show w.heap.size < W3.heap.size by omega)).trans HAC.out.1
          have hC4 := (h4.block _ hz3).trans HAC.out.2
          obtain ⟨x0, x1, x2, x3⟩ := cells4 hA4
          obtain ⟨y0, y1, y2, y3⟩ := cells4 hC4
          have HAC4 := Lib.hid (And.intro hA4 hC4)
          have HM4 := Lib.hid (HM3.out.1.below HM3.out.2 h4)
          have HB4 : Hid (Below w.heap.size w W4) := Lib.hid (HB3.out.trans (h4.mono HB3.out.size))
          have hz4 : W2.heap.size < W4.heap.size := by have := h4.size; omega
          clear h4 hA4 hC4 HR
          have hA5 : (W4.alloc (.cells #[.int .i64 a, .int .i64 b, .int .i64 c, .string ⟨#[]⟩] 25)).heap[w.heap.size]? = some (verC a b c s) := (Below.heap_alloc _ _ _ (by omega)).trans HAC4.out.1
          obtain ⟨z0, z1, z2, z3⟩ := cells4 hA5
          clear hA5
          have HBA : Hid (∀ o : Obj, Below w.heap.size w (W4.alloc o)) := Lib.hid (fun o => HB4.out.alloc HB4.out.size o)
          go_wp2
          refine bodyPost_ret (results_tmp rfl _ _ _) rfl ⟨rfl, HBA.out _⟩
        · have dbig : decide (999999 < b + 1) = false := decide_eq_false hbig
          have e1 : IntKind.i64.wrap (b + 1) = b + 1 := IntWalk.i64_in _ (by omega)
          have HBV : Hid (Ver.bump ⟨a, b, c, bs s⟩ 1 = ⟨a, b + 1, 0, []⟩) := Lib.hid (by unfold Ver.bump; simp )
          have HV : Hid (bumpR ⟨a, b, c, bs s⟩ 1 = .tuple #[verV (a) (b + 1) (0) ⟨#[]⟩, .int .i64 0]) := Lib.hid (by
            unfold bumpR; rw [if_pos ⟨hr, by decide, by decide⟩, HBV.out, if_pos]
            · rfl
            · unfold Ver.right rightN; simp; omega)
          have HCV : Hid (cmpV ⟨a, b, c, bs s⟩ ⟨a, b + 1, 0, []⟩ = -1) := Lib.hid (by rw [← HBV.out]; exact bump_above _ _)
          have da : decide (999999 < a) = false := by simp; omega
          have db : decide (999999 < b) = false := by simp; omega
          have dc : decide (999999 < c) = false := by simp; omega
          clear hrr
          clear hbig
          obtain ⟨W3, hW3, hB3, hA3, hC3, hM3, hM3', hz3⟩ := HALL.out _ _ _ _ _ HV.out
          have HR := Lib.hid (RefRight_any a b c s W3 (by have := HS.out; omega))
          have HW3 := Lib.hid hW3
          have HB3 := Lib.hid hB3
          have HAC := Lib.hid (And.intro hA3 hC3)
          have HM3 := Lib.hid (And.intro hM3 hM3')
          rw [← hW3] at hA3
          obtain ⟨x0, x1, x2, x3⟩ := cells4 hA3
          clear HALL hB3 hA3 hC3 hM3 hM3' hW3 hr
          rw [HV.out]
          go_wp2_with fail
          try rw [show W2.alloc (.cells #[.int .i64 (a), .int .i64 (b + 1), .int .i64 (0), .string ⟨#[]⟩] 25) = W3 from HW3.out]
          clear x0 x1 x2 x3
          refine HR.out.mono ?_
          rintro e W4 ⟨rfl, h4⟩
          rw [HRR.out]
          have hA4 := (h4.block _ (show w.heap.size < W3.heap.size by omega)).trans HAC.out.1
          have hC4 := (h4.block _ hz3).trans HAC.out.2
          obtain ⟨x0, x1, x2, x3⟩ := cells4 hA4
          obtain ⟨y0, y1, y2, y3⟩ := cells4 hC4
          have HAC4 := Lib.hid (And.intro hA4 hC4)
          have HM4 := Lib.hid (HM3.out.1.below HM3.out.2 h4)
          have HB4 : Hid (Below w.heap.size w W4) := Lib.hid (HB3.out.trans (h4.mono HB3.out.size))
          have hz4 : W2.heap.size < W4.heap.size := by have := h4.size; omega
          clear h4 hA4 hC4 HR
          have hA5 : (W4.alloc (.cells #[.int .i64 a, .int .i64 b, .int .i64 c, .string ⟨#[]⟩] 25)).heap[w.heap.size]? = some (verC a b c s) := (Below.heap_alloc _ _ _ (by omega)).trans HAC4.out.1
          obtain ⟨z0, z1, z2, z3⟩ := cells4 hA5
          clear hA5
          have HBA : Hid (∀ o : Obj, Below w.heap.size w (W4.alloc o)) := Lib.hid (fun o => HB4.out.alloc HB4.out.size o)
          have hA6 : (W4.alloc (.cells #[.int .i64 (a), .int .i64 (b + 1), .int .i64 (0), .string ⟨#[]⟩] 25)).heap[w.heap.size]? = some (verC a b c s) := (Below.heap_alloc _ _ _ (by omega)).trans HAC4.out.1
          have hC6 : (W4.alloc (.cells #[.int .i64 (a), .int .i64 (b + 1), .int .i64 (0), .string ⟨#[]⟩] 25)).heap[W2.heap.size]? = some (verC (a) (b + 1) (0) ⟨#[]⟩) := (Below.heap_alloc _ _ _ hz4).trans HAC4.out.2
          obtain ⟨p0, p1, p2, p3⟩ := cells4 hA6
          obtain ⟨q0, q1, q2, q3⟩ := cells4 hC6
          have HM6 := Lib.hid (HM4.out.1.below HM4.out.2 (show Below W4.heap.size W4 (W4.alloc (verC (a) (b + 1) (0) ⟨#[]⟩)) from (Below.refl _ W4).alloc (Nat.le_refl _) _))
          have HCMP := Lib.hid (Compare_any a b c s (a) (b + 1) (0) ⟨#[]⟩ (W4.alloc (verC (a) (b + 1) (0) ⟨#[]⟩)) (by have := HS.out; omega) (by decide) HM6.out.1 HM6.out.2)
          clear hA6 hC6
          go_wp2_with fail
          refine HCMP.out.mono ?_
          rintro e W7 ⟨rfl, h7⟩
          rw [show cmpV ⟨a, b, c, bs s⟩ ⟨a, b + 1, 0, bs ⟨#[]⟩⟩ = -1 from HCV.out]
          have HB7 : Hid (Below w.heap.size w W7) := Lib.hid ((HBA.out _).trans (h7.mono (HBA.out _).size))
          clear h7 HCMP p0 p1 p2 p3 q0 q1 q2 q3 z0 z1 z2 z3 x0 x1 x2 x3 y0 y1 y2 y3
          go_wp2
          refine bodyPost_ret (results_tmp rfl _ _ _) rfl ⟨rfl, HB7.out⟩
      · cases hee : (bs s).isEmpty with
        | true =>
          have hse : s.toList.isEmpty = true := by rw [HSE.out]; exact hee
          have hnil : bs s = [] := List.isEmpty_iff.1 hee
          by_cases hbig : 999999 < c + 1
          · have dbig : decide (999999 < c + 1) = true := decide_eq_true hbig
            have HV : Hid (bumpR ⟨a, b, c, bs s⟩ 2 = .tuple #[verV 0 0 0 ⟨#[]⟩, .int .i64 11]) := Lib.hid (by
              unfold bumpR; rw [if_pos ⟨hr, by decide, by decide⟩, if_neg]
              intro h;  unfold Ver.bump Ver.right rightN at h; simp [hnil] at h; omega)
            have e1 : IntKind.i64.wrap (c + 1) = c + 1 := IntWalk.i64_in _ (by omega)
            have da : decide (999999 < a) = false := by simp; omega
            have db : decide (999999 < b) = false := by simp; omega
            clear hee hnil
            clear hbig hrr
            obtain ⟨W3, hW3, hB3, hA3, hC3, hM3, hM3', hz3⟩ := HALL.out _ _ _ _ _ HV.out
            have HR := Lib.hid (RefRight_any a b c s W3 (by have := HS.out; omega))
            have HW3 := Lib.hid hW3
            have HB3 := Lib.hid hB3
            have HAC := Lib.hid (And.intro hA3 hC3)
            have HM3 := Lib.hid (And.intro hM3 hM3')
            rw [← hW3] at hA3
            obtain ⟨x0, x1, x2, x3⟩ := cells4 hA3
            clear HALL hB3 hA3 hC3 hM3 hM3' hW3 hr
            rw [HV.out]
            go_wp2_with fail
            try rw [show W2.alloc (.cells #[.int .i64 (0), .int .i64 (0), .int .i64 (0), .string ⟨#[]⟩] 25) = W3 from HW3.out]
            clear x0 x1 x2 x3
            refine HR.out.mono ?_
            rintro e W4 ⟨rfl, h4⟩
            rw [HRR.out]
            have hA4 := (h4.block _ (show w.heap.size < W3.heap.size by omega)).trans HAC.out.1
            have hC4 := (h4.block _ hz3).trans HAC.out.2
            obtain ⟨x0, x1, x2, x3⟩ := cells4 hA4
            obtain ⟨y0, y1, y2, y3⟩ := cells4 hC4
            have HAC4 := Lib.hid (And.intro hA4 hC4)
            have HM4 := Lib.hid (HM3.out.1.below HM3.out.2 h4)
            have HB4 : Hid (Below w.heap.size w W4) := Lib.hid (HB3.out.trans (h4.mono HB3.out.size))
            have hz4 : W2.heap.size < W4.heap.size := by have := h4.size; omega
            clear h4 hA4 hC4 HR
            have hA5 : (W4.alloc (.cells #[.int .i64 a, .int .i64 b, .int .i64 c, .string ⟨#[]⟩] 25)).heap[w.heap.size]? = some (verC a b c s) := (Below.heap_alloc _ _ _ (by omega)).trans HAC4.out.1
            obtain ⟨z0, z1, z2, z3⟩ := cells4 hA5
            clear hA5
            have HBA : Hid (∀ o : Obj, Below w.heap.size w (W4.alloc o)) := Lib.hid (fun o => HB4.out.alloc HB4.out.size o)
            go_wp2
            refine bodyPost_ret (results_tmp rfl _ _ _) rfl ⟨rfl, HBA.out _⟩
          · have dbig : decide (999999 < c + 1) = false := decide_eq_false hbig
            have e1 : IntKind.i64.wrap (c + 1) = c + 1 := IntWalk.i64_in _ (by omega)
            have HBV : Hid (Ver.bump ⟨a, b, c, bs s⟩ 2 = ⟨a, b, c + 1, []⟩) := Lib.hid (by unfold Ver.bump; simp [hnil])
            have HV : Hid (bumpR ⟨a, b, c, bs s⟩ 2 = .tuple #[verV (a) (b) (c + 1) ⟨#[]⟩, .int .i64 0]) := Lib.hid (by
              unfold bumpR; rw [if_pos ⟨hr, by decide, by decide⟩, HBV.out, if_pos]
              · rfl
              · unfold Ver.right rightN; simp; omega)
            have HCV : Hid (cmpV ⟨a, b, c, bs s⟩ ⟨a, b, c + 1, []⟩ = -1) := Lib.hid (by rw [← HBV.out]; exact bump_above _ _)
            have da : decide (999999 < a) = false := by simp; omega
            have db : decide (999999 < b) = false := by simp; omega
            have dc : decide (999999 < c) = false := by simp; omega
            clear hee hnil
            clear hrr
            clear hbig
            obtain ⟨W3, hW3, hB3, hA3, hC3, hM3, hM3', hz3⟩ := HALL.out _ _ _ _ _ HV.out
            have HR := Lib.hid (RefRight_any a b c s W3 (by have := HS.out; omega))
            have HW3 := Lib.hid hW3
            have HB3 := Lib.hid hB3
            have HAC := Lib.hid (And.intro hA3 hC3)
            have HM3 := Lib.hid (And.intro hM3 hM3')
            rw [← hW3] at hA3
            obtain ⟨x0, x1, x2, x3⟩ := cells4 hA3
            clear HALL hB3 hA3 hC3 hM3 hM3' hW3 hr
            rw [HV.out]
            go_wp2_with fail
            try rw [show W2.alloc (.cells #[.int .i64 (a), .int .i64 (b), .int .i64 (c + 1), .string ⟨#[]⟩] 25) = W3 from HW3.out]
            clear x0 x1 x2 x3
            refine HR.out.mono ?_
            rintro e W4 ⟨rfl, h4⟩
            rw [HRR.out]
            have hA4 := (h4.block _ (show w.heap.size < W3.heap.size by omega)).trans HAC.out.1
            have hC4 := (h4.block _ hz3).trans HAC.out.2
            obtain ⟨x0, x1, x2, x3⟩ := cells4 hA4
            obtain ⟨y0, y1, y2, y3⟩ := cells4 hC4
            have HAC4 := Lib.hid (And.intro hA4 hC4)
            have HM4 := Lib.hid (HM3.out.1.below HM3.out.2 h4)
            have HB4 : Hid (Below w.heap.size w W4) := Lib.hid (HB3.out.trans (h4.mono HB3.out.size))
            have hz4 : W2.heap.size < W4.heap.size := by have := h4.size; omega
            clear h4 hA4 hC4 HR
            have hA5 : (W4.alloc (.cells #[.int .i64 a, .int .i64 b, .int .i64 c, .string ⟨#[]⟩] 25)).heap[w.heap.size]? = some (verC a b c s) := (Below.heap_alloc _ _ _ (by omega)).trans HAC4.out.1
            obtain ⟨z0, z1, z2, z3⟩ := cells4 hA5
            clear hA5
            have HBA : Hid (∀ o : Obj, Below w.heap.size w (W4.alloc o)) := Lib.hid (fun o => HB4.out.alloc HB4.out.size o)
            have hA6 : (W4.alloc (.cells #[.int .i64 (a), .int .i64 (b), .int .i64 (c + 1), .string ⟨#[]⟩] 25)).heap[w.heap.size]? = some (verC a b c s) := (Below.heap_alloc _ _ _ (by omega)).trans HAC4.out.1
            have hC6 : (W4.alloc (.cells #[.int .i64 (a), .int .i64 (b), .int .i64 (c + 1), .string ⟨#[]⟩] 25)).heap[W2.heap.size]? = some (verC (a) (b) (c + 1) ⟨#[]⟩) := (Below.heap_alloc _ _ _ hz4).trans HAC4.out.2
            obtain ⟨p0, p1, p2, p3⟩ := cells4 hA6
            obtain ⟨q0, q1, q2, q3⟩ := cells4 hC6
            have HM6 := Lib.hid (HM4.out.1.below HM4.out.2 (show Below W4.heap.size W4 (W4.alloc (verC (a) (b) (c + 1) ⟨#[]⟩)) from (Below.refl _ W4).alloc (Nat.le_refl _) _))
            have HCMP := Lib.hid (Compare_any a b c s (a) (b) (c + 1) ⟨#[]⟩ (W4.alloc (verC (a) (b) (c + 1) ⟨#[]⟩)) (by have := HS.out; omega) (by decide) HM6.out.1 HM6.out.2)
            clear hA6 hC6
            go_wp2_with fail
            refine HCMP.out.mono ?_
            rintro e W7 ⟨rfl, h7⟩
            rw [show cmpV ⟨a, b, c, bs s⟩ ⟨a, b, c + 1, bs ⟨#[]⟩⟩ = -1 from HCV.out]
            have HB7 : Hid (Below w.heap.size w W7) := Lib.hid ((HBA.out _).trans (h7.mono (HBA.out _).size))
            clear h7 HCMP p0 p1 p2 p3 q0 q1 q2 q3 z0 z1 z2 z3 x0 x1 x2 x3 y0 y1 y2 y3
            go_wp2
            refine bodyPost_ret (results_tmp rfl _ _ _) rfl ⟨rfl, HB7.out⟩
        | false =>
          have hse : s.toList.isEmpty = false := by rw [HSE.out]; exact hee
          have hnil : bs s ≠ [] := fun e => by rw [e] at hee; cases hee
          have HBV : Hid (Ver.bump ⟨a, b, c, bs s⟩ 2 = ⟨a, b, c, []⟩) := Lib.hid (by unfold Ver.bump; simp [hnil])
          have HV : Hid (bumpR ⟨a, b, c, bs s⟩ 2 = .tuple #[verV (a) (b) (c) ⟨#[]⟩, .int .i64 0]) := Lib.hid (by
            unfold bumpR; rw [if_pos ⟨hr, by decide, by decide⟩, HBV.out, if_pos]
            · rfl
            · unfold Ver.right rightN; simp; omega)
          have HCV : Hid (cmpV ⟨a, b, c, bs s⟩ ⟨a, b, c, []⟩ = -1) := Lib.hid (by rw [← HBV.out]; exact bump_above _ _)
          have da : decide (999999 < a) = false := by simp; omega
          have db : decide (999999 < b) = false := by simp; omega
          have dc : decide (999999 < c) = false := by simp; omega
          clear hee hnil
          clear hrr
          obtain ⟨W3, hW3, hB3, hA3, hC3, hM3, hM3', hz3⟩ := HALL.out _ _ _ _ _ HV.out
          have HR := Lib.hid (RefRight_any a b c s W3 (by have := HS.out; omega))
          have HW3 := Lib.hid hW3
          have HB3 := Lib.hid hB3
          have HAC := Lib.hid (And.intro hA3 hC3)
          have HM3 := Lib.hid (And.intro hM3 hM3')
          rw [← hW3] at hA3
          obtain ⟨x0, x1, x2, x3⟩ := cells4 hA3
          clear HALL hB3 hA3 hC3 hM3 hM3' hW3 hr
          rw [HV.out]
          go_wp2_with fail
          try rw [show W2.alloc (.cells #[.int .i64 (a), .int .i64 (b), .int .i64 (c), .string ⟨#[]⟩] 25) = W3 from HW3.out]
          clear x0 x1 x2 x3
          refine HR.out.mono ?_
          rintro e W4 ⟨rfl, h4⟩
          rw [HRR.out]
          have hA4 := (h4.block _ (show w.heap.size < W3.heap.size by omega)).trans HAC.out.1
          have hC4 := (h4.block _ hz3).trans HAC.out.2
          obtain ⟨x0, x1, x2, x3⟩ := cells4 hA4
          obtain ⟨y0, y1, y2, y3⟩ := cells4 hC4
          have HAC4 := Lib.hid (And.intro hA4 hC4)
          have HM4 := Lib.hid (HM3.out.1.below HM3.out.2 h4)
          have HB4 : Hid (Below w.heap.size w W4) := Lib.hid (HB3.out.trans (h4.mono HB3.out.size))
          have hz4 : W2.heap.size < W4.heap.size := by have := h4.size; omega
          clear h4 hA4 hC4 HR
          have hA5 : (W4.alloc (.cells #[.int .i64 a, .int .i64 b, .int .i64 c, .string ⟨#[]⟩] 25)).heap[w.heap.size]? = some (verC a b c s) := (Below.heap_alloc _ _ _ (by omega)).trans HAC4.out.1
          obtain ⟨z0, z1, z2, z3⟩ := cells4 hA5
          clear hA5
          have HBA : Hid (∀ o : Obj, Below w.heap.size w (W4.alloc o)) := Lib.hid (fun o => HB4.out.alloc HB4.out.size o)
          have hA6 : (W4.alloc (.cells #[.int .i64 (a), .int .i64 (b), .int .i64 (c), .string ⟨#[]⟩] 25)).heap[w.heap.size]? = some (verC a b c s) := (Below.heap_alloc _ _ _ (by omega)).trans HAC4.out.1
          have hC6 : (W4.alloc (.cells #[.int .i64 (a), .int .i64 (b), .int .i64 (c), .string ⟨#[]⟩] 25)).heap[W2.heap.size]? = some (verC (a) (b) (c) ⟨#[]⟩) := (Below.heap_alloc _ _ _ hz4).trans HAC4.out.2
          obtain ⟨p0, p1, p2, p3⟩ := cells4 hA6
          obtain ⟨q0, q1, q2, q3⟩ := cells4 hC6
          have HM6 := Lib.hid (HM4.out.1.below HM4.out.2 (show Below W4.heap.size W4 (W4.alloc (verC (a) (b) (c) ⟨#[]⟩)) from (Below.refl _ W4).alloc (Nat.le_refl _) _))
          have HCMP := Lib.hid (Compare_any a b c s (a) (b) (c) ⟨#[]⟩ (W4.alloc (verC (a) (b) (c) ⟨#[]⟩)) (by have := HS.out; omega) (by decide) HM6.out.1 HM6.out.2)
          clear hA6 hC6
          go_wp2_with fail
          refine HCMP.out.mono ?_
          rintro e W7 ⟨rfl, h7⟩
          rw [show cmpV ⟨a, b, c, bs s⟩ ⟨a, b, c, bs ⟨#[]⟩⟩ = -1 from HCV.out]
          have HB7 : Hid (Below w.heap.size w W7) := Lib.hid ((HBA.out _).trans (h7.mono (HBA.out _).size))
          clear h7 HCMP p0 p1 p2 p3 q0 q1 q2 q3 z0 z1 z2 z3 x0 x1 x2 x3 y0 y1 y2 y3
          go_wp2
          refine bodyPost_ret (results_tmp rfl _ _ _) rfl ⟨rfl, HB7.out⟩
end Go.Proofs.YtbmhjmdbolnbaaaDoor
