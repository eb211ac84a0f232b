/-
  RANGES: contract: end (printed by genrend.py).
-/
import Derived.Test.YtpnbbbhbbnemlaaGreatDoorRRight
import Derived.Test.YtpnbbbhbbnemlaaGreatDoorSAt4
namespace Go.Proofs.YtpnbbbhbbnemlaaGreatDoor
open Go.RowKit
open SemP
set_option linter.unusedVariables false
set_option linter.unusedSimpArgs false
set_option maxRecDepth 100000

set_option maxHeartbeats 8000000 in
theorem end_any (op a b c : Int) (s : ByteArray) (w : World) (hm : LenAt w) (h1 : 1 < w.heap.size) :
    Calls Tryz.prog 117 #[compV op a b c s] w fun e w' => e = .returned (endV (endR op ⟨a, b, c, bs s⟩)) ∧ Below w.heap.size w w' := by
  obtain ⟨W0, hW0⟩ : ∃ W0, (w.alloc (compC op a b c s)).alloc (verC 0 0 0 ⟨#[]⟩) = W0 := ⟨_, rfl⟩
  have hz0 : W0.heap.size = w.heap.size + 2 := by rw [← hW0]; simp
  have hb0 : Below w.heap.size w W0 := by rw [← hW0]; exact ((Below.refl _ w).alloc (Nat.le_refl _) _).alloc (by simp) _
  have HX0 : Hid (W0.heap[w.heap.size]? = some (compC op a b c s)) := Lib.hid (by
    rw [← hW0, Below.heap_alloc _ _ _ (by simp)]; exact World.alloc_heap_new _ _)
  have HX1 : Hid (W0.heap[w.heap.size + 1]? = some (verC 0 0 0 ⟨#[]⟩)) := Lib.hid (by
    rw [← hW0]
    have := World.alloc_heap_new (w.alloc (compC op a b c s)) (verC 0 0 0 ⟨#[]⟩)
    rw [World.size_alloc] at this; exact this)
  have HM0 := Lib.hid (hm.below h1 hb0)
  have HB0 := Lib.hid hb0
  have HW0 := Lib.hid hW0
  obtain ⟨x, y, z, k, hbr, hev⟩ := end_bump op ⟨a, b, c, bs s⟩
  have HBR := Lib.hid hbr
  have HEV := Lib.hid hev
  have hb1 : Below W0.heap.size W0 (W0.alloc (verC a b c ⟨#[]⟩)) := (Below.refl _ W0).alloc (Nat.le_refl _) _
  have HM1 := Lib.hid (HM0.out.1.below HM0.out.2 hb1)
  have HB1 : Hid (Below w.heap.size w (W0.alloc (verC a b c ⟨#[]⟩))) := Lib.hid (hb0.trans (hb1.mono hb0.size))
  have HY1 : Hid ((W0.alloc (verC a b c ⟨#[]⟩)).heap[w.heap.size + 1]? = some (verC 0 0 0 ⟨#[]⟩)) := Lib.hid ((Below.heap_alloc _ _ _ (by omega)).trans HX1.out)
  have HLT : Hid (w.heap.size + 1 < (W0.alloc (verC a b c ⟨#[]⟩)).heap.size) := Lib.hid (by simp; omega)
  have HSET : Hid (∀ (W : World) (u0 u1 u2 u3 : Value), Below w.heap.size w W → Below w.heap.size w ((((W.setCell ⟨w.heap.size + 1, 0, none⟩ u0).setCell ⟨w.heap.size + 1, 1, none⟩ u1).setCell ⟨w.heap.size + 1, 2, none⟩ u2).setCell ⟨w.heap.size + 1, 3, none⟩ u3)) := Lib.hid (fun W u0 u1 u2 u3 h => (((h.setCell (p := ⟨w.heap.size + 1, 0, none⟩) (by simp) _).setCell (p := ⟨w.heap.size + 1, 1, none⟩) (by simp) _).setCell (p := ⟨w.heap.size + 1, 2, none⟩) (by simp) _).setCell (p := ⟨w.heap.size + 1, 3, none⟩) (by simp) _)
  have HBU := Lib.hid (fun part => Bump_any a b c ⟨#[]⟩ part (W0.alloc (verC a b c ⟨#[]⟩)) (by decide) HM1.out.1 HM1.out.2)
  obtain ⟨x0, x1, x2, x3, x4⟩ := cells5 HX0.out
  have X := And.intro x0 (And.intro x1 (And.intro x2 (And.intro x3 x4)))
  rw [← hW0] at x0 x1 x2 x3 x4
  obtain ⟨X0, X1, X2, X3, X4⟩ := X
  simp only [compC] at x0 x1 x2 x3 x4
  clear hz0 hb0 hm hbr hev hb1 hW0 X0 X1 X2 X3 X4
  by_cases h7 : op = 7
  · subst h7
    have HPT : Hid (partOf 7 ⟨a, b, c, bs s⟩ = 1) := Lib.hid (by unfold partOf; rfl)
    have HBP : Hid (bumpR ⟨a, b, c, bs ⟨#[]⟩⟩ 1 = .tuple #[verV x y z ⟨#[]⟩, .int .i64 k]) := Lib.hid (by rw [← HPT.out]; exact HBR.out)
    go_enter Tryz.func117, Tryz.ntmps117
    go_wp2_with fail
    try rw [show (w.alloc (.cells #[.int .i64 7, .int .i64 a, .int .i64 b, .int .i64 c, .string s] 73)).alloc (.cells #[.int .i64 0, .int .i64 0, .int .i64 0, .string ⟨#[]⟩] 69) = W0 from HW0.out]
    refine (HBU.out 1).mono ?_
    rintro e W2 ⟨rfl, hb⟩
    rw [HBP.out]
    have HY2 := Lib.hid ((hb.block _ HLT.out).trans HY1.out)
    have HB2 : Hid (Below w.heap.size w W2) := Lib.hid (HB1.out.trans (hb.mono HB1.out.size))
    have hlt2 : w.heap.size + 1 < W2.heap.size := Nat.lt_of_lt_of_le HLT.out hb.size
    have HB3 : Hid (∀ o : Obj, Below w.heap.size w (W2.alloc o)) := Lib.hid (fun o => HB2.out.alloc HB2.out.size o)
    have hy3 : (W2.alloc (.cells #[.int .i64 x, .int .i64 y, .int .i64 z, .string ⟨#[]⟩] 69)).heap[w.heap.size + 1]? = some (verC 0 0 0 ⟨#[]⟩) := (Below.heap_alloc _ _ _ hlt2).trans HY2.out
    obtain ⟨y0, y1, y2, y3⟩ := cells4 hy3
    obtain ⟨z0, z1, z2, z3⟩ := cells4 HY2.out
    obtain ⟨e0, e1, e2, e3⟩ := froz4 HY2.out
    obtain ⟨f0, f1, f2, f3⟩ := froz4 hy3
    have hf4 : At4 ((set4 W2 (w.heap.size + 1) x y z ⟨#[]⟩).alloc (.cells #[.int .i64 x, .int .i64 y, .int .i64 z, .string ⟨#[]⟩] 69)) (w.heap.size + 1) x y z ⟨#[]⟩ := ((At4.of_heap HY2.out).set).block (Below.heap_alloc _ _ _ (by rw [set4_size]; exact hlt2))
    obtain ⟨g0, g1, g2, g3, _, _, _, _⟩ := hf4
    simp only [set4] at g0 g1 g2 g3
    have HB4 : Hid (Below w.heap.size w ((set4 W2 (w.heap.size + 1) x y z ⟨#[]⟩).alloc (.cells #[.int .i64 x, .int .i64 y, .int .i64 z, .string ⟨#[]⟩] 69))) := Lib.hid ((set4_below HB2.out (by omega) x y z ⟨#[]⟩).alloc (by rw [set4_size]; exact HB2.out.size) _)
    have hne : w.heap.size + 1 ≠ W2.heap.size := by omega
    have hne2 : W2.heap.size ≠ w.heap.size + 1 := by omega
    clear hb x0 x1 x2 x3 x4 hy3
    go_wp2
    refine bodyPost_ret (v := .tuple #[verV x y z ⟨#[]⟩, .bool (k == 0)]) (by simp [results, Tryz.results117, go_sem, g0, g1, g2, g3]) rfl ⟨by rw [HEV.out], HB4.out⟩
  · have d7 : (op == 7) = false := by rw [beq_eq_false_iff_ne]; exact h7
    by_cases ha : 0 < a
    · have da : decide (0 < a) = true := decide_eq_true ha
      have HPT : Hid (partOf op ⟨a, b, c, bs s⟩ = 0) := Lib.hid (by unfold partOf; rw [if_neg h7, if_pos ha])
      have HBP : Hid (bumpR ⟨a, b, c, bs ⟨#[]⟩⟩ 0 = .tuple #[verV x y z ⟨#[]⟩, .int .i64 k]) := Lib.hid (by rw [← HPT.out]; exact HBR.out)
      go_enter Tryz.func117, Tryz.ntmps117
      go_wp2_with fail
      try rw [show (w.alloc (.cells #[.int .i64 op, .int .i64 a, .int .i64 b, .int .i64 c, .string s] 73)).alloc (.cells #[.int .i64 0, .int .i64 0, .int .i64 0, .string ⟨#[]⟩] 69) = W0 from HW0.out]
      refine (HBU.out 0).mono ?_
      rintro e W2 ⟨rfl, hb⟩
      rw [HBP.out]
      have HY2 := Lib.hid ((hb.block _ HLT.out).trans HY1.out)
      have HB2 : Hid (Below w.heap.size w W2) := Lib.hid (HB1.out.trans (hb.mono HB1.out.size))
      have hlt2 : w.heap.size + 1 < W2.heap.size := Nat.lt_of_lt_of_le HLT.out hb.size
      have HB3 : Hid (∀ o : Obj, Below w.heap.size w (W2.alloc o)) := Lib.hid (fun o => HB2.out.alloc HB2.out.size o)
      have hy3 : (W2.alloc (.cells #[.int .i64 x, .int .i64 y, .int .i64 z, .string ⟨#[]⟩] 69)).heap[w.heap.size + 1]? = some (verC 0 0 0 ⟨#[]⟩) := (Below.heap_alloc _ _ _ hlt2).trans HY2.out
      obtain ⟨y0, y1, y2, y3⟩ := cells4 hy3
      obtain ⟨z0, z1, z2, z3⟩ := cells4 HY2.out
      obtain ⟨e0, e1, e2, e3⟩ := froz4 HY2.out
      obtain ⟨f0, f1, f2, f3⟩ := froz4 hy3
      have hf4 : At4 ((set4 W2 (w.heap.size + 1) x y z ⟨#[]⟩).alloc (.cells #[.int .i64 x, .int .i64 y, .int .i64 z, .string ⟨#[]⟩] 69)) (w.heap.size + 1) x y z ⟨#[]⟩ := ((At4.of_heap HY2.out).set).block (Below.heap_alloc _ _ _ (by rw [set4_size]; exact hlt2))
      obtain ⟨g0, g1, g2, g3, _, _, _, _⟩ := hf4
      simp only [set4] at g0 g1 g2 g3
      have HB4 : Hid (Below w.heap.size w ((set4 W2 (w.heap.size + 1) x y z ⟨#[]⟩).alloc (.cells #[.int .i64 x, .int .i64 y, .int .i64 z, .string ⟨#[]⟩] 69))) := Lib.hid ((set4_below HB2.out (by omega) x y z ⟨#[]⟩).alloc (by rw [set4_size]; exact HB2.out.size) _)
      have hne : w.heap.size + 1 ≠ W2.heap.size := by omega
      have hne2 : W2.heap.size ≠ w.heap.size + 1 := by omega
      clear hb x0 x1 x2 x3 x4 hy3
      go_wp2
      refine bodyPost_ret (v := .tuple #[verV x y z ⟨#[]⟩, .bool (k == 0)]) (by simp [results, Tryz.results117, go_sem, g0, g1, g2, g3]) rfl ⟨by rw [HEV.out], HB4.out⟩
    · have da : decide (0 < a) = false := decide_eq_false ha
      by_cases hb0 : 0 < b
      · have db : decide (0 < b) = true := decide_eq_true hb0
        have HPT : Hid (partOf op ⟨a, b, c, bs s⟩ = 1) := Lib.hid (by unfold partOf; rw [if_neg h7, if_neg ha, if_pos hb0])
        have HBP : Hid (bumpR ⟨a, b, c, bs ⟨#[]⟩⟩ 1 = .tuple #[verV x y z ⟨#[]⟩, .int .i64 k]) := Lib.hid (by rw [← HPT.out]; exact HBR.out)
        go_enter Tryz.func117, Tryz.ntmps117
        go_wp2_with fail
        try rw [show (w.alloc (.cells #[.int .i64 op, .int .i64 a, .int .i64 b, .int .i64 c, .string s] 73)).alloc (.cells #[.int .i64 0, .int .i64 0, .int .i64 0, .string ⟨#[]⟩] 69) = W0 from HW0.out]
        refine (HBU.out 1).mono ?_
        rintro e W2 ⟨rfl, hb⟩
        rw [HBP.out]
        have HY2 := Lib.hid ((hb.block _ HLT.out).trans HY1.out)
        have HB2 : Hid (Below w.heap.size w W2) := Lib.hid (HB1.out.trans (hb.mono HB1.out.size))
        have hlt2 : w.heap.size + 1 < W2.heap.size := Nat.lt_of_lt_of_le HLT.out hb.size
        have HB3 : Hid (∀ o : Obj, Below w.heap.size w (W2.alloc o)) := Lib.hid (fun o => HB2.out.alloc HB2.out.size o)
        have hy3 : (W2.alloc (.cells #[.int .i64 x, .int .i64 y, .int .i64 z, .string ⟨#[]⟩] 69)).heap[w.heap.size + 1]? = some (verC 0 0 0 ⟨#[]⟩) := (Below.heap_alloc _ _ _ hlt2).trans HY2.out
        obtain ⟨y0, y1, y2, y3⟩ := cells4 hy3
        obtain ⟨z0, z1, z2, z3⟩ := cells4 HY2.out
        obtain ⟨e0, e1, e2, e3⟩ := froz4 HY2.out
        obtain ⟨f0, f1, f2, f3⟩ := froz4 hy3
        have hf4 : At4 ((set4 W2 (w.heap.size + 1) x y z ⟨#[]⟩).alloc (.cells #[.int .i64 x, .int .i64 y, .int .i64 z, .string ⟨#[]⟩] 69)) (w.heap.size + 1) x y z ⟨#[]⟩ := ((At4.of_heap HY2.out).set).block (Below.heap_alloc _ _ _ (by rw [set4_size]; exact hlt2))
        obtain ⟨g0, g1, g2, g3, _, _, _, _⟩ := hf4
        simp only [set4] at g0 g1 g2 g3
        have HB4 : Hid (Below w.heap.size w ((set4 W2 (w.heap.size + 1) x y z ⟨#[]⟩).alloc (.cells #[.int .i64 x, .int .i64 y, .int .i64 z, .string ⟨#[]⟩] 69))) := Lib.hid ((set4_below HB2.out (by omega) x y z ⟨#[]⟩).alloc (by rw [set4_size]; exact HB2.out.size) _)
        have hne : w.heap.size + 1 ≠ W2.heap.size := by omega
        have hne2 : W2.heap.size ≠ w.heap.size + 1 := by omega
        clear hb x0 x1 x2 x3 x4 hy3
        go_wp2
        refine bodyPost_ret (v := .tuple #[verV x y z ⟨#[]⟩, .bool (k == 0)]) (by simp [results, Tryz.results117, go_sem, g0, g1, g2, g3]) rfl ⟨by rw [HEV.out], HB4.out⟩
      · have db : decide (0 < b) = false := decide_eq_false hb0
        have HPT : Hid (partOf op ⟨a, b, c, bs s⟩ = 2) := Lib.hid (by unfold partOf; rw [if_neg h7, if_neg ha, if_neg hb0])
        have HBP : Hid (bumpR ⟨a, b, c, bs ⟨#[]⟩⟩ 2 = .tuple #[verV x y z ⟨#[]⟩, .int .i64 k]) := Lib.hid (by rw [← HPT.out]; exact HBR.out)
        go_enter Tryz.func117, Tryz.ntmps117
        go_wp2_with fail
        try rw [show (w.alloc (.cells #[.int .i64 op, .int .i64 a, .int .i64 b, .int .i64 c, .string s] 73)).alloc (.cells #[.int .i64 0, .int .i64 0, .int .i64 0, .string ⟨#[]⟩] 69) = W0 from HW0.out]
        refine (HBU.out 2).mono ?_
        rintro e W2 ⟨rfl, hb⟩
        rw [HBP.out]
        have HY2 := Lib.hid ((hb.block _ HLT.out).trans HY1.out)
        have HB2 : Hid (Below w.heap.size w W2) := Lib.hid (HB1.out.trans (hb.mono HB1.out.size))
        have hlt2 : w.heap.size + 1 < W2.heap.size := Nat.lt_of_lt_of_le HLT.out hb.size
        have HB3 : Hid (∀ o : Obj, Below w.heap.size w (W2.alloc o)) := Lib.hid (fun o => HB2.out.alloc HB2.out.size o)
        have hy3 : (W2.alloc (.cells #[.int .i64 x, .int .i64 y, .int .i64 z, .string ⟨#[]⟩] 69)).heap[w.heap.size + 1]? = some (verC 0 0 0 ⟨#[]⟩) := (Below.heap_alloc _ _ _ hlt2).trans HY2.out
        obtain ⟨y0, y1, y2, y3⟩ := cells4 hy3
        obtain ⟨z0, z1, z2, z3⟩ := cells4 HY2.out
        obtain ⟨e0, e1, e2, e3⟩ := froz4 HY2.out
        obtain ⟨f0, f1, f2, f3⟩ := froz4 hy3
        have hf4 : At4 ((set4 W2 (w.heap.size + 1) x y z ⟨#[]⟩).alloc (.cells #[.int .i64 x, .int .i64 y, .int .i64 z, .string ⟨#[]⟩] 69)) (w.heap.size + 1) x y z ⟨#[]⟩ := ((At4.of_heap HY2.out).set).block (Below.heap_alloc _ _ _ (by rw [set4_size]; exact hlt2))
        obtain ⟨g0, g1, g2, g3, _, _, _, _⟩ := hf4
        simp only [set4] at g0 g1 g2 g3
        have HB4 : Hid (Below w.heap.size w ((set4 W2 (w.heap.size + 1) x y z ⟨#[]⟩).alloc (.cells #[.int .i64 x, .int .i64 y, .int .i64 z, .string ⟨#[]⟩] 69))) := Lib.hid ((set4_below HB2.out (by omega) x y z ⟨#[]⟩).alloc (by rw [set4_size]; exact HB2.out.size) _)
        have hne : w.heap.size + 1 ≠ W2.heap.size := by omega
        have hne2 : W2.heap.size ≠ w.heap.size + 1 := by omega
        clear hb x0 x1 x2 x3 x4 hy3
        go_wp2
        refine bodyPost_ret (v := .tuple #[verV x y z ⟨#[]⟩, .bool (k == 0)]) (by simp [results, Tryz.results117, go_sem, g0, g1, g2, g3]) rfl ⟨by rw [HEV.out], HB4.out⟩
end Go.Proofs.YtpnbbbhbbnemlaaGreatDoor
