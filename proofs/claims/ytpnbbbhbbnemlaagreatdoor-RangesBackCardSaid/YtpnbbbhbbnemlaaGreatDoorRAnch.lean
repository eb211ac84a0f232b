/-
  RANGES: the document's examples (printed by genranch.py).
-/
import Derived.Test.YtpnbbbhbbnemlaaGreatDoorRParsW
import Derived.KernelRfl
namespace Go.Proofs.YtpnbbbhbbnemlaaGreatDoor
open Go.RowKit
open SemP
set_option linter.unusedVariables false
set_option linter.unusedSimpArgs false
set_option maxRecDepth 100000

theorem RangeR.some_ {r : List (List CV)} {n : Nat} {e : Ending} {w' : World} (h : RangeR (some r) e w') (hn : r.length = n) : ∃ A c, e = .returned (.tuple #[.agg #[.slice A n c], .int .i64 0]) ∧ RdR w' w'.heap.size A n r := by
  subst hn; exact h
def rA : List (List CV) := [[⟨6, 0, 2, 3, ⟨#[]⟩⟩]]
def rB : List (List CV) := [[⟨5, 1, 0, 0, ⟨#[]⟩⟩, ⟨2, 2, 0, 0, ⟨#[]⟩⟩], [⟨1, 3, 0, 0, ⟨#[]⟩⟩]]
theorem parse_gA : parseG ⟨#[94, 48, 46, 50, 46, 51]⟩ = some rA := by kernel_rfl
theorem parse_gB : parseG ⟨#[62, 61, 49, 46, 48, 46, 48, 32, 60, 50, 46, 48, 46, 48, 32, 124, 124, 32, 61, 51, 46, 48, 46, 48]⟩ = some rB := by kernel_rfl
theorem parse_gC : parseG ⟨#[49, 46, 48, 46, 48]⟩ = none := by kernel_rfl
theorem hA1 : hasR rA ⟨0, 2, 9, []⟩ = true := by kernel_rfl
theorem hA2 : hasR rA ⟨0, 3, 0, []⟩ = false := by kernel_rfl
theorem hA3 : hasR rA ⟨0, 2, 3, [97]⟩ = false := by kernel_rfl
theorem hB1 : hasR rB ⟨3, 0, 0, []⟩ = true := by kernel_rfl
theorem hB2 : hasR rB ⟨2, 0, 0, []⟩ = false := by kernel_rfl
theorem fitsA : Fits rA := by
  intro l hl
  simp [rA] at hl
  subst hl
  exact ⟨fun x hx => by simp at hx; subst hx; decide, by decide⟩
theorem fitsB : Fits rB := by
  intro l hl
  simp [rB] at hl
  rcases hl with rfl | rfl
  · exact ⟨fun x hx => by simp at hx; rcases hx with rfl | rfl <;> decide, by decide⟩
  · exact ⟨fun x hx => by simp at hx; subst hx; decide, by decide⟩
set_option maxHeartbeats 8000000 in
theorem ranchor_any (w : World) (hg : SignsAt w) (hm : LenAt w) (h1 : 1 < w.heap.size) :
    Calls Tryz.prog 10 #[] w fun e w' => e = .returned (.bool true) ∧ Below w.heap.size w w' := by
  have HP1 := Lib.hid (RgParse_any ⟨#[94, 48, 46, 50, 46, 51]⟩ w (by decide) hg hm h1)
  have HM := Lib.hid (And.intro hm h1)
  have HG := Lib.hid hg
  clear hm h1 hg
  go_enter Tryz.func10, Tryz.ntmps10
  go_wp2_with fail
  refine HP1.out.mono ?_
  rintro e W1 ⟨hr, hb⟩
  rw [parse_gA] at hr
  obtain ⟨A1, c1, rfl, hr1⟩ := hr.some_ (n := 1) rfl
  have HR1 := Lib.hid hr1
  have HB1 := Lib.hid hb
  have HM1 := Lib.hid (HM.out.1.below HM.out.2 hb)
  have HG1 : Hid (SignsAt W1) := Lib.hid (HG.out.below hb (by have := HM.out.2; omega))
  clear hr hr1 hb HP1
  obtain ⟨W2, hW2⟩ : ∃ W2, W1.alloc (.cells #[.slice A1 1 c1] 24) = W2 := ⟨_, rfl⟩
  have hb12 : Below W1.heap.size W1 W2 := by rw [← hW2]; exact (Below.refl _ W1).alloc (Nat.le_refl _) _
  have HB2 : Hid (Below w.heap.size w W2) := Lib.hid (HB1.out.trans (hb12.mono HB1.out.size))
  have HM2 := Lib.hid (HM1.out.1.below HM1.out.2 hb12)
  have HG2 : Hid (SignsAt W2) := Lib.hid (HG1.out.below hb12 (by have := HM1.out.2; omega))
  have HBX2 : Hid (BoxesAt [(W1.heap.size, .cells #[.slice A1 1 c1] 24)] W2) := Lib.hid (by rw [← hW2]; exact (BoxesAt.nil W1).push _)
  have HR2 : Hid (RdR W2 W1.heap.size A1 1 rA) := Lib.hid (HR1.out.below hb12)
  have HL2 : Hid (W1.heap.size ≤ W2.heap.size) := Lib.hid hb12.size
  have HW2 := Lib.hid hW2
  have HP2 := Lib.hid (RgParse_any ⟨#[62, 61, 49, 46, 48, 46, 48, 32, 60, 50, 46, 48, 46, 48, 32, 124, 124, 32, 61, 51, 46, 48, 46, 48]⟩ W2 (by decide) HG2.out HM2.out.1 HM2.out.2)
  clear hb12 hW2
  go_wp2_with fail
  try rw [show W1.alloc (.cells #[.slice A1 1 c1] 24) = W2 from HW2.out]
  refine HP2.out.mono ?_
  rintro e W3 ⟨hr, hb⟩
  rw [parse_gB] at hr
  obtain ⟨A3, c3, rfl, hr3⟩ := hr.some_ (n := 2) rfl
  have HR3 := Lib.hid hr3
  have HB3 : Hid (Below w.heap.size w W3) := Lib.hid (HB2.out.trans (hb.mono HB2.out.size))
  have HM3 := Lib.hid (HM2.out.1.below HM2.out.2 hb)
  have HG3 : Hid (SignsAt W3) := Lib.hid (HG2.out.below hb (by have := HM2.out.2; omega))
  have HBX3 := Lib.hid (HBX2.out.below hb)
  have HQ3 : Hid (RdR W3 W1.heap.size A1 1 rA) := Lib.hid (HR2.out.below (hb.mono HL2.out))
  have HL3 : Hid (W1.heap.size ≤ W3.heap.size) := Lib.hid (Nat.le_trans HL2.out hb.size)
  clear hr hr3 hb HP2
  obtain ⟨W4, hW4⟩ : ∃ W4, W3.alloc (.cells #[.slice A3 2 c3] 24) = W4 := ⟨_, rfl⟩
  have hb34 : Below W3.heap.size W3 W4 := by rw [← hW4]; exact (Below.refl _ W3).alloc (Nat.le_refl _) _
  have HB4 : Hid (Below w.heap.size w W4) := Lib.hid (HB3.out.trans (hb34.mono HB3.out.size))
  have HM4 := Lib.hid (HM3.out.1.below HM3.out.2 hb34)
  have HG4 : Hid (SignsAt W4) := Lib.hid (HG3.out.below hb34 (by have := HM3.out.2; omega))
  have HBX4 : Hid (BoxesAt [(W3.heap.size, .cells #[.slice A3 2 c3] 24), (W1.heap.size, .cells #[.slice A1 1 c1] 24)] W4) := Lib.hid (by rw [← hW4]; exact HBX3.out.push _)
  have HR4 : Hid (RdR W4 W3.heap.size A3 2 rB) := Lib.hid (HR3.out.below hb34)
  have HQ4 : Hid (RdR W4 W1.heap.size A1 1 rA) := Lib.hid (HQ3.out.below (hb34.mono HL3.out))
  have HL4 : Hid (W1.heap.size ≤ W4.heap.size ∧ W3.heap.size ≤ W4.heap.size) := Lib.hid ⟨Nat.le_trans HL3.out hb34.size, hb34.size⟩
  have HW4 := Lib.hid hW4
  have HP3 := Lib.hid (RgParse_any ⟨#[49, 46, 48, 46, 48]⟩ W4 (by decide) HG4.out HM4.out.1 HM4.out.2)
  clear hb34 hW4
  go_wp2_with fail
  try rw [show W3.alloc (.cells #[.slice A3 2 c3] 24) = W4 from HW4.out]
  refine HP3.out.mono ?_
  rintro e W5 ⟨hr, hb⟩
  rw [parse_gC] at hr
  obtain rfl : e = .returned (.tuple #[.agg #[.slice none 0 0], .int .i64 10]) := hr
  have HB5 : Hid (Below w.heap.size w W5) := Lib.hid (HB4.out.trans (hb.mono HB4.out.size))
  have HM5 := Lib.hid (HM4.out.1.below HM4.out.2 hb)
  have HBX5 := Lib.hid (HBX4.out.below hb)
  have HR5 : Hid (RdR W5 W3.heap.size A3 2 rB) := Lib.hid (HR4.out.below (hb.mono HL4.out.2))
  have HQ5 : Hid (RdR W5 W1.heap.size A1 1 rA) := Lib.hid (HQ4.out.below (hb.mono HL4.out.1))
  have HL5 : Hid (W1.heap.size ≤ W5.heap.size ∧ W3.heap.size ≤ W5.heap.size) := Lib.hid ⟨Nat.le_trans HL4.out.1 hb.size, Nat.le_trans HL4.out.2 hb.size⟩
  clear hb HP3
  obtain ⟨W6, hW6⟩ : ∃ W6, W5.alloc (.cells #[.slice none 0 0] 24) = W6 := ⟨_, rfl⟩
  have hb56 : Below W5.heap.size W5 W6 := by rw [← hW6]; exact (Below.refl _ W5).alloc (Nat.le_refl _) _
  have HB6 : Hid (Below w.heap.size w W6) := Lib.hid (HB5.out.trans (hb56.mono HB5.out.size))
  have HM6 := Lib.hid (HM5.out.1.below HM5.out.2 hb56)
  have HBX6 : Hid (BoxesAt [(W3.heap.size, .cells #[.slice A3 2 c3] 24), (W1.heap.size, .cells #[.slice A1 1 c1] 24)] W6) := Lib.hid (HBX5.out.below hb56)
  have HR6 : Hid (RdR W6 W3.heap.size A3 2 rB) := Lib.hid (HR5.out.below (hb56.mono HL5.out.2))
  have HQ6 : Hid (RdR W6 W1.heap.size A1 1 rA) := Lib.hid (HQ5.out.below (hb56.mono HL5.out.1))
  have HL6 : Hid (W1.heap.size ≤ W6.heap.size ∧ W3.heap.size ≤ W6.heap.size) := Lib.hid ⟨Nat.le_trans HL5.out.1 hb56.size, Nat.le_trans HL5.out.2 hb56.size⟩
  have HW6 := Lib.hid hW6
  have x0 : W6.cell? ⟨W1.heap.size, 0, none⟩ = some (.slice A1 1 c1) := cell1 (HBX6.out.get (W1.heap.size) (.cells #[.slice A1 1 c1] 24) (by simp))
  rw [← hW6] at x0
  clear hb56 hW6
  have HC := Lib.hid (RgHas_any A1 1 c1 rA 0 2 9 ⟨#[]⟩ W6 W1.heap.size HQ6.out HL6.out.1 fitsA (by decide) (by decide) HM6.out.1 HM6.out.2)
  go_wp2_with fail
  try rw [show W5.alloc (.cells #[.slice none 0 0] 24) = W6 from HW6.out]
  refine HC.out.mono ?_
  rintro e W7 ⟨rfl, hb⟩
  rw [show hasR rA ⟨0, 2, 9, bs ⟨#[]⟩⟩ = true from hA1]
  have HB7 : Hid (Below w.heap.size w W7) := Lib.hid (HB6.out.trans (hb.mono HB6.out.size))
  have HM7 := Lib.hid (HM6.out.1.below HM6.out.2 hb)
  have HBX7 := Lib.hid (HBX6.out.below hb)
  have HR7 : Hid (RdR W7 W3.heap.size A3 2 rB) := Lib.hid (HR6.out.below (hb.mono HL6.out.2))
  have HQ7 : Hid (RdR W7 W1.heap.size A1 1 rA) := Lib.hid (HQ6.out.below (hb.mono HL6.out.1))
  have HL7 : Hid (W1.heap.size ≤ W7.heap.size ∧ W3.heap.size ≤ W7.heap.size) := Lib.hid ⟨Nat.le_trans HL6.out.1 hb.size, Nat.le_trans HL6.out.2 hb.size⟩
  clear hb HC x0
  have x0 : W7.cell? ⟨W1.heap.size, 0, none⟩ = some (.slice A1 1 c1) := cell1 (HBX7.out.get (W1.heap.size) (.cells #[.slice A1 1 c1] 24) (by simp))
  have HC := Lib.hid (RgHas_any A1 1 c1 rA 0 3 0 ⟨#[]⟩ W7 W1.heap.size HQ7.out HL7.out.1 fitsA (by decide) (by decide) HM7.out.1 HM7.out.2)
  go_wp2_with fail
  refine HC.out.mono ?_
  rintro e W8 ⟨rfl, hb⟩
  rw [show hasR rA ⟨0, 3, 0, bs ⟨#[]⟩⟩ = false from hA2]
  have HB8 : Hid (Below w.heap.size w W8) := Lib.hid (HB7.out.trans (hb.mono HB7.out.size))
  have HM8 := Lib.hid (HM7.out.1.below HM7.out.2 hb)
  have HBX8 := Lib.hid (HBX7.out.below hb)
  have HR8 : Hid (RdR W8 W3.heap.size A3 2 rB) := Lib.hid (HR7.out.below (hb.mono HL7.out.2))
  have HQ8 : Hid (RdR W8 W1.heap.size A1 1 rA) := Lib.hid (HQ7.out.below (hb.mono HL7.out.1))
  have HL8 : Hid (W1.heap.size ≤ W8.heap.size ∧ W3.heap.size ≤ W8.heap.size) := Lib.hid ⟨Nat.le_trans HL7.out.1 hb.size, Nat.le_trans HL7.out.2 hb.size⟩
  clear hb HC x0
  have x0 : W8.cell? ⟨W1.heap.size, 0, none⟩ = some (.slice A1 1 c1) := cell1 (HBX8.out.get (W1.heap.size) (.cells #[.slice A1 1 c1] 24) (by simp))
  have HC := Lib.hid (RgHas_any A1 1 c1 rA 0 2 3 ⟨#[97]⟩ W8 W1.heap.size HQ8.out HL8.out.1 fitsA (by decide) (by decide) HM8.out.1 HM8.out.2)
  go_wp2_with fail
  refine HC.out.mono ?_
  rintro e W9 ⟨rfl, hb⟩
  rw [show hasR rA ⟨0, 2, 3, bs ⟨#[97]⟩⟩ = false from hA3]
  have HB9 : Hid (Below w.heap.size w W9) := Lib.hid (HB8.out.trans (hb.mono HB8.out.size))
  have HM9 := Lib.hid (HM8.out.1.below HM8.out.2 hb)
  have HBX9 := Lib.hid (HBX8.out.below hb)
  have HR9 : Hid (RdR W9 W3.heap.size A3 2 rB) := Lib.hid (HR8.out.below (hb.mono HL8.out.2))
  have HQ9 : Hid (RdR W9 W1.heap.size A1 1 rA) := Lib.hid (HQ8.out.below (hb.mono HL8.out.1))
  have HL9 : Hid (W1.heap.size ≤ W9.heap.size ∧ W3.heap.size ≤ W9.heap.size) := Lib.hid ⟨Nat.le_trans HL8.out.1 hb.size, Nat.le_trans HL8.out.2 hb.size⟩
  clear hb HC x0
  have x0 : W9.cell? ⟨W3.heap.size, 0, none⟩ = some (.slice A3 2 c3) := cell1 (HBX9.out.get (W3.heap.size) (.cells #[.slice A3 2 c3] 24) (by simp))
  have HC := Lib.hid (RgHas_any A3 2 c3 rB 3 0 0 ⟨#[]⟩ W9 W3.heap.size HR9.out HL9.out.2 fitsB (by decide) (by decide) HM9.out.1 HM9.out.2)
  go_wp2_with fail
  refine HC.out.mono ?_
  rintro e W10 ⟨rfl, hb⟩
  rw [show hasR rB ⟨3, 0, 0, bs ⟨#[]⟩⟩ = true from hB1]
  have HB10 : Hid (Below w.heap.size w W10) := Lib.hid (HB9.out.trans (hb.mono HB9.out.size))
  have HM10 := Lib.hid (HM9.out.1.below HM9.out.2 hb)
  have HBX10 := Lib.hid (HBX9.out.below hb)
  have HR10 : Hid (RdR W10 W3.heap.size A3 2 rB) := Lib.hid (HR9.out.below (hb.mono HL9.out.2))
  have HQ10 : Hid (RdR W10 W1.heap.size A1 1 rA) := Lib.hid (HQ9.out.below (hb.mono HL9.out.1))
  have HL10 : Hid (W1.heap.size ≤ W10.heap.size ∧ W3.heap.size ≤ W10.heap.size) := Lib.hid ⟨Nat.le_trans HL9.out.1 hb.size, Nat.le_trans HL9.out.2 hb.size⟩
  clear hb HC x0
  have x0 : W10.cell? ⟨W3.heap.size, 0, none⟩ = some (.slice A3 2 c3) := cell1 (HBX10.out.get (W3.heap.size) (.cells #[.slice A3 2 c3] 24) (by simp))
  have HC := Lib.hid (RgHas_any A3 2 c3 rB 2 0 0 ⟨#[]⟩ W10 W3.heap.size HR10.out HL10.out.2 fitsB (by decide) (by decide) HM10.out.1 HM10.out.2)
  go_wp2_with fail
  refine HC.out.mono ?_
  rintro e W11 ⟨rfl, hb⟩
  rw [show hasR rB ⟨2, 0, 0, bs ⟨#[]⟩⟩ = false from hB2]
  have HB11 : Hid (Below w.heap.size w W11) := Lib.hid (HB10.out.trans (hb.mono HB10.out.size))
  have HM11 := Lib.hid (HM10.out.1.below HM10.out.2 hb)
  have HBX11 := Lib.hid (HBX10.out.below hb)
  have HR11 : Hid (RdR W11 W3.heap.size A3 2 rB) := Lib.hid (HR10.out.below (hb.mono HL10.out.2))
  have HQ11 : Hid (RdR W11 W1.heap.size A1 1 rA) := Lib.hid (HQ10.out.below (hb.mono HL10.out.1))
  have HL11 : Hid (W1.heap.size ≤ W11.heap.size ∧ W3.heap.size ≤ W11.heap.size) := Lib.hid ⟨Nat.le_trans HL10.out.1 hb.size, Nat.le_trans HL10.out.2 hb.size⟩
  clear hb HC x0
  go_wp2
  refine bodyPost_ret (results_tmp rfl _ _ _) rfl ⟨rfl, HB11.out⟩
end Go.Proofs.YtpnbbbhbbnemlaaGreatDoor
