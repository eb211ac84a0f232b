/-
  The document's example of layer 1, and 'short'.
-/
import Derived.Test.YtbmhjmdbolnbaaaDoorSParse
import Derived.Test.YtbmhjmdbolnbaaaDoorSGd
namespace Go.Proofs.YtbmhjmdbolnbaaaDoor
open Go.RowKit
open SemP
set_option linter.unusedVariables false
set_option linter.unusedSimpArgs false
set_option maxRecDepth 100000

theorem short_any (s : ByteArray) (w : World) : Calls Tryd.prog 20 #[.string s] w fun e w' => e = .returned (.bool (decide (s.size ≤ 300))) ∧ w' = w := by
  have hq : decide ((s.size : Int) ≤ 300) = decide (s.size ≤ 300) := by
    by_cases h : s.size ≤ 300
    · rw [decide_eq_true h, decide_eq_true (by omega)]
    · rw [decide_eq_false h, decide_eq_false (by omega)]
  go_enter Tryd.func20, Tryd.ntmps20
  go_wp2
  refine bodyPost_ret (results_tmp rfl _ _ _) rfl ⟨?_, rfl⟩
  rw [← hq]; rfl
theorem parse_a : parseV [49, 46, 48, 46, 48, 45, 97, 46, 50] = some ⟨1, 0, 0, [97, 46, 50]⟩ := by rfl
theorem parse_b : parseV [49, 46, 48, 46, 48] = some ⟨1, 0, 0, []⟩ := by rfl
theorem parse_c : parseV [48, 49, 46, 48, 46, 48] = none := by rfl
theorem cmp_ab : cmpV ⟨1, 0, 0, [97, 46, 50]⟩ ⟨1, 0, 0, []⟩ = -1 := by rfl
theorem cmp_ba : cmpV ⟨1, 0, 0, []⟩ ⟨1, 0, 0, [97, 46, 50]⟩ = 1 := by rfl
theorem LenAt.below {w w' : World} (h : LenAt w) (h1 : 1 < w.heap.size) (hb : Below w.heap.size w w') : LenAt w' ∧ 1 < w'.heap.size := by
  obtain ⟨m, hm⟩ := h
  exact ⟨⟨m, (hb.cell (show 1 < _ from h1)).trans hm⟩, by have := hb.size; omega⟩
set_option maxHeartbeats 4000000 in
theorem anchor_any (w : World) (hm : LenAt w) (h1 : 1 < w.heap.size) :
    Calls Tryd.prog 19 #[] w fun e w' => e = .returned (.bool true) ∧ Below w.heap.size w w' := by
  have HP1 := Lib.hid (Parse_any ⟨#[49, 46, 48, 46, 48, 45, 97, 46, 50]⟩ w (by decide) hm h1)
  have HM := Lib.hid (And.intro hm h1)
  clear hm h1
  go_enter Tryd.func19, Tryd.ntmps19
  go_wp2_with fail
  refine HP1.out.mono ?_
  rintro e W1 ⟨rfl, hb1⟩
  rw [show parseR (parseV (bs ⟨#[49, 46, 48, 46, 48, 45, 97, 46, 50]⟩)) = .tuple #[verV 1 0 0 ⟨#[97, 46, 50]⟩, .int .i64 0] from by rw [show parseV (bs ⟨#[49, 46, 48, 46, 48, 45, 97, 46, 50]⟩) = _ from parse_a]; rfl]
  have HB2 : Hid (Below w.heap.size w (W1.alloc (verC 1 0 0 ⟨#[97, 46, 50]⟩))) := Lib.hid (hb1.alloc hb1.size _)
  obtain ⟨x0, x1, x2, x3⟩ := cells4 (World.alloc_heap_new W1 (verC 1 0 0 ⟨#[97, 46, 50]⟩))
  obtain ⟨W2, hW2⟩ : ∃ W2, W1.alloc (verC 1 0 0 ⟨#[97, 46, 50]⟩) = W2 := ⟨_, rfl⟩
  have hlt1 : W1.heap.size < W2.heap.size := by rw [← hW2]; simp
  have hlw : w.heap.size ≤ W1.heap.size := hb1.size
  have HW2 := Lib.hid hW2
  rw [hW2] at HB2 x0 x1 x2 x3
  have HM2 := Lib.hid (HM.out.1.below HM.out.2 HB2.out)
  have HP2 := Lib.hid (Parse_any ⟨#[49, 46, 48, 46, 48]⟩ W2 (by decide) HM2.out.1 HM2.out.2)
  clear hb1 HP1 hW2
  go_wp2_with fail
  try rw [show W1.alloc (.cells #[.int .i64 1, .int .i64 0, .int .i64 0, .string ⟨#[97, 46, 50]⟩] 25) = W2 from HW2.out]
  refine HP2.out.mono ?_
  rintro e W3 ⟨rfl, hb3⟩
  rw [show parseR (parseV (bs ⟨#[49, 46, 48, 46, 48]⟩)) = .tuple #[verV 1 0 0 ⟨#[]⟩, .int .i64 0] from by rw [show parseV (bs ⟨#[49, 46, 48, 46, 48]⟩) = _ from parse_b]; rfl]
  have HB4 : Hid (Below W2.heap.size W2 (W3.alloc (verC 1 0 0 ⟨#[]⟩))) := Lib.hid (hb3.alloc hb3.size _)
  obtain ⟨y0, y1, y2, y3⟩ := cells4 (World.alloc_heap_new W3 (verC 1 0 0 ⟨#[]⟩))
  obtain ⟨W4, hW4⟩ : ∃ W4, W3.alloc (verC 1 0 0 ⟨#[]⟩) = W4 := ⟨_, rfl⟩
  have hlt3 : W3.heap.size < W4.heap.size := by rw [← hW4]; simp
  have hl23 : W2.heap.size ≤ W3.heap.size := hb3.size
  have HW4 := Lib.hid hW4
  rw [hW4] at HB4 y0 y1 y2 y3
  have HM4 := Lib.hid (HM2.out.1.below HM2.out.2 HB4.out)
  have HP4 := Lib.hid (Parse_any ⟨#[48, 49, 46, 48, 46, 48]⟩ W4 (by decide) HM4.out.1 HM4.out.2)
  have a0 := (HB4.out.cell (p := ⟨W1.heap.size, 0, none⟩) hlt1).trans x0
  have a1 := (HB4.out.cell (p := ⟨W1.heap.size, 1, none⟩) hlt1).trans x1
  have a2 := (HB4.out.cell (p := ⟨W1.heap.size, 2, none⟩) hlt1).trans x2
  have a3 := (HB4.out.cell (p := ⟨W1.heap.size, 3, none⟩) hlt1).trans x3
  clear hb3 HP2 hW4 x0 x1 x2 x3
  go_wp2_with fail
  try rw [show W3.alloc (.cells #[.int .i64 1, .int .i64 0, .int .i64 0, .string ⟨#[]⟩] 25) = W4 from HW4.out]
  refine HP4.out.mono ?_
  rintro e W5 ⟨rfl, hb5⟩
  rw [show parseR (parseV (bs ⟨#[48, 49, 46, 48, 46, 48]⟩)) = .tuple #[verV 0 0 0 ⟨#[]⟩, .int .i64 10] from by rw [show parseV (bs ⟨#[48, 49, 46, 48, 46, 48]⟩) = _ from parse_c]; rfl]
  have HB6 : Hid (Below W4.heap.size W4 (W5.alloc (verC 0 0 0 ⟨#[]⟩))) := Lib.hid (hb5.alloc hb5.size _)
  obtain ⟨W6, hW6⟩ : ∃ W6, W5.alloc (verC 0 0 0 ⟨#[]⟩) = W6 := ⟨_, rfl⟩
  have HW6 := Lib.hid hW6
  rw [hW6] at HB6
  have HM6 := Lib.hid (HM4.out.1.below HM4.out.2 HB6.out)
  have hlt14 : W1.heap.size < W4.heap.size := by omega
  have b0 := (HB6.out.cell (p := ⟨W1.heap.size, 0, none⟩) hlt14).trans a0
  have b1 := (HB6.out.cell (p := ⟨W1.heap.size, 1, none⟩) hlt14).trans a1
  have b2 := (HB6.out.cell (p := ⟨W1.heap.size, 2, none⟩) hlt14).trans a2
  have b3 := (HB6.out.cell (p := ⟨W1.heap.size, 3, none⟩) hlt14).trans a3
  have c0 := (HB6.out.cell (p := ⟨W3.heap.size, 0, none⟩) hlt3).trans y0
  have c1 := (HB6.out.cell (p := ⟨W3.heap.size, 1, none⟩) hlt3).trans y1
  have c2 := (HB6.out.cell (p := ⟨W3.heap.size, 2, none⟩) hlt3).trans y2
  have c3 := (HB6.out.cell (p := ⟨W3.heap.size, 3, none⟩) hlt3).trans y3
  have HC1 := Lib.hid (Compare_any 1 0 0 ⟨#[97, 46, 50]⟩ 1 0 0 ⟨#[]⟩ W6 (by decide) (by decide) HM6.out.1 HM6.out.2)
  have hl46 : W4.heap.size ≤ W6.heap.size := HB6.out.size
  have HB06 : Hid (Below w.heap.size w W6) := Lib.hid ((HB2.out.trans (HB4.out.mono (by omega))).trans (HB6.out.mono (by omega)))
  have HCELL := Lib.hid (And.intro (And.intro b0 (And.intro b1 (And.intro b2 b3))) (And.intro c0 (And.intro c1 (And.intro c2 c3))))
  rw [← HW6.out] at b0 b1 b2 b3 c0 c1 c2 c3
  simp only [verC] at b0 b1 b2 b3 c0 c1 c2 c3
  clear hb5 HP4 hW6 a0 a1 a2 a3 y0 y1 y2 y3
  go_wp2_with fail
  try rw [show W5.alloc (.cells #[.int .i64 0, .int .i64 0, .int .i64 0, .string ⟨#[]⟩] 25) = W6 from HW6.out]
  clear b0 b1 b2 b3 c0 c1 c2 c3
  refine HC1.out.mono ?_
  rintro e W7 ⟨rfl, hb7⟩
  rw [show cmpV ⟨1, 0, 0, bs ⟨#[97, 46, 50]⟩⟩ ⟨1, 0, 0, bs ⟨#[]⟩⟩ = -1 from cmp_ab]
  have b0 := (hb7.cell (p := ⟨W1.heap.size, 0, none⟩) (show W1.heap.size < W6.heap.size by omega)).trans HCELL.out.1.1
  have b1 := (hb7.cell (p := ⟨W1.heap.size, 1, none⟩) (show W1.heap.size < W6.heap.size by omega)).trans HCELL.out.1.2.1
  have b2 := (hb7.cell (p := ⟨W1.heap.size, 2, none⟩) (show W1.heap.size < W6.heap.size by omega)).trans HCELL.out.1.2.2.1
  have b3 := (hb7.cell (p := ⟨W1.heap.size, 3, none⟩) (show W1.heap.size < W6.heap.size by omega)).trans HCELL.out.1.2.2.2
  have c0 := (hb7.cell (p := ⟨W3.heap.size, 0, none⟩) (show W3.heap.size < W6.heap.size by omega)).trans HCELL.out.2.1
  have c1 := (hb7.cell (p := ⟨W3.heap.size, 1, none⟩) (show W3.heap.size < W6.heap.size by omega)).trans HCELL.out.2.2.1
  have c2 := (hb7.cell (p := ⟨W3.heap.size, 2, none⟩) (show W3.heap.size < W6.heap.size by omega)).trans HCELL.out.2.2.2.1
  have c3 := (hb7.cell (p := ⟨W3.heap.size, 3, none⟩) (show W3.heap.size < W6.heap.size by omega)).trans HCELL.out.2.2.2.2
  have HM7 := Lib.hid (HM6.out.1.below HM6.out.2 hb7)
  have HB07 : Hid (Below w.heap.size w W7) := Lib.hid (HB06.out.trans (hb7.mono (by have := HB06.out.size; omega)))
  have HC2 := Lib.hid (Compare_any 1 0 0 ⟨#[]⟩ 1 0 0 ⟨#[97, 46, 50]⟩ W7 (by decide) (by decide) HM7.out.1 HM7.out.2)
  clear hb7 HC1 HCELL
  go_wp2_with fail
  refine HC2.out.mono ?_
  rintro e W8 ⟨rfl, hb8⟩
  rw [show cmpV ⟨1, 0, 0, bs ⟨#[]⟩⟩ ⟨1, 0, 0, bs ⟨#[97, 46, 50]⟩⟩ = 1 from cmp_ba]
  have HB08 : Hid (Below w.heap.size w W8) := Lib.hid (HB07.out.trans (hb8.mono HB07.out.size))
  clear hb8 HC2 b0 b1 b2 b3 c0 c1 c2 c3
  go_wp2
  refine bodyPost_ret (results_tmp rfl _ _ _) rfl ⟨rfl, HB08.out⟩
end Go.Proofs.YtbmhjmdbolnbaaaDoor
