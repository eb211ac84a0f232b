/-
  THE LAW SemverParses.
-/
import Derived.Test.YtbmhjmdbolnbaaaDoorSBump
import Derived.Test.YtbmhjmdbolnbaaaDoorSRefS
namespace Go.Proofs.YtbmhjmdbolnbaaaDoor
open Go.RowKit
open SemP
set_option linter.unusedVariables false
set_option linter.unusedSimpArgs false
set_option maxRecDepth 100000

set_option maxHeartbeats 8000000 in
theorem law_parses (s : ByteArray) (w : World) (hm : LenAt w) (h1 : 1 < w.heap.size) :
    Calls Tryd.prog 3 #[.string s] w fun e w' => e = .returned (.bool true) ∧ Below w.heap.size w w' := by
  have HAN := Lib.hid (anchor_any w hm h1)
  have HM := Lib.hid (And.intro hm h1)
  clear hm h1
  go_enter Tryd.func3, Tryd.ntmps3
  go_wp2_with fail
  refine HAN.out.mono ?_
  rintro e W1 ⟨rfl, hb1⟩
  have HB1 := Lib.hid hb1
  have HM1 := Lib.hid (HM.out.1.below HM.out.2 hb1)
  clear hb1 HAN
  go_wp2_with fail
  refine (short_any s W1).mono ?_
  rintro e w' ⟨rfl, rfl⟩
  cases hsh : decide (s.size ≤ 300) with
  | false =>
    go_wp2
    refine bodyPost_ret (results_tmp rfl _ _ _) rfl ⟨rfl, HB1.out⟩
  | true =>
    have HS : Hid (s.size ≤ 300) := Lib.hid (of_decide_eq_true hsh)
    have HP := Lib.hid (Parse_any s w' (by have := HS.out; omega) HM1.out.1 HM1.out.2)
    clear hsh
    go_wp2_with fail
    refine HP.out.mono ?_
    rintro e W2 ⟨rfl, hb2⟩
    have HB2 : Hid (Below w.heap.size w W2) := Lib.hid (HB1.out.trans (hb2.mono HB1.out.size))
    clear hb2 HP
    have HV := Lib.hid (show parseV (bs s) = parseV (bs s) from rfl)
    cases hv : parseV (bs s) with
    | none =>
      have HVN := Lib.hid hv
      have HW3 : Hid (∃ W3, W2.alloc (verC 0 0 0 ⟨#[]⟩) = W3 ∧ Below w.heap.size w W3 ∧ W3.heap[W2.heap.size]? = some (verC 0 0 0 ⟨#[]⟩) ∧ W2.heap.size < W3.heap.size) := Lib.hid ⟨_, rfl, HB2.out.alloc HB2.out.size _, World.alloc_heap_new _ _, by simp⟩
      obtain ⟨W3, hW3, hb3, hA3, hz3⟩ := HW3.out
      have HB3 := Lib.hid hb3
      have HA3 := Lib.hid hA3
      have HE3 := Lib.hid hW3
      have HR := Lib.hid (RefParse_any s W3 (by have := HS.out; omega))
      clear hv hb3 hA3 hW3 HW3
      rw [show parseR none = .tuple #[verV 0 0 0 ⟨#[]⟩, .int .i64 10] from rfl]
      go_wp2_with fail
      try rw [show W2.alloc (.cells #[.int .i64 0, .int .i64 0, .int .i64 0, .string ⟨#[]⟩] 25) = W3 from HE3.out]
      refine HR.out.mono ?_
      rintro e W4 ⟨rfl, hb4⟩
      have hA4 := (hb4.block _ hz3).trans HA3.out
      have hz4 : W2.heap.size < W4.heap.size := by have := hb4.size; omega
      have HB4 : Hid (Below w.heap.size w W4) := Lib.hid (HB3.out.trans (hb4.mono HB3.out.size))
      have hA5 : (W4.alloc (.cells #[.int .i64 0, .int .i64 0, .int .i64 0, .string ⟨#[]⟩] 29)).heap[W2.heap.size]? = some (verC 0 0 0 ⟨#[]⟩) := (Below.heap_alloc _ _ _ hz4).trans hA4
      obtain ⟨y0, y1, y2, y3⟩ := cells4 hA5
      have HBA : Hid (∀ o : Obj, Below w.heap.size w (W4.alloc o)) := Lib.hid (fun o => HB4.out.alloc HB4.out.size o)
      clear hb4 hA4 hA5 HR
      rw [HVN.out, show refParseR none = .tuple #[verV 0 0 0 ⟨#[]⟩, .bool false] from rfl]
      go_wp2
      refine bodyPost_ret (results_tmp rfl _ _ _) rfl ⟨rfl, HBA.out _⟩
    | some v =>
      obtain ⟨a, b, c, p⟩ := v
      have HVN := Lib.hid hv
      have HW3 : Hid (∃ W3, W2.alloc (verC a b c (mk p)) = W3 ∧ Below w.heap.size w W3 ∧ W3.heap[W2.heap.size]? = some (verC a b c (mk p)) ∧ W2.heap.size < W3.heap.size) := Lib.hid ⟨_, rfl, HB2.out.alloc HB2.out.size _, World.alloc_heap_new _ _, by simp⟩
      obtain ⟨W3, hW3, hb3, hA3, hz3⟩ := HW3.out
      have HB3 := Lib.hid hb3
      have HA3 := Lib.hid hA3
      have HE3 := Lib.hid hW3
      have HR := Lib.hid (RefParse_any s W3 (by have := HS.out; omega))
      clear hv hb3 hA3 hW3 HW3
      obtain ⟨q, hq⟩ : ∃ q, mk p = q := ⟨_, rfl⟩
      have HRQ : Hid (refParseR (some ⟨a, b, c, p⟩) = .tuple #[verV a b c q, .bool true]) := Lib.hid (by rw [← hq]; rfl)
      rw [show parseR (some ⟨a, b, c, p⟩) = .tuple #[verV a b c q, .int .i64 0] from by rw [← hq]; rfl]
      rw [hq] at HA3 HE3
      clear hq
      go_wp2_with fail
      try rw [show W2.alloc (.cells #[.int .i64 a, .int .i64 b, .int .i64 c, .string q] 25) = W3 from HE3.out]
      refine HR.out.mono ?_
      rintro e W4 ⟨rfl, hb4⟩
      have hA4 := (hb4.block _ hz3).trans HA3.out
      have hz4 : W2.heap.size < W4.heap.size := by have := hb4.size; omega
      have HB4 : Hid (Below w.heap.size w W4) := Lib.hid (HB3.out.trans (hb4.mono HB3.out.size))
      have hA5 : (W4.alloc (.cells #[.int .i64 a, .int .i64 b, .int .i64 c, .string q] 29)).heap[W2.heap.size]? = some (verC a b c q) := (Below.heap_alloc _ _ _ hz4).trans hA4
      obtain ⟨y0, y1, y2, y3⟩ := cells4 hA5
      have HBA : Hid (∀ o : Obj, Below w.heap.size w (W4.alloc o)) := Lib.hid (fun o => HB4.out.alloc HB4.out.size o)
      clear hb4 hA4 hA5 HR
      rw [HVN.out, HRQ.out]
      go_wp2
      refine bodyPost_ret (results_tmp rfl _ _ _) rfl ⟨rfl, HBA.out _⟩
end Go.Proofs.YtbmhjmdbolnbaaaDoor
