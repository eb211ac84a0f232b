/-
  THE LAW SemverCompares (printed by genlawc2.py).
-/
import Derived.Test.YtbmhjmdbolnbaaaDoorSAt4
import Derived.Test.YtbmhjmdbolnbaaaDoorSEq
import Derived.Deep.DeepCutAuto
namespace Go.Proofs.YtbmhjmdbolnbaaaDoor
open Go.RowKit
open SemP
set_option linter.unusedVariables false
set_option linter.unusedSimpArgs false
set_option maxRecDepth 100000

structure C3St (w0 : World) (ma1 mi1 pa1 : Int) (s1 : ByteArray) (ma2 mi2 pa2 : Int) (s2 : ByteArray) (b0 b1 b2 b3 b4 b5 : Bool) (v5 v6 v9 v10 : Value) (w' : World) : Prop where
  bel : Below w0.heap.size w0 w'
  h0 : b0 = true → v9 = verV ma1 mi1 pa1 s1
  h1 : b1 = true → v10 = verV ma2 mi2 pa2 s2
  h2 : b2 = true → ∃ g, v5 = .pointer (some ⟨g, 0, none⟩) ∧ w0.heap.size ≤ g ∧ g < w'.heap.size ∧ (b4 = false → At4 w' g 0 0 0 ⟨#[]⟩) ∧ (b4 = true → At4 w' g ma1 mi1 pa1 s1)
  h3 : b3 = true → ∃ g, v6 = .pointer (some ⟨g, 0, none⟩) ∧ w0.heap.size ≤ g ∧ g < w'.heap.size ∧ (b5 = false → At4 w' g 0 0 0 ⟨#[]⟩) ∧ (b5 = true → At4 w' g ma2 mi2 pa2 s2)
  ne : b2 = true → b3 = true → v5 ≠ v6
  d4 : b4 = true → b2 = true
  d5 : b5 = true → b3 = true
def C3J (w0 : World) (ma1 mi1 pa1 : Int) (s1 : ByteArray) (ma2 mi2 pa2 : Int) (s2 : ByteArray) (p0 p1 p2 p3 p4 p7 p8 p11 p12 p13 p14 p15 p16 p17 p18 p19 p20 p21 p22 p23 p24 p25 p26 p27 p28 p29 p30 p31 p32 p33 p34 p35 p36 p37 : Value) (l : Array Bool) (a' : Act) (w' : World) : Prop :=
  ∃ (b0 b1 b2 b3 b4 b5 : Bool) (v5 v6 v9 v10 : Value), l = #[b0, b1, b2, b3, b4, b5] ∧ a' = { tmps := List.toArray (p0 :: p1 :: p2 :: p3 :: p4 :: v5 :: v6 :: p7 :: p8 :: v9 :: v10 :: p11 :: p12 :: p13 :: p14 :: p15 :: p16 :: p17 :: p18 :: p19 :: p20 :: p21 :: p22 :: p23 :: p24 :: p25 :: p26 :: p27 :: p28 :: p29 :: p30 :: p31 :: p32 :: p33 :: p34 :: p35 :: p36 :: p37 :: []), defers := [] } ∧ C3St w0 ma1 mi1 pa1 s1 ma2 mi2 pa2 s2 b0 b1 b2 b3 b4 b5 v5 v6 v9 v10 w'
def C3In (w0 : World) (ma1 mi1 pa1 : Int) (s1 : ByteArray) (ma2 mi2 pa2 : Int) (s2 : ByteArray) (v5 v6 : Value) (w' : World) : Prop :=
  ∃ g5 g6, v5 = .pointer (some ⟨g5, 0, none⟩) ∧ v6 = .pointer (some ⟨g6, 0, none⟩) ∧ At4 w' g5 ma1 mi1 pa1 s1 ∧ At4 w' g6 ma2 mi2 pa2 s2 ∧ Below w0.heap.size w0 w'
theorem C3St.fin {w0 w' : World} {ma1 mi1 pa1 : Int} {s1 : ByteArray} {ma2 mi2 pa2 : Int} {s2 : ByteArray} {v5 v6 v9 v10 : Value} (h : C3St w0 ma1 mi1 pa1 s1 ma2 mi2 pa2 s2 true true true true true true v5 v6 v9 v10 w') : C3In w0 ma1 mi1 pa1 s1 ma2 mi2 pa2 s2 v5 v6 w' := by
  obtain ⟨g5, e5, _, _, _, h5⟩ := h.h2 rfl
  obtain ⟨g6, e6, _, _, _, h6⟩ := h.h3 rfl
  exact ⟨g5, g6, e5, e6, h5 rfl, h6 rfl, h.bel⟩
structure C6St (w0 : World) (ma1 mi1 pa1 : Int) (s1 : ByteArray) (ma2 mi2 pa2 : Int) (s2 : ByteArray) (b0 b1 b2 b3 b4 b5 b6 b7 : Bool) (v4 v31 v32 v33 v34 v35 v36 v37 : Value) (w' : World) : Prop where
  bel : Below w0.heap.size w0 w'
  h0 : b0 = true → v31 = verV ma1 mi1 pa1 s1
  h1 : b1 = true → v32 = verV ma2 mi2 pa2 s2
  h2 : b2 = true → v33 = .int .i64 (cmpV ⟨ma1, mi1, pa1, bs s1⟩ ⟨ma2, mi2, pa2, bs s2⟩)
  h3 : b3 = true → v34 = verV ma1 mi1 pa1 s1
  h4 : b4 = true → v35 = verV ma2 mi2 pa2 s2
  h5 : b5 = true → v36 = .int .i64 (cmpV ⟨ma1, mi1, pa1, bs s1⟩ ⟨ma2, mi2, pa2, bs s2⟩)
  h6 : b6 = true → v37 = .bool true
  h7 : b7 = true → v4 = .bool true
def C6J (w0 : World) (ma1 mi1 pa1 : Int) (s1 : ByteArray) (ma2 mi2 pa2 : Int) (s2 : ByteArray) (p0 p1 p2 p3 p5 p6 p7 p8 p9 p10 p11 p12 p13 p14 p15 p16 p17 p18 p19 p20 p21 p22 p23 p24 p25 p26 p27 p28 p29 p30 : Value) (l : Array Bool) (a' : Act) (w' : World) : Prop :=
  ∃ (b0 b1 b2 b3 b4 b5 b6 b7 : Bool) (v4 v31 v32 v33 v34 v35 v36 v37 : Value), l = #[b0, b1, b2, b3, b4, b5, b6, b7] ∧ a' = { tmps := List.toArray (p0 :: p1 :: p2 :: p3 :: v4 :: p5 :: p6 :: p7 :: p8 :: p9 :: p10 :: p11 :: p12 :: p13 :: p14 :: p15 :: p16 :: p17 :: p18 :: p19 :: p20 :: p21 :: p22 :: p23 :: p24 :: p25 :: p26 :: p27 :: p28 :: p29 :: p30 :: v31 :: v32 :: v33 :: v34 :: v35 :: v36 :: v37 :: []), defers := [] } ∧ C6St w0 ma1 mi1 pa1 s1 ma2 mi2 pa2 s2 b0 b1 b2 b3 b4 b5 b6 b7 v4 v31 v32 v33 v34 v35 v36 v37 w'

set_option maxHeartbeats 8000000 in
theorem law_compares (ma1 mi1 pa1 : Int) (s1 : ByteArray) (ma2 mi2 pa2 : Int) (s2 : ByteArray) (w : World) (hm : LenAt w) (h1 : 1 < w.heap.size) :
    Calls Tryd.prog 5 #[verV ma1 mi1 pa1 s1, verV ma2 mi2 pa2 s2] w fun e w' => e = .returned (.bool true) ∧ Below w.heap.size w w' := by
  obtain ⟨W0, hW0⟩ : ∃ W0, (w.alloc (verC ma1 mi1 pa1 s1)).alloc (verC ma2 mi2 pa2 s2) = W0 := ⟨_, rfl⟩
  have hz0 : W0.heap.size = w.heap.size + 2 := by rw [← hW0]; simp
  have hb0 : Below w.heap.size w W0 := by rw [← hW0]; exact ((Below.refl _ w).alloc (Nat.le_refl _) _).alloc (by simp) _
  have HX0 : Hid (W0.heap[w.heap.size]? = some (verC ma1 mi1 pa1 s1)) := Lib.hid (by
    rw [← hW0, Below.heap_alloc _ _ _ (by simp)]; exact World.alloc_heap_new _ _)
  have HX1 : Hid (W0.heap[w.heap.size + 1]? = some (verC ma2 mi2 pa2 s2)) := Lib.hid (by
    rw [← hW0]
    have := World.alloc_heap_new (w.alloc (verC ma1 mi1 pa1 s1)) (verC ma2 mi2 pa2 s2)
    rw [World.size_alloc] at this; exact this)
  have HLT0 : Hid (w.heap.size < W0.heap.size) := Lib.hid (by omega)
  have HLT1 : Hid (w.heap.size + 1 < W0.heap.size) := Lib.hid (by omega)
  have HM0 := Lib.hid (hm.below h1 hb0)
  have HAN := Lib.hid (anchor_any W0 HM0.out.1 HM0.out.2)
  have HW0 := Lib.hid hW0
  have HB0 := Lib.hid hb0
  have HEND : Hid (∀ W, Below W0.heap.size W0 W → Below w.heap.size w W) := Lib.hid (fun W h => HB0.out.trans (h.mono HB0.out.size))
  clear hW0 hb0 hm hz0
  go_enter Tryd.func5, Tryd.ntmps5
  go_wp2_with fail
  try rw [show (w.alloc (.cells #[.int .i64 ma1, .int .i64 mi1, .int .i64 pa1, .string s1] 25)).alloc (.cells #[.int .i64 ma2, .int .i64 mi2, .int .i64 pa2, .string s2] 25) = W0 from HW0.out]
  refine HAN.out.mono ?_
  rintro e W1 ⟨rfl, hb⟩
  have HB1 := Lib.hid hb
  have HM1 := Lib.hid (HM0.out.1.below HM0.out.2 hb)
  have HY0 : Hid (W1.heap[w.heap.size]? = some (verC ma1 mi1 pa1 s1)) := Lib.hid ((hb.block _ HLT0.out).trans HX0.out)
  have HY1 : Hid (W1.heap[w.heap.size + 1]? = some (verC ma2 mi2 pa2 s2)) := Lib.hid ((hb.block _ HLT1.out).trans HX1.out)
  have HL0 : Hid (w.heap.size < W1.heap.size) := Lib.hid (Nat.lt_of_lt_of_le HLT0.out hb.size)
  have HL1 : Hid (w.heap.size + 1 < W1.heap.size) := Lib.hid (Nat.lt_of_lt_of_le HLT1.out hb.size)
  clear hb HAN
  go_wp2_with fail
  go_cut [5, 6] (C3In W1 ma1 mi1 pa1 s1 ma2 mi2 pa2 s2)
  case first =>
    refine wp_region_inv (by kernel_rfl) (I := C3J W1 ma1 mi1 pa1 s1 ma2 mi2 pa2 s2 _ _ _ _ _ _ _ _ _ _ _ _ _ _ _ _ _ _ _ _ _ _ _ _ _ _ _ _ _ _ _ _ _ _) ⟨false, false, false, false, false, false, _, _, _, _, rfl, rfl, ⟨(Below.refl _ W1).drew, nofun, nofun, nofun, nofun, nofun, nofun, nofun⟩⟩ ?step ?fin
    case step =>
      rintro l a' w' i ⟨b0, b1, b2, b3, b4, b5, v5, v6, v9, v10, rfl, rfl, HT⟩ hi
      obtain ⟨hi_, hib⟩ := ready_lt hi
      have HTH := Lib.hid HT
      match i, hi_, hi, hib with
      | 0, _, hi, hib =>
        obtain ⟨x0, x1, x2, x3⟩ := cells4 ((HT.bel.block _ HL0.out).trans HY0.out)
        clear HT
        refine wpOp_one rfl rfl (fun K hK => ?_)
        go_simp
        exact hK.out _ _ ⟨true, b1, b2, b3, b4, b5, _, _, _, _, rfl, rfl, { HTH.out with h0 := fun _ => rfl }⟩
      | 1, _, hi, hib =>
        obtain ⟨x0, x1, x2, x3⟩ := cells4 ((HT.bel.block _ HL1.out).trans HY1.out)
        clear HT
        refine wpOp_one rfl rfl (fun K hK => ?_)
        go_simp
        exact hK.out _ _ ⟨b0, true, b2, b3, b4, b5, _, _, _, _, rfl, rfl, { HTH.out with h1 := fun _ => rfl }⟩
      | 2, _, hi, hib =>
        obtain rfl : b2 = false := hib
        have hb : b4 = false := by cases h : b4 with | false => rfl | true => (have := HT.d4 h; cases this)
        subst hb
        have HN : Hid (C3St W1 ma1 mi1 pa1 s1 ma2 mi2 pa2 s2 b0 b1 true b3 false b5 (.pointer (some ⟨w'.heap.size, 0, none⟩)) v6 v9 v10 (w'.alloc (.cells #[.int .i64 0, .int .i64 0, .int .i64 0, .string ⟨#[]⟩] 29))) := Lib.hid (by
          have hsz : (w'.alloc (.cells #[.int .i64 0, .int .i64 0, .int .i64 0, .string ⟨#[]⟩] 29)).heap.size = w'.heap.size + 1 := by simp
          refine { HT with bel := HT.bel.alloc HT.bel.size _, h2 := fun _ => ⟨_, rfl, HT.bel.size, by rw [hsz]; omega, fun _ => At4.of_heap (World.alloc_heap_new _ _), nofun⟩, h3 := fun h => ?_, ne := ?_, d4 := nofun }
          · obtain ⟨g, e, hg1, hg2, ha, hb⟩ := HT.h3 h
            exact ⟨g, e, hg1, by rw [hsz]; omega, fun h => (ha h).block (Below.heap_alloc _ _ _ hg2), fun h => (hb h).block (Below.heap_alloc _ _ _ hg2)⟩
          · intro h2 h3 e
            obtain ⟨g, e2, _, hg2, _, _⟩ := HT.h3 h3
            rw [e2] at e
            simp at e)
        clear HT
        refine wpOp_one rfl rfl (fun K hK => ?_)
        go_simp
        exact hK.out _ _ ⟨b0, b1, true, b3, false, b5, _, _, _, _, rfl, rfl, HN.out⟩
      | 3, _, hi, hib =>
        obtain rfl : b3 = false := hib
        have hb : b5 = false := by cases h : b5 with | false => rfl | true => (have := HT.d5 h; cases this)
        subst hb
        have HN : Hid (C3St W1 ma1 mi1 pa1 s1 ma2 mi2 pa2 s2 b0 b1 b2 true b4 false v5 (.pointer (some ⟨w'.heap.size, 0, none⟩)) v9 v10 (w'.alloc (.cells #[.int .i64 0, .int .i64 0, .int .i64 0, .string ⟨#[]⟩] 29))) := Lib.hid (by
          have hsz : (w'.alloc (.cells #[.int .i64 0, .int .i64 0, .int .i64 0, .string ⟨#[]⟩] 29)).heap.size = w'.heap.size + 1 := by simp
          refine { HT with bel := HT.bel.alloc HT.bel.size _, h3 := fun _ => ⟨_, rfl, HT.bel.size, by rw [hsz]; omega, fun _ => At4.of_heap (World.alloc_heap_new _ _), nofun⟩, h2 := fun h => ?_, ne := ?_, d5 := nofun }
          · obtain ⟨g, e, hg1, hg2, ha, hb⟩ := HT.h2 h
            exact ⟨g, e, hg1, by rw [hsz]; omega, fun h => (ha h).block (Below.heap_alloc _ _ _ hg2), fun h => (hb h).block (Below.heap_alloc _ _ _ hg2)⟩
          · intro h2 h3 e
            obtain ⟨g, e2, _, hg2, _, _⟩ := HT.h2 h2
            rw [e2] at e
            simp at e)
        clear HT
        refine wpOp_one rfl rfl (fun K hK => ?_)
        go_simp
        exact hK.out _ _ ⟨b0, b1, b2, true, b4, false, _, _, _, _, rfl, rfl, HN.out⟩
      | 4, _, hi, hib =>
        obtain rfl : b4 = false := hib
        have dA : b2 = true := ready_dep hi rfl 2 (by kernel_rfl)
        have dL : b0 = true := ready_dep hi rfl 0 (by kernel_rfl)
        obtain rfl := HT.h0 dL
        obtain ⟨g, rfl, hg1, hg2, hz, _⟩ := HT.h2 dA
        have HZ := hz rfl
        obtain ⟨x0, x1, x2, x3, f0, f1, f2, f3⟩ := HZ
        have HN : Hid (C3St W1 ma1 mi1 pa1 s1 ma2 mi2 pa2 s2 b0 b1 b2 b3 true b5 (.pointer (some ⟨g, 0, none⟩)) v6 (verV ma1 mi1 pa1 s1) v10 (set4 w' g ma1 mi1 pa1 s1)) := Lib.hid (by
          refine { HT with bel := set4_below HT.bel hg1 _ _ _ _, h2 := fun _ => ⟨g, rfl, hg1, by rw [set4_size]; exact hg2, nofun, fun _ => (hz rfl).set⟩, h3 := fun h => ?_, d4 := fun _ => dA }
          obtain ⟨g2, e, hg3, hg4, ha, hb⟩ := HT.h3 h
          have hne : g2 ≠ g := fun e2 => HT.ne dA h (by rw [e, e2])
          exact ⟨g2, e, hg3, by rw [set4_size]; exact hg4, fun h => (ha h).block (set4_block _ _ _ _ _ _ _ hne), fun h => (hb h).block (set4_block _ _ _ _ _ _ _ hne)⟩)
        clear HT hz
        refine wpOp_one rfl rfl (fun K hK => ?_)
        go_simp
        exact hK.out _ _ ⟨b0, b1, b2, b3, true, b5, _, _, _, _, rfl, rfl, HN.out⟩
      | 5, _, hi, hib =>
        obtain rfl : b5 = false := hib
        have dA : b3 = true := ready_dep hi rfl 3 (by kernel_rfl)
        have dL : b1 = true := ready_dep hi rfl 1 (by kernel_rfl)
        obtain rfl := HT.h1 dL
        obtain ⟨g, rfl, hg1, hg2, hz, _⟩ := HT.h3 dA
        have HZ := hz rfl
        obtain ⟨x0, x1, x2, x3, f0, f1, f2, f3⟩ := HZ
        have HN : Hid (C3St W1 ma1 mi1 pa1 s1 ma2 mi2 pa2 s2 b0 b1 b2 b3 b4 true v5 (.pointer (some ⟨g, 0, none⟩)) v9 (verV ma2 mi2 pa2 s2) (set4 w' g ma2 mi2 pa2 s2)) := Lib.hid (by
          refine { HT with bel := set4_below HT.bel hg1 _ _ _ _, h3 := fun _ => ⟨g, rfl, hg1, by rw [set4_size]; exact hg2, nofun, fun _ => (hz rfl).set⟩, h2 := fun h => ?_, d5 := fun _ => dA }
          obtain ⟨g2, e, hg3, hg4, ha, hb⟩ := HT.h2 h
          have hne : g2 ≠ g := fun e2 => HT.ne h dA (by rw [e, e2])
          exact ⟨g2, e, hg3, by rw [set4_size]; exact hg4, fun h => (ha h).block (set4_block _ _ _ _ _ _ _ hne), fun h => (hb h).block (set4_block _ _ _ _ _ _ _ hne)⟩)
        clear HT hz
        refine wpOp_one rfl rfl (fun K hK => ?_)
        go_simp
        exact hK.out _ _ ⟨b0, b1, b2, b3, b4, true, _, _, _, _, rfl, rfl, HN.out⟩
    case fin =>
      rintro l a' w' ⟨b0, b1, b2, b3, b4, b5, v5, v6, v9, v10, rfl, rfl, HT⟩ hr
      obtain rfl : b0 = true := by
        cases b0 with
        | true => rfl
        | false => exact (ready_in 0 rfl rfl (by simp [Region.binds]) hr).elim
      obtain rfl : b1 = true := by
        cases b1 with
        | true => rfl
        | false => exact (ready_in 1 rfl rfl (by simp [Region.binds]) hr).elim
      obtain rfl : b2 = true := by
        cases b2 with
        | true => rfl
        | false => exact (ready_in 2 rfl rfl (by simp [Region.binds]) hr).elim
      obtain rfl : b3 = true := by
        cases b3 with
        | true => rfl
        | false => exact (ready_in 3 rfl rfl (by simp [Region.binds]) hr).elim
      obtain rfl : b4 = true := by
        cases b4 with
        | true => rfl
        | false => exact (ready_in 4 rfl rfl (by simp [Region.binds]) hr).elim
      obtain rfl : b5 = true := by
        cases b5 with
        | true => rfl
        | false => exact (ready_in 5 rfl rfl (by simp [Region.binds]) hr).elim
      have HF := HT.fin
      obtain rfl := HT.h0 rfl
      obtain rfl := HT.h1 rfl
      clear HT hr
      show _
      go_wp2_with fail
      go_meet
      exact HF
  case rest =>
    obtain ⟨g5, g6, rfl, rfl, hA5, hA6, hbc⟩ := hcut
    have HBc : Hid (Below W0.heap.size W0 wc) := Lib.hid (HB1.out.trans (hbc.mono HB1.out.size))
    have HMc := Lib.hid (HM1.out.1.below HM1.out.2 hbc)
    have HAc := Lib.hid (And.intro hA5 hA6)
    obtain ⟨x0, x1, x2, x3⟩ := cells4 ((HBc.out.block _ HLT0.out).trans HX0.out)
    obtain ⟨y0, y1, y2, y3⟩ := cells4 ((HBc.out.block _ HLT1.out).trans HX1.out)
    obtain ⟨p0, p1, p2, p3, _, _, _, _⟩ := hA5
    clear hA6 hbc
    go_wp2_with fail
    refine (short_any s1 wc).mono ?_
    rintro e w' ⟨rfl, hw⟩
    subst w'
    cases hsh1 : decide (s1.size ≤ 300) with
    | false =>
      go_wp2
      refine bodyPost_ret (results_tmp rfl _ _ _) rfl ⟨rfl, HEND.out _ HBc.out⟩
    | true =>
      have HS1 : Hid (s1.size ≤ 300) := Lib.hid (of_decide_eq_true hsh1)
      clear hsh1
      go_wp2_with fail
      refine (short_any s2 wc).mono ?_
      rintro e w' ⟨rfl, hw⟩
      subst w'
      cases hsh2 : decide (s2.size ≤ 300) with
      | false =>
        go_wp2
        refine bodyPost_ret (results_tmp rfl _ _ _) rfl ⟨rfl, HEND.out _ HBc.out⟩
      | true =>
        have HS2 : Hid (s2.size ≤ 300) := Lib.hid (of_decide_eq_true hsh2)
        clear hsh2
        have HR1 := Lib.hid (RefRight_any ma1 mi1 pa1 s1 wc (by have := HS1.out; omega))
        go_wp2_with fail
        refine HR1.out.mono ?_
        rintro e W4 ⟨rfl, hb4⟩
        have HB4 : Hid (Below W0.heap.size W0 W4) := Lib.hid (HBc.out.trans (hb4.mono HBc.out.size))
        have HM4 := Lib.hid (HMc.out.1.below HMc.out.2 hb4)
        have HA4 : Hid (At4 W4 g5 ma1 mi1 pa1 s1 ∧ At4 W4 g6 ma2 mi2 pa2 s2) := Lib.hid ⟨HAc.out.1.block (hb4.block _ HAc.out.1.lt), HAc.out.2.block (hb4.block _ HAc.out.2.lt)⟩
        clear hb4 HR1 x0 x1 x2 x3 y0 y1 y2 y3 p0 p1 p2 p3
        cases hr1 : Ver.right ⟨ma1, mi1, pa1, bs s1⟩ with
        | false =>
          go_wp2
          refine bodyPost_ret (results_tmp rfl _ _ _) rfl ⟨rfl, HEND.out _ HB4.out⟩
        | true =>
          have HRT1 := Lib.hid hr1
          clear hr1
          obtain ⟨p0, p1, p2, p3, _, _, _, _⟩ := HA4.out.2
          have HR2 := Lib.hid (RefRight_any ma2 mi2 pa2 s2 W4 (by have := HS2.out; omega))
          go_wp2_with fail
          refine HR2.out.mono ?_
          rintro e W5 ⟨rfl, hb5⟩
          have HB5 : Hid (Below W0.heap.size W0 W5) := Lib.hid (HB4.out.trans (hb5.mono HB4.out.size))
          have HM5 := Lib.hid (HM4.out.1.below HM4.out.2 hb5)
          have HA5 : Hid (At4 W5 g5 ma1 mi1 pa1 s1 ∧ At4 W5 g6 ma2 mi2 pa2 s2) := Lib.hid ⟨HA4.out.1.block (hb5.block _ HA4.out.1.lt), HA4.out.2.block (hb5.block _ HA4.out.2.lt)⟩
          clear hb5 HR2 p0 p1 p2 p3
          cases hr2 : Ver.right ⟨ma2, mi2, pa2, bs s2⟩ with
          | false =>
            go_wp2
            refine bodyPost_ret (results_tmp rfl _ _ _) rfl ⟨rfl, HEND.out _ HB5.out⟩
          | true =>
            have HRV : Hid (refV ⟨ma1, mi1, pa1, bs s1⟩ ⟨ma2, mi2, pa2, bs s2⟩ = cmpV ⟨ma1, mi1, pa1, bs s1⟩ ⟨ma2, mi2, pa2, bs s2⟩) := Lib.hid (refV_cmp HRT1.out hr2)
            clear hr2
            have HG0 : Hid (w.heap.size < W5.heap.size) := Lib.hid (Nat.lt_of_lt_of_le HLT0.out HB5.out.size)
            have HG1 : Hid (w.heap.size + 1 < W5.heap.size) := Lib.hid (Nat.lt_of_lt_of_le HLT1.out HB5.out.size)
            have HX5 : Hid (W5.heap[w.heap.size]? = some (verC ma1 mi1 pa1 s1)) := Lib.hid ((HB5.out.block _ HLT0.out).trans HX0.out)
            have HY5 : Hid (W5.heap[w.heap.size + 1]? = some (verC ma2 mi2 pa2 s2)) := Lib.hid ((HB5.out.block _ HLT1.out).trans HX1.out)
            go_wp2_with fail
            refine wp_region_inv (by kernel_rfl) (I := C6J W5 ma1 mi1 pa1 s1 ma2 mi2 pa2 s2 _ _ _ _ _ _ _ _ _ _ _ _ _ _ _ _ _ _ _ _ _ _ _ _ _ _ _ _ _ _) ⟨false, false, false, false, false, false, false, false, _, _, _, _, _, _, _, _, rfl, rfl, ⟨(Below.refl _ W5).drew, nofun, nofun, nofun, nofun, nofun, nofun, nofun, nofun⟩⟩ ?step ?fin
            case step =>
              rintro l a' w' i ⟨b0, b1, b2, b3, b4, b5, b6, b7, v4, v31, v32, v33, v34, v35, v36, v37, rfl, rfl, HT⟩ hi
              obtain ⟨hi_, hib⟩ := ready_lt hi
              have HTH := Lib.hid HT
              match i, hi_, hi, hib with
              | 0, _, hi, hib =>
                obtain ⟨x0, x1, x2, x3⟩ := cells4 ((HT.bel.block _ HG0.out).trans HX5.out)
                clear HT
                refine wpOp_one rfl rfl (fun K hK => ?_)
                go_simp
                exact hK.out _ _ ⟨true, b1, b2, b3, b4, b5, b6, b7, _, _, _, _, _, _, _, _, rfl, rfl, { HTH.out with h0 := fun _ => rfl }⟩
              | 1, _, hi, hib =>
                obtain ⟨x0, x1, x2, x3⟩ := cells4 ((HT.bel.block _ HG1.out).trans HY5.out)
                clear HT
                refine wpOp_one rfl rfl (fun K hK => ?_)
                go_simp
                exact hK.out _ _ ⟨b0, true, b2, b3, b4, b5, b6, b7, _, _, _, _, _, _, _, _, rfl, rfl, { HTH.out with h1 := fun _ => rfl }⟩
              | 2, _, hi, hib =>
                have d0 : b0 = true := ready_dep hi rfl 0 (by kernel_rfl)
                obtain rfl := HT.h0 d0
                have d1 : b1 = true := ready_dep hi rfl 1 (by kernel_rfl)
                obtain rfl := HT.h1 d1
                have hM := HM5.out.1.below HM5.out.2 HT.bel
                have HC := Lib.hid (Compare_any ma1 mi1 pa1 s1 ma2 mi2 pa2 s2 w' (by have := HS1.out; omega) (by have := HS2.out; omega) hM.1 hM.2)
                clear hM
                clear HT
                refine wpOp_one rfl rfl (fun K hK => ?_)
                go_simp
                refine HC.out.mono ?_
                rintro e w2 ⟨rfl, hb⟩
                exact hK.out _ _ ⟨b0, b1, true, b3, b4, b5, b6, b7, _, _, _, _, _, _, _, _, rfl, rfl, { HTH.out with bel := HTH.out.bel.trans (hb.mono HTH.out.bel.size), h2 := fun _ => rfl }⟩
              | 3, _, hi, hib =>
                obtain ⟨x0, x1, x2, x3, _, _, _, _⟩ := HA5.out.1.block (HT.bel.block _ HA5.out.1.lt)
                clear HT
                refine wpOp_one rfl rfl (fun K hK => ?_)
                go_simp
                exact hK.out _ _ ⟨b0, b1, b2, true, b4, b5, b6, b7, _, _, _, _, _, _, _, _, rfl, rfl, { HTH.out with h3 := fun _ => rfl }⟩
              | 4, _, hi, hib =>
                obtain ⟨x0, x1, x2, x3, _, _, _, _⟩ := HA5.out.2.block (HT.bel.block _ HA5.out.2.lt)
                clear HT
                refine wpOp_one rfl rfl (fun K hK => ?_)
                go_simp
                exact hK.out _ _ ⟨b0, b1, b2, b3, true, b5, b6, b7, _, _, _, _, _, _, _, _, rfl, rfl, { HTH.out with h4 := fun _ => rfl }⟩
              | 5, _, hi, hib =>
                have d3 : b3 = true := ready_dep hi rfl 3 (by kernel_rfl)
                obtain rfl := HT.h3 d3
                have d4 : b4 = true := ready_dep hi rfl 4 (by kernel_rfl)
                obtain rfl := HT.h4 d4
                have HC := Lib.hid (RefCompare_any ma1 mi1 pa1 s1 ma2 mi2 pa2 s2 w' (by have := HS1.out; omega) (by have := HS2.out; omega))
                rw [HRV.out] at HC
                clear HT
                refine wpOp_one rfl rfl (fun K hK => ?_)
                go_simp
                refine HC.out.mono ?_
                rintro e w2 ⟨rfl, hb⟩
                exact hK.out _ _ ⟨b0, b1, b2, b3, b4, true, b6, b7, _, _, _, _, _, _, _, _, rfl, rfl, { HTH.out with bel := HTH.out.bel.trans (hb.mono HTH.out.bel.size), h5 := fun _ => rfl }⟩
              | 6, _, hi, hib =>
                have d2 : b2 = true := ready_dep hi rfl 2 (by kernel_rfl)
                obtain rfl := HT.h2 d2
                have d5 : b5 = true := ready_dep hi rfl 5 (by kernel_rfl)
                obtain rfl := HT.h5 d5
                clear HT
                refine wpOp_one rfl rfl (fun K hK => ?_)
                go_simp
                exact hK.out _ _ ⟨b0, b1, b2, b3, b4, b5, true, b7, _, _, _, _, _, _, _, _, rfl, rfl, { HTH.out with h6 := fun _ => rfl }⟩
              | 7, _, hi, hib =>
                have d6 : b6 = true := ready_dep hi rfl 6 (by kernel_rfl)
                obtain rfl := HT.h6 d6
                clear HT
                refine wpOp_one rfl rfl (fun K hK => ?_)
                go_simp
                exact hK.out _ _ ⟨b0, b1, b2, b3, b4, b5, b6, true, _, _, _, _, _, _, _, _, rfl, rfl, { HTH.out with h7 := fun _ => rfl }⟩
            case fin =>
              rintro l a' w' ⟨b0, b1, b2, b3, b4, b5, b6, b7, v4, v31, v32, v33, v34, v35, v36, v37, rfl, rfl, HT⟩ hr
              obtain rfl : b0 = true := by
                cases b0 with
                | true => rfl
                | false => exact (ready_in 0 rfl rfl (by simp [Region.binds]) hr).elim
              obtain rfl : b1 = true := by
                cases b1 with
                | true => rfl
                | false => exact (ready_in 1 rfl rfl (by simp [Region.binds]) hr).elim
              obtain rfl : b2 = true := by
                cases b2 with
                | true => rfl
                | false => exact (ready_in 2 rfl rfl (by simp [Region.binds]) hr).elim
              obtain rfl : b3 = true := by
                cases b3 with
                | true => rfl
                | false => exact (ready_in 3 rfl rfl (by simp [Region.binds]) hr).elim
              obtain rfl : b4 = true := by
                cases b4 with
                | true => rfl
                | false => exact (ready_in 4 rfl rfl (by simp [Region.binds]) hr).elim
              obtain rfl : b5 = true := by
                cases b5 with
                | true => rfl
                | false => exact (ready_in 5 rfl rfl (by simp [Region.binds]) hr).elim
              obtain rfl : b6 = true := by
                cases b6 with
                | true => rfl
                | false => exact (ready_in 6 rfl rfl (by simp [Region.binds]) hr).elim
              obtain rfl : b7 = true := by
                cases b7 with
                | true => rfl
                | false => exact (ready_in 7 rfl rfl (by simp [Region.binds]) hr).elim
              obtain rfl := HT.h0 rfl
              obtain rfl := HT.h1 rfl
              obtain rfl := HT.h2 rfl
              obtain rfl := HT.h3 rfl
              obtain rfl := HT.h4 rfl
              obtain rfl := HT.h5 rfl
              obtain rfl := HT.h6 rfl
              obtain rfl := HT.h7 rfl
              have HB7 : Hid (Below W0.heap.size W0 w') := Lib.hid (HB5.out.trans (HT.bel.mono HB5.out.size))
              clear HT hr
              show _
              go_wp2
              refine bodyPost_ret (results_tmp rfl _ _ _) rfl ⟨rfl, HEND.out _ HB7.out⟩
end Go.Proofs.YtbmhjmdbolnbaaaDoor
