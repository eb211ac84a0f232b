/-
  THE LAW SemverNumbers (printed by genlawn.py).
-/
import Derived.Test.YtbmhjmdbolnbaaaDoorSBump
import Derived.Test.YtbmhjmdbolnbaaaDoorInv
import Derived.Test.YtbmhjmdbolnbaaaDoorSNumP
import Derived.Test.YtbmhjmdbolnbaaaDoorSRefS
import Derived.Deep.DeepCutAuto
import Derived.Laws.Cover1
namespace Go.Proofs.YtbmhjmdbolnbaaaDoor
open Go.RowKit
open SemP
set_option linter.unusedVariables false
set_option linter.unusedSimpArgs false
set_option maxRecDepth 100000

structure N6St (w0 : World) (ma mi pa : Int) (s0 : ByteArray) (b0 b1 b2 b3 b4 b5 b6 b7 b8 : Bool) (v10 v11 v12 v35 v36 v37 : Value) (w' : World) : Prop where
  bel : Below w0.heap.size w0 w'
  h0 : b0 = true → v35 = verV ma mi pa s0
  h1 : b1 = true → v36 = verV ma mi pa s0
  h2 : b2 = true → v37 = verV ma mi pa s0
  h3 : b3 = true → ∃ g, v10 = .pointer (some ⟨g, 0, none⟩) ∧ w0.heap.size ≤ g ∧ g < w'.heap.size ∧ (b6 = false → At4 w' g 0 0 0 ⟨#[]⟩) ∧ (b6 = true → At4 w' g ma mi pa s0)
  h4 : b4 = true → ∃ g, v11 = .pointer (some ⟨g, 0, none⟩) ∧ w0.heap.size ≤ g ∧ g < w'.heap.size ∧ (b7 = false → At4 w' g 0 0 0 ⟨#[]⟩) ∧ (b7 = true → At4 w' g ma mi pa s0)
  h5 : b5 = true → ∃ g, v12 = .pointer (some ⟨g, 0, none⟩) ∧ w0.heap.size ≤ g ∧ g < w'.heap.size ∧ (b8 = false → At4 w' g 0 0 0 ⟨#[]⟩) ∧ (b8 = true → At4 w' g ma mi pa s0)
  ne01 : b3 = true → b4 = true → v10 ≠ v11
  ne02 : b3 = true → b5 = true → v10 ≠ v12
  ne12 : b4 = true → b5 = true → v11 ≠ v12
  d6 : b6 = true → b3 = true
  d7 : b7 = true → b4 = true
  d8 : b8 = true → b5 = true
def N6J (w0 : World) (ma mi pa : Int) (s0 : ByteArray) (p0 p1 p2 p3 p4 p5 p6 p7 p8 p9 p13 p14 p15 p16 p17 p18 p19 p20 p21 p22 p23 p24 p25 p26 p27 p28 p29 p30 p31 p32 p33 p34 p38 p39 p40 p41 p42 p43 p44 p45 p46 p47 p48 p49 p50 p51 p52 p53 p54 p55 p56 p57 p58 p59 p60 p61 p62 p63 p64 p65 p66 p67 p68 p69 p70 p71 p72 p73 p74 p75 p76 p77 p78 p79 p80 p81 p82 p83 p84 p85 p86 p87 p88 p89 p90 p91 p92 p93 p94 p95 p96 p97 p98 p99 p100 p101 : Value) (l : Array Bool) (a' : Act) (w' : World) : Prop :=
  ∃ (b0 b1 b2 b3 b4 b5 b6 b7 b8 : Bool) (v10 v11 v12 v35 v36 v37 : Value), l = #[b0, b1, b2, b3, b4, b5, b6, b7, b8] ∧ a' = { tmps := List.toArray (p0 :: p1 :: p2 :: p3 :: p4 :: p5 :: p6 :: p7 :: p8 :: p9 :: v10 :: v11 :: v12 :: p13 :: p14 :: p15 :: p16 :: p17 :: p18 :: p19 :: p20 :: p21 :: p22 :: p23 :: p24 :: p25 :: p26 :: p27 :: p28 :: p29 :: p30 :: p31 :: p32 :: p33 :: p34 :: v35 :: v36 :: v37 :: p38 :: p39 :: p40 :: p41 :: p42 :: p43 :: p44 :: p45 :: p46 :: p47 :: p48 :: p49 :: p50 :: p51 :: p52 :: p53 :: p54 :: p55 :: p56 :: p57 :: p58 :: p59 :: p60 :: p61 :: p62 :: p63 :: p64 :: p65 :: p66 :: p67 :: p68 :: p69 :: p70 :: p71 :: p72 :: p73 :: p74 :: p75 :: p76 :: p77 :: p78 :: p79 :: p80 :: p81 :: p82 :: p83 :: p84 :: p85 :: p86 :: p87 :: p88 :: p89 :: p90 :: p91 :: p92 :: p93 :: p94 :: p95 :: p96 :: p97 :: p98 :: p99 :: p100 :: p101 :: []), defers := [] } ∧ N6St w0 ma mi pa s0 b0 b1 b2 b3 b4 b5 b6 b7 b8 v10 v11 v12 v35 v36 v37 w'
def N6In (w0 : World) (ma mi pa : Int) (s0 : ByteArray) (v10 v11 v12 : Value) (w' : World) : Prop :=
  ∃ g0 g1 g2, v10 = .pointer (some ⟨g0, 0, none⟩) ∧ v11 = .pointer (some ⟨g1, 0, none⟩) ∧ v12 = .pointer (some ⟨g2, 0, none⟩) ∧ At4 w' g0 ma mi pa s0 ∧ At4 w' g1 ma mi pa s0 ∧ At4 w' g2 ma mi pa s0 ∧ g0 ≠ g1 ∧ g0 ≠ g2 ∧ g1 ≠ g2 ∧ w0.heap.size ≤ g0 ∧ w0.heap.size ≤ g1 ∧ w0.heap.size ≤ g2 ∧ Below w0.heap.size w0 w'
theorem N6St.fin {w0 w' : World} {ma mi pa : Int} {s0 : ByteArray} {v10 v11 v12 v35 v36 v37 : Value} (h : N6St w0 ma mi pa s0 true true true true true true true true true v10 v11 v12 v35 v36 v37 w') : N6In w0 ma mi pa s0 v10 v11 v12 w' := by
  obtain ⟨g0, e0, l0, _, _, h0⟩ := h.h3 rfl
  obtain ⟨g1, e1, l1, _, _, h1⟩ := h.h4 rfl
  obtain ⟨g2, e2, l2, _, _, h2⟩ := h.h5 rfl
  exact ⟨g0, g1, g2, e0, e1, e2, h0 rfl, h1 rfl, h2 rfl, fun e => h.ne01 rfl rfl (by rw [e0, e1, e]), fun e => h.ne02 rfl rfl (by rw [e0, e2, e]), fun e => h.ne12 rfl rfl (by rw [e1, e2, e]), l0, l1, l2, h.bel⟩
set_option maxHeartbeats 8000000 in
theorem law_numbers (ma mi pa : Int) (s0 : ByteArray) (a b : Int) (s3 : ByteArray) (w : World) (hm : LenAt w) (h1 : 1 < w.heap.size) :
    Calls Tryd.prog 10 #[verV ma mi pa s0, .int .i64 a, .int .i64 b, .string s3] w fun e w' => e = .returned (.bool true) ∧ Below w.heap.size w w' := by
  obtain ⟨W0, hW0⟩ : ∃ W0, w.alloc (verC ma mi pa s0) = W0 := ⟨_, rfl⟩
  have hb0 : Below w.heap.size w W0 := by rw [← hW0]; exact (Below.refl _ w).alloc (Nat.le_refl _) _
  have HBX0 : Hid (BoxesAt [(w.heap.size, verC ma mi pa s0)] W0) := Lib.hid (by rw [← hW0]; exact (BoxesAt.nil w).push _)
  have HM0 := Lib.hid (hm.below h1 hb0)
  have HMX := Lib.hid hm
  have HMX2 := Lib.hid h1
  have HAN := Lib.hid (anchor_any W0 HM0.out.1 HM0.out.2)
  have HW0 := Lib.hid hW0
  have HB0 := Lib.hid hb0
  clear hW0 hb0 hm
  go_enter Tryd.func10, Tryd.ntmps10
  go_wp2_with fail
  try rw [show w.alloc (.cells #[.int .i64 ma, .int .i64 mi, .int .i64 pa, .string s0] 25) = W0 from HW0.out]
  refine HAN.out.mono ?_
  rintro e W1 ⟨rfl, hb⟩
  have HBX1 := Lib.hid (HBX0.out.below hb)
  have HB1 : Hid (Below w.heap.size w W1) := Lib.hid (HB0.out.trans (hb.mono HB0.out.size))
  have HM1 := Lib.hid (HM0.out.1.below HM0.out.2 hb)
  have HL1 : Hid (w.heap.size < W1.heap.size) := Lib.hid (HBX1.out _ (by simp : (w.heap.size, verC ma mi pa s0) ∈ _)).1
  clear hb HAN
  cases d0 : decide (a < 0) with
  | true =>
    go_wp2
    refine bodyPost_ret (results_tmp rfl _ _ _) rfl ⟨rfl, HB1.out⟩
  | false =>
    have H0 : Hid (0 ≤ a) := Lib.hid (by have := of_decide_eq_false d0; omega)
    cases d1 : decide (b < 0) with
    | true =>
      go_wp2
      refine bodyPost_ret (results_tmp rfl _ _ _) rfl ⟨rfl, HB1.out⟩
    | false =>
      have H1 : Hid (0 ≤ b) := Lib.hid (by have := of_decide_eq_false d1; omega)
      cases d2 : decide (999999 < a) with
      | true =>
        go_wp2
        refine bodyPost_ret (results_tmp rfl _ _ _) rfl ⟨rfl, HB1.out⟩
      | false =>
        have H2 : Hid (a ≤ 999999) := Lib.hid (by have := of_decide_eq_false d2; omega)
        cases d3 : decide (999999 < b) with
        | true =>
          go_wp2
          refine bodyPost_ret (results_tmp rfl _ _ _) rfl ⟨rfl, HB1.out⟩
        | false =>
          have H3 : Hid (b ≤ 999999) := Lib.hid (by have := of_decide_eq_false d3; omega)
          go_wp2_with fail
          refine (short_any s3 W1).mono ?_
          rintro e w' ⟨rfl, hw⟩
          subst w'
          cases hsh : decide (s3.size ≤ 300) with
          | false =>
            go_wp2
            refine bodyPost_ret (results_tmp rfl _ _ _) rfl ⟨rfl, HB1.out⟩
          | true =>
            have HS3 : Hid (s3.size ≤ 300) := Lib.hid (of_decide_eq_true hsh)
            clear hsh
            obtain ⟨na, hna⟩ : ∃ na : Nat, a = (na : Int) := ⟨a.toNat, by have := H0.out; omega⟩
            obtain ⟨nb, hnb⟩ : ∃ nb : Nat, b = (nb : Int) := ⟨b.toNat, by have := H1.out; omega⟩
            subst hna hnb
            have HNA : Hid (na ≤ 999999) := Lib.hid (by have := H2.out; omega)
            have HNB : Hid (nb ≤ 999999) := Lib.hid (by have := H3.out; omega)
            clear d0 d1 d2 d3 H0 H1 H2 H3
            go_wp2_with fail
            go_cut [10, 11, 12] (N6In W1 ma mi pa s0)
            case first =>
              refine wp_region_inv (by kernel_rfl) (I := N6J W1 ma mi pa s0 _ _ _ _ _ _ _ _ _ _ _ _ _ _ _ _ _ _ _ _ _ _ _ _ _ _ _ _ _ _ _ _ _ _ _ _ _ _ _ _ _ _ _ _ _ _ _ _ _ _ _ _ _ _ _ _ _ _ _ _ _ _ _ _ _ _ _ _ _ _ _ _ _ _ _ _ _ _ _ _ _ _ _ _ _ _ _ _ _ _ _ _ _ _ _ _) ⟨false, false, false, false, false, false, false, false, false, _, _, _, _, _, _, rfl, rfl, ⟨(Below.refl _ W1).drew, nofun, nofun, nofun, nofun, nofun, nofun, nofun, nofun, nofun, nofun, nofun, nofun⟩⟩ ?step ?fin
              case step =>
                rintro l a' w' i ⟨b0, b1, b2, b3, b4, b5, b6, b7, b8, v10, v11, v12, v35, v36, v37, rfl, rfl, HT⟩ hi
                obtain ⟨hi_, hib⟩ := ready_lt hi
                have HTH := Lib.hid HT
                match i, hi_, hi, hib with
                | 0, _, hi, hib =>
                  obtain ⟨x0, x1, x2, x3⟩ := cells4 ((HT.bel.block _ HL1.out).trans (HBX1.out.get (w.heap.size) (verC ma mi pa s0) (by simp)))
                  clear HT
                  refine wpOp_one rfl rfl (fun K hK => ?_)
                  go_simp
                  exact hK.out _ _ ⟨true, b1, b2, b3, b4, b5, b6, b7, b8, _, _, _, _, _, _, rfl, rfl, { HTH.out with h0 := fun _ => rfl }⟩
                | 1, _, hi, hib =>
                  obtain ⟨x0, x1, x2, x3⟩ := cells4 ((HT.bel.block _ HL1.out).trans (HBX1.out.get (w.heap.size) (verC ma mi pa s0) (by simp)))
                  clear HT
                  refine wpOp_one rfl rfl (fun K hK => ?_)
                  go_simp
                  exact hK.out _ _ ⟨b0, true, b2, b3, b4, b5, b6, b7, b8, _, _, _, _, _, _, rfl, rfl, { HTH.out with h1 := fun _ => rfl }⟩
                | 2, _, hi, hib =>
                  obtain ⟨x0, x1, x2, x3⟩ := cells4 ((HT.bel.block _ HL1.out).trans (HBX1.out.get (w.heap.size) (verC ma mi pa s0) (by simp)))
                  clear HT
                  refine wpOp_one rfl rfl (fun K hK => ?_)
                  go_simp
                  exact hK.out _ _ ⟨b0, b1, true, b3, b4, b5, b6, b7, b8, _, _, _, _, _, _, rfl, rfl, { HTH.out with h2 := fun _ => rfl }⟩
                | 3, _, hi, hib =>
                  obtain rfl : b3 = false := hib
                  have hb : b6 = false := by cases h : b6 with | false => rfl | true => (have := HT.d6 h; cases this)
                  subst hb
                  have HN : Hid (N6St W1 ma mi pa s0 b0 b1 b2 true b4 b5 false b7 b8 (.pointer (some ⟨w'.heap.size, 0, none⟩)) v11 v12 v35 v36 v37 (w'.alloc (.cells #[.int .i64 0, .int .i64 0, .int .i64 0, .string ⟨#[]⟩] 25))) := Lib.hid (by
                    have hsz : (w'.alloc (.cells #[.int .i64 0, .int .i64 0, .int .i64 0, .string ⟨#[]⟩] 25)).heap.size = w'.heap.size + 1 := by simp
                    refine { HT with bel := HT.bel.alloc HT.bel.size _, h3 := fun _ => ⟨_, rfl, HT.bel.size, by rw [hsz]; omega, fun _ => At4.of_heap (World.alloc_heap_new _ _), nofun⟩, h4 := fun h => ?h1, h5 := fun h => ?h2, ne01 := ?n01, ne02 := ?n02, d6 := nofun }
                    case h1 =>
                      obtain ⟨g, e, hg1, hg2, ha, hb⟩ := HT.h4 h
                      exact ⟨g, e, hg1, by rw [hsz]; omega, fun h => (ha h).block (Below.heap_alloc _ _ _ hg2), fun h => (hb h).block (Below.heap_alloc _ _ _ hg2)⟩
                    case h2 =>
                      obtain ⟨g, e, hg1, hg2, ha, hb⟩ := HT.h5 h
                      exact ⟨g, e, hg1, by rw [hsz]; omega, fun h => (ha h).block (Below.heap_alloc _ _ _ hg2), fun h => (hb h).block (Below.heap_alloc _ _ _ hg2)⟩
                    case n01 =>
                      intro hp hq e
                      obtain ⟨g, e2, _, hg2, _, _⟩ := HT.h4 hq
                      rw [e2] at e
                      simp at e
                    case n02 =>
                      intro hp hq e
                      obtain ⟨g, e2, _, hg2, _, _⟩ := HT.h5 hq
                      rw [e2] at e
                      simp at e)
                  clear HT
                  refine wpOp_one rfl rfl (fun K hK => ?_)
                  go_simp
                  exact hK.out _ _ ⟨b0, b1, b2, true, b4, b5, false, b7, b8, _, _, _, _, _, _, rfl, rfl, HN.out⟩
                | 4, _, hi, hib =>
                  obtain rfl : b4 = false := hib
                  have hb : b7 = false := by cases h : b7 with | false => rfl | true => (have := HT.d7 h; cases this)
                  subst hb
                  have HN : Hid (N6St W1 ma mi pa s0 b0 b1 b2 b3 true b5 b6 false b8 v10 (.pointer (some ⟨w'.heap.size, 0, none⟩)) v12 v35 v36 v37 (w'.alloc (.cells #[.int .i64 0, .int .i64 0, .int .i64 0, .string ⟨#[]⟩] 25))) := Lib.hid (by
                    have hsz : (w'.alloc (.cells #[.int .i64 0, .int .i64 0, .int .i64 0, .string ⟨#[]⟩] 25)).heap.size = w'.heap.size + 1 := by simp
                    refine { HT with bel := HT.bel.alloc HT.bel.size _, h4 := fun _ => ⟨_, rfl, HT.bel.size, by rw [hsz]; omega, fun _ => At4.of_heap (World.alloc_heap_new _ _), nofun⟩, h3 := fun h => ?h0, h5 := fun h => ?h2, ne01 := ?n01, ne12 := ?n12, d7 := nofun }
                    case h0 =>
                      obtain ⟨g, e, hg1, hg2, ha, hb⟩ := HT.h3 h
                      exact ⟨g, e, hg1, by rw [hsz]; omega, fun h => (ha h).block (Below.heap_alloc _ _ _ hg2), fun h => (hb h).block (Below.heap_alloc _ _ _ hg2)⟩
                    case h2 =>
                      obtain ⟨g, e, hg1, hg2, ha, hb⟩ := HT.h5 h
                      exact ⟨g, e, hg1, by rw [hsz]; omega, fun h => (ha h).block (Below.heap_alloc _ _ _ hg2), fun h => (hb h).block (Below.heap_alloc _ _ _ hg2)⟩
                    case n01 =>
                      intro hp hq e
                      obtain ⟨g, e2, _, hg2, _, _⟩ := HT.h3 hp
                      rw [e2] at e
                      simp at e
                    case n12 =>
                      intro hp hq e
                      obtain ⟨g, e2, _, hg2, _, _⟩ := HT.h5 hq
                      rw [e2] at e
                      simp at e)
                  clear HT
                  refine wpOp_one rfl rfl (fun K hK => ?_)
                  go_simp
                  exact hK.out _ _ ⟨b0, b1, b2, b3, true, b5, b6, false, b8, _, _, _, _, _, _, rfl, rfl, HN.out⟩
                | 5, _, hi, hib =>
                  obtain rfl : b5 = false := hib
                  have hb : b8 = false := by cases h : b8 with | false => rfl | true => (have := HT.d8 h; cases this)
                  subst hb
                  have HN : Hid (N6St W1 ma mi pa s0 b0 b1 b2 b3 b4 true b6 b7 false v10 v11 (.pointer (some ⟨w'.heap.size, 0, none⟩)) v35 v36 v37 (w'.alloc (.cells #[.int .i64 0, .int .i64 0, .int .i64 0, .string ⟨#[]⟩] 25))) := Lib.hid (by
                    have hsz : (w'.alloc (.cells #[.int .i64 0, .int .i64 0, .int .i64 0, .string ⟨#[]⟩] 25)).heap.size = w'.heap.size + 1 := by simp
                    refine { HT with bel := HT.bel.alloc HT.bel.size _, h5 := fun _ => ⟨_, rfl, HT.bel.size, by rw [hsz]; omega, fun _ => At4.of_heap (World.alloc_heap_new _ _), nofun⟩, h3 := fun h => ?h0, h4 := fun h => ?h1, ne02 := ?n02, ne12 := ?n12, d8 := nofun }
                    case h0 =>
                      obtain ⟨g, e, hg1, hg2, ha, hb⟩ := HT.h3 h
                      exact ⟨g, e, hg1, by rw [hsz]; omega, fun h => (ha h).block (Below.heap_alloc _ _ _ hg2), fun h => (hb h).block (Below.heap_alloc _ _ _ hg2)⟩
                    case h1 =>
                      obtain ⟨g, e, hg1, hg2, ha, hb⟩ := HT.h4 h
                      exact ⟨g, e, hg1, by rw [hsz]; omega, fun h => (ha h).block (Below.heap_alloc _ _ _ hg2), fun h => (hb h).block (Below.heap_alloc _ _ _ hg2)⟩
                    case n02 =>
                      intro hp hq e
                      obtain ⟨g, e2, _, hg2, _, _⟩ := HT.h3 hp
                      rw [e2] at e
                      simp at e
                    case n12 =>
                      intro hp hq e
                      obtain ⟨g, e2, _, hg2, _, _⟩ := HT.h4 hp
                      rw [e2] at e
                      simp at e)
                  clear HT
                  refine wpOp_one rfl rfl (fun K hK => ?_)
                  go_simp
                  exact hK.out _ _ ⟨b0, b1, b2, b3, b4, true, b6, b7, false, _, _, _, _, _, _, rfl, rfl, HN.out⟩
                | 6, _, hi, hib =>
                  obtain rfl : b6 = false := hib
                  have dA : b3 = true := ready_dep hi rfl 3 (by kernel_rfl)
                  have dL : b0 = true := ready_dep hi rfl 0 (by kernel_rfl)
                  obtain rfl := HT.h0 dL
                  obtain ⟨g, rfl, hg1, hg2, hz, _⟩ := HT.h3 dA
                  have HZ := hz rfl
                  obtain ⟨x0, x1, x2, x3, f0, f1, f2, f3⟩ := HZ
                  have HN : Hid (N6St W1 ma mi pa s0 b0 b1 b2 b3 b4 b5 true b7 b8 (.pointer (some ⟨g, 0, none⟩)) v11 v12 (verV ma mi pa s0) v36 v37 (set4 w' g ma mi pa s0)) := Lib.hid (by
                    refine { HT with bel := set4_below HT.bel hg1 _ _ _ _, h3 := fun _ => ⟨g, rfl, hg1, by rw [set4_size]; exact hg2, nofun, fun _ => (hz rfl).set⟩, h4 := fun h => ?h1, h5 := fun h => ?h2, d6 := fun _ => dA }
                    case h1 =>
                      obtain ⟨g2, e, hg3, hg4, ha, hb⟩ := HT.h4 h
                      have hne : g2 ≠ g := fun e2 => HT.ne01 dA h (by rw [e, e2])
                      exact ⟨g2, e, hg3, by rw [set4_size]; exact hg4, fun h => (ha h).block (set4_block _ _ _ _ _ _ _ hne), fun h => (hb h).block (set4_block _ _ _ _ _ _ _ hne)⟩
                    case h2 =>
                      obtain ⟨g2, e, hg3, hg4, ha, hb⟩ := HT.h5 h
                      have hne : g2 ≠ g := fun e2 => HT.ne02 dA h (by rw [e, e2])
                      exact ⟨g2, e, hg3, by rw [set4_size]; exact hg4, fun h => (ha h).block (set4_block _ _ _ _ _ _ _ hne), fun h => (hb h).block (set4_block _ _ _ _ _ _ _ hne)⟩)
                  clear HT hz
                  refine wpOp_one rfl rfl (fun K hK => ?_)
                  go_simp
                  exact hK.out _ _ ⟨b0, b1, b2, b3, b4, b5, true, b7, b8, _, _, _, _, _, _, rfl, rfl, HN.out⟩
                | 7, _, hi, hib =>
                  obtain rfl : b7 = false := hib
                  have dA : b4 = true := ready_dep hi rfl 4 (by kernel_rfl)
                  have dL : b1 = true := ready_dep hi rfl 1 (by kernel_rfl)
                  obtain rfl := HT.h1 dL
                  obtain ⟨g, rfl, hg1, hg2, hz, _⟩ := HT.h4 dA
                  have HZ := hz rfl
                  obtain ⟨x0, x1, x2, x3, f0, f1, f2, f3⟩ := HZ
                  have HN : Hid (N6St W1 ma mi pa s0 b0 b1 b2 b3 b4 b5 b6 true b8 v10 (.pointer (some ⟨g, 0, none⟩)) v12 v35 (verV ma mi pa s0) v37 (set4 w' g ma mi pa s0)) := Lib.hid (by
                    refine { HT with bel := set4_below HT.bel hg1 _ _ _ _, h4 := fun _ => ⟨g, rfl, hg1, by rw [set4_size]; exact hg2, nofun, fun _ => (hz rfl).set⟩, h3 := fun h => ?h0, h5 := fun h => ?h2, d7 := fun _ => dA }
                    case h0 =>
                      obtain ⟨g2, e, hg3, hg4, ha, hb⟩ := HT.h3 h
                      have hne : g2 ≠ g := fun e2 => HT.ne01 h dA (by rw [e, e2])
                      exact ⟨g2, e, hg3, by rw [set4_size]; exact hg4, fun h => (ha h).block (set4_block _ _ _ _ _ _ _ hne), fun h => (hb h).block (set4_block _ _ _ _ _ _ _ hne)⟩
                    case h2 =>
                      obtain ⟨g2, e, hg3, hg4, ha, hb⟩ := HT.h5 h
                      have hne : g2 ≠ g := fun e2 => HT.ne12 dA h (by rw [e, e2])
                      exact ⟨g2, e, hg3, by rw [set4_size]; exact hg4, fun h => (ha h).block (set4_block _ _ _ _ _ _ _ hne), fun h => (hb h).block (set4_block _ _ _ _ _ _ _ hne)⟩)
                  clear HT hz
                  refine wpOp_one rfl rfl (fun K hK => ?_)
                  go_simp
                  exact hK.out _ _ ⟨b0, b1, b2, b3, b4, b5, b6, true, b8, _, _, _, _, _, _, rfl, rfl, HN.out⟩
                | 8, _, hi, hib =>
                  obtain rfl : b8 = false := hib
                  have dA : b5 = true := ready_dep hi rfl 5 (by kernel_rfl)
                  have dL : b2 = true := ready_dep hi rfl 2 (by kernel_rfl)
                  obtain rfl := HT.h2 dL
                  obtain ⟨g, rfl, hg1, hg2, hz, _⟩ := HT.h5 dA
                  have HZ := hz rfl
                  obtain ⟨x0, x1, x2, x3, f0, f1, f2, f3⟩ := HZ
                  have HN : Hid (N6St W1 ma mi pa s0 b0 b1 b2 b3 b4 b5 b6 b7 true v10 v11 (.pointer (some ⟨g, 0, none⟩)) v35 v36 (verV ma mi pa s0) (set4 w' g ma mi pa s0)) := Lib.hid (by
                    refine { HT with bel := set4_below HT.bel hg1 _ _ _ _, h5 := fun _ => ⟨g, rfl, hg1, by rw [set4_size]; exact hg2, nofun, fun _ => (hz rfl).set⟩, h3 := fun h => ?h0, h4 := fun h => ?h1, d8 := fun _ => dA }
                    case h0 =>
                      obtain ⟨g2, e, hg3, hg4, ha, hb⟩ := HT.h3 h
                      have hne : g2 ≠ g := fun e2 => HT.ne02 h dA (by rw [e, e2])
                      exact ⟨g2, e, hg3, by rw [set4_size]; exact hg4, fun h => (ha h).block (set4_block _ _ _ _ _ _ _ hne), fun h => (hb h).block (set4_block _ _ _ _ _ _ _ hne)⟩
                    case h1 =>
                      obtain ⟨g2, e, hg3, hg4, ha, hb⟩ := HT.h4 h
                      have hne : g2 ≠ g := fun e2 => HT.ne12 h dA (by rw [e, e2])
                      exact ⟨g2, e, hg3, by rw [set4_size]; exact hg4, fun h => (ha h).block (set4_block _ _ _ _ _ _ _ hne), fun h => (hb h).block (set4_block _ _ _ _ _ _ _ hne)⟩)
                  clear HT hz
                  refine wpOp_one rfl rfl (fun K hK => ?_)
                  go_simp
                  exact hK.out _ _ ⟨b0, b1, b2, b3, b4, b5, b6, b7, true, _, _, _, _, _, _, rfl, rfl, HN.out⟩
              case fin =>
                rintro l a' w' ⟨b0, b1, b2, b3, b4, b5, b6, b7, b8, v10, v11, v12, v35, v36, v37, rfl, rfl, HT⟩ hr
                obtain rfl : b0 = true := by
                  cases b0 with
                  | true => rfl
                  | false => exact (ready_in 0 rfl rfl (by simp [Region.binds]) hr).elim
                obtain rfl : b1 = true := by
                  cases b1 with
                  | true => rfl
                  | false => exact (ready_in 1 rfl rfl (by simp [Region.binds]) hr).elim
                obtain rfl : b2 = true := by
                  cases b2 with
                  | true => rfl
                  | false => exact (ready_in 2 rfl rfl (by simp [Region.binds]) hr).elim
                obtain rfl : b3 = true := by
                  cases b3 with
                  | true => rfl
                  | false => exact (ready_in 3 rfl rfl (by simp [Region.binds]) hr).elim
                obtain rfl : b4 = true := by
                  cases b4 with
                  | true => rfl
                  | false => exact (ready_in 4 rfl rfl (by simp [Region.binds]) hr).elim
                obtain rfl : b5 = true := by
                  cases b5 with
                  | true => rfl
                  | false => exact (ready_in 5 rfl rfl (by simp [Region.binds]) hr).elim
                obtain rfl : b6 = true := by
                  cases b6 with
                  | true => rfl
                  | false => exact (ready_in 6 rfl rfl (by simp [Region.binds]) hr).elim
                obtain rfl : b7 = true := by
                  cases b7 with
                  | true => rfl
                  | false => exact (ready_in 7 rfl rfl (by simp [Region.binds]) hr).elim
                obtain rfl : b8 = true := by
                  cases b8 with
                  | true => rfl
                  | false => exact (ready_in 8 rfl rfl (by simp [Region.binds]) hr).elim
                have HF := HT.fin
                obtain rfl := HT.h0 rfl
                obtain rfl := HT.h1 rfl
                obtain rfl := HT.h2 rfl
                clear HT hr
                show _
                go_wp2_with fail
                go_meet
                exact HF
            case rest =>
              obtain ⟨g0, g1, g2, rfl, rfl, rfl, hA0, hA1, hA2, n01, n02, n12, l0, l1, l2, hbc⟩ := hcut
              have HBc : Hid (Below w.heap.size w wc) := Lib.hid (HB1.out.trans (hbc.mono HB1.out.size))
              have HMc := Lib.hid (HM1.out.1.below HM1.out.2 hbc)
              have HBXc : Hid (BoxesAt [(w.heap.size, verC ma mi pa s0)] wc) := Lib.hid (HBX1.out.below hbc)
              have HA0 := Lib.hid hA0
              have HA1 := Lib.hid hA1
              have HA2 := Lib.hid hA2
              have HL : Hid ((w.heap.size < g0 ∧ w.heap.size < g1 ∧ w.heap.size < g2) ∧ g0 ≠ g1 ∧ g0 ≠ g2 ∧ g1 ≠ g2) := Lib.hid ⟨⟨by have := HL1.out; omega, by have := HL1.out; omega, by have := HL1.out; omega⟩, n01, n02, n12⟩
              have HLW : Hid (w.heap.size ≤ W1.heap.size) := Lib.hid HB1.out.size
              clear hA0 hA1 hA2 n01 n02 n12 l0 l1 l2 hbc
              have HD := Lib.hid (digits_any na wc HNA.out)
              go_wp2_with fail
              refine HD.out.mono ?_
              rintro e W4 ⟨sa, rfl, hsa, hb⟩
              have HSA := Lib.hid hsa
              have HB4 : Hid (Below w.heap.size w W4) := Lib.hid (HBc.out.trans (hb.mono HBc.out.size))
              have HM4 := Lib.hid (HMc.out.1.below HMc.out.2 hb)
              have HBX4 := Lib.hid (HBXc.out.below hb)
              have HP0 := Lib.hid (HA0.out.block (hb.block _ HA0.out.lt))
              have HP1 := Lib.hid (HA1.out.block (hb.block _ HA1.out.lt))
              have HP2 := Lib.hid (HA2.out.block (hb.block _ HA2.out.lt))
              clear hsa hb HD HA0 HA1 HA2
              have HD := Lib.hid (digits_any nb W4 HNB.out)
              go_wp2_with fail
              refine HD.out.mono ?_
              rintro e W5 ⟨sb, rfl, hsb, hb⟩
              have HSB := Lib.hid hsb
              have HB5 : Hid (Below w.heap.size w W5) := Lib.hid (HB4.out.trans (hb.mono HB4.out.size))
              have HM5 := Lib.hid (HM4.out.1.below HM4.out.2 hb)
              have HBX5 := Lib.hid (HBX4.out.below hb)
              have HQ0 := Lib.hid (HP0.out.block (hb.block _ HP0.out.lt))
              have HQ1 := Lib.hid (HP1.out.block (hb.block _ HP1.out.lt))
              have HQ2 := Lib.hid (HP2.out.block (hb.block _ HP2.out.lt))
              clear hsb hb HD HP0 HP1 HP2
              have hcat := fun (w : World) => run_string_add_sum (P := Tryd.prog) (w := w) ⟨#[97]⟩ s3 (by have := HS3.out; have : (⟨#[97]⟩ : ByteArray).size = 1 := rfl; omega)
              have HW : Hid (∃ W6, ((W5.setCell ⟨g0, 3, none⟩ (.string sa)).setCell ⟨g1, 3, none⟩ (.string sb)).setCell ⟨g2, 3, none⟩ (.string (⟨#[97]⟩ ++ s3)) = W6) := Lib.hid ⟨_, rfl⟩
              obtain ⟨W6, hW6⟩ := HW.out
              have HB6 : Hid (Below w.heap.size w W6) := Lib.hid (by
                have h := HL.out.1
                rw [← hW6]
                exact ((HB5.out.setCell (p := ⟨g0, 3, none⟩) (by show w.heap.size ≤ g0; omega) _).setCell (p := ⟨g1, 3, none⟩) (by show w.heap.size ≤ g1; omega) _).setCell (p := ⟨g2, 3, none⟩) (by show w.heap.size ≤ g2; omega) _)
              have HR0 : Hid (At4 W6 g0 ma mi pa sa) := Lib.hid (by rw [← hW6]; exact (HQ0.out.set3.other3 HL.out.2.1 _).other3 HL.out.2.2.1 _)
              have HR1 : Hid (At4 W6 g1 ma mi pa sb) := Lib.hid (by rw [← hW6]; exact ((HQ1.out.other3 HL.out.2.1.symm _).set3).other3 HL.out.2.2.2 _)
              have HR2 : Hid (At4 W6 g2 ma mi pa (⟨#[97]⟩ ++ s3)) := Lib.hid (by rw [← hW6]; exact ((HQ2.out.other3 HL.out.2.2.1.symm _).other3 HL.out.2.2.2.symm _).set3)
              have HX6 : Hid (W6.heap[w.heap.size]? = some (verC ma mi pa s0)) := Lib.hid (by
                have h := HL.out.1
                rw [← hW6, Below.heap_setCell _ _ _ _ (by show w.heap.size ≠ g2; omega), Below.heap_setCell _ _ _ _ (by show w.heap.size ≠ g1; omega), Below.heap_setCell _ _ _ _ (by show w.heap.size ≠ g0; omega)]
                exact HBX5.out.get (w.heap.size) (verC ma mi pa s0) (by simp))
              have HM6 : Hid (LenAt W6 ∧ 1 < W6.heap.size) := Lib.hid (by
                have hs : W6.heap.size = W5.heap.size := by rw [← hW6]; simp
                refine ⟨?_, by rw [hs]; exact HM5.out.2⟩
                obtain ⟨m, hmm⟩ := HMX.out
                exact ⟨m, (HB6.out.cell (show 1 < _ from HMX2.out)).trans hmm⟩)
              have HW6 := Lib.hid hW6
              obtain ⟨p0, p1, p2, p3, f0, f1, f2, f3⟩ := HQ0.out
              obtain ⟨q0, q1, q2, q3, e0, e1, e2, e3⟩ := HQ1.out
              obtain ⟨r0, r1, r2, r3, k0, k1, k2, k3⟩ := HQ2.out
              have hn01 : g0 ≠ g1 := HL.out.2.1
              have hn02 : g0 ≠ g2 := HL.out.2.2.1
              have hn12 : g1 ≠ g2 := HL.out.2.2.2
              clear hW6
              go_wp2_with fail
              rw [HW6.out]
              clear p0 p1 p2 p3 f0 f1 f2 f3 q0 q1 q2 q3 e0 e1 e2 e3 r0 r1 r2 r3 k0 k1 k2 k3 hn01 hn02 hn12 hcat
              have HZA : Hid (sa.size ≤ 6) := Lib.hid (by rw [Lib.size_eq]; have := dec_len na HNA.out; rw [← HSA.out] at this; exact this)
              have HZB : Hid (sb.size ≤ 6) := Lib.hid (by rw [Lib.size_eq]; have := dec_len nb HNB.out; rw [← HSB.out] at this; exact this)
              have HZC : Hid ((⟨#[97]⟩ ++ s3 : ByteArray).size ≤ 301) := Lib.hid (by have := HS3.out; rw [ByteArray.size_append, show (⟨#[97]⟩ : ByteArray).size = 1 from rfl]; omega)
              have HC := Lib.hid (Right_any ma mi pa sa W6 (by have := HZA.out; omega) HM6.out.1 HM6.out.2)
              refine HC.out.mono ?_
              rintro e W7 ⟨rfl, hb⟩
              clear HC
              rw [show Ver.right ⟨ma, mi, pa, bs sa⟩ = (rightN ma && rightN mi && rightN pa) from by rw [HSA.out]; exact right_digits HNA.out]
              have HB7 : Hid (Below w.heap.size w W7) := Lib.hid (HB6.out.trans (hb.mono HB6.out.size))
              have HM7 := Lib.hid (HM6.out.1.below HM6.out.2 hb)
              have HS0 := Lib.hid (HR0.out.block (hb.block _ HR0.out.lt))
              have HS1 := Lib.hid (HR1.out.block (hb.block _ HR1.out.lt))
              have HS2 := Lib.hid (HR2.out.block (hb.block _ HR2.out.lt))
              have HX7 : Hid (W7.heap[w.heap.size]? = some (verC ma mi pa s0)) := Lib.hid ((hb.block _ (block_lt_of_cell (cells4 HX6.out).1)).trans HX6.out)
              clear hb
              cases hok : (rightN ma && rightN mi && rightN pa) with
              | false =>
                have HOK := Lib.hid hok
                clear hok
                obtain ⟨x0, x1, x2, x3⟩ := cells4 HX7.out
                cases dm1 : decide (ma < 0) with
                | true =>
                  go_wp2
                  refine bodyPost_ret (results_tmp rfl _ _ _) rfl ⟨rfl, HB7.out⟩
                | false =>
                  cases dm2 : decide (mi < 0) with
                  | true =>
                    go_wp2
                    refine bodyPost_ret (results_tmp rfl _ _ _) rfl ⟨rfl, HB7.out⟩
                  | false =>
                    cases dm3 : decide (pa < 0) with
                    | true =>
                      go_wp2
                      refine bodyPost_ret (results_tmp rfl _ _ _) rfl ⟨rfl, HB7.out⟩
                    | false =>
                      have HBIG : Hid (999999 < ma ∨ 999999 < mi ∨ 999999 < pa) := Lib.hid (by
                        have h := HOK.out
                        unfold rightN at h
                        simp at h dm1 dm2 dm3
                        omega)
                      obtain ⟨M, hM⟩ : ∃ M, (if pa > (if mi > ma then mi else ma) then pa else (if mi > ma then mi else ma)) = M := ⟨_, rfl⟩
                      have hmx : ∀ W : World, (Builtin.max_ #[3, 3, 3] 3 #[.int .i64 ma, .int .i64 mi, .int .i64 pa]).run Tryd.prog W = .ok (.int .i64 M) W := fun W => by rw [← hM]; exact run_max_int3 W _ _ _ _ _ _ _ _
                      have dM : decide (999999 < M) = true := decide_eq_true (by
                        have h := HBIG.out
                        rw [← hM]
                        split <;> split <;> omega)
                      clear hM
                      go_wp2
                      refine bodyPost_ret (results_tmp rfl _ _ _) rfl ⟨rfl, HB7.out⟩
              | true =>
                have HRN := Lib.hid hok
                clear hok
                obtain ⟨q0, q1, q2, q3, _, _, _, _⟩ := HS1.out
                have HC := Lib.hid (Right_any ma mi pa sb W7 (by have := HZB.out; omega) HM7.out.1 HM7.out.2)
                go_wp2_with fail
                refine HC.out.mono ?_
                rintro e W8 ⟨rfl, hb⟩
                clear HC q0 q1 q2 q3
                rw [show Ver.right ⟨ma, mi, pa, bs sb⟩ = (rightN ma && rightN mi && rightN pa) from by rw [HSB.out]; exact right_digits HNB.out, HRN.out]
                have HB8 : Hid (Below w.heap.size w W8) := Lib.hid (HB7.out.trans (hb.mono HB7.out.size))
                have HM8 := Lib.hid (HM7.out.1.below HM7.out.2 hb)
                have HT0 := Lib.hid (HS0.out.block (hb.block _ HS0.out.lt))
                have HT1 := Lib.hid (HS1.out.block (hb.block _ HS1.out.lt))
                have HT2 := Lib.hid (HS2.out.block (hb.block _ HS2.out.lt))
                clear hb
                have HCV : Hid (cmpV ⟨ma, mi, pa, bs sa⟩ ⟨ma, mi, pa, bs sb⟩ = Lib.compareInt na nb) := Lib.hid (by
                  unfold cmpV; simp only; rw [cmp_same, cmp_same, cmp_same, orI_zero, orI_zero, orI_zero, HSA.out, HSB.out]; exact cmpPre_digits HNA.out HNB.out)
                have HCW : Hid (cmpV ⟨ma, mi, pa, bs sa⟩ ⟨ma, mi, pa, bs (⟨#[97]⟩ ++ s3)⟩ = -1) := Lib.hid (cmpV_pre (by rw [HSA.out, bs_app]; exact cmpPre_word))
                obtain ⟨p0, p1, p2, p3, _, _, _, _⟩ := HT0.out
                obtain ⟨q0, q1, q2, q3, _, _, _, _⟩ := HT1.out
                have HC := Lib.hid (Compare_any ma mi pa sa ma mi pa sb W8 (by have := HZA.out; omega) (by have := HZB.out; omega) HM8.out.1 HM8.out.2)
                rcases Nat.lt_trichotomy na nb with hlt | heq | hgt
                · have d1 : decide ((na : Int) < (nb : Int)) = true := decide_eq_true (by omega)
                  have HCI : Hid (Lib.compareInt (na : Int) (nb : Int) = -1) := Lib.hid (cmp_lt (by omega))
                  go_wp2_with fail
                  refine HC.out.mono ?_
                  rintro e W9 ⟨rfl, hb⟩
                  clear HC p0 p1 p2 p3 q0 q1 q2 q3
                  rw [HCV.out, show Lib.compareInt (na : Int) (nb : Int) = -1 from HCI.out]
                  have HB9 : Hid (Below w.heap.size w W9) := Lib.hid (HB8.out.trans (hb.mono HB8.out.size))
                  have HM9 := Lib.hid (HM8.out.1.below HM8.out.2 hb)
                  have HU0 := Lib.hid (HT0.out.block (hb.block _ HT0.out.lt))
                  have HU2 := Lib.hid (HT2.out.block (hb.block _ HT2.out.lt))
                  clear hb
                  obtain ⟨r0, r1, r2, r3, _, _, _, _⟩ := HU2.out
                  have HC := Lib.hid (Right_any ma mi pa (⟨#[97]⟩ ++ s3) W9 (by have := HZC.out; omega) HM9.out.1 HM9.out.2)
                  go_wp2_with fail
                  refine HC.out.mono ?_
                  rintro e W10 ⟨rfl, hb⟩
                  clear HC r0 r1 r2 r3
                  have HB10 : Hid (Below w.heap.size w W10) := Lib.hid (HB9.out.trans (hb.mono HB9.out.size))
                  have HM10 := Lib.hid (HM9.out.1.below HM9.out.2 hb)
                  have HV0 := Lib.hid (HU0.out.block (hb.block _ HU0.out.lt))
                  have HV2 := Lib.hid (HU2.out.block (hb.block _ HU2.out.lt))
                  clear hb
                  cases hrz : Ver.right ⟨ma, mi, pa, bs (⟨#[97]⟩ ++ s3)⟩ with
                  | false =>
                    clear hrz
                    go_wp2
                    refine bodyPost_ret (results_tmp rfl _ _ _) rfl ⟨rfl, HB10.out⟩
                  | true =>
                    clear hrz
                    obtain ⟨p0, p1, p2, p3, _, _, _, _⟩ := HV0.out
                    obtain ⟨r0, r1, r2, r3, _, _, _, _⟩ := HV2.out
                    have HC := Lib.hid (Compare_any ma mi pa sa ma mi pa (⟨#[97]⟩ ++ s3) W10 (by have := HZA.out; omega) (by have := HZC.out; omega) HM10.out.1 HM10.out.2)
                    go_wp2_with fail
                    refine HC.out.mono ?_
                    rintro e W11 ⟨rfl, hb⟩
                    clear HC p0 p1 p2 p3 r0 r1 r2 r3
                    rw [HCW.out]
                    have HB11 : Hid (Below w.heap.size w W11) := Lib.hid (HB10.out.trans (hb.mono HB10.out.size))
                    clear hb
                    go_wp2
                    refine bodyPost_ret (results_tmp rfl _ _ _) rfl ⟨rfl, HB11.out⟩
                · subst heq
                  have d1 : decide ((na : Int) < (na : Int)) = false := decide_eq_false (by omega)
                  have HCI : Hid (Lib.compareInt (na : Int) (na : Int) = 0) := Lib.hid (cmp_same _)
                  go_wp2_with fail
                  refine HC.out.mono ?_
                  rintro e W9 ⟨rfl, hb⟩
                  clear HC p0 p1 p2 p3 q0 q1 q2 q3
                  rw [HCV.out, show Lib.compareInt (na : Int) (na : Int) = 0 from HCI.out]
                  have HB9 : Hid (Below w.heap.size w W9) := Lib.hid (HB8.out.trans (hb.mono HB8.out.size))
                  have HM9 := Lib.hid (HM8.out.1.below HM8.out.2 hb)
                  have HU0 := Lib.hid (HT0.out.block (hb.block _ HT0.out.lt))
                  have HU2 := Lib.hid (HT2.out.block (hb.block _ HT2.out.lt))
                  clear hb
                  obtain ⟨r0, r1, r2, r3, _, _, _, _⟩ := HU2.out
                  have HC := Lib.hid (Right_any ma mi pa (⟨#[97]⟩ ++ s3) W9 (by have := HZC.out; omega) HM9.out.1 HM9.out.2)
                  go_wp2_with fail
                  refine HC.out.mono ?_
                  rintro e W10 ⟨rfl, hb⟩
                  clear HC r0 r1 r2 r3
                  have HB10 : Hid (Below w.heap.size w W10) := Lib.hid (HB9.out.trans (hb.mono HB9.out.size))
                  have HM10 := Lib.hid (HM9.out.1.below HM9.out.2 hb)
                  have HV0 := Lib.hid (HU0.out.block (hb.block _ HU0.out.lt))
                  have HV2 := Lib.hid (HU2.out.block (hb.block _ HU2.out.lt))
                  clear hb
                  cases hrz : Ver.right ⟨ma, mi, pa, bs (⟨#[97]⟩ ++ s3)⟩ with
                  | false =>
                    clear hrz
                    go_wp2
                    refine bodyPost_ret (results_tmp rfl _ _ _) rfl ⟨rfl, HB10.out⟩
                  | true =>
                    clear hrz
                    obtain ⟨p0, p1, p2, p3, _, _, _, _⟩ := HV0.out
                    obtain ⟨r0, r1, r2, r3, _, _, _, _⟩ := HV2.out
                    have HC := Lib.hid (Compare_any ma mi pa sa ma mi pa (⟨#[97]⟩ ++ s3) W10 (by have := HZA.out; omega) (by have := HZC.out; omega) HM10.out.1 HM10.out.2)
                    go_wp2_with fail
                    refine HC.out.mono ?_
                    rintro e W11 ⟨rfl, hb⟩
                    clear HC p0 p1 p2 p3 r0 r1 r2 r3
                    rw [HCW.out]
                    have HB11 : Hid (Below w.heap.size w W11) := Lib.hid (HB10.out.trans (hb.mono HB10.out.size))
                    clear hb
                    go_wp2
                    refine bodyPost_ret (results_tmp rfl _ _ _) rfl ⟨rfl, HB11.out⟩
                · have d1 : decide ((na : Int) < (nb : Int)) = false := decide_eq_false (by omega)
                  have d2 : decide ((nb : Int) < (na : Int)) = true := decide_eq_true (by omega)
                  have HCI : Hid (Lib.compareInt (na : Int) (nb : Int) = 1) := Lib.hid (by unfold Lib.compareInt; rw [if_neg (by omega), if_pos (by omega)])
                  have hng : ¬ na < nb := by omega
                  go_wp2_with fail
                  refine HC.out.mono ?_
                  rintro e W9 ⟨rfl, hb⟩
                  clear HC p0 p1 p2 p3 q0 q1 q2 q3
                  rw [HCV.out, show Lib.compareInt (na : Int) (nb : Int) = 1 from HCI.out]
                  have HB9 : Hid (Below w.heap.size w W9) := Lib.hid (HB8.out.trans (hb.mono HB8.out.size))
                  have HM9 := Lib.hid (HM8.out.1.below HM8.out.2 hb)
                  have HU0 := Lib.hid (HT0.out.block (hb.block _ HT0.out.lt))
                  have HU2 := Lib.hid (HT2.out.block (hb.block _ HT2.out.lt))
                  clear hb
                  obtain ⟨r0, r1, r2, r3, _, _, _, _⟩ := HU2.out
                  have HC := Lib.hid (Right_any ma mi pa (⟨#[97]⟩ ++ s3) W9 (by have := HZC.out; omega) HM9.out.1 HM9.out.2)
                  go_wp2_with fail
                  refine HC.out.mono ?_
                  rintro e W10 ⟨rfl, hb⟩
                  clear HC r0 r1 r2 r3
                  have HB10 : Hid (Below w.heap.size w W10) := Lib.hid (HB9.out.trans (hb.mono HB9.out.size))
                  have HM10 := Lib.hid (HM9.out.1.below HM9.out.2 hb)
                  have HV0 := Lib.hid (HU0.out.block (hb.block _ HU0.out.lt))
                  have HV2 := Lib.hid (HU2.out.block (hb.block _ HU2.out.lt))
                  clear hb
                  cases hrz : Ver.right ⟨ma, mi, pa, bs (⟨#[97]⟩ ++ s3)⟩ with
                  | false =>
                    clear hrz
                    go_wp2
                    refine bodyPost_ret (results_tmp rfl _ _ _) rfl ⟨rfl, HB10.out⟩
                  | true =>
                    clear hrz
                    obtain ⟨p0, p1, p2, p3, _, _, _, _⟩ := HV0.out
                    obtain ⟨r0, r1, r2, r3, _, _, _, _⟩ := HV2.out
                    have HC := Lib.hid (Compare_any ma mi pa sa ma mi pa (⟨#[97]⟩ ++ s3) W10 (by have := HZA.out; omega) (by have := HZC.out; omega) HM10.out.1 HM10.out.2)
                    go_wp2_with fail
                    refine HC.out.mono ?_
                    rintro e W11 ⟨rfl, hb⟩
                    clear HC p0 p1 p2 p3 r0 r1 r2 r3
                    rw [HCW.out]
                    have HB11 : Hid (Below w.heap.size w W11) := Lib.hid (HB10.out.trans (hb.mono HB10.out.size))
                    clear hb
                    go_wp2
                    refine bodyPost_ret (results_tmp rfl _ _ _) rfl ⟨rfl, HB11.out⟩
end Go.Proofs.YtbmhjmdbolnbaaaDoor
