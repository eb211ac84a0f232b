/-
  THE LAW RangesPlain (printed by genlawrl.py).
-/
import Derived.Test.YtbmhjmdbolnbaaaDoorRLawH
import Derived.Test.YtbmhjmdbolnbaaaDoorRPlG
import Derived.Test.YtbmhjmdbolnbaaaDoorRAlk
namespace Go.Proofs.YtbmhjmdbolnbaaaDoor
open Go.RowKit
open SemP
set_option linter.unusedVariables false
set_option linter.unusedSimpArgs false
set_option maxRecDepth 100000
theorem plainA_cases {r : List (List CV)} {e : Ending} {w' : World} (h : PlainA r e w') : ∃ (A : Option Addr) (n c : Nat) (k : Int), e = .returned (.tuple #[.agg #[.slice A n c], .int .i64 k]) ∧ (rightR r = false → k = 12 ∧ n = 0) ∧ (rightR r = true → shortR r = false → k = 11 ∧ n = 0) ∧ (rightR r = true → shortR r = true → k = 0 ∧ n = r.length ∧ RdR w' w'.heap.size A r.length (plainRg r)) := by
  unfold PlainA at h
  cases h1 : rightR r with
  | false => rw [if_pos h1] at h; exact ⟨none, 0, 0, 12, h, fun _ => ⟨rfl, rfl⟩, nofun, nofun⟩
  | true =>
    rw [if_neg (by rw [h1]; decide)] at h
    cases h2 : shortR r with
    | false => rw [if_pos h2] at h; exact ⟨none, 0, 0, 11, h, nofun, fun _ _ => ⟨rfl, rfl⟩, fun _ => nofun⟩
    | true =>
      rw [if_neg (by rw [h2]; decide)] at h
      obtain ⟨A, c, he, hr⟩ := h
      exact ⟨A, r.length, c, 0, he, nofun, fun _ => nofun, fun _ _ => ⟨rfl, rfl, hr⟩⟩
theorem big_snoc {r : List (List CV)} {i K : Nat} {l : List CV} {big : Bool} (hi : i < r.length) (hl : lsAt r i = l) (hK : (plainLs l).length = K) (hb : big = !(r.take i).all (fun l => decide ((plainLs l).length ≤ 8))) : (big || decide (8 < (K : Int))) = !(r.take (i + 1)).all (fun l => decide ((plainLs l).length ≤ 8)) := by
  rw [take_snocR hi, List.all_append, hl, hb]
  simp only [List.all_cons, List.all_nil, Bool.and_true, hK]
  rw [Bool.not_and]
  congr 1
  by_cases h : K ≤ 8
  · rw [decide_eq_true h, decide_eq_false (by omega)]; rfl
  · rw [decide_eq_false h, decide_eq_true (by omega)]; rfl
theorem plainRg_plain {r : List (List CV)} (h : plainR r = true) (h8 : shortR r = true) : plainR (plainRg r) = true := by
  unfold plainR at h ⊢
  unfold shortR at h8
  unfold plainRg
  simp only [Bool.and_eq_true, decide_eq_true_eq, List.all_eq_true, List.length_map] at h h8 ⊢
  refine ⟨h.1, fun l hl => ?_⟩
  obtain ⟨l2, hl2, rfl⟩ := List.mem_map.1 hl
  have h2 := h.2 l2 hl2
  unfold plainL at h2 ⊢
  simp only [Bool.and_eq_true, decide_eq_true_eq, List.all_eq_true] at h2 ⊢
  refine ⟨by have := h8 l2 hl2; omega, fun y hy => ?_⟩
  unfold plainLs at hy
  obtain ⟨x, hx, hy⟩ := List.mem_flatMap.1 hy
  exact plainC_small (h2.2 x hx) y hy
structure LlSt (w0 : World) (vx vw vq vv vr : Value) (q : Bool) (b0 b1 b2 b3 b4 b5 b6 b7 b8 b9 b10 b11 b12 b13 b14 b15 b16 b17 b18 b19 : Bool) (v4 v116 v117 v118 v119 v120 v121 v122 v123 v124 v125 v126 v127 v128 v129 v130 v131 v132 v133 v134 : Value) (w' : World) : Prop where
  bel : Below w0.heap.size w0 w'
  h0 : b0 = true → v116 = .int .i64 0
  h1 : b1 = true → v117 = .bool true
  h2 : b2 = true → v118 = .bool true
  h3 : b3 = true → v119 = .bool true
  h4 : b4 = true → v120 = .bool true
  h5 : b5 = true → v121 = .bool true
  h6 : b6 = true → v122 = vx
  h7 : b7 = true → v123 = vw
  h8 : b8 = true → v124 = .bool true
  h9 : b9 = true → v125 = .bool true
  h10 : b10 = true → v126 = .bool true
  h11 : b11 = true → v127 = vq
  h12 : b12 = true → v128 = vv
  h13 : b13 = true → v129 = .bool q
  h14 : b14 = true → v130 = vr
  h15 : b15 = true → v131 = vv
  h16 : b16 = true → v132 = .bool q
  h17 : b17 = true → v133 = .bool true
  h18 : b18 = true → v134 = .bool true
  h19 : b19 = true → v4 = .bool true
inductive LlJ (w0 : World) (vx vw vq vv vr : Value) (q : Bool) (p0 p1 p2 p3 p5 p6 p7 p8 p9 p10 p11 p12 p13 p14 p15 p16 p17 p18 p19 p20 p21 p22 p23 p24 p25 p26 p27 p28 p29 p30 p31 p32 p33 p34 p35 p36 p37 p38 p39 p40 p41 p42 p43 p44 p45 p46 p47 p48 p49 p50 p51 p52 p53 p54 p55 p56 p57 p58 p59 p60 p61 p62 p63 p64 p65 p66 p67 p68 p69 p70 p71 p72 p73 p74 p75 p76 p77 p78 p79 p80 p81 p82 p83 p84 p85 p86 p87 p88 p89 p90 p91 p92 p93 p94 p95 p96 p97 p98 p99 p100 p101 p102 p103 p104 p105 p106 p107 p108 p109 p110 p111 p112 p113 p114 p115 : Value) : Array Bool → Act → World → Prop where
  | mk (b0 b1 b2 b3 b4 b5 b6 b7 b8 b9 b10 b11 b12 b13 b14 b15 b16 b17 b18 b19 : Bool) (v4 v116 v117 v118 v119 v120 v121 v122 v123 v124 v125 v126 v127 v128 v129 v130 v131 v132 v133 v134 : Value) (w' : World) : LlSt w0 vx vw vq vv vr q b0 b1 b2 b3 b4 b5 b6 b7 b8 b9 b10 b11 b12 b13 b14 b15 b16 b17 b18 b19 v4 v116 v117 v118 v119 v120 v121 v122 v123 v124 v125 v126 v127 v128 v129 v130 v131 v132 v133 v134 w' → LlJ w0 vx vw vq vv vr q p0 p1 p2 p3 p5 p6 p7 p8 p9 p10 p11 p12 p13 p14 p15 p16 p17 p18 p19 p20 p21 p22 p23 p24 p25 p26 p27 p28 p29 p30 p31 p32 p33 p34 p35 p36 p37 p38 p39 p40 p41 p42 p43 p44 p45 p46 p47 p48 p49 p50 p51 p52 p53 p54 p55 p56 p57 p58 p59 p60 p61 p62 p63 p64 p65 p66 p67 p68 p69 p70 p71 p72 p73 p74 p75 p76 p77 p78 p79 p80 p81 p82 p83 p84 p85 p86 p87 p88 p89 p90 p91 p92 p93 p94 p95 p96 p97 p98 p99 p100 p101 p102 p103 p104 p105 p106 p107 p108 p109 p110 p111 p112 p113 p114 p115 #[b0, b1, b2, b3, b4, b5, b6, b7, b8, b9, b10, b11, b12, b13, b14, b15, b16, b17, b18, b19] { tmps := List.toArray (p0 :: p1 :: p2 :: p3 :: v4 :: p5 :: p6 :: p7 :: p8 :: p9 :: p10 :: p11 :: p12 :: p13 :: p14 :: p15 :: p16 :: p17 :: p18 :: p19 :: p20 :: p21 :: p22 :: p23 :: p24 :: p25 :: p26 :: p27 :: p28 :: p29 :: p30 :: p31 :: p32 :: p33 :: p34 :: p35 :: p36 :: p37 :: p38 :: p39 :: p40 :: p41 :: p42 :: p43 :: p44 :: p45 :: p46 :: p47 :: p48 :: p49 :: p50 :: p51 :: p52 :: p53 :: p54 :: p55 :: p56 :: p57 :: p58 :: p59 :: p60 :: p61 :: p62 :: p63 :: p64 :: p65 :: p66 :: p67 :: p68 :: p69 :: p70 :: p71 :: p72 :: p73 :: p74 :: p75 :: p76 :: p77 :: p78 :: p79 :: p80 :: p81 :: p82 :: p83 :: p84 :: p85 :: p86 :: p87 :: p88 :: p89 :: p90 :: p91 :: p92 :: p93 :: p94 :: p95 :: p96 :: p97 :: p98 :: p99 :: p100 :: p101 :: p102 :: p103 :: p104 :: p105 :: p106 :: p107 :: p108 :: p109 :: p110 :: p111 :: p112 :: p113 :: p114 :: p115 :: v116 :: v117 :: v118 :: v119 :: v120 :: v121 :: v122 :: v123 :: v124 :: v125 :: v126 :: v127 :: v128 :: v129 :: v130 :: v131 :: v132 :: v133 :: v134 :: []), defers := [] } w'
set_option maxHeartbeats 32000000 in
theorem law_plain (A : Option Addr) (m cp : Nat) (r : List (List CV)) (a c d : Int) (s : ByteArray) (w : World) (hr : RdR w w.heap.size A m r) (hg : SignsAt w) (hm : LenAt w) (h1 : 1 < w.heap.size) :
    Calls Tryd.prog 13 #[.agg #[.slice A m cp], verV a c d s] w fun e w' => e = .returned (.bool true) ∧ Below w.heap.size w w' := by
  obtain ⟨W0, hW0⟩ : ∃ W0, (w.alloc (.cells #[.slice A m cp] 48)).alloc (verC a c d s) = W0 := ⟨_, rfl⟩
  have hz0 : W0.heap.size = w.heap.size + 2 := by rw [← hW0]; simp
  have hb0 : Below w.heap.size w W0 := by rw [← hW0]; exact ((Below.refl _ w).alloc (Nat.le_refl _) _).alloc (by simp) _
  have HX0 : Hid (W0.heap[w.heap.size]? = some (.cells #[.slice A m cp] 48)) := Lib.hid (by
    rw [← hW0, Below.heap_alloc _ _ _ (by simp)]; exact World.alloc_heap_new _ _)
  have HX1 : Hid (W0.heap[w.heap.size + 1]? = some (verC a c d s)) := Lib.hid (by
    rw [← hW0]
    have := World.alloc_heap_new (w.alloc (.cells #[.slice A m cp] 48)) (verC a c d s)
    rw [World.size_alloc] at this; exact this)
  have HL0 : Hid (w.heap.size < W0.heap.size ∧ w.heap.size + 1 < W0.heap.size) := Lib.hid (by omega)
  have HM0 := Lib.hid (hm.below h1 hb0)
  have HG0 : Hid (SignsAt W0) := Lib.hid (hg.below hb0 (by omega))
  have HAN := Lib.hid (ranchor_any W0 HG0.out HM0.out.1 HM0.out.2)
  have HW0 := Lib.hid hW0
  have HB0 := Lib.hid hb0
  have HR0 : Hid (RdR W0 w.heap.size A m r) := Lib.hid (hr.below hb0)
  have HLE := Lib.hid hr.1
  clear hW0 hb0 hm hg hr hz0
  go_enter Tryd.func13, Tryd.ntmps13
  go_wp2_with fail
  try rw [show (w.alloc (.cells #[.slice A m cp] 48)).alloc (.cells #[.int .i64 a, .int .i64 c, .int .i64 d, .string s] 25) = W0 from HW0.out]
  refine HAN.out.mono ?_
  rintro e W1 ⟨rfl, hb⟩
  have HB1 : Hid (Below W0.heap.size W0 W1) := Lib.hid hb
  have HM1 := Lib.hid (HM0.out.1.below HM0.out.2 hb)
  have c1 : W1.cell? ⟨w.heap.size, 0, none⟩ = some (.slice A m cp) := cell1 ((hb.block _ HL0.out.1).trans HX0.out)
  have HPC := Lib.hid (plain_any A m cp r W1 w.heap.size (HR0.out.below (hb.mono HB0.out.size)) (Nat.le_trans HB0.out.size hb.size))
  clear hb HAN
  go_wp2_with fail
  refine HPC.out.mono ?_
  rintro e W2 ⟨hp, hb⟩
  have HB2 : Hid (Below W0.heap.size W0 W2) := Lib.hid (HB1.out.trans (hb.mono HB1.out.size))
  have HM2 := Lib.hid (HM1.out.1.below HM1.out.2 hb)
  have HBw : Hid (∀ o, Below w.heap.size w (W2.alloc o)) := Lib.hid (fun o => by
    have h := HB0.out.trans (HB2.out.mono HB0.out.size)
    exact h.alloc h.size o)
  clear hb HPC c1
  unfold PlainR at hp
  cases hpl : plainR r with
  | false =>
    rw [hpl, if_neg (by decide)] at hp
    obtain ⟨A2, n2, c2, rfl⟩ := hp
    clear hpl
    go_wp2
    refine bodyPost_ret (results_tmp rfl _ _ _) rfl ⟨rfl, HBw.out _⟩
  | true =>
    rw [hpl, if_pos rfl] at hp
    obtain ⟨A2, c2, rfl, hrd⟩ := hp
    have hpf := plain_fits hpl
    have HM20 : Hid (m ≤ 20) := Lib.hid (by rw [← HLE.out]; exact hpf.1)
    have HFI := Lib.hid hpf.2.1
    have HPLR := Lib.hid hpl
    have HML : Hid (r.length ≤ 20) := Lib.hid hpf.1
    have HSM := Lib.hid hpf.2.2
    obtain ⟨W3, hW3⟩ : ∃ W3, W2.alloc (.cells #[.slice A2 r.length c2] 53) = W3 := ⟨_, rfl⟩
    have hb3 : Below W2.heap.size W2 W3 := by rw [← hW3]; exact (Below.refl _ W2).alloc (Nat.le_refl _) _
    have hb03 : Below W0.heap.size W0 W3 := HB2.out.trans (hb3.mono HB2.out.size)
    have HX3 : Hid (W3.heap[w.heap.size]? = some (.cells #[.slice A m cp] 48) ∧ W3.heap[w.heap.size + 1]? = some (verC a c d s) ∧ W3.heap[W2.heap.size]? = some (.cells #[.slice A2 r.length c2] 53)) := Lib.hid ⟨(hb03.block _ HL0.out.1).trans HX0.out, (hb03.block _ HL0.out.2).trans HX1.out, by rw [← hW3]; exact World.alloc_heap_new _ _⟩
    have HL3 : Hid (w.heap.size < W3.heap.size ∧ w.heap.size + 1 < W3.heap.size ∧ W2.heap.size < W3.heap.size) := Lib.hid ⟨Nat.lt_of_lt_of_le HL0.out.1 hb03.size, Nat.lt_of_lt_of_le HL0.out.2 hb03.size, by rw [← hW3]; simp⟩
    have HR3 : Hid (RdR W3 w.heap.size A m r) := Lib.hid (HR0.out.below (hb03.mono HB0.out.size))
    have HR4 : Hid (RdR W3 W2.heap.size A2 r.length r) := Lib.hid (hrd.below hb3)
    have HS3 : Hid (w.heap.size ≤ W3.heap.size ∧ W2.heap.size ≤ W3.heap.size) := Lib.hid ⟨Nat.le_trans HB0.out.size hb03.size, hb3.size⟩
    have HM3 := Lib.hid (HM2.out.1.below HM2.out.2 hb3)
    have HB3 : Hid (Below w.heap.size w W3) := Lib.hid (by rw [← hW3]; exact HBw.out _)
    obtain ⟨y0, y1, y2, y3⟩ := cells4 HX3.out.2.1
    rw [← hW3] at y0 y1 y2 y3
    have HW3 := Lib.hid hW3
    clear hpl hpf hrd hb3 hb03 hW3
    by_cases hsh : 100 < s.size
    · have dsh : decide (100 < (s.size : Int)) = true := decide_eq_true (by omega)
      go_wp2
      refine bodyPost_ret (results_tmp rfl _ _ _) rfl ⟨rfl, HBw.out _⟩
    · have HSS : Hid (s.size ≤ 100) := Lib.hid (by omega)
      have dsh : decide (100 < (s.size : Int)) = false := decide_eq_false (by omega)
      clear hsh
      have x0 : W3.cell? ⟨w.heap.size, 0, none⟩ = some (.slice A m cp) := cell1 HX3.out.1
      have HPQ := Lib.hid (RgPlain_any A m cp r W3 w.heap.size HR3.out HS3.out.1 HFI.out HM20.out HM3.out.1 HM3.out.2)
      rw [← HW3.out] at x0
      go_wp2_with fail
      try rw [show W2.alloc (.cells #[.slice A2 r.length c2] 53) = W3 from HW3.out]
      clear y0 y1 y2 y3 x0
      refine HPQ.out.mono ?_
      rintro e W4 ⟨hpa, hb⟩
      obtain ⟨A3, n3, c3, e3, rfl, hq1, hq2, hq3⟩ := plainA_cases hpa
      have HQ1 := Lib.hid hq1
      have HQ2 := Lib.hid hq2
      have HQ3 := Lib.hid hq3
      obtain ⟨W5, hW5⟩ : ∃ W5, W4.alloc (.cells #[.slice A3 n3 c3] 48) = W5 := ⟨_, rfl⟩
      have hb5 : Below W4.heap.size W4 W5 := by rw [← hW5]; exact (Below.refl _ W4).alloc (Nat.le_refl _) _
      have hb35 : Below W3.heap.size W3 W5 := hb.trans (hb5.mono hb.size)
      have HB35 := Lib.hid hb35
      have HX5 : Hid (W5.heap[W4.heap.size]? = some (.cells #[.slice A3 n3 c3] 48)) := Lib.hid (by rw [← hW5]; exact World.alloc_heap_new _ _)
      have HL5 : Hid (W4.heap.size < W5.heap.size) := Lib.hid (by rw [← hW5]; simp)
      have HM5 := Lib.hid (HM3.out.1.below HM3.out.2 hb35)
      have HB45 := Lib.hid hb5
      have HRF := Lib.hid (RefRgRight_any A2 r.length c2 r W5 W2.heap.size (HR4.out.below (hb35.mono HS3.out.2)) (Nat.le_trans HS3.out.2 hb35.size) HSM.out)
      have c5 : W5.cell? ⟨W2.heap.size, 0, none⟩ = some (.slice A2 r.length c2) := cell1 ((hb35.block _ HL3.out.2.2).trans HX3.out.2.2)
      rw [← hW5] at c5
      have HW5 := Lib.hid hW5
      clear hpa hq1 hq2 hq3 hb hb5 hb35 HPQ hW5
      go_wp2_with fail
      rw [show W4.alloc (.cells #[.slice A3 n3 c3] 48) = W5 from HW5.out]
      clear c5
      refine HRF.out.mono ?_
      rintro e W6 ⟨rfl, hb⟩
      have HB56 := Lib.hid hb
      have HB36 : Hid (Below W3.heap.size W3 W6) := Lib.hid (HB35.out.trans (hb.mono HB35.out.size))
      have HM6 := Lib.hid (HM5.out.1.below HM5.out.2 hb)
      have HBW6 : Hid (Below w.heap.size w W6) := Lib.hid (HB3.out.trans (HB36.out.mono HB3.out.size))
      have c7 : W6.cell? ⟨W4.heap.size, 0, none⟩ = some (.slice A3 n3 c3) := cell1 ((hb.block _ HL5.out).trans HX5.out)
      have HC7 := Lib.hid c7
      clear hb HRF
      cases hrr : rightR r with
      | false =>
        obtain ⟨rfl, rfl⟩ := HQ1.out hrr
        clear hrr
        go_wp2
        refine bodyPost_ret (results_tmp rfl _ _ _) rfl ⟨rfl, HBW6.out⟩
      | true =>
        have HRR := Lib.hid hrr
        have HL8 : Hid (r.length ≤ 8) := Lib.hid (rightR_len hrr).2
        clear hrr
        obtain ⟨bwant, hb9⟩ : ∃ bwant, W6.heap.size = bwant := ⟨_, rfl⟩
        obtain ⟨W7, hW7⟩ : ∃ W7, W6.alloc (.cells #[.slice none 0 0] 53) = W7 := ⟨_, rfl⟩
        have HX7 : Hid (W7.heap[bwant]? = some (.cells #[.slice none 0 0] 53)) := Lib.hid (by rw [← hW7, ← hb9]; exact World.alloc_heap_new _ _)
        have HZ7 : Hid (W7.heap.size = bwant + 1) := Lib.hid (by rw [← hW7, ← hb9]; simp)
        have HB67 : Hid (Below bwant W6 W7) := Lib.hid (by rw [← hW7, ← hb9]; exact (Below.refl _ W6).alloc (Nat.le_refl _) _)
        have HLW : Hid (w.heap.size < bwant ∧ w.heap.size + 1 < bwant ∧ 1 < bwant ∧ W2.heap.size < bwant ∧ W4.heap.size < bwant ∧ W3.heap.size ≤ bwant ∧ W5.heap.size ≤ bwant) := Lib.hid (by
          have h36 := HB36.out.size
          have h56 := HB56.out.size
          have := HL3.out.1
          have := HL3.out.2.1
          have := HL3.out.2.2
          have := HL5.out
          have := HM6.out.2
          rw [← hb9]
          exact ⟨by omega, by omega, by omega, by omega, by omega, by omega, by omega⟩)
        have c5 : (W6.alloc (.cells #[.slice none 0 0] 53)).cell? ⟨W2.heap.size, 0, none⟩ = some (.slice A2 r.length c2) := cell1 ((Below.heap_alloc _ _ _ (by rw [hb9]; exact HLW.out.2.2.2.1)).trans ((HB36.out.block _ HL3.out.2.2).trans HX3.out.2.2))
        have HR6 : Hid (RdR W6 W2.heap.size A2 r.length r) := Lib.hid (HR4.out.below (HB36.out.mono HS3.out.2))
        have HW7 := Lib.hid hW7
        have HB9 := Lib.hid hb9
        clear hW7 hb9 c7
        go_wp2
        try rw [show W6.alloc (.cells #[.slice none 0 0] 53) = W7 from HW7.out]
        try rw [show W6.heap.size = bwant from HB9.out]
        clear c5
        go_loopw [10, 12, 13, 15, 16, 17, 54] (fun v10 v12 v13 v15 v16 v17 v54 wr => ∃ (i : Nat) (big : Bool) (v : Value) (vs : List Value), i ≤ r.length ∧ v54 = .int .i64 (i : Int) ∧ v10 = .bool big ∧ Hid (big = !(r.take i).all (fun l => decide ((plainLs l).length ≤ 8))) ∧ Hid (wr.cell? ⟨bwant, 0, none⟩ = some v ∧ wr.frozen? ⟨bwant, 0, none⟩ = false) ∧ Hid (OwnW wr (bwant + 1) v vs) ∧ Hid (RowL wr bwant v vs (plainRg (r.take i))) ∧ Hid (Below bwant W6 wr) ∧ Hid (bwant + 1 ≤ wr.heap.size)) (fun _ _ _ _ _ _ v _ => r.length - (intOf v).toNat)
        case atStart => exact ⟨0, false, .slice none 0 0, [], Nat.zero_le _, rfl, rfl, Lib.hid rfl, Lib.hid ⟨cell1 HX7.out, by simp only [World.frozen?, HX7.out]; rfl⟩, Lib.hid (World.ownsRow_nil _ _ _ _), Lib.hid (RowL.nil _ _ _), HB67, Lib.hid (Nat.le_of_eq HZ7.out.symm)⟩
        case round =>
          obtain ⟨i, big, v, vs, hi, rfl, rfl, HBG, HC, HO, HR, HB, HZ⟩ := hrel
          obtain ⟨wo, hwo⟩ : ∃ x, x = wr := ⟨_, rfl⟩
          subst hwo
          have HTL : Hid ((plainRg (r.take i)).length = i) := Lib.hid (by unfold plainRg; rw [List.length_map, List.length_take]; omega)
          have HVL : Hid (vs.length = i) := Lib.hid (HR.out.1.trans HTL.out)
          by_cases him : i < r.length
          · have hd : decide ((i : Int) < (r.length : Int)) = true := decide_eq_true (by omega)
            have hadd : IntKind.i64.wrap ((i : Int) + 1) = ((i + 1 : Nat) : Int) := by rw [IntWalk.i64_in _ (by have := HL8.out; omega)]; omega
            obtain ⟨b, off, Aj, nj, cj, rfl, hlt, q0, hrc⟩ := (HR6.out.below (HB.out.mono (by have := HLW.out; omega))).2 i him
            have HIL := Lib.hid him
            obtain ⟨l, hl⟩ : ∃ l, lsAt r i = l := ⟨_, rfl⟩
            have HLL := Lib.hid hl
            rw [hl] at hrc
            have HRC := Lib.hid hrc
            have HNL : Hid (l.length = nj) := Lib.hid hrc.1
            have HRL := Lib.hid (rightR_list HRR.out (show l ∈ r by rw [← hl]; exact lsAt_mem him))
            have HN8 : Hid (nj ≤ 8) := Lib.hid (by rw [← HNL.out]; exact HRL.out.1.2)
            have HLo : Hid (W2.heap.size ≤ wo.heap.size) := Lib.hid (by have := HLW.out; have := HZ.out; omega)
            have HOV0 : Hid (∀ g, v.ownBlock = some g → g < wo.heap.size) := Lib.hid (own_lt HO.out)
            clear hrc hl
            go_wp2
            clear q0
            go_loopw [13, 15, 16, 17, 60] (fun v13 v15 v16 v17 v60 wr => ∃ (k : Nat), k ≤ nj ∧ v60 = .int .i64 (k : Int) ∧ Hid (OwnD wr wo.heap.size v13 (plainLs (l.take k))) ∧ Hid (Below wo.heap.size wo wr)) (fun _ _ _ _ v _ => nj - (intOf v).toNat)
            case atStart => exact ⟨0, Nat.zero_le _, rfl, Lib.hid (OwnD.nil_ _ _), Lib.hid (Below.refl _ _)⟩
            case round =>
              obtain ⟨k, hk, rfl, HOk, HBr⟩ := hrel
              obtain ⟨A3', c3', hv3⟩ := HOk.out.shape
              subst hv3
              obtain ⟨K, hK⟩ : ∃ K, (plainLs (l.take k)).length = K := ⟨_, rfl⟩
              have HK := Lib.hid hK
              have HK40 : Hid (K ≤ 40) := Lib.hid (by
                have h := plainLs_len (l.take k)
                rw [hK, List.length_take, HNL.out] at h
                have := HN8.out
                omega)
              rw [hK] at HOk ⊢
              clear hK
              by_cases hkn : k < nj
              · have hdk : decide ((k : Int) < (nj : Int)) = true := decide_eq_true (by omega)
                have haddk : IntKind.i64.wrap ((k : Int) + 1) = ((k + 1 : Nat) : Int) := by rw [IntWalk.i64_in _ (by have := HN8.out; omega)]; omega
                obtain ⟨bb, off2, rfl, hlt2, q0, q1, q2, q3, q4⟩ := (HRC.out.below (HBr.out.mono HLo.out)).2 k hkn
                have HIK : Hid (k < l.length) := Lib.hid (by rw [HNL.out]; exact hkn)
                have HXI : Hid ((cvAt l k).right = true) := Lib.hid (HRL.out.2 _ (cvAt_mem HIK.out))
                obtain ⟨x, hx⟩ : ∃ x, cvAt l k = x := ⟨_, rfl⟩
                have HTS : Hid (plainLs (l.take (k + 1)) = plainLs (l.take k) ++ plainC x) := Lib.hid (by rw [take_snocC HIK.out, plainLs_snoc, hx])
                rw [hx] at q0 q1 q2 q3 q4 HXI
                have HVR := Lib.hid (cv_ver HXI.out)
                have HBx : Hid (Below wo.heap.size wo (wr.alloc (.cells #[.int .i64 x.op, .int .i64 x.a, .int .i64 x.b, .int .i64 x.c, .string x.s] 63))) := Lib.hid (HBr.out.alloc HBr.out.size _)
                have HOx : Hid (OwnD (wr.alloc (.cells #[.int .i64 x.op, .int .i64 x.a, .int .i64 x.b, .int .i64 x.c, .string x.s] 63)) wo.heap.size (.slice A3' K c3') (plainLs (l.take k))) := Lib.hid (World.ownsRow.alloc HOk.out _)
                clear hx
                by_cases h6 : x.op < 6
                · have d6 : decide (x.op < 6) = true := decide_eq_true h6
                  have HP : Hid (plainC x = [x]) := Lib.hid (by unfold plainC; rw [if_pos h6])
                  have HO6 : Hid (OwnD ((wr.alloc (.cells #[.int .i64 x.op, .int .i64 x.a, .int .i64 x.b, .int .i64 x.c, .string x.s] 63)).alloc (.cells #[.int .i64 x.op, .int .i64 x.a, .int .i64 x.b, .int .i64 x.c, .string x.s] 63)) wo.heap.size (.slice A3' K c3') (plainLs (l.take k))) := Lib.hid (World.ownsRow.alloc HOx.out _)
                  have HBy : Hid (Below wo.heap.size wo ((wr.alloc (.cells #[.int .i64 x.op, .int .i64 x.a, .int .i64 x.b, .int .i64 x.c, .string x.s] 63)).alloc (.cells #[.int .i64 x.op, .int .i64 x.a, .int .i64 x.b, .int .i64 x.c, .string x.s] 63))) := Lib.hid (HBx.out.alloc HBx.out.size _)
                  have hz6 : ((wr.alloc (.cells #[.int .i64 x.op, .int .i64 x.a, .int .i64 x.b, .int .i64 x.c, .string x.s] 63)).alloc (.cells #[.int .i64 x.op, .int .i64 x.a, .int .i64 x.b, .int .i64 x.c, .string x.s] 63)).heap[wr.heap.size + 1]? = some (.cells #[.int .i64 x.op, .int .i64 x.a, .int .i64 x.b, .int .i64 x.c, .string x.s] 63) := by
                    have h := World.alloc_heap_new (wr.alloc (.cells #[.int .i64 x.op, .int .i64 x.a, .int .i64 x.b, .int .i64 x.c, .string x.s] 63)) (.cells #[.int .i64 x.op, .int .i64 x.a, .int .i64 x.b, .int .i64 x.c, .string x.s] 63)
                    rw [World.size_alloc] at h; exact h
                  have HCC := Lib.hid (cells5 hz6)
                  have HSZ := Lib.hid HBy.out.size
                  clear hz6
                  go_wp2_with (at_builtin; refine wpl_appD rfl (.tmp 67) (.tmp 69) rfl wo.heap.size (.slice A3' K c3') _ rfl HO6.out (wr.heap.size + 1) x rfl HCC.out.1 HCC.out.2.1 HCC.out.2.2.1 HCC.out.2.2.2.1 HCC.out.2.2.2.2 (by rw [HK.out]; have := HK40.out; omega) HSZ.out ?_; intro g c2 w2 hown2 hgr2)
                  go_roundw
                  case rel => exact ⟨k + 1, by omega, rfl, Lib.hid (by rw [HTS.out, HP.out]; exact hown2), Lib.hid (HBy.out.grown hgr2 HSZ.out (fun g hg => own_ge HO6.out g hg))⟩
                  case measure => simp [intOf]; omega
                · have d6 : decide (x.op < 6) = false := decide_eq_false h6
                  have HOP : Hid (x.op = 6 ∨ x.op = 7) := Lib.hid (by have := HVR.out.2; omega)
                  obtain ⟨X, Y, Z, hup⟩ : ∃ X Y Z : Int, upV x.op x.a x.b x.c = (X, Y, Z) := ⟨_, _, _, rfl⟩
                  obtain ⟨rr, hr⟩ : ∃ rr, Ver.right ⟨X, Y, Z, []⟩ = rr := ⟨_, rfl⟩
                  have hnn := right_nums (show Ver.right ⟨x.a, x.b, x.c, bs x.s⟩ = true from HVR.out.1)
                  have HU : Hid (∀ W, Calls Tryd.prog 40 #[compV x.op x.a x.b x.c x.s] W fun e w' => e = .returned (.tuple #[verV X Y Z ⟨#[]⟩, .bool rr]) ∧ Below W.heap.size W w') := Lib.hid (fun W => by
                    have h := Upper_any x.op x.a x.b x.c x.s W (by omega) (by omega) (by omega)
                    rw [hup] at h
                    simp only at h
                    rw [hr] at h
                    exact h)
                  have HP : Hid (plainC x = (⟨5, x.a, x.b, x.c, x.s⟩ : CV) :: (if rr = true then [(⟨2, X, Y, Z, ⟨#[]⟩⟩ : CV)] else [])) := Lib.hid (by unfold plainC; rw [if_neg h6, hup]; simp only; rw [hr])
                  clear hup hr h6 hnn
                  have HO6 : Hid (OwnD ((wr.alloc (.cells #[.int .i64 x.op, .int .i64 x.a, .int .i64 x.b, .int .i64 x.c, .string x.s] 63)).alloc (.cells #[.int .i64 5, .int .i64 x.a, .int .i64 x.b, .int .i64 x.c, .string x.s] 63)) wo.heap.size (.slice A3' K c3') (plainLs (l.take k))) := Lib.hid (World.ownsRow.alloc HOx.out _)
                  have HBy : Hid (Below wo.heap.size wo ((wr.alloc (.cells #[.int .i64 x.op, .int .i64 x.a, .int .i64 x.b, .int .i64 x.c, .string x.s] 63)).alloc (.cells #[.int .i64 5, .int .i64 x.a, .int .i64 x.b, .int .i64 x.c, .string x.s] 63))) := Lib.hid (HBx.out.alloc HBx.out.size _)
                  have hz6 : ((wr.alloc (.cells #[.int .i64 x.op, .int .i64 x.a, .int .i64 x.b, .int .i64 x.c, .string x.s] 63)).alloc (.cells #[.int .i64 5, .int .i64 x.a, .int .i64 x.b, .int .i64 x.c, .string x.s] 63)).heap[wr.heap.size + 1]? = some (.cells #[.int .i64 5, .int .i64 x.a, .int .i64 x.b, .int .i64 x.c, .string x.s] 63) := by
                    have h := World.alloc_heap_new (wr.alloc (.cells #[.int .i64 x.op, .int .i64 x.a, .int .i64 x.b, .int .i64 x.c, .string x.s] 63)) (.cells #[.int .i64 5, .int .i64 x.a, .int .i64 x.b, .int .i64 x.c, .string x.s] 63)
                    rw [World.size_alloc] at h; exact h
                  have HXq : Hid (((wr.alloc (.cells #[.int .i64 x.op, .int .i64 x.a, .int .i64 x.b, .int .i64 x.c, .string x.s] 63)).alloc (.cells #[.int .i64 5, .int .i64 x.a, .int .i64 x.b, .int .i64 x.c, .string x.s] 63)).heap[wr.heap.size]? = some (.cells #[.int .i64 x.op, .int .i64 x.a, .int .i64 x.b, .int .i64 x.c, .string x.s] 63)) := Lib.hid (by
                    rw [Below.heap_alloc _ _ _ (by simp)]; exact World.alloc_heap_new _ _)
                  have HCC := Lib.hid (cells5 hz6)
                  have HOV : Hid (∀ g, (Value.slice A3' K c3').ownBlock = some g → g < wr.heap.size) := Lib.hid (own_lt HOk.out)
                  have HSZ := Lib.hid HBy.out.size
                  have HLX : Hid (wr.heap.size < ((wr.alloc (.cells #[.int .i64 x.op, .int .i64 x.a, .int .i64 x.b, .int .i64 x.c, .string x.s] 63)).alloc (.cells #[.int .i64 5, .int .i64 x.a, .int .i64 x.b, .int .i64 x.c, .string x.s] 63)).heap.size) := Lib.hid (by simp; omega)
                  clear hz6
                  go_wp2_with (at_builtin; refine wpl_appD rfl (.tmp 71) (.tmp 75) rfl wo.heap.size (.slice A3' K c3') _ rfl HO6.out (wr.heap.size + 1) (⟨5, x.a, x.b, x.c, x.s⟩ : CV) rfl HCC.out.1 HCC.out.2.1 HCC.out.2.2.1 HCC.out.2.2.2.1 HCC.out.2.2.2.2 (by rw [HK.out]; have := HK40.out; omega) HSZ.out ?_; intro g c2 w2 hown2 hgr2; (have hx2 : w2.heap[wr.heap.size]? = some (.cells #[.int .i64 x.op, .int .i64 x.a, .int .i64 x.b, .int .i64 x.c, .string x.s] 63) := (hgr2.block wr.heap.size HLX.out (fun e2 => by have h := HOV.out wr.heap.size e2.symm; omega)).trans HXq.out); (obtain ⟨z0, z1, z2, z3, z4⟩ := cells5 hx2); (have HOWN2 := Lib.hid hown2); (have HGR2 := Lib.hid hgr2); (have HX2 := Lib.hid hx2); clear hown2 hgr2 hx2)
                  have HBz : Hid (Below wo.heap.size wo w2) := Lib.hid (HBy.out.grown HGR2.out HSZ.out (fun g hg => own_ge HO6.out g hg))
                  refine (HU.out _).mono ?_
                  rintro e w3 ⟨rfl, hb⟩
                  have HL1 : Hid ((plainLs (l.take k) ++ [(⟨5, x.a, x.b, x.c, x.s⟩ : CV)]).length = (plainLs (l.take k)).length + 1) := Lib.hid (by simp)
                  have HBv : Hid (Below w2.heap.size w2 (w3.alloc (.cells #[.int .i64 X, .int .i64 Y, .int .i64 Z, .string ⟨#[]⟩] 29))) := Lib.hid (hb.alloc hb.size _)
                  clear hb z0 z1 z2 z3 z4
                  cases rr with
                  | false =>
                    have HO8 := Lib.hid (own_kept HOWN2.out HBv.out)
                    go_wp2
                    go_roundw
                    case rel => exact ⟨k + 1, by omega, rfl, Lib.hid (by rw [HTS.out, HP.out, if_neg (by decide)]; exact HO8.out), Lib.hid (HBz.out.trans (HBv.out.mono HBz.out.size))⟩
                    case measure => simp [intOf]; omega
                  | true =>
                    have HP2 : Hid (plainC x = [(⟨5, x.a, x.b, x.c, x.s⟩ : CV), ⟨2, X, Y, Z, ⟨#[]⟩⟩]) := Lib.hid (by rw [HP.out]; simp)
                    have HBu : Hid (Below w2.heap.size w2 ((w3.alloc (.cells #[.int .i64 X, .int .i64 Y, .int .i64 Z, .string ⟨#[]⟩] 29)).alloc (.cells #[.int .i64 2, .int .i64 X, .int .i64 Y, .int .i64 Z, .string ⟨#[]⟩] 63))) := Lib.hid (HBv.out.alloc HBv.out.size _)
                    have HO9 : Hid (OwnD ((w3.alloc (.cells #[.int .i64 X, .int .i64 Y, .int .i64 Z, .string ⟨#[]⟩] 29)).alloc (.cells #[.int .i64 2, .int .i64 X, .int .i64 Y, .int .i64 Z, .string ⟨#[]⟩] 63)) wo.heap.size (.slice (some ⟨g, 0, none⟩) ((plainLs (l.take k)).length + 1) c2) (plainLs (l.take k) ++ [(⟨5, x.a, x.b, x.c, x.s⟩ : CV)])) := Lib.hid (own_kept HOWN2.out HBu.out)
                    have HBW9 : Hid (Below wo.heap.size wo ((w3.alloc (.cells #[.int .i64 X, .int .i64 Y, .int .i64 Z, .string ⟨#[]⟩] 29)).alloc (.cells #[.int .i64 2, .int .i64 X, .int .i64 Y, .int .i64 Z, .string ⟨#[]⟩] 63))) := Lib.hid (HBz.out.trans (HBu.out.mono HBz.out.size))
                    have hz9 : ((w3.alloc (.cells #[.int .i64 X, .int .i64 Y, .int .i64 Z, .string ⟨#[]⟩] 29)).alloc (.cells #[.int .i64 2, .int .i64 X, .int .i64 Y, .int .i64 Z, .string ⟨#[]⟩] 63)).heap[w3.heap.size + 1]? = some (.cells #[.int .i64 2, .int .i64 X, .int .i64 Y, .int .i64 Z, .string ⟨#[]⟩] 63) := by
                      have h := World.alloc_heap_new (w3.alloc (.cells #[.int .i64 X, .int .i64 Y, .int .i64 Z, .string ⟨#[]⟩] 29)) (.cells #[.int .i64 2, .int .i64 X, .int .i64 Y, .int .i64 Z, .string ⟨#[]⟩] 63)
                      rw [World.size_alloc] at h; exact h
                    have HCC9 := Lib.hid (cells5 hz9)
                    have HSZ9 := Lib.hid HBW9.out.size
                    clear hz9
                    go_wp2_with (at_builtin; refine wpl_appD rfl (.tmp 83) (.tmp 86) rfl wo.heap.size (.slice (some ⟨g, 0, none⟩) ((plainLs (l.take k)).length + 1) c2) (plainLs (l.take k) ++ [(⟨5, x.a, x.b, x.c, x.s⟩ : CV)]) rfl HO9.out (w3.heap.size + 1) (⟨2, X, Y, Z, ⟨#[]⟩⟩ : CV) rfl HCC9.out.1 HCC9.out.2.1 HCC9.out.2.2.1 HCC9.out.2.2.2.1 HCC9.out.2.2.2.2 (by rw [HL1.out, HK.out]; have := HK40.out; omega) HSZ9.out ?_; intro g3 c4 w5 hown5 hgr5)
                    go_roundw
                    case rel => exact ⟨k + 1, by omega, rfl, Lib.hid (by rw [HTS.out, HP2.out, show plainLs (l.take k) ++ [(⟨5, x.a, x.b, x.c, x.s⟩ : CV), ⟨2, X, Y, Z, ⟨#[]⟩⟩] = (plainLs (l.take k) ++ [⟨5, x.a, x.b, x.c, x.s⟩]) ++ [⟨2, X, Y, Z, ⟨#[]⟩⟩] from by simp]; (have h5 := hown5); (first | exact h5 | (rw [HL1.out] at h5; exact h5))), Lib.hid (HBW9.out.grown hgr5 HSZ9.out (fun g hg => own_ge HO9.out g hg))⟩
                    case measure => simp [intOf]; omega
              · have hdk : decide ((k : Int) < (nj : Int)) = false := decide_eq_false (by omega)
                have HOL : Hid (OwnD wr wo.heap.size (.slice A3' K c3') (plainLs l)) := Lib.hid (by have h := HOk.out; rw [List.take_of_length_le (by rw [HNL.out]; omega)] at h; exact h)
                have HKL : Hid ((plainLs l).length = K) := Lib.hid (by have h := HK.out; rw [List.take_of_length_le (by rw [HNL.out]; omega)] at h; exact h)
                go_upto_region 25 with fail
                go_cut [10] (fun v10 w' => v10 = .bool (big || decide (8 < (K : Int))) ∧ w' = wr)
                case first =>
                  cases big with
                  | true =>
                    go_wp2
                    go_meet
                    exact ⟨rfl, rfl⟩
                  | false =>
                    go_wp2
                    go_meet
                    exact ⟨rfl, rfl⟩
                case rest =>
                obtain ⟨rfl, hwc⟩ := hcut
                have hwd := hwc.symm
                clear hwc
                subst hwd
                obtain ⟨Al, cl, hac⟩ : ∃ Al cl, Value.slice A3' K c3' = .slice Al K cl := ⟨_, _, rfl⟩
                have HBG2 : Hid ((big || decide (8 < (K : Int))) = !(r.take (i + 1)).all (fun l => decide ((plainLs l).length ≤ 8))) := Lib.hid (big_snoc HIL.out HLL.out HKL.out HBG.out)
                obtain ⟨big2, hbig⟩ : ∃ b2, (big || decide (8 < (K : Int))) = b2 := ⟨_, rfl⟩
                rw [hbig] at HBG2 ⊢
                rw [hac] at HOL ⊢
                clear hbig hac
                have HTS : Hid (plainRg (r.take (i + 1)) = plainRg (r.take i) ++ [plainLs l]) := Lib.hid (by rw [take_snocR HIL.out, plainRg_snoc, HLL.out])
                have HC4 : Hid (wr.cell? ⟨bwant, 0, none⟩ = some v ∧ wr.frozen? ⟨bwant, 0, none⟩ = false) := Lib.hid ⟨(HBr.out.cell (p := ⟨bwant, 0, none⟩) (by have := HZ.out; show bwant < _; omega)).trans HC.out.1, (HBr.out.frozen (p := ⟨bwant, 0, none⟩) (by have := HZ.out; show bwant < _; omega)).trans HC.out.2⟩
                have HO4 : Hid (OwnW wr (bwant + 1) v vs) := Lib.hid (own_kept HO.out HBr.out)
                have HRr4 := Lib.hid (HR.out.map (fun A n l h => h.below HBr.out))
                have HBb4 : Hid (Below bwant W6 wr) := Lib.hid (HB.out.trans (HBr.out.mono (by have := HZ.out; omega)))
                have HZ4 : Hid (bwant + 1 ≤ wr.heap.size) := Lib.hid (Nat.le_trans HZ.out HBr.out.size)
                have HIN : Hid (InL wr bwant v Al K (plainLs l)) := Lib.hid ⟨HOL.out.rd HKL.out, fun b off e => by
                  subst e
                  have h1 := own_ge HOL.out b rfl
                  have h2 := own_lt HOL.out b rfl
                  exact ⟨fun e2 => by have h3 := HOV0.out b e2; omega, by have := HZ.out; omega, h2⟩⟩
                obtain ⟨Av, cv, hv⟩ := HO4.out.shape
                rw [HVL.out] at hv
                subst hv
                have x0 := HC4.out.1
                have xf := HC4.out.2
                have HO5 : Hid (OwnW (wr.alloc (.cells #[.slice Al K cl] 61)) (bwant + 1) (.slice Av i cv) vs) := Lib.hid (World.ownsRow.alloc HO4.out _)
                have ha : Below wr.heap.size wr (wr.alloc (.cells #[.slice Al K cl] 61)) := (Below.refl _ wr).alloc (Nat.le_refl _) _
                have HR5 := Lib.hid ((HRr4.out.snoc (c := cl) HIN.out).map (fun A n l h => h.below ha))
                have HB5' : Hid (Below bwant W6 (wr.alloc (.cells #[.slice Al K cl] 61))) := Lib.hid (HBb4.out.trans (ha.mono (by have := HZ4.out; omega)))
                have HZ5 : Hid (bwant + 1 ≤ (wr.alloc (.cells #[.slice Al K cl] 61)).heap.size) := Lib.hid (Nat.le_trans HZ4.out ha.size)
                have HC5 : Hid ((wr.alloc (.cells #[.slice Al K cl] 61)).heap[bwant]? = wr.heap[bwant]?) := Lib.hid (Below.heap_alloc _ _ _ (by have := HZ4.out; omega))
                clear ha
                go_wp2_with (at_builtin; refine wpl_appM rfl (.tmp 96) (.tmp 98) rfl (bwant + 1) (.slice Av i cv) vs rfl HO5.out wr.heap.size Al K cl rfl (by simp) (by rw [HVL.out]; have := HL8.out; omega) HZ5.out ?_; intro g c2 w2 hown2 hgr2 hat2; (have hb52 : w2.heap[bwant]? = wr.heap[bwant]? := (hgr2.block bwant (by have := HZ5.out; omega) (fun e2 => by have := own_ge HO5.out bwant e2.symm; omega)).trans HC5.out); (have y0 : w2.cell? ⟨bwant, 0, none⟩ = some (.slice Av i cv) := (World.cell?_of_block hb52).trans HC4.out.1); (have yf : w2.frozen? ⟨bwant, 0, none⟩ = false := (World.frozen?_of_block hb52).trans HC4.out.2); (have HOWN2 := Lib.hid hown2); (have HGR2 := Lib.hid hgr2); (have HAT2 := Lib.hid hat2); clear hown2 hgr2 hat2 hb52)
                go_roundw
                case rel =>
                  have hV : (Value.slice (some ⟨g, 0, none⟩) (vs.length + 1) c2).ownBlock = (Value.slice Av i cv).ownBlock ∨ (Value.slice (some ⟨g, 0, none⟩) (vs.length + 1) c2).ownBlock = some (wr.alloc (.cells #[.slice Al K cl] 61)).heap.size := HAT2.out
                  have hgb : bwant + 1 ≤ g := own_ge HOWN2.out g rfl
                  refine ⟨i + 1, big2, .slice (some ⟨g, 0, none⟩) (vs.length + 1) c2, vs ++ [.slice Al K cl], by omega, rfl, rfl, HBG2, Lib.hid ⟨World.cell?_setCell_same _ _ _ y0, by simp [yf]⟩, Lib.hid ?_, Lib.hid ?_, Lib.hid ?_, Lib.hid ?_⟩
                  · have h := HOWN2.out
                    refine ⟨h.1, ?_⟩
                    rcases h.2 with h | ⟨g', cap, cur, hv, hbg, hh, r⟩
                    · exact .inl h
                    · refine .inr ⟨g', cap, cur, hv, hbg, ?_, r⟩
                      rw [Below.heap_setCell _ _ _ _ (by show g' ≠ bwant; omega)]
                      exact hh
                  · rw [HTS.out]
                    exact (HR5.out.map (fun A n l h => h.grown HGR2.out hV)).map (fun A n l h => h.setBox (Nat.le_refl _))
                  · exact (HB5'.out.grown HGR2.out (by have := HZ5.out; omega) (fun g hg => by have := own_ge HO5.out g hg; omega)).setCell (p := ⟨bwant, 0, none⟩) (Nat.le_refl _) _
                  · have := HGR2.out.size; have := HZ5.out; simp; omega
                case measure => simp [intOf]; omega
          · have hd : decide ((i : Int) < (r.length : Int)) = false := decide_eq_false (by omega)
            have HBGS : Hid (big = !shortR r) := Lib.hid (by rw [HBG.out, List.take_of_length_le (by omega)]; rfl)
            have HLN : Hid ((plainRg r).length = r.length) := Lib.hid (by unfold plainRg; rw [List.length_map])
            have HRF : Hid (RowL wo bwant v vs (plainRg r)) := Lib.hid (by have h := HR.out; rw [List.take_of_length_le (by omega)] at h; exact h)
            obtain ⟨Av, cv, hv⟩ := HO.out.shape
            rw [HRF.out.1, HLN.out] at hv
            subst hv
            have HBWo : Hid (Below w.heap.size w wo) := Lib.hid (HBW6.out.trans (HB.out.mono (by have := HLW.out; omega)))
            have hc7 : wo.heap[W4.heap.size]? = some (.cells #[.slice A3 n3 c3] 48) := (HB.out.block _ HLW.out.2.2.2.2.1).trans ((HB56.out.block _ HL5.out).trans HX5.out)
            have c7 := cell1 hc7
            have HC7o := Lib.hid hc7
            clear hc7 hi hd
            cases big with
            | true =>
              obtain ⟨rfl, rfl⟩ := HQ2.out HRR.out (by have h := HBGS.out; cases hs : shortR r with
                | false => rfl
                | true => rw [hs] at h; cases h)
              go_wp2
              refine bodyPost_ret (results_tmp rfl _ _ _) rfl ⟨rfl, HBWo.out⟩
            | false =>
              have HSH : Hid (shortR r = true) := Lib.hid (by have h := HBGS.out; cases hs : shortR r with
                | true => rfl
                | false => rw [hs] at h; cases h)
              obtain ⟨rfl, rfl, hrq⟩ := HQ3.out HRR.out HSH.out
              have HPP : Hid (plainR (plainRg r) = true) := Lib.hid (plainRg_plain HPLR.out HSH.out)
              have HFP := Lib.hid (plain_fits HPP.out)
              have HB4o : Hid (Below W4.heap.size W4 wo) := Lib.hid (HB45.out.trans ((HB56.out.mono HB45.out.size).trans (HB.out.mono (by have := HLW.out; omega))))
              have HRqo : Hid (RdR wo W4.heap.size A3 r.length (plainRg r)) := Lib.hid (hrq.below HB4o.out)
              have HRwo : Hid (RdR wo wo.heap.size Av r.length (plainRg r)) := Lib.hid (by
                have h1 := HRF.out
                have h2 := HO.out
                rw [← HLN.out] at h1 h2 ⊢
                exact RowL.rdD h1 (base := bwant + 1) h2 rfl)
              have HPC := Lib.hid (plain_any A3 r.length c3 (plainRg r) wo W4.heap.size HRqo.out HB4o.out.size)
              clear hrq
              go_wp2_with fail
              refine HPC.out.mono ?_
              rintro e W8 ⟨hp, hb⟩
              obtain ⟨Wf, hWf⟩ : ∃ Wf, wo = Wf := ⟨_, rfl⟩
              unfold PlainR at hp
              rw [if_pos HPP.out, HLN.out] at hp
              obtain ⟨A5, c5, rfl, hrx⟩ := hp
              obtain ⟨W9, hW9⟩ : ∃ W9, W8.alloc (.cells #[.slice A5 r.length c5] 53) = W9 := ⟨_, rfl⟩
              have hb89 : Below W8.heap.size W8 W9 := by rw [← hW9]; exact (Below.refl _ W8).alloc (Nat.le_refl _) _
              have hbo9 : Below wo.heap.size wo W9 := hb.trans (hb89.mono hb.size)
              have HX0o : Hid (wo.heap[w.heap.size]? = some (.cells #[.slice A m cp] 48) ∧ wo.heap[w.heap.size + 1]? = some (verC a c d s)) := Lib.hid ⟨(HB.out.block _ HLW.out.1).trans ((HB36.out.block _ HL3.out.1).trans HX3.out.1), (HB.out.block _ HLW.out.2.1).trans ((HB36.out.block _ HL3.out.2.1).trans HX3.out.2.1)⟩
              have HLo9 : Hid (w.heap.size < wo.heap.size ∧ w.heap.size + 1 < wo.heap.size ∧ W4.heap.size < wo.heap.size ∧ bwant < wo.heap.size) := Lib.hid (by have := HLW.out; have := HZ.out; exact ⟨by omega, by omega, by omega, by omega⟩)
              have HX9 : Hid (W9.heap[w.heap.size]? = some (.cells #[.slice A m cp] 48) ∧ W9.heap[w.heap.size + 1]? = some (verC a c d s) ∧ W9.heap[W4.heap.size]? = some (.cells #[.slice A3 r.length c3] 48) ∧ W9.cell? ⟨bwant, 0, none⟩ = some (.slice Av r.length cv) ∧ W9.heap[W8.heap.size]? = some (.cells #[.slice A5 r.length c5] 53)) := Lib.hid ⟨(hbo9.block _ HLo9.out.1).trans HX0o.out.1, (hbo9.block _ HLo9.out.2.1).trans HX0o.out.2, (hbo9.block _ HLo9.out.2.2.1).trans HC7o.out, (hbo9.cell (p := ⟨bwant, 0, none⟩) HLo9.out.2.2.2).trans HC.out.1, by rw [← hW9]; exact World.alloc_heap_new _ _⟩
              have HL9 : Hid (w.heap.size < W9.heap.size ∧ w.heap.size + 1 < W9.heap.size ∧ W4.heap.size < W9.heap.size ∧ bwant < W9.heap.size ∧ W8.heap.size < W9.heap.size) := Lib.hid ⟨Nat.lt_of_lt_of_le HLo9.out.1 hbo9.size, Nat.lt_of_lt_of_le HLo9.out.2.1 hbo9.size, Nat.lt_of_lt_of_le HLo9.out.2.2.1 hbo9.size, Nat.lt_of_lt_of_le HLo9.out.2.2.2 hbo9.size, by rw [← hW9]; simp⟩
              have HS9 : Hid (w.heap.size ≤ W9.heap.size ∧ W4.heap.size ≤ W9.heap.size ∧ W8.heap.size ≤ W9.heap.size ∧ wo.heap.size ≤ W9.heap.size) := Lib.hid ⟨Nat.le_of_lt HL9.out.1, Nat.le_of_lt HL9.out.2.2.1, Nat.le_of_lt HL9.out.2.2.2.2, hbo9.size⟩
              have HM9 : Hid (LenAt W9 ∧ 1 < W9.heap.size) := Lib.hid (by
                have hMo : LenAt wo ∧ 1 < wo.heap.size := by
                  obtain ⟨mm, hmm⟩ := HM6.out.1
                  exact ⟨⟨mm, (HB.out.cell (p := ⟨1, 0, none⟩) HLW.out.2.2.1).trans hmm⟩, by have := HLW.out; have := HZ.out; omega⟩
                exact hMo.1.below hMo.2 hbo9)
              have HRr : Hid (RdR W9 w.heap.size A m r) := Lib.hid (((HR3.out.below (HB36.out.mono HS3.out.1)).below (HB.out.mono (by have := HLW.out; omega))).below (hbo9.mono (Nat.le_of_lt HLo9.out.1)))
              have HRq : Hid (RdR W9 W4.heap.size A3 r.length (plainRg r)) := Lib.hid (HRqo.out.below (hbo9.mono HB4o.out.size))
              have HRx : Hid (RdR W9 W8.heap.size A5 r.length (plainRg r)) := Lib.hid (hrx.below hb89)
              have HRw : Hid (RdR W9 Wf.heap.size Av r.length (plainRg r)) := Lib.hid (by rw [← hWf]; exact HRwo.out.below hbo9)
              have HBW9 : Hid (Below w.heap.size w W9) := Lib.hid (HBWo.out.trans (hbo9.mono HBWo.out.size))
              have HFQ := Lib.hid HFP.out.2.1
              have HLEN : Hid (∀ l ∈ plainRg r, l.length ≤ 1000) := Lib.hid (fun l hl => by have h := rightR_list (plainRg_right HRR.out HSH.out) hl; omega)
              obtain ⟨q, hq⟩ : ∃ q, hasR r ⟨a, c, d, bs s⟩ = q := ⟨_, rfl⟩
              have HQ := Lib.hid hq
              have HQP : Hid (hasR (plainRg r) ⟨a, c, d, bs s⟩ = q) := Lib.hid ((plainRg_has HRR.out HSH.out _).trans hq)
              rw [hWf] at HS9
              have HW9 := Lib.hid hW9
              clear hq hb hrx hb89 hbo9 hW9 HPC c7 hWf
              go_upto_region 31 with fail
              rw [show W8.alloc (.cells #[.slice A5 r.length c5] 53) = W9 from HW9.out]
              refine wp_region_inv (by kernel_rfl) (I := LlJ W9 (.agg #[.slice A5 r.length c5]) (.agg #[.slice Av r.length cv]) (.agg #[.slice A3 r.length c3]) (verV a c d s) (.agg #[.slice A m cp]) q _ _ _ _ _ _ _ _ _ _ _ _ _ _ _ _ _ _ _ _ _ _ _ _ _ _ _ _ _ _ _ _ _ _ _ _ _ _ _ _ _ _ _ _ _ _ _ _ _ _ _ _ _ _ _ _ _ _ _ _ _ _ _ _ _ _ _ _ _ _ _ _ _ _ _ _ _ _ _ _ _ _ _ _ _ _ _ _ _ _ _ _ _ _ _ _ _ _ _ _ _ _ _ _ _ _ _ _ _ _ _ _ _ _ _) (.mk false false false false false false false false false false false false false false false false false false false false _ _ _ _ _ _ _ _ _ _ _ _ _ _ _ _ _ _ _ _ _ ⟨(Below.refl _ W9).drew, nofun, nofun, nofun, nofun, nofun, nofun, nofun, nofun, nofun, nofun, nofun, nofun, nofun, nofun, nofun, nofun, nofun, nofun, nofun, nofun⟩) ?step ?fin
              case step =>
                rintro lq a' w' ix ⟨b0, b1, b2, b3, b4, b5, b6, b7, b8, b9, b10, b11, b12, b13, b14, b15, b16, b17, b18, b19, v4, v116, v117, v118, v119, v120, v121, v122, v123, v124, v125, v126, v127, v128, v129, v130, v131, v132, v133, v134, _, HT⟩ hi
                obtain ⟨hi_, hib⟩ := ready_lt hi
                have HTH := Lib.hid HT
                match ix, hi_, hi, hib with
                | 0, _, hi, hib =>
                  clear HT
                  refine wpOp_one rfl rfl (fun K hK => ?_)
                  go_simp
                  exact hK.out _ _ (.mk true b1 b2 b3 b4 b5 b6 b7 b8 b9 b10 b11 b12 b13 b14 b15 b16 b17 b18 b19 _ _ _ _ _ _ _ _ _ _ _ _ _ _ _ _ _ _ _ _ _ { HTH.out with h0 := fun _ => rfl })
                | 1, _, hi, hib =>
                  have d0 : b0 = true := ready_dep hi rfl 0 (by kernel_rfl)
                  have hd0 := HT.h0 d0
                  subst hd0
                  clear HT
                  refine wpOp_one rfl rfl (fun K hK => ?_)
                  go_simp
                  exact hK.out _ _ (.mk b0 true b2 b3 b4 b5 b6 b7 b8 b9 b10 b11 b12 b13 b14 b15 b16 b17 b18 b19 _ _ _ _ _ _ _ _ _ _ _ _ _ _ _ _ _ _ _ _ _ { HTH.out with h1 := fun _ => rfl })
                | 2, _, hi, hib =>
                  have d1 : b1 = true := ready_dep hi rfl 1 (by kernel_rfl)
                  have hd1 := HT.h1 d1
                  subst hd1
                  clear HT
                  refine wpOp_one rfl rfl (fun K hK => ?_)
                  go_simp
                  exact hK.out _ _ (.mk b0 b1 true b3 b4 b5 b6 b7 b8 b9 b10 b11 b12 b13 b14 b15 b16 b17 b18 b19 _ _ _ _ _ _ _ _ _ _ _ _ _ _ _ _ _ _ _ _ _ { HTH.out with h2 := fun _ => rfl })
                | 3, _, hi, hib =>
                  have e2 : b2 = true := ready_dep hi rfl 2 (by kernel_rfl)
                  have he2 := HT.h2 e2
                  subst he2
                  clear HT
                  refine wpOp_want rfl 2 true rfl rfl (fun K hK => ?_)
                  go_simp
                  exact hK.out _ _ (.mk b0 b1 b2 true b4 b5 b6 b7 b8 b9 b10 b11 b12 b13 b14 b15 b16 b17 b18 b19 _ _ _ _ _ _ _ _ _ _ _ _ _ _ _ _ _ _ _ _ _ { HTH.out with h3 := fun _ => rfl })
                | 4, _, hi, hib =>
                  have d2 : b2 = true := ready_dep hi rfl 2 (by kernel_rfl)
                  have hd2 := HT.h2 d2
                  subst hd2
                  have d3 : b3 = true := ready_dep hi rfl 3 (by kernel_rfl)
                  have hd3 := HT.h3 d3
                  subst hd3
                  clear HT
                  refine wpOp_one rfl rfl (fun K hK => ?_)
                  go_simp
                  exact hK.out _ _ (.mk b0 b1 b2 b3 true b5 b6 b7 b8 b9 b10 b11 b12 b13 b14 b15 b16 b17 b18 b19 _ _ _ _ _ _ _ _ _ _ _ _ _ _ _ _ _ _ _ _ _ { HTH.out with h4 := fun _ => rfl })
                | 5, _, hi, hib =>
                  have d4 : b4 = true := ready_dep hi rfl 4 (by kernel_rfl)
                  have hd4 := HT.h4 d4
                  subst hd4
                  clear HT
                  refine wpOp_one rfl rfl (fun K hK => ?_)
                  go_simp
                  exact hK.out _ _ (.mk b0 b1 b2 b3 b4 true b6 b7 b8 b9 b10 b11 b12 b13 b14 b15 b16 b17 b18 b19 _ _ _ _ _ _ _ _ _ _ _ _ _ _ _ _ _ _ _ _ _ { HTH.out with h5 := fun _ => rfl })
                | 6, _, hi, hib =>
                  have e5 : b5 = true := ready_dep hi rfl 5 (by kernel_rfl)
                  have he5 := HT.h5 e5
                  subst he5
                  have c18 : w'.cell? ⟨W8.heap.size, 0, none⟩ = some (.slice A5 r.length c5) := cell1 ((HT.bel.block _ HL9.out.2.2.2.2).trans HX9.out.2.2.2.2)
                  clear HT
                  refine wpOp_want rfl 5 true rfl rfl (fun K hK => ?_)
                  go_simp
                  exact hK.out _ _ (.mk b0 b1 b2 b3 b4 b5 true b7 b8 b9 b10 b11 b12 b13 b14 b15 b16 b17 b18 b19 _ _ _ _ _ _ _ _ _ _ _ _ _ _ _ _ _ _ _ _ _ { HTH.out with h6 := fun _ => rfl })
                | 7, _, hi, hib =>
                  have e5 : b5 = true := ready_dep hi rfl 5 (by kernel_rfl)
                  have he5 := HT.h5 e5
                  subst he5
                  have c9 : w'.cell? ⟨bwant, 0, none⟩ = some (.slice Av r.length cv) := (HT.bel.cell (p := ⟨bwant, 0, none⟩) HL9.out.2.2.2.1).trans HX9.out.2.2.2.1
                  clear HT
                  refine wpOp_want rfl 5 true rfl rfl (fun K hK => ?_)
                  go_simp
                  exact hK.out _ _ (.mk b0 b1 b2 b3 b4 b5 b6 true b8 b9 b10 b11 b12 b13 b14 b15 b16 b17 b18 b19 _ _ _ _ _ _ _ _ _ _ _ _ _ _ _ _ _ _ _ _ _ { HTH.out with h7 := fun _ => rfl })
                | 8, _, hi, hib =>
                  have e5 : b5 = true := ready_dep hi rfl 5 (by kernel_rfl)
                  have he5 := HT.h5 e5
                  subst he5
                  have d6 : b6 = true := ready_dep hi rfl 6 (by kernel_rfl)
                  have hd6 := HT.h6 d6
                  subst hd6
                  have d7 : b7 = true := ready_dep hi rfl 7 (by kernel_rfl)
                  have hd7 := HT.h7 d7
                  subst hd7
                  have HC := Lib.hid (alike_any A5 Av r.length c5 cv (plainRg r) w' W8.heap.size Wf.heap.size (HRx.out.below (HT.bel.mono HS9.out.2.2.1)) (HRw.out.below (HT.bel.mono HS9.out.2.2.2)) (Nat.le_trans HS9.out.2.2.1 HT.bel.size) (Nat.le_trans HS9.out.2.2.2 HT.bel.size) (by have := HML.out; omega) HLEN.out)
                  clear HT
                  refine wpOp_want rfl 5 true rfl rfl (fun K hK => ?_)
                  go_simp
                  refine HC.out.mono ?_
                  rintro e w2 ⟨rfl, hb⟩
                  exact hK.out _ _ (.mk b0 b1 b2 b3 b4 b5 b6 b7 true b9 b10 b11 b12 b13 b14 b15 b16 b17 b18 b19 _ _ _ _ _ _ _ _ _ _ _ _ _ _ _ _ _ _ _ _ _ { HTH.out with bel := HTH.out.bel.trans (hb.mono HTH.out.bel.size), h8 := fun _ => rfl })
                | 9, _, hi, hib =>
                  have d5 : b5 = true := ready_dep hi rfl 5 (by kernel_rfl)
                  have hd5 := HT.h5 d5
                  subst hd5
                  have d8 : b8 = true := ready_dep hi rfl 8 (by kernel_rfl)
                  have hd8 := HT.h8 d8
                  subst hd8
                  clear HT
                  refine wpOp_one rfl rfl (fun K hK => ?_)
                  go_simp
                  exact hK.out _ _ (.mk b0 b1 b2 b3 b4 b5 b6 b7 b8 true b10 b11 b12 b13 b14 b15 b16 b17 b18 b19 _ _ _ _ _ _ _ _ _ _ _ _ _ _ _ _ _ _ _ _ _ { HTH.out with h9 := fun _ => rfl })
                | 10, _, hi, hib =>
                  have d9 : b9 = true := ready_dep hi rfl 9 (by kernel_rfl)
                  have hd9 := HT.h9 d9
                  subst hd9
                  clear HT
                  refine wpOp_one rfl rfl (fun K hK => ?_)
                  go_simp
                  exact hK.out _ _ (.mk b0 b1 b2 b3 b4 b5 b6 b7 b8 b9 true b11 b12 b13 b14 b15 b16 b17 b18 b19 _ _ _ _ _ _ _ _ _ _ _ _ _ _ _ _ _ _ _ _ _ { HTH.out with h10 := fun _ => rfl })
                | 11, _, hi, hib =>
                  have e10 : b10 = true := ready_dep hi rfl 10 (by kernel_rfl)
                  have he10 := HT.h10 e10
                  subst he10
                  have c7 : w'.cell? ⟨W4.heap.size, 0, none⟩ = some (.slice A3 r.length c3) := cell1 ((HT.bel.block _ HL9.out.2.2.1).trans HX9.out.2.2.1)
                  clear HT
                  refine wpOp_want rfl 10 true rfl rfl (fun K hK => ?_)
                  go_simp
                  exact hK.out _ _ (.mk b0 b1 b2 b3 b4 b5 b6 b7 b8 b9 b10 true b12 b13 b14 b15 b16 b17 b18 b19 _ _ _ _ _ _ _ _ _ _ _ _ _ _ _ _ _ _ _ _ _ { HTH.out with h11 := fun _ => rfl })
                | 12, _, hi, hib =>
                  have e10 : b10 = true := ready_dep hi rfl 10 (by kernel_rfl)
                  have he10 := HT.h10 e10
                  subst he10
                  obtain ⟨y0, y1, y2, y3⟩ := cells4 ((HT.bel.block _ HL9.out.2.1).trans HX9.out.2.1)
                  clear HT
                  refine wpOp_want rfl 10 true rfl rfl (fun K hK => ?_)
                  go_simp
                  exact hK.out _ _ (.mk b0 b1 b2 b3 b4 b5 b6 b7 b8 b9 b10 b11 true b13 b14 b15 b16 b17 b18 b19 _ _ _ _ _ _ _ _ _ _ _ _ _ _ _ _ _ _ _ _ _ { HTH.out with h12 := fun _ => rfl })
                | 13, _, hi, hib =>
                  have e10 : b10 = true := ready_dep hi rfl 10 (by kernel_rfl)
                  have he10 := HT.h10 e10
                  subst he10
                  have d11 : b11 = true := ready_dep hi rfl 11 (by kernel_rfl)
                  have hd11 := HT.h11 d11
                  subst hd11
                  have d12 : b12 = true := ready_dep hi rfl 12 (by kernel_rfl)
                  have hd12 := HT.h12 d12
                  subst hd12
                  have hM := HM9.out.1.below HM9.out.2 HT.bel
                  have HC := Lib.hid (RgHas_any A3 r.length c3 (plainRg r) a c d s w' W4.heap.size (HRq.out.below (HT.bel.mono HS9.out.2.1)) (Nat.le_trans HS9.out.2.1 HT.bel.size) HFQ.out (by have := HSS.out; omega) (by have := HML.out; omega) hM.1 hM.2)
                  rw [HQP.out] at HC
                  clear hM
                  clear HT
                  refine wpOp_want rfl 10 true rfl rfl (fun K hK => ?_)
                  go_simp
                  refine HC.out.mono ?_
                  rintro e w2 ⟨rfl, hb⟩
                  exact hK.out _ _ (.mk b0 b1 b2 b3 b4 b5 b6 b7 b8 b9 b10 b11 b12 true b14 b15 b16 b17 b18 b19 _ _ _ _ _ _ _ _ _ _ _ _ _ _ _ _ _ _ _ _ _ { HTH.out with bel := HTH.out.bel.trans (hb.mono HTH.out.bel.size), h13 := fun _ => rfl })
                | 14, _, hi, hib =>
                  have e10 : b10 = true := ready_dep hi rfl 10 (by kernel_rfl)
                  have he10 := HT.h10 e10
                  subst he10
                  have c1 : w'.cell? ⟨w.heap.size, 0, none⟩ = some (.slice A m cp) := cell1 ((HT.bel.block _ HL9.out.1).trans HX9.out.1)
                  clear HT
                  refine wpOp_want rfl 10 true rfl rfl (fun K hK => ?_)
                  go_simp
                  exact hK.out _ _ (.mk b0 b1 b2 b3 b4 b5 b6 b7 b8 b9 b10 b11 b12 b13 true b15 b16 b17 b18 b19 _ _ _ _ _ _ _ _ _ _ _ _ _ _ _ _ _ _ _ _ _ { HTH.out with h14 := fun _ => rfl })
                | 15, _, hi, hib =>
                  have e10 : b10 = true := ready_dep hi rfl 10 (by kernel_rfl)
                  have he10 := HT.h10 e10
                  subst he10
                  obtain ⟨y0, y1, y2, y3⟩ := cells4 ((HT.bel.block _ HL9.out.2.1).trans HX9.out.2.1)
                  clear HT
                  refine wpOp_want rfl 10 true rfl rfl (fun K hK => ?_)
                  go_simp
                  exact hK.out _ _ (.mk b0 b1 b2 b3 b4 b5 b6 b7 b8 b9 b10 b11 b12 b13 b14 true b16 b17 b18 b19 _ _ _ _ _ _ _ _ _ _ _ _ _ _ _ _ _ _ _ _ _ { HTH.out with h15 := fun _ => rfl })
                | 16, _, hi, hib =>
                  have e10 : b10 = true := ready_dep hi rfl 10 (by kernel_rfl)
                  have he10 := HT.h10 e10
                  subst he10
                  have d14 : b14 = true := ready_dep hi rfl 14 (by kernel_rfl)
                  have hd14 := HT.h14 d14
                  subst hd14
                  have d15 : b15 = true := ready_dep hi rfl 15 (by kernel_rfl)
                  have hd15 := HT.h15 d15
                  subst hd15
                  have hM := HM9.out.1.below HM9.out.2 HT.bel
                  have HC := Lib.hid (RgHas_any A m cp r a c d s w' w.heap.size (HRr.out.below (HT.bel.mono HS9.out.1)) (Nat.le_trans HS9.out.1 HT.bel.size) HFI.out (by have := HSS.out; omega) (by have := HM20.out; omega) hM.1 hM.2)
                  rw [HQ.out] at HC
                  clear hM
                  clear HT
                  refine wpOp_want rfl 10 true rfl rfl (fun K hK => ?_)
                  go_simp
                  refine HC.out.mono ?_
                  rintro e w2 ⟨rfl, hb⟩
                  exact hK.out _ _ (.mk b0 b1 b2 b3 b4 b5 b6 b7 b8 b9 b10 b11 b12 b13 b14 b15 true b17 b18 b19 _ _ _ _ _ _ _ _ _ _ _ _ _ _ _ _ _ _ _ _ _ { HTH.out with bel := HTH.out.bel.trans (hb.mono HTH.out.bel.size), h16 := fun _ => rfl })
                | 17, _, hi, hib =>
                  have e10 : b10 = true := ready_dep hi rfl 10 (by kernel_rfl)
                  have he10 := HT.h10 e10
                  subst he10
                  have d13 : b13 = true := ready_dep hi rfl 13 (by kernel_rfl)
                  have hd13 := HT.h13 d13
                  subst hd13
                  have d16 : b16 = true := ready_dep hi rfl 16 (by kernel_rfl)
                  have hd16 := HT.h16 d16
                  subst hd16
                  clear HT
                  refine wpOp_want rfl 10 true rfl rfl (fun K hK => ?_)
                  go_simp
                  exact hK.out _ _ (.mk b0 b1 b2 b3 b4 b5 b6 b7 b8 b9 b10 b11 b12 b13 b14 b15 b16 true b18 b19 _ _ _ _ _ _ _ _ _ _ _ _ _ _ _ _ _ _ _ _ _ { HTH.out with h17 := fun _ => rfl })
                | 18, _, hi, hib =>
                  have d10 : b10 = true := ready_dep hi rfl 10 (by kernel_rfl)
                  have hd10 := HT.h10 d10
                  subst hd10
                  have d17 : b17 = true := ready_dep hi rfl 17 (by kernel_rfl)
                  have hd17 := HT.h17 d17
                  subst hd17
                  clear HT
                  refine wpOp_one rfl rfl (fun K hK => ?_)
                  go_simp
                  exact hK.out _ _ (.mk b0 b1 b2 b3 b4 b5 b6 b7 b8 b9 b10 b11 b12 b13 b14 b15 b16 b17 true b19 _ _ _ _ _ _ _ _ _ _ _ _ _ _ _ _ _ _ _ _ _ { HTH.out with h18 := fun _ => rfl })
                | 19, _, hi, hib =>
                  have d18 : b18 = true := ready_dep hi rfl 18 (by kernel_rfl)
                  have hd18 := HT.h18 d18
                  subst hd18
                  clear HT
                  refine wpOp_one rfl rfl (fun K hK => ?_)
                  go_simp
                  exact hK.out _ _ (.mk b0 b1 b2 b3 b4 b5 b6 b7 b8 b9 b10 b11 b12 b13 b14 b15 b16 b17 b18 true _ _ _ _ _ _ _ _ _ _ _ _ _ _ _ _ _ _ _ _ _ { HTH.out with h19 := fun _ => rfl })
              case fin =>
                rintro lq a' w' ⟨b0, b1, b2, b3, b4, b5, b6, b7, b8, b9, b10, b11, b12, b13, b14, b15, b16, b17, b18, b19, v4, v116, v117, v118, v119, v120, v121, v122, v123, v124, v125, v126, v127, v128, v129, v130, v131, v132, v133, v134, _, HT⟩ hr
                obtain rfl : b0 = true := by
                  cases b0 with
                  | true => rfl
                  | false => exact (ready_in 0 rfl rfl (by simp [Region.binds]) hr).elim
                obtain rfl : b1 = true := by
                  cases b1 with
                  | true => rfl
                  | false => exact (ready_in 1 rfl rfl (by simp [Region.binds]) hr).elim
                obtain rfl : b2 = true := by
                  cases b2 with
                  | true => rfl
                  | false => exact (ready_in 2 rfl rfl (by simp [Region.binds]) hr).elim
                obtain rfl : b3 = true := by
                  cases b3 with
                  | true => rfl
                  | false => exact (ready_in 3 rfl rfl (by simp [Region.binds]) hr).elim
                obtain rfl : b4 = true := by
                  cases b4 with
                  | true => rfl
                  | false => exact (ready_in 4 rfl rfl (by simp [Region.binds]) hr).elim
                obtain rfl : b5 = true := by
                  cases b5 with
                  | true => rfl
                  | false => exact (ready_in 5 rfl rfl (by simp [Region.binds]) hr).elim
                obtain rfl : b6 = true := by
                  cases b6 with
                  | true => rfl
                  | false => exact (ready_in 6 rfl rfl (by simp [Region.binds]) hr).elim
                obtain rfl : b7 = true := by
                  cases b7 with
                  | true => rfl
                  | false => exact (ready_in 7 rfl rfl (by simp [Region.binds]) hr).elim
                obtain rfl : b8 = true := by
                  cases b8 with
                  | true => rfl
                  | false => exact (ready_in 8 rfl rfl (by simp [Region.binds]) hr).elim
                obtain rfl : b9 = true := by
                  cases b9 with
                  | true => rfl
                  | false => exact (ready_in 9 rfl rfl (by simp [Region.binds]) hr).elim
                obtain rfl : b10 = true := by
                  cases b10 with
                  | true => rfl
                  | false => exact (ready_in 10 rfl rfl (by simp [Region.binds]) hr).elim
                obtain rfl : b11 = true := by
                  cases b11 with
                  | true => rfl
                  | false => exact (ready_in 11 rfl rfl (by simp [Region.binds]) hr).elim
                obtain rfl : b12 = true := by
                  cases b12 with
                  | true => rfl
                  | false => exact (ready_in 12 rfl rfl (by simp [Region.binds]) hr).elim
                obtain rfl : b13 = true := by
                  cases b13 with
                  | true => rfl
                  | false => exact (ready_in 13 rfl rfl (by simp [Region.binds]) hr).elim
                obtain rfl : b14 = true := by
                  cases b14 with
                  | true => rfl
                  | false => exact (ready_in 14 rfl rfl (by simp [Region.binds]) hr).elim
                obtain rfl : b15 = true := by
                  cases b15 with
                  | true => rfl
                  | false => exact (ready_in 15 rfl rfl (by simp [Region.binds]) hr).elim
                obtain rfl : b16 = true := by
                  cases b16 with
                  | true => rfl
                  | false => exact (ready_in 16 rfl rfl (by simp [Region.binds]) hr).elim
                obtain rfl : b17 = true := by
                  cases b17 with
                  | true => rfl
                  | false => exact (ready_in 17 rfl rfl (by simp [Region.binds]) hr).elim
                obtain rfl : b18 = true := by
                  cases b18 with
                  | true => rfl
                  | false => exact (ready_in 18 rfl rfl (by simp [Region.binds]) hr).elim
                obtain rfl : b19 = true := by
                  cases b19 with
                  | true => rfl
                  | false => exact (ready_in 19 rfl rfl (by simp [Region.binds]) hr).elim
                have k0 := HT.h0 rfl
                subst k0
                have k1 := HT.h1 rfl
                subst k1
                have k2 := HT.h2 rfl
                subst k2
                have k3 := HT.h3 rfl
                subst k3
                have k4 := HT.h4 rfl
                subst k4
                have k5 := HT.h5 rfl
                subst k5
                have k6 := HT.h6 rfl
                subst k6
                have k7 := HT.h7 rfl
                subst k7
                have k8 := HT.h8 rfl
                subst k8
                have k9 := HT.h9 rfl
                subst k9
                have k10 := HT.h10 rfl
                subst k10
                have k11 := HT.h11 rfl
                subst k11
                have k12 := HT.h12 rfl
                subst k12
                have k13 := HT.h13 rfl
                subst k13
                have k14 := HT.h14 rfl
                subst k14
                have k15 := HT.h15 rfl
                subst k15
                have k16 := HT.h16 rfl
                subst k16
                have k17 := HT.h17 rfl
                subst k17
                have k18 := HT.h18 rfl
                subst k18
                have k19 := HT.h19 rfl
                subst k19
                have HF2 : Hid (Below w.heap.size w w') := Lib.hid (HBW9.out.trans (HT.bel.mono HBW9.out.size))
                clear HT hr
                show _
                go_wp2
                refine bodyPost_ret (results_tmp rfl _ _ _) rfl ⟨rfl, HF2.out⟩
end Go.Proofs.YtbmhjmdbolnbaaaDoor
