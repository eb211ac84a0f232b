/-
  THE WALK of the statement LatticeBorder (printed by genlawlb.py): whatever the graph and the set, the call returns true and writes nothing that was there.
-/
import Derived.Test.YtfcabdgidlnljaaDoorLBord
import Derived.Test.YtfcabdgidlnljaaDoorDCirc
namespace Go.Proofs.YtfcabdgidlnljaaDoor
open Go.RowKit
open DiP
set_option linter.unusedVariables false
set_option linter.unusedSimpArgs false
set_option maxRecDepth 100000
structure BaSt (w0 : World) (vp vs vi vh va : Value) (bh : Bool) (b0 b1 b2 b3 b4 b5 b6 b7 b8 b9 b10 b11 b12 b13 b14 b15 b16 b17 : Bool) (v88 v89 v90 v91 v92 v93 v94 v95 v96 v97 v98 v99 v100 v101 v102 v103 v104 v105 : Value) (w' : World) : Prop where
  bel : Below w0.heap.size w0 w'
  h0 : b0 = true → v88 = vp
  h1 : b1 = true → v89 = vs
  h2 : b2 = true → v90 = .bool false
  h3 : b3 = true → v91 = .bool false
  h4 : b4 = true → v92 = undef
  h5 : b5 = true → v93 = undef
  h6 : b6 = true → v94 = undef
  h7 : b7 = true → v95 = .bool false
  h8 : b8 = true → v96 = .bool false
  h9 : b9 = true → v97 = undef
  h10 : b10 = true → v98 = undef
  h11 : b11 = true → v99 = undef
  h12 : b12 = true → v100 = undef
  h13 : b13 = true → v101 = undef
  h14 : b14 = true → v102 = undef
  h15 : b15 = true → v103 = undef
  h16 : b16 = true → v104 = undef
  h17 : b17 = true → v105 = .bool false
inductive BaJ (w0 : World) (vp vs vi vh va : Value) (bh : Bool) (p0 p1 p2 p3 p4 p5 p6 p7 p8 p9 p10 p11 p12 p13 p14 p15 p16 p17 p18 p19 p20 p21 p22 p23 p24 p25 p26 p27 p28 p29 p30 p31 p32 p33 p34 p35 p36 p37 p38 p39 p40 p41 p42 p43 p44 p45 p46 p47 p48 p49 p50 p51 p52 p53 p54 p55 p56 p57 p58 p59 p60 p61 p62 p63 p64 p65 p66 p67 p68 p69 p70 p71 p72 p73 p74 p75 p76 p77 p78 p79 p80 p81 p82 p83 p84 p85 p86 p87 : Value) : Array Bool → Act → World → Prop where
  | mk (b0 b1 b2 b3 b4 b5 b6 b7 b8 b9 b10 b11 b12 b13 b14 b15 b16 b17 : Bool) (v88 v89 v90 v91 v92 v93 v94 v95 v96 v97 v98 v99 v100 v101 v102 v103 v104 v105 : Value) (w' : World) : BaSt w0 vp vs vi vh va bh b0 b1 b2 b3 b4 b5 b6 b7 b8 b9 b10 b11 b12 b13 b14 b15 b16 b17 v88 v89 v90 v91 v92 v93 v94 v95 v96 v97 v98 v99 v100 v101 v102 v103 v104 v105 w' → BaJ w0 vp vs vi vh va bh p0 p1 p2 p3 p4 p5 p6 p7 p8 p9 p10 p11 p12 p13 p14 p15 p16 p17 p18 p19 p20 p21 p22 p23 p24 p25 p26 p27 p28 p29 p30 p31 p32 p33 p34 p35 p36 p37 p38 p39 p40 p41 p42 p43 p44 p45 p46 p47 p48 p49 p50 p51 p52 p53 p54 p55 p56 p57 p58 p59 p60 p61 p62 p63 p64 p65 p66 p67 p68 p69 p70 p71 p72 p73 p74 p75 p76 p77 p78 p79 p80 p81 p82 p83 p84 p85 p86 p87 #[b0, b1, b2, b3, b4, b5, b6, b7, b8, b9, b10, b11, b12, b13, b14, b15, b16, b17] { tmps := List.toArray (p0 :: p1 :: p2 :: p3 :: p4 :: p5 :: p6 :: p7 :: p8 :: p9 :: p10 :: p11 :: p12 :: p13 :: p14 :: p15 :: p16 :: p17 :: p18 :: p19 :: p20 :: p21 :: p22 :: p23 :: p24 :: p25 :: p26 :: p27 :: p28 :: p29 :: p30 :: p31 :: p32 :: p33 :: p34 :: p35 :: p36 :: p37 :: p38 :: p39 :: p40 :: p41 :: p42 :: p43 :: p44 :: p45 :: p46 :: p47 :: p48 :: p49 :: p50 :: p51 :: p52 :: p53 :: p54 :: p55 :: p56 :: p57 :: p58 :: p59 :: p60 :: p61 :: p62 :: p63 :: p64 :: p65 :: p66 :: p67 :: p68 :: p69 :: p70 :: p71 :: p72 :: p73 :: p74 :: p75 :: p76 :: p77 :: p78 :: p79 :: p80 :: p81 :: p82 :: p83 :: p84 :: p85 :: p86 :: p87 :: v88 :: v89 :: v90 :: v91 :: v92 :: v93 :: v94 :: v95 :: v96 :: v97 :: v98 :: v99 :: v100 :: v101 :: v102 :: v103 :: v104 :: v105 :: []), defers := [] } w'
structure BbSt (w0 : World) (vp vs vi vh va : Value) (bh : Bool) (b0 b1 b2 b3 b4 b5 b6 b7 b8 b9 b10 b11 b12 b13 b14 b15 b16 b17 : Bool) (v88 v89 v90 v91 v92 v93 v94 v95 v96 v97 v98 v99 v100 v101 v102 v103 v104 v105 : Value) (w' : World) : Prop where
  bel : Below w0.heap.size w0 w'
  h0 : b0 = true → v88 = vp
  h1 : b1 = true → v89 = vs
  h2 : b2 = true → v90 = .bool true
  h3 : b3 = true → v91 = .bool true
  h4 : b4 = true → v92 = vp
  h5 : b5 = true → v93 = .bool true
  h6 : b6 = true → v94 = .bool false
  h7 : b7 = true → v95 = .bool false
  h8 : b8 = true → v96 = .bool false
  h9 : b9 = true → v97 = undef
  h10 : b10 = true → v98 = undef
  h11 : b11 = true → v99 = undef
  h12 : b12 = true → v100 = undef
  h13 : b13 = true → v101 = undef
  h14 : b14 = true → v102 = undef
  h15 : b15 = true → v103 = undef
  h16 : b16 = true → v104 = undef
  h17 : b17 = true → v105 = .bool false
inductive BbJ (w0 : World) (vp vs vi vh va : Value) (bh : Bool) (p0 p1 p2 p3 p4 p5 p6 p7 p8 p9 p10 p11 p12 p13 p14 p15 p16 p17 p18 p19 p20 p21 p22 p23 p24 p25 p26 p27 p28 p29 p30 p31 p32 p33 p34 p35 p36 p37 p38 p39 p40 p41 p42 p43 p44 p45 p46 p47 p48 p49 p50 p51 p52 p53 p54 p55 p56 p57 p58 p59 p60 p61 p62 p63 p64 p65 p66 p67 p68 p69 p70 p71 p72 p73 p74 p75 p76 p77 p78 p79 p80 p81 p82 p83 p84 p85 p86 p87 : Value) : Array Bool → Act → World → Prop where
  | mk (b0 b1 b2 b3 b4 b5 b6 b7 b8 b9 b10 b11 b12 b13 b14 b15 b16 b17 : Bool) (v88 v89 v90 v91 v92 v93 v94 v95 v96 v97 v98 v99 v100 v101 v102 v103 v104 v105 : Value) (w' : World) : BbSt w0 vp vs vi vh va bh b0 b1 b2 b3 b4 b5 b6 b7 b8 b9 b10 b11 b12 b13 b14 b15 b16 b17 v88 v89 v90 v91 v92 v93 v94 v95 v96 v97 v98 v99 v100 v101 v102 v103 v104 v105 w' → BbJ w0 vp vs vi vh va bh p0 p1 p2 p3 p4 p5 p6 p7 p8 p9 p10 p11 p12 p13 p14 p15 p16 p17 p18 p19 p20 p21 p22 p23 p24 p25 p26 p27 p28 p29 p30 p31 p32 p33 p34 p35 p36 p37 p38 p39 p40 p41 p42 p43 p44 p45 p46 p47 p48 p49 p50 p51 p52 p53 p54 p55 p56 p57 p58 p59 p60 p61 p62 p63 p64 p65 p66 p67 p68 p69 p70 p71 p72 p73 p74 p75 p76 p77 p78 p79 p80 p81 p82 p83 p84 p85 p86 p87 #[b0, b1, b2, b3, b4, b5, b6, b7, b8, b9, b10, b11, b12, b13, b14, b15, b16, b17] { tmps := List.toArray (p0 :: p1 :: p2 :: p3 :: p4 :: p5 :: p6 :: p7 :: p8 :: p9 :: p10 :: p11 :: p12 :: p13 :: p14 :: p15 :: p16 :: p17 :: p18 :: p19 :: p20 :: p21 :: p22 :: p23 :: p24 :: p25 :: p26 :: p27 :: p28 :: p29 :: p30 :: p31 :: p32 :: p33 :: p34 :: p35 :: p36 :: p37 :: p38 :: p39 :: p40 :: p41 :: p42 :: p43 :: p44 :: p45 :: p46 :: p47 :: p48 :: p49 :: p50 :: p51 :: p52 :: p53 :: p54 :: p55 :: p56 :: p57 :: p58 :: p59 :: p60 :: p61 :: p62 :: p63 :: p64 :: p65 :: p66 :: p67 :: p68 :: p69 :: p70 :: p71 :: p72 :: p73 :: p74 :: p75 :: p76 :: p77 :: p78 :: p79 :: p80 :: p81 :: p82 :: p83 :: p84 :: p85 :: p86 :: p87 :: v88 :: v89 :: v90 :: v91 :: v92 :: v93 :: v94 :: v95 :: v96 :: v97 :: v98 :: v99 :: v100 :: v101 :: v102 :: v103 :: v104 :: v105 :: []), defers := [] } w'
structure BcSt (w0 : World) (vp vs vi vh va : Value) (bh : Bool) (b0 b1 b2 b3 b4 b5 b6 b7 b8 b9 b10 b11 b12 b13 b14 b15 b16 b17 : Bool) (v88 v89 v90 v91 v92 v93 v94 v95 v96 v97 v98 v99 v100 v101 v102 v103 v104 v105 : Value) (w' : World) : Prop where
  bel : Below w0.heap.size w0 w'
  h0 : b0 = true → v88 = vp
  h1 : b1 = true → v89 = vs
  h2 : b2 = true → v90 = .bool true
  h3 : b3 = true → v91 = .bool true
  h4 : b4 = true → v92 = vp
  h5 : b5 = true → v93 = .bool false
  h6 : b6 = true → v94 = .bool true
  h7 : b7 = true → v95 = .bool true
  h8 : b8 = true → v96 = .bool true
  h9 : b9 = true → v97 = vp
  h10 : b10 = true → v98 = vs
  h11 : b11 = true → v99 = vi
  h12 : b12 = true → v100 = vh
  h13 : b13 = true → v101 = va
  h14 : b14 = true → v102 = .bool (!bh)
  h15 : b15 = true → v103 = .bool bh
  h16 : b16 = true → v104 = .bool false
  h17 : b17 = true → v105 = .bool false
inductive BcJ (w0 : World) (vp vs vi vh va : Value) (bh : Bool) (p0 p1 p2 p3 p4 p5 p6 p7 p8 p9 p10 p11 p12 p13 p14 p15 p16 p17 p18 p19 p20 p21 p22 p23 p24 p25 p26 p27 p28 p29 p30 p31 p32 p33 p34 p35 p36 p37 p38 p39 p40 p41 p42 p43 p44 p45 p46 p47 p48 p49 p50 p51 p52 p53 p54 p55 p56 p57 p58 p59 p60 p61 p62 p63 p64 p65 p66 p67 p68 p69 p70 p71 p72 p73 p74 p75 p76 p77 p78 p79 p80 p81 p82 p83 p84 p85 p86 p87 : Value) : Array Bool → Act → World → Prop where
  | mk (b0 b1 b2 b3 b4 b5 b6 b7 b8 b9 b10 b11 b12 b13 b14 b15 b16 b17 : Bool) (v88 v89 v90 v91 v92 v93 v94 v95 v96 v97 v98 v99 v100 v101 v102 v103 v104 v105 : Value) (w' : World) : BcSt w0 vp vs vi vh va bh b0 b1 b2 b3 b4 b5 b6 b7 b8 b9 b10 b11 b12 b13 b14 b15 b16 b17 v88 v89 v90 v91 v92 v93 v94 v95 v96 v97 v98 v99 v100 v101 v102 v103 v104 v105 w' → BcJ w0 vp vs vi vh va bh p0 p1 p2 p3 p4 p5 p6 p7 p8 p9 p10 p11 p12 p13 p14 p15 p16 p17 p18 p19 p20 p21 p22 p23 p24 p25 p26 p27 p28 p29 p30 p31 p32 p33 p34 p35 p36 p37 p38 p39 p40 p41 p42 p43 p44 p45 p46 p47 p48 p49 p50 p51 p52 p53 p54 p55 p56 p57 p58 p59 p60 p61 p62 p63 p64 p65 p66 p67 p68 p69 p70 p71 p72 p73 p74 p75 p76 p77 p78 p79 p80 p81 p82 p83 p84 p85 p86 p87 #[b0, b1, b2, b3, b4, b5, b6, b7, b8, b9, b10, b11, b12, b13, b14, b15, b16, b17] { tmps := List.toArray (p0 :: p1 :: p2 :: p3 :: p4 :: p5 :: p6 :: p7 :: p8 :: p9 :: p10 :: p11 :: p12 :: p13 :: p14 :: p15 :: p16 :: p17 :: p18 :: p19 :: p20 :: p21 :: p22 :: p23 :: p24 :: p25 :: p26 :: p27 :: p28 :: p29 :: p30 :: p31 :: p32 :: p33 :: p34 :: p35 :: p36 :: p37 :: p38 :: p39 :: p40 :: p41 :: p42 :: p43 :: p44 :: p45 :: p46 :: p47 :: p48 :: p49 :: p50 :: p51 :: p52 :: p53 :: p54 :: p55 :: p56 :: p57 :: p58 :: p59 :: p60 :: p61 :: p62 :: p63 :: p64 :: p65 :: p66 :: p67 :: p68 :: p69 :: p70 :: p71 :: p72 :: p73 :: p74 :: p75 :: p76 :: p77 :: p78 :: p79 :: p80 :: p81 :: p82 :: p83 :: p84 :: p85 :: p86 :: p87 :: v88 :: v89 :: v90 :: v91 :: v92 :: v93 :: v94 :: v95 :: v96 :: v97 :: v98 :: v99 :: v100 :: v101 :: v102 :: v103 :: v104 :: v105 :: []), defers := [] } w'
set_option maxHeartbeats 4000000 in
theorem law_border_skip {w : World} {m c : Nat} {n a : Int} {A : Option Addr} {es : List (Int × Int)} (hx : RdE w w.heap.size A m es) (hm0 : m ≤ 9223372036854775807) (hok : ¬ (m ≤ 60 ∧ (n ≤ 10 ∨ ¬ GraphR n es))) (hT : Tz w) (h0 : 0 < w.heap.size) :
    Calls Tryd.prog 7 #[.agg #[.int .i64 n, .slice A m c], .int .u64 a] w fun e w' => e = .returned (.bool true) ∧ Below w.heap.size w w' := by
  obtain ⟨k, hk⟩ : ∃ k, w.heap.size = k := ⟨_, rfl⟩
  have Hk := Lib.hid hk
  obtain ⟨W0, hW0⟩ : ∃ W0, w.alloc (.cells #[.int .i64 n, .slice A m c] 24) = W0 := ⟨_, rfl⟩
  have hb0 : Below k w W0 := by rw [← hW0, ← hk]; exact (Below.refl _ w).alloc (Nat.le_refl _) _
  have hz0 : W0.heap.size = k + 1 := by rw [← hW0, World.size_alloc, hk]
  have hh0 : W0.heap[k]? = some (.cells #[.int .i64 n, .slice A m c] 24 (0, 0)) := by rw [← hW0, ← hk]; exact World.alloc_heap_new _ _
  have HB0 := Lib.hid hb0
  have HZ0 := Lib.hid hz0
  have HH0 := Lib.hid hh0
  have HX := Lib.hid hx
  have HAN := Lib.hid (anchor_any W0 (hT.below hb0 (by omega)) (by omega))
  have HW0 := Lib.hid hW0
  have HT0 : Hid (Tz w) := Lib.hid hT
  clear hx hT hb0 hz0 hh0 hW0
  go_enter Tryd.func7, Tryd.ntmps7
  go_wp2_with fail
  rw [HW0.out]
  refine HAN.out.mono ?_
  rintro e W1 ⟨rfl, hb⟩
  clear HAN
  have HB1 : Hid (Below k w W1) := Lib.hid (HB0.out.trans (hb.mono (by rw [HZ0.out]; omega)))
  have HZ1 : Hid (k + 1 ≤ W1.heap.size) := Lib.hid (by have := hb.size; rw [HZ0.out] at this; exact this)
  have HH1 : Hid (W1.heap[k]? = some (.cells #[.int .i64 n, .slice A m c] 24 (0, 0))) := Lib.hid ((hb.block k (by rw [HZ0.out]; omega)).trans HH0.out)
  have hg := HH1.out
  have hc0 : W1.cell? ⟨k, 0, none⟩ = some (.int .i64 n) := by simp [World.cell?, hg]
  have hc1 : W1.cell? ⟨k, 1, none⟩ = some (.slice A m c) := by simp [World.cell?, hg]
  have HPL := Lib.hid (plain_any (c := c) (z := n) (HX.out.below (B := w.heap.size) (by rw [Hk.out]; exact HB1.out)) (by rw [Hk.out]; have := HZ1.out; omega) hm0 false ⟨nofun, fun h => (hok h).elim⟩)
  clear hb hg
  go_wp2_with fail
  refine HPL.out.mono ?_
  rintro e W2 ⟨rfl, hb⟩
  clear HPL hc0 hc1
  obtain ⟨p2, hp2⟩ : ∃ p2, W2.heap.size = p2 := ⟨_, rfl⟩
  obtain ⟨W3, hW3⟩ : ∃ W3, W2.alloc (.cells #[.int .i64 n, .slice A m c] 26) = W3 := ⟨_, rfl⟩
  have hkp : k < p2 := by rw [← hp2]; exact Nat.lt_of_lt_of_le (show k < W1.heap.size by have := HZ1.out; omega) hb.size
  have HKP := Lib.hid hkp
  have HB3 : Hid (Below k w W3) := Lib.hid (by rw [← hW3]; exact (HB1.out.trans (hb.mono (by have := HZ1.out; omega))).alloc (by omega) _)
  have HZ3 : Hid (p2 + 1 ≤ W3.heap.size) := Lib.hid (by rw [← hW3, World.size_alloc, hp2]; omega)
  have HG3 : Hid (W3.heap[k]? = some (.cells #[.int .i64 n, .slice A m c] 24 (0, 0))) := Lib.hid (by rw [← hW3, Below.heap_alloc _ _ _ (by omega)]; exact (hb.block k (by have := HZ1.out; omega)).trans HH1.out)
  have HP3 : Hid (W3.heap[p2]? = some (.cells #[.int .i64 n, .slice A m c] 26 (0, 0))) := Lib.hid (by rw [← hW3, ← hp2]; exact World.alloc_heap_new _ _)
  have HW3 := Lib.hid hW3
  clear hb hW3 hkp
  go_wp2
  rw [HW3.out]
  go_ret
  exact ⟨rfl, by rw [Hk.out]; exact HB3.out⟩
set_option maxHeartbeats 4000000 in
theorem law_border_wrong {w : World} {m c : Nat} {n a : Int} {A : Option Addr} {es : List (Int × Int)} (hx : RdE w w.heap.size A m es) (hm0 : m ≤ 9223372036854775807) (hm : m ≤ 60) (hr : ¬ GraphR n es) (hT : Tz w) (h0 : 0 < w.heap.size) :
    Calls Tryd.prog 7 #[.agg #[.int .i64 n, .slice A m c], .int .u64 a] w fun e w' => e = .returned (.bool true) ∧ Below w.heap.size w w' := by
  obtain ⟨k, hk⟩ : ∃ k, w.heap.size = k := ⟨_, rfl⟩
  have Hk := Lib.hid hk
  obtain ⟨W0, hW0⟩ : ∃ W0, w.alloc (.cells #[.int .i64 n, .slice A m c] 24) = W0 := ⟨_, rfl⟩
  have hb0 : Below k w W0 := by rw [← hW0, ← hk]; exact (Below.refl _ w).alloc (Nat.le_refl _) _
  have hz0 : W0.heap.size = k + 1 := by rw [← hW0, World.size_alloc, hk]
  have hh0 : W0.heap[k]? = some (.cells #[.int .i64 n, .slice A m c] 24 (0, 0)) := by rw [← hW0, ← hk]; exact World.alloc_heap_new _ _
  have HB0 := Lib.hid hb0
  have HZ0 := Lib.hid hz0
  have HH0 := Lib.hid hh0
  have HX := Lib.hid hx
  have HAN := Lib.hid (anchor_any W0 (hT.below hb0 (by omega)) (by omega))
  have HW0 := Lib.hid hW0
  have HT0 : Hid (Tz w) := Lib.hid hT
  clear hx hT hb0 hz0 hh0 hW0
  go_enter Tryd.func7, Tryd.ntmps7
  go_wp2_with fail
  rw [HW0.out]
  refine HAN.out.mono ?_
  rintro e W1 ⟨rfl, hb⟩
  clear HAN
  have HB1 : Hid (Below k w W1) := Lib.hid (HB0.out.trans (hb.mono (by rw [HZ0.out]; omega)))
  have HZ1 : Hid (k + 1 ≤ W1.heap.size) := Lib.hid (by have := hb.size; rw [HZ0.out] at this; exact this)
  have HH1 : Hid (W1.heap[k]? = some (.cells #[.int .i64 n, .slice A m c] 24 (0, 0))) := Lib.hid ((hb.block k (by rw [HZ0.out]; omega)).trans HH0.out)
  have hg := HH1.out
  have hc0 : W1.cell? ⟨k, 0, none⟩ = some (.int .i64 n) := by simp [World.cell?, hg]
  have hc1 : W1.cell? ⟨k, 1, none⟩ = some (.slice A m c) := by simp [World.cell?, hg]
  have HPL := Lib.hid (plain_any (c := c) (z := n) (HX.out.below (B := w.heap.size) (by rw [Hk.out]; exact HB1.out)) (by rw [Hk.out]; have := HZ1.out; omega) hm0 true ⟨fun _ => ⟨hm, .inr hr⟩, fun _ => rfl⟩)
  clear hb hg
  go_wp2_with fail
  refine HPL.out.mono ?_
  rintro e W2 ⟨rfl, hb⟩
  clear HPL hc0 hc1
  obtain ⟨p2, hp2⟩ : ∃ p2, W2.heap.size = p2 := ⟨_, rfl⟩
  obtain ⟨W3, hW3⟩ : ∃ W3, W2.alloc (.cells #[.int .i64 n, .slice A m c] 26) = W3 := ⟨_, rfl⟩
  have hkp : k < p2 := by rw [← hp2]; exact Nat.lt_of_lt_of_le (show k < W1.heap.size by have := HZ1.out; omega) hb.size
  have HKP := Lib.hid hkp
  have HB3 : Hid (Below k w W3) := Lib.hid (by rw [← hW3]; exact (HB1.out.trans (hb.mono (by have := HZ1.out; omega))).alloc (by omega) _)
  have HZ3 : Hid (p2 + 1 ≤ W3.heap.size) := Lib.hid (by rw [← hW3, World.size_alloc, hp2]; omega)
  have HG3 : Hid (W3.heap[k]? = some (.cells #[.int .i64 n, .slice A m c] 24 (0, 0))) := Lib.hid (by rw [← hW3, Below.heap_alloc _ _ _ (by omega)]; exact (hb.block k (by have := HZ1.out; omega)).trans HH1.out)
  have HP3 : Hid (W3.heap[p2]? = some (.cells #[.int .i64 n, .slice A m c] 26 (0, 0))) := Lib.hid (by rw [← hW3, ← hp2]; exact World.alloc_heap_new _ _)
  have HW3 := Lib.hid hW3
  clear hb hW3 hkp
  have hg := HG3.out
  have g0 : W3.cell? ⟨k, 0, none⟩ = some (.int .i64 n) := by simp [World.cell?, hg]
  have g1 : W3.cell? ⟨k, 1, none⟩ = some (.slice A m c) := by simp [World.cell?, hg]
  clear hg
  have HDN := Lib.hid (border_bad (c := c) (z := a) (HX.out.below (B := w.heap.size) (by rw [Hk.out]; exact HB3.out)) hr hm0 (by rw [Hk.out]; have := HZ3.out; have := HKP.out; omega))
  have hW3 := HW3.out
  rw [← hW3] at g0 g1
  clear hW3
  go_wp2_with fail
  rw [HW3.out]
  refine HDN.out.mono ?_
  rintro e W4 ⟨rfl, hb⟩
  clear HDN g0 g1
  have HB4 : Hid (Below k w W4) := Lib.hid (HB3.out.trans (hb.mono (by have := HZ3.out; have := HKP.out; omega)))
  have HZ4 : Hid (p2 + 1 ≤ W4.heap.size) := Lib.hid (Nat.le_trans HZ3.out hb.size)
  have HG4 : Hid (W4.heap[k]? = some (.cells #[.int .i64 n, .slice A m c] 24 (0, 0))) := Lib.hid ((hb.block k (by have := HZ3.out; have := HKP.out; omega)).trans HG3.out)
  have HP4 : Hid (W4.heap[p2]? = some (.cells #[.int .i64 n, .slice A m c] 26 (0, 0))) := Lib.hid ((hb.block p2 (by have := HZ3.out; omega)).trans HP3.out)
  clear hb
  have hg := HP4.out
  have q0 : W4.cell? ⟨p2, 0, none⟩ = some (.int .i64 n) := by simp [World.cell?, hg]
  have q1 : W4.cell? ⟨p2, 1, none⟩ = some (.slice A m c) := by simp [World.cell?, hg]
  clear hg
  have HRT := Lib.hid (right_no (c := c) (HX.out.below (B := w.heap.size) (by rw [Hk.out]; exact HB4.out)) hr hm0 (by rw [Hk.out]; have := HZ4.out; have := HKP.out; omega))
  go_wp2_with fail
  refine HRT.out.mono ?_
  rintro e W5 ⟨rfl, hb⟩
  clear HRT q0 q1
  have HB5 : Hid (Below k w W5) := Lib.hid (HB4.out.trans (hb.mono (by have := HZ4.out; have := HKP.out; omega)))
  have HZ5 : Hid (p2 + 1 ≤ W5.heap.size) := Lib.hid (Nat.le_trans HZ4.out hb.size)
  have HG5 : Hid (W5.heap[k]? = some (.cells #[.int .i64 n, .slice A m c] 24 (0, 0))) := Lib.hid ((hb.block k (by have := HZ4.out; have := HKP.out; omega)).trans HG4.out)
  have HP5 : Hid (W5.heap[p2]? = some (.cells #[.int .i64 n, .slice A m c] 26 (0, 0))) := Lib.hid ((hb.block p2 (by have := HZ4.out; omega)).trans HP4.out)
  clear hb
  go_wp2
  go_ret
  exact ⟨rfl, by rw [Hk.out]; exact HB5.out⟩
set_option maxHeartbeats 4000000 in
theorem law_border_out {w : World} {m c : Nat} {N s : Nat} {A : Option Addr} {g : List (Nat × Nat)} (hx : RdG w w.heap.size A m g) (hi : InN N g) (hn : N ≤ 10) (hm : m ≤ 60) (hs : s < lim) (hf : fitsB s N = false) (hT : Tz w) (h0 : 0 < w.heap.size) :
    Calls Tryd.prog 7 #[.agg #[.int .i64 (N : Int), .slice A m c], .int .u64 (s : Int)] w fun e w' => e = .returned (.bool true) ∧ Below w.heap.size w w' := by
  have hr : GraphR (N : Int) (castE g) := graphR_cast hi (show N ≤ 64 by omega) (by rw [hx.len]; omega)
  have hm0 : m ≤ 9223372036854775807 := by omega
  obtain ⟨k, hk⟩ : ∃ k, w.heap.size = k := ⟨_, rfl⟩
  have Hk := Lib.hid hk
  obtain ⟨W0, hW0⟩ : ∃ W0, w.alloc (.cells #[.int .i64 (N : Int), .slice A m c] 24) = W0 := ⟨_, rfl⟩
  have hb0 : Below k w W0 := by rw [← hW0, ← hk]; exact (Below.refl _ w).alloc (Nat.le_refl _) _
  have hz0 : W0.heap.size = k + 1 := by rw [← hW0, World.size_alloc, hk]
  have hh0 : W0.heap[k]? = some (.cells #[.int .i64 (N : Int), .slice A m c] 24 (0, 0)) := by rw [← hW0, ← hk]; exact World.alloc_heap_new _ _
  have HB0 := Lib.hid hb0
  have HZ0 := Lib.hid hz0
  have HH0 := Lib.hid hh0
  have HX := Lib.hid hx
  have HAN := Lib.hid (anchor_any W0 (hT.below hb0 (by omega)) (by omega))
  have HW0 := Lib.hid hW0
  have HT0 : Hid (Tz w) := Lib.hid hT
  clear hx hT hb0 hz0 hh0 hW0
  go_enter Tryd.func7, Tryd.ntmps7
  go_wp2_with fail
  rw [HW0.out]
  refine HAN.out.mono ?_
  rintro e W1 ⟨rfl, hb⟩
  clear HAN
  have HB1 : Hid (Below k w W1) := Lib.hid (HB0.out.trans (hb.mono (by rw [HZ0.out]; omega)))
  have HZ1 : Hid (k + 1 ≤ W1.heap.size) := Lib.hid (by have := hb.size; rw [HZ0.out] at this; exact this)
  have HH1 : Hid (W1.heap[k]? = some (.cells #[.int .i64 (N : Int), .slice A m c] 24 (0, 0))) := Lib.hid ((hb.block k (by rw [HZ0.out]; omega)).trans HH0.out)
  have hg := HH1.out
  have hc0 : W1.cell? ⟨k, 0, none⟩ = some (.int .i64 (N : Int)) := by simp [World.cell?, hg]
  have hc1 : W1.cell? ⟨k, 1, none⟩ = some (.slice A m c) := by simp [World.cell?, hg]
  have HPL := Lib.hid (plain_any (c := c) (z := (N : Int)) (HX.out.below (B := w.heap.size) (by rw [Hk.out]; exact HB1.out)) (by rw [Hk.out]; have := HZ1.out; omega) hm0 true ⟨fun _ => ⟨hm, .inl (by omega)⟩, fun _ => rfl⟩)
  clear hb hg
  go_wp2_with fail
  refine HPL.out.mono ?_
  rintro e W2 ⟨rfl, hb⟩
  clear HPL hc0 hc1
  obtain ⟨p2, hp2⟩ : ∃ p2, W2.heap.size = p2 := ⟨_, rfl⟩
  obtain ⟨W3, hW3⟩ : ∃ W3, W2.alloc (.cells #[.int .i64 (N : Int), .slice A m c] 26) = W3 := ⟨_, rfl⟩
  have hkp : k < p2 := by rw [← hp2]; exact Nat.lt_of_lt_of_le (show k < W1.heap.size by have := HZ1.out; omega) hb.size
  have HKP := Lib.hid hkp
  have HB3 : Hid (Below k w W3) := Lib.hid (by rw [← hW3]; exact (HB1.out.trans (hb.mono (by have := HZ1.out; omega))).alloc (by omega) _)
  have HZ3 : Hid (p2 + 1 ≤ W3.heap.size) := Lib.hid (by rw [← hW3, World.size_alloc, hp2]; omega)
  have HG3 : Hid (W3.heap[k]? = some (.cells #[.int .i64 (N : Int), .slice A m c] 24 (0, 0))) := Lib.hid (by rw [← hW3, Below.heap_alloc _ _ _ (by omega)]; exact (hb.block k (by have := HZ1.out; omega)).trans HH1.out)
  have HP3 : Hid (W3.heap[p2]? = some (.cells #[.int .i64 (N : Int), .slice A m c] 26 (0, 0))) := Lib.hid (by rw [← hW3, ← hp2]; exact World.alloc_heap_new _ _)
  have HW3 := Lib.hid hW3
  clear hb hW3 hkp
  have hg := HG3.out
  have g0 : W3.cell? ⟨k, 0, none⟩ = some (.int .i64 (N : Int)) := by simp [World.cell?, hg]
  have g1 : W3.cell? ⟨k, 1, none⟩ = some (.slice A m c) := by simp [World.cell?, hg]
  clear hg
  have HDN := Lib.hid (border_out (c := c) (s := s) (HX.out.below (B := w.heap.size) (by rw [Hk.out]; exact HB3.out)) hi (show N ≤ 64 by omega) (show m ≤ 4096 by omega) (by rw [Hk.out]; have := HZ3.out; have := HKP.out; omega) hf)
  have hW3 := HW3.out
  rw [← hW3] at g0 g1
  have hnq : ((s : Int) / 2 ^ N != 0) = true := by rw [fits_neq, hf]; rfl
  clear hW3
  go_wp2_with fail
  rw [HW3.out]
  refine HDN.out.mono ?_
  rintro e W4 ⟨rfl, hb⟩
  clear HDN g0 g1
  have HB4 : Hid (Below k w W4) := Lib.hid (HB3.out.trans (hb.mono (by have := HZ3.out; have := HKP.out; omega)))
  have HZ4 : Hid (p2 + 1 ≤ W4.heap.size) := Lib.hid (Nat.le_trans HZ3.out hb.size)
  have HG4 : Hid (W4.heap[k]? = some (.cells #[.int .i64 (N : Int), .slice A m c] 24 (0, 0))) := Lib.hid ((hb.block k (by have := HZ3.out; have := HKP.out; omega)).trans HG3.out)
  have HP4 : Hid (W4.heap[p2]? = some (.cells #[.int .i64 (N : Int), .slice A m c] 26 (0, 0))) := Lib.hid ((hb.block p2 (by have := HZ3.out; omega)).trans HP3.out)
  clear hb
  have hg := HG4.out
  have g0 : W4.cell? ⟨k, 0, none⟩ = some (.int .i64 (N : Int)) := by simp [World.cell?, hg]
  have g1 : W4.cell? ⟨k, 1, none⟩ = some (.slice A m c) := by simp [World.cell?, hg]
  clear hg
  have hg := HP4.out
  have q0 : W4.cell? ⟨p2, 0, none⟩ = some (.int .i64 (N : Int)) := by simp [World.cell?, hg]
  have q1 : W4.cell? ⟨p2, 1, none⟩ = some (.slice A m c) := by simp [World.cell?, hg]
  clear hg
  have HRT := Lib.hid (right_yes (c := c) (HX.out.below (B := w.heap.size) (by rw [Hk.out]; exact HB4.out)) hr (by rw [Hk.out]; have := HZ4.out; have := HKP.out; omega))
  go_wp2_with fail
  refine HRT.out.mono ?_
  rintro e W5 ⟨rfl, hb⟩
  clear HRT g0 g1 q0 q1
  have HB5 : Hid (Below k w W5) := Lib.hid (HB4.out.trans (hb.mono (by have := HZ4.out; have := HKP.out; omega)))
  have HZ5 : Hid (p2 + 1 ≤ W5.heap.size) := Lib.hid (Nat.le_trans HZ4.out hb.size)
  have HG5 : Hid (W5.heap[k]? = some (.cells #[.int .i64 (N : Int), .slice A m c] 24 (0, 0))) := Lib.hid ((hb.block k (by have := HZ4.out; have := HKP.out; omega)).trans HG4.out)
  have HP5 : Hid (W5.heap[p2]? = some (.cells #[.int .i64 (N : Int), .slice A m c] 26 (0, 0))) := Lib.hid ((hb.block p2 (by have := HZ4.out; omega)).trans HP4.out)
  clear hb
  have hg := HG5.out
  have g0 : W5.cell? ⟨k, 0, none⟩ = some (.int .i64 (N : Int)) := by simp [World.cell?, hg]
  have g1 : W5.cell? ⟨k, 1, none⟩ = some (.slice A m c) := by simp [World.cell?, hg]
  clear hg
  go_wp2
  go_ret
  exact ⟨rfl, by rw [Hk.out]; exact HB5.out⟩
set_option maxHeartbeats 4000000 in
theorem law_border_go {w : World} {m c : Nat} {N s : Nat} {A : Option Addr} {g : List (Nat × Nat)} (hx : RdG w w.heap.size A m g) (hi : InN N g) (hn : N ≤ 10) (hm : m ≤ 60) (hs : s < lim) (hf : fitsB s N = true) (hT : Tz w) (h0 : 0 < w.heap.size) :
    Calls Tryd.prog 7 #[.agg #[.int .i64 (N : Int), .slice A m c], .int .u64 (s : Int)] w fun e w' => e = .returned (.bool true) ∧ Below w.heap.size w w' := by
  have hr : GraphR (N : Int) (castE g) := graphR_cast hi (show N ≤ 64 by omega) (by rw [hx.len]; omega)
  have hm0 : m ≤ 9223372036854775807 := by omega
  have hin := inS_fits (show N ≤ 64 by omega) hf
  obtain ⟨d, hd⟩ : ∃ d, brdG g s = d := ⟨_, rfl⟩
  have HIN := Lib.hid hin
  have HD := Lib.hid hd
  have HDL : Hid (d < lim) := Lib.hid (by rw [← hd]; exact brdK_lt hs _)
  have HDZ : Hid (andn d s = 0) := Lib.hid (by rw [← hd]; exact brd_zero hi (show N ≤ 64 by omega) hs)
  have HDB : Hid (∀ i, i < 64 → bt s i = true → bt d i = !bhdG g s i) := Lib.hid (fun i h1 h2 => by rw [← hd]; exact brd_ne hi (show N ≤ 64 by omega) hs h1 h2)
  have HS := Lib.hid hs
  have HI := Lib.hid hi
  have HL := Lib.hid hx.len
  have hnq : ((s : Int) / 2 ^ N != 0) = false := by rw [fits_neq, hf]; rfl
  have HNQ := Lib.hid hnq
  obtain ⟨cs, hcs⟩ : ∃ cs, closedB g s = cs := ⟨_, rfl⟩
  obtain ⟨cc, hcc⟩ : ∃ cc : Bool, cc = true ↔ ¬ Goes (befG g) N N := by
    by_cases h : Goes (befG g) N N
    · exact ⟨false, ⟨nofun, fun h2 => (h2 h).elim⟩⟩
    · exact ⟨true, ⟨fun _ => h, fun _ => rfl⟩⟩
  have HCS := Lib.hid hcs
  have HCC := Lib.hid hcc
  have HLC : Hid (cs = true → cc = false → ∀ i, i < N → closedB g (andn s (one i)) = !bhdG g s i) := Lib.hid (fun h1 h2 i h3 => by
    have hg : Goes (befG g) N N := Classical.byContradiction fun h => by rw [hcc.2 h] at h2; cases h2
    have hl : ¬ E g i i := fun h => no_circle hi (show N ≤ 64 by omega) hg (.one h)
    have := less_closed hi (show N ≤ 64 by omega) hs h3 ((closedB_iff g s).1 (hcs.trans h1)) hl
    rw [Bool.eq_iff_iff, closedB_iff, this, Bool.not_eq_true', Bool.not_eq_true])
  clear hin hnq hd hcs hcc
  obtain ⟨k, hk⟩ : ∃ k, w.heap.size = k := ⟨_, rfl⟩
  have Hk := Lib.hid hk
  obtain ⟨W0, hW0⟩ : ∃ W0, w.alloc (.cells #[.int .i64 (N : Int), .slice A m c] 24) = W0 := ⟨_, rfl⟩
  have hb0 : Below k w W0 := by rw [← hW0, ← hk]; exact (Below.refl _ w).alloc (Nat.le_refl _) _
  have hz0 : W0.heap.size = k + 1 := by rw [← hW0, World.size_alloc, hk]
  have hh0 : W0.heap[k]? = some (.cells #[.int .i64 (N : Int), .slice A m c] 24 (0, 0)) := by rw [← hW0, ← hk]; exact World.alloc_heap_new _ _
  have HB0 := Lib.hid hb0
  have HZ0 := Lib.hid hz0
  have HH0 := Lib.hid hh0
  have HX := Lib.hid hx
  have HAN := Lib.hid (anchor_any W0 (hT.below hb0 (by omega)) (by omega))
  have HW0 := Lib.hid hW0
  have HT0 : Hid (Tz w) := Lib.hid hT
  clear hx hT hb0 hz0 hh0 hW0
  go_enter Tryd.func7, Tryd.ntmps7
  go_wp2_with fail
  rw [HW0.out]
  refine HAN.out.mono ?_
  rintro e W1 ⟨rfl, hb⟩
  clear HAN
  have HB1 : Hid (Below k w W1) := Lib.hid (HB0.out.trans (hb.mono (by rw [HZ0.out]; omega)))
  have HZ1 : Hid (k + 1 ≤ W1.heap.size) := Lib.hid (by have := hb.size; rw [HZ0.out] at this; exact this)
  have HH1 : Hid (W1.heap[k]? = some (.cells #[.int .i64 (N : Int), .slice A m c] 24 (0, 0))) := Lib.hid ((hb.block k (by rw [HZ0.out]; omega)).trans HH0.out)
  have hg := HH1.out
  have hc0 : W1.cell? ⟨k, 0, none⟩ = some (.int .i64 (N : Int)) := by simp [World.cell?, hg]
  have hc1 : W1.cell? ⟨k, 1, none⟩ = some (.slice A m c) := by simp [World.cell?, hg]
  have HPL := Lib.hid (plain_any (c := c) (z := (N : Int)) (HX.out.below (B := w.heap.size) (by rw [Hk.out]; exact HB1.out)) (by rw [Hk.out]; have := HZ1.out; omega) hm0 true ⟨fun _ => ⟨hm, .inl (by omega)⟩, fun _ => rfl⟩)
  clear hb hg
  go_wp2_with fail
  refine HPL.out.mono ?_
  rintro e W2 ⟨rfl, hb⟩
  clear HPL hc0 hc1
  obtain ⟨p2, hp2⟩ : ∃ p2, W2.heap.size = p2 := ⟨_, rfl⟩
  obtain ⟨W3, hW3⟩ : ∃ W3, W2.alloc (.cells #[.int .i64 (N : Int), .slice A m c] 26) = W3 := ⟨_, rfl⟩
  have hkp : k < p2 := by rw [← hp2]; exact Nat.lt_of_lt_of_le (show k < W1.heap.size by have := HZ1.out; omega) hb.size
  have HKP := Lib.hid hkp
  have HB3 : Hid (Below k w W3) := Lib.hid (by rw [← hW3]; exact (HB1.out.trans (hb.mono (by have := HZ1.out; omega))).alloc (by omega) _)
  have HZ3 : Hid (p2 + 1 ≤ W3.heap.size) := Lib.hid (by rw [← hW3, World.size_alloc, hp2]; omega)
  have HG3 : Hid (W3.heap[k]? = some (.cells #[.int .i64 (N : Int), .slice A m c] 24 (0, 0))) := Lib.hid (by rw [← hW3, Below.heap_alloc _ _ _ (by omega)]; exact (hb.block k (by have := HZ1.out; omega)).trans HH1.out)
  have HP3 : Hid (W3.heap[p2]? = some (.cells #[.int .i64 (N : Int), .slice A m c] 26 (0, 0))) := Lib.hid (by rw [← hW3, ← hp2]; exact World.alloc_heap_new _ _)
  have HW3 := Lib.hid hW3
  clear hb hW3 hkp
  have hg := HG3.out
  have g0 : W3.cell? ⟨k, 0, none⟩ = some (.int .i64 (N : Int)) := by simp [World.cell?, hg]
  have g1 : W3.cell? ⟨k, 1, none⟩ = some (.slice A m c) := by simp [World.cell?, hg]
  clear hg
  have HDN := Lib.hid (border_any (c := c) (s := s) (HX.out.below (B := w.heap.size) (by rw [Hk.out]; exact HB3.out)) hi (show N ≤ 64 by omega) (show m ≤ 4096 by omega) (by rw [Hk.out]; have := HZ3.out; have := HKP.out; omega) hs hf)
  rw [HD.out] at HDN
  have hW3 := HW3.out
  rw [← hW3] at g0 g1
  clear hW3 hi hs hf
  go_wp2_with fail
  rw [HW3.out]
  refine HDN.out.mono ?_
  rintro e W4 ⟨rfl, hb⟩
  clear HDN g0 g1
  have HB4 : Hid (Below k w W4) := Lib.hid (HB3.out.trans (hb.mono (by have := HZ3.out; have := HKP.out; omega)))
  have HZ4 : Hid (p2 + 1 ≤ W4.heap.size) := Lib.hid (Nat.le_trans HZ3.out hb.size)
  have HG4 : Hid (W4.heap[k]? = some (.cells #[.int .i64 (N : Int), .slice A m c] 24 (0, 0))) := Lib.hid ((hb.block k (by have := HZ3.out; have := HKP.out; omega)).trans HG3.out)
  have HP4 : Hid (W4.heap[p2]? = some (.cells #[.int .i64 (N : Int), .slice A m c] 26 (0, 0))) := Lib.hid ((hb.block p2 (by have := HZ3.out; omega)).trans HP3.out)
  clear hb
  have hg := HG4.out
  have g0 : W4.cell? ⟨k, 0, none⟩ = some (.int .i64 (N : Int)) := by simp [World.cell?, hg]
  have g1 : W4.cell? ⟨k, 1, none⟩ = some (.slice A m c) := by simp [World.cell?, hg]
  clear hg
  have hg := HP4.out
  have q0 : W4.cell? ⟨p2, 0, none⟩ = some (.int .i64 (N : Int)) := by simp [World.cell?, hg]
  have q1 : W4.cell? ⟨p2, 1, none⟩ = some (.slice A m c) := by simp [World.cell?, hg]
  clear hg
  have HRT := Lib.hid (right_yes (c := c) (HX.out.below (B := w.heap.size) (by rw [Hk.out]; exact HB4.out)) hr (by rw [Hk.out]; have := HZ4.out; have := HKP.out; omega))
  have hnq := HNQ.out
  go_wp2_with fail
  refine HRT.out.mono ?_
  rintro e W5 ⟨rfl, hb⟩
  clear HRT g0 g1 q0 q1
  have HB5 : Hid (Below k w W5) := Lib.hid (HB4.out.trans (hb.mono (by have := HZ4.out; have := HKP.out; omega)))
  have HZ5 : Hid (p2 + 1 ≤ W5.heap.size) := Lib.hid (Nat.le_trans HZ4.out hb.size)
  have HG5 : Hid (W5.heap[k]? = some (.cells #[.int .i64 (N : Int), .slice A m c] 24 (0, 0))) := Lib.hid ((hb.block k (by have := HZ4.out; have := HKP.out; omega)).trans HG4.out)
  have HP5 : Hid (W5.heap[p2]? = some (.cells #[.int .i64 (N : Int), .slice A m c] 26 (0, 0))) := Lib.hid ((hb.block p2 (by have := HZ4.out; omega)).trans HP4.out)
  clear hb
  have hg := HG5.out
  have g0 : W5.cell? ⟨k, 0, none⟩ = some (.int .i64 (N : Int)) := by simp [World.cell?, hg]
  have g1 : W5.cell? ⟨k, 1, none⟩ = some (.slice A m c) := by simp [World.cell?, hg]
  clear hg
  have hn1 : bits BinOp.andNot IntKind.u64 (d : Int) (s : Int) = 0 := by rw [andn_spell HDL.out HS.out, HDZ.out]; rfl
  go_wp2_with fail
  clear hn1 hnq g0 g1 HG4 HP4 HG3 HP3 HH1 HH0 HB3 HB4 HB1 HB0 HZ4 HZ3 HZ1 HZ0 HW3 HW0
  go_loopw [9] (fun i wr => ∃ q : Nat, q ≤ N ∧ i = .int .i64 (q : Int) ∧ Hid (Below (p2 + 1) W5 wr)) (fun i _ => N - (intOf i).toNat)
  case atStart => exact ⟨0, by omega, rfl, Lib.hid (Below.refl _ _)⟩
  case round =>
    obtain ⟨wo, hwo⟩ : ∃ wo, wo = wr := ⟨_, rfl⟩
    subst hwo
    obtain ⟨i, hi, rfl, HR⟩ := hrel
    have HZR : Hid (p2 + 1 ≤ wo.heap.size) := Lib.hid (Nat.le_trans HZ5.out HR.out.size)
    have HBR : Hid (Below k w wo) := Lib.hid (HB5.out.trans (HR.out.mono (by have := HKP.out; omega)))
    have hg := (HR.out.block k (by have := HKP.out; omega)).trans HG5.out
    have g0 : wo.cell? ⟨k, 0, none⟩ = some (.int .i64 (N : Int)) := by simp [World.cell?, hg]
    have g1 : wo.cell? ⟨k, 1, none⟩ = some (.slice A m c) := by simp [World.cell?, hg]
    clear hg
    by_cases hlt : i < N
    · have hdk : decide ((i : Int) < (N : Int)) = true := decide_eq_true (by omega)
      have HIN2 := Lib.hid hlt
      go_wp2_with fail
      refine (in_any HS.out (show i < 64 by omega)).mono ?_
      rintro e w' ⟨rfl, rfl⟩
      cases hbi : bt s i with
      | false =>
        go_wp2
        go_roundw
        case rel => exact ⟨i + 1, by omega, by go_num, HR⟩
        case measure => simp [intOf]; omega
      | true =>
        have HBI := Lib.hid hbi
        clear hbi
        go_wp2_with fail
        clear g0 g1 hdk
        go_hide hQ
        go_loopw [10, 65] (fun b j wr => ∃ x : Nat, x ≤ m ∧ j = .int .i64 (x : Int) ∧ b = .bool (bhdK g s i x) ∧ Hid (Below (p2 + 1) wo wr)) (fun _ j _ => m - (intOf j).toNat)
        case atStart => exact ⟨0, by omega, rfl, rfl, Lib.hid (Below.refl _ _)⟩
        case round =>
          obtain ⟨x, hx, rfl, rfl, HU⟩ := hrel
          have hBU : Below k w wr := HBR.out.trans (HU.out.mono (by have := HKP.out; omega))
          by_cases hlx : x < m
          · obtain ⟨b, off, rfl, hbb, hca, hcb⟩ := (HX.out.below (B := w.heap.size) (by rw [Hk.out]; exact hBU)).at_ hlx
            obtain ⟨hfa, hfb⟩ := HI.out x (by rw [HL.out]; exact hlx)
            have hdk : decide ((x : Int) < (m : Int)) = true := decide_eq_true (by omega)
            have HFB : Hid (fb g x < 64) := Lib.hid (by omega)
            have HN : Hid (bhdK g s i (x + 1) = (bhdK g s i x || (decide (fa g x = i) && bt s (fb g x)))) := Lib.hid rfl
            have HU2 : Hid (Below (p2 + 1) wo (wr.alloc (.cells #[.int .i64 ((fa g x : Nat) : Int), .int .i64 ((fb g x : Nat) : Int)] 43))) := Lib.hid (HU.out.alloc (by have := HZR.out; have := HU.out.size; omega) _)
            clear hBU hfa hfb
            cases hbh : bhdK g s i x with
            | true =>
              have HN2 : Hid (bhdK g s i (x + 1) = true) := Lib.hid (by rw [HN.out, hbh]; rfl)
              clear hbh
              go_wp2
              go_roundw
              case rel => exact ⟨x + 1, by omega, by go_num, by rw [HN2.out], HU2⟩
              case measure => simp [intOf]; omega
            | false =>
              by_cases hfi : fa g x = i
              · have hfq : (((fa g x : Nat) : Int) == (i : Int)) = true := by rw [hfi]; exact beq_self_eq_true _
                have HN2 : Hid (bhdK g s i (x + 1) = bt s (fb g x)) := Lib.hid (by rw [HN.out, hbh, decide_eq_true hfi]; simp)
                clear hbh hfi
                go_wp2_with (go_at_call 21; refine (in_any HS.out HFB.out).mono ?_; rintro e w' ⟨rfl, rfl⟩)
                go_roundw
                case rel => exact ⟨x + 1, by omega, by go_num, by rw [HN2.out], HU2⟩
                case measure => simp [intOf]; omega
              · have hfq : (((fa g x : Nat) : Int) == (i : Int)) = false := by
                  refine beq_eq_false_iff_ne.2 (by omega)
                have HN2 : Hid (bhdK g s i (x + 1) = false) := Lib.hid (by rw [HN.out, hbh, decide_eq_false hfi]; rfl)
                clear hbh hfi
                go_wp2
                go_roundw
                case rel => exact ⟨x + 1, by omega, by go_num, by rw [HN2.out], HU2⟩
                case measure => simp [intOf]; omega
          · subst hQ
            obtain rfl : x = m := by omega
            have hdk : decide ((x : Int) < (x : Int)) = false := decide_eq_false (by omega)
            have HBH : Hid (bhdK g s i x = bhdG g s i) := Lib.hid (by unfold bhdG; rw [HL.out])
            rw [HBH.out]
            have HDI : Hid (bt d i = !bhdG g s i) := Lib.hid (HDB.out i (by omega) HBI.out)
            have HK0 : Hid (Below k w wr) := Lib.hid hBU
            have HY0 : Hid (p2 + 1 ≤ wr.heap.size) := Lib.hid (Nat.le_trans HZR.out HU.out.size)
            have HR0 : Hid (Below (p2 + 1) W5 wr) := Lib.hid (HR.out.trans HU.out)
            have hg := (HR0.out.block p2 (by omega)).trans HP5.out
            have v00 : wr.cell? ⟨p2, 0, none⟩ = some (.int .i64 (N : Int)) := by simp [World.cell?, hg]
            have v01 : wr.cell? ⟨p2, 1, none⟩ = some (.slice A x c) := by simp [World.cell?, hg]
            have HIN3 : Hid (closedB g (andn s (one i)) = !bhdG g s i ∨ ¬ (cs = true ∧ cc = false)) := Lib.hid (by
              by_cases h : cs = true ∧ cc = false
              · exact .inl (HLC.out h.1 h.2 i HIN2.out)
              · exact .inr h)
            have HPV : Hid (wr.heap[p2]? = some (.cells #[.int .i64 (N : Int), .slice A x c] 26 (0, 0))) := Lib.hid hg
            clear hg hBU hdk
            obtain ⟨bh, hbh⟩ : ∃ bh, bhdG g s i = bh := ⟨_, rfl⟩
            rw [hbh] at HDI HIN3 ⊢
            clear hbh
            have hne : ((!bh) == bh) = false := by cases bh <;> rfl
            have HNE := Lib.hid hne
            go_wp2_with fail
            refine (in_any HDL.out (show i < 64 by omega)).mono ?_
            rintro e w' ⟨rfl, rfl⟩
            rw [HDI.out]
            go_wp2_with fail
            have H3 : Hid (bits BinOp.andNot IntKind.u64 (s : Int) (IntKind.u64.wrap ((2 : Int) ^ i)) = ((andn s (one i) : Nat) : Int)) := Lib.hid (by
              have h2 : one i < 18446744073709551616 := one_lt i (by have := HIN2.out; omega)
              have e : IntKind.u64.wrap ((2 : Int) ^ i) = ((one i : Nat) : Int) := by
                rw [shl_one, IntKind.wrap_u64]
                omega
              rw [e, andn_spell HS.out h2])
            clear v00 v01 hne
            cases cs with
            | false =>
              refine wp_region_inv (by kernel_rfl) (I := BaJ wr (.agg #[.int .i64 (N : Int), .slice A x c]) (.int .u64 (s : Int)) (.int .i64 (i : Int)) (.int .u64 (IntKind.u64.wrap ((2 : Int) ^ i))) (.int .u64 ((andn s (one i) : Nat) : Int)) bh _ _ _ _ _ _ _ _ _ _ _ _ _ _ _ _ _ _ _ _ _ _ _ _ _ _ _ _ _ _ _ _ _ _ _ _ _ _ _ _ _ _ _ _ _ _ _ _ _ _ _ _ _ _ _ _ _ _ _ _ _ _ _ _ _ _ _ _ _ _ _ _ _ _ _ _ _ _ _ _ _ _ _ _ _ _ _ _) (.mk false false false false false false false false false false false false false false false false false false _ _ _ _ _ _ _ _ _ _ _ _ _ _ _ _ _ _ _ ⟨(Below.refl _ wr).drew, nofun, nofun, nofun, nofun, nofun, nofun, nofun, nofun, nofun, nofun, nofun, nofun, nofun, nofun, nofun, nofun, nofun, nofun⟩) ?step ?fin
              case step =>
                rintro lq a' w' ix ⟨b0, b1, b2, b3, b4, b5, b6, b7, b8, b9, b10, b11, b12, b13, b14, b15, b16, b17, v88, v89, v90, v91, v92, v93, v94, v95, v96, v97, v98, v99, v100, v101, v102, v103, v104, v105, _, HT⟩ hi
                obtain ⟨hi_, hib⟩ := ready_lt hi
                have HTH := Lib.hid HT
                match ix, hi_, hi, hib with
                | 0, _, hi, hib =>
                  have HTb := Lib.hid HT.bel
                  have hgP := (HTb.out.block p2 (by have := HY0.out; omega)).trans HPV.out
                  have v00 : w'.cell? ⟨p2, 0, none⟩ = some (.int .i64 (N : Int)) := by simp [World.cell?, hgP]
                  have v01 : w'.cell? ⟨p2, 1, none⟩ = some (.slice A x c) := by simp [World.cell?, hgP]
                  clear hgP
                  clear HT
                  refine wpOp_one rfl rfl (fun K hK => ?_)
                  go_simp
                  exact hK.out _ _ (.mk true b1 b2 b3 b4 b5 b6 b7 b8 b9 b10 b11 b12 b13 b14 b15 b16 b17 _ _ _ _ _ _ _ _ _ _ _ _ _ _ _ _ _ _ _ { HTH.out with h0 := fun _ => rfl })
                | 1, _, hi, hib =>
                  clear HT
                  refine wpOp_one rfl rfl (fun K hK => ?_)
                  go_simp
                  exact hK.out _ _ (.mk b0 true b2 b3 b4 b5 b6 b7 b8 b9 b10 b11 b12 b13 b14 b15 b16 b17 _ _ _ _ _ _ _ _ _ _ _ _ _ _ _ _ _ _ _ { HTH.out with h1 := fun _ => rfl })
                | 2, _, hi, hib =>
                  have d0 : b0 = true := ready_dep hi rfl 0 (by kernel_rfl)
                  have hd0 := HT.h0 d0
                  subst hd0
                  have d1 : b1 = true := ready_dep hi rfl 1 (by kernel_rfl)
                  have hd1 := HT.h1 d1
                  subst hd1
                  have HTb := Lib.hid HT.bel
                  have HC := Lib.hid (refClosed_any (w := w') (c := c) (s := s) (HX.out.below (B := w.heap.size) (by rw [Hk.out]; exact HK0.out.trans (HTb.out.mono (by have := HKP.out; have := HY0.out; omega)))) HI.out (show N ≤ 64 by omega) (show x ≤ 4096 by omega) (by have h1 := HTb.out.size; have := HY0.out; have := Hk.out; have := HKP.out; omega) HS.out)
                  rw [HCS.out] at HC
                  clear HT
                  refine wpOp_one rfl rfl (fun K hK => ?_)
                  go_simp
                  refine HC.out.mono ?_
                  rintro e w2 ⟨rfl, hb⟩
                  exact hK.out _ _ (.mk b0 b1 true b3 b4 b5 b6 b7 b8 b9 b10 b11 b12 b13 b14 b15 b16 b17 _ _ _ _ _ _ _ _ _ _ _ _ _ _ _ _ _ _ _ { HTH.out with bel := HTH.out.bel.trans (hb.mono HTH.out.bel.size), h2 := fun _ => rfl })
                | 3, _, hi, hib =>
                  have d2 : b2 = true := ready_dep hi rfl 2 (by kernel_rfl)
                  have hd2 := HT.h2 d2
                  subst hd2
                  clear HT
                  refine wpOp_one rfl rfl (fun K hK => ?_)
                  go_simp
                  exact hK.out _ _ (.mk b0 b1 b2 true b4 b5 b6 b7 b8 b9 b10 b11 b12 b13 b14 b15 b16 b17 _ _ _ _ _ _ _ _ _ _ _ _ _ _ _ _ _ _ _ { HTH.out with h3 := fun _ => rfl })
                | 4, _, hi, hib =>
                  have e3 : b3 = true := ready_dep hi rfl 3 (by kernel_rfl)
                  have he3 := HT.h3 e3
                  subst he3
                  refine wpOp_skip rfl 3 true rfl rfl ?_
                  exact .mk b0 b1 b2 b3 true b5 b6 b7 b8 b9 b10 b11 b12 b13 b14 b15 b16 b17 _ _ _ _ _ _ _ _ _ _ _ _ _ _ _ _ _ _ _ { HT with h4 := fun _ => rfl }
                | 5, _, hi, hib =>
                  have e3 : b3 = true := ready_dep hi rfl 3 (by kernel_rfl)
                  have he3 := HT.h3 e3
                  subst he3
                  refine wpOp_skip rfl 3 true rfl rfl ?_
                  exact .mk b0 b1 b2 b3 b4 true b6 b7 b8 b9 b10 b11 b12 b13 b14 b15 b16 b17 _ _ _ _ _ _ _ _ _ _ _ _ _ _ _ _ _ _ _ { HT with h5 := fun _ => rfl }
                | 6, _, hi, hib =>
                  have e3 : b3 = true := ready_dep hi rfl 3 (by kernel_rfl)
                  have he3 := HT.h3 e3
                  subst he3
                  refine wpOp_skip rfl 3 true rfl rfl ?_
                  exact .mk b0 b1 b2 b3 b4 b5 true b7 b8 b9 b10 b11 b12 b13 b14 b15 b16 b17 _ _ _ _ _ _ _ _ _ _ _ _ _ _ _ _ _ _ _ { HT with h6 := fun _ => rfl }
                | 7, _, hi, hib =>
                  have d3 : b3 = true := ready_dep hi rfl 3 (by kernel_rfl)
                  have hd3 := HT.h3 d3
                  subst hd3
                  have d6 : b6 = true := ready_dep hi rfl 6 (by kernel_rfl)
                  have hd6 := HT.h6 d6
                  subst hd6
                  clear HT
                  refine wpOp_one rfl rfl (fun K hK => ?_)
                  go_simp
                  exact hK.out _ _ (.mk b0 b1 b2 b3 b4 b5 b6 true b8 b9 b10 b11 b12 b13 b14 b15 b16 b17 _ _ _ _ _ _ _ _ _ _ _ _ _ _ _ _ _ _ _ { HTH.out with h7 := fun _ => rfl })
                | 8, _, hi, hib =>
                  have d7 : b7 = true := ready_dep hi rfl 7 (by kernel_rfl)
                  have hd7 := HT.h7 d7
                  subst hd7
                  clear HT
                  refine wpOp_one rfl rfl (fun K hK => ?_)
                  go_simp
                  exact hK.out _ _ (.mk b0 b1 b2 b3 b4 b5 b6 b7 true b9 b10 b11 b12 b13 b14 b15 b16 b17 _ _ _ _ _ _ _ _ _ _ _ _ _ _ _ _ _ _ _ { HTH.out with h8 := fun _ => rfl })
                | 9, _, hi, hib =>
                  have e8 : b8 = true := ready_dep hi rfl 8 (by kernel_rfl)
                  have he8 := HT.h8 e8
                  subst he8
                  refine wpOp_skip rfl 8 true rfl rfl ?_
                  exact .mk b0 b1 b2 b3 b4 b5 b6 b7 b8 true b10 b11 b12 b13 b14 b15 b16 b17 _ _ _ _ _ _ _ _ _ _ _ _ _ _ _ _ _ _ _ { HT with h9 := fun _ => rfl }
                | 10, _, hi, hib =>
                  have e8 : b8 = true := ready_dep hi rfl 8 (by kernel_rfl)
                  have he8 := HT.h8 e8
                  subst he8
                  refine wpOp_skip rfl 8 true rfl rfl ?_
                  exact .mk b0 b1 b2 b3 b4 b5 b6 b7 b8 b9 true b11 b12 b13 b14 b15 b16 b17 _ _ _ _ _ _ _ _ _ _ _ _ _ _ _ _ _ _ _ { HT with h10 := fun _ => rfl }
                | 11, _, hi, hib =>
                  have e8 : b8 = true := ready_dep hi rfl 8 (by kernel_rfl)
                  have he8 := HT.h8 e8
                  subst he8
                  refine wpOp_skip rfl 8 true rfl rfl ?_
                  exact .mk b0 b1 b2 b3 b4 b5 b6 b7 b8 b9 b10 true b12 b13 b14 b15 b16 b17 _ _ _ _ _ _ _ _ _ _ _ _ _ _ _ _ _ _ _ { HT with h11 := fun _ => rfl }
                | 12, _, hi, hib =>
                  have e8 : b8 = true := ready_dep hi rfl 8 (by kernel_rfl)
                  have he8 := HT.h8 e8
                  subst he8
                  refine wpOp_skip rfl 8 true rfl rfl ?_
                  exact .mk b0 b1 b2 b3 b4 b5 b6 b7 b8 b9 b10 b11 true b13 b14 b15 b16 b17 _ _ _ _ _ _ _ _ _ _ _ _ _ _ _ _ _ _ _ { HT with h12 := fun _ => rfl }
                | 13, _, hi, hib =>
                  have e8 : b8 = true := ready_dep hi rfl 8 (by kernel_rfl)
                  have he8 := HT.h8 e8
                  subst he8
                  refine wpOp_skip rfl 8 true rfl rfl ?_
                  exact .mk b0 b1 b2 b3 b4 b5 b6 b7 b8 b9 b10 b11 b12 true b14 b15 b16 b17 _ _ _ _ _ _ _ _ _ _ _ _ _ _ _ _ _ _ _ { HT with h13 := fun _ => rfl }
                | 14, _, hi, hib =>
                  have e8 : b8 = true := ready_dep hi rfl 8 (by kernel_rfl)
                  have he8 := HT.h8 e8
                  subst he8
                  refine wpOp_skip rfl 8 true rfl rfl ?_
                  exact .mk b0 b1 b2 b3 b4 b5 b6 b7 b8 b9 b10 b11 b12 b13 true b15 b16 b17 _ _ _ _ _ _ _ _ _ _ _ _ _ _ _ _ _ _ _ { HT with h14 := fun _ => rfl }
                | 15, _, hi, hib =>
                  have e8 : b8 = true := ready_dep hi rfl 8 (by kernel_rfl)
                  have he8 := HT.h8 e8
                  subst he8
                  refine wpOp_skip rfl 8 true rfl rfl ?_
                  exact .mk b0 b1 b2 b3 b4 b5 b6 b7 b8 b9 b10 b11 b12 b13 b14 true b16 b17 _ _ _ _ _ _ _ _ _ _ _ _ _ _ _ _ _ _ _ { HT with h15 := fun _ => rfl }
                | 16, _, hi, hib =>
                  have e8 : b8 = true := ready_dep hi rfl 8 (by kernel_rfl)
                  have he8 := HT.h8 e8
                  subst he8
                  refine wpOp_skip rfl 8 true rfl rfl ?_
                  exact .mk b0 b1 b2 b3 b4 b5 b6 b7 b8 b9 b10 b11 b12 b13 b14 b15 true b17 _ _ _ _ _ _ _ _ _ _ _ _ _ _ _ _ _ _ _ { HT with h16 := fun _ => rfl }
                | 17, _, hi, hib =>
                  have d8 : b8 = true := ready_dep hi rfl 8 (by kernel_rfl)
                  have hd8 := HT.h8 d8
                  subst hd8
                  have d16 : b16 = true := ready_dep hi rfl 16 (by kernel_rfl)
                  have hd16 := HT.h16 d16
                  subst hd16
                  clear HT
                  refine wpOp_one rfl rfl (fun K hK => ?_)
                  go_simp
                  exact hK.out _ _ (.mk b0 b1 b2 b3 b4 b5 b6 b7 b8 b9 b10 b11 b12 b13 b14 b15 b16 true _ _ _ _ _ _ _ _ _ _ _ _ _ _ _ _ _ _ _ { HTH.out with h17 := fun _ => rfl })
              case fin =>
                rintro lq a' w' ⟨b0, b1, b2, b3, b4, b5, b6, b7, b8, b9, b10, b11, b12, b13, b14, b15, b16, b17, v88, v89, v90, v91, v92, v93, v94, v95, v96, v97, v98, v99, v100, v101, v102, v103, v104, v105, _, HT⟩ hr
                obtain rfl : b0 = true := by
                  cases b0 with
                  | true => rfl
                  | false => exact (ready_in 0 rfl rfl (by simp [Region.binds]) hr).elim
                obtain rfl : b1 = true := by
                  cases b1 with
                  | true => rfl
                  | false => exact (ready_in 1 rfl rfl (by simp [Region.binds]) hr).elim
                obtain rfl : b2 = true := by
                  cases b2 with
                  | true => rfl
                  | false => exact (ready_in 2 rfl rfl (by simp [Region.binds]) hr).elim
                obtain rfl : b3 = true := by
                  cases b3 with
                  | true => rfl
                  | false => exact (ready_in 3 rfl rfl (by simp [Region.binds]) hr).elim
                obtain rfl : b4 = true := by
                  cases b4 with
                  | true => rfl
                  | false => exact (ready_in 4 rfl rfl (by simp [Region.binds]) hr).elim
                obtain rfl : b5 = true := by
                  cases b5 with
                  | true => rfl
                  | false => exact (ready_in 5 rfl rfl (by simp [Region.binds]) hr).elim
                obtain rfl : b6 = true := by
                  cases b6 with
                  | true => rfl
                  | false => exact (ready_in 6 rfl rfl (by simp [Region.binds]) hr).elim
                obtain rfl : b7 = true := by
                  cases b7 with
                  | true => rfl
                  | false => exact (ready_in 7 rfl rfl (by simp [Region.binds]) hr).elim
                obtain rfl : b8 = true := by
                  cases b8 with
                  | true => rfl
                  | false => exact (ready_in 8 rfl rfl (by simp [Region.binds]) hr).elim
                obtain rfl : b9 = true := by
                  cases b9 with
                  | true => rfl
                  | false => exact (ready_in 9 rfl rfl (by simp [Region.binds]) hr).elim
                obtain rfl : b10 = true := by
                  cases b10 with
                  | true => rfl
                  | false => exact (ready_in 10 rfl rfl (by simp [Region.binds]) hr).elim
                obtain rfl : b11 = true := by
                  cases b11 with
                  | true => rfl
                  | false => exact (ready_in 11 rfl rfl (by simp [Region.binds]) hr).elim
                obtain rfl : b12 = true := by
                  cases b12 with
                  | true => rfl
                  | false => exact (ready_in 12 rfl rfl (by simp [Region.binds]) hr).elim
                obtain rfl : b13 = true := by
                  cases b13 with
                  | true => rfl
                  | false => exact (ready_in 13 rfl rfl (by simp [Region.binds]) hr).elim
                obtain rfl : b14 = true := by
                  cases b14 with
                  | true => rfl
                  | false => exact (ready_in 14 rfl rfl (by simp [Region.binds]) hr).elim
                obtain rfl : b15 = true := by
                  cases b15 with
                  | true => rfl
                  | false => exact (ready_in 15 rfl rfl (by simp [Region.binds]) hr).elim
                obtain rfl : b16 = true := by
                  cases b16 with
                  | true => rfl
                  | false => exact (ready_in 16 rfl rfl (by simp [Region.binds]) hr).elim
                obtain rfl : b17 = true := by
                  cases b17 with
                  | true => rfl
                  | false => exact (ready_in 17 rfl rfl (by simp [Region.binds]) hr).elim
                have k0 := HT.h0 rfl
                subst k0
                have k1 := HT.h1 rfl
                subst k1
                have k2 := HT.h2 rfl
                subst k2
                have k3 := HT.h3 rfl
                subst k3
                have k4 := HT.h4 rfl
                subst k4
                have k5 := HT.h5 rfl
                subst k5
                have k6 := HT.h6 rfl
                subst k6
                have k7 := HT.h7 rfl
                subst k7
                have k8 := HT.h8 rfl
                subst k8
                have k9 := HT.h9 rfl
                subst k9
                have k10 := HT.h10 rfl
                subst k10
                have k11 := HT.h11 rfl
                subst k11
                have k12 := HT.h12 rfl
                subst k12
                have k13 := HT.h13 rfl
                subst k13
                have k14 := HT.h14 rfl
                subst k14
                have k15 := HT.h15 rfl
                subst k15
                have k16 := HT.h16 rfl
                subst k16
                have k17 := HT.h17 rfl
                subst k17
                have HF2 : Hid (Below (p2 + 1) W5 _) := Lib.hid (HR0.out.trans (HT.bel.mono HY0.out))
                clear HT hr
                show _
                go_wp2
                go_roundw
                case rel => exact ⟨i + 1, by omega, by go_num, HF2⟩
                case measure => simp [intOf]; omega
              | true =>
              cases cc with
              | true =>
                refine wp_region_inv (by kernel_rfl) (I := BbJ wr (.agg #[.int .i64 (N : Int), .slice A x c]) (.int .u64 (s : Int)) (.int .i64 (i : Int)) (.int .u64 (IntKind.u64.wrap ((2 : Int) ^ i))) (.int .u64 ((andn s (one i) : Nat) : Int)) bh _ _ _ _ _ _ _ _ _ _ _ _ _ _ _ _ _ _ _ _ _ _ _ _ _ _ _ _ _ _ _ _ _ _ _ _ _ _ _ _ _ _ _ _ _ _ _ _ _ _ _ _ _ _ _ _ _ _ _ _ _ _ _ _ _ _ _ _ _ _ _ _ _ _ _ _ _ _ _ _ _ _ _ _ _ _ _ _) (.mk false false false false false false false false false false false false false false false false false false _ _ _ _ _ _ _ _ _ _ _ _ _ _ _ _ _ _ _ ⟨(Below.refl _ wr).drew, nofun, nofun, nofun, nofun, nofun, nofun, nofun, nofun, nofun, nofun, nofun, nofun, nofun, nofun, nofun, nofun, nofun, nofun⟩) ?step ?fin
                case step =>
                  rintro lq a' w' ix ⟨b0, b1, b2, b3, b4, b5, b6, b7, b8, b9, b10, b11, b12, b13, b14, b15, b16, b17, v88, v89, v90, v91, v92, v93, v94, v95, v96, v97, v98, v99, v100, v101, v102, v103, v104, v105, _, HT⟩ hi
                  obtain ⟨hi_, hib⟩ := ready_lt hi
                  have HTH := Lib.hid HT
                  match ix, hi_, hi, hib with
                  | 0, _, hi, hib =>
                    have HTb := Lib.hid HT.bel
                    have hgP := (HTb.out.block p2 (by have := HY0.out; omega)).trans HPV.out
                    have v00 : w'.cell? ⟨p2, 0, none⟩ = some (.int .i64 (N : Int)) := by simp [World.cell?, hgP]
                    have v01 : w'.cell? ⟨p2, 1, none⟩ = some (.slice A x c) := by simp [World.cell?, hgP]
                    clear hgP
                    clear HT
                    refine wpOp_one rfl rfl (fun K hK => ?_)
                    go_simp
                    exact hK.out _ _ (.mk true b1 b2 b3 b4 b5 b6 b7 b8 b9 b10 b11 b12 b13 b14 b15 b16 b17 _ _ _ _ _ _ _ _ _ _ _ _ _ _ _ _ _ _ _ { HTH.out with h0 := fun _ => rfl })
                  | 1, _, hi, hib =>
                    clear HT
                    refine wpOp_one rfl rfl (fun K hK => ?_)
                    go_simp
                    exact hK.out _ _ (.mk b0 true b2 b3 b4 b5 b6 b7 b8 b9 b10 b11 b12 b13 b14 b15 b16 b17 _ _ _ _ _ _ _ _ _ _ _ _ _ _ _ _ _ _ _ { HTH.out with h1 := fun _ => rfl })
                  | 2, _, hi, hib =>
                    have d0 : b0 = true := ready_dep hi rfl 0 (by kernel_rfl)
                    have hd0 := HT.h0 d0
                    subst hd0
                    have d1 : b1 = true := ready_dep hi rfl 1 (by kernel_rfl)
                    have hd1 := HT.h1 d1
                    subst hd1
                    have HTb := Lib.hid HT.bel
                    have HC := Lib.hid (refClosed_any (w := w') (c := c) (s := s) (HX.out.below (B := w.heap.size) (by rw [Hk.out]; exact HK0.out.trans (HTb.out.mono (by have := HKP.out; have := HY0.out; omega)))) HI.out (show N ≤ 64 by omega) (show x ≤ 4096 by omega) (by have h1 := HTb.out.size; have := HY0.out; have := Hk.out; have := HKP.out; omega) HS.out)
                    rw [HCS.out] at HC
                    clear HT
                    refine wpOp_one rfl rfl (fun K hK => ?_)
                    go_simp
                    refine HC.out.mono ?_
                    rintro e w2 ⟨rfl, hb⟩
                    exact hK.out _ _ (.mk b0 b1 true b3 b4 b5 b6 b7 b8 b9 b10 b11 b12 b13 b14 b15 b16 b17 _ _ _ _ _ _ _ _ _ _ _ _ _ _ _ _ _ _ _ { HTH.out with bel := HTH.out.bel.trans (hb.mono HTH.out.bel.size), h2 := fun _ => rfl })
                  | 3, _, hi, hib =>
                    have d2 : b2 = true := ready_dep hi rfl 2 (by kernel_rfl)
                    have hd2 := HT.h2 d2
                    subst hd2
                    clear HT
                    refine wpOp_one rfl rfl (fun K hK => ?_)
                    go_simp
                    exact hK.out _ _ (.mk b0 b1 b2 true b4 b5 b6 b7 b8 b9 b10 b11 b12 b13 b14 b15 b16 b17 _ _ _ _ _ _ _ _ _ _ _ _ _ _ _ _ _ _ _ { HTH.out with h3 := fun _ => rfl })
                  | 4, _, hi, hib =>
                    have e3 : b3 = true := ready_dep hi rfl 3 (by kernel_rfl)
                    have he3 := HT.h3 e3
                    subst he3
                    have HTb := Lib.hid HT.bel
                    have hgP := (HTb.out.block p2 (by have := HY0.out; omega)).trans HPV.out
                    have v00 : w'.cell? ⟨p2, 0, none⟩ = some (.int .i64 (N : Int)) := by simp [World.cell?, hgP]
                    have v01 : w'.cell? ⟨p2, 1, none⟩ = some (.slice A x c) := by simp [World.cell?, hgP]
                    clear hgP
                    clear HT
                    refine wpOp_want rfl 3 true rfl rfl (fun K hK => ?_)
                    go_simp
                    exact hK.out _ _ (.mk b0 b1 b2 b3 true b5 b6 b7 b8 b9 b10 b11 b12 b13 b14 b15 b16 b17 _ _ _ _ _ _ _ _ _ _ _ _ _ _ _ _ _ _ _ { HTH.out with h4 := fun _ => rfl })
                  | 5, _, hi, hib =>
                    have e3 : b3 = true := ready_dep hi rfl 3 (by kernel_rfl)
                    have he3 := HT.h3 e3
                    subst he3
                    have d4 : b4 = true := ready_dep hi rfl 4 (by kernel_rfl)
                    have hd4 := HT.h4 d4
                    subst hd4
                    have HTb := Lib.hid HT.bel
                    have HC := Lib.hid (circle_any (w := w') (c := c) (HX.out.below (B := w.heap.size) (by rw [Hk.out]; exact HK0.out.trans (HTb.out.mono (by have := HKP.out; have := HY0.out; omega)))) HI.out (show N ≤ 64 by omega) (show x ≤ 4096 by omega) (by have h1 := HTb.out.size; have := HY0.out; have := Hk.out; have := HKP.out; omega) _ HCC.out)
                    clear HT
                    refine wpOp_want rfl 3 true rfl rfl (fun K hK => ?_)
                    go_simp
                    refine HC.out.mono ?_
                    rintro e w2 ⟨rfl, hb⟩
                    exact hK.out _ _ (.mk b0 b1 b2 b3 b4 true b6 b7 b8 b9 b10 b11 b12 b13 b14 b15 b16 b17 _ _ _ _ _ _ _ _ _ _ _ _ _ _ _ _ _ _ _ { HTH.out with bel := HTH.out.bel.trans (hb.mono HTH.out.bel.size), h5 := fun _ => rfl })
                  | 6, _, hi, hib =>
                    have e3 : b3 = true := ready_dep hi rfl 3 (by kernel_rfl)
                    have he3 := HT.h3 e3
                    subst he3
                    have d5 : b5 = true := ready_dep hi rfl 5 (by kernel_rfl)
                    have hd5 := HT.h5 d5
                    subst hd5
                    clear HT
                    refine wpOp_want rfl 3 true rfl rfl (fun K hK => ?_)
                    go_simp
                    exact hK.out _ _ (.mk b0 b1 b2 b3 b4 b5 true b7 b8 b9 b10 b11 b12 b13 b14 b15 b16 b17 _ _ _ _ _ _ _ _ _ _ _ _ _ _ _ _ _ _ _ { HTH.out with h6 := fun _ => rfl })
                  | 7, _, hi, hib =>
                    have d3 : b3 = true := ready_dep hi rfl 3 (by kernel_rfl)
                    have hd3 := HT.h3 d3
                    subst hd3
                    have d6 : b6 = true := ready_dep hi rfl 6 (by kernel_rfl)
                    have hd6 := HT.h6 d6
                    subst hd6
                    clear HT
                    refine wpOp_one rfl rfl (fun K hK => ?_)
                    go_simp
                    exact hK.out _ _ (.mk b0 b1 b2 b3 b4 b5 b6 true b8 b9 b10 b11 b12 b13 b14 b15 b16 b17 _ _ _ _ _ _ _ _ _ _ _ _ _ _ _ _ _ _ _ { HTH.out with h7 := fun _ => rfl })
                  | 8, _, hi, hib =>
                    have d7 : b7 = true := ready_dep hi rfl 7 (by kernel_rfl)
                    have hd7 := HT.h7 d7
                    subst hd7
                    clear HT
                    refine wpOp_one rfl rfl (fun K hK => ?_)
                    go_simp
                    exact hK.out _ _ (.mk b0 b1 b2 b3 b4 b5 b6 b7 true b9 b10 b11 b12 b13 b14 b15 b16 b17 _ _ _ _ _ _ _ _ _ _ _ _ _ _ _ _ _ _ _ { HTH.out with h8 := fun _ => rfl })
                  | 9, _, hi, hib =>
                    have e8 : b8 = true := ready_dep hi rfl 8 (by kernel_rfl)
                    have he8 := HT.h8 e8
                    subst he8
                    refine wpOp_skip rfl 8 true rfl rfl ?_
                    exact .mk b0 b1 b2 b3 b4 b5 b6 b7 b8 true b10 b11 b12 b13 b14 b15 b16 b17 _ _ _ _ _ _ _ _ _ _ _ _ _ _ _ _ _ _ _ { HT with h9 := fun _ => rfl }
                  | 10, _, hi, hib =>
                    have e8 : b8 = true := ready_dep hi rfl 8 (by kernel_rfl)
                    have he8 := HT.h8 e8
                    subst he8
                    refine wpOp_skip rfl 8 true rfl rfl ?_
                    exact .mk b0 b1 b2 b3 b4 b5 b6 b7 b8 b9 true b11 b12 b13 b14 b15 b16 b17 _ _ _ _ _ _ _ _ _ _ _ _ _ _ _ _ _ _ _ { HT with h10 := fun _ => rfl }
                  | 11, _, hi, hib =>
                    have e8 : b8 = true := ready_dep hi rfl 8 (by kernel_rfl)
                    have he8 := HT.h8 e8
                    subst he8
                    refine wpOp_skip rfl 8 true rfl rfl ?_
                    exact .mk b0 b1 b2 b3 b4 b5 b6 b7 b8 b9 b10 true b12 b13 b14 b15 b16 b17 _ _ _ _ _ _ _ _ _ _ _ _ _ _ _ _ _ _ _ { HT with h11 := fun _ => rfl }
                  | 12, _, hi, hib =>
                    have e8 : b8 = true := ready_dep hi rfl 8 (by kernel_rfl)
                    have he8 := HT.h8 e8
                    subst he8
                    refine wpOp_skip rfl 8 true rfl rfl ?_
                    exact .mk b0 b1 b2 b3 b4 b5 b6 b7 b8 b9 b10 b11 true b13 b14 b15 b16 b17 _ _ _ _ _ _ _ _ _ _ _ _ _ _ _ _ _ _ _ { HT with h12 := fun _ => rfl }
                  | 13, _, hi, hib =>
                    have e8 : b8 = true := ready_dep hi rfl 8 (by kernel_rfl)
                    have he8 := HT.h8 e8
                    subst he8
                    refine wpOp_skip rfl 8 true rfl rfl ?_
                    exact .mk b0 b1 b2 b3 b4 b5 b6 b7 b8 b9 b10 b11 b12 true b14 b15 b16 b17 _ _ _ _ _ _ _ _ _ _ _ _ _ _ _ _ _ _ _ { HT with h13 := fun _ => rfl }
                  | 14, _, hi, hib =>
                    have e8 : b8 = true := ready_dep hi rfl 8 (by kernel_rfl)
                    have he8 := HT.h8 e8
                    subst he8
                    refine wpOp_skip rfl 8 true rfl rfl ?_
                    exact .mk b0 b1 b2 b3 b4 b5 b6 b7 b8 b9 b10 b11 b12 b13 true b15 b16 b17 _ _ _ _ _ _ _ _ _ _ _ _ _ _ _ _ _ _ _ { HT with h14 := fun _ => rfl }
                  | 15, _, hi, hib =>
                    have e8 : b8 = true := ready_dep hi rfl 8 (by kernel_rfl)
                    have he8 := HT.h8 e8
                    subst he8
                    refine wpOp_skip rfl 8 true rfl rfl ?_
                    exact .mk b0 b1 b2 b3 b4 b5 b6 b7 b8 b9 b10 b11 b12 b13 b14 true b16 b17 _ _ _ _ _ _ _ _ _ _ _ _ _ _ _ _ _ _ _ { HT with h15 := fun _ => rfl }
                  | 16, _, hi, hib =>
                    have e8 : b8 = true := ready_dep hi rfl 8 (by kernel_rfl)
                    have he8 := HT.h8 e8
                    subst he8
                    refine wpOp_skip rfl 8 true rfl rfl ?_
                    exact .mk b0 b1 b2 b3 b4 b5 b6 b7 b8 b9 b10 b11 b12 b13 b14 b15 true b17 _ _ _ _ _ _ _ _ _ _ _ _ _ _ _ _ _ _ _ { HT with h16 := fun _ => rfl }
                  | 17, _, hi, hib =>
                    have d8 : b8 = true := ready_dep hi rfl 8 (by kernel_rfl)
                    have hd8 := HT.h8 d8
                    subst hd8
                    have d16 : b16 = true := ready_dep hi rfl 16 (by kernel_rfl)
                    have hd16 := HT.h16 d16
                    subst hd16
                    clear HT
                    refine wpOp_one rfl rfl (fun K hK => ?_)
                    go_simp
                    exact hK.out _ _ (.mk b0 b1 b2 b3 b4 b5 b6 b7 b8 b9 b10 b11 b12 b13 b14 b15 b16 true _ _ _ _ _ _ _ _ _ _ _ _ _ _ _ _ _ _ _ { HTH.out with h17 := fun _ => rfl })
                case fin =>
                  rintro lq a' w' ⟨b0, b1, b2, b3, b4, b5, b6, b7, b8, b9, b10, b11, b12, b13, b14, b15, b16, b17, v88, v89, v90, v91, v92, v93, v94, v95, v96, v97, v98, v99, v100, v101, v102, v103, v104, v105, _, HT⟩ hr
                  obtain rfl : b0 = true := by
                    cases b0 with
                    | true => rfl
                    | false => exact (ready_in 0 rfl rfl (by simp [Region.binds]) hr).elim
                  obtain rfl : b1 = true := by
                    cases b1 with
                    | true => rfl
                    | false => exact (ready_in 1 rfl rfl (by simp [Region.binds]) hr).elim
                  obtain rfl : b2 = true := by
                    cases b2 with
                    | true => rfl
                    | false => exact (ready_in 2 rfl rfl (by simp [Region.binds]) hr).elim
                  obtain rfl : b3 = true := by
                    cases b3 with
                    | true => rfl
                    | false => exact (ready_in 3 rfl rfl (by simp [Region.binds]) hr).elim
                  obtain rfl : b4 = true := by
                    cases b4 with
                    | true => rfl
                    | false => exact (ready_in 4 rfl rfl (by simp [Region.binds]) hr).elim
                  obtain rfl : b5 = true := by
                    cases b5 with
                    | true => rfl
                    | false => exact (ready_in 5 rfl rfl (by simp [Region.binds]) hr).elim
                  obtain rfl : b6 = true := by
                    cases b6 with
                    | true => rfl
                    | false => exact (ready_in 6 rfl rfl (by simp [Region.binds]) hr).elim
                  obtain rfl : b7 = true := by
                    cases b7 with
                    | true => rfl
                    | false => exact (ready_in 7 rfl rfl (by simp [Region.binds]) hr).elim
                  obtain rfl : b8 = true := by
                    cases b8 with
                    | true => rfl
                    | false => exact (ready_in 8 rfl rfl (by simp [Region.binds]) hr).elim
                  obtain rfl : b9 = true := by
                    cases b9 with
                    | true => rfl
                    | false => exact (ready_in 9 rfl rfl (by simp [Region.binds]) hr).elim
                  obtain rfl : b10 = true := by
                    cases b10 with
                    | true => rfl
                    | false => exact (ready_in 10 rfl rfl (by simp [Region.binds]) hr).elim
                  obtain rfl : b11 = true := by
                    cases b11 with
                    | true => rfl
                    | false => exact (ready_in 11 rfl rfl (by simp [Region.binds]) hr).elim
                  obtain rfl : b12 = true := by
                    cases b12 with
                    | true => rfl
                    | false => exact (ready_in 12 rfl rfl (by simp [Region.binds]) hr).elim
                  obtain rfl : b13 = true := by
                    cases b13 with
                    | true => rfl
                    | false => exact (ready_in 13 rfl rfl (by simp [Region.binds]) hr).elim
                  obtain rfl : b14 = true := by
                    cases b14 with
                    | true => rfl
                    | false => exact (ready_in 14 rfl rfl (by simp [Region.binds]) hr).elim
                  obtain rfl : b15 = true := by
                    cases b15 with
                    | true => rfl
                    | false => exact (ready_in 15 rfl rfl (by simp [Region.binds]) hr).elim
                  obtain rfl : b16 = true := by
                    cases b16 with
                    | true => rfl
                    | false => exact (ready_in 16 rfl rfl (by simp [Region.binds]) hr).elim
                  obtain rfl : b17 = true := by
                    cases b17 with
                    | true => rfl
                    | false => exact (ready_in 17 rfl rfl (by simp [Region.binds]) hr).elim
                  have k0 := HT.h0 rfl
                  subst k0
                  have k1 := HT.h1 rfl
                  subst k1
                  have k2 := HT.h2 rfl
                  subst k2
                  have k3 := HT.h3 rfl
                  subst k3
                  have k4 := HT.h4 rfl
                  subst k4
                  have k5 := HT.h5 rfl
                  subst k5
                  have k6 := HT.h6 rfl
                  subst k6
                  have k7 := HT.h7 rfl
                  subst k7
                  have k8 := HT.h8 rfl
                  subst k8
                  have k9 := HT.h9 rfl
                  subst k9
                  have k10 := HT.h10 rfl
                  subst k10
                  have k11 := HT.h11 rfl
                  subst k11
                  have k12 := HT.h12 rfl
                  subst k12
                  have k13 := HT.h13 rfl
                  subst k13
                  have k14 := HT.h14 rfl
                  subst k14
                  have k15 := HT.h15 rfl
                  subst k15
                  have k16 := HT.h16 rfl
                  subst k16
                  have k17 := HT.h17 rfl
                  subst k17
                  have HF2 : Hid (Below (p2 + 1) W5 _) := Lib.hid (HR0.out.trans (HT.bel.mono HY0.out))
                  clear HT hr
                  show _
                  go_wp2
                  go_roundw
                  case rel => exact ⟨i + 1, by omega, by go_num, HF2⟩
                  case measure => simp [intOf]; omega
                | false =>
                have HC3 := Lib.hid (HIN3.out.resolve_right (fun h => h ⟨rfl, rfl⟩))
                refine wp_region_inv (by kernel_rfl) (I := BcJ wr (.agg #[.int .i64 (N : Int), .slice A x c]) (.int .u64 (s : Int)) (.int .i64 (i : Int)) (.int .u64 (IntKind.u64.wrap ((2 : Int) ^ i))) (.int .u64 ((andn s (one i) : Nat) : Int)) bh _ _ _ _ _ _ _ _ _ _ _ _ _ _ _ _ _ _ _ _ _ _ _ _ _ _ _ _ _ _ _ _ _ _ _ _ _ _ _ _ _ _ _ _ _ _ _ _ _ _ _ _ _ _ _ _ _ _ _ _ _ _ _ _ _ _ _ _ _ _ _ _ _ _ _ _ _ _ _ _ _ _ _ _ _ _ _ _) (.mk false false false false false false false false false false false false false false false false false false _ _ _ _ _ _ _ _ _ _ _ _ _ _ _ _ _ _ _ ⟨(Below.refl _ wr).drew, nofun, nofun, nofun, nofun, nofun, nofun, nofun, nofun, nofun, nofun, nofun, nofun, nofun, nofun, nofun, nofun, nofun, nofun⟩) ?step ?fin
                case step =>
                  rintro lq a' w' ix ⟨b0, b1, b2, b3, b4, b5, b6, b7, b8, b9, b10, b11, b12, b13, b14, b15, b16, b17, v88, v89, v90, v91, v92, v93, v94, v95, v96, v97, v98, v99, v100, v101, v102, v103, v104, v105, _, HT⟩ hi
                  obtain ⟨hi_, hib⟩ := ready_lt hi
                  have HTH := Lib.hid HT
                  match ix, hi_, hi, hib with
                  | 0, _, hi, hib =>
                    have HTb := Lib.hid HT.bel
                    have hgP := (HTb.out.block p2 (by have := HY0.out; omega)).trans HPV.out
                    have v00 : w'.cell? ⟨p2, 0, none⟩ = some (.int .i64 (N : Int)) := by simp [World.cell?, hgP]
                    have v01 : w'.cell? ⟨p2, 1, none⟩ = some (.slice A x c) := by simp [World.cell?, hgP]
                    clear hgP
                    clear HT
                    refine wpOp_one rfl rfl (fun K hK => ?_)
                    go_simp
                    exact hK.out _ _ (.mk true b1 b2 b3 b4 b5 b6 b7 b8 b9 b10 b11 b12 b13 b14 b15 b16 b17 _ _ _ _ _ _ _ _ _ _ _ _ _ _ _ _ _ _ _ { HTH.out with h0 := fun _ => rfl })
                  | 1, _, hi, hib =>
                    clear HT
                    refine wpOp_one rfl rfl (fun K hK => ?_)
                    go_simp
                    exact hK.out _ _ (.mk b0 true b2 b3 b4 b5 b6 b7 b8 b9 b10 b11 b12 b13 b14 b15 b16 b17 _ _ _ _ _ _ _ _ _ _ _ _ _ _ _ _ _ _ _ { HTH.out with h1 := fun _ => rfl })
                  | 2, _, hi, hib =>
                    have d0 : b0 = true := ready_dep hi rfl 0 (by kernel_rfl)
                    have hd0 := HT.h0 d0
                    subst hd0
                    have d1 : b1 = true := ready_dep hi rfl 1 (by kernel_rfl)
                    have hd1 := HT.h1 d1
                    subst hd1
                    have HTb := Lib.hid HT.bel
                    have HC := Lib.hid (refClosed_any (w := w') (c := c) (s := s) (HX.out.below (B := w.heap.size) (by rw [Hk.out]; exact HK0.out.trans (HTb.out.mono (by have := HKP.out; have := HY0.out; omega)))) HI.out (show N ≤ 64 by omega) (show x ≤ 4096 by omega) (by have h1 := HTb.out.size; have := HY0.out; have := Hk.out; have := HKP.out; omega) HS.out)
                    rw [HCS.out] at HC
                    clear HT
                    refine wpOp_one rfl rfl (fun K hK => ?_)
                    go_simp
                    refine HC.out.mono ?_
                    rintro e w2 ⟨rfl, hb⟩
                    exact hK.out _ _ (.mk b0 b1 true b3 b4 b5 b6 b7 b8 b9 b10 b11 b12 b13 b14 b15 b16 b17 _ _ _ _ _ _ _ _ _ _ _ _ _ _ _ _ _ _ _ { HTH.out with bel := HTH.out.bel.trans (hb.mono HTH.out.bel.size), h2 := fun _ => rfl })
                  | 3, _, hi, hib =>
                    have d2 : b2 = true := ready_dep hi rfl 2 (by kernel_rfl)
                    have hd2 := HT.h2 d2
                    subst hd2
                    clear HT
                    refine wpOp_one rfl rfl (fun K hK => ?_)
                    go_simp
                    exact hK.out _ _ (.mk b0 b1 b2 true b4 b5 b6 b7 b8 b9 b10 b11 b12 b13 b14 b15 b16 b17 _ _ _ _ _ _ _ _ _ _ _ _ _ _ _ _ _ _ _ { HTH.out with h3 := fun _ => rfl })
                  | 4, _, hi, hib =>
                    have e3 : b3 = true := ready_dep hi rfl 3 (by kernel_rfl)
                    have he3 := HT.h3 e3
                    subst he3
                    have HTb := Lib.hid HT.bel
                    have hgP := (HTb.out.block p2 (by have := HY0.out; omega)).trans HPV.out
                    have v00 : w'.cell? ⟨p2, 0, none⟩ = some (.int .i64 (N : Int)) := by simp [World.cell?, hgP]
                    have v01 : w'.cell? ⟨p2, 1, none⟩ = some (.slice A x c) := by simp [World.cell?, hgP]
                    clear hgP
                    clear HT
                    refine wpOp_want rfl 3 true rfl rfl (fun K hK => ?_)
                    go_simp
                    exact hK.out _ _ (.mk b0 b1 b2 b3 true b5 b6 b7 b8 b9 b10 b11 b12 b13 b14 b15 b16 b17 _ _ _ _ _ _ _ _ _ _ _ _ _ _ _ _ _ _ _ { HTH.out with h4 := fun _ => rfl })
                  | 5, _, hi, hib =>
                    have e3 : b3 = true := ready_dep hi rfl 3 (by kernel_rfl)
                    have he3 := HT.h3 e3
                    subst he3
                    have d4 : b4 = true := ready_dep hi rfl 4 (by kernel_rfl)
                    have hd4 := HT.h4 d4
                    subst hd4
                    have HTb := Lib.hid HT.bel
                    have HC := Lib.hid (circle_any (w := w') (c := c) (HX.out.below (B := w.heap.size) (by rw [Hk.out]; exact HK0.out.trans (HTb.out.mono (by have := HKP.out; have := HY0.out; omega)))) HI.out (show N ≤ 64 by omega) (show x ≤ 4096 by omega) (by have h1 := HTb.out.size; have := HY0.out; have := Hk.out; have := HKP.out; omega) _ HCC.out)
                    clear HT
                    refine wpOp_want rfl 3 true rfl rfl (fun K hK => ?_)
                    go_simp
                    refine HC.out.mono ?_
                    rintro e w2 ⟨rfl, hb⟩
                    exact hK.out _ _ (.mk b0 b1 b2 b3 b4 true b6 b7 b8 b9 b10 b11 b12 b13 b14 b15 b16 b17 _ _ _ _ _ _ _ _ _ _ _ _ _ _ _ _ _ _ _ { HTH.out with bel := HTH.out.bel.trans (hb.mono HTH.out.bel.size), h5 := fun _ => rfl })
                  | 6, _, hi, hib =>
                    have e3 : b3 = true := ready_dep hi rfl 3 (by kernel_rfl)
                    have he3 := HT.h3 e3
                    subst he3
                    have d5 : b5 = true := ready_dep hi rfl 5 (by kernel_rfl)
                    have hd5 := HT.h5 d5
                    subst hd5
                    clear HT
                    refine wpOp_want rfl 3 true rfl rfl (fun K hK => ?_)
                    go_simp
                    exact hK.out _ _ (.mk b0 b1 b2 b3 b4 b5 true b7 b8 b9 b10 b11 b12 b13 b14 b15 b16 b17 _ _ _ _ _ _ _ _ _ _ _ _ _ _ _ _ _ _ _ { HTH.out with h6 := fun _ => rfl })
                  | 7, _, hi, hib =>
                    have d3 : b3 = true := ready_dep hi rfl 3 (by kernel_rfl)
                    have hd3 := HT.h3 d3
                    subst hd3
                    have d6 : b6 = true := ready_dep hi rfl 6 (by kernel_rfl)
                    have hd6 := HT.h6 d6
                    subst hd6
                    clear HT
                    refine wpOp_one rfl rfl (fun K hK => ?_)
                    go_simp
                    exact hK.out _ _ (.mk b0 b1 b2 b3 b4 b5 b6 true b8 b9 b10 b11 b12 b13 b14 b15 b16 b17 _ _ _ _ _ _ _ _ _ _ _ _ _ _ _ _ _ _ _ { HTH.out with h7 := fun _ => rfl })
                  | 8, _, hi, hib =>
                    have d7 : b7 = true := ready_dep hi rfl 7 (by kernel_rfl)
                    have hd7 := HT.h7 d7
                    subst hd7
                    clear HT
                    refine wpOp_one rfl rfl (fun K hK => ?_)
                    go_simp
                    exact hK.out _ _ (.mk b0 b1 b2 b3 b4 b5 b6 b7 true b9 b10 b11 b12 b13 b14 b15 b16 b17 _ _ _ _ _ _ _ _ _ _ _ _ _ _ _ _ _ _ _ { HTH.out with h8 := fun _ => rfl })
                  | 9, _, hi, hib =>
                    have e8 : b8 = true := ready_dep hi rfl 8 (by kernel_rfl)
                    have he8 := HT.h8 e8
                    subst he8
                    have HTb := Lib.hid HT.bel
                    have hgP := (HTb.out.block p2 (by have := HY0.out; omega)).trans HPV.out
                    have v00 : w'.cell? ⟨p2, 0, none⟩ = some (.int .i64 (N : Int)) := by simp [World.cell?, hgP]
                    have v01 : w'.cell? ⟨p2, 1, none⟩ = some (.slice A x c) := by simp [World.cell?, hgP]
                    clear hgP
                    clear HT
                    refine wpOp_want rfl 8 true rfl rfl (fun K hK => ?_)
                    go_simp
                    exact hK.out _ _ (.mk b0 b1 b2 b3 b4 b5 b6 b7 b8 true b10 b11 b12 b13 b14 b15 b16 b17 _ _ _ _ _ _ _ _ _ _ _ _ _ _ _ _ _ _ _ { HTH.out with h9 := fun _ => rfl })
                  | 10, _, hi, hib =>
                    have e8 : b8 = true := ready_dep hi rfl 8 (by kernel_rfl)
                    have he8 := HT.h8 e8
                    subst he8
                    clear HT
                    refine wpOp_want rfl 8 true rfl rfl (fun K hK => ?_)
                    go_simp
                    exact hK.out _ _ (.mk b0 b1 b2 b3 b4 b5 b6 b7 b8 b9 true b11 b12 b13 b14 b15 b16 b17 _ _ _ _ _ _ _ _ _ _ _ _ _ _ _ _ _ _ _ { HTH.out with h10 := fun _ => rfl })
                  | 11, _, hi, hib =>
                    have e8 : b8 = true := ready_dep hi rfl 8 (by kernel_rfl)
                    have he8 := HT.h8 e8
                    subst he8
                    clear HT
                    refine wpOp_want rfl 8 true rfl rfl (fun K hK => ?_)
                    go_simp
                    exact hK.out _ _ (.mk b0 b1 b2 b3 b4 b5 b6 b7 b8 b9 b10 true b12 b13 b14 b15 b16 b17 _ _ _ _ _ _ _ _ _ _ _ _ _ _ _ _ _ _ _ { HTH.out with h11 := fun _ => rfl })
                  | 12, _, hi, hib =>
                    have e8 : b8 = true := ready_dep hi rfl 8 (by kernel_rfl)
                    have he8 := HT.h8 e8
                    subst he8
                    have d11 : b11 = true := ready_dep hi rfl 11 (by kernel_rfl)
                    have hd11 := HT.h11 d11
                    subst hd11
                    clear HT
                    refine wpOp_want rfl 8 true rfl rfl (fun K hK => ?_)
                    go_simp
                    exact hK.out _ _ (.mk b0 b1 b2 b3 b4 b5 b6 b7 b8 b9 b10 b11 true b13 b14 b15 b16 b17 _ _ _ _ _ _ _ _ _ _ _ _ _ _ _ _ _ _ _ { HTH.out with h12 := fun _ => rfl })
                  | 13, _, hi, hib =>
                    have e8 : b8 = true := ready_dep hi rfl 8 (by kernel_rfl)
                    have he8 := HT.h8 e8
                    subst he8
                    have d10 : b10 = true := ready_dep hi rfl 10 (by kernel_rfl)
                    have hd10 := HT.h10 d10
                    subst hd10
                    have d12 : b12 = true := ready_dep hi rfl 12 (by kernel_rfl)
                    have hd12 := HT.h12 d12
                    subst hd12
                    have h3 := H3.out
                    clear HT
                    refine wpOp_want rfl 8 true rfl rfl (fun K hK => ?_)
                    go_simp
                    exact hK.out _ _ (.mk b0 b1 b2 b3 b4 b5 b6 b7 b8 b9 b10 b11 b12 true b14 b15 b16 b17 _ _ _ _ _ _ _ _ _ _ _ _ _ _ _ _ _ _ _ { HTH.out with h13 := fun _ => rfl })
                  | 14, _, hi, hib =>
                    have e8 : b8 = true := ready_dep hi rfl 8 (by kernel_rfl)
                    have he8 := HT.h8 e8
                    subst he8
                    have d9 : b9 = true := ready_dep hi rfl 9 (by kernel_rfl)
                    have hd9 := HT.h9 d9
                    subst hd9
                    have d13 : b13 = true := ready_dep hi rfl 13 (by kernel_rfl)
                    have hd13 := HT.h13 d13
                    subst hd13
                    have HTb := Lib.hid HT.bel
                    have HC := Lib.hid (refClosed_any (w := w') (c := c) (s := andn s (one i)) (HX.out.below (B := w.heap.size) (by rw [Hk.out]; exact HK0.out.trans (HTb.out.mono (by have := HKP.out; have := HY0.out; omega)))) HI.out (show N ≤ 64 by omega) (show x ≤ 4096 by omega) (by have h1 := HTb.out.size; have := HY0.out; have := Hk.out; have := HKP.out; omega) (andn_lt HS.out))
                    rw [HC3.out] at HC
                    clear HT
                    refine wpOp_want rfl 8 true rfl rfl (fun K hK => ?_)
                    go_simp
                    refine HC.out.mono ?_
                    rintro e w2 ⟨rfl, hb⟩
                    exact hK.out _ _ (.mk b0 b1 b2 b3 b4 b5 b6 b7 b8 b9 b10 b11 b12 b13 true b15 b16 b17 _ _ _ _ _ _ _ _ _ _ _ _ _ _ _ _ _ _ _ { HTH.out with bel := HTH.out.bel.trans (hb.mono HTH.out.bel.size), h14 := fun _ => rfl })
                  | 15, _, hi, hib =>
                    have e8 : b8 = true := ready_dep hi rfl 8 (by kernel_rfl)
                    have he8 := HT.h8 e8
                    subst he8
                    clear HT
                    refine wpOp_want rfl 8 true rfl rfl (fun K hK => ?_)
                    go_simp
                    exact hK.out _ _ (.mk b0 b1 b2 b3 b4 b5 b6 b7 b8 b9 b10 b11 b12 b13 b14 true b16 b17 _ _ _ _ _ _ _ _ _ _ _ _ _ _ _ _ _ _ _ { HTH.out with h15 := fun _ => rfl })
                  | 16, _, hi, hib =>
                    have e8 : b8 = true := ready_dep hi rfl 8 (by kernel_rfl)
                    have he8 := HT.h8 e8
                    subst he8
                    have d14 : b14 = true := ready_dep hi rfl 14 (by kernel_rfl)
                    have hd14 := HT.h14 d14
                    subst hd14
                    have d15 : b15 = true := ready_dep hi rfl 15 (by kernel_rfl)
                    have hd15 := HT.h15 d15
                    subst hd15
                    have hne := HNE.out
                    clear HT
                    refine wpOp_want rfl 8 true rfl rfl (fun K hK => ?_)
                    go_simp
                    exact hK.out _ _ (.mk b0 b1 b2 b3 b4 b5 b6 b7 b8 b9 b10 b11 b12 b13 b14 b15 true b17 _ _ _ _ _ _ _ _ _ _ _ _ _ _ _ _ _ _ _ { HTH.out with h16 := fun _ => rfl })
                  | 17, _, hi, hib =>
                    have d8 : b8 = true := ready_dep hi rfl 8 (by kernel_rfl)
                    have hd8 := HT.h8 d8
                    subst hd8
                    have d16 : b16 = true := ready_dep hi rfl 16 (by kernel_rfl)
                    have hd16 := HT.h16 d16
                    subst hd16
                    clear HT
                    refine wpOp_one rfl rfl (fun K hK => ?_)
                    go_simp
                    exact hK.out _ _ (.mk b0 b1 b2 b3 b4 b5 b6 b7 b8 b9 b10 b11 b12 b13 b14 b15 b16 true _ _ _ _ _ _ _ _ _ _ _ _ _ _ _ _ _ _ _ { HTH.out with h17 := fun _ => rfl })
                case fin =>
                  rintro lq a' w' ⟨b0, b1, b2, b3, b4, b5, b6, b7, b8, b9, b10, b11, b12, b13, b14, b15, b16, b17, v88, v89, v90, v91, v92, v93, v94, v95, v96, v97, v98, v99, v100, v101, v102, v103, v104, v105, _, HT⟩ hr
                  obtain rfl : b0 = true := by
                    cases b0 with
                    | true => rfl
                    | false => exact (ready_in 0 rfl rfl (by simp [Region.binds]) hr).elim
                  obtain rfl : b1 = true := by
                    cases b1 with
                    | true => rfl
                    | false => exact (ready_in 1 rfl rfl (by simp [Region.binds]) hr).elim
                  obtain rfl : b2 = true := by
                    cases b2 with
                    | true => rfl
                    | false => exact (ready_in 2 rfl rfl (by simp [Region.binds]) hr).elim
                  obtain rfl : b3 = true := by
                    cases b3 with
                    | true => rfl
                    | false => exact (ready_in 3 rfl rfl (by simp [Region.binds]) hr).elim
                  obtain rfl : b4 = true := by
                    cases b4 with
                    | true => rfl
                    | false => exact (ready_in 4 rfl rfl (by simp [Region.binds]) hr).elim
                  obtain rfl : b5 = true := by
                    cases b5 with
                    | true => rfl
                    | false => exact (ready_in 5 rfl rfl (by simp [Region.binds]) hr).elim
                  obtain rfl : b6 = true := by
                    cases b6 with
                    | true => rfl
                    | false => exact (ready_in 6 rfl rfl (by simp [Region.binds]) hr).elim
                  obtain rfl : b7 = true := by
                    cases b7 with
                    | true => rfl
                    | false => exact (ready_in 7 rfl rfl (by simp [Region.binds]) hr).elim
                  obtain rfl : b8 = true := by
                    cases b8 with
                    | true => rfl
                    | false => exact (ready_in 8 rfl rfl (by simp [Region.binds]) hr).elim
                  obtain rfl : b9 = true := by
                    cases b9 with
                    | true => rfl
                    | false => exact (ready_in 9 rfl rfl (by simp [Region.binds]) hr).elim
                  obtain rfl : b10 = true := by
                    cases b10 with
                    | true => rfl
                    | false => exact (ready_in 10 rfl rfl (by simp [Region.binds]) hr).elim
                  obtain rfl : b11 = true := by
                    cases b11 with
                    | true => rfl
                    | false => exact (ready_in 11 rfl rfl (by simp [Region.binds]) hr).elim
                  obtain rfl : b12 = true := by
                    cases b12 with
                    | true => rfl
                    | false => exact (ready_in 12 rfl rfl (by simp [Region.binds]) hr).elim
                  obtain rfl : b13 = true := by
                    cases b13 with
                    | true => rfl
                    | false => exact (ready_in 13 rfl rfl (by simp [Region.binds]) hr).elim
                  obtain rfl : b14 = true := by
                    cases b14 with
                    | true => rfl
                    | false => exact (ready_in 14 rfl rfl (by simp [Region.binds]) hr).elim
                  obtain rfl : b15 = true := by
                    cases b15 with
                    | true => rfl
                    | false => exact (ready_in 15 rfl rfl (by simp [Region.binds]) hr).elim
                  obtain rfl : b16 = true := by
                    cases b16 with
                    | true => rfl
                    | false => exact (ready_in 16 rfl rfl (by simp [Region.binds]) hr).elim
                  obtain rfl : b17 = true := by
                    cases b17 with
                    | true => rfl
                    | false => exact (ready_in 17 rfl rfl (by simp [Region.binds]) hr).elim
                  have k0 := HT.h0 rfl
                  subst k0
                  have k1 := HT.h1 rfl
                  subst k1
                  have k2 := HT.h2 rfl
                  subst k2
                  have k3 := HT.h3 rfl
                  subst k3
                  have k4 := HT.h4 rfl
                  subst k4
                  have k5 := HT.h5 rfl
                  subst k5
                  have k6 := HT.h6 rfl
                  subst k6
                  have k7 := HT.h7 rfl
                  subst k7
                  have k8 := HT.h8 rfl
                  subst k8
                  have k9 := HT.h9 rfl
                  subst k9
                  have k10 := HT.h10 rfl
                  subst k10
                  have k11 := HT.h11 rfl
                  subst k11
                  have k12 := HT.h12 rfl
                  subst k12
                  have k13 := HT.h13 rfl
                  subst k13
                  have k14 := HT.h14 rfl
                  subst k14
                  have k15 := HT.h15 rfl
                  subst k15
                  have k16 := HT.h16 rfl
                  subst k16
                  have k17 := HT.h17 rfl
                  subst k17
                  have HF2 : Hid (Below (p2 + 1) W5 _) := Lib.hid (HR0.out.trans (HT.bel.mono HY0.out))
                  clear HT hr
                  show _
                  go_wp2
                  go_roundw
                  case rel => exact ⟨i + 1, by omega, by go_num, HF2⟩
                  case measure => simp [intOf]; omega
    · have hdk : decide ((i : Int) < (N : Int)) = false := decide_eq_false (by omega)
      go_wp2
      go_ret
      exact ⟨rfl, by rw [Hk.out]; exact HBR.out⟩
theorem law_border {w : World} {m c : Nat} {n a : Int} {A : Option Addr} {es : List (Int × Int)} (hx : RdE w w.heap.size A m es) (hm0 : m ≤ 9223372036854775807) (ha : 0 ≤ a ∧ a ≤ 18446744073709551615) (hT : Tz w) (h0 : 0 < w.heap.size) :
    Calls Tryd.prog 7 #[.agg #[.int .i64 n, .slice A m c], .int .u64 a] w fun e w' => e = .returned (.bool true) ∧ Below w.heap.size w w' := by
  by_cases hok : m ≤ 60 ∧ (n ≤ 10 ∨ ¬ GraphR n es)
  · by_cases hr : GraphR n es
    · have hn : n ≤ 10 := hok.2.elim id (fun h => (h hr).elim)
      obtain ⟨N, g, rfl, rfl, hi, _, _⟩ := graph_nat hr
      obtain ⟨s, rfl⟩ := Int.eq_ofNat_of_zero_le ha.1
      have hs : s < lim := show s < 18446744073709551616 by omega
      cases hf : fitsB s N with
      | true => exact law_border_go hx hi (by omega) hok.1 hs hf hT h0
      | false => exact law_border_out hx hi (by omega) hok.1 hs hf hT h0
    · exact law_border_wrong hx hm0 hok.1 hr hT h0
  · exact law_border_skip hx hm0 hok hT h0
end Go.Proofs.YtfcabdgidlnljaaDoor
