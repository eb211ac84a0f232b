/-
  BackoffClocks, over this translation.
-/
import Derived.Test.YtinphdphloddmabCPlay
namespace Go.Proofs.Ytinphdphloddmab
open Go.RowKit
open ByteP
set_option linter.unusedVariables false
set_option maxRecDepth 100000

def CkX (w wr : World) (cb bm j : Nat) (v6 v7 v8 : Value) : Prop := ∃ (now : Int) (D : DataW Unit) (G : Int → Option Int) (n m c1 c2 : Nat) (A1 A2 : Option Addr) (ids ats : List Int), CkI w wr cb bm j v6 v7 v8 now D G n m c1 c2 A1 A2 ids ats
theorem own_lt {w : World} {base n c : Nat} {A : Option Addr} {xs : List Int} (h : Own w base (.slice A n c) n xs) : ∀ g, (Value.slice A n c).ownBlock = some g → g < w.heap.size := fun g hg => by
  rcases h.2 with ⟨h, _⟩ | ⟨g', cap, cur, hv, _, hh, _⟩
  · rw [h] at hg; cases hg
  · rw [hv] at hg
    have : g' = g := by simpa [Value.ownBlock] using hg
    subst this
    exact heapK_lt hh
theorem row3 {w : World} {g : Nat} {x y z : Value} {t : TypeId} (h : w.heap[g]? = some (.cells #[x, y, z] t (0, 0))) : w.cell? ⟨g, 0, none⟩ = some x ∧ w.cell? ⟨g, 1, none⟩ = some y ∧ w.cell? ⟨g, 2, none⟩ = some z :=
  ⟨by rw [cell_of_row w g 0 _ _ _ h]; rfl, by rw [cell_of_row w g 1 _ _ _ h]; rfl, by rw [cell_of_row w g 2 _ _ _ h]; rfl⟩
theorem Clk.far {w : World} {cb bm n : Nat} {now : Int} {D : DataW Unit} (h : Clk w cb bm now n D) {g j : Nat} (h1 : g ≠ cb) (h2 : g ≠ bm) (u : Value) : Clk (w.setCell ⟨g, j, none⟩ u) cb bm now n D :=
  ⟨(heap_setCell_other w ⟨g, j, none⟩ cb u (fun e => h1 e.symm)).trans h.row, h.own.setCell (fun e => h2 e.symm) _, h.ne⟩
theorem delG_none {G : Int → Option Int} {x : Int} (h : G x = none) : delG G x = G := by
  funext y
  unfold delG
  by_cases e : y = x
  · rw [if_pos e, e, h]
  · rw [if_neg e]
theorem ad_lt {w : World} {base n c : Nat} {A : Option Addr} {xs : List Int} (h : Own w base (.slice A n c) n xs) : ∀ ad, A = some ad → ad.block < w.heap.size := fun ad e => by
  rcases h.2 with ⟨h, _⟩ | ⟨g, cap, cur, h, _, hh, _⟩
  · injection h with h; rw [h] at e; cases e
  · injection h with h
    rw [h] at e
    injection e with e
    subst e
    exact heapK_lt hh
theorem Par.two {w : World} {base n1 n2 c1 c2 : Nat} {A1 A2 : Option Addr} {xs ys : List Int} (hb : base ≤ w.heap.size) (h1 : Own w base (.slice A1 n1 c1) n1 xs) (h2 : Own w base (.slice A2 n2 c2) n2 ys)
    (ha : ∀ g, (Value.slice A1 n1 c1).ownBlock = some g → (Value.slice A2 n2 c2).ownBlock ≠ some g) :
    Par w (fun b => (Value.slice A1 n1 c1).ownBlock = some b ∨ (Value.slice A2 n2 c2).ownBlock = some b) base w [some ⟨.slice A1 n1 c1, 3, 1, n1, ints xs⟩, some ⟨.slice A2 n2 c2, 3, 1, n2, ints ys⟩, none, none] := by
  refine ⟨FrP.refl _ _, hb, ?_, ?_, ?_⟩
  · intro i x hx
    match i, hx with
    | 0, hx => simp at hx; subst hx; exact h1
    | 1, hx => simp at hx; subst hx; exact h2
    | 2, hx => simp at hx
    | 3, hx => simp at hx
    | i + 4, hx => simp at hx
  · intro i x hx g hg
    match i, hx with
    | 0, hx => simp at hx; subst hx; exact .inl (.inl hg)
    | 1, hx => simp at hx; subst hx; exact .inl (.inr hg)
    | 2, hx => simp at hx
    | 3, hx => simp at hx
    | i + 4, hx => simp at hx
  · intro i j x y hne hx hy g hg
    match i, j, hne, hx, hy with
    | 0, 0, hne, _, _ => exact absurd rfl hne
    | 0, 1, _, hx, hy => simp at hx hy; subst hx hy; exact ha g hg
    | 1, 0, _, hx, hy => simp at hx hy; subst hx hy; exact fun e => ha g e hg
    | 1, 1, hne, _, _ => exact absurd rfl hne
    | 2, _, _, hx, _ => simp at hx
    | 3, _, _, hx, _ => simp at hx
    | i + 4, _, _, hx, _ => simp at hx
    | 0, 2, _, _, hy => simp at hy
    | 0, 3, _, _, hy => simp at hy
    | 0, j + 4, _, _, hy => simp at hy
    | 1, 2, _, _, hy => simp at hy
    | 1, 3, _, _, hy => simp at hy
    | 1, j + 4, _, _, hy => simp at hy
/-- What holds after whatever of the operations. -/
structure CbSt (w0 : World) (qB qm qn : Nat) (qc1 qc2 : Nat) (qA1 qA2 : Option Addr) (qids qats : List Int) (qx qt : Int) (qa : Nat) (b0 b1 b2 b3 b4 b5 b6 b7 b8 b9 b10 b11 : Bool) (v7 v8 v89 v90 v91 v92 v93 v94 v95 v96 v97 v98 : Value) (w' : World) : Prop where
  par : Par w0 (fun b => (Value.slice qA1 qm qc1).ownBlock = some b ∨ (Value.slice qA2 qn qc2).ownBlock = some b) qB w' [bif b4 then some ⟨v93, 3, 1, qm + 1, (ints qids) ++ [.int .i64 qx]⟩ else some ⟨.slice qA1 qm qc1, 3, 1, qm, ints qids⟩, bif b9 then some ⟨v98, 3, 1, qn + 1, (ints qats) ++ [.int .i64 qt]⟩ else some ⟨.slice qA2 qn qc2, 3, 1, qn, ints qats⟩, bif b3 then some ⟨v92, 3, 1, 1, [.int .i64 qx]⟩ else none, bif b8 then some ⟨v97, 3, 1, 1, [.int .i64 qt]⟩ else none]
  h0 : b0 = true → v89 = .slice qA1 qm qc1
  h1 : b1 = true → v90 = .pointer (some ⟨qa, 1, none⟩)
  h2 : b2 = true → v91 = .int .i64 qx
  d2 : b2 = true → b1 = true
  d3 : b3 = true → b2 = true
  d4 : b4 = true → b0 = true ∧ b3 = true
  h5 : b5 = true → v94 = .slice qA2 qn qc2
  h6 : b6 = true → v95 = .pointer (some ⟨qa, 2, none⟩)
  h7 : b7 = true → v96 = .int .i64 qt
  d7 : b7 = true → b6 = true
  d8 : b8 = true → b7 = true
  d9 : b9 = true → b5 = true ∧ b8 = true
  h10 : b10 = true → v7 = v93
  o10 : b10 = false → v7 = .slice qA1 qm qc1
  d10 : b10 = true → b4 = true
  h11 : b11 = true → v8 = v98
  o11 : b11 = false → v8 = .slice qA2 qn qc2
  d11 : b11 = true → b9 = true
def CbJ (w0 : World) (qB qm qn : Nat) (qc1 qc2 : Nat) (qA1 qA2 : Option Addr) (qids qats : List Int) (qx qt : Int) (qa : Nat) (p0 p1 p2 p3 p4 p5 p6 p9 p10 p11 p12 p13 p14 p15 p16 p17 p18 p19 p20 p21 p22 p23 p24 p25 p26 p27 p28 p29 p30 p31 p32 p33 p34 p35 p36 p37 p38 p39 p40 p41 p42 p43 p44 p45 p46 p47 p48 p49 p50 p51 p52 p53 p54 p55 p56 p57 p58 p59 p60 p61 p62 p63 p64 p65 p66 p67 p68 p69 p70 p71 p72 p73 p74 p75 p76 p77 p78 p79 p80 p81 p82 p83 p84 p85 p86 p87 p88 p99 p100 p101 p102 p103 p104 p105 p106 p107 p108 p109 p110 p111 p112 p113 p114 p115 p116 p117 p118 p119 p120 p121 p122 p123 p124 p125 p126 p127 p128 p129 p130 p131 p132 p133 p134 p135 p136 p137 p138 p139 p140 p141 p142 p143 p144 p145 p146 p147 p148 p149 p150 p151 p152 p153 p154 p155 p156 p157 p158 p159 p160 p161 p162 p163 p164 p165 p166 p167 p168 : Value) (l : Array Bool) (a' : Act) (w' : World) : Prop :=
  ∃ (b0 b1 b2 b3 b4 b5 b6 b7 b8 b9 b10 b11 : Bool) (v7 v8 v89 v90 v91 v92 v93 v94 v95 v96 v97 v98 : Value), l = #[b0, b1, b2, b3, b4, b5, b6, b7, b8, b9, b10, b11] ∧ a' = { tmps := List.toArray (p0 :: p1 :: p2 :: p3 :: p4 :: p5 :: p6 :: v7 :: v8 :: p9 :: p10 :: p11 :: p12 :: p13 :: p14 :: p15 :: p16 :: p17 :: p18 :: p19 :: p20 :: p21 :: p22 :: p23 :: p24 :: p25 :: p26 :: p27 :: p28 :: p29 :: p30 :: p31 :: p32 :: p33 :: p34 :: p35 :: p36 :: p37 :: p38 :: p39 :: p40 :: p41 :: p42 :: p43 :: p44 :: p45 :: p46 :: p47 :: p48 :: p49 :: p50 :: p51 :: p52 :: p53 :: p54 :: p55 :: p56 :: p57 :: p58 :: p59 :: p60 :: p61 :: p62 :: p63 :: p64 :: p65 :: p66 :: p67 :: p68 :: p69 :: p70 :: p71 :: p72 :: p73 :: p74 :: p75 :: p76 :: p77 :: p78 :: p79 :: p80 :: p81 :: p82 :: p83 :: p84 :: p85 :: p86 :: p87 :: p88 :: v89 :: v90 :: v91 :: v92 :: v93 :: v94 :: v95 :: v96 :: v97 :: v98 :: p99 :: p100 :: p101 :: p102 :: p103 :: p104 :: p105 :: p106 :: p107 :: p108 :: p109 :: p110 :: p111 :: p112 :: p113 :: p114 :: p115 :: p116 :: p117 :: p118 :: p119 :: p120 :: p121 :: p122 :: p123 :: p124 :: p125 :: p126 :: p127 :: p128 :: p129 :: p130 :: p131 :: p132 :: p133 :: p134 :: p135 :: p136 :: p137 :: p138 :: p139 :: p140 :: p141 :: p142 :: p143 :: p144 :: p145 :: p146 :: p147 :: p148 :: p149 :: p150 :: p151 :: p152 :: p153 :: p154 :: p155 :: p156 :: p157 :: p158 :: p159 :: p160 :: p161 :: p162 :: p163 :: p164 :: p165 :: p166 :: p167 :: p168 :: []), defers := [] } ∧ CbSt w0 qB qm qn qc1 qc2 qA1 qA2 qids qats qx qt qa b0 b1 b2 b3 b4 b5 b6 b7 b8 b9 b10 b11 v7 v8 v89 v90 v91 v92 v93 v94 v95 v96 v97 v98 w'
/-- What holds after whatever of the operations. -/
structure CcSt (w0 : World) (qm qn qk : Nat) (qc1 qc2 : Nat) (qA1 qA2 qD1 qD2 : Option Addr) (qids qats : List Int) (b0 b1 b2 b3 b4 b5 b6 b7 b8 b9 b10 b11 b12 b13 b14 b15 b16 b17 b18 b19 b20 b21 : Bool) (v7 v8 v110 v111 v112 v113 v114 v115 v116 v117 v118 v119 v120 v121 v122 v123 v124 v125 v126 v127 v128 v129 : Value) (w' : World) : Prop where
  par : Par w0 (fun _ => False) w0.heap.size w' [bif b9 then some ⟨v119, 3, 1, (0 + qk) + ((qm - (qk + 1))), [] ++ (ints (qids.take qk)) ++ (ints (qids.drop (qk + 1)))⟩ else bif b4 then some ⟨v114, 3, 1, 0 + qk, [] ++ (ints (qids.take qk))⟩ else bif b0 then some ⟨v110, 3, 1, 0, []⟩ else none, bif b19 then some ⟨v129, 3, 1, (0 + qk) + ((qn - (qk + 1))), [] ++ (ints (qats.take qk)) ++ (ints (qats.drop (qk + 1)))⟩ else bif b14 then some ⟨v124, 3, 1, 0 + qk, [] ++ (ints (qats.take qk))⟩ else bif b10 then some ⟨v120, 3, 1, 0, []⟩ else none]
  h1 : b1 = true → v111 = .slice qA1 qm qc1
  h2 : b2 = true → v112 = .int .i64 (qk : Int)
  h3 : b3 = true → v113 = .slice qA1 qk qc1
  d3 : b3 = true → b1 = true ∧ b2 = true
  d4 : b4 = true → b0 = true ∧ b3 = true
  h5 : b5 = true → v115 = .slice qA1 qm qc1
  h6 : b6 = true → v116 = .int .i64 (qk : Int)
  h7 : b7 = true → v117 = .int .i64 ((qk + 1 : Nat) : Int)
  d7 : b7 = true → b6 = true
  h8 : b8 = true → v118 = .slice qD1 (qm - (qk + 1)) (qc1 - (qk + 1))
  d8 : b8 = true → b5 = true ∧ b7 = true
  d9 : b9 = true → b4 = true ∧ b8 = true
  h11 : b11 = true → v121 = .slice qA2 qn qc2
  h12 : b12 = true → v122 = .int .i64 (qk : Int)
  h13 : b13 = true → v123 = .slice qA2 qk qc2
  d13 : b13 = true → b11 = true ∧ b12 = true
  d14 : b14 = true → b10 = true ∧ b13 = true
  h15 : b15 = true → v125 = .slice qA2 qn qc2
  h16 : b16 = true → v126 = .int .i64 (qk : Int)
  h17 : b17 = true → v127 = .int .i64 ((qk + 1 : Nat) : Int)
  d17 : b17 = true → b16 = true
  h18 : b18 = true → v128 = .slice qD2 (qn - (qk + 1)) (qc2 - (qk + 1))
  d18 : b18 = true → b15 = true ∧ b17 = true
  d19 : b19 = true → b14 = true ∧ b18 = true
  h20 : b20 = true → v7 = v119
  o20 : b20 = false → v7 = .slice qA1 qm qc1
  d20 : b20 = true → b9 = true
  h21 : b21 = true → v8 = v129
  o21 : b21 = false → v8 = .slice qA2 qn qc2
  d21 : b21 = true → b19 = true
def CcJ (w0 : World) (qm qn qk : Nat) (qc1 qc2 : Nat) (qA1 qA2 qD1 qD2 : Option Addr) (qids qats : List Int) (p0 p1 p2 p3 p4 p5 p6 p9 p10 p11 p12 p13 p14 p15 p16 p17 p18 p19 p20 p21 p22 p23 p24 p25 p26 p27 p28 p29 p30 p31 p32 p33 p34 p35 p36 p37 p38 p39 p40 p41 p42 p43 p44 p45 p46 p47 p48 p49 p50 p51 p52 p53 p54 p55 p56 p57 p58 p59 p60 p61 p62 p63 p64 p65 p66 p67 p68 p69 p70 p71 p72 p73 p74 p75 p76 p77 p78 p79 p80 p81 p82 p83 p84 p85 p86 p87 p88 p89 p90 p91 p92 p93 p94 p95 p96 p97 p98 p99 p100 p101 p102 p103 p104 p105 p106 p107 p108 p109 p130 p131 p132 p133 p134 p135 p136 p137 p138 p139 p140 p141 p142 p143 p144 p145 p146 p147 p148 p149 p150 p151 p152 p153 p154 p155 p156 p157 p158 p159 p160 p161 p162 p163 p164 p165 p166 p167 p168 : Value) (l : Array Bool) (a' : Act) (w' : World) : Prop :=
  ∃ (b0 b1 b2 b3 b4 b5 b6 b7 b8 b9 b10 b11 b12 b13 b14 b15 b16 b17 b18 b19 b20 b21 : Bool) (v7 v8 v110 v111 v112 v113 v114 v115 v116 v117 v118 v119 v120 v121 v122 v123 v124 v125 v126 v127 v128 v129 : Value), l = #[b0, b1, b2, b3, b4, b5, b6, b7, b8, b9, b10, b11, b12, b13, b14, b15, b16, b17, b18, b19, b20, b21] ∧ a' = { tmps := List.toArray (p0 :: p1 :: p2 :: p3 :: p4 :: p5 :: p6 :: v7 :: v8 :: p9 :: p10 :: p11 :: p12 :: p13 :: p14 :: p15 :: p16 :: p17 :: p18 :: p19 :: p20 :: p21 :: p22 :: p23 :: p24 :: p25 :: p26 :: p27 :: p28 :: p29 :: p30 :: p31 :: p32 :: p33 :: p34 :: p35 :: p36 :: p37 :: p38 :: p39 :: p40 :: p41 :: p42 :: p43 :: p44 :: p45 :: p46 :: p47 :: p48 :: p49 :: p50 :: p51 :: p52 :: p53 :: p54 :: p55 :: p56 :: p57 :: p58 :: p59 :: p60 :: p61 :: p62 :: p63 :: p64 :: p65 :: p66 :: p67 :: p68 :: p69 :: p70 :: p71 :: p72 :: p73 :: p74 :: p75 :: p76 :: p77 :: p78 :: p79 :: p80 :: p81 :: p82 :: p83 :: p84 :: p85 :: p86 :: p87 :: p88 :: p89 :: p90 :: p91 :: p92 :: p93 :: p94 :: p95 :: p96 :: p97 :: p98 :: p99 :: p100 :: p101 :: p102 :: p103 :: p104 :: p105 :: p106 :: p107 :: p108 :: p109 :: v110 :: v111 :: v112 :: v113 :: v114 :: v115 :: v116 :: v117 :: v118 :: v119 :: v120 :: v121 :: v122 :: v123 :: v124 :: v125 :: v126 :: v127 :: v128 :: v129 :: p130 :: p131 :: p132 :: p133 :: p134 :: p135 :: p136 :: p137 :: p138 :: p139 :: p140 :: p141 :: p142 :: p143 :: p144 :: p145 :: p146 :: p147 :: p148 :: p149 :: p150 :: p151 :: p152 :: p153 :: p154 :: p155 :: p156 :: p157 :: p158 :: p159 :: p160 :: p161 :: p162 :: p163 :: p164 :: p165 :: p166 :: p167 :: p168 :: []), defers := [] } ∧ CcSt w0 qm qn qk qc1 qc2 qA1 qA2 qD1 qD2 qids qats b0 b1 b2 b3 b4 b5 b6 b7 b8 b9 b10 b11 b12 b13 b14 b15 b16 b17 b18 b19 b20 b21 v7 v8 v110 v111 v112 v113 v114 v115 v116 v117 v118 v119 v120 v121 v122 v123 v124 v125 v126 v127 v128 v129 w'
section
variable [Inhabited I64]
set_option maxHeartbeats 8000000 in
theorem law_clocks {w : World} {A : Option Addr} {m c : Nat} {o : Nat → Int × Int × Int} (ho : RdA w w.heap.size A m o) (hm : m ≤ 9223372036854775807) (ask : I64) :
    Calls Try.prog 7 #[.slice A m c, .int .i64 ask.1] w fun e w' => e = .returned (.bool true) ∧ Below w.heap.size w w' := by
  have HO := Lib.hid ho
  clear ho
  go_enter Try.func7, Try.ntmps7
  go_wp2_with fail
  refine (anchor_any w).mono ?_
  rintro e w0 ⟨rfl, hb0⟩
  have HB0 := Lib.hid hb0
  clear hb0
  go_wp2_with fail
  refine (new_any w0).mono ?_
  rintro e w1 ⟨rfl, hc1, hb1⟩
  have HB1 : Hid (Below w.heap.size w w1) := Lib.hid (HB0.out.trans (hb1.mono HB0.out.size))
  obtain ⟨cb, bm, HCB, HBM, H1⟩ : ∃ cb bm, Hid (cb = w0.heap.size + 1) ∧ Hid (w.heap.size ≤ bm ∧ bm < cb) ∧ Hid (Clk w1 cb bm 0 0 (.map [])) := ⟨_, _, Lib.hid rfl, Lib.hid (by have := HB0.out.size; omega), Lib.hid hc1⟩
  rw [← HCB.out]
  clear hc1 hb1 HCB
  by_cases hm0 : 60 < m
  · have d2 : decide ((60 : Int) < (m : Int)) = true := by simp; omega
    go_wp2
    go_ret
    exact ⟨rfl, HB1.out⟩
  have d2 : decide ((60 : Int) < (m : Int)) = false := by simp; omega
  go_wp2
  go_loopg [6, 7, 8, 30] m (fun g v6 v7 v8 v30 wr => ∃ j : Nat, g + j = m ∧ v30 = .int .i64 (j : Int) ∧ Hid (CkX w wr cb bm j v6 v7 v8))
  case atStart => exact ⟨0, by omega, rfl, Lib.hid ⟨0, .map [], fun _ => none, 0, 0, 0, 0, none, none, [], [], rfl, rfl, rfl, H1.out, alD_empty, ⟨rfl, rfl, List.nodup_nil, fun i hi => absurd hi (by omega), (fun x t h => by cases h)⟩, (fun x t h => by cases h), by omega, by omega, by omega, by omega, Own.nil_ _ _, Own.nil_ _ _, (fun g h => by cases h), HB1.out, HBM.out.1, HBM.out.2⟩⟩
  case round =>
    obtain ⟨j, hj, rfl, HX⟩ := hrel
    obtain ⟨now, D, G, n, mm, c1, c2, A1, A2, ids, ats, hck⟩ := HX.out
    obtain rfl := hck.e6
    obtain rfl := hck.e7
    obtain rfl := hck.e8
    have HC := Lib.hid hck
    have hmm := hck.hm
    have hnn := hck.hn
    have hnow0 := hck.n0
    have hnow1 := hck.n1
    clear HX hck
    by_cases hjm : j < m
    · have hd : decide ((j : Int) < (m : Int)) = true := by simp; omega
      have hi : (j : Int) < (m : Int) := by omega
      have hadd : IntKind.i64.wrap ((j : Int) + 1) = ((j + 1 : Nat) : Int) := by rw [IntWalk.i64_in _ (by omega)]; omega
      obtain ⟨b, off, rfl, hlt, x0, x1, x2, hb1, hb2⟩ := (HO.out.below HC.out.bel) j hjm
      generalize o j = v at *
      obtain ⟨kd, id, at_⟩ := v
      simp only at x0 x1 x2 hb1 hb2
      have HID := Lib.hid hb1
      have HAT := Lib.hid hb2
      clear hb1 hb2 hlt
      have HCA := Lib.hid (HC.out.kept ((Below.refl _ wr).alloc (Nat.le_refl _) (.cells #[.int .i64 kd, .int .i64 id, .int .i64 at_] 61)))
      have hlen : (mm : Int) ≤ 60 := by omega
      have hab := heap_alloc_new wr (.cells #[.int .i64 kd, .int .i64 id, .int .i64 at_] 61)
      go_wp2_with fail
      obtain ⟨wa, HWA⟩ : ∃ wa, Hid (wa = wr.alloc (.cells #[.int .i64 kd, .int .i64 id, .int .i64 at_] 61)) := ⟨_, Lib.hid rfl⟩
      have HCB : Hid (CkI w wa cb bm j (.int .i64 now) (.slice A1 mm c1) (.slice A2 mm c2) now D G n mm c1 c2 A1 A2 ids ats) := Lib.hid (by rw [HWA.out]; exact HCA.out)
      obtain ⟨ab, HAB⟩ : ∃ ab, Hid (ab = wr.heap.size) := ⟨_, Lib.hid rfl⟩
      have HROW : Hid (wa.heap[ab]? = some (.cells #[.int .i64 kd, .int .i64 id, .int .i64 at_] 61 (0, 0))) := Lib.hid (by rw [HWA.out, HAB.out]; exact hab)
      have HABN : Hid (cb < ab ∧ bm < ab ∧ ab < wa.heap.size ∧ (∀ g, (Value.slice A1 mm c1).ownBlock = some g → g ≠ ab) ∧ (∀ g, (Value.slice A2 mm c2).ownBlock = some g → g ≠ ab)) := Lib.hid (by
        have h1 := HC.out.clk.lt
        have h2 := HC.out.hi
        refine ⟨by rw [HAB.out]; omega, by rw [HAB.out]; omega, by rw [HAB.out, HWA.out]; simp, fun g hg e => ?_, fun g hg e => ?_⟩
        · have := own_lt HC.out.o1 g hg; rw [e, HAB.out] at this; omega
        · have := own_lt HC.out.o2 g hg; rw [e, HAB.out] at this; omega)
      rw [← HWA.out, ← HAB.out]
      clear hab HCA HC x0 x1 x2
      obtain ⟨ha0, ha1, ha2⟩ := row3 HROW.out
      have HRI := Lib.hid (Rd.of_own HCB.out.o1)
      go_loop [11, 12, 13, 36] (fun v11 v12 v13 v36 => ∃ k : Nat, k ≤ mm ∧ v36 = .int .i64 (k : Int) ∧ v11 = .int .i64 (fnd ids id k)) (fun _ _ _ v => mm - (intOf v).toNat)
      case atStart => exact ⟨0, by omega, rfl, rfl⟩
      case round =>
        obtain ⟨k, hk, rfl, rfl⟩ := hrel
        by_cases hkm : k < mm
        · have hd3 : decide ((k : Int) < (mm : Int)) = true := by simp; omega
          have hki : (k : Int) < (mm : Int) := by omega
          have hadd3 : IntKind.i64.wrap ((k : Int) + 1) = ((k + 1 : Nat) : Int) := by rw [IntWalk.i64_in _ (by omega)]; omega
          obtain ⟨g1, o1, rfl, _, hcell⟩ := HRI.out.at_ hkm
          obtain ⟨y, HY⟩ : ∃ y, Hid (ix ids k = y) := ⟨_, Lib.hid rfl⟩
          rw [HY.out] at hcell
          by_cases e : y = id
          · have hq : (y == id) = true := by simp [e]
            have HF : Hid ((k : Int) = fnd ids id (k + 1)) := Lib.hid (by unfold fnd; rw [if_pos (HY.out.trans e)])
            clear e
            go_wp2
            go_round
            case rel => exact ⟨k + 1, by omega, rfl, by rw [← HF.out]⟩
            case measure => simp [intOf]; omega
          · have hq : (y == id) = false := by simp [e]
            have HF : Hid (fnd ids id k = fnd ids id (k + 1)) := Lib.hid (by rw [fnd, if_neg (fun h => e (HY.out.symm.trans h))])
            clear e
            go_wp2
            go_round
            case rel => exact ⟨k + 1, by omega, rfl, by rw [← HF.out]⟩
            case measure => simp [intOf]; omega
        · have hd3 : decide ((k : Int) < (mm : Int)) = false := by simp; omega
          obtain rfl : k = mm := by omega
          clear hkm
          obtain ⟨f, HFN⟩ : ∃ f, Hid (fnd ids id k = f) := ⟨_, Lib.hid rfl⟩
          rw [HFN.out]
          have hf := fnd_lo ids id k
          rw [HFN.out] at hf
          go_upto_block 4 with fail
          go_cut [6, 7, 8] (fun v6 v7 v8 w' => Hid (CkX w w' cb bm (j + 1) v6 v7 v8))
          case first =>
            by_cases k1 : kd = 1
            · have q1 : (kd == 1) = true := by simp [k1]
              clear k1
              by_cases hok : 0 ≤ id ∧ id ≤ 999999 ∧ 0 ≤ at_ ∧ at_ ≤ 1125899906842624
              · have d1 : decide (0 ≤ id) = true := decide_eq_true hok.1
                have d2' : decide (id ≤ 999999) = true := decide_eq_true hok.2.1
                have d3 : decide (0 ≤ at_) = true := decide_eq_true hok.2.2.1
                have d4 : decide (at_ ≤ 1125899906842624) = true := decide_eq_true hok.2.2.2
                have HOK := Lib.hid hok
                go_wp2_with fail
                refine (set_ok HCB.out.clk (by omega) id at_ hok.1 hok.2.1 hok.2.2.1 hok.2.2.2).mono ?_
                rintro e w5 ⟨rfl, hc5, hg5⟩
                have HC5 := Lib.hid hc5
                have hbel5 := HCB.out.bel.grown hg5 HCB.out.bel.size (fun g hg => by injection hg with e; have := HCB.out.lo; omega)
                have HB5 : Hid (Below w.heap.size w w5) := Lib.hid hbel5
                have hsz5 := hg5.size
                have HO1 : Hid (Own w5 (cb + 1) (.slice A1 k c1) k ids) := Lib.hid (HCB.out.o1.other hg5 (fun g hg e => by injection e with e; have := HCB.out.o1.ge g hg; have := HCB.out.hi; omega))
                have HO2 : Hid (Own w5 (cb + 1) (.slice A2 k c2) k ats) := Lib.hid (HCB.out.o2.other hg5 (fun g hg e => by injection e with e; have := HCB.out.o2.ge g hg; have := HCB.out.hi; omega))
                have HROW5 : Hid (w5.heap[ab]? = some (.cells #[.int .i64 kd, .int .i64 id, .int .i64 at_] 61 (0, 0))) := Lib.hid ((hg5.block ab HABN.out.2.2.1 (fun e => by injection e with e; have := HABN.out.2.1; omega)).trans HROW.out)
                obtain ⟨hz0, hz1, hz2⟩ := row3 HROW5.out
                clear hc5 hg5 hbel5
                have HAL5 := Lib.hid (HCB.out.al.put HCB.out.clk.own.isMap id at_)
                have HRG5 := Lib.hid (rangeG_put HCB.out.rg hok.1 hok.2.1 hok.2.2.1 hok.2.2.2)
                clear hok
                by_cases hf0 : 0 ≤ f
                · obtain ⟨i, hi2, e1, e2⟩ := fnd_at (l := ids) (x := id) (k := k) (by rw [HFN.out]; exact hf0)
                  rw [HFN.out] at e1
                  subst e1
                  have HE2 := Lib.hid e2
                  clear e2
                  obtain ⟨g2, cc, e3, hge, hlt2⟩ := HO2.out.form (by omega)
                  injection e3 with e4 e5 e6
                  subst e4 e6
                  have hfz := HO2.out.free i
                  have hcl := HO2.out.cell hi2
                  have hii : (i : Int) < (k : Int) := by omega
                  have df : decide ((0 : Int) ≤ (i : Int)) = true := decide_eq_true hf0
                  have hcne : g2 ≠ cb := by omega
                  have hbne : g2 ≠ bm := by have := HCB.out.hi; omega
                  have HFIN : Hid (CkX w (w5.setCell ⟨g2, i, none⟩ (.int .i64 at_)) cb bm (j + 1) (.int .i64 now) (.slice A1 k c1) (.slice (some ⟨g2, 0, none⟩) k c2)) := Lib.hid ⟨_, _, _, _, _, _, _, _, _, _, _,
                    ⟨rfl, rfl, rfl, HC5.out.far hcne hbne _, HAL5.out, HCB.out.li.set_old hi2 HE2.out, HRG5.out, hnow0, hnow1, by omega, by omega, HO1.out.far (fun g hg e => HCB.out.ap g hg (by rw [e]; rfl)) _, HO2.out.store i at_, HCB.out.ap, HB5.out.setCell (by have := HCB.out.lo; have := HCB.out.hi; show _ ≤ g2; omega) _, HCB.out.lo, HCB.out.hi⟩⟩
                  go_wp2_with fail
                  go_meet
                  exact HFIN
                · have df : decide (0 ≤ f) = false := decide_eq_false hf0
                  have HNO := Lib.hid (fnd_no (l := ids) (x := id) (k := k) (by rw [HFN.out]; omega))
                  go_upto_region 26 with fail
                  have HABN2 := HABN
                  obtain ⟨w0', HW0'⟩ : ∃ w0' : World, Hid (w0' = w5) := ⟨_, Lib.hid rfl⟩
                  have HM : Hid (∀ b, ((Value.slice A1 k c1).ownBlock = some b ∨ (Value.slice A2 k c2).ownBlock = some b) → cb + 1 ≤ b ∧ b ≠ ab) := Lib.hid (fun b hb => by
                    rcases hb with hb | hb
                    · exact ⟨HO1.out.ge b hb, HABN.out.2.2.2.1 b hb⟩
                    · exact ⟨HO2.out.ge b hb, HABN.out.2.2.2.2 b hb⟩)
                  have hab5 : ab < w5.heap.size := heapK_lt HROW5.out
                  have HCL1 : Hid (∀ w', FrP w5 w' (fun b => (Value.slice A1 k c1).ownBlock = some b ∨ (Value.slice A2 k c2).ownBlock = some b) → w'.cell? ⟨ab, 1, none⟩ = some (.int .i64 id)) := Lib.hid (fun w' h => (h.cell (p := ⟨ab, 1, none⟩) hab5 (fun h => (HM.out ab h).2 rfl)).trans hz1)
                  have HCL2 : Hid (∀ w', FrP w5 w' (fun b => (Value.slice A1 k c1).ownBlock = some b ∨ (Value.slice A2 k c2).ownBlock = some b) → w'.cell? ⟨ab, 2, none⟩ = some (.int .i64 at_)) := Lib.hid (fun w' h => (h.cell (p := ⟨ab, 2, none⟩) hab5 (fun h => (HM.out ab h).2 rfl)).trans hz2)
                  have hle5 : cb + 1 ≤ w5.heap.size := HC5.out.lt
                  have HPAR : Hid (Par w5 (fun b => (Value.slice A1 k c1).ownBlock = some b ∨ (Value.slice A2 k c2).ownBlock = some b) (cb + 1) w5 [some ⟨.slice A1 k c1, 3, 1, k, ints ids⟩, some ⟨.slice A2 k c2, 3, 1, k, ints ats⟩, none, none]) := Lib.hid (Par.two hle5 HO1.out HO2.out HCB.out.ap)
                  clear ha0 ha1 ha2 hz0 hz1 hz2
                  refine wp_region_inv (by kernel_rfl) (I := CbJ w5 (cb + 1) k k c1 c2 A1 A2 ids ats id at_ ab _ _ _ _ _ _ _ _ _ _ _ _ _ _ _ _ _ _ _ _ _ _ _ _ _ _ _ _ _ _ _ _ _ _ _ _ _ _ _ _ _ _ _ _ _ _ _ _ _ _ _ _ _ _ _ _ _ _ _ _ _ _ _ _ _ _ _ _ _ _ _ _ _ _ _ _ _ _ _ _ _ _ _ _ _ _ _ _ _ _ _ _ _ _ _ _ _ _ _ _ _ _ _ _ _ _ _ _ _ _ _ _ _ _ _ _ _ _ _ _ _ _ _ _ _ _ _ _ _ _ _ _ _ _ _ _ _ _ _ _ _ _ _ _ _ _ _ _ _ _ _ _ _ _ _ _ _) ⟨false, false, false, false, false, false, false, false, false, false, false, false, _, _, _, _, _, _, _, _, _, _, _, _, rfl, rfl, ⟨HPAR.out.drew1, nofun, nofun, nofun, nofun, nofun, nofun, nofun, nofun, nofun, nofun, nofun, nofun, nofun, (fun _ => rfl), nofun, nofun, (fun _ => rfl), nofun⟩⟩ ?step ?fin
                  case step =>
                    rintro l a' w' i ⟨b0, b1, b2, b3, b4, b5, b6, b7, b8, b9, b10, b11, v7, v8, v89, v90, v91, v92, v93, v94, v95, v96, v97, v98, rfl, rfl, HT⟩ hi
                    obtain ⟨hi_, hib⟩ := ready_lt hi
                    have HTH := Lib.hid HT
                    match i, hi_, hi, hib with
                    | 0, _, hi, hib =>
                      obtain rfl : b0 = false := hib
                      have h4 : b4 = false := by cases hb : b4 with | false => rfl | true => (have := (HT.d4 hb).1; cases this)
                      subst h4
                      have h10 : b10 = false := by cases hb : b10 with | false => rfl | true => (have := (HT.d10 hb); cases this)
                      subst h10
                      obtain rfl := HT.o10 rfl
                      clear HT
                      refine wpOp_one rfl rfl (fun K hK => ?_)
                      go_simp
                      exact hK.out _ _ ⟨true, b1, b2, b3, false, b5, b6, b7, b8, b9, false, b11, _, _, _, _, _, _, _, _, _, _, _, _, rfl, rfl, { HTH.out with h0 := fun _ => rfl, d4 := nofun }⟩
                    | 1, _, hi, hib =>
                      clear HT
                      refine wpOp_one rfl rfl (fun K hK => ?_)
                      go_simp
                      exact hK.out _ _ ⟨b0, true, b2, b3, b4, b5, b6, b7, b8, b9, b10, b11, _, _, _, _, _, _, _, _, _, _, _, _, rfl, rfl, { HTH.out with h1 := fun _ => rfl, d2 := fun h => rfl }⟩
                    | 2, _, hi, hib =>
                      have d1 : b1 = true := ready_dep hi rfl 1 (by kernel_rfl)
                      obtain rfl := HT.h1 d1
                      have hcl := HCL1.out _ HT.par.fr
                      clear HT
                      refine wpOp_one rfl rfl (fun K hK => ?_)
                      go_simp
                      exact hK.out _ _ ⟨b0, b1, true, b3, b4, b5, b6, b7, b8, b9, b10, b11, _, _, _, _, _, _, _, _, _, _, _, _, rfl, rfl, { HTH.out with h2 := fun _ => rfl, d2 := fun _ => d1, d3 := fun h => rfl }⟩
                    | 3, _, hi, hib =>
                      obtain rfl : b3 = false := hib
                      have d2 : b2 = true := ready_dep hi rfl 2 (by kernel_rfl)
                      obtain rfl := HT.h2 d2
                      have h4 : b4 = false := by cases hb : b4 with | false => rfl | true => (have := (HT.d4 hb).2; cases this)
                      subst h4
                      have h10 : b10 = false := by cases hb : b10 with | false => rfl | true => (have := (HT.d10 hb); cases this)
                      subst h10
                      have HP := Lib.hid HT.par
                      clear HT
                      refine wpOp_one rfl rfl (fun K hK => ?_)
                      go_simp
                      exact hK.out _ _ ⟨b0, b1, b2, true, false, b5, b6, b7, b8, b9, false, b11, _, _, _, _, _, _, _, _, _, _, _, _, rfl, rfl, { HTH.out with par := HP.out.lit 2 #[.int .i64 id] 3 1 1 rfl (by unfold maxLen; omega), d3 := fun _ => d2, d4 := nofun, d10 := nofun, h10 := nofun }⟩
                    | 4, _, hi, hib =>
                      obtain rfl : b4 = false := hib
                      have d0 : b0 = true := ready_dep hi rfl 0 (by kernel_rfl)
                      obtain rfl := HT.h0 d0
                      have d3 : b3 = true := ready_dep hi rfl 3 (by kernel_rfl)
                      obtain rfl := d3
                      have h10 : b10 = false := by cases hb : b10 with | false => rfl | true => (have := (HT.d10 hb); cases this)
                      subst h10
                      obtain ⟨A9, c9, hv9⟩ := own_slice (HT.par.own 2 _ rfl)
                      dsimp only at hv9
                      obtain rfl := hv9
                      have HO9 := Lib.hid (HT.par.own 2 _ rfl)
                      have HP := Lib.hid HT.par
                      have HS : Hid (Src w' A9 1 1 [.int .i64 id]) := Lib.hid (src_own HO9.out (by simp [Value.oneCell']))
                      clear HT
                      refine wpOp_one rfl rfl (fun K hK => ?_)
                      simp only [List.getElem_toArray, List.getElem_cons_succ, List.getElem_cons_zero]
                      refine wp_app_src (.tmp 89) (.tmp 92) elemT_int rfl (v := .slice A1 k c1) (n := k) (xs := ints ids) rfl (HP.out.own 0 _ rfl) (D := A9) (m := 1) (c := c9) (news := [.int .i64 id]) rfl HS.out (by unfold maxLen; omega) (by omega) (Nat.le_trans HP.out.le HP.out.fr.size) ?_
                      intro v' w2 ho hg hb
                      exact hK.out _ _ ⟨b0, b1, b2, true, true, b5, b6, b7, b8, b9, false, b11, _, _, _, _, _, _, _, _, _, _, _, _, rfl, rfl, { HTH.out with par := HP.out.app 0 rfl ho hg hb, d4 := fun _ => ⟨d0, rfl⟩, d10 := nofun, h10 := nofun }⟩
                    | 5, _, hi, hib =>
                      obtain rfl : b5 = false := hib
                      have h9 : b9 = false := by cases hb : b9 with | false => rfl | true => (have := (HT.d9 hb).1; cases this)
                      subst h9
                      have h11 : b11 = false := by cases hb : b11 with | false => rfl | true => (have := (HT.d11 hb); cases this)
                      subst h11
                      obtain rfl := HT.o11 rfl
                      clear HT
                      refine wpOp_one rfl rfl (fun K hK => ?_)
                      go_simp
                      exact hK.out _ _ ⟨b0, b1, b2, b3, b4, true, b6, b7, b8, false, b10, false, _, _, _, _, _, _, _, _, _, _, _, _, rfl, rfl, { HTH.out with h5 := fun _ => rfl, d9 := nofun }⟩
                    | 6, _, hi, hib =>
                      clear HT
                      refine wpOp_one rfl rfl (fun K hK => ?_)
                      go_simp
                      exact hK.out _ _ ⟨b0, b1, b2, b3, b4, b5, true, b7, b8, b9, b10, b11, _, _, _, _, _, _, _, _, _, _, _, _, rfl, rfl, { HTH.out with h6 := fun _ => rfl, d7 := fun h => rfl }⟩
                    | 7, _, hi, hib =>
                      have d6 : b6 = true := ready_dep hi rfl 6 (by kernel_rfl)
                      obtain rfl := HT.h6 d6
                      have hcl := HCL2.out _ HT.par.fr
                      clear HT
                      refine wpOp_one rfl rfl (fun K hK => ?_)
                      go_simp
                      exact hK.out _ _ ⟨b0, b1, b2, b3, b4, b5, b6, true, b8, b9, b10, b11, _, _, _, _, _, _, _, _, _, _, _, _, rfl, rfl, { HTH.out with h7 := fun _ => rfl, d7 := fun _ => d6, d8 := fun h => rfl }⟩
                    | 8, _, hi, hib =>
                      obtain rfl : b8 = false := hib
                      have d7 : b7 = true := ready_dep hi rfl 7 (by kernel_rfl)
                      obtain rfl := HT.h7 d7
                      have h9 : b9 = false := by cases hb : b9 with | false => rfl | true => (have := (HT.d9 hb).2; cases this)
                      subst h9
                      have h11 : b11 = false := by cases hb : b11 with | false => rfl | true => (have := (HT.d11 hb); cases this)
                      subst h11
                      have HP := Lib.hid HT.par
                      clear HT
                      refine wpOp_one rfl rfl (fun K hK => ?_)
                      go_simp
                      exact hK.out _ _ ⟨b0, b1, b2, b3, b4, b5, b6, b7, true, false, b10, false, _, _, _, _, _, _, _, _, _, _, _, _, rfl, rfl, { HTH.out with par := HP.out.lit 3 #[.int .i64 at_] 3 1 1 rfl (by unfold maxLen; omega), d8 := fun _ => d7, d9 := nofun, d11 := nofun, h11 := nofun }⟩
                    | 9, _, hi, hib =>
                      obtain rfl : b9 = false := hib
                      have d5 : b5 = true := ready_dep hi rfl 5 (by kernel_rfl)
                      obtain rfl := HT.h5 d5
                      have d8 : b8 = true := ready_dep hi rfl 8 (by kernel_rfl)
                      obtain rfl := d8
                      have h11 : b11 = false := by cases hb : b11 with | false => rfl | true => (have := (HT.d11 hb); cases this)
                      subst h11
                      obtain ⟨A9, c9, hv9⟩ := own_slice (HT.par.own 3 _ rfl)
                      dsimp only at hv9
                      obtain rfl := hv9
                      have HO9 := Lib.hid (HT.par.own 3 _ rfl)
                      have HP := Lib.hid HT.par
                      have HS : Hid (Src w' A9 1 1 [.int .i64 at_]) := Lib.hid (src_own HO9.out (by simp [Value.oneCell']))
                      clear HT
                      refine wpOp_one rfl rfl (fun K hK => ?_)
                      simp only [List.getElem_toArray, List.getElem_cons_succ, List.getElem_cons_zero]
                      refine wp_app_src (.tmp 94) (.tmp 97) elemT_int rfl (v := .slice A2 k c2) (n := k) (xs := ints ats) rfl (HP.out.own 1 _ rfl) (D := A9) (m := 1) (c := c9) (news := [.int .i64 at_]) rfl HS.out (by unfold maxLen; omega) (by omega) (Nat.le_trans HP.out.le HP.out.fr.size) ?_
                      intro v' w2 ho hg hb
                      exact hK.out _ _ ⟨b0, b1, b2, b3, b4, b5, b6, b7, true, true, b10, false, _, _, _, _, _, _, _, _, _, _, _, _, rfl, rfl, { HTH.out with par := HP.out.app 1 rfl ho hg hb, d9 := fun _ => ⟨d5, rfl⟩, d11 := nofun, h11 := nofun }⟩
                    | 10, _, hi, hib =>
                      have d4 : b4 = true := ready_dep hi rfl 4 (by kernel_rfl)
                      obtain rfl := d4
                      clear HT
                      refine wpOp_one rfl rfl (fun K hK => ?_)
                      go_simp
                      exact hK.out _ _ ⟨b0, b1, b2, b3, true, b5, b6, b7, b8, b9, true, b11, _, _, _, _, _, _, _, _, _, _, _, _, rfl, rfl, { HTH.out with h10 := fun _ => rfl, d10 := fun _ => rfl, o10 := nofun }⟩
                    | 11, _, hi, hib =>
                      have d9 : b9 = true := ready_dep hi rfl 9 (by kernel_rfl)
                      obtain rfl := d9
                      clear HT
                      refine wpOp_one rfl rfl (fun K hK => ?_)
                      go_simp
                      exact hK.out _ _ ⟨b0, b1, b2, b3, b4, b5, b6, b7, b8, true, b10, true, _, _, _, _, _, _, _, _, _, _, _, _, rfl, rfl, { HTH.out with h11 := fun _ => rfl, d11 := fun _ => rfl, o11 := nofun }⟩
                  case fin =>
                    rintro l a' w' ⟨b0, b1, b2, b3, b4, b5, b6, b7, b8, b9, b10, b11, v7, v8, v89, v90, v91, v92, v93, v94, v95, v96, v97, v98, rfl, rfl, HT⟩ hr
                    obtain rfl : b0 = true := by
                      cases b0 with
                      | true => rfl
                      | false => exact (ready_in 0 rfl rfl (by simp [Region.binds]) hr).elim
                    obtain rfl : b1 = true := by
                      cases b1 with
                      | true => rfl
                      | false => exact (ready_in 1 rfl rfl (by simp [Region.binds]) hr).elim
                    obtain rfl : b2 = true := by
                      cases b2 with
                      | true => rfl
                      | false => exact (ready_in 2 rfl rfl (by simp [Region.binds]) hr).elim
                    obtain rfl : b3 = true := by
                      cases b3 with
                      | true => rfl
                      | false => exact (ready_in 3 rfl rfl (by simp [Region.binds]) hr).elim
                    obtain rfl : b4 = true := by
                      cases b4 with
                      | true => rfl
                      | false => exact (ready_in 4 rfl rfl (by simp [Region.binds]) hr).elim
                    obtain rfl : b5 = true := by
                      cases b5 with
                      | true => rfl
                      | false => exact (ready_in 5 rfl rfl (by simp [Region.binds]) hr).elim
                    obtain rfl : b6 = true := by
                      cases b6 with
                      | true => rfl
                      | false => exact (ready_in 6 rfl rfl (by simp [Region.binds]) hr).elim
                    obtain rfl : b7 = true := by
                      cases b7 with
                      | true => rfl
                      | false => exact (ready_in 7 rfl rfl (by simp [Region.binds]) hr).elim
                    obtain rfl : b8 = true := by
                      cases b8 with
                      | true => rfl
                      | false => exact (ready_in 8 rfl rfl (by simp [Region.binds]) hr).elim
                    obtain rfl : b9 = true := by
                      cases b9 with
                      | true => rfl
                      | false => exact (ready_in 9 rfl rfl (by simp [Region.binds]) hr).elim
                    obtain rfl : b10 = true := by
                      cases b10 with
                      | true => rfl
                      | false => exact (ready_in 10 rfl rfl (by simp [Region.binds]) hr).elim
                    obtain rfl : b11 = true := by
                      cases b11 with
                      | true => rfl
                      | false => exact (ready_in 11 rfl rfl (by simp [Region.binds]) hr).elim
                    obtain rfl := HT.h10 rfl
                    obtain rfl := HT.h11 rfl
                    have p1 := HT.par.own 0 _ rfl
                    have p2 := HT.par.own 1 _ rfl
                    have p3 := HT.par.apart 0 1 _ _ (by decide) rfl rfl
                    dsimp only at p1 p2 p3
                    obtain ⟨A1', c1', e1⟩ := own_slice p1
                    obtain ⟨A2', c2', e2⟩ := own_slice p2
                    obtain rfl := e1
                    obtain rfl := e2
                    rw [show ints ids ++ [.int .i64 id] = (ids ++ [id]).map (Value.int .i64) by simp [ints]] at p1
                    rw [show ints ats ++ [.int .i64 at_] = (ats ++ [at_]).map (Value.int .i64) by simp [ints]] at p2
                    have hu := HT.par.fr.under (B := cb + 1) hle5 (fun b hb => (HM.out b hb).1)
                    have HFIN : Hid (CkX w w' cb bm (j + 1) (.int .i64 now) (.slice A1' (k + 1) c1') (.slice A2' (k + 1) c2')) := Lib.hid ⟨_, _, _, _, _, _, _, _, _, _, _,
                      ⟨rfl, rfl, rfl, HC5.out.below hu (by omega) (by have := HCB.out.hi; omega), HAL5.out, HCB.out.li.set_new HNO.out, HRG5.out, hnow0, hnow1, by omega, by omega, p1, p2, p3, HB5.out.trans (hu.mono (by have := HCB.out.lo; have := HCB.out.hi; omega)), HCB.out.lo, HCB.out.hi⟩⟩
                    clear HT p1 p2 p3 hu HPAR
                    show _
                    go_wp2_with fail
                    go_meet
                    exact HFIN
              · by_cases a1 : 0 ≤ id
                · have d1 : decide (0 ≤ id) = true := decide_eq_true a1
                  by_cases a2 : id ≤ 999999
                  · have d2' : decide (id ≤ 999999) = true := decide_eq_true a2
                    by_cases a3 : 0 ≤ at_
                    · have d3 : decide (0 ≤ at_) = true := decide_eq_true a3
                      have d4 : decide (at_ ≤ 1125899906842624) = false := decide_eq_false (by omega)
                      go_wp2_with fail
                      refine (set_bad HCB.out.clk id at_ (by omega)).mono ?_
                      rintro e w5 ⟨rfl, rfl⟩
                      go_wp2_with fail
                      go_meet
                      exact Lib.hid ⟨_, _, _, _, _, _, _, _, _, _, _, HCB.out.more⟩
                    · have d3 : decide (0 ≤ at_) = false := decide_eq_false a3
                      go_wp2_with fail
                      refine (set_bad HCB.out.clk id at_ (by omega)).mono ?_
                      rintro e w5 ⟨rfl, rfl⟩
                      go_wp2_with fail
                      go_meet
                      exact Lib.hid ⟨_, _, _, _, _, _, _, _, _, _, _, HCB.out.more⟩
                  · have d2' : decide (id ≤ 999999) = false := decide_eq_false a2
                    go_wp2_with fail
                    refine (set_bad HCB.out.clk id at_ (by omega)).mono ?_
                    rintro e w5 ⟨rfl, rfl⟩
                    go_wp2_with fail
                    go_meet
                    exact Lib.hid ⟨_, _, _, _, _, _, _, _, _, _, _, HCB.out.more⟩
                · have d1 : decide (0 ≤ id) = false := decide_eq_false a1
                  go_wp2_with fail
                  refine (set_bad HCB.out.clk id at_ (by omega)).mono ?_
                  rintro e w5 ⟨rfl, rfl⟩
                  go_wp2_with fail
                  go_meet
                  exact Lib.hid ⟨_, _, _, _, _, _, _, _, _, _, _, HCB.out.more⟩
            by_cases k2 : kd = 2
            · have q1 : (kd == 1) = false := by simp [k1]
              have q2 : (kd == 2) = true := by simp [k2]
              clear k1 k2
              go_wp2_with fail
              have hhas := HCB.out.li.has (x := id)
              rw [HFN.out] at hhas
              have HHAS := Lib.hid hhas
              have hcla := clear_any HCB.out.clk HCB.out.al ⟨id, HID.out⟩
              simp only at hcla
              rw [hhas] at hcla
              clear hhas
              refine hcla.mono ?_
              clear hcla
              rintro e w5 ⟨rfl, hc5, hal5, hg5⟩
              have HAL5 := Lib.hid hal5
              have HRG5 := Lib.hid (rangeG_del (x := id) HCB.out.rg)
              clear hal5
              have HC5 := Lib.hid hc5
              have hbel5 := HCB.out.bel.grown hg5 HCB.out.bel.size (fun g hg => by injection hg with e; have := HCB.out.lo; omega)
              have HB5 : Hid (Below w.heap.size w w5) := Lib.hid hbel5
              have hsz5 := hg5.size
              have HO1 : Hid (Own w5 (cb + 1) (.slice A1 k c1) k ids) := Lib.hid (HCB.out.o1.other hg5 (fun g hg e => by injection e with e; have := HCB.out.o1.ge g hg; have := HCB.out.hi; omega))
              have HO2 : Hid (Own w5 (cb + 1) (.slice A2 k c2) k ats) := Lib.hid (HCB.out.o2.other hg5 (fun g hg e => by injection e with e; have := HCB.out.o2.ge g hg; have := HCB.out.hi; omega))
              have HROW5 : Hid (w5.heap[ab]? = some (.cells #[.int .i64 kd, .int .i64 id, .int .i64 at_] 61 (0, 0))) := Lib.hid ((hg5.block ab HABN.out.2.2.1 (fun e => by injection e with e; have := HABN.out.2.1; omega)).trans HROW.out)
              obtain ⟨hz0, hz1, hz2⟩ := row3 HROW5.out
              clear hc5 hg5 hbel5
              by_cases hf0 : 0 ≤ f
              · have df : decide (0 ≤ f) = true := decide_eq_true hf0
                rw [df]
                obtain ⟨kk, hi2, e1, e2⟩ := fnd_at (l := ids) (x := id) (k := k) (by rw [HFN.out]; exact hf0)
                rw [HFN.out] at e1
                subst e1
                have HE2 := Lib.hid e2
                clear e2
                have hadd7 : IntKind.i64.wrap ((kk : Int) + 1) = ((kk + 1 : Nat) : Int) := by rw [IntWalk.i64_in _ (by omega)]; omega
                have HAD1 : Hid (∀ ad, A1 = some ad → ad.block < w5.heap.size) := Lib.hid (ad_lt HO1.out)
                have HAD2 : Hid (∀ ad, A2 = some ad → ad.block < w5.heap.size) := Lib.hid (ad_lt HO2.out)
                obtain ⟨hsl11, hs11⟩ := cut_low elemT_int HO1.out (ints_one ids) (show kk ≤ k by omega)
                obtain ⟨hsl21, hs21⟩ := cut_low elemT_int HO2.out (ints_one ats) (show kk ≤ k by omega)
                obtain ⟨D1, hsl12, hs12, hd12⟩ := cut_high elemT_int HO1.out (ints_one ids) (show kk + 1 ≤ k by omega)
                obtain ⟨D2, hsl22, hs22, hd22⟩ := cut_high elemT_int HO2.out (ints_one ats) (show kk + 1 ≤ k by omega)
                rw [Nat.mul_one, ← List.map_take] at hs11 hs21
                rw [Nat.mul_one, ← List.map_drop] at hs12 hs22
                have HS01 : Hid (∀ w', FrP w5 w' (fun _ => False) → Src w' A1 kk 1 (ints (ids.take kk))) := Lib.hid (fun w' h => src_fr hs11 (fun ad e => ⟨HAD1.out ad e, fun h => h⟩) h)
                have HS11 : Hid (∀ w', FrP w5 w' (fun _ => False) → Src w' A2 kk 1 (ints (ats.take kk))) := Lib.hid (fun w' h => src_fr hs21 (fun ad e => ⟨HAD2.out ad e, fun h => h⟩) h)
                have HS02 : Hid (∀ w', FrP w5 w' (fun _ => False) → Src w' D1 (k - (kk + 1)) 1 (ints (ids.drop (kk + 1)))) := Lib.hid (fun w' h => src_fr hs12 (fun ad e => (by obtain ⟨ad0, e0, e1⟩ := hd12 ad e; rw [e1]; exact ⟨HAD1.out ad0 e0, fun h => h⟩)) h)
                have HS12 : Hid (∀ w', FrP w5 w' (fun _ => False) → Src w' D2 (k - (kk + 1)) 1 (ints (ats.drop (kk + 1)))) := Lib.hid (fun w' h => src_fr hs22 (fun ad e => (by obtain ⟨ad0, e0, e1⟩ := hd22 ad e; rw [e1]; exact ⟨HAD2.out ad0 e0, fun h => h⟩)) h)
                have hcast : ((kk + 1 : Nat) : Int) = (kk : Int) + 1 := by omega
                rw [hcast] at hsl12 hsl22
                clear hcast
                clear hs11 hs21 hs12 hs22 hd12 hd22 ha0 ha1 ha2 hz0 hz1 hz2
                go_upto_region 31 with fail
                refine wp_region_inv (by kernel_rfl) (I := CcJ w5 k k kk c1 c2 A1 A2 D1 D2 ids ats _ _ _ _ _ _ _ _ _ _ _ _ _ _ _ _ _ _ _ _ _ _ _ _ _ _ _ _ _ _ _ _ _ _ _ _ _ _ _ _ _ _ _ _ _ _ _ _ _ _ _ _ _ _ _ _ _ _ _ _ _ _ _ _ _ _ _ _ _ _ _ _ _ _ _ _ _ _ _ _ _ _ _ _ _ _ _ _ _ _ _ _ _ _ _ _ _ _ _ _ _ _ _ _ _ _ _ _ _ _ _ _ _ _ _ _ _ _ _ _ _ _ _ _ _ _ _ _ _ _ _ _ _ _ _ _ _ _ _ _ _ _ _ _ _ _ _) ⟨false, false, false, false, false, false, false, false, false, false, false, false, false, false, false, false, false, false, false, false, false, false, _, _, _, _, _, _, _, _, _, _, _, _, _, _, _, _, _, _, _, _, _, _, rfl, rfl, ⟨(Par.none_ _ _ (Nat.le_refl _) 2).drew1, nofun, nofun, nofun, nofun, nofun, nofun, nofun, nofun, nofun, nofun, nofun, nofun, nofun, nofun, nofun, nofun, nofun, nofun, nofun, nofun, nofun, nofun, nofun, nofun, nofun, (fun _ => rfl), nofun, nofun, (fun _ => rfl), nofun⟩⟩ ?step ?fin
                case step =>
                  rintro l a' w' i ⟨b0, b1, b2, b3, b4, b5, b6, b7, b8, b9, b10, b11, b12, b13, b14, b15, b16, b17, b18, b19, b20, b21, v7, v8, v110, v111, v112, v113, v114, v115, v116, v117, v118, v119, v120, v121, v122, v123, v124, v125, v126, v127, v128, v129, rfl, rfl, HT⟩ hi
                  obtain ⟨hi_, hib⟩ := ready_lt hi
                  have HTH := Lib.hid HT
                  match i, hi_, hi, hib with
                  | 0, _, hi, hib =>
                    obtain rfl : b0 = false := hib
                    have h4 : b4 = false := by cases hb : b4 with | false => rfl | true => (have := (HT.d4 hb).1; cases this)
                    subst h4
                    have h9 : b9 = false := by cases hb : b9 with | false => rfl | true => (have := (HT.d9 hb).1; cases this)
                    subst h9
                    have h20 : b20 = false := by cases hb : b20 with | false => rfl | true => (have := (HT.d20 hb); cases this)
                    subst h20
                    have HP := Lib.hid HT.par
                    clear HT
                    refine wpOp_one rfl rfl (fun K hK => ?_)
                    go_simp
                    exact hK.out _ _ ⟨true, b1, b2, b3, false, b5, b6, b7, b8, false, b10, b11, b12, b13, b14, b15, b16, b17, b18, b19, false, b21, _, _, _, _, _, _, _, _, _, _, _, _, _, _, _, _, _, _, _, _, _, _, rfl, rfl, { HTH.out with par := HP.out.lit 0 #[] 3 1 0 rfl (by unfold maxLen; omega), d4 := nofun, d9 := nofun, d20 := nofun, h20 := nofun }⟩
                  | 1, _, hi, hib =>
                    obtain rfl : b1 = false := hib
                    have h3 : b3 = false := by cases hb : b3 with | false => rfl | true => (have := (HT.d3 hb).1; cases this)
                    subst h3
                    have h4 : b4 = false := by cases hb : b4 with | false => rfl | true => (have := (HT.d4 hb).2; cases this)
                    subst h4
                    have h9 : b9 = false := by cases hb : b9 with | false => rfl | true => (have := (HT.d9 hb).1; cases this)
                    subst h9
                    have h20 : b20 = false := by cases hb : b20 with | false => rfl | true => (have := (HT.d20 hb); cases this)
                    subst h20
                    obtain rfl := HT.o20 rfl
                    clear HT
                    refine wpOp_one rfl rfl (fun K hK => ?_)
                    go_simp
                    exact hK.out _ _ ⟨b0, true, b2, false, false, b5, b6, b7, b8, false, b10, b11, b12, b13, b14, b15, b16, b17, b18, b19, false, b21, _, _, _, _, _, _, _, _, _, _, _, _, _, _, _, _, _, _, _, _, _, _, rfl, rfl, { HTH.out with h1 := fun _ => rfl, d3 := nofun }⟩
                  | 2, _, hi, hib =>
                    clear HT
                    refine wpOp_one rfl rfl (fun K hK => ?_)
                    go_simp
                    exact hK.out _ _ ⟨b0, b1, true, b3, b4, b5, b6, b7, b8, b9, b10, b11, b12, b13, b14, b15, b16, b17, b18, b19, b20, b21, _, _, _, _, _, _, _, _, _, _, _, _, _, _, _, _, _, _, _, _, _, _, rfl, rfl, { HTH.out with h2 := fun _ => rfl, d3 := fun h => ⟨(HTH.out.d3 h).1, rfl⟩ }⟩
                  | 3, _, hi, hib =>
                    have d1 : b1 = true := ready_dep hi rfl 1 (by kernel_rfl)
                    obtain rfl := HT.h1 d1
                    have d2 : b2 = true := ready_dep hi rfl 2 (by kernel_rfl)
                    obtain rfl := HT.h2 d2
                    clear HT
                    refine wpOp_one rfl rfl (fun K hK => ?_)
                    go_simp
                    exact hK.out _ _ ⟨b0, b1, b2, true, b4, b5, b6, b7, b8, b9, b10, b11, b12, b13, b14, b15, b16, b17, b18, b19, b20, b21, _, _, _, _, _, _, _, _, _, _, _, _, _, _, _, _, _, _, _, _, _, _, rfl, rfl, { HTH.out with h3 := fun _ => rfl, d3 := fun _ => ⟨d1, d2⟩, d4 := fun h => ⟨(HTH.out.d4 h).1, rfl⟩ }⟩
                  | 4, _, hi, hib =>
                    obtain rfl : b4 = false := hib
                    have d0 : b0 = true := ready_dep hi rfl 0 (by kernel_rfl)
                    obtain rfl := d0
                    have d3 : b3 = true := ready_dep hi rfl 3 (by kernel_rfl)
                    obtain rfl := HT.h3 d3
                    have h9 : b9 = false := by cases hb : b9 with | false => rfl | true => (have := (HT.d9 hb).1; cases this)
                    subst h9
                    have h20 : b20 = false := by cases hb : b20 with | false => rfl | true => (have := (HT.d20 hb); cases this)
                    subst h20
                    have HP := Lib.hid HT.par
                    have HS : Hid (Src w' A1 kk 1 (ints (ids.take kk))) := Lib.hid (HS01.out _ HTH.out.par.fr)
                    clear HT
                    refine wpOp_one rfl rfl (fun K hK => ?_)
                    simp only [List.getElem_toArray, List.getElem_cons_succ, List.getElem_cons_zero]
                    refine wp_app_src (.tmp 110) (.tmp 113) elemT_int rfl (v := v110) (n := 0) (xs := []) rfl (HP.out.own 0 _ rfl) (D := A1) (m := kk) (c := c1) (news := ints (ids.take kk)) rfl HS.out (by unfold maxLen; omega) (by omega) (Nat.le_trans HP.out.le HP.out.fr.size) ?_
                    intro v' w2 ho hg hb
                    exact hK.out _ _ ⟨true, b1, b2, b3, true, b5, b6, b7, b8, false, b10, b11, b12, b13, b14, b15, b16, b17, b18, b19, false, b21, _, _, _, _, _, _, _, _, _, _, _, _, _, _, _, _, _, _, _, _, _, _, rfl, rfl, { HTH.out with par := HP.out.app 0 rfl ho hg hb, d4 := fun _ => ⟨rfl, d3⟩, d9 := nofun, d20 := nofun, h20 := nofun }⟩
                  | 5, _, hi, hib =>
                    obtain rfl : b5 = false := hib
                    have h8 : b8 = false := by cases hb : b8 with | false => rfl | true => (have := (HT.d8 hb).1; cases this)
                    subst h8
                    have h9 : b9 = false := by cases hb : b9 with | false => rfl | true => (have := (HT.d9 hb).2; cases this)
                    subst h9
                    have h20 : b20 = false := by cases hb : b20 with | false => rfl | true => (have := (HT.d20 hb); cases this)
                    subst h20
                    obtain rfl := HT.o20 rfl
                    clear HT
                    refine wpOp_one rfl rfl (fun K hK => ?_)
                    go_simp
                    exact hK.out _ _ ⟨b0, b1, b2, b3, b4, true, b6, b7, false, false, b10, b11, b12, b13, b14, b15, b16, b17, b18, b19, false, b21, _, _, _, _, _, _, _, _, _, _, _, _, _, _, _, _, _, _, _, _, _, _, rfl, rfl, { HTH.out with h5 := fun _ => rfl, d8 := nofun }⟩
                  | 6, _, hi, hib =>
                    clear HT
                    refine wpOp_one rfl rfl (fun K hK => ?_)
                    go_simp
                    exact hK.out _ _ ⟨b0, b1, b2, b3, b4, b5, true, b7, b8, b9, b10, b11, b12, b13, b14, b15, b16, b17, b18, b19, b20, b21, _, _, _, _, _, _, _, _, _, _, _, _, _, _, _, _, _, _, _, _, _, _, rfl, rfl, { HTH.out with h6 := fun _ => rfl, d7 := fun h => rfl }⟩
                  | 7, _, hi, hib =>
                    have d6 : b6 = true := ready_dep hi rfl 6 (by kernel_rfl)
                    obtain rfl := HT.h6 d6
                    clear HT
                    refine wpOp_one rfl rfl (fun K hK => ?_)
                    go_simp
                    exact hK.out _ _ ⟨b0, b1, b2, b3, b4, b5, b6, true, b8, b9, b10, b11, b12, b13, b14, b15, b16, b17, b18, b19, b20, b21, _, _, _, _, _, _, _, _, _, _, _, _, _, _, _, _, _, _, _, _, _, _, rfl, rfl, { HTH.out with h7 := fun _ => rfl, d7 := fun _ => d6, d8 := fun h => ⟨(HTH.out.d8 h).1, rfl⟩ }⟩
                  | 8, _, hi, hib =>
                    have d5 : b5 = true := ready_dep hi rfl 5 (by kernel_rfl)
                    obtain rfl := HT.h5 d5
                    have d7 : b7 = true := ready_dep hi rfl 7 (by kernel_rfl)
                    obtain rfl := HT.h7 d7
                    clear HT
                    refine wpOp_one rfl rfl (fun K hK => ?_)
                    go_simp
                    exact hK.out _ _ ⟨b0, b1, b2, b3, b4, b5, b6, b7, true, b9, b10, b11, b12, b13, b14, b15, b16, b17, b18, b19, b20, b21, _, _, _, _, _, _, _, _, _, _, _, _, _, _, _, _, _, _, _, _, _, _, rfl, rfl, { HTH.out with h8 := fun _ => rfl, d8 := fun _ => ⟨d5, d7⟩, d9 := fun h => ⟨(HTH.out.d9 h).1, rfl⟩ }⟩
                  | 9, _, hi, hib =>
                    obtain rfl : b9 = false := hib
                    have d4 : b4 = true := ready_dep hi rfl 4 (by kernel_rfl)
                    obtain rfl := d4
                    have d8 : b8 = true := ready_dep hi rfl 8 (by kernel_rfl)
                    obtain rfl := HT.h8 d8
                    have h20 : b20 = false := by cases hb : b20 with | false => rfl | true => (have := (HT.d20 hb); cases this)
                    subst h20
                    have HP := Lib.hid HT.par
                    have HS : Hid (Src w' D1 ((k - (kk + 1))) 1 (ints (ids.drop (kk + 1)))) := Lib.hid (HS02.out _ HTH.out.par.fr)
                    clear HT
                    refine wpOp_one rfl rfl (fun K hK => ?_)
                    simp only [List.getElem_toArray, List.getElem_cons_succ, List.getElem_cons_zero]
                    refine wp_app_src (.tmp 114) (.tmp 118) elemT_int rfl (v := v114) (n := 0 + kk) (xs := [] ++ (ints (ids.take kk))) rfl (HP.out.own 0 _ rfl) (D := D1) (m := (k - (kk + 1))) (c := (c1 - (kk + 1))) (news := ints (ids.drop (kk + 1))) rfl HS.out (by unfold maxLen; omega) (by omega) (Nat.le_trans HP.out.le HP.out.fr.size) ?_
                    intro v' w2 ho hg hb
                    exact hK.out _ _ ⟨b0, b1, b2, b3, true, b5, b6, b7, b8, true, b10, b11, b12, b13, b14, b15, b16, b17, b18, b19, false, b21, _, _, _, _, _, _, _, _, _, _, _, _, _, _, _, _, _, _, _, _, _, _, rfl, rfl, { HTH.out with par := HP.out.app 0 rfl ho hg hb, d9 := fun _ => ⟨rfl, d8⟩, d20 := nofun, h20 := nofun }⟩
                  | 10, _, hi, hib =>
                    obtain rfl : b10 = false := hib
                    have h14 : b14 = false := by cases hb : b14 with | false => rfl | true => (have := (HT.d14 hb).1; cases this)
                    subst h14
                    have h19 : b19 = false := by cases hb : b19 with | false => rfl | true => (have := (HT.d19 hb).1; cases this)
                    subst h19
                    have h21 : b21 = false := by cases hb : b21 with | false => rfl | true => (have := (HT.d21 hb); cases this)
                    subst h21
                    have HP := Lib.hid HT.par
                    clear HT
                    refine wpOp_one rfl rfl (fun K hK => ?_)
                    go_simp
                    exact hK.out _ _ ⟨b0, b1, b2, b3, b4, b5, b6, b7, b8, b9, true, b11, b12, b13, false, b15, b16, b17, b18, false, b20, false, _, _, _, _, _, _, _, _, _, _, _, _, _, _, _, _, _, _, _, _, _, _, rfl, rfl, { HTH.out with par := HP.out.lit 1 #[] 3 1 0 rfl (by unfold maxLen; omega), d14 := nofun, d19 := nofun, d21 := nofun, h21 := nofun }⟩
                  | 11, _, hi, hib =>
                    obtain rfl : b11 = false := hib
                    have h13 : b13 = false := by cases hb : b13 with | false => rfl | true => (have := (HT.d13 hb).1; cases this)
                    subst h13
                    have h14 : b14 = false := by cases hb : b14 with | false => rfl | true => (have := (HT.d14 hb).2; cases this)
                    subst h14
                    have h19 : b19 = false := by cases hb : b19 with | false => rfl | true => (have := (HT.d19 hb).1; cases this)
                    subst h19
                    have h21 : b21 = false := by cases hb : b21 with | false => rfl | true => (have := (HT.d21 hb); cases this)
                    subst h21
                    obtain rfl := HT.o21 rfl
                    clear HT
                    refine wpOp_one rfl rfl (fun K hK => ?_)
                    go_simp
                    exact hK.out _ _ ⟨b0, b1, b2, b3, b4, b5, b6, b7, b8, b9, b10, true, b12, false, false, b15, b16, b17, b18, false, b20, false, _, _, _, _, _, _, _, _, _, _, _, _, _, _, _, _, _, _, _, _, _, _, rfl, rfl, { HTH.out with h11 := fun _ => rfl, d13 := nofun }⟩
                  | 12, _, hi, hib =>
                    clear HT
                    refine wpOp_one rfl rfl (fun K hK => ?_)
                    go_simp
                    exact hK.out _ _ ⟨b0, b1, b2, b3, b4, b5, b6, b7, b8, b9, b10, b11, true, b13, b14, b15, b16, b17, b18, b19, b20, b21, _, _, _, _, _, _, _, _, _, _, _, _, _, _, _, _, _, _, _, _, _, _, rfl, rfl, { HTH.out with h12 := fun _ => rfl, d13 := fun h => ⟨(HTH.out.d13 h).1, rfl⟩ }⟩
                  | 13, _, hi, hib =>
                    have d11 : b11 = true := ready_dep hi rfl 11 (by kernel_rfl)
                    obtain rfl := HT.h11 d11
                    have d12 : b12 = true := ready_dep hi rfl 12 (by kernel_rfl)
                    obtain rfl := HT.h12 d12
                    clear HT
                    refine wpOp_one rfl rfl (fun K hK => ?_)
                    go_simp
                    exact hK.out _ _ ⟨b0, b1, b2, b3, b4, b5, b6, b7, b8, b9, b10, b11, b12, true, b14, b15, b16, b17, b18, b19, b20, b21, _, _, _, _, _, _, _, _, _, _, _, _, _, _, _, _, _, _, _, _, _, _, rfl, rfl, { HTH.out with h13 := fun _ => rfl, d13 := fun _ => ⟨d11, d12⟩, d14 := fun h => ⟨(HTH.out.d14 h).1, rfl⟩ }⟩
                  | 14, _, hi, hib =>
                    obtain rfl : b14 = false := hib
                    have d10 : b10 = true := ready_dep hi rfl 10 (by kernel_rfl)
                    obtain rfl := d10
                    have d13 : b13 = true := ready_dep hi rfl 13 (by kernel_rfl)
                    obtain rfl := HT.h13 d13
                    have h19 : b19 = false := by cases hb : b19 with | false => rfl | true => (have := (HT.d19 hb).1; cases this)
                    subst h19
                    have h21 : b21 = false := by cases hb : b21 with | false => rfl | true => (have := (HT.d21 hb); cases this)
                    subst h21
                    have HP := Lib.hid HT.par
                    have HS : Hid (Src w' A2 kk 1 (ints (ats.take kk))) := Lib.hid (HS11.out _ HTH.out.par.fr)
                    clear HT
                    refine wpOp_one rfl rfl (fun K hK => ?_)
                    simp only [List.getElem_toArray, List.getElem_cons_succ, List.getElem_cons_zero]
                    refine wp_app_src (.tmp 120) (.tmp 123) elemT_int rfl (v := v120) (n := 0) (xs := []) rfl (HP.out.own 1 _ rfl) (D := A2) (m := kk) (c := c2) (news := ints (ats.take kk)) rfl HS.out (by unfold maxLen; omega) (by omega) (Nat.le_trans HP.out.le HP.out.fr.size) ?_
                    intro v' w2 ho hg hb
                    exact hK.out _ _ ⟨b0, b1, b2, b3, b4, b5, b6, b7, b8, b9, true, b11, b12, b13, true, b15, b16, b17, b18, false, b20, false, _, _, _, _, _, _, _, _, _, _, _, _, _, _, _, _, _, _, _, _, _, _, rfl, rfl, { HTH.out with par := HP.out.app 1 rfl ho hg hb, d14 := fun _ => ⟨rfl, d13⟩, d19 := nofun, d21 := nofun, h21 := nofun }⟩
                  | 15, _, hi, hib =>
                    obtain rfl : b15 = false := hib
                    have h18 : b18 = false := by cases hb : b18 with | false => rfl | true => (have := (HT.d18 hb).1; cases this)
                    subst h18
                    have h19 : b19 = false := by cases hb : b19 with | false => rfl | true => (have := (HT.d19 hb).2; cases this)
                    subst h19
                    have h21 : b21 = false := by cases hb : b21 with | false => rfl | true => (have := (HT.d21 hb); cases this)
                    subst h21
                    obtain rfl := HT.o21 rfl
                    clear HT
                    refine wpOp_one rfl rfl (fun K hK => ?_)
                    go_simp
                    exact hK.out _ _ ⟨b0, b1, b2, b3, b4, b5, b6, b7, b8, b9, b10, b11, b12, b13, b14, true, b16, b17, false, false, b20, false, _, _, _, _, _, _, _, _, _, _, _, _, _, _, _, _, _, _, _, _, _, _, rfl, rfl, { HTH.out with h15 := fun _ => rfl, d18 := nofun }⟩
                  | 16, _, hi, hib =>
                    clear HT
                    refine wpOp_one rfl rfl (fun K hK => ?_)
                    go_simp
                    exact hK.out _ _ ⟨b0, b1, b2, b3, b4, b5, b6, b7, b8, b9, b10, b11, b12, b13, b14, b15, true, b17, b18, b19, b20, b21, _, _, _, _, _, _, _, _, _, _, _, _, _, _, _, _, _, _, _, _, _, _, rfl, rfl, { HTH.out with h16 := fun _ => rfl, d17 := fun h => rfl }⟩
                  | 17, _, hi, hib =>
                    have d16 : b16 = true := ready_dep hi rfl 16 (by kernel_rfl)
                    obtain rfl := HT.h16 d16
                    clear HT
                    refine wpOp_one rfl rfl (fun K hK => ?_)
                    go_simp
                    exact hK.out _ _ ⟨b0, b1, b2, b3, b4, b5, b6, b7, b8, b9, b10, b11, b12, b13, b14, b15, b16, true, b18, b19, b20, b21, _, _, _, _, _, _, _, _, _, _, _, _, _, _, _, _, _, _, _, _, _, _, rfl, rfl, { HTH.out with h17 := fun _ => rfl, d17 := fun _ => d16, d18 := fun h => ⟨(HTH.out.d18 h).1, rfl⟩ }⟩
                  | 18, _, hi, hib =>
                    have d15 : b15 = true := ready_dep hi rfl 15 (by kernel_rfl)
                    obtain rfl := HT.h15 d15
                    have d17 : b17 = true := ready_dep hi rfl 17 (by kernel_rfl)
                    obtain rfl := HT.h17 d17
                    clear HT
                    refine wpOp_one rfl rfl (fun K hK => ?_)
                    go_simp
                    exact hK.out _ _ ⟨b0, b1, b2, b3, b4, b5, b6, b7, b8, b9, b10, b11, b12, b13, b14, b15, b16, b17, true, b19, b20, b21, _, _, _, _, _, _, _, _, _, _, _, _, _, _, _, _, _, _, _, _, _, _, rfl, rfl, { HTH.out with h18 := fun _ => rfl, d18 := fun _ => ⟨d15, d17⟩, d19 := fun h => ⟨(HTH.out.d19 h).1, rfl⟩ }⟩
                  | 19, _, hi, hib =>
                    obtain rfl : b19 = false := hib
                    have d14 : b14 = true := ready_dep hi rfl 14 (by kernel_rfl)
                    obtain rfl := d14
                    have d18 : b18 = true := ready_dep hi rfl 18 (by kernel_rfl)
                    obtain rfl := HT.h18 d18
                    have h21 : b21 = false := by cases hb : b21 with | false => rfl | true => (have := (HT.d21 hb); cases this)
                    subst h21
                    have HP := Lib.hid HT.par
                    have HS : Hid (Src w' D2 ((k - (kk + 1))) 1 (ints (ats.drop (kk + 1)))) := Lib.hid (HS12.out _ HTH.out.par.fr)
                    clear HT
                    refine wpOp_one rfl rfl (fun K hK => ?_)
                    simp only [List.getElem_toArray, List.getElem_cons_succ, List.getElem_cons_zero]
                    refine wp_app_src (.tmp 124) (.tmp 128) elemT_int rfl (v := v124) (n := 0 + kk) (xs := [] ++ (ints (ats.take kk))) rfl (HP.out.own 1 _ rfl) (D := D2) (m := (k - (kk + 1))) (c := (c2 - (kk + 1))) (news := ints (ats.drop (kk + 1))) rfl HS.out (by unfold maxLen; omega) (by omega) (Nat.le_trans HP.out.le HP.out.fr.size) ?_
                    intro v' w2 ho hg hb
                    exact hK.out _ _ ⟨b0, b1, b2, b3, b4, b5, b6, b7, b8, b9, b10, b11, b12, b13, true, b15, b16, b17, b18, true, b20, false, _, _, _, _, _, _, _, _, _, _, _, _, _, _, _, _, _, _, _, _, _, _, rfl, rfl, { HTH.out with par := HP.out.app 1 rfl ho hg hb, d19 := fun _ => ⟨rfl, d18⟩, d21 := nofun, h21 := nofun }⟩
                  | 20, _, hi, hib =>
                    have d9 : b9 = true := ready_dep hi rfl 9 (by kernel_rfl)
                    obtain rfl := d9
                    clear HT
                    refine wpOp_one rfl rfl (fun K hK => ?_)
                    go_simp
                    exact hK.out _ _ ⟨b0, b1, b2, b3, b4, b5, b6, b7, b8, true, b10, b11, b12, b13, b14, b15, b16, b17, b18, b19, true, b21, _, _, _, _, _, _, _, _, _, _, _, _, _, _, _, _, _, _, _, _, _, _, rfl, rfl, { HTH.out with h20 := fun _ => rfl, d20 := fun _ => rfl, o20 := nofun }⟩
                  | 21, _, hi, hib =>
                    have d19 : b19 = true := ready_dep hi rfl 19 (by kernel_rfl)
                    obtain rfl := d19
                    clear HT
                    refine wpOp_one rfl rfl (fun K hK => ?_)
                    go_simp
                    exact hK.out _ _ ⟨b0, b1, b2, b3, b4, b5, b6, b7, b8, b9, b10, b11, b12, b13, b14, b15, b16, b17, b18, true, b20, true, _, _, _, _, _, _, _, _, _, _, _, _, _, _, _, _, _, _, _, _, _, _, rfl, rfl, { HTH.out with h21 := fun _ => rfl, d21 := fun _ => rfl, o21 := nofun }⟩
                case fin =>
                  rintro l a' w' ⟨b0, b1, b2, b3, b4, b5, b6, b7, b8, b9, b10, b11, b12, b13, b14, b15, b16, b17, b18, b19, b20, b21, v7, v8, v110, v111, v112, v113, v114, v115, v116, v117, v118, v119, v120, v121, v122, v123, v124, v125, v126, v127, v128, v129, rfl, rfl, HT⟩ hr
                  obtain rfl : b0 = true := by
                    cases b0 with
                    | true => rfl
                    | false => exact (ready_in 0 rfl rfl (by simp [Region.binds]) hr).elim
                  obtain rfl : b1 = true := by
                    cases b1 with
                    | true => rfl
                    | false => exact (ready_in 1 rfl rfl (by simp [Region.binds]) hr).elim
                  obtain rfl : b2 = true := by
                    cases b2 with
                    | true => rfl
                    | false => exact (ready_in 2 rfl rfl (by simp [Region.binds]) hr).elim
                  obtain rfl : b3 = true := by
                    cases b3 with
                    | true => rfl
                    | false => exact (ready_in 3 rfl rfl (by simp [Region.binds]) hr).elim
                  obtain rfl : b4 = true := by
                    cases b4 with
                    | true => rfl
                    | false => exact (ready_in 4 rfl rfl (by simp [Region.binds]) hr).elim
                  obtain rfl : b5 = true := by
                    cases b5 with
                    | true => rfl
                    | false => exact (ready_in 5 rfl rfl (by simp [Region.binds]) hr).elim
                  obtain rfl : b6 = true := by
                    cases b6 with
                    | true => rfl
                    | false => exact (ready_in 6 rfl rfl (by simp [Region.binds]) hr).elim
                  obtain rfl : b7 = true := by
                    cases b7 with
                    | true => rfl
                    | false => exact (ready_in 7 rfl rfl (by simp [Region.binds]) hr).elim
                  obtain rfl : b8 = true := by
                    cases b8 with
                    | true => rfl
                    | false => exact (ready_in 8 rfl rfl (by simp [Region.binds]) hr).elim
                  obtain rfl : b9 = true := by
                    cases b9 with
                    | true => rfl
                    | false => exact (ready_in 9 rfl rfl (by simp [Region.binds]) hr).elim
                  obtain rfl : b10 = true := by
                    cases b10 with
                    | true => rfl
                    | false => exact (ready_in 10 rfl rfl (by simp [Region.binds]) hr).elim
                  obtain rfl : b11 = true := by
                    cases b11 with
                    | true => rfl
                    | false => exact (ready_in 11 rfl rfl (by simp [Region.binds]) hr).elim
                  obtain rfl : b12 = true := by
                    cases b12 with
                    | true => rfl
                    | false => exact (ready_in 12 rfl rfl (by simp [Region.binds]) hr).elim
                  obtain rfl : b13 = true := by
                    cases b13 with
                    | true => rfl
                    | false => exact (ready_in 13 rfl rfl (by simp [Region.binds]) hr).elim
                  obtain rfl : b14 = true := by
                    cases b14 with
                    | true => rfl
                    | false => exact (ready_in 14 rfl rfl (by simp [Region.binds]) hr).elim
                  obtain rfl : b15 = true := by
                    cases b15 with
                    | true => rfl
                    | false => exact (ready_in 15 rfl rfl (by simp [Region.binds]) hr).elim
                  obtain rfl : b16 = true := by
                    cases b16 with
                    | true => rfl
                    | false => exact (ready_in 16 rfl rfl (by simp [Region.binds]) hr).elim
                  obtain rfl : b17 = true := by
                    cases b17 with
                    | true => rfl
                    | false => exact (ready_in 17 rfl rfl (by simp [Region.binds]) hr).elim
                  obtain rfl : b18 = true := by
                    cases b18 with
                    | true => rfl
                    | false => exact (ready_in 18 rfl rfl (by simp [Region.binds]) hr).elim
                  obtain rfl : b19 = true := by
                    cases b19 with
                    | true => rfl
                    | false => exact (ready_in 19 rfl rfl (by simp [Region.binds]) hr).elim
                  obtain rfl : b20 = true := by
                    cases b20 with
                    | true => rfl
                    | false => exact (ready_in 20 rfl rfl (by simp [Region.binds]) hr).elim
                  obtain rfl : b21 = true := by
                    cases b21 with
                    | true => rfl
                    | false => exact (ready_in 21 rfl rfl (by simp [Region.binds]) hr).elim
                  obtain rfl := HT.h20 rfl
                  obtain rfl := HT.h21 rfl
                  have p1 := HT.par.own 0 _ rfl
                  have p2 := HT.par.own 1 _ rfl
                  have p3 := HT.par.apart 0 1 _ _ (by decide) rfl rfl
                  dsimp only at p1 p2 p3
                  obtain ⟨A1', c1', e1⟩ := own_slice p1
                  obtain ⟨A2', c2', e2⟩ := own_slice p2
                  obtain rfl := e1
                  obtain rfl := e2
                  have hn9 : 0 + kk + (k - (kk + 1)) = k - 1 := by omega
                  rw [hn9] at p1 p2 p3
                  rw [show [] ++ ints (ids.take kk) ++ ints (ids.drop (kk + 1)) = (ids.take kk ++ ids.drop (kk + 1)).map (Value.int .i64) by simp [ints]] at p1
                  rw [show [] ++ ints (ats.take kk) ++ ints (ats.drop (kk + 1)) = (ats.take kk ++ ats.drop (kk + 1)).map (Value.int .i64) by simp [ints]] at p2
                  have hu := HT.par.fr.below
                  have hcbl := HC5.out.lt
                  have hbml := HC5.out.own.lt
                  have HFIN : Hid (CkX w w' cb bm (j + 1) (.int .i64 now) (.slice A1' (k - 1) c1') (.slice A2' (k - 1) c2')) := Lib.hid ⟨_, _, _, _, _, _, _, _, _, _, _,
                    ⟨rfl, rfl, rfl, HC5.out.below hu hcbl hbml, HAL5.out, HCB.out.li.cut hi2 HE2.out, HRG5.out, hnow0, hnow1, by omega, by omega, Own.less p1 hcbl, Own.less p2 hcbl, p3, HB5.out.trans (hu.mono HB5.out.size), HCB.out.lo, HCB.out.hi⟩⟩
                  have HN9 := Lib.hid hn9
                  clear HT p1 p2 p3 hu hn9
                  rw [HN9.out]
                  show _
                  go_wp2_with fail
                  go_meet
                  exact HFIN
              · have df : decide (0 ≤ f) = false := decide_eq_false hf0
                rw [df]
                have hnone : G id = none := by
                  have := HHAS.out
                  rw [df] at this
                  cases hg : G id with
                  | none => rfl
                  | some t => rw [hg] at this; cases this
                have HFIN : Hid (CkX w w5 cb bm (j + 1) (.int .i64 now) (.slice A1 k c1) (.slice A2 k c2)) := Lib.hid ⟨_, _, _, _, _, _, _, _, _, _, _,
                  ⟨rfl, rfl, rfl, HC5.out, HAL5.out, by rw [delG_none hnone]; exact HCB.out.li, HRG5.out, hnow0, hnow1, by omega, by omega, HO1.out, HO2.out, HCB.out.ap, HB5.out, HCB.out.lo, HCB.out.hi⟩⟩
                clear hnone
                go_wp2_with fail
                go_meet
                exact HFIN
            by_cases k3 : kd = 3
            · have q1 : (kd == 1) = false := by simp [k1]
              have q2 : (kd == 2) = false := by simp [k2]
              have q3 : (kd == 3) = true := by simp [k3]
              clear k1 k2 k3
              by_cases t1 : at_ < 0
              · have e1 : decide (at_ < 0) = true := decide_eq_true t1
                go_wp2_with fail
                refine (tick_form HCB.out.clk at_ (.inl t1)).mono ?_
                rintro e w5 ⟨rfl, rfl⟩
                go_wp2_with fail
                go_meet
                exact Lib.hid ⟨_, _, _, _, _, _, _, _, _, _, _, HCB.out.more⟩
              have e1 : decide (at_ < 0) = false := decide_eq_false t1
              by_cases t2 : 1099511627776 < at_
              · have e2 : decide (1099511627776 < at_) = true := decide_eq_true t2
                go_wp2_with fail
                refine (tick_form HCB.out.clk at_ (.inr t2)).mono ?_
                rintro e w5 ⟨rfl, rfl⟩
                go_wp2_with fail
                go_meet
                exact Lib.hid ⟨_, _, _, _, _, _, _, _, _, _, _, HCB.out.more⟩
              have e2 : decide (1099511627776 < at_) = false := decide_eq_false t2
              have hs : IntKind.i64.wrap (now + at_) = now + at_ := IntWalk.i64_in _ (by omega)
              by_cases t3 : 1125899906842624 < now + at_
              · have e3 : decide (1125899906842624 < now + at_) = true := decide_eq_true t3
                go_wp2_with fail
                refine (tick_big HCB.out.clk at_ (by omega) (by omega) hnow0 hnow1 t3).mono ?_
                rintro e w5 ⟨rfl, rfl⟩
                go_wp2_with fail
                go_meet
                exact Lib.hid ⟨_, _, _, _, _, _, _, _, _, _, _, HCB.out.more⟩
              have e3 : decide (1125899906842624 < now + at_) = false := decide_eq_false t3
              go_wp2_with fail
              refine (tick_ok HCB.out.clk at_ (by omega) (by omega) hnow0 (by omega)).mono ?_
              rintro e w5 ⟨rfl, hc5, hg5⟩
              have HFIN : Hid (CkX w w5 cb bm (j + 1) (.int .i64 (now + at_)) (.slice A1 k c1) (.slice A2 k c2)) := Lib.hid ⟨_, _, _, _, _, _, _, _, _, _, _,
                ⟨rfl, rfl, rfl, hc5, HCB.out.al, HCB.out.li, HCB.out.rg, by omega, by omega, by omega, by omega, HCB.out.o1.other hg5 (fun g hg e => by injection e with e; have := HCB.out.o1.ge g hg; omega), HCB.out.o2.other hg5 (fun g hg e => by injection e with e; have := HCB.out.o2.ge g hg; omega), HCB.out.ap, HCB.out.bel.grown hg5 HCB.out.bel.size (fun g hg => by injection hg with e; have := HCB.out.lo; have := HCB.out.hi; omega), HCB.out.lo, HCB.out.hi⟩⟩
              clear hc5 hg5
              go_wp2_with fail
              go_meet
              exact HFIN
            have q1 : (kd == 1) = false := by simp [k1]
            have q2 : (kd == 2) = false := by simp [k2]
            have q3 : (kd == 3) = false := by simp [k3]
            clear k1 k2 k3
            go_wp2_with fail
            go_meet
            exact Lib.hid ⟨_, _, _, _, _, _, _, _, _, _, _, HCB.out.more⟩
          case rest =>
            obtain ⟨now2, D2, G2, n2, m2, c12, c22, A12, A22, ids2, ats2, hck⟩ := hcut.out
            obtain rfl := hck.e6
            obtain rfl := hck.e7
            obtain rfl := hck.e8
            have HC2 := Lib.hid hck
            have hm2 := hck.hm
            have hn2 := hck.hn
            clear hck hcut
            have hself : (now2 == now2) = true := by simp
            go_wp2_with fail
            refine (now_any HC2.out.clk).mono ?_
            rintro e w7 ⟨rfl, rfl⟩
            have hself2 : (now2 != now2) = false := by simp
            go_wp2_with fail
            refine (told_any HC2.out.clk HC2.out.al (Rd.of_own HC2.out.o1) (Rd.of_own HC2.out.o2) (Nat.le_refl _) (Nat.le_refl _) HC2.out.li (fun x t hx => (HC2.out.rg x t hx).1) (by omega) (by omega) ask).mono ?_
            rintro e w7 ⟨rfl, hb7⟩
            have HC7 := Lib.hid (HC2.out.kept hb7)
            clear hb7
            go_wp2_with fail
            go_roundg (m - (j + 1))
            case measure => omega
            case rel => exact ⟨j + 1, by omega, rfl, Lib.hid ⟨_, _, _, _, _, _, _, _, _, _, _, HC7.out⟩⟩
    · have hd : decide ((j : Int) < (m : Int)) = false := by simp; omega
      have HBZ := Lib.hid HC.out.bel
      go_wp2
      go_ret
      exact ⟨rfl, HBZ.out⟩
end
end Go.Proofs.Ytinphdphloddmab
