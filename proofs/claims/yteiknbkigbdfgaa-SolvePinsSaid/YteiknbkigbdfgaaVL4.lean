/-
  SOLVEPINS.
-/
import Derived.Test.YteiknbkigbdfgaaVAn
import Derived.Test.YteiknbkigbdfgaaCRg
import Derived.Test.YteiknbkigbdfgaaVPl
import Derived.Test.YteiknbkigbdfgaaVPi
import Derived.Test.YteiknbkigbdfgaaVSz
import Derived.Test.YteiknbkigbdfgaaVMt
namespace Go.Proofs.Yteiknbkigbdfgaa
open Go.RowKit
open SemP FlP GaP DiP SeaP
set_option linter.unusedVariables false
set_option linter.unusedSimpArgs false
set_option maxRecDepth 10000
theorem OwnM.less {α : Type} [Inhabited α] {E : TypeId} {z : Nat} {I : ItT α} {w : World} {base base' : Nat} {M : Nat → Prop} {v : Value} {l : List α} (h : OwnM E z I w base M v l) (hb : base' ≤ base) : OwnM E z I w base' M v l := by
  obtain ⟨vals, ho, hj⟩ := h
  refine ⟨vals, ⟨ho.1, ?_⟩, hj⟩
  rcases ho.2 with h | ⟨g, cap, cur, hv, hbg, r⟩
  · exact .inl h
  · exact .inr ⟨g, cap, cur, hv, by omega, r⟩
theorem OwnM.ge {α : Type} [Inhabited α] {E : TypeId} {z : Nat} {I : ItT α} {w : World} {base : Nat} {M : Nat → Prop} {v : Value} {l : List α} (h : OwnM E z I w base M v l) : ∀ g, v.ownBlock = some g → base ≤ g := by
  obtain ⟨vals, ho, _⟩ := h
  intro g hg
  rcases ho.2 with ⟨rfl, _⟩ | ⟨g', cap, cur, rfl, hb, _⟩
  · cases hg
  · have : g' = g := by simpa [Value.ownBlock] using hg
    omega
/-- The blocks that change: two rows, two boxes. -/
def Vol (gA gO bA bO : Nat) : Nat → Prop := fun b => b = gA ∨ b = gO ∨ b = bA ∨ b = bO
/-- Two requests side by side: their boxes and their rows of pins. -/
structure PinL (X w : World) (base bA bO : Nat) (Am : Option Addr) (nm cm : Nat) (lA lO : List Nd) (gA cA gO cO : Nat) : Prop where
  bel : Below base X w
  bxA : w.heap[bA]? = some (.cells #[.slice (some ⟨gA, 0, none⟩) lA.length cA, .slice Am nm cm] 55 (0, 0))
  bxO : w.heap[bO]? = some (.cells #[.slice (some ⟨gO, 0, none⟩) lO.length cO, .slice Am nm cm] 55 (0, 0))
  rA : OwnM 71 2 pnI w base (Vol gA gO bA bO) (.slice (some ⟨gA, 0, none⟩) lA.length cA) lA
  rO : OwnM 71 2 pnI w base (Vol gA gO bA bO) (.slice (some ⟨gO, 0, none⟩) lO.length cO) lO
  ne : gA ≠ gO
  nb : bA ≠ bO
  leA : base ≤ bA
  leO : base ≤ bO
section
variable {X w w' : World} {base bA bO gA cA gO cO nm cm : Nat} {Am : Option Addr} {lA lO : List Nd}
theorem PinL.swap (h : PinL X w base bA bO Am nm cm lA lO gA cA gO cO) : PinL X w base bO bA Am nm cm lO lA gO cO gA cA :=
  ⟨h.bel, h.bxO, h.bxA, h.rO.frm pn_turns (FrM.refl w (fun _ => False)) (fun _ _ h => h) (fun _ h => h.elim) (fun b hb => .inl (by unfold Vol at hb ⊢; omega)), h.rA.frm pn_turns (FrM.refl w (fun _ => False)) (fun _ _ h => h) (fun _ h => h.elim) (fun b hb => .inl (by unfold Vol at hb ⊢; omega)), fun e => h.ne e.symm, fun e => h.nb e.symm, h.leO, h.leA⟩
theorem PinL.below (h : PinL X w base bA bO Am nm cm lA lO gA cA gO cO) (hb : Below w.heap.size w w') (hX : base ≤ w.heap.size) : PinL X w' base bA bO Am nm cm lA lO gA cA gO cO :=
  ⟨h.bel.trans (hb.mono hX), (hb.block bA (heapE_lt h.bxA)).trans h.bxA, (hb.block bO (heapE_lt h.bxO)).trans h.bxO, h.rA.kept pn_turns hb, h.rO.kept pn_turns hb, h.ne, h.nb, h.leA, h.leO⟩
theorem PinL.grow (h : PinL X w base bA bO Am nm cm lA lO gA cA gO cO) {g c : Nat} {y : Nd} (hrow : ∀ M', (∀ b, M' b → Vol gA gO bA bO b ∨ w.heap.size ≤ b) → OwnM 71 2 pnI w' base M' (.slice (some ⟨g, 0, none⟩) (lA.length + 1) c) (lA ++ [y])) (hg : w.grownBy w' (some gA)) (hat : some gA = some g ∨ g = w.heap.size) (hX : base ≤ w.heap.size) :
    PinL X (w'.setCell ⟨bA, 0, none⟩ (.slice (some ⟨g, 0, none⟩) (lA.length + 1) c)) base bA bO Am nm cm (lA ++ [y]) lO g c gO cO := by
  have hgA : gA < w.heap.size := h.rA.lt gA rfl
  have hgO : gO < w.heap.size := h.rO.lt gO rfl
  have hneg : g ≠ gO := by
    rcases hat with e | e
    · injection e with e; subst e; exact h.ne
    · omega
  have hM : ∀ b, Vol g gO bA bO b → Vol gA gO bA bO b ∨ w.heap.size ≤ b := by
    intro b hb
    unfold Vol at hb ⊢
    rcases hat with e | e
    · injection e with e; omega
    · omega
  have e1 : gA ≠ bA := h.rA.far h.bxA (by decide) gA rfl
  have e2 : gA ≠ bO := h.rA.far h.bxO (by decide) gA rfl
  have b1 : w'.heap[bA]? = _ := (hg.block bA (heapE_lt h.bxA) (fun e => by injection e with e; exact e1 e.symm)).trans h.bxA
  have b2 : w'.heap[bO]? = _ := (hg.block bO (heapE_lt h.bxO) (fun e => by injection e with e; exact e2 e.symm)).trans h.bxO
  have rA := hrow _ hM
  have rO : OwnM 71 2 pnI w' base (Vol g gO bA bO) _ lO := h.rO.frm pn_turns (FrM.of_grown hg (M := fun b => b = gA) (fun x hx => by injection hx with hx; exact hx.symm)) (fun x hx e => by injection hx with hx; exact h.ne (by show gA = gO; rw [← e]; exact hx.symm)) (fun b hb => .inl hb) hM
  have hs := grown_set w' bA 0 (.slice (some ⟨g, 0, none⟩) (lA.length + 1) c)
  have hf : FrM w' (w'.setCell ⟨bA, 0, none⟩ (.slice (some ⟨g, 0, none⟩) (lA.length + 1) c)) (fun b => b = bA) := FrM.of_grown hs (fun x hx => by injection hx with hx; exact hx.symm)
  refine ⟨(h.bel.grown hg hX (fun x hx => by injection hx with hx; subst hx; exact h.rA.ge gA rfl)).setCell (p := ⟨bA, 0, none⟩) h.leA _, ?_, (hf.block bO (heapE_lt b2) (fun e => h.nb e.symm)).trans b2, ?_, ?_, hneg, h.nb, h.leA, h.leO⟩
  · rw [show (lA ++ [y]).length = lA.length + 1 by simp]
    exact heap_setCell_same w' bA 0 _ _ _ b1
  · rw [show (lA ++ [y]).length = lA.length + 1 by simp]
    exact rA.frm pn_turns hf (fun x hx e => rA.far b1 (by decide) x hx e) (fun b hb => by subst hb; exact .inr (.inr (.inl rfl))) (fun b hb => .inl hb)
  · exact rO.frm pn_turns hf (fun x hx e => rO.far b1 (by decide) x hx e) (fun b hb => by subst hb; exact .inr (.inr (.inl rfl))) (fun b hb => .inl hb)
end
theorem vol_turn {w w' : World} {gA gO bA bO g : Nat} {vs : List Value} {x : List (List CV)} (h : rgI w (Vol gA gO bA bO) vs x) (hg : w.grownBy w' (some gA)) (hat : some gA = some g ∨ g = w.heap.size) : rgI w' (Vol g gO bA bO) vs x :=
  rg_turns.go h (FrM.of_grown hg (fun x hx => by injection hx with hx; exact .inl hx.symm)) (fun b hb => by
    unfold Vol at hb ⊢
    rcases hat with e | e
    · injection e with e; omega
    · omega)
theorem vol_set {w : World} {gA gO bA bO : Nat} {vs : List Value} {x : List (List CV)} (h : rgI w (Vol gA gO bA bO) vs x) (u : Value) : rgI (w.setCell ⟨bA, 0, none⟩ u) (Vol gO gA bO bA) vs x :=
  rg_turns.go h (FrM.of_grown (grown_set w bA 0 u) (fun x hx => by injection hx with hx; exact .inr (.inr (.inl hx.symm)))) (fun b hb => by unfold Vol at hb ⊢; omega)
theorem empty_rowB (w : World) (E : TypeId) (z : Nat) {base : Nat} (hb : base ≤ w.heap.size) : (w.alloc (.cells #[] E)).ownsRow base E z (.slice (some ⟨w.heap.size, 0, none⟩) 0 0) 0 [] :=
  ⟨by simp, .inr ⟨w.heap.size, 0, #[], rfl, hb, heap_new w _, Nat.le_refl _, by unfold maxLen; omega, by simp, by simp⟩⟩
structure P10St (X : World) (qb B : Nat) (Aq Am : Option Addr) (np cp nm cm : Nat) (ps : List Nd) (b0 b1 b2 b3 b4 b5 b6 b7 b8 : Bool) (v81 v82 v83 v84 v85 v86 v87 v15 : Value) (w' : World) : Prop where
  q8 : b8 = true → b0 = true ∧ b1 = true ∧ b2 = true ∧ b3 = true ∧ b4 = true ∧ b5 = true ∧ b6 = true ∧ b7 = true
  bel : Below X.heap.size X w'
  h0 : b0 = true → b3 = false → ∃ g, v81 = .slice (some ⟨g, 0, none⟩) 0 0 ∧ w'.ownsRow X.heap.size 71 2 (.slice (some ⟨g, 0, none⟩) 0 0) 0 []
  h1 : b1 = true → v82 = .pointer (some ⟨qb, 0, none⟩)
  h2 : b2 = true → v83 = .slice Aq np cp
  h3 : b3 = true → b8 = false → ∃ A c, v84 = .slice (some ⟨A, 0, none⟩) np c ∧ OwnM 71 2 pnI w' X.heap.size (fun b => B ≤ b) (.slice (some ⟨A, 0, none⟩) np c) ps
  h4 : b4 = true → v85 = .pointer (some ⟨qb, 1, none⟩)
  h5 : b5 = true → v86 = .slice Am nm cm
  h6 : b6 = true → b8 = false → ∃ A c, v87 = .agg #[.slice (some ⟨A, 0, none⟩) np c, .slice Am nm cm] ∧ OwnM 71 2 pnI w' X.heap.size (fun b => B ≤ b) (.slice (some ⟨A, 0, none⟩) np c) ps
  h7 : b7 = true → b8 = false → ∃ gb, v15 = .pointer (some ⟨gb, 0, none⟩) ∧ w'.heap[gb]? = some (.cells #[.slice none 0 0, .slice none 0 0] 55 (0, 0)) ∧ X.heap.size ≤ gb
  o2_1 : b2 = true → b1 = true
  o3_0 : b3 = true → b0 = true
  o3_2 : b3 = true → b2 = true
  o5_4 : b5 = true → b4 = true
  o6_3 : b6 = true → b3 = true
  o6_5 : b6 = true → b5 = true
  fin : b8 = true → ∃ gb A c, v15 = .pointer (some ⟨gb, 0, none⟩) ∧ w'.heap[gb]? = some (.cells #[.slice (some ⟨A, 0, none⟩) np c, .slice Am nm cm] 55 (0, 0)) ∧ OwnM 71 2 pnI w' X.heap.size (fun b => B ≤ b) (.slice (some ⟨A, 0, none⟩) np c) ps ∧ X.heap.size ≤ gb
inductive P10J (X : World) (qb B : Nat) (Aq Am : Option Addr) (np cp nm cm : Nat) (ps : List Nd) (p0 p1 p2 p3 p4 p5 p6 p7 p8 p9 p10 p11 p12 p13 p14 p16 p17 p18 p19 p20 p21 p22 p23 p24 p25 p26 p27 p28 p29 p30 p31 p32 p33 p34 p35 p36 p37 p38 p39 p40 p41 p42 p43 p44 p45 p46 p47 p48 p49 p50 p51 p52 p53 p54 p55 p56 p57 p58 p59 p60 p61 p62 p63 p64 p65 p66 p67 p68 p69 p70 p71 p72 p73 p74 p75 p76 p77 p78 p79 p80 p88 p89 p90 p91 p92 p93 p94 p95 p96 p97 p98 p99 p100 p101 p102 p103 p104 p105 p106 p107 p108 p109 p110 p111 p112 p113 p114 p115 p116 p117 p118 p119 p120 p121 p122 p123 p124 p125 p126 p127 p128 p129 p130 p131 p132 p133 p134 p135 p136 p137 p138 p139 p140 p141 p142 p143 p144 p145 p146 p147 p148 p149 p150 p151 p152 p153 p154 p155 p156 p157 p158 p159 p160 p161 p162 p163 p164 p165 p166 : Value) : Array Bool → Act → World → Prop where
  | mk (b0 b1 b2 b3 b4 b5 b6 b7 b8 : Bool) (v81 v82 v83 v84 v85 v86 v87 v15 : Value) (w' : World) : P10St X qb B Aq Am np cp nm cm ps b0 b1 b2 b3 b4 b5 b6 b7 b8 v81 v82 v83 v84 v85 v86 v87 v15 w' → P10J X qb B Aq Am np cp nm cm ps p0 p1 p2 p3 p4 p5 p6 p7 p8 p9 p10 p11 p12 p13 p14 p16 p17 p18 p19 p20 p21 p22 p23 p24 p25 p26 p27 p28 p29 p30 p31 p32 p33 p34 p35 p36 p37 p38 p39 p40 p41 p42 p43 p44 p45 p46 p47 p48 p49 p50 p51 p52 p53 p54 p55 p56 p57 p58 p59 p60 p61 p62 p63 p64 p65 p66 p67 p68 p69 p70 p71 p72 p73 p74 p75 p76 p77 p78 p79 p80 p88 p89 p90 p91 p92 p93 p94 p95 p96 p97 p98 p99 p100 p101 p102 p103 p104 p105 p106 p107 p108 p109 p110 p111 p112 p113 p114 p115 p116 p117 p118 p119 p120 p121 p122 p123 p124 p125 p126 p127 p128 p129 p130 p131 p132 p133 p134 p135 p136 p137 p138 p139 p140 p141 p142 p143 p144 p145 p146 p147 p148 p149 p150 p151 p152 p153 p154 p155 p156 p157 p158 p159 p160 p161 p162 p163 p164 p165 p166 #[b0, b1, b2, b3, b4, b5, b6, b7, b8] { tmps := List.toArray (p0 :: p1 :: p2 :: p3 :: p4 :: p5 :: p6 :: p7 :: p8 :: p9 :: p10 :: p11 :: p12 :: p13 :: p14 :: v15 :: p16 :: p17 :: p18 :: p19 :: p20 :: p21 :: p22 :: p23 :: p24 :: p25 :: p26 :: p27 :: p28 :: p29 :: p30 :: p31 :: p32 :: p33 :: p34 :: p35 :: p36 :: p37 :: p38 :: p39 :: p40 :: p41 :: p42 :: p43 :: p44 :: p45 :: p46 :: p47 :: p48 :: p49 :: p50 :: p51 :: p52 :: p53 :: p54 :: p55 :: p56 :: p57 :: p58 :: p59 :: p60 :: p61 :: p62 :: p63 :: p64 :: p65 :: p66 :: p67 :: p68 :: p69 :: p70 :: p71 :: p72 :: p73 :: p74 :: p75 :: p76 :: p77 :: p78 :: p79 :: p80 :: v81 :: v82 :: v83 :: v84 :: v85 :: v86 :: v87 :: p88 :: p89 :: p90 :: p91 :: p92 :: p93 :: p94 :: p95 :: p96 :: p97 :: p98 :: p99 :: p100 :: p101 :: p102 :: p103 :: p104 :: p105 :: p106 :: p107 :: p108 :: p109 :: p110 :: p111 :: p112 :: p113 :: p114 :: p115 :: p116 :: p117 :: p118 :: p119 :: p120 :: p121 :: p122 :: p123 :: p124 :: p125 :: p126 :: p127 :: p128 :: p129 :: p130 :: p131 :: p132 :: p133 :: p134 :: p135 :: p136 :: p137 :: p138 :: p139 :: p140 :: p141 :: p142 :: p143 :: p144 :: p145 :: p146 :: p147 :: p148 :: p149 :: p150 :: p151 :: p152 :: p153 :: p154 :: p155 :: p156 :: p157 :: p158 :: p159 :: p160 :: p161 :: p162 :: p163 :: p164 :: p165 :: p166 :: []), defers := [] } w'
structure P11St (X : World) (qb B : Nat) (Aq Am : Option Addr) (np cp nm cm : Nat) (ps : List Nd) (b0 b1 b2 b3 b4 b5 b6 b7 b8 : Bool) (v88 v89 v90 v91 v92 v93 v94 v16 : Value) (w' : World) : Prop where
  q8 : b8 = true → b0 = true ∧ b1 = true ∧ b2 = true ∧ b3 = true ∧ b4 = true ∧ b5 = true ∧ b6 = true ∧ b7 = true
  bel : Below X.heap.size X w'
  h0 : b0 = true → b3 = false → ∃ g, v88 = .slice (some ⟨g, 0, none⟩) 0 0 ∧ w'.ownsRow X.heap.size 71 2 (.slice (some ⟨g, 0, none⟩) 0 0) 0 []
  h1 : b1 = true → v89 = .pointer (some ⟨qb, 0, none⟩)
  h2 : b2 = true → v90 = .slice Aq np cp
  h3 : b3 = true → b8 = false → ∃ A c, v91 = .slice (some ⟨A, 0, none⟩) np c ∧ OwnM 71 2 pnI w' X.heap.size (fun b => B ≤ b) (.slice (some ⟨A, 0, none⟩) np c) ps
  h4 : b4 = true → v92 = .pointer (some ⟨qb, 1, none⟩)
  h5 : b5 = true → v93 = .slice Am nm cm
  h6 : b6 = true → b8 = false → ∃ A c, v94 = .agg #[.slice (some ⟨A, 0, none⟩) np c, .slice Am nm cm] ∧ OwnM 71 2 pnI w' X.heap.size (fun b => B ≤ b) (.slice (some ⟨A, 0, none⟩) np c) ps
  h7 : b7 = true → b8 = false → ∃ gb, v16 = .pointer (some ⟨gb, 0, none⟩) ∧ w'.heap[gb]? = some (.cells #[.slice none 0 0, .slice none 0 0] 55 (0, 0)) ∧ X.heap.size ≤ gb
  o2_1 : b2 = true → b1 = true
  o3_0 : b3 = true → b0 = true
  o3_2 : b3 = true → b2 = true
  o5_4 : b5 = true → b4 = true
  o6_3 : b6 = true → b3 = true
  o6_5 : b6 = true → b5 = true
  fin : b8 = true → ∃ gb A c, v16 = .pointer (some ⟨gb, 0, none⟩) ∧ w'.heap[gb]? = some (.cells #[.slice (some ⟨A, 0, none⟩) np c, .slice Am nm cm] 55 (0, 0)) ∧ OwnM 71 2 pnI w' X.heap.size (fun b => B ≤ b) (.slice (some ⟨A, 0, none⟩) np c) ps ∧ X.heap.size ≤ gb
inductive P11J (X : World) (qb B : Nat) (Aq Am : Option Addr) (np cp nm cm : Nat) (ps : List Nd) (p0 p1 p2 p3 p4 p5 p6 p7 p8 p9 p10 p11 p12 p13 p14 p15 p17 p18 p19 p20 p21 p22 p23 p24 p25 p26 p27 p28 p29 p30 p31 p32 p33 p34 p35 p36 p37 p38 p39 p40 p41 p42 p43 p44 p45 p46 p47 p48 p49 p50 p51 p52 p53 p54 p55 p56 p57 p58 p59 p60 p61 p62 p63 p64 p65 p66 p67 p68 p69 p70 p71 p72 p73 p74 p75 p76 p77 p78 p79 p80 p81 p82 p83 p84 p85 p86 p87 p95 p96 p97 p98 p99 p100 p101 p102 p103 p104 p105 p106 p107 p108 p109 p110 p111 p112 p113 p114 p115 p116 p117 p118 p119 p120 p121 p122 p123 p124 p125 p126 p127 p128 p129 p130 p131 p132 p133 p134 p135 p136 p137 p138 p139 p140 p141 p142 p143 p144 p145 p146 p147 p148 p149 p150 p151 p152 p153 p154 p155 p156 p157 p158 p159 p160 p161 p162 p163 p164 p165 p166 : Value) : Array Bool → Act → World → Prop where
  | mk (b0 b1 b2 b3 b4 b5 b6 b7 b8 : Bool) (v88 v89 v90 v91 v92 v93 v94 v16 : Value) (w' : World) : P11St X qb B Aq Am np cp nm cm ps b0 b1 b2 b3 b4 b5 b6 b7 b8 v88 v89 v90 v91 v92 v93 v94 v16 w' → P11J X qb B Aq Am np cp nm cm ps p0 p1 p2 p3 p4 p5 p6 p7 p8 p9 p10 p11 p12 p13 p14 p15 p17 p18 p19 p20 p21 p22 p23 p24 p25 p26 p27 p28 p29 p30 p31 p32 p33 p34 p35 p36 p37 p38 p39 p40 p41 p42 p43 p44 p45 p46 p47 p48 p49 p50 p51 p52 p53 p54 p55 p56 p57 p58 p59 p60 p61 p62 p63 p64 p65 p66 p67 p68 p69 p70 p71 p72 p73 p74 p75 p76 p77 p78 p79 p80 p81 p82 p83 p84 p85 p86 p87 p95 p96 p97 p98 p99 p100 p101 p102 p103 p104 p105 p106 p107 p108 p109 p110 p111 p112 p113 p114 p115 p116 p117 p118 p119 p120 p121 p122 p123 p124 p125 p126 p127 p128 p129 p130 p131 p132 p133 p134 p135 p136 p137 p138 p139 p140 p141 p142 p143 p144 p145 p146 p147 p148 p149 p150 p151 p152 p153 p154 p155 p156 p157 p158 p159 p160 p161 p162 p163 p164 p165 p166 #[b0, b1, b2, b3, b4, b5, b6, b7, b8] { tmps := List.toArray (p0 :: p1 :: p2 :: p3 :: p4 :: p5 :: p6 :: p7 :: p8 :: p9 :: p10 :: p11 :: p12 :: p13 :: p14 :: p15 :: v16 :: p17 :: p18 :: p19 :: p20 :: p21 :: p22 :: p23 :: p24 :: p25 :: p26 :: p27 :: p28 :: p29 :: p30 :: p31 :: p32 :: p33 :: p34 :: p35 :: p36 :: p37 :: p38 :: p39 :: p40 :: p41 :: p42 :: p43 :: p44 :: p45 :: p46 :: p47 :: p48 :: p49 :: p50 :: p51 :: p52 :: p53 :: p54 :: p55 :: p56 :: p57 :: p58 :: p59 :: p60 :: p61 :: p62 :: p63 :: p64 :: p65 :: p66 :: p67 :: p68 :: p69 :: p70 :: p71 :: p72 :: p73 :: p74 :: p75 :: p76 :: p77 :: p78 :: p79 :: p80 :: p81 :: p82 :: p83 :: p84 :: p85 :: p86 :: p87 :: v88 :: v89 :: v90 :: v91 :: v92 :: v93 :: v94 :: p95 :: p96 :: p97 :: p98 :: p99 :: p100 :: p101 :: p102 :: p103 :: p104 :: p105 :: p106 :: p107 :: p108 :: p109 :: p110 :: p111 :: p112 :: p113 :: p114 :: p115 :: p116 :: p117 :: p118 :: p119 :: p120 :: p121 :: p122 :: p123 :: p124 :: p125 :: p126 :: p127 :: p128 :: p129 :: p130 :: p131 :: p132 :: p133 :: p134 :: p135 :: p136 :: p137 :: p138 :: p139 :: p140 :: p141 :: p142 :: p143 :: p144 :: p145 :: p146 :: p147 :: p148 :: p149 :: p150 :: p151 :: p152 :: p153 :: p154 :: p155 :: p156 :: p157 :: p158 :: p159 :: p160 :: p161 :: p162 :: p163 :: p164 :: p165 :: p166 :: []), defers := [] } w'
set_option maxHeartbeats 16000000 in
theorem law_spins {w : World} {n c : Nat} {A : Option Addr} {l : List Sv} {A2 : Option Addr} {m c2 : Nat} {vs : List Int} {Aq Am : Option Addr} {np cp nm cm : Nat} {ps : List Nd} {ms : List Int} {at_ : Int} (hr : RdJ 2 svI w (fun b => w.heap.size ≤ b) A n l) (hcap : CapA A n c) (hvr : Rd w w.heap.size A2 m vs) (hvc : CapA A2 m c2) (hpr : RdJ 2 pnI w (fun b => w.heap.size ≤ b) Aq np ps) (hmr : Rd w w.heap.size Am nm ms) (hm : LenAt w) (h1 : 1 < w.heap.size) :
    Calls Try.prog 7 #[.agg #[.slice A n c], .slice A2 m c2, .agg #[.slice Aq np cp, .slice Am nm cm], .int .i64 at_] w fun e w' => e = .returned (.bool true) ∧ Below w.heap.size w w' := by
  have HR := Lib.hid hr
  have HC := Lib.hid hcap
  have HVR := Lib.hid hvr
  have HVC := Lib.hid hvc
  have HPR := Lib.hid hpr
  have HMR := Lib.hid hmr
  obtain ⟨W, HW⟩ : ∃ W, Hid (W = (w.alloc (.cells #[.slice A n c] 24)).alloc (.cells #[.slice Aq np cp, .slice Am nm cm] 55)) := ⟨_, Lib.hid rfl⟩
  have hbW : Below w.heap.size w W := by rw [HW.out]; exact ((Below.refl _ w).alloc (Nat.le_refl _) _).alloc (by simp) _
  have H0 : Hid (W.heap[w.heap.size]? = some (.cells #[.slice A n c] 24 (0, 0))) := Lib.hid (by
    rw [HW.out, Below.heap_alloc _ _ _ (by simp)]; exact heap_new w _)
  have H1 : Hid (W.heap[w.heap.size + 1]? = some (.cells #[.slice Aq np cp, .slice Am nm cm] 55 (0, 0))) := Lib.hid (by
    rw [HW.out]
    have h := heap_new (w.alloc (.cells #[.slice A n c] 24)) (.cells #[.slice Aq np cp, .slice Am nm cm] 55)
    rw [World.size_alloc] at h; exact h)
  have HLW := Lib.hid (LenAt.below hm h1 hbW)
  have HBW := Lib.hid hbW
  have hsz := hbW.size
  clear hr hcap hvr hvc hpr hmr hm h1 hbW
  obtain ⟨x0, _⟩ := row1f H0.out
  obtain ⟨u0, u1, _⟩ := row2 H1.out
  have HAN := Lib.hid (sanchor_any W HLW.out.1 HLW.out.2)
  go_enter Try.func7, Try.ntmps7
  go_upto_region 1 with fail
  change Code.wp _ _ _ _ ((w.alloc (.cells #[.slice A n c] 24)).alloc (.cells #[.slice Aq np cp, .slice Am nm cm] 55))
  rw [← HW.out]
  go_wp2_with fail
  refine HAN.out.mono ?_
  rintro e w1 ⟨rfl, hb⟩
  have HB1 : Hid (Below w.heap.size w w1) := Lib.hid (HBW.out.trans (hb.mono hsz))
  have HL1 := Lib.hid (LenAt.below HLW.out.1 HLW.out.2 hb)
  have K1 : Hid (w1.heap[w.heap.size]? = _) := Lib.hid ((hb.block w.heap.size (heapE_lt H0.out)).trans H0.out)
  have Q1 : Hid (w1.heap[w.heap.size + 1]? = _) := Lib.hid ((hb.block (w.heap.size + 1) (heapE_lt H1.out)).trans H1.out)
  clear hb x0 u0 u1 HAN
  obtain ⟨x0, _⟩ := row1f K1.out
  have HMC := Lib.hid (right_any (c := c) (RdJ.below sv_turns HR.out HB1.out) HB1.out.size HL1.out.1 HL1.out.2)
  go_wp2_with fail
  refine HMC.out.mono ?_
  rintro e z1 ⟨A', n', c', ok, rfl, hb, hit⟩
  obtain ⟨W2, HW2⟩ : ∃ W2, Hid (W2 = z1.alloc (.cells #[.slice A' n' c'] 28)) := ⟨_, Lib.hid rfl⟩
  have hb2 : Below z1.heap.size z1 W2 := by rw [HW2.out]; exact (Below.refl _ z1).alloc (Nat.le_refl _) _
  have J2 : Hid (W2.heap[z1.heap.size]? = some (.cells #[.slice A' n' c'] 28 (0, 0))) := Lib.hid (by rw [HW2.out]; exact heap_new z1 _)
  have hb12 : Below w1.heap.size w1 W2 := hb.trans (hb2.mono hb.size)
  have HB2 : Hid (Below w.heap.size w W2) := Lib.hid (HB1.out.trans (hb12.mono HB1.out.size))
  have HL2 := Lib.hid (LenAt.below HL1.out.1 HL1.out.2 hb12)
  have K2 : Hid (W2.heap[w.heap.size]? = _) := Lib.hid ((hb12.block w.heap.size (heapE_lt K1.out)).trans K1.out)
  have Q2 : Hid (W2.heap[w.heap.size + 1]? = _) := Lib.hid ((hb12.block (w.heap.size + 1) (heapE_lt Q1.out)).trans Q1.out)
  have HZ1 : Hid (w1.heap.size ≤ z1.heap.size) := Lib.hid hb.size
  have HIT := Lib.hid (fun h => And.intro (And.intro (hit h).1 (hit h).2.1) (ss_turns.kept (hit h).2.2 hb2))
  clear hb hb2 hb12 hit x0 HMC
  go_upto_region 4 with fail
  change Code.wp _ _ _ _ (z1.alloc (.cells #[.slice A' n' c'] 28))
  rw [← HW2.out]
  obtain ⟨u0, u1, _⟩ := row2 Q2.out
  have HPL := Lib.hid (plain_any (cp := cp) (nm := nm) (cm := cm) (Am := Am) (RdJ.below pn_turns HPR.out HB2.out) HB2.out.size)
  go_wp2_with fail
  refine HPL.out.mono ?_
  rintro e z2 ⟨Aq', np', cp', is, rfl, hb, hit⟩
  obtain ⟨W3, HW3⟩ : ∃ W3, Hid (W3 = z2.alloc (.cells #[.slice Aq' np' cp', .slice Am nm cm] 58)) := ⟨_, Lib.hid rfl⟩
  have hb2 : Below z2.heap.size z2 W3 := by rw [HW3.out]; exact (Below.refl _ z2).alloc (Nat.le_refl _) _
  have J3 : Hid (W3.heap[z2.heap.size]? = some (.cells #[.slice Aq' np' cp', .slice Am nm cm] 58 (0, 0))) := Lib.hid (by rw [HW3.out]; exact heap_new z2 _)
  have hb12 : Below W2.heap.size W2 W3 := hb.trans (hb2.mono hb.size)
  have HB3 : Hid (Below w.heap.size w W3) := Lib.hid (HB2.out.trans (hb12.mono HB2.out.size))
  have HL3 := Lib.hid (LenAt.below HL2.out.1 HL2.out.2 hb12)
  have K3 : Hid (W3.heap[w.heap.size]? = _) := Lib.hid ((hb12.block w.heap.size (heapE_lt K2.out)).trans K2.out)
  have Q3 : Hid (W3.heap[w.heap.size + 1]? = _) := Lib.hid ((hb12.block (w.heap.size + 1) (heapE_lt Q2.out)).trans Q2.out)
  have G3 : Hid (W3.heap[z1.heap.size]? = _) := Lib.hid ((hb12.block z1.heap.size (heapE_lt J2.out)).trans J2.out)
  have HIT3 := Lib.hid (fun h => And.intro (HIT.out h).1 (ss_turns.kept (HIT.out h).2 hb12))
  have HIP := Lib.hid (fun h => And.intro (And.intro (hit h).1 (hit h).2.1) (And.intro (hit h).2.2.1 (ps_turns.kept (hit h).2.2.2 hb2)))
  have HZ3 : Hid (z1.heap.size < W3.heap.size ∧ z2.heap.size < W3.heap.size ∧ w.heap.size + 1 < z1.heap.size ∧ W2.heap.size ≤ z2.heap.size) := Lib.hid ⟨heapE_lt G3.out, heapE_lt J3.out, by
    have h := hb.size
    have h2 : W2.heap.size = z1.heap.size + 1 := by rw [HW2.out, World.size_alloc]
    have h3 := HB1.out.size
    have h4 := heapE_lt Q2.out
    have h5 := heapE_lt Q1.out
    have h6 := HB2.out.size
    have h7 := HZ1.out
    omega, hb.size⟩
  clear hb hb2 hb12 hit u0 u1 HPL HIT
  go_upto_region 5 with fail
  change Code.wp _ _ _ _ (z2.alloc (.cells #[.slice Aq' np' cp', .slice Am nm cm] 58))
  rw [← HW3.out]
  cases ok with
  | false =>
    go_wp2_with fail
    exact bodyPost_ret (results_tmp rfl _ _ _) rfl ⟨rfl, HB3.out⟩
  | true =>
    cases is with
    | false =>
      go_wp2_with fail
      exact bodyPost_ret (results_tmp rfl _ _ _) rfl ⟨rfl, HB3.out⟩
    | true =>
      obtain ⟨⟨hck, hsm⟩, hss⟩ := HIT3.out rfl
      obtain ⟨⟨hnp, hnm⟩, hps, hpi⟩ := HIP.out rfl
      obtain ⟨hcap', hrd'⟩ := (ss_turns.go hss (FrM.refl W3 _) (M' := fun b => W3.heap.size ≤ b) (fun b hb => .inr hb)).rd
      obtain ⟨hcapq, hrdq⟩ := (ps_turns.go hpi (FrM.refl W3 _) (M' := fun b => W3.heap.size ≤ b) (fun b hb => .inr hb)).rd
      have HP : Hid (CatAt W3 w.heap.size A n c l) := Lib.hid ⟨RdJ.below sv_turns HR.out HB3.out, HC.out, HB3.out.size, hsm, HL3.out.1, HL3.out.2⟩
      have HQ : Hid (CatAt W3 W3.heap.size A' n' c' l) := Lib.hid ⟨hrd', hcap', Nat.le_refl _, hsm, HL3.out.1, HL3.out.2⟩
      obtain rfl : n' = n := by rw [← HQ.out.rd.1, ← HP.out.rd.1]
      obtain rfl : np' = np := by rw [← hrdq.1, ← HPR.out.1]
      have HCK := Lib.hid hck
      have HLV := Lib.hid (ck_lev hck)
      have HV3 := Lib.hid (Rd.below HVR.out HB3.out)
      have HRP : Hid (ReqAt W3 w.heap.size Aq np' Am nm ps ms) := Lib.hid ⟨RdJ.below pn_turns HPR.out HB3.out, Rd.below HMR.out HB3.out, hnp, hnm, hps, HB3.out.size⟩
      have HRQ : Hid (ReqAt W3 W3.heap.size Aq' np' Am nm ps ms) := Lib.hid ⟨hrdq, (Rd.below HMR.out HB3.out).more HB3.out.size, hnp, hnm, hps, Nat.le_refl _⟩
      clear hsm hss hcap' hrd' hck hnp hnm hps hpi hcapq hrdq
      by_cases h40 : 40 < m
      · have d1 : decide ((40 : Int) < (m : Int)) = true := by simp; omega
        go_wp2_with fail
        exact bodyPost_ret (results_tmp rfl _ _ _) rfl ⟨rfl, HB3.out⟩
      have d1 : decide ((40 : Int) < (m : Int)) = false := by simp; omega
      have HSZ := Lib.hid (size_any HQ.out (ck_rels HCK.out))
      obtain ⟨y0, _⟩ := row1f G3.out
      by_cases h15 : 1500 < szN l l.length
      · have d2 : decide ((1500 : Int) < ((szN l l.length : Nat) : Int)) = true := by simp; omega
        go_wp2_with fail
        refine HSZ.out.mono ?_
        rintro e w4 ⟨rfl, hb⟩
        go_wp2_with fail
        exact bodyPost_ret (results_tmp rfl _ _ _) rfl ⟨rfl, HB3.out.trans (hb.mono HB3.out.size)⟩
      have d2 : decide ((1500 : Int) < ((szN l l.length : Nat) : Int)) = false := by simp; omega
      go_wp2_with fail
      refine HSZ.out.mono ?_
      rintro e w4 ⟨rfl, hb⟩
      have HB4 : Hid (Below W3.heap.size W3 w4) := Lib.hid hb
      have HW4 : Hid (Below w.heap.size w w4) := Lib.hid (HB3.out.trans (hb.mono HB3.out.size))
      clear hb y0 HSZ
      have HCQ := Lib.hid (chkQ_any (c2 := c2) (cp := cp') (cm := cm) (HQ.out.below HB4.out) (HV3.out.below (HB4.out.mono HB3.out.size)) HW4.out.size (by omega) (HRQ.out.below HB4.out))
      obtain ⟨y0, _⟩ := row1f ((HB4.out.block z1.heap.size HZ3.out.1).trans G3.out)
      obtain ⟨v0, v1, _⟩ := row2 ((HB4.out.block z2.heap.size HZ3.out.2.1).trans J3.out)
      obtain ⟨u0, u1, _⟩ := row2 ((HB4.out.block (w.heap.size + 1) (heapE_lt Q3.out)).trans Q3.out)
      by_cases hcr : chkR l vs ps ms ≠ 0
      · have d3 : (chkR l vs ps ms != 0) = true := by rw [bne_iff_ne]; exact hcr
        go_wp2_with fail
        refine HCQ.out.mono ?_
        rintro e w5 ⟨rfl, hb⟩
        go_wp2_with fail
        exact bodyPost_ret (results_tmp rfl _ _ _) rfl ⟨rfl, HW4.out.trans (hb.mono HW4.out.size)⟩
      have hcr0 : chkR l vs ps ms = 0 := by omega
      have HCR := Lib.hid hcr0
      go_wp2_with fail
      refine HCQ.out.mono ?_
      rintro e w5 ⟨rfl, hb⟩
      have HB5 : Hid (Below W3.heap.size W3 w5) := Lib.hid (HB4.out.trans (hb.mono HB4.out.size))
      have HW5 : Hid (Below w.heap.size w w5) := Lib.hid (HW4.out.trans (hb.mono HW4.out.size))
      rw [hcr0]
      clear hb y0 v0 v1 HCQ hcr0 hcr u0 u1
      obtain ⟨u0, u1, _⟩ := row2 ((HB5.out.block (w.heap.size + 1) (heapE_lt Q3.out)).trans Q3.out)
      by_cases hat1 : at_ < 0
      · have d4 : decide (at_ < 0) = true := decide_eq_true hat1
        go_wp2_with fail
        exact bodyPost_ret (results_tmp rfl _ _ _) rfl ⟨rfl, HW5.out⟩
      have d4 : decide (at_ < 0) = false := decide_eq_false hat1
      by_cases hnp10 : 10 < np'
      · have d5 : decide ((10 : Int) < (np' : Int)) = true := by simp; omega
        go_wp2_with fail
        exact bodyPost_ret (results_tmp rfl _ _ _) rfl ⟨rfl, HW5.out⟩
      have d5 : decide ((10 : Int) < (np' : Int)) = false := by simp; omega
      have HSO := Lib.hid (solve_any (c2 := c2) (cp := cp) (cm := cm) (b := 1048576) (HP.out.below HB5.out) HCK.out (HV3.out.below (HB5.out.mono HB3.out.size)) HW5.out.size (HRP.out.below HB5.out))
      obtain ⟨x0, _⟩ := row1f ((HB5.out.block w.heap.size (heapE_lt K3.out)).trans K3.out)
      go_wp2_with fail
      refine HSO.out.mono ?_
      rintro e w6 ⟨hb, ho⟩
      have HB6 : Hid (Below W3.heap.size W3 w6) := Lib.hid (HB5.out.trans (hb.mono HB5.out.size))
      have HW6 : Hid (Below w.heap.size w w6) := Lib.hid (HW5.out.trans (hb.mono HW5.out.size))
      have HZ6 : Hid (w5.heap.size ≤ w6.heap.size) := Lib.hid hb.size
      clear hb x0 u0 u1 HSO
      have HOK := Lib.hid (@solR_ok l vs ps ms 1048576)
      have HTG := Lib.hid (@solR_tgt l vs ps ms 1048576 (ck_rels HCK.out))
      obtain ⟨X, HX⟩ : ∃ X, Hid (solR l vs ps ms 1048576 = X) := ⟨_, Lib.hid rfl⟩
      rw [HX.out] at ho HOK HTG
      have HN : Hid (l.length = n') := Lib.hid HP.out.rd.1
      rw [HN.out] at ho
      rcases ho with ⟨hx, hlen, v, rfl, hown⟩ | ⟨hx, _, rfl⟩
      rotate_left
      · have hne : (X.2 != 0) = true := by rw [bne_iff_ne]; exact hx
        go_wp2_with fail
        exact bodyPost_ret (results_tmp rfl _ _ _) rfl ⟨rfl, HW6.out⟩
      obtain ⟨At, ct, rfl, _⟩ := hown.shape
      have HT := Lib.hid (HTG.out hx)
      have HOW := Lib.hid hown
      obtain ⟨T, HTT⟩ : ∃ T, Hid (X.1 = T) := ⟨_, Lib.hid rfl⟩
      rw [HTT.out] at HT HOW hlen
      have HTL : Hid (T.length = n') := Lib.hid hlen
      have hn16 := HP.out.n16
      clear hown hlen
      have HSR := Lib.hid (And.intro hx HX.out)
      have HNPL : Hid (ps.length = np') := Lib.hid HPR.out.1
      go_upto_region 10 with fail
      obtain ⟨qb, HQB⟩ : ∃ qb, Hid (w.heap.size + 1 = qb) := ⟨_, Lib.hid rfl⟩
      obtain ⟨B, HBB⟩ : ∃ B, Hid (w.heap.size = B) := ⟨_, Lib.hid rfl⟩
      have HQX : Hid (w6.heap[qb]? = some (.cells #[.slice Aq np' cp, .slice Am nm cm] 55 (0, 0))) := Lib.hid (by rw [← HQB.out]; exact (HB6.out.block (w.heap.size + 1) (heapE_lt Q3.out)).trans Q3.out)
      have hqbX : qb < w6.heap.size := heapE_lt HQX.out
      have hBX : B ≤ w6.heap.size := by rw [← HBB.out]; exact HW6.out.size
      have HPX : Hid (RdJ 2 pnI w6 (fun b => B ≤ b) Aq np' ps) := Lib.hid (by rw [← HBB.out]; exact RdJ.below pn_turns HPR.out HW6.out)
      have hnpl := HNPL.out
      have hnp9 : np' ≤ 1000000000 := by omega
      rw [HQB.out]
      refine wp_region_inv (by kernel_rfl) (I := P10J w6 qb B Aq Am np' cp nm cm ps _ _ _ _ _ _ _ _ _ _ _ _ _ _ _ _ _ _ _ _ _ _ _ _ _ _ _ _ _ _ _ _ _ _ _ _ _ _ _ _ _ _ _ _ _ _ _ _ _ _ _ _ _ _ _ _ _ _ _ _ _ _ _ _ _ _ _ _ _ _ _ _ _ _ _ _ _ _ _ _ _ _ _ _ _ _ _ _ _ _ _ _ _ _ _ _ _ _ _ _ _ _ _ _ _ _ _ _ _ _ _ _ _ _ _ _ _ _ _ _ _ _ _ _ _ _ _ _ _ _ _ _ _ _ _ _ _ _ _ _ _ _ _ _ _ _ _ _ _ _ _ _ _ _ _ _ _ _ _) (.mk false false false false false false false false false _ _ _ _ _ _ _ _ _ ⟨nofun, (Below.refl _ w6).drew, nofun, nofun, nofun, nofun, nofun, nofun, nofun, nofun, nofun, nofun, nofun, nofun, nofun, nofun, nofun⟩) ?step ?fin
      case step =>
        rintro lq a' w' ix ⟨b0, b1, b2, b3, b4, b5, b6, b7, b8, v81, v82, v83, v84, v85, v86, v87, v15, _, HT⟩ hi
        obtain ⟨hi_, hib⟩ := ready_lt hi
        have HTH := Lib.hid HT
        match ix, hi_, hi, hib with
        | 0, _, hi, hib =>
          obtain rfl : b0 = false := by simpa using hib
          obtain rfl : b8 = false := by
            cases hbl : b8 with
            | false => rfl
            | true => have h := (HT.q8 hbl).1; cases h
          have hbel := HT.bel
          have HBE := Lib.hid hbel
          clear HT hbel
          refine wpOp_one rfl rfl (fun K hK => ?_)
          go_simp
          have hba : Below w'.heap.size w' (w'.alloc (.cells #[] 71)) := (Below.refl _ w').alloc (Nat.le_refl _) _
          have her := empty_rowB w' 71 2 HBE.out.size
          exact hK.out _ _ (.mk true b1 b2 b3 b4 b5 b6 b7 false _ _ _ _ _ _ _ _ _ { HTH.out with q8 := fun h => (by cases h), fin := fun h => (by cases h), bel := HBE.out.trans (hba.mono HBE.out.size), h0 := fun _ _ => ⟨w'.heap.size, rfl, her⟩, h3 := fun h hf => (by obtain ⟨A, c, e, r⟩ := HTH.out.h3 h hf; exact ⟨A, c, e, r.kept pn_turns hba⟩), h6 := fun h hf => (by obtain ⟨A, c, e, r⟩ := HTH.out.h6 h hf; exact ⟨A, c, e, r.kept pn_turns hba⟩), h7 := fun h hf => (by obtain ⟨g, e, r, l⟩ := HTH.out.h7 h hf; exact ⟨g, e, (hba.block g (heapE_lt r)).trans r, l⟩), o3_0 := fun _ => rfl })
        | 1, _, hi, hib =>
          obtain rfl : b1 = false := by simpa using hib
          obtain rfl : b8 = false := by
            cases hbl : b8 with
            | false => rfl
            | true => have h := (HT.q8 hbl).2.1; cases h
          have hbel := HT.bel
          have HBE := Lib.hid hbel
          clear HT hbel
          refine wpOp_one rfl rfl (fun K hK => ?_)
          go_simp
          exact hK.out _ _ (.mk b0 true b2 b3 b4 b5 b6 b7 false _ _ _ _ _ _ _ _ _ { HTH.out with q8 := fun h => (by cases h), fin := fun h => (by cases h), h1 := fun _ => rfl, o2_1 := fun _ => rfl })
        | 2, _, hi, hib =>
          obtain rfl : b2 = false := by simpa using hib
          obtain rfl : b8 = false := by
            cases hbl : b8 with
            | false => rfl
            | true => have h := (HT.q8 hbl).2.2.1; cases h
          have hbel := HT.bel
          have HBE := Lib.hid hbel
          have d1 : b1 = true := ready_dep hi rfl 1 (by kernel_rfl)
          have hd1 := HT.h1 d1
          subst hd1
          obtain ⟨q0, q1, _⟩ := row2 ((hbel.block qb hqbX).trans HQX.out)
          clear HT hbel
          refine wpOp_one rfl rfl (fun K hK => ?_)
          go_simp
          exact hK.out _ _ (.mk b0 b1 true b3 b4 b5 b6 b7 false _ _ _ _ _ _ _ _ _ { HTH.out with q8 := fun h => (by cases h), fin := fun h => (by cases h), h2 := fun _ => rfl, o2_1 := fun _ => d1, o3_2 := fun _ => rfl })
        | 3, _, hi, hib =>
          obtain rfl : b3 = false := by simpa using hib
          obtain rfl : b8 = false := by
            cases hbl : b8 with
            | false => rfl
            | true => have h := (HT.q8 hbl).2.2.2.1; cases h
          have hbel := HT.bel
          have HBE := Lib.hid hbel
          have d0 : b0 = true := ready_dep hi rfl 0 (by kernel_rfl)
          have d2 : b2 = true := ready_dep hi rfl 2 (by kernel_rfl)
          obtain ⟨g0, e0, r0⟩ := HT.h0 d0 rfl
          subst e0
          have hd2 := HT.h2 d2
          subst hd2
          have HR0 := Lib.hid r0
          clear HT hbel r0
          refine wpOp_one rfl rfl (fun K hK => ?_)
          have hg0 : w6.heap.size ≤ g0 := by
            rcases HR0.out.2 with ⟨h, _⟩ | ⟨g', cap, cur, hv, hb, _⟩
            · cases h
            · injection hv with hv; injection hv with hv; injection hv with hv _; omega
          refine opM_apps pn_turns pn_one Try.underlying53 infoPinS rfl (by decide) (by decide) (.tmp 81) (.tmp 83) rfl w6.heap.size (.slice (some ⟨g0, 0, none⟩) 0 0) rfl HR0.out B Aq np' cp ps rfl (RdJ.below pn_turns HPX.out (HBE.out.mono hBX)) hnp9 hBX HBE.out.size (fun g hg => by have h : some g0 = some g := hg; injection h with h; omega) ?_
          intro v2 w2 hown hgr hat
          obtain ⟨A2, c2', hv2⟩ : ∃ A c, v2 = .slice (some ⟨A, 0, none⟩) np' c := by
            have hl := hnpl
            rcases hown with ⟨_, ho, _⟩
            rcases ho.2 with ⟨e, h0⟩ | ⟨g, cap, cur, e, _⟩
            · rw [e] at hat; exact absurd hat (by simp [Value.ownBlock])
            · exact ⟨g, cap, by rw [e, hl]⟩
          subst hv2
          have hbb : Below w6.heap.size w6 w2 := HBE.out.grown hgr HBE.out.size (fun g hg => by have h : some g0 = some g := hg; injection h with h; omega)
          have hne : ∀ (gb : Nat) (cs : Array Value), w'.heap[gb]? = some (.cells cs 55 (0, 0)) → w2.heap[gb]? = some (.cells cs 55 (0, 0)) := fun gb cs h => (hgr.block gb (heapE_lt h) (fun e => by
            have h2 : some gb = some g0 := e
            injection h2 with h2
            subst h2
            rcases HR0.out.2 with ⟨h3, _⟩ | ⟨g', cap, cur, hv, _, hh, _⟩
            · cases h3
            · injection hv with hv; injection hv with hv; injection hv with hv _; subst hv; rw [h] at hh; injection hh with hh; injection hh with _ hh _; exact absurd hh (by decide))).trans h
          exact hK.out _ _ (.mk b0 b1 b2 true b4 b5 b6 b7 false _ _ _ _ _ _ _ _ _ { HTH.out with q8 := fun h => (by cases h), fin := fun h => (by cases h), bel := hbb, h0 := fun _ h => (by cases h), h3 := fun _ _ => ⟨A2, c2', rfl, hown⟩, h6 := fun h _ => (by have h2 := HTH.out.o6_3 h; cases h2), h7 := fun h hf => (by obtain ⟨g, e, r, l⟩ := HTH.out.h7 h hf; exact ⟨g, e, hne g _ r, l⟩), o3_0 := fun _ => d0, o3_2 := fun _ => d2, o6_3 := fun _ => rfl })
        | 4, _, hi, hib =>
          obtain rfl : b4 = false := by simpa using hib
          obtain rfl : b8 = false := by
            cases hbl : b8 with
            | false => rfl
            | true => have h := (HT.q8 hbl).2.2.2.2.1; cases h
          have hbel := HT.bel
          have HBE := Lib.hid hbel
          clear HT hbel
          refine wpOp_one rfl rfl (fun K hK => ?_)
          go_simp
          exact hK.out _ _ (.mk b0 b1 b2 b3 true b5 b6 b7 false _ _ _ _ _ _ _ _ _ { HTH.out with q8 := fun h => (by cases h), fin := fun h => (by cases h), h4 := fun _ => rfl, o5_4 := fun _ => rfl })
        | 5, _, hi, hib =>
          obtain rfl : b5 = false := by simpa using hib
          obtain rfl : b8 = false := by
            cases hbl : b8 with
            | false => rfl
            | true => have h := (HT.q8 hbl).2.2.2.2.2.1; cases h
          have hbel := HT.bel
          have HBE := Lib.hid hbel
          have d4 : b4 = true := ready_dep hi rfl 4 (by kernel_rfl)
          have hd4 := HT.h4 d4
          subst hd4
          obtain ⟨q0, q1, _⟩ := row2 ((hbel.block qb hqbX).trans HQX.out)
          clear HT hbel
          refine wpOp_one rfl rfl (fun K hK => ?_)
          go_simp
          exact hK.out _ _ (.mk b0 b1 b2 b3 b4 true b6 b7 false _ _ _ _ _ _ _ _ _ { HTH.out with q8 := fun h => (by cases h), fin := fun h => (by cases h), h5 := fun _ => rfl, o5_4 := fun _ => d4, o6_5 := fun _ => rfl })
        | 6, _, hi, hib =>
          obtain rfl : b6 = false := by simpa using hib
          obtain rfl : b8 = false := by
            cases hbl : b8 with
            | false => rfl
            | true => have h := (HT.q8 hbl).2.2.2.2.2.2.1; cases h
          have hbel := HT.bel
          have HBE := Lib.hid hbel
          have d3 : b3 = true := ready_dep hi rfl 3 (by kernel_rfl)
          have d5 : b5 = true := ready_dep hi rfl 5 (by kernel_rfl)
          obtain ⟨A3, c3, e3, r3⟩ := HT.h3 d3 rfl
          subst e3
          have hd5 := HT.h5 d5
          subst hd5
          have HR3 := Lib.hid r3
          clear HT hbel r3
          refine wpOp_one rfl rfl (fun K hK => ?_)
          go_simp
          exact hK.out _ _ (.mk b0 b1 b2 b3 b4 b5 true b7 false _ _ _ _ _ _ _ _ _ { HTH.out with q8 := fun h => (by cases h), fin := fun h => (by cases h), h6 := fun _ _ => ⟨A3, c3, rfl, HR3.out⟩, o6_3 := fun _ => d3, o6_5 := fun _ => d5 })
        | 7, _, hi, hib =>
          obtain rfl : b7 = false := by simpa using hib
          obtain rfl : b8 = false := by
            cases hbl : b8 with
            | false => rfl
            | true => have h := (HT.q8 hbl).2.2.2.2.2.2.2; cases h
          have hbel := HT.bel
          have HBE := Lib.hid hbel
          clear HT hbel
          refine wpOp_one rfl rfl (fun K hK => ?_)
          go_simp
          have hba : Below w'.heap.size w' (w'.alloc (.cells #[.slice none 0 0, .slice none 0 0] 55)) := (Below.refl _ w').alloc (Nat.le_refl _) _
          exact hK.out _ _ (.mk b0 b1 b2 b3 b4 b5 b6 true false _ _ _ _ _ _ _ _ _ { HTH.out with q8 := fun h => (by cases h), fin := fun h => (by cases h), bel := HBE.out.trans (hba.mono HBE.out.size), h7 := fun _ _ => ⟨w'.heap.size, rfl, heap_new w' _, HBE.out.size⟩, h0 := fun h hf => (by obtain ⟨g, e, r⟩ := HTH.out.h0 h hf; exact ⟨g, e, own_frm r (FrM.kept hba) (fun _ _ h => h)⟩), h3 := fun h hf => (by obtain ⟨A, c, e, r⟩ := HTH.out.h3 h hf; exact ⟨A, c, e, r.kept pn_turns hba⟩), h6 := fun h hf => (by obtain ⟨A, c, e, r⟩ := HTH.out.h6 h hf; exact ⟨A, c, e, r.kept pn_turns hba⟩) })
        | 8, _, hi, hib =>
          obtain rfl : b8 = false := by simpa using hib
          have hbel := HT.bel
          have HBE := Lib.hid hbel
          have d7 : b7 = true := ready_dep hi rfl 7 (by kernel_rfl)
          have d6 : b6 = true := ready_dep hi rfl 6 (by kernel_rfl)
          obtain ⟨A6, c6, e6, r6⟩ := HT.h6 d6 rfl
          subst e6
          obtain ⟨g7, e7, r7, l7⟩ := HT.h7 d7 rfl
          subst e7
          have HR6 := Lib.hid r6
          have HR7 := Lib.hid r7
          have HL7 := Lib.hid l7
          obtain ⟨q0, q1, f0, f1⟩ := row2 r7
          clear HT hbel r6 r7 l7
          refine wpOp_one rfl rfl (fun K hK => ?_)
          go_simp
          have hs := grown_set2 w' g7 (.slice (some ⟨A6, 0, none⟩) np' c6) (.slice Am nm cm)
          have hown := HR6.out.frm pn_turns (M' := fun b => B ≤ b) (FrM.of_grown hs (M := fun b => b = g7) (fun g hg => by injection hg with hg; exact hg.symm)) (fun g hg => HR6.out.far HR7.out (by decide) g hg) (fun b hb => by subst hb; show B ≤ _; have := HL7.out; omega) (fun b hb => .inl hb)
          have hcel : ((w'.setCell ⟨g7, 0, none⟩ (.slice (some ⟨A6, 0, none⟩) np' c6)).setCell ⟨g7, 1, none⟩ (.slice Am nm cm)).heap[g7]? = some (.cells #[.slice (some ⟨A6, 0, none⟩) np' c6, .slice Am nm cm] 55 (0, 0)) := heap_setCell_same _ g7 1 _ _ (.slice Am nm cm) (heap_setCell_same w' g7 0 _ _ (.slice (some ⟨A6, 0, none⟩) np' c6) HR7.out)
          exact hK.out _ _ (.mk b0 b1 b2 b3 b4 b5 b6 b7 true _ _ _ _ _ _ _ _ _ { HTH.out with q8 := fun _ => ⟨(HTH.out.o3_0 (HTH.out.o6_3 d6)), (HTH.out.o2_1 (HTH.out.o3_2 (HTH.out.o6_3 d6))), (HTH.out.o3_2 (HTH.out.o6_3 d6)), (HTH.out.o6_3 d6), (HTH.out.o5_4 (HTH.out.o6_5 d6)), (HTH.out.o6_5 d6), d6, d7⟩, bel := (HBE.out.setCell (p := ⟨g7, 0, none⟩) HL7.out _).setCell (p := ⟨g7, 1, none⟩) HL7.out _, h0 := fun h hf => (by rw [(HTH.out.o6_3 d6)] at hf; cases hf), h3 := fun _ h => (by cases h), h6 := fun _ h => (by cases h), h7 := fun _ h => (by cases h), fin := fun _ => ⟨g7, A6, c6, rfl, hcel, hown, HL7.out⟩ })
      case fin =>
        rintro lq a' w' ⟨b0, b1, b2, b3, b4, b5, b6, b7, b8, v81, v82, v83, v84, v85, v86, v87, v15, _, HT⟩ hr
        obtain rfl : b0 = true := by
          cases b0 with
          | true => rfl
          | false => exact (ready_in 0 rfl rfl (by simp [Region.binds]) hr).elim
        obtain rfl : b1 = true := by
          cases b1 with
          | true => rfl
          | false => exact (ready_in 1 rfl rfl (by simp [Region.binds]) hr).elim
        obtain rfl : b2 = true := by
          cases b2 with
          | true => rfl
          | false => exact (ready_in 2 rfl rfl (by simp [Region.binds]) hr).elim
        obtain rfl : b3 = true := by
          cases b3 with
          | true => rfl
          | false => exact (ready_in 3 rfl rfl (by simp [Region.binds]) hr).elim
        obtain rfl : b4 = true := by
          cases b4 with
          | true => rfl
          | false => exact (ready_in 4 rfl rfl (by simp [Region.binds]) hr).elim
        obtain rfl : b5 = true := by
          cases b5 with
          | true => rfl
          | false => exact (ready_in 5 rfl rfl (by simp [Region.binds]) hr).elim
        obtain rfl : b6 = true := by
          cases b6 with
          | true => rfl
          | false => exact (ready_in 6 rfl rfl (by simp [Region.binds]) hr).elim
        obtain rfl : b7 = true := by
          cases b7 with
          | true => rfl
          | false => exact (ready_in 7 rfl rfl (by simp [Region.binds]) hr).elim
        obtain rfl : b8 = true := by
          cases b8 with
          | true => rfl
          | false => exact (ready_in 8 rfl rfl (by simp [Region.binds]) hr).elim
        have HF10 := Lib.hid (HT.fin rfl)
        have HFB := Lib.hid HT.bel
        have k1 := HT.h1 rfl
        subst k1
        have k2 := HT.h2 rfl
        subst k2
        have k4 := HT.h4 rfl
        subst k4
        have k5 := HT.h5 rfl
        subst k5
        clear HT hr
        obtain ⟨bA, gA, cA, e15, hA, rowA, leA⟩ := HF10.out
        subst e15
        obtain ⟨w7, hw7⟩ : ∃ x, x = w' := ⟨_, rfl⟩
        subst hw7
        have HBA := Lib.hid HFB.out
        have HBXA := Lib.hid hA
        have HRWA := Lib.hid rowA
        have HLEA := Lib.hid leA
        clear hA rowA leA HF10 HFB hqbX HQX hBX HPX
        have HB7 : Hid (Below W3.heap.size W3 w7) := Lib.hid (HB6.out.trans (HBA.out.mono HB6.out.size))
        have HW7 : Hid (Below w.heap.size w w7) := Lib.hid (HW6.out.trans (HBA.out.mono HW6.out.size))
        have HQX : Hid (w7.heap[qb]? = some (.cells #[.slice Aq np' cp, .slice Am nm cm] 55 (0, 0))) := Lib.hid (by rw [← HQB.out]; exact (HB7.out.block (w.heap.size + 1) (heapE_lt Q3.out)).trans Q3.out)
        have hqbX : qb < w7.heap.size := heapE_lt HQX.out
        have hBX : B ≤ w7.heap.size := by rw [← HBB.out]; exact HW7.out.size
        have HPX : Hid (RdJ 2 pnI w7 (fun b => B ≤ b) Aq np' ps) := Lib.hid (by rw [← HBB.out]; exact RdJ.below pn_turns HPR.out HW7.out)
        go_upto_region 11 with fail
        refine wp_region_inv (by kernel_rfl) (I := P11J w7 qb B Aq Am np' cp nm cm ps _ _ _ _ _ _ _ _ _ _ _ _ _ _ _ _ _ _ _ _ _ _ _ _ _ _ _ _ _ _ _ _ _ _ _ _ _ _ _ _ _ _ _ _ _ _ _ _ _ _ _ _ _ _ _ _ _ _ _ _ _ _ _ _ _ _ _ _ _ _ _ _ _ _ _ _ _ _ _ _ _ _ _ _ _ _ _ _ _ _ _ _ _ _ _ _ _ _ _ _ _ _ _ _ _ _ _ _ _ _ _ _ _ _ _ _ _ _ _ _ _ _ _ _ _ _ _ _ _ _ _ _ _ _ _ _ _ _ _ _ _ _ _ _ _ _ _ _ _ _ _ _ _ _ _ _ _ _ _) (.mk false false false false false false false false false _ _ _ _ _ _ _ _ _ ⟨nofun, (Below.refl _ w7).drew, nofun, nofun, nofun, nofun, nofun, nofun, nofun, nofun, nofun, nofun, nofun, nofun, nofun, nofun, nofun⟩) ?step ?fin
        case step =>
          rintro lq a' w' ix ⟨b0, b1, b2, b3, b4, b5, b6, b7, b8, v88, v89, v90, v91, v92, v93, v94, v16, _, HT⟩ hi
          obtain ⟨hi_, hib⟩ := ready_lt hi
          have HTH := Lib.hid HT
          match ix, hi_, hi, hib with
          | 0, _, hi, hib =>
            obtain rfl : b0 = false := by simpa using hib
            obtain rfl : b8 = false := by
              cases hbl : b8 with
              | false => rfl
              | true => have h := (HT.q8 hbl).1; cases h
            have hbel := HT.bel
            have HBE := Lib.hid hbel
            clear HT hbel
            refine wpOp_one rfl rfl (fun K hK => ?_)
            go_simp
            have hba : Below w'.heap.size w' (w'.alloc (.cells #[] 71)) := (Below.refl _ w').alloc (Nat.le_refl _) _
            have her := empty_rowB w' 71 2 HBE.out.size
            exact hK.out _ _ (.mk true b1 b2 b3 b4 b5 b6 b7 false _ _ _ _ _ _ _ _ _ { HTH.out with q8 := fun h => (by cases h), fin := fun h => (by cases h), bel := HBE.out.trans (hba.mono HBE.out.size), h0 := fun _ _ => ⟨w'.heap.size, rfl, her⟩, h3 := fun h hf => (by obtain ⟨A, c, e, r⟩ := HTH.out.h3 h hf; exact ⟨A, c, e, r.kept pn_turns hba⟩), h6 := fun h hf => (by obtain ⟨A, c, e, r⟩ := HTH.out.h6 h hf; exact ⟨A, c, e, r.kept pn_turns hba⟩), h7 := fun h hf => (by obtain ⟨g, e, r, l⟩ := HTH.out.h7 h hf; exact ⟨g, e, (hba.block g (heapE_lt r)).trans r, l⟩), o3_0 := fun _ => rfl })
          | 1, _, hi, hib =>
            obtain rfl : b1 = false := by simpa using hib
            obtain rfl : b8 = false := by
              cases hbl : b8 with
              | false => rfl
              | true => have h := (HT.q8 hbl).2.1; cases h
            have hbel := HT.bel
            have HBE := Lib.hid hbel
            clear HT hbel
            refine wpOp_one rfl rfl (fun K hK => ?_)
            go_simp
            exact hK.out _ _ (.mk b0 true b2 b3 b4 b5 b6 b7 false _ _ _ _ _ _ _ _ _ { HTH.out with q8 := fun h => (by cases h), fin := fun h => (by cases h), h1 := fun _ => rfl, o2_1 := fun _ => rfl })
          | 2, _, hi, hib =>
            obtain rfl : b2 = false := by simpa using hib
            obtain rfl : b8 = false := by
              cases hbl : b8 with
              | false => rfl
              | true => have h := (HT.q8 hbl).2.2.1; cases h
            have hbel := HT.bel
            have HBE := Lib.hid hbel
            have d1 : b1 = true := ready_dep hi rfl 1 (by kernel_rfl)
            have hd1 := HT.h1 d1
            subst hd1
            obtain ⟨q0, q1, _⟩ := row2 ((hbel.block qb hqbX).trans HQX.out)
            clear HT hbel
            refine wpOp_one rfl rfl (fun K hK => ?_)
            go_simp
            exact hK.out _ _ (.mk b0 b1 true b3 b4 b5 b6 b7 false _ _ _ _ _ _ _ _ _ { HTH.out with q8 := fun h => (by cases h), fin := fun h => (by cases h), h2 := fun _ => rfl, o2_1 := fun _ => d1, o3_2 := fun _ => rfl })
          | 3, _, hi, hib =>
            obtain rfl : b3 = false := by simpa using hib
            obtain rfl : b8 = false := by
              cases hbl : b8 with
              | false => rfl
              | true => have h := (HT.q8 hbl).2.2.2.1; cases h
            have hbel := HT.bel
            have HBE := Lib.hid hbel
            have d0 : b0 = true := ready_dep hi rfl 0 (by kernel_rfl)
            have d2 : b2 = true := ready_dep hi rfl 2 (by kernel_rfl)
            obtain ⟨g0, e0, r0⟩ := HT.h0 d0 rfl
            subst e0
            have hd2 := HT.h2 d2
            subst hd2
            have HR0 := Lib.hid r0
            clear HT hbel r0
            refine wpOp_one rfl rfl (fun K hK => ?_)
            have hg0 : w7.heap.size ≤ g0 := by
              rcases HR0.out.2 with ⟨h, _⟩ | ⟨g', cap, cur, hv, hb, _⟩
              · cases h
              · injection hv with hv; injection hv with hv; injection hv with hv _; omega
            refine opM_apps pn_turns pn_one Try.underlying53 infoPinS rfl (by decide) (by decide) (.tmp 88) (.tmp 90) rfl w7.heap.size (.slice (some ⟨g0, 0, none⟩) 0 0) rfl HR0.out B Aq np' cp ps rfl (RdJ.below pn_turns HPX.out (HBE.out.mono hBX)) hnp9 hBX HBE.out.size (fun g hg => by have h : some g0 = some g := hg; injection h with h; omega) ?_
            intro v2 w2 hown hgr hat
            obtain ⟨A2, c2', hv2⟩ : ∃ A c, v2 = .slice (some ⟨A, 0, none⟩) np' c := by
              have hl := hnpl
              rcases hown with ⟨_, ho, _⟩
              rcases ho.2 with ⟨e, h0⟩ | ⟨g, cap, cur, e, _⟩
              · rw [e] at hat; exact absurd hat (by simp [Value.ownBlock])
              · exact ⟨g, cap, by rw [e, hl]⟩
            subst hv2
            have hbb : Below w7.heap.size w7 w2 := HBE.out.grown hgr HBE.out.size (fun g hg => by have h : some g0 = some g := hg; injection h with h; omega)
            have hne : ∀ (gb : Nat) (cs : Array Value), w'.heap[gb]? = some (.cells cs 55 (0, 0)) → w2.heap[gb]? = some (.cells cs 55 (0, 0)) := fun gb cs h => (hgr.block gb (heapE_lt h) (fun e => by
              have h2 : some gb = some g0 := e
              injection h2 with h2
              subst h2
              rcases HR0.out.2 with ⟨h3, _⟩ | ⟨g', cap, cur, hv, _, hh, _⟩
              · cases h3
              · injection hv with hv; injection hv with hv; injection hv with hv _; subst hv; rw [h] at hh; injection hh with hh; injection hh with _ hh _; exact absurd hh (by decide))).trans h
            exact hK.out _ _ (.mk b0 b1 b2 true b4 b5 b6 b7 false _ _ _ _ _ _ _ _ _ { HTH.out with q8 := fun h => (by cases h), fin := fun h => (by cases h), bel := hbb, h0 := fun _ h => (by cases h), h3 := fun _ _ => ⟨A2, c2', rfl, hown⟩, h6 := fun h _ => (by have h2 := HTH.out.o6_3 h; cases h2), h7 := fun h hf => (by obtain ⟨g, e, r, l⟩ := HTH.out.h7 h hf; exact ⟨g, e, hne g _ r, l⟩), o3_0 := fun _ => d0, o3_2 := fun _ => d2, o6_3 := fun _ => rfl })
          | 4, _, hi, hib =>
            obtain rfl : b4 = false := by simpa using hib
            obtain rfl : b8 = false := by
              cases hbl : b8 with
              | false => rfl
              | true => have h := (HT.q8 hbl).2.2.2.2.1; cases h
            have hbel := HT.bel
            have HBE := Lib.hid hbel
            clear HT hbel
            refine wpOp_one rfl rfl (fun K hK => ?_)
            go_simp
            exact hK.out _ _ (.mk b0 b1 b2 b3 true b5 b6 b7 false _ _ _ _ _ _ _ _ _ { HTH.out with q8 := fun h => (by cases h), fin := fun h => (by cases h), h4 := fun _ => rfl, o5_4 := fun _ => rfl })
          | 5, _, hi, hib =>
            obtain rfl : b5 = false := by simpa using hib
            obtain rfl : b8 = false := by
              cases hbl : b8 with
              | false => rfl
              | true => have h := (HT.q8 hbl).2.2.2.2.2.1; cases h
            have hbel := HT.bel
            have HBE := Lib.hid hbel
            have d4 : b4 = true := ready_dep hi rfl 4 (by kernel_rfl)
            have hd4 := HT.h4 d4
            subst hd4
            obtain ⟨q0, q1, _⟩ := row2 ((hbel.block qb hqbX).trans HQX.out)
            clear HT hbel
            refine wpOp_one rfl rfl (fun K hK => ?_)
            go_simp
            exact hK.out _ _ (.mk b0 b1 b2 b3 b4 true b6 b7 false _ _ _ _ _ _ _ _ _ { HTH.out with q8 := fun h => (by cases h), fin := fun h => (by cases h), h5 := fun _ => rfl, o5_4 := fun _ => d4, o6_5 := fun _ => rfl })
          | 6, _, hi, hib =>
            obtain rfl : b6 = false := by simpa using hib
            obtain rfl : b8 = false := by
              cases hbl : b8 with
              | false => rfl
              | true => have h := (HT.q8 hbl).2.2.2.2.2.2.1; cases h
            have hbel := HT.bel
            have HBE := Lib.hid hbel
            have d3 : b3 = true := ready_dep hi rfl 3 (by kernel_rfl)
            have d5 : b5 = true := ready_dep hi rfl 5 (by kernel_rfl)
            obtain ⟨A3, c3, e3, r3⟩ := HT.h3 d3 rfl
            subst e3
            have hd5 := HT.h5 d5
            subst hd5
            have HR3 := Lib.hid r3
            clear HT hbel r3
            refine wpOp_one rfl rfl (fun K hK => ?_)
            go_simp
            exact hK.out _ _ (.mk b0 b1 b2 b3 b4 b5 true b7 false _ _ _ _ _ _ _ _ _ { HTH.out with q8 := fun h => (by cases h), fin := fun h => (by cases h), h6 := fun _ _ => ⟨A3, c3, rfl, HR3.out⟩, o6_3 := fun _ => d3, o6_5 := fun _ => d5 })
          | 7, _, hi, hib =>
            obtain rfl : b7 = false := by simpa using hib
            obtain rfl : b8 = false := by
              cases hbl : b8 with
              | false => rfl
              | true => have h := (HT.q8 hbl).2.2.2.2.2.2.2; cases h
            have hbel := HT.bel
            have HBE := Lib.hid hbel
            clear HT hbel
            refine wpOp_one rfl rfl (fun K hK => ?_)
            go_simp
            have hba : Below w'.heap.size w' (w'.alloc (.cells #[.slice none 0 0, .slice none 0 0] 55)) := (Below.refl _ w').alloc (Nat.le_refl _) _
            exact hK.out _ _ (.mk b0 b1 b2 b3 b4 b5 b6 true false _ _ _ _ _ _ _ _ _ { HTH.out with q8 := fun h => (by cases h), fin := fun h => (by cases h), bel := HBE.out.trans (hba.mono HBE.out.size), h7 := fun _ _ => ⟨w'.heap.size, rfl, heap_new w' _, HBE.out.size⟩, h0 := fun h hf => (by obtain ⟨g, e, r⟩ := HTH.out.h0 h hf; exact ⟨g, e, own_frm r (FrM.kept hba) (fun _ _ h => h)⟩), h3 := fun h hf => (by obtain ⟨A, c, e, r⟩ := HTH.out.h3 h hf; exact ⟨A, c, e, r.kept pn_turns hba⟩), h6 := fun h hf => (by obtain ⟨A, c, e, r⟩ := HTH.out.h6 h hf; exact ⟨A, c, e, r.kept pn_turns hba⟩) })
          | 8, _, hi, hib =>
            obtain rfl : b8 = false := by simpa using hib
            have hbel := HT.bel
            have HBE := Lib.hid hbel
            have d7 : b7 = true := ready_dep hi rfl 7 (by kernel_rfl)
            have d6 : b6 = true := ready_dep hi rfl 6 (by kernel_rfl)
            obtain ⟨A6, c6, e6, r6⟩ := HT.h6 d6 rfl
            subst e6
            obtain ⟨g7, e7, r7, l7⟩ := HT.h7 d7 rfl
            subst e7
            have HR6 := Lib.hid r6
            have HR7 := Lib.hid r7
            have HL7 := Lib.hid l7
            obtain ⟨q0, q1, f0, f1⟩ := row2 r7
            clear HT hbel r6 r7 l7
            refine wpOp_one rfl rfl (fun K hK => ?_)
            go_simp
            have hs := grown_set2 w' g7 (.slice (some ⟨A6, 0, none⟩) np' c6) (.slice Am nm cm)
            have hown := HR6.out.frm pn_turns (M' := fun b => B ≤ b) (FrM.of_grown hs (M := fun b => b = g7) (fun g hg => by injection hg with hg; exact hg.symm)) (fun g hg => HR6.out.far HR7.out (by decide) g hg) (fun b hb => by subst hb; show B ≤ _; have := HL7.out; omega) (fun b hb => .inl hb)
            have hcel : ((w'.setCell ⟨g7, 0, none⟩ (.slice (some ⟨A6, 0, none⟩) np' c6)).setCell ⟨g7, 1, none⟩ (.slice Am nm cm)).heap[g7]? = some (.cells #[.slice (some ⟨A6, 0, none⟩) np' c6, .slice Am nm cm] 55 (0, 0)) := heap_setCell_same _ g7 1 _ _ (.slice Am nm cm) (heap_setCell_same w' g7 0 _ _ (.slice (some ⟨A6, 0, none⟩) np' c6) HR7.out)
            exact hK.out _ _ (.mk b0 b1 b2 b3 b4 b5 b6 b7 true _ _ _ _ _ _ _ _ _ { HTH.out with q8 := fun _ => ⟨(HTH.out.o3_0 (HTH.out.o6_3 d6)), (HTH.out.o2_1 (HTH.out.o3_2 (HTH.out.o6_3 d6))), (HTH.out.o3_2 (HTH.out.o6_3 d6)), (HTH.out.o6_3 d6), (HTH.out.o5_4 (HTH.out.o6_5 d6)), (HTH.out.o6_5 d6), d6, d7⟩, bel := (HBE.out.setCell (p := ⟨g7, 0, none⟩) HL7.out _).setCell (p := ⟨g7, 1, none⟩) HL7.out _, h0 := fun h hf => (by rw [(HTH.out.o6_3 d6)] at hf; cases hf), h3 := fun _ h => (by cases h), h6 := fun _ h => (by cases h), h7 := fun _ h => (by cases h), fin := fun _ => ⟨g7, A6, c6, rfl, hcel, hown, HL7.out⟩ })
        case fin =>
          rintro lq a' w' ⟨b0, b1, b2, b3, b4, b5, b6, b7, b8, v88, v89, v90, v91, v92, v93, v94, v16, _, HT⟩ hr
          obtain rfl : b0 = true := by
            cases b0 with
            | true => rfl
            | false => exact (ready_in 0 rfl rfl (by simp [Region.binds]) hr).elim
          obtain rfl : b1 = true := by
            cases b1 with
            | true => rfl
            | false => exact (ready_in 1 rfl rfl (by simp [Region.binds]) hr).elim
          obtain rfl : b2 = true := by
            cases b2 with
            | true => rfl
            | false => exact (ready_in 2 rfl rfl (by simp [Region.binds]) hr).elim
          obtain rfl : b3 = true := by
            cases b3 with
            | true => rfl
            | false => exact (ready_in 3 rfl rfl (by simp [Region.binds]) hr).elim
          obtain rfl : b4 = true := by
            cases b4 with
            | true => rfl
            | false => exact (ready_in 4 rfl rfl (by simp [Region.binds]) hr).elim
          obtain rfl : b5 = true := by
            cases b5 with
            | true => rfl
            | false => exact (ready_in 5 rfl rfl (by simp [Region.binds]) hr).elim
          obtain rfl : b6 = true := by
            cases b6 with
            | true => rfl
            | false => exact (ready_in 6 rfl rfl (by simp [Region.binds]) hr).elim
          obtain rfl : b7 = true := by
            cases b7 with
            | true => rfl
            | false => exact (ready_in 7 rfl rfl (by simp [Region.binds]) hr).elim
          obtain rfl : b8 = true := by
            cases b8 with
            | true => rfl
            | false => exact (ready_in 8 rfl rfl (by simp [Region.binds]) hr).elim
          have HF10 := Lib.hid (HT.fin rfl)
          have HFB := Lib.hid HT.bel
          have k1 := HT.h1 rfl
          subst k1
          have k2 := HT.h2 rfl
          subst k2
          have k4 := HT.h4 rfl
          subst k4
          have k5 := HT.h5 rfl
          subst k5
          clear HT hr
          obtain ⟨bO, gO, cO, e16, hO, rowO, leO⟩ := HF10.out
          subst e16
          obtain ⟨w8, hw8⟩ : ∃ x, x = w' := ⟨_, rfl⟩
          subst hw8
          have hB68 : Below w6.heap.size w6 w8 := HBA.out.trans (HFB.out.mono HBA.out.size)
          have hltA := heapE_lt HBXA.out
          have hn1 : 1 ≤ n' := by have := (ck_len HCK.out).1; rw [HN.out] at this; exact this
          have hqT : ∃ q : Nat, at_ % (n' : Int) = (q : Int) ∧ q < n' := ⟨(at_ % (n' : Int)).toNat, by
            have := Int.emod_nonneg at_ (show (n' : Int) ≠ 0 by omega); omega, by
            have := Int.emod_lt_of_pos at_ (show (0 : Int) < (n' : Int) by omega)
            have := Int.emod_nonneg at_ (show (n' : Int) ≠ 0 by omega)
            omega⟩
          obtain ⟨q, hqe, hql⟩ := hqT
          have HQE := Lib.hid (And.intro hqe hql)
          have hBle : B ≤ w6.heap.size := by rw [← HBB.out]; exact HW6.out.size
          have HLO : Hid (PinL w6 w8 w6.heap.size bA bO Am nm cm (allP l T ps 0) (oneP l T ps q 0) gA cA gO cO) := Lib.hid (by
            have ea : allP l T ps 0 = ps := by simp [allP]
            have eo : oneP l T ps q 0 = ps := by simp [oneP]
            have hgA : w6.heap.size ≤ gA := HRWA.out.ge gA rfl
            have hgA2 : gA < w7.heap.size := HRWA.out.lt gA rfl
            have hgO : w7.heap.size ≤ gO := rowO.ge gO rfl
            have h67 := HBA.out.size
            rw [ea, eo]
            have hV : ∀ b, Vol gA gO bA bO b → B ≤ b := by
              intro b hb
              have := HLEA.out
              unfold Vol at hb
              omega
            refine ⟨hB68, ?_, ?_, ?_, ?_, by omega, by omega, HLEA.out, by omega⟩
            · rw [hnpl]; exact (HFB.out.block bA hltA).trans HBXA.out
            · rw [hnpl]; exact hO
            · rw [hnpl]; exact (HRWA.out.kept pn_turns HFB.out).frm pn_turns (FrM.refl w8 (fun _ => False)) (fun _ _ h => h) (fun _ h => h.elim) (fun b hb => .inl (hV b hb))
            · rw [hnpl]; exact (rowO.frm pn_turns (FrM.refl w8 (fun _ => False)) (fun _ _ h => h) (fun _ h => h.elim) (fun b hb => .inl (hV b hb))).less h67)
          clear hqe hql hn1 hO rowO leO HF10 HFB hqbX HQX hBX HPX hB68 hltA HRWA HBXA HLEA HBA
          go_wp2_with fail
          go_loopw [17, 18, 19, 97] (fun _ _ _ v wr => ∃ k gA cA gO cO : Nat, k ≤ n' ∧ v = .int .i64 (k : Int) ∧ Hid (PinL w6 wr w6.heap.size bA bO Am nm cm (allP l T ps k) (oneP l T ps q k) gA cA gO cO)) (fun _ _ _ v _ => n' - (intOf v).toNat)
          case atStart => exact ⟨0, gA, cA, gO, cO, Nat.zero_le _, rfl, HLO⟩
          case round =>
            obtain ⟨wo, hwo⟩ : ∃ x, x = wr := ⟨_, rfl⟩
            subst hwo
            obtain ⟨k, gA, cA, gO, cO, hk, rfl, HL⟩ := hrel
            have HBo : Hid (Below w6.heap.size w6 wo) := Lib.hid HL.out.bel
            have HWo : Hid (Below w.heap.size w wo) := Lib.hid (HW6.out.trans (HBo.out.mono HW6.out.size))
            have HBo3 : Hid (Below W3.heap.size W3 wo) := Lib.hid (HB6.out.trans (HBo.out.mono HB6.out.size))
            have HOWo := Lib.hid (HOW.out.kept HBo.out)
            by_cases hkn : k < n'
            · have hd : decide ((k : Int) < (n' : Int)) = true := by simp; omega
              have hki : (k : Int) < (n' : Int) := by omega
              have hk0 : (0 : Int) ≤ (k : Int) := by omega
              have hadd : IntKind.i64.wrap ((k : Int) + 1) = ((k + 1 : Nat) : Int) := by rw [IntWalk.i64_in _ (by omega)]; omega
              have hset := (tgtB_iff.1 HT.out).1
              have hTk := setB_at hset (i := k) (by rw [HN.out]; exact hkn)
              obtain ⟨a, ha⟩ : ∃ a : Nat, ix T k = (a : Int) := ⟨(ix T k).toNat, by omega⟩
              have HAo := Lib.hid (HP.out.below HBo3.out)
              obtain ⟨bv, ov, hAv, hbv, kv⟩ := (Rd.of_own HOWo.out).at_ hkn
              subst hAv
              rw [ha] at kv
              obtain ⟨b1, o1, Aj, nj, cj, hAA, hb1, _, k1, _, hrj⟩ := sv_at HAo.out.rd (i := k) hkn
              subst hAA
              have haj : a < nj := by have := hrj.1; omega
              have hai : (a : Int) < (nj : Int) := by omega
              have ha0 : (0 : Int) ≤ (a : Int) := by omega
              obtain ⟨b2, o2, A3, n3, c3, hA3, hb2, q0, q1, q2, q3, _, _, _, _⟩ := rl_at hrj haj
              subst hA3
              obtain ⟨vr, HVR⟩ : ∃ vr, Hid ((rlAt (svAt l k).2 a).1 = vr) := ⟨_, Lib.hid rfl⟩
              rw [HVR.out] at q0 q1 q2 q3
              have HPX : Hid (pinx l T k = ((k : Int), [[cvOf vr]])) := Lib.hid (by unfold pinx; rw [ha, Int.toNat_natCast, HVR.out])
              obtain ⟨x0, _⟩ := row1f ((HBo3.out.block w.heap.size (heapE_lt K3.out)).trans K3.out)
              obtain ⟨W1, HW1⟩ : ∃ W1, Hid (W1 = ((wo.alloc (.cells (c5 (cvOf vr)).toArray 50)).alloc (.cells #[.slice (some ⟨wo.heap.size, 0, none⟩) 1 1] 48)).alloc (.cells #[.int .i64 (k : Int), .slice (some ⟨wo.heap.size + 1, 0, none⟩) 1 1] 71)) := ⟨_, Lib.hid rfl⟩
              obtain ⟨p0, p1, p2, hbW1, hzW1⟩ := alloc3b wo (.cells (c5 (cvOf vr)).toArray 50) (.cells #[.slice (some ⟨wo.heap.size, 0, none⟩) 1 1] 48) (.cells #[.int .i64 (k : Int), .slice (some ⟨wo.heap.size + 1, 0, none⟩) 1 1] 71)
              rw [← HW1.out] at p0 p1 p2 hbW1 hzW1
              have HL1 := Lib.hid (HL.out.below hbW1 HBo.out.size)
              have HVO : Hid (∀ b, Vol gA gO bA bO b → b < wo.heap.size) := Lib.hid (fun b hb => by
                have h1 := HL.out.rA.lt gA rfl
                have h2 := HL.out.rO.lt gO rfl
                have h3 := heapE_lt HL.out.bxA
                have h4 := heapE_lt HL.out.bxO
                unfold Vol at hb; omega)
              have HRG : Hid (rgI W1 (Vol gA gO bA bO) [.slice (some ⟨wo.heap.size + 1, 0, none⟩) 1 1] [[cvOf vr]]) := Lib.hid (rg_blocks p0 p1 (fun h => by have := HVO.out _ h; omega) (fun h => by have := HVO.out _ h; omega))
              have HPC := Lib.hid p2
              have HZ1' := Lib.hid hzW1
              have HBW1 := Lib.hid hbW1
              clear p0 p1 p2 hbW1 hzW1 hrj hset hTk
              go_upto_region 16 with fail
              change Code.wp _ _ _ _ (((wo.alloc (.cells (c5 (cvOf vr)).toArray 50)).alloc (.cells #[.slice (some ⟨wo.heap.size, 0, none⟩) 1 1] 48)).alloc (.cells #[.int .i64 (k : Int), .slice (some ⟨wo.heap.size + 1, 0, none⟩) 1 1] 71))
              rw [← HW1.out]
              clear x0 kv k1 q0 q1 q2 q3
              have hltp := heapE_lt HPC.out
              obtain ⟨y0, y1, f0, f1⟩ := row2 HL1.out.bxA
              obtain ⟨z0, z1', _⟩ := row2 HPC.out
              have HL2 : Hid (PinL w6 (W1.alloc (.cells #[.int .i64 (k : Int), .slice (some ⟨wo.heap.size + 1, 0, none⟩) 1 1] 71)) w6.heap.size bA bO Am nm cm (allP l T ps k) (oneP l T ps q k) gA cA gO cO) := Lib.hid (HL1.out.below ((Below.refl _ W1).alloc (Nat.le_refl _) _) HL1.out.bel.size)
              have HRG2 : Hid (rgI (W1.alloc (.cells #[.int .i64 (k : Int), .slice (some ⟨wo.heap.size + 1, 0, none⟩) 1 1] 71)) (Vol gA gO bA bO) [.slice (some ⟨wo.heap.size + 1, 0, none⟩) 1 1] [[cvOf vr]]) := Lib.hid (rg_turns.kept HRG.out ((Below.refl _ W1).alloc (Nat.le_refl _) _))
              have hall : (allP l T ps k).length ≤ 1000000000 := by rw [allP_len, HNPL.out]; omega
              go_upto_region 17 with (at_builtin; refine wplM_app pn_turns Try.underlying53 infoPinS rfl (by decide) (by decide) rfl (.tmp 119) (.tmp 121) rfl w6.heap.size (Vol gA gO bA bO) (.slice (some ⟨gA, 0, none⟩) (allP l T ps k).length cA) (allP l T ps k) rfl HL2.out.rA (fun g hg => by injection hg with hg; exact .inl hg.symm) W1.heap.size [.int .i64 (k : Int), .slice (some ⟨wo.heap.size + 1, 0, none⟩) 1 1] (pinx l T k) rfl rfl (cells_of (heap_new W1 _)) (by intro u hu; simp at hu; rcases hu with rfl | rfl <;> rfl) (by rw [HPX.out]; exact ⟨[.int .i64 (k : Int)], [.slice (some ⟨wo.heap.size + 1, 0, none⟩) 1 1], rfl, rfl, HRG2.out⟩) hall HL2.out.bel.size ?_; intro g c3' w3 hrow hgr hat; (have HL3 : Hid (PinL w6 (w3.setCell ⟨bA, 0, none⟩ (.slice (some ⟨g, 0, none⟩) ((allP l T ps k).length + 1) c3')) w6.heap.size bA bO Am nm cm (allP l T ps k ++ [pinx l T k]) (oneP l T ps q k) g c3' gO cO) := Lib.hid (HL2.out.grow hrow hgr hat HL2.out.bel.size)); (have HRG3 : Hid (rgI w3 (Vol g gO bA bO) [.slice (some ⟨wo.heap.size + 1, 0, none⟩) 1 1] [[cvOf vr]]) := Lib.hid (vol_turn HRG2.out hgr hat)); (have hne2 := HL2.out.rA.far HL2.out.bxA (by decide) gA rfl); (have hb3 := (hgr.block bA (heapE_lt HL2.out.bxA) (fun e => by injection e with e; exact hne2 e.symm)).trans HL2.out.bxA); clear y0 y1 f0 f1; (obtain ⟨y0, y1, f0, f1⟩ := row2 hb3); (have hz3 : W1.heap.size ≤ w3.heap.size := by have h7 := hgr.size; rw [World.size_alloc] at h7; omega); (have HP3 : Hid (w3.heap[wo.heap.size + 1 + 1]? = some (.cells #[.int .i64 (k : Int), .slice (some ⟨wo.heap.size + 1, 0, none⟩) 1 1] 71 (0, 0))) := Lib.hid ((hgr.block (wo.heap.size + 1 + 1) (by rw [World.size_alloc]; omega) (fun e => by have h8 : some (wo.heap.size + 1 + 1) = some gA := e; injection h8 with h8; have h9 := HVO.out gA (.inl rfl); omega)).trans ((Below.heap_alloc _ _ _ hltp).trans HPC.out))))
              have hgs3 := grown_set w3 bA 0 (.slice (some ⟨g, 0, none⟩) ((allP l T ps k).length + 1) c3')
              obtain ⟨W4, HW4⟩ : ∃ W4, Hid (W4 = w3.setCell ⟨bA, 0, none⟩ (.slice (some ⟨g, 0, none⟩) ((allP l T ps k).length + 1) c3')) := ⟨_, Lib.hid rfl⟩
              change Code.wp _ _ _ _ (w3.setCell ⟨bA, 0, none⟩ (.slice (some ⟨g, 0, none⟩) ((allP l T ps k).length + 1) c3'))
              rw [← HW4.out] at HL3 hgs3 ⊢
              rw [← allP_succ] at HL3
              have HP4 : Hid (W4.heap[wo.heap.size + 1 + 1]? = some (.cells #[.int .i64 (k : Int), .slice (some ⟨wo.heap.size + 1, 0, none⟩) 1 1] 71 (0, 0))) := Lib.hid ((hgs3.block (wo.heap.size + 1 + 1) (heapE_lt HP3.out) (fun e => by have h8 : some (wo.heap.size + 1 + 1) = some bA := e; injection h8 with h8; have h9 := HVO.out bA (.inr (.inr (.inl rfl))); omega)).trans HP3.out)
              clear y0 y1 f0 f1 z0 z1' hgs3 hb3 hne2 HL2 hrow hgr hat
              by_cases hqk : q = k
              rotate_left
              · have hce : ((k : Int) == at_ % (n' : Int)) = false := by rw [HQE.out.1]; simp; omega
                go_wp2_with fail
                go_roundw
                case rel => exact ⟨k + 1, g, c3', gO, cO, by omega, by go_num, Lib.hid (by rw [oneP_no l T ps hqk]; exact HL3.out)⟩
                case measure => simp [intOf]; omega
              subst hqk
              have hce : ((q : Int) == at_ % (n' : Int)) = true := by rw [HQE.out.1]; simp
              have HRG4 : Hid (rgI W4 (Vol gO g bO bA) [.slice (some ⟨wo.heap.size + 1, 0, none⟩) 1 1] [[cvOf vr]]) := Lib.hid (by rw [HW4.out]; exact vol_set HRG3.out _)
              have HL4 : Hid (PinL w6 (W4.alloc (.cells #[.int .i64 (q : Int), .slice (some ⟨wo.heap.size + 1, 0, none⟩) 1 1] 71)) w6.heap.size bO bA Am nm cm (oneP l T ps q q) (allP l T ps (q + 1)) gO cO g c3') := Lib.hid (HL3.out.swap.below ((Below.refl _ W4).alloc (Nat.le_refl _) _) HL3.out.bel.size)
              have HRG5 : Hid (rgI (W4.alloc (.cells #[.int .i64 (q : Int), .slice (some ⟨wo.heap.size + 1, 0, none⟩) 1 1] 71)) (Vol gO g bO bA) [.slice (some ⟨wo.heap.size + 1, 0, none⟩) 1 1] [[cvOf vr]]) := Lib.hid (rg_turns.kept HRG4.out ((Below.refl _ W4).alloc (Nat.le_refl _) _))
              have hone : (oneP l T ps q q).length ≤ 1000000000 := by have := oneP_len l T ps q q; have := HNPL.out; omega
              have hltp4 := heapE_lt HP4.out
              obtain ⟨y0, y1, f0, f1⟩ := row2 HL3.out.bxO
              obtain ⟨z0, z1', _⟩ := row2 HP4.out
              go_wp2_with (at_builtin; refine wplM_app pn_turns Try.underlying53 infoPinS rfl (by decide) (by decide) rfl (.tmp 131) (.tmp 133) rfl w6.heap.size (Vol gO g bO bA) (.slice (some ⟨gO, 0, none⟩) (oneP l T ps q q).length cO) (oneP l T ps q q) rfl HL4.out.rA (fun g hg => by injection hg with hg; exact .inl hg.symm) W4.heap.size [.int .i64 (q : Int), .slice (some ⟨wo.heap.size + 1, 0, none⟩) 1 1] (pinx l T q) rfl rfl (cells_of (heap_new W4 _)) (by intro u hu; simp at hu; rcases hu with rfl | rfl <;> rfl) (by rw [HPX.out]; exact ⟨[.int .i64 (q : Int)], [.slice (some ⟨wo.heap.size + 1, 0, none⟩) 1 1], rfl, rfl, HRG5.out⟩) hone HL4.out.bel.size ?_; intro g5 c5' w5' hrow hgr hat; (have HL5 : Hid (PinL w6 (w5'.setCell ⟨bO, 0, none⟩ (.slice (some ⟨g5, 0, none⟩) ((oneP l T ps q q).length + 1) c5')) w6.heap.size bO bA Am nm cm (oneP l T ps q q ++ [pinx l T q]) (allP l T ps (q + 1)) g5 c5' g c3') := Lib.hid (HL4.out.grow hrow hgr hat HL4.out.bel.size)); (have hne2 := HL4.out.rA.far HL4.out.bxA (by decide) gO rfl); (have hb3 := (hgr.block bO (heapE_lt HL4.out.bxA) (fun e => by injection e with e; exact hne2 e.symm)).trans HL4.out.bxA); clear y0 y1 f0 f1; (obtain ⟨y0, y1, f0, f1⟩ := row2 hb3))
              rw [← oneP_yes] at HL5
              go_roundw
              case rel => exact ⟨q + 1, g, c3', g5, c5', by omega, by go_num, Lib.hid HL5.out.swap⟩
              case measure => simp [intOf]; omega
            · have hd : decide ((k : Int) < (n' : Int)) = false := by simp; omega
              have hkn2 : k = n' := by omega
              rw [hkn2] at HL
              have hs0 : solR l vs ps ms 1048576 = (T, 0) := by
                rw [HSR.out.2]
                exact Prod.ext HTT.out HSR.out.1
              have hqn : q < n' := HQE.out.2
              have hlen1 : (oneP l T ps q n').length ≤ 24 := by have := oneP_len l T ps q n'; have := HNPL.out; omega
              have hn12 : n' ≤ 12 := by have := (ck_len HCK.out).2; rw [HN.out] at this; exact this
              have hlen2 : (allP l T ps n').length ≤ 24 := by rw [allP_len, HNPL.out]; omega
              have hset := (tgtB_iff.1 HT.out).1
              have hmemP : ∀ i, i < l.length → SmR (pinx l T i).2 := fun i hi => sm_cv HP.out.sm hi (by have := setB_at hset hi; omega)
              have hmem1 : ∀ p ∈ oneP l T ps q n', SmR p.2 := fun p hp => by
                unfold oneP at hp
                rw [if_pos hqn] at hp
                rcases List.mem_append.1 hp with h | h
                · exact HRP.out.sm p h
                · obtain rfl : p = pinx l T q := by simpa using h
                  exact hmemP q (by rw [HN.out]; exact hqn)
              have hmem2 : ∀ p ∈ allP l T ps n', SmR p.2 := fun p hp => by
                unfold allP at hp
                rcases List.mem_append.1 hp with h | h
                · exact HRP.out.sm p h
                · obtain ⟨i, hi, rfl⟩ := List.mem_map.1 h
                  exact hmemP i (by rw [HN.out]; exact List.mem_range.1 hi)
              have hs1 : solR l vs (oneP l T ps q n') ms 1048576 = (T, 0) := by
                have h := solR_pins (l := l) (now := vs) (ps := ps) (ms := ms) (b := 1048576) (qs := [pinx l T q]) HCK.out (by rw [hs0]) (fun p hp => ⟨q, by rw [HN.out]; exact hqn, by rw [hs0]; simpa using hp⟩) (by have := hlen1; unfold oneP at this; rw [if_pos hqn] at this; exact this)
                rw [hs0] at h
                unfold oneP
                rw [if_pos hqn]; exact h
              have hs2 : solR l vs (allP l T ps n') ms 1048576 = (T, 0) := by
                have h := solR_pins (l := l) (now := vs) (ps := ps) (ms := ms) (b := 1048576) (qs := (List.range n').map (pinx l T)) HCK.out (by rw [hs0]) (fun p hp => by
                  obtain ⟨i, hi, rfl⟩ := List.mem_map.1 hp
                  exact ⟨i, by rw [HN.out]; exact List.mem_range.1 hi, by rw [hs0]⟩) hlen2
                rw [hs0] at h
                exact h
              have HM2 := Lib.hid hmem2
              have HLN2 := Lib.hid hlen2
              have HS2 := Lib.hid hs2
              have HRo : Hid (ReqAt wo wo.heap.size (some ⟨gO, 0, none⟩) (oneP l T ps q n').length Am nm (oneP l T ps q n') ms) := Lib.hid ⟨HL.out.rO.rd pn_turns (fun b hb => .inr hb) (fun g hg => by have := HL.out.rO.lt g hg; show ¬ wo.heap.size ≤ g; omega), (Rd.below HMR.out HWo.out).more HWo.out.size, by omega, HRP.out.nm, hmem1, Nat.le_refl _⟩
              have HSA := Lib.hid (solve_any (c2 := c2) (cp := cO) (cm := cm) (b := 1048576) (HP.out.below HBo3.out) HCK.out (HV3.out.below (HBo3.out.mono HB3.out.size)) HWo.out.size HRo.out)
              rw [hs1] at HSA
              clear hs1 hs2 hs0 hmem1 hmem2 hlen1 hlen2 hmemP hset
              obtain ⟨x0, _⟩ := row1f ((HBo3.out.block w.heap.size (heapE_lt K3.out)).trans K3.out)
              obtain ⟨u0, u1, _⟩ := row2 HL.out.bxO
              go_wp2_with fail
              refine HSA.out.mono ?_
              rintro e w9 ⟨hb, ho⟩
              have HL9 := Lib.hid (HL.out.below hb HBo.out.size)
              have HB9 : Hid (Below W3.heap.size W3 w9) := Lib.hid (HBo3.out.trans (hb.mono HBo3.out.size))
              have HW9 : Hid (Below w.heap.size w w9) := Lib.hid (HWo.out.trans (hb.mono HWo.out.size))
              have HOW9 := Lib.hid (HOWo.out.kept hb)
              clear hb x0 u0 u1 HSA
              rw [HN.out] at ho
              rcases ho with ⟨_, _, v9, rfl, hown⟩ | ⟨hne, _⟩
              rotate_left
              · exact absurd rfl hne
              obtain ⟨A9, c9, rfl, _⟩ := hown.shape
              have HO9 := Lib.hid hown
              clear hown
              have HR9 : Hid (ReqAt w9 w9.heap.size (some ⟨gA, 0, none⟩) (allP l T ps n').length Am nm (allP l T ps n') ms) := Lib.hid ⟨HL9.out.rA.rd pn_turns (fun b hb => .inr hb) (fun g hg => by have := HL9.out.rA.lt g hg; show ¬ w9.heap.size ≤ g; omega), (Rd.below HMR.out HW9.out).more HW9.out.size, by have := HLN2.out; omega, HRP.out.nm, HM2.out, Nat.le_refl _⟩
              have HSB := Lib.hid (solve_any (c2 := c2) (cp := cA) (cm := cm) (b := 1048576) (HP.out.below HB9.out) HCK.out (HV3.out.below (HB9.out.mono HB3.out.size)) HW9.out.size HR9.out)
              rw [HS2.out] at HSB
              obtain ⟨x0, _⟩ := row1f ((HB9.out.block w.heap.size (heapE_lt K3.out)).trans K3.out)
              obtain ⟨u0, u1, _⟩ := row2 HL9.out.bxA
              go_wp2_with fail
              refine HSB.out.mono ?_
              rintro e w10 ⟨hb, ho⟩
              have HW10 : Hid (Below w.heap.size w w10) := Lib.hid (HW9.out.trans (hb.mono HW9.out.size))
              have HOW10 := Lib.hid (HOW9.out.kept hb)
              have HO10 := Lib.hid (HO9.out.kept hb)
              clear hb x0 u0 u1 HSB
              rw [HN.out] at ho
              rcases ho with ⟨_, _, v10, rfl, hown⟩ | ⟨hne, _⟩
              rotate_left
              · exact absurd rfl hne
              obtain ⟨A10, c10, rfl, _⟩ := hown.shape
              have HI10 := Lib.hid hown
              clear hown
              have HIN := Lib.hid (ints_same (c := c9) (d := ct) (Rd.of_own HO10.out) (Rd.of_own HOW10.out) (by omega) (by omega))
              go_wp2_with fail
              refine HIN.out.mono ?_
              rintro e w11 ⟨rfl, hb⟩
              have HW11 : Hid (Below w.heap.size w w11) := Lib.hid (HW10.out.trans (hb.mono HW10.out.size))
              have HIN2 := Lib.hid (ints_same (c := c10) (d := ct) (Rd.of_own (HI10.out.kept hb)) (Rd.of_own (HOW10.out.kept hb)) (by omega) (by omega))
              clear hb HIN
              go_wp2_with fail
              refine HIN2.out.mono ?_
              rintro e w12 ⟨rfl, hb⟩
              go_wp2_with fail
              exact bodyPost_ret (results_tmp rfl _ _ _) rfl ⟨rfl, HW11.out.trans (hb.mono HW11.out.size)⟩
end Go.Proofs.Yteiknbkigbdfgaa
