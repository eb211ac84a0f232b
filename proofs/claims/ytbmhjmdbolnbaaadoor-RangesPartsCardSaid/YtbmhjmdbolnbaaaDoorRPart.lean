/-
  THE LAW RangesParts (printed by genlawrp.py).
-/
import Derived.Test.YtbmhjmdbolnbaaaDoorRLawT
namespace Go.Proofs.YtbmhjmdbolnbaaaDoor
open Go.RowKit
open SemP
set_option linter.unusedVariables false
set_option linter.unusedSimpArgs false
set_option maxRecDepth 100000
attribute [local go_sem ↓] eqVer

section
variable {P : Program} {ops : Array Oper} {Q : Exit → Act → World → Prop}
theorem wpOp_want {i : Nat} {o : Oper} {a : Act} {w : World} {K0 : Act → World → Prop} (ho : ops[i]? = some o) (j : Nat) (b : Bool) (hg : o.guard = some (j, b)) (hy : yielded ops a.tmps j = some b)
    (h : ∀ K : Act → World → Prop, Hid (∀ a' w', K0 a' w' → K a' w') → o.wp P a w K Q) : wpOp P ops Q i K0 a w := by
  unfold wpOp
  rw [ho]
  have hw : Region.wanted o (yielded ops a.tmps) = true := by unfold Region.wanted; rw [hg]; simp [hy]
  simp only [hw, if_true]
  exact .inl (h K0 (Lib.hid fun _ _ h => h))
theorem wpOp_skip {i : Nat} {o : Oper} {a : Act} {w : World} {K0 : Act → World → Prop} (ho : ops[i]? = some o) (j : Nat) (b : Bool) (hg : o.guard = some (j, b)) (hy : yielded ops a.tmps j = some (!b))
    (h : K0 (a.put o.dst undef) w) : wpOp P ops Q i K0 a w := by
  unfold wpOp
  rw [ho]
  have hw : Region.wanted o (yielded ops a.tmps) = false := by unfold Region.wanted; rw [hg]; cases b <;> simp [hy]
  simp only [hw]
  exact h
end
theorem right_zero : CV.right ⟨0, 0, 0, 0, ⟨#[]⟩⟩ = true := by
  unfold CV.right; rw [if_pos rfl]; exact verEq_true _ _ _ _
structure PfSt (w0 : World) (ma1 mi1 pa1 : Int) (s1 : ByteArray) (ma2 mi2 pa2 : Int) (s2 : ByteArray) (qL qS qM : Bool) (b0 b1 b2 b3 b4 b5 b6 b7 b8 b9 b10 b11 b12 b13 b14 : Bool) (v5 v6 v7 v33 v34 v35 v36 v37 v38 v39 v40 v41 v42 v43 v44 : Value) (w' : World) : Prop where
  bel : Below w0.heap.size w0 w'
  h0 : b0 = true → v33 = verV ma2 mi2 pa2 s2
  h1 : b1 = true → OfAt w' ⟨2, ma2, mi2, pa2, s2⟩ v34
  h2 : b2 = true → v35 = verV ma1 mi1 pa1 s1
  h3 : b3 = true → v36 = .bool qL
  h4 : b4 = true → v37 = verV ma2 mi2 pa2 s2
  h5 : b5 = true → OfAt w' ⟨1, ma2, mi2, pa2, s2⟩ v38
  h6 : b6 = true → v39 = verV ma1 mi1 pa1 s1
  h7 : b7 = true → v40 = .bool qS
  h8 : b8 = true → v41 = verV ma2 mi2 pa2 s2
  h9 : b9 = true → OfAt w' ⟨4, ma2, mi2, pa2, s2⟩ v42
  h10 : b10 = true → v43 = verV ma1 mi1 pa1 s1
  h11 : b11 = true → v44 = .bool qM
  h12 : b12 = true → v5 = .bool qL
  h13 : b13 = true → v6 = .bool qS
  h14 : b14 = true → v7 = .bool qM
def PfJ (w0 : World) (ma1 mi1 pa1 : Int) (s1 : ByteArray) (ma2 mi2 pa2 : Int) (s2 : ByteArray) (qL qS qM : Bool) (p0 p1 p2 p3 p4 p8 p9 p10 p11 p12 p13 p14 p15 p16 p17 p18 p19 p20 p21 p22 p23 p24 p25 p26 p27 p28 p29 p30 p31 p32 p45 p46 p47 p48 p49 p50 p51 p52 p53 p54 p55 p56 p57 p58 p59 p60 p61 p62 p63 p64 p65 p66 p67 p68 p69 p70 p71 p72 p73 p74 p75 p76 p77 p78 p79 p80 p81 p82 p83 p84 p85 p86 p87 p88 p89 p90 p91 p92 p93 p94 : Value) (l : Array Bool) (a' : Act) (w' : World) : Prop :=
  ∃ (b0 b1 b2 b3 b4 b5 b6 b7 b8 b9 b10 b11 b12 b13 b14 : Bool) (v5 v6 v7 v33 v34 v35 v36 v37 v38 v39 v40 v41 v42 v43 v44 : Value), l = #[b0, b1, b2, b3, b4, b5, b6, b7, b8, b9, b10, b11, b12, b13, b14] ∧ a' = { tmps := List.toArray (p0 :: p1 :: p2 :: p3 :: p4 :: v5 :: v6 :: v7 :: p8 :: p9 :: p10 :: p11 :: p12 :: p13 :: p14 :: p15 :: p16 :: p17 :: p18 :: p19 :: p20 :: p21 :: p22 :: p23 :: p24 :: p25 :: p26 :: p27 :: p28 :: p29 :: p30 :: p31 :: p32 :: v33 :: v34 :: v35 :: v36 :: v37 :: v38 :: v39 :: v40 :: v41 :: v42 :: v43 :: v44 :: p45 :: p46 :: p47 :: p48 :: p49 :: p50 :: p51 :: p52 :: p53 :: p54 :: p55 :: p56 :: p57 :: p58 :: p59 :: p60 :: p61 :: p62 :: p63 :: p64 :: p65 :: p66 :: p67 :: p68 :: p69 :: p70 :: p71 :: p72 :: p73 :: p74 :: p75 :: p76 :: p77 :: p78 :: p79 :: p80 :: p81 :: p82 :: p83 :: p84 :: p85 :: p86 :: p87 :: p88 :: p89 :: p90 :: p91 :: p92 :: p93 :: p94 :: []), defers := [] } ∧ PfSt w0 ma1 mi1 pa1 s1 ma2 mi2 pa2 s2 qL qS qM b0 b1 b2 b3 b4 b5 b6 b7 b8 b9 b10 b11 b12 b13 b14 v5 v6 v7 v33 v34 v35 v36 v37 v38 v39 v40 v41 v42 v43 v44 w'
theorem upto38 {P : Nat → Prop} (h0 : P 0) (h1 : P 1) (h2 : P 2) (h3 : P 3) (h4 : P 4) (h5 : P 5) (h6 : P 6) (h7 : P 7) (h8 : P 8) (h9 : P 9) (h10 : P 10) (h11 : P 11) (h12 : P 12) (h13 : P 13) (h14 : P 14) (h15 : P 15) (h16 : P 16) (h17 : P 17) (h18 : P 18) (h19 : P 19) (h20 : P 20) (h21 : P 21) (h22 : P 22) (h23 : P 23) (h24 : P 24) (h25 : P 25) (h26 : P 26) (h27 : P 27) (h28 : P 28) (h29 : P 29) (h30 : P 30) (h31 : P 31) (h32 : P 32) (h33 : P 33) (h34 : P 34) (h35 : P 35) (h36 : P 36) (h37 : P 37) : ∀ i, i < 38 → P i := by
  intro i hi
  match i, hi with
  | 0, _ => exact h0
  | 1, _ => exact h1
  | 2, _ => exact h2
  | 3, _ => exact h3
  | 4, _ => exact h4
  | 5, _ => exact h5
  | 6, _ => exact h6
  | 7, _ => exact h7
  | 8, _ => exact h8
  | 9, _ => exact h9
  | 10, _ => exact h10
  | 11, _ => exact h11
  | 12, _ => exact h12
  | 13, _ => exact h13
  | 14, _ => exact h14
  | 15, _ => exact h15
  | 16, _ => exact h16
  | 17, _ => exact h17
  | 18, _ => exact h18
  | 19, _ => exact h19
  | 20, _ => exact h20
  | 21, _ => exact h21
  | 22, _ => exact h22
  | 23, _ => exact h23
  | 24, _ => exact h24
  | 25, _ => exact h25
  | 26, _ => exact h26
  | 27, _ => exact h27
  | 28, _ => exact h28
  | 29, _ => exact h29
  | 30, _ => exact h30
  | 31, _ => exact h31
  | 32, _ => exact h32
  | 33, _ => exact h33
  | 34, _ => exact h34
  | 35, _ => exact h35
  | 36, _ => exact h36
  | 37, _ => exact h37
  | k + 38, hi => exact absurd hi (by omega)
end Go.Proofs.YtbmhjmdbolnbaaaDoor
