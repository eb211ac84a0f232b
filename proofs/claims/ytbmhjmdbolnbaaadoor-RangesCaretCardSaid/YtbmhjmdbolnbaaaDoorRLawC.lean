/-
  THE LAW RangesCaret (printed by genlawrc.py).
-/
import Derived.Test.YtbmhjmdbolnbaaaDoorROfAt
import Derived.Test.YtbmhjmdbolnbaaaDoorRCarP
import Derived.Test.YtbmhjmdbolnbaaaDoorRLong
namespace Go.Proofs.YtbmhjmdbolnbaaaDoor
open Go.RowKit
open SemP
set_option linter.unusedVariables false
set_option linter.unusedSimpArgs false
set_option maxRecDepth 100000
attribute [local go_sem ↓] eqVer
theorem right_maj {a b c : Int} {p : Str} (h : Ver.right ⟨a, b, c, p⟩ = true) (h9 : a < 999999) : Ver.right ⟨a + 1, 0, 0, []⟩ = true := by
  have hn := right_nums h
  rw [right3, rightN_of (by omega), rightN_of (by omega)]; rfl
theorem right_min {a b c : Int} {p : Str} (h : Ver.right ⟨a, b, c, p⟩ = true) (h9 : b < 999999) : Ver.right ⟨a, b + 1, 0, []⟩ = true := by
  have hn := right_nums h
  rw [right3, rightN_of hn.1, rightN_of (by omega), rightN_of (by omega)]; rfl
theorem right_pat {a b c : Int} {p : Str} (h : Ver.right ⟨a, b, c, p⟩ = true) (h9 : c < 999999) : Ver.right ⟨a, b, c + 1, []⟩ = true := by
  have hn := right_nums h
  rw [right3, rightN_of hn.1, rightN_of hn.2.1, rightN_of (by omega)]; rfl
theorem bump0 {a b c : Int} {p : Str} (h : Ver.right ⟨a, b, c, p⟩ = true) : ∃ x y z e : Int, bumpR ⟨a, b, c, p⟩ 0 = .tuple #[verV x y z ⟨#[]⟩, .int .i64 e] ∧ ((e = 0 ∧ a < 999999 ∧ x = a + 1 ∧ y = 0 ∧ z = 0) ∨ e = 11) := by
  rw [bump_maj h]
  by_cases h9 : a < 999999
  · rw [if_pos h9]; exact ⟨_, _, _, _, rfl, .inl ⟨rfl, h9, rfl, rfl, rfl⟩⟩
  · rw [if_neg h9]; exact ⟨_, _, _, _, rfl, .inr rfl⟩
theorem bump1 {a b c : Int} {p : Str} (h : Ver.right ⟨a, b, c, p⟩ = true) : ∃ x y z e : Int, bumpR ⟨a, b, c, p⟩ 1 = .tuple #[verV x y z ⟨#[]⟩, .int .i64 e] ∧ ((e = 0 ∧ b < 999999 ∧ a = x ∧ y = b + 1 ∧ z = 0) ∨ e = 11) := by
  rw [bump_min h]
  by_cases h9 : b < 999999
  · rw [if_pos h9]; exact ⟨_, _, _, _, rfl, .inl ⟨rfl, h9, rfl, rfl, rfl⟩⟩
  · rw [if_neg h9]; exact ⟨_, _, _, _, rfl, .inr rfl⟩
theorem bump2 {a b c : Int} {p : Str} (h : Ver.right ⟨a, b, c, p⟩ = true) : ∃ x y z e : Int, bumpR ⟨a, b, c, p⟩ 2 = .tuple #[verV x y z ⟨#[]⟩, .int .i64 e] ∧ (p = [] → (e = 0 ∧ c < 999999 ∧ a = x ∧ b = y ∧ z = c + 1) ∨ e = 11) := by
  by_cases hp : p = []
  · subst hp
    rw [bump_pat h]
    by_cases h9 : c < 999999
    · rw [if_pos h9]; exact ⟨_, _, _, _, rfl, fun _ => .inl ⟨rfl, h9, rfl, rfl, rfl⟩⟩
    · rw [if_neg h9]; exact ⟨_, _, _, _, rfl, fun _ => .inr rfl⟩
  · obtain ⟨x, y, z, e, h⟩ := bump_ok (a := a) (b := b) (c := c) (p := p) 2
    exact ⟨x, y, z, e, h, fun h => absurd h hp⟩
theorem six (W : World) (o1 o2 ma mi pa : Int) (s : ByteArray) (k : Nat) (hk : k < W.heap.size) : ∃ WA WB : World,
    ((W.alloc (compC o1 ma mi pa s)).alloc (.cells #[.slice (some ⟨W.heap.size, 0, none⟩) 1 1] 69)).alloc (.cells #[.slice (some ⟨W.heap.size + 1, 0, none⟩) 1 1] 48) = WA ∧
    (((((W.alloc (compC o1 ma mi pa s)).alloc (.cells #[.slice (some ⟨W.heap.size, 0, none⟩) 1 1] 69)).alloc (.cells #[.slice (some ⟨W.heap.size + 1, 0, none⟩) 1 1] 48)).alloc (compC o2 ma mi pa s)).alloc (.cells #[.slice (some ⟨W.heap.size + 1 + 1 + 1, 0, none⟩) 1 1] 69)).alloc (.cells #[.slice (some ⟨W.heap.size + 1 + 1 + 1 + 1, 0, none⟩) 1 1] 48) = WB ∧
    Below W.heap.size W WA ∧ Below W.heap.size W WB ∧ WA.heap[k]? = W.heap[k]? ∧ WB.heap[k]? = W.heap[k]? ∧ WB.heap[W.heap.size]? = some (compC o1 ma mi pa s) ∧ WB.cell? ⟨W.heap.size + 1, 0, none⟩ = some (.slice (some ⟨W.heap.size, 0, none⟩) 1 1) ∧
    WB.heap[W.heap.size + 1 + 1 + 1]? = some (compC o2 ma mi pa s) ∧ WB.cell? ⟨W.heap.size + 1 + 1 + 1 + 1, 0, none⟩ = some (.slice (some ⟨W.heap.size + 1 + 1 + 1, 0, none⟩) 1 1) ∧
    (W.heap.size + 1 + 1 < WB.heap.size ∧ WB.heap[W.heap.size + 1 + 1]? = some (.cells #[.slice (some ⟨W.heap.size + 1, 0, none⟩) 1 1] 48)) ∧
    (W.heap.size + 1 + 1 + 1 + 1 + 1 < WB.heap.size ∧ WB.heap[W.heap.size + 1 + 1 + 1 + 1 + 1]? = some (.cells #[.slice (some ⟨W.heap.size + 1 + 1 + 1 + 1, 0, none⟩) 1 1] 48)) := by
  have L : ∀ (W : World) (o : Obj) (j : Nat), j < W.heap.size → (W.alloc o).heap[j]? = W.heap[j]? := fun W o j h => Below.heap_alloc _ _ _ h
  have Nw : ∀ (W : World) (o : Obj) (z : Nat), W.heap.size = z → (W.alloc o).heap[z]? = some o := fun W o z h => by rw [← h]; exact World.alloc_heap_new W o
  refine ⟨_, _, rfl, rfl, ?_, ?_, ?_, ?_, ?_, ?_, ?_, ?_, ⟨?_, ?_⟩, ⟨?_, ?_⟩⟩
  · exact (((Below.refl _ W).alloc (Nat.le_refl _) _).alloc (by simp) _).alloc (by first | (simp; done) | (simp; omega)) _
  · exact ((((((Below.refl _ W).alloc (Nat.le_refl _) _).alloc (by simp) _).alloc (by first | (simp; done) | (simp; omega)) _).alloc (by first | (simp; done) | (simp; omega)) _).alloc (by first | (simp; done) | (simp; omega)) _).alloc (by first | (simp; done) | (simp; omega)) _
  · rw [L _ _ _ (by first | (simp; done) | (simp; omega)), L _ _ _ (by first | (simp; done) | (simp; omega)), L _ _ _ hk]
  · rw [L _ _ _ (by first | (simp; done) | (simp; omega)), L _ _ _ (by first | (simp; done) | (simp; omega)), L _ _ _ (by first | (simp; done) | (simp; omega)), L _ _ _ (by first | (simp; done) | (simp; omega)), L _ _ _ (by first | (simp; done) | (simp; omega)), L _ _ _ hk]
  · rw [L _ _ _ (by first | (simp; done) | (simp; omega)), L _ _ _ (by first | (simp; done) | (simp; omega)), L _ _ _ (by first | (simp; done) | (simp; omega)), L _ _ _ (by first | (simp; done) | (simp; omega)), L _ _ _ (by simp), Nw _ _ _ rfl]
  · refine cell1 (T := 69) ?_
    rw [L _ _ _ (by first | (simp; done) | (simp; omega)), L _ _ _ (by first | (simp; done) | (simp; omega)), L _ _ _ (by first | (simp; done) | (simp; omega)), L _ _ _ (by simp), Nw _ _ _ (by simp)]
  · rw [L _ _ _ (by first | (simp; done) | (simp; omega)), L _ _ _ (by simp), Nw _ _ _ (by simp)]
  · refine cell1 (T := 69) ?_
    rw [L _ _ _ (by simp), Nw _ _ _ (by simp)]
  · first | (simp; done) | (simp; omega)
  · rw [L _ _ _ (by first | (simp; done) | (simp; omega)), L _ _ _ (by first | (simp; done) | (simp; omega)), L _ _ _ (by simp), Nw _ _ _ (by simp)]
  · simp
  · rw [Nw _ _ _ (by simp)]
structure CaSt (w0 : World) (ma mi pa : Int) (s : ByteArray) (bw : Nat) (vc vt : Value) (b0 b1 b2 b3 b4 b5 b6 b7 b8 b9 b10 b11 b12 b13 b14 b15 b16 b17 b18 : Bool) (v83 v84 v85 v86 v87 v88 v89 v90 v91 v92 v93 v94 v95 v96 v97 v98 v99 v100 v101 : Value) (w' : World) : Prop where
  bel : Below w0.heap.size w0 w'
  h0 : b0 = true → v83 = .int .i64 0
  h1 : b1 = true → v84 = .bool true
  h2 : b2 = true → v85 = .bool true
  h3 : b3 = true → v86 = vt
  h4 : b4 = true → v87 = verV ma (mi + 1) 0 ⟨#[]⟩
  h5 : b5 = true → v88 = .bool false
  h6 : b6 = true → v89 = .bool false
  h7 : b7 = true → v90 = vc
  h8 : b8 = true → v91 = verV ma (mi + 1) 0 ⟨#[]⟩
  h9 : b9 = true → v92 = .bool true
  h10 : b10 = true → v93 = .pointer (some ⟨bw, 0, none⟩)
  h11 : b11 = true → v94 = .int .i64 ma
  h12 : b12 = true → v95 = .bool true
  h13 : b13 = true → v96 = .bool true
  h14 : b14 = true → v97 = undef
  h15 : b15 = true → v98 = .bool true
  h16 : b16 = true → v99 = .bool false
  h17 : b17 = true → v100 = .bool false
  h18 : b18 = true → v101 = .bool false
inductive CaJ (w0 : World) (ma mi pa : Int) (s : ByteArray) (bw : Nat) (vc vt : Value) (p0 p1 p2 p3 p4 p5 p6 p7 p8 p9 p10 p11 p12 p13 p14 p15 p16 p17 p18 p19 p20 p21 p22 p23 p24 p25 p26 p27 p28 p29 p30 p31 p32 p33 p34 p35 p36 p37 p38 p39 p40 p41 p42 p43 p44 p45 p46 p47 p48 p49 p50 p51 p52 p53 p54 p55 p56 p57 p58 p59 p60 p61 p62 p63 p64 p65 p66 p67 p68 p69 p70 p71 p72 p73 p74 p75 p76 p77 p78 p79 p80 p81 p82 p102 p103 p104 p105 p106 p107 p108 p109 p110 p111 p112 p113 p114 p115 p116 p117 p118 p119 p120 p121 p122 p123 p124 p125 p126 p127 p128 p129 p130 p131 p132 p133 : Value) : Array Bool → Act → World → Prop where
  | mk (b0 b1 b2 b3 b4 b5 b6 b7 b8 b9 b10 b11 b12 b13 b14 b15 b16 b17 b18 : Bool) (v83 v84 v85 v86 v87 v88 v89 v90 v91 v92 v93 v94 v95 v96 v97 v98 v99 v100 v101 : Value) (w' : World) : CaSt w0 ma mi pa s bw vc vt b0 b1 b2 b3 b4 b5 b6 b7 b8 b9 b10 b11 b12 b13 b14 b15 b16 b17 b18 v83 v84 v85 v86 v87 v88 v89 v90 v91 v92 v93 v94 v95 v96 v97 v98 v99 v100 v101 w' → CaJ w0 ma mi pa s bw vc vt p0 p1 p2 p3 p4 p5 p6 p7 p8 p9 p10 p11 p12 p13 p14 p15 p16 p17 p18 p19 p20 p21 p22 p23 p24 p25 p26 p27 p28 p29 p30 p31 p32 p33 p34 p35 p36 p37 p38 p39 p40 p41 p42 p43 p44 p45 p46 p47 p48 p49 p50 p51 p52 p53 p54 p55 p56 p57 p58 p59 p60 p61 p62 p63 p64 p65 p66 p67 p68 p69 p70 p71 p72 p73 p74 p75 p76 p77 p78 p79 p80 p81 p82 p102 p103 p104 p105 p106 p107 p108 p109 p110 p111 p112 p113 p114 p115 p116 p117 p118 p119 p120 p121 p122 p123 p124 p125 p126 p127 p128 p129 p130 p131 p132 p133 #[b0, b1, b2, b3, b4, b5, b6, b7, b8, b9, b10, b11, b12, b13, b14, b15, b16, b17, b18] { tmps := List.toArray (p0 :: p1 :: p2 :: p3 :: p4 :: p5 :: p6 :: p7 :: p8 :: p9 :: p10 :: p11 :: p12 :: p13 :: p14 :: p15 :: p16 :: p17 :: p18 :: p19 :: p20 :: p21 :: p22 :: p23 :: p24 :: p25 :: p26 :: p27 :: p28 :: p29 :: p30 :: p31 :: p32 :: p33 :: p34 :: p35 :: p36 :: p37 :: p38 :: p39 :: p40 :: p41 :: p42 :: p43 :: p44 :: p45 :: p46 :: p47 :: p48 :: p49 :: p50 :: p51 :: p52 :: p53 :: p54 :: p55 :: p56 :: p57 :: p58 :: p59 :: p60 :: p61 :: p62 :: p63 :: p64 :: p65 :: p66 :: p67 :: p68 :: p69 :: p70 :: p71 :: p72 :: p73 :: p74 :: p75 :: p76 :: p77 :: p78 :: p79 :: p80 :: p81 :: p82 :: v83 :: v84 :: v85 :: v86 :: v87 :: v88 :: v89 :: v90 :: v91 :: v92 :: v93 :: v94 :: v95 :: v96 :: v97 :: v98 :: v99 :: v100 :: v101 :: p102 :: p103 :: p104 :: p105 :: p106 :: p107 :: p108 :: p109 :: p110 :: p111 :: p112 :: p113 :: p114 :: p115 :: p116 :: p117 :: p118 :: p119 :: p120 :: p121 :: p122 :: p123 :: p124 :: p125 :: p126 :: p127 :: p128 :: p129 :: p130 :: p131 :: p132 :: p133 :: []), defers := [] } w'
structure CbSt (w0 : World) (ma mi pa : Int) (s : ByteArray) (bw : Nat) (vc vt : Value) (b0 b1 b2 b3 b4 b5 b6 b7 b8 b9 b10 b11 b12 b13 b14 b15 b16 b17 b18 : Bool) (v83 v84 v85 v86 v87 v88 v89 v90 v91 v92 v93 v94 v95 v96 v97 v98 v99 v100 v101 : Value) (w' : World) : Prop where
  bel : Below w0.heap.size w0 w'
  h0 : b0 = true → v83 = .int .i64 0
  h1 : b1 = true → v84 = .bool true
  h2 : b2 = true → v85 = .bool true
  h3 : b3 = true → v86 = vt
  h4 : b4 = true → v87 = verV ma (mi + 1) 0 ⟨#[]⟩
  h5 : b5 = true → v88 = .bool false
  h6 : b6 = true → v89 = .bool false
  h7 : b7 = true → v90 = vc
  h8 : b8 = true → v91 = verV ma (mi + 1) 0 ⟨#[]⟩
  h9 : b9 = true → v92 = .bool true
  h10 : b10 = true → v93 = .pointer (some ⟨bw, 0, none⟩)
  h11 : b11 = true → v94 = .int .i64 ma
  h12 : b12 = true → v95 = .bool false
  h13 : b13 = true → v96 = .bool false
  h14 : b14 = true → v97 = .bool true
  h15 : b15 = true → v98 = .bool true
  h16 : b16 = true → v99 = .bool false
  h17 : b17 = true → v100 = .bool false
  h18 : b18 = true → v101 = .bool false
inductive CbJ (w0 : World) (ma mi pa : Int) (s : ByteArray) (bw : Nat) (vc vt : Value) (p0 p1 p2 p3 p4 p5 p6 p7 p8 p9 p10 p11 p12 p13 p14 p15 p16 p17 p18 p19 p20 p21 p22 p23 p24 p25 p26 p27 p28 p29 p30 p31 p32 p33 p34 p35 p36 p37 p38 p39 p40 p41 p42 p43 p44 p45 p46 p47 p48 p49 p50 p51 p52 p53 p54 p55 p56 p57 p58 p59 p60 p61 p62 p63 p64 p65 p66 p67 p68 p69 p70 p71 p72 p73 p74 p75 p76 p77 p78 p79 p80 p81 p82 p102 p103 p104 p105 p106 p107 p108 p109 p110 p111 p112 p113 p114 p115 p116 p117 p118 p119 p120 p121 p122 p123 p124 p125 p126 p127 p128 p129 p130 p131 p132 p133 : Value) : Array Bool → Act → World → Prop where
  | mk (b0 b1 b2 b3 b4 b5 b6 b7 b8 b9 b10 b11 b12 b13 b14 b15 b16 b17 b18 : Bool) (v83 v84 v85 v86 v87 v88 v89 v90 v91 v92 v93 v94 v95 v96 v97 v98 v99 v100 v101 : Value) (w' : World) : CbSt w0 ma mi pa s bw vc vt b0 b1 b2 b3 b4 b5 b6 b7 b8 b9 b10 b11 b12 b13 b14 b15 b16 b17 b18 v83 v84 v85 v86 v87 v88 v89 v90 v91 v92 v93 v94 v95 v96 v97 v98 v99 v100 v101 w' → CbJ w0 ma mi pa s bw vc vt p0 p1 p2 p3 p4 p5 p6 p7 p8 p9 p10 p11 p12 p13 p14 p15 p16 p17 p18 p19 p20 p21 p22 p23 p24 p25 p26 p27 p28 p29 p30 p31 p32 p33 p34 p35 p36 p37 p38 p39 p40 p41 p42 p43 p44 p45 p46 p47 p48 p49 p50 p51 p52 p53 p54 p55 p56 p57 p58 p59 p60 p61 p62 p63 p64 p65 p66 p67 p68 p69 p70 p71 p72 p73 p74 p75 p76 p77 p78 p79 p80 p81 p82 p102 p103 p104 p105 p106 p107 p108 p109 p110 p111 p112 p113 p114 p115 p116 p117 p118 p119 p120 p121 p122 p123 p124 p125 p126 p127 p128 p129 p130 p131 p132 p133 #[b0, b1, b2, b3, b4, b5, b6, b7, b8, b9, b10, b11, b12, b13, b14, b15, b16, b17, b18] { tmps := List.toArray (p0 :: p1 :: p2 :: p3 :: p4 :: p5 :: p6 :: p7 :: p8 :: p9 :: p10 :: p11 :: p12 :: p13 :: p14 :: p15 :: p16 :: p17 :: p18 :: p19 :: p20 :: p21 :: p22 :: p23 :: p24 :: p25 :: p26 :: p27 :: p28 :: p29 :: p30 :: p31 :: p32 :: p33 :: p34 :: p35 :: p36 :: p37 :: p38 :: p39 :: p40 :: p41 :: p42 :: p43 :: p44 :: p45 :: p46 :: p47 :: p48 :: p49 :: p50 :: p51 :: p52 :: p53 :: p54 :: p55 :: p56 :: p57 :: p58 :: p59 :: p60 :: p61 :: p62 :: p63 :: p64 :: p65 :: p66 :: p67 :: p68 :: p69 :: p70 :: p71 :: p72 :: p73 :: p74 :: p75 :: p76 :: p77 :: p78 :: p79 :: p80 :: p81 :: p82 :: v83 :: v84 :: v85 :: v86 :: v87 :: v88 :: v89 :: v90 :: v91 :: v92 :: v93 :: v94 :: v95 :: v96 :: v97 :: v98 :: v99 :: v100 :: v101 :: p102 :: p103 :: p104 :: p105 :: p106 :: p107 :: p108 :: p109 :: p110 :: p111 :: p112 :: p113 :: p114 :: p115 :: p116 :: p117 :: p118 :: p119 :: p120 :: p121 :: p122 :: p123 :: p124 :: p125 :: p126 :: p127 :: p128 :: p129 :: p130 :: p131 :: p132 :: p133 :: []), defers := [] } w'
structure CcSt (w0 : World) (ma mi pa : Int) (s : ByteArray) (bw : Nat) (vc vt : Value) (b0 b1 b2 b3 b4 b5 b6 b7 b8 b9 b10 b11 b12 b13 b14 b15 b16 b17 b18 : Bool) (v83 v84 v85 v86 v87 v88 v89 v90 v91 v92 v93 v94 v95 v96 v97 v98 v99 v100 v101 : Value) (w' : World) : Prop where
  bel : Below w0.heap.size w0 w'
  h0 : b0 = true → v83 = .int .i64 0
  h1 : b1 = true → v84 = .bool true
  h2 : b2 = true → v85 = .bool true
  h3 : b3 = true → v86 = vt
  h4 : b4 = true → v87 = verV ma (mi + 1) 0 ⟨#[]⟩
  h5 : b5 = true → v88 = .bool false
  h6 : b6 = true → v89 = .bool false
  h7 : b7 = true → v90 = vc
  h8 : b8 = true → v91 = verV ma (mi + 1) 0 ⟨#[]⟩
  h9 : b9 = true → v92 = .bool false
  h10 : b10 = true → v93 = .pointer (some ⟨bw, 0, none⟩)
  h11 : b11 = true → v94 = .int .i64 ma
  h12 : b12 = true → v95 = .bool false
  h13 : b13 = true → v96 = .bool false
  h14 : b14 = true → v97 = .bool false
  h15 : b15 = true → v98 = .bool false
  h16 : b16 = true → v99 = .bool false
  h17 : b17 = true → v100 = .bool false
  h18 : b18 = true → v101 = .bool false
inductive CcJ (w0 : World) (ma mi pa : Int) (s : ByteArray) (bw : Nat) (vc vt : Value) (p0 p1 p2 p3 p4 p5 p6 p7 p8 p9 p10 p11 p12 p13 p14 p15 p16 p17 p18 p19 p20 p21 p22 p23 p24 p25 p26 p27 p28 p29 p30 p31 p32 p33 p34 p35 p36 p37 p38 p39 p40 p41 p42 p43 p44 p45 p46 p47 p48 p49 p50 p51 p52 p53 p54 p55 p56 p57 p58 p59 p60 p61 p62 p63 p64 p65 p66 p67 p68 p69 p70 p71 p72 p73 p74 p75 p76 p77 p78 p79 p80 p81 p82 p102 p103 p104 p105 p106 p107 p108 p109 p110 p111 p112 p113 p114 p115 p116 p117 p118 p119 p120 p121 p122 p123 p124 p125 p126 p127 p128 p129 p130 p131 p132 p133 : Value) : Array Bool → Act → World → Prop where
  | mk (b0 b1 b2 b3 b4 b5 b6 b7 b8 b9 b10 b11 b12 b13 b14 b15 b16 b17 b18 : Bool) (v83 v84 v85 v86 v87 v88 v89 v90 v91 v92 v93 v94 v95 v96 v97 v98 v99 v100 v101 : Value) (w' : World) : CcSt w0 ma mi pa s bw vc vt b0 b1 b2 b3 b4 b5 b6 b7 b8 b9 b10 b11 b12 b13 b14 b15 b16 b17 b18 v83 v84 v85 v86 v87 v88 v89 v90 v91 v92 v93 v94 v95 v96 v97 v98 v99 v100 v101 w' → CcJ w0 ma mi pa s bw vc vt p0 p1 p2 p3 p4 p5 p6 p7 p8 p9 p10 p11 p12 p13 p14 p15 p16 p17 p18 p19 p20 p21 p22 p23 p24 p25 p26 p27 p28 p29 p30 p31 p32 p33 p34 p35 p36 p37 p38 p39 p40 p41 p42 p43 p44 p45 p46 p47 p48 p49 p50 p51 p52 p53 p54 p55 p56 p57 p58 p59 p60 p61 p62 p63 p64 p65 p66 p67 p68 p69 p70 p71 p72 p73 p74 p75 p76 p77 p78 p79 p80 p81 p82 p102 p103 p104 p105 p106 p107 p108 p109 p110 p111 p112 p113 p114 p115 p116 p117 p118 p119 p120 p121 p122 p123 p124 p125 p126 p127 p128 p129 p130 p131 p132 p133 #[b0, b1, b2, b3, b4, b5, b6, b7, b8, b9, b10, b11, b12, b13, b14, b15, b16, b17, b18] { tmps := List.toArray (p0 :: p1 :: p2 :: p3 :: p4 :: p5 :: p6 :: p7 :: p8 :: p9 :: p10 :: p11 :: p12 :: p13 :: p14 :: p15 :: p16 :: p17 :: p18 :: p19 :: p20 :: p21 :: p22 :: p23 :: p24 :: p25 :: p26 :: p27 :: p28 :: p29 :: p30 :: p31 :: p32 :: p33 :: p34 :: p35 :: p36 :: p37 :: p38 :: p39 :: p40 :: p41 :: p42 :: p43 :: p44 :: p45 :: p46 :: p47 :: p48 :: p49 :: p50 :: p51 :: p52 :: p53 :: p54 :: p55 :: p56 :: p57 :: p58 :: p59 :: p60 :: p61 :: p62 :: p63 :: p64 :: p65 :: p66 :: p67 :: p68 :: p69 :: p70 :: p71 :: p72 :: p73 :: p74 :: p75 :: p76 :: p77 :: p78 :: p79 :: p80 :: p81 :: p82 :: v83 :: v84 :: v85 :: v86 :: v87 :: v88 :: v89 :: v90 :: v91 :: v92 :: v93 :: v94 :: v95 :: v96 :: v97 :: v98 :: v99 :: v100 :: v101 :: p102 :: p103 :: p104 :: p105 :: p106 :: p107 :: p108 :: p109 :: p110 :: p111 :: p112 :: p113 :: p114 :: p115 :: p116 :: p117 :: p118 :: p119 :: p120 :: p121 :: p122 :: p123 :: p124 :: p125 :: p126 :: p127 :: p128 :: p129 :: p130 :: p131 :: p132 :: p133 :: []), defers := [] } w'
structure DaSt (w0 : World) (ma mi pa : Int) (s : ByteArray) (bw : Nat) (vc vt : Value) (b0 b1 b2 b3 b4 b5 b6 b7 b8 b9 b10 b11 b12 b13 b14 b15 b16 b17 b18 b19 b20 b21 b22 b23 b24 b25 b26 : Bool) (v107 v108 v109 v110 v111 v112 v113 v114 v115 v116 v117 v118 v119 v120 v121 v122 v123 v124 v125 v126 v127 v128 v129 v130 v131 v132 v133 : Value) (w' : World) : Prop where
  bel : Below w0.heap.size w0 w'
  h0 : b0 = true → v107 = .int .i64 0
  h1 : b1 = true → v108 = .bool true
  h2 : b2 = true → v109 = .bool true
  h3 : b3 = true → v110 = .pointer (some ⟨bw, 3, none⟩)
  h4 : b4 = true → v111 = .string s
  h5 : b5 = true → v112 = .bool true
  h6 : b6 = true → v113 = .bool true
  h7 : b7 = true → v114 = .bool true
  h8 : b8 = true → v115 = vt
  h9 : b9 = true → v116 = verV ma mi (pa + 1) ⟨#[]⟩
  h10 : b10 = true → v117 = .bool true
  h11 : b11 = true → v118 = .bool false
  h12 : b12 = true → v119 = .bool false
  h13 : b13 = true → v120 = vc
  h14 : b14 = true → v121 = verV ma mi (pa + 1) ⟨#[]⟩
  h15 : b15 = true → v122 = .bool true
  h16 : b16 = true → v123 = .pointer (some ⟨bw, 0, none⟩)
  h17 : b17 = true → v124 = .int .i64 ma
  h18 : b18 = true → v125 = .bool true
  h19 : b19 = true → v126 = .bool true
  h20 : b20 = true → v127 = undef
  h21 : b21 = true → v128 = undef
  h22 : b22 = true → v129 = undef
  h23 : b23 = true → v130 = .bool true
  h24 : b24 = true → v131 = .bool false
  h25 : b25 = true → v132 = .bool false
  h26 : b26 = true → v133 = .bool false
inductive DaJ (w0 : World) (ma mi pa : Int) (s : ByteArray) (bw : Nat) (vc vt : Value) (p0 p1 p2 p3 p4 p5 p6 p7 p8 p9 p10 p11 p12 p13 p14 p15 p16 p17 p18 p19 p20 p21 p22 p23 p24 p25 p26 p27 p28 p29 p30 p31 p32 p33 p34 p35 p36 p37 p38 p39 p40 p41 p42 p43 p44 p45 p46 p47 p48 p49 p50 p51 p52 p53 p54 p55 p56 p57 p58 p59 p60 p61 p62 p63 p64 p65 p66 p67 p68 p69 p70 p71 p72 p73 p74 p75 p76 p77 p78 p79 p80 p81 p82 p83 p84 p85 p86 p87 p88 p89 p90 p91 p92 p93 p94 p95 p96 p97 p98 p99 p100 p101 p102 p103 p104 p105 p106 : Value) : Array Bool → Act → World → Prop where
  | mk (b0 b1 b2 b3 b4 b5 b6 b7 b8 b9 b10 b11 b12 b13 b14 b15 b16 b17 b18 b19 b20 b21 b22 b23 b24 b25 b26 : Bool) (v107 v108 v109 v110 v111 v112 v113 v114 v115 v116 v117 v118 v119 v120 v121 v122 v123 v124 v125 v126 v127 v128 v129 v130 v131 v132 v133 : Value) (w' : World) : DaSt w0 ma mi pa s bw vc vt b0 b1 b2 b3 b4 b5 b6 b7 b8 b9 b10 b11 b12 b13 b14 b15 b16 b17 b18 b19 b20 b21 b22 b23 b24 b25 b26 v107 v108 v109 v110 v111 v112 v113 v114 v115 v116 v117 v118 v119 v120 v121 v122 v123 v124 v125 v126 v127 v128 v129 v130 v131 v132 v133 w' → DaJ w0 ma mi pa s bw vc vt p0 p1 p2 p3 p4 p5 p6 p7 p8 p9 p10 p11 p12 p13 p14 p15 p16 p17 p18 p19 p20 p21 p22 p23 p24 p25 p26 p27 p28 p29 p30 p31 p32 p33 p34 p35 p36 p37 p38 p39 p40 p41 p42 p43 p44 p45 p46 p47 p48 p49 p50 p51 p52 p53 p54 p55 p56 p57 p58 p59 p60 p61 p62 p63 p64 p65 p66 p67 p68 p69 p70 p71 p72 p73 p74 p75 p76 p77 p78 p79 p80 p81 p82 p83 p84 p85 p86 p87 p88 p89 p90 p91 p92 p93 p94 p95 p96 p97 p98 p99 p100 p101 p102 p103 p104 p105 p106 #[b0, b1, b2, b3, b4, b5, b6, b7, b8, b9, b10, b11, b12, b13, b14, b15, b16, b17, b18, b19, b20, b21, b22, b23, b24, b25, b26] { tmps := List.toArray (p0 :: p1 :: p2 :: p3 :: p4 :: p5 :: p6 :: p7 :: p8 :: p9 :: p10 :: p11 :: p12 :: p13 :: p14 :: p15 :: p16 :: p17 :: p18 :: p19 :: p20 :: p21 :: p22 :: p23 :: p24 :: p25 :: p26 :: p27 :: p28 :: p29 :: p30 :: p31 :: p32 :: p33 :: p34 :: p35 :: p36 :: p37 :: p38 :: p39 :: p40 :: p41 :: p42 :: p43 :: p44 :: p45 :: p46 :: p47 :: p48 :: p49 :: p50 :: p51 :: p52 :: p53 :: p54 :: p55 :: p56 :: p57 :: p58 :: p59 :: p60 :: p61 :: p62 :: p63 :: p64 :: p65 :: p66 :: p67 :: p68 :: p69 :: p70 :: p71 :: p72 :: p73 :: p74 :: p75 :: p76 :: p77 :: p78 :: p79 :: p80 :: p81 :: p82 :: p83 :: p84 :: p85 :: p86 :: p87 :: p88 :: p89 :: p90 :: p91 :: p92 :: p93 :: p94 :: p95 :: p96 :: p97 :: p98 :: p99 :: p100 :: p101 :: p102 :: p103 :: p104 :: p105 :: p106 :: v107 :: v108 :: v109 :: v110 :: v111 :: v112 :: v113 :: v114 :: v115 :: v116 :: v117 :: v118 :: v119 :: v120 :: v121 :: v122 :: v123 :: v124 :: v125 :: v126 :: v127 :: v128 :: v129 :: v130 :: v131 :: v132 :: v133 :: []), defers := [] } w'
structure DbSt (w0 : World) (ma mi pa : Int) (s : ByteArray) (bw : Nat) (vc vt : Value) (b0 b1 b2 b3 b4 b5 b6 b7 b8 b9 b10 b11 b12 b13 b14 b15 b16 b17 b18 b19 b20 b21 b22 b23 b24 b25 b26 : Bool) (v107 v108 v109 v110 v111 v112 v113 v114 v115 v116 v117 v118 v119 v120 v121 v122 v123 v124 v125 v126 v127 v128 v129 v130 v131 v132 v133 : Value) (w' : World) : Prop where
  bel : Below w0.heap.size w0 w'
  h0 : b0 = true → v107 = .int .i64 0
  h1 : b1 = true → v108 = .bool true
  h2 : b2 = true → v109 = .bool true
  h3 : b3 = true → v110 = .pointer (some ⟨bw, 3, none⟩)
  h4 : b4 = true → v111 = .string s
  h5 : b5 = true → v112 = .bool true
  h6 : b6 = true → v113 = .bool true
  h7 : b7 = true → v114 = .bool true
  h8 : b8 = true → v115 = vt
  h9 : b9 = true → v116 = verV ma mi (pa + 1) ⟨#[]⟩
  h10 : b10 = true → v117 = .bool true
  h11 : b11 = true → v118 = .bool false
  h12 : b12 = true → v119 = .bool false
  h13 : b13 = true → v120 = vc
  h14 : b14 = true → v121 = verV ma mi (pa + 1) ⟨#[]⟩
  h15 : b15 = true → v122 = .bool true
  h16 : b16 = true → v123 = .pointer (some ⟨bw, 0, none⟩)
  h17 : b17 = true → v124 = .int .i64 ma
  h18 : b18 = true → v125 = .bool false
  h19 : b19 = true → v126 = .bool false
  h20 : b20 = true → v127 = .pointer (some ⟨bw, 1, none⟩)
  h21 : b21 = true → v128 = .int .i64 mi
  h22 : b22 = true → v129 = .bool true
  h23 : b23 = true → v130 = .bool true
  h24 : b24 = true → v131 = .bool false
  h25 : b25 = true → v132 = .bool false
  h26 : b26 = true → v133 = .bool false
inductive DbJ (w0 : World) (ma mi pa : Int) (s : ByteArray) (bw : Nat) (vc vt : Value) (p0 p1 p2 p3 p4 p5 p6 p7 p8 p9 p10 p11 p12 p13 p14 p15 p16 p17 p18 p19 p20 p21 p22 p23 p24 p25 p26 p27 p28 p29 p30 p31 p32 p33 p34 p35 p36 p37 p38 p39 p40 p41 p42 p43 p44 p45 p46 p47 p48 p49 p50 p51 p52 p53 p54 p55 p56 p57 p58 p59 p60 p61 p62 p63 p64 p65 p66 p67 p68 p69 p70 p71 p72 p73 p74 p75 p76 p77 p78 p79 p80 p81 p82 p83 p84 p85 p86 p87 p88 p89 p90 p91 p92 p93 p94 p95 p96 p97 p98 p99 p100 p101 p102 p103 p104 p105 p106 : Value) : Array Bool → Act → World → Prop where
  | mk (b0 b1 b2 b3 b4 b5 b6 b7 b8 b9 b10 b11 b12 b13 b14 b15 b16 b17 b18 b19 b20 b21 b22 b23 b24 b25 b26 : Bool) (v107 v108 v109 v110 v111 v112 v113 v114 v115 v116 v117 v118 v119 v120 v121 v122 v123 v124 v125 v126 v127 v128 v129 v130 v131 v132 v133 : Value) (w' : World) : DbSt w0 ma mi pa s bw vc vt b0 b1 b2 b3 b4 b5 b6 b7 b8 b9 b10 b11 b12 b13 b14 b15 b16 b17 b18 b19 b20 b21 b22 b23 b24 b25 b26 v107 v108 v109 v110 v111 v112 v113 v114 v115 v116 v117 v118 v119 v120 v121 v122 v123 v124 v125 v126 v127 v128 v129 v130 v131 v132 v133 w' → DbJ w0 ma mi pa s bw vc vt p0 p1 p2 p3 p4 p5 p6 p7 p8 p9 p10 p11 p12 p13 p14 p15 p16 p17 p18 p19 p20 p21 p22 p23 p24 p25 p26 p27 p28 p29 p30 p31 p32 p33 p34 p35 p36 p37 p38 p39 p40 p41 p42 p43 p44 p45 p46 p47 p48 p49 p50 p51 p52 p53 p54 p55 p56 p57 p58 p59 p60 p61 p62 p63 p64 p65 p66 p67 p68 p69 p70 p71 p72 p73 p74 p75 p76 p77 p78 p79 p80 p81 p82 p83 p84 p85 p86 p87 p88 p89 p90 p91 p92 p93 p94 p95 p96 p97 p98 p99 p100 p101 p102 p103 p104 p105 p106 #[b0, b1, b2, b3, b4, b5, b6, b7, b8, b9, b10, b11, b12, b13, b14, b15, b16, b17, b18, b19, b20, b21, b22, b23, b24, b25, b26] { tmps := List.toArray (p0 :: p1 :: p2 :: p3 :: p4 :: p5 :: p6 :: p7 :: p8 :: p9 :: p10 :: p11 :: p12 :: p13 :: p14 :: p15 :: p16 :: p17 :: p18 :: p19 :: p20 :: p21 :: p22 :: p23 :: p24 :: p25 :: p26 :: p27 :: p28 :: p29 :: p30 :: p31 :: p32 :: p33 :: p34 :: p35 :: p36 :: p37 :: p38 :: p39 :: p40 :: p41 :: p42 :: p43 :: p44 :: p45 :: p46 :: p47 :: p48 :: p49 :: p50 :: p51 :: p52 :: p53 :: p54 :: p55 :: p56 :: p57 :: p58 :: p59 :: p60 :: p61 :: p62 :: p63 :: p64 :: p65 :: p66 :: p67 :: p68 :: p69 :: p70 :: p71 :: p72 :: p73 :: p74 :: p75 :: p76 :: p77 :: p78 :: p79 :: p80 :: p81 :: p82 :: p83 :: p84 :: p85 :: p86 :: p87 :: p88 :: p89 :: p90 :: p91 :: p92 :: p93 :: p94 :: p95 :: p96 :: p97 :: p98 :: p99 :: p100 :: p101 :: p102 :: p103 :: p104 :: p105 :: p106 :: v107 :: v108 :: v109 :: v110 :: v111 :: v112 :: v113 :: v114 :: v115 :: v116 :: v117 :: v118 :: v119 :: v120 :: v121 :: v122 :: v123 :: v124 :: v125 :: v126 :: v127 :: v128 :: v129 :: v130 :: v131 :: v132 :: v133 :: []), defers := [] } w'
structure DcSt (w0 : World) (ma mi pa : Int) (s : ByteArray) (bw : Nat) (vc vt : Value) (b0 b1 b2 b3 b4 b5 b6 b7 b8 b9 b10 b11 b12 b13 b14 b15 b16 b17 b18 b19 b20 b21 b22 b23 b24 b25 b26 : Bool) (v107 v108 v109 v110 v111 v112 v113 v114 v115 v116 v117 v118 v119 v120 v121 v122 v123 v124 v125 v126 v127 v128 v129 v130 v131 v132 v133 : Value) (w' : World) : Prop where
  bel : Below w0.heap.size w0 w'
  h0 : b0 = true → v107 = .int .i64 0
  h1 : b1 = true → v108 = .bool true
  h2 : b2 = true → v109 = .bool true
  h3 : b3 = true → v110 = .pointer (some ⟨bw, 3, none⟩)
  h4 : b4 = true → v111 = .string s
  h5 : b5 = true → v112 = .bool true
  h6 : b6 = true → v113 = .bool true
  h7 : b7 = true → v114 = .bool true
  h8 : b8 = true → v115 = vt
  h9 : b9 = true → v116 = verV ma mi (pa + 1) ⟨#[]⟩
  h10 : b10 = true → v117 = .bool true
  h11 : b11 = true → v118 = .bool false
  h12 : b12 = true → v119 = .bool false
  h13 : b13 = true → v120 = vc
  h14 : b14 = true → v121 = verV ma mi (pa + 1) ⟨#[]⟩
  h15 : b15 = true → v122 = .bool false
  h16 : b16 = true → v123 = .pointer (some ⟨bw, 0, none⟩)
  h17 : b17 = true → v124 = .int .i64 ma
  h18 : b18 = true → v125 = .bool false
  h19 : b19 = true → v126 = .bool false
  h20 : b20 = true → v127 = .pointer (some ⟨bw, 1, none⟩)
  h21 : b21 = true → v128 = .int .i64 mi
  h22 : b22 = true → v129 = .bool false
  h23 : b23 = true → v130 = .bool false
  h24 : b24 = true → v131 = .bool false
  h25 : b25 = true → v132 = .bool false
  h26 : b26 = true → v133 = .bool false
inductive DcJ (w0 : World) (ma mi pa : Int) (s : ByteArray) (bw : Nat) (vc vt : Value) (p0 p1 p2 p3 p4 p5 p6 p7 p8 p9 p10 p11 p12 p13 p14 p15 p16 p17 p18 p19 p20 p21 p22 p23 p24 p25 p26 p27 p28 p29 p30 p31 p32 p33 p34 p35 p36 p37 p38 p39 p40 p41 p42 p43 p44 p45 p46 p47 p48 p49 p50 p51 p52 p53 p54 p55 p56 p57 p58 p59 p60 p61 p62 p63 p64 p65 p66 p67 p68 p69 p70 p71 p72 p73 p74 p75 p76 p77 p78 p79 p80 p81 p82 p83 p84 p85 p86 p87 p88 p89 p90 p91 p92 p93 p94 p95 p96 p97 p98 p99 p100 p101 p102 p103 p104 p105 p106 : Value) : Array Bool → Act → World → Prop where
  | mk (b0 b1 b2 b3 b4 b5 b6 b7 b8 b9 b10 b11 b12 b13 b14 b15 b16 b17 b18 b19 b20 b21 b22 b23 b24 b25 b26 : Bool) (v107 v108 v109 v110 v111 v112 v113 v114 v115 v116 v117 v118 v119 v120 v121 v122 v123 v124 v125 v126 v127 v128 v129 v130 v131 v132 v133 : Value) (w' : World) : DcSt w0 ma mi pa s bw vc vt b0 b1 b2 b3 b4 b5 b6 b7 b8 b9 b10 b11 b12 b13 b14 b15 b16 b17 b18 b19 b20 b21 b22 b23 b24 b25 b26 v107 v108 v109 v110 v111 v112 v113 v114 v115 v116 v117 v118 v119 v120 v121 v122 v123 v124 v125 v126 v127 v128 v129 v130 v131 v132 v133 w' → DcJ w0 ma mi pa s bw vc vt p0 p1 p2 p3 p4 p5 p6 p7 p8 p9 p10 p11 p12 p13 p14 p15 p16 p17 p18 p19 p20 p21 p22 p23 p24 p25 p26 p27 p28 p29 p30 p31 p32 p33 p34 p35 p36 p37 p38 p39 p40 p41 p42 p43 p44 p45 p46 p47 p48 p49 p50 p51 p52 p53 p54 p55 p56 p57 p58 p59 p60 p61 p62 p63 p64 p65 p66 p67 p68 p69 p70 p71 p72 p73 p74 p75 p76 p77 p78 p79 p80 p81 p82 p83 p84 p85 p86 p87 p88 p89 p90 p91 p92 p93 p94 p95 p96 p97 p98 p99 p100 p101 p102 p103 p104 p105 p106 #[b0, b1, b2, b3, b4, b5, b6, b7, b8, b9, b10, b11, b12, b13, b14, b15, b16, b17, b18, b19, b20, b21, b22, b23, b24, b25, b26] { tmps := List.toArray (p0 :: p1 :: p2 :: p3 :: p4 :: p5 :: p6 :: p7 :: p8 :: p9 :: p10 :: p11 :: p12 :: p13 :: p14 :: p15 :: p16 :: p17 :: p18 :: p19 :: p20 :: p21 :: p22 :: p23 :: p24 :: p25 :: p26 :: p27 :: p28 :: p29 :: p30 :: p31 :: p32 :: p33 :: p34 :: p35 :: p36 :: p37 :: p38 :: p39 :: p40 :: p41 :: p42 :: p43 :: p44 :: p45 :: p46 :: p47 :: p48 :: p49 :: p50 :: p51 :: p52 :: p53 :: p54 :: p55 :: p56 :: p57 :: p58 :: p59 :: p60 :: p61 :: p62 :: p63 :: p64 :: p65 :: p66 :: p67 :: p68 :: p69 :: p70 :: p71 :: p72 :: p73 :: p74 :: p75 :: p76 :: p77 :: p78 :: p79 :: p80 :: p81 :: p82 :: p83 :: p84 :: p85 :: p86 :: p87 :: p88 :: p89 :: p90 :: p91 :: p92 :: p93 :: p94 :: p95 :: p96 :: p97 :: p98 :: p99 :: p100 :: p101 :: p102 :: p103 :: p104 :: p105 :: p106 :: v107 :: v108 :: v109 :: v110 :: v111 :: v112 :: v113 :: v114 :: v115 :: v116 :: v117 :: v118 :: v119 :: v120 :: v121 :: v122 :: v123 :: v124 :: v125 :: v126 :: v127 :: v128 :: v129 :: v130 :: v131 :: v132 :: v133 :: []), defers := [] } w'
set_option maxHeartbeats 16000000 in
theorem law_caret (ma mi pa : Int) (s : ByteArray) (w : World) (hs : s.size < 9223372036854775808) (hg : SignsAt w) (hm : LenAt w) (h1 : 1 < w.heap.size) :
    Calls Tryd.prog 15 #[verV ma mi pa s] w fun e w' => e = .returned (.bool true) ∧ Below w.heap.size w w' := by
  obtain ⟨W0, hW0⟩ : ∃ W0, w.alloc (verC ma mi pa s) = W0 := ⟨_, rfl⟩
  have hb0 : Below w.heap.size w W0 := by rw [← hW0]; exact (Below.refl _ w).alloc (Nat.le_refl _) _
  have HBX0 : Hid (BoxesAt [(w.heap.size, verC ma mi pa s)] W0) := Lib.hid (by
    rw [← hW0]
    have h := (BoxesAt.nil w).push (verC ma mi pa s)
    intro x hx
    exact h x (by simp at hx ⊢; rcases hx with rfl | rfl <;> simp))
  have HM0 := Lib.hid (hm.below h1 hb0)
  have HG0 : Hid (SignsAt W0) := Lib.hid (hg.below hb0 (by omega))
  have HAN := Lib.hid (ranchor_any W0 HG0.out HM0.out.1 HM0.out.2)
  have HW0 := Lib.hid hW0
  have HB0 := Lib.hid hb0
  clear hW0 hb0 hm hg
  go_enter Tryd.func15, Tryd.ntmps15
  go_wp2_with fail
  try rw [show w.alloc (.cells #[.int .i64 ma, .int .i64 mi, .int .i64 pa, .string s] 25) = W0 from HW0.out]
  refine HAN.out.mono ?_
  rintro e W1 ⟨rfl, hb⟩
  have HBX1 := Lib.hid (HBX0.out.below hb)
  have HB1 : Hid (Below w.heap.size w W1) := Lib.hid (HB0.out.trans (hb.mono HB0.out.size))
  have HM1 := Lib.hid (HM0.out.1.below HM0.out.2 hb)
  clear hb
  clear HAN
  obtain ⟨x0, x1, x2, x3⟩ := cells4 (HBX1.out.get (w.heap.size) (verC ma mi pa s) (by simp))
  have HR := Lib.hid (Right_anyL ma mi pa s W1 hs HM1.out.1 HM1.out.2)
  go_wp2_with fail
  refine HR.out.mono ?_
  rintro e W2 ⟨rfl, hb⟩
  clear HR
  clear x0 x1 x2 x3
  have HBX2 := Lib.hid (HBX1.out.below hb)
  have HB2 : Hid (Below w.heap.size w W2) := Lib.hid (HB1.out.trans (hb.mono HB1.out.size))
  have HM2 := Lib.hid (HM1.out.1.below HM1.out.2 hb)
  clear hb
  obtain ⟨x0, x1, x2, x3⟩ := cells4 (HBX2.out.get (w.heap.size) (verC ma mi pa s) (by simp))
  cases hr : Ver.right ⟨ma, mi, pa, bs s⟩ with
  | false =>
    go_wp2
    refine bodyPost_ret (results_tmp rfl _ _ _) rfl ⟨rfl, HB2.out⟩
  | true =>
    by_cases hsh : 100 < s.size
    · have dsh : decide (100 < (s.size : Int)) = true := decide_eq_true (by omega)
      go_wp2
      refine bodyPost_ret (results_tmp rfl _ _ _) rfl ⟨rfl, HB2.out⟩
    have HS : Hid (s.size ≤ 100) := Lib.hid (by omega)
    have dsh : decide (100 < (s.size : Int)) = false := decide_eq_false (by omega)
    have HR := Lib.hid hr
    have hl0 : w.heap.size < W2.heap.size := (HBX2.out _ (by simp : (w.heap.size, verC ma mi pa s) ∈ _)).1
    clear hsh hs hr x0 x1 x2 x3
    obtain ⟨WA, WB, hWA, hWB, hbA, hbB, hAx, hBx, hB0, hB1, hB3, hB4, hB2, hB5⟩ := six W2 6 7 ma mi pa s w.heap.size hl0
    have HBXA : Hid (BoxesAt [(w.heap.size, verC ma mi pa s)] WA) := Lib.hid (HBX2.out.below hbA)
    have HBXB : Hid (BoxesAt [(w.heap.size, verC ma mi pa s), (W2.heap.size + 1 + 1, .cells #[.slice (some ⟨W2.heap.size + 1, 0, none⟩) 1 1] 48), (W2.heap.size + 1 + 1 + 1 + 1 + 1, .cells #[.slice (some ⟨W2.heap.size + 1 + 1 + 1 + 1, 0, none⟩) 1 1] 48)] WB) := Lib.hid (fun x hx => by
      simp at hx
      rcases hx with rfl | rfl | rfl
      · exact (HBX2.out.below hbB) _ (by simp)
      · exact hB2
      · exact hB5)
    have HMB := Lib.hid (HM2.out.1.below HM2.out.2 hbB)
    have HBB : Hid (Below w.heap.size w WB) := Lib.hid (HB2.out.trans (hbB.mono HB2.out.size))
    have HOC : Hid (OfAt WB ⟨6, ma, mi, pa, s⟩ (.agg #[.slice (some ⟨W2.heap.size + 1, 0, none⟩) 1 1])) := Lib.hid ⟨_, _, rfl, Nat.le_refl _, rdr_one hB0 hB1⟩
    have HOT : Hid (OfAt WB ⟨7, ma, mi, pa, s⟩ (.agg #[.slice (some ⟨W2.heap.size + 1 + 1 + 1 + 1, 0, none⟩) 1 1])) := Lib.hid ⟨_, _, rfl, Nat.le_refl _, rdr_one hB3 hB4⟩
    obtain ⟨q0, q1, q2, q3⟩ := cells4 (HBX2.out.get (w.heap.size) (verC ma mi pa s) (by simp))
    obtain ⟨x0, x1, x2, x3⟩ := cells4 (HBXA.out.get (w.heap.size) (verC ma mi pa s) (by simp))
    obtain ⟨y0, y1, y2, y3⟩ := cells4 (HBXB.out.get (w.heap.size) (verC ma mi pa s) (by simp))
    have c3 := cell1 (HBXB.out.get (W2.heap.size + 1 + 1) (.cells #[.slice (some ⟨W2.heap.size + 1, 0, none⟩) 1 1] 48) (by simp))
    rw [← hWA] at x0 x1 x2 x3
    rw [← hWB] at y0 y1 y2 y3 c3
    simp only [compC] at x0 x1 x2 x3 y0 y1 y2 y3 c3
    have HWB := Lib.hid hWB
    have HQC : Hid (∀ v, v.right = true → hasR [[⟨6, ma, mi, pa, s⟩]] v = hasC 6 ⟨ma, mi, pa, bs s⟩ v) := Lib.hid (fun v hv => hasR_one (cv_right (by omega) HR.out) hv)
    have HQT : Hid (∀ v, v.right = true → hasR [[⟨7, ma, mi, pa, s⟩]] v = hasC 7 ⟨ma, mi, pa, bs s⟩ v) := Lib.hid (fun v hv => hasR_one (cv_right (by omega) HR.out) hv)
    have HC := Lib.hid (hasOf_any ⟨6, ma, mi, pa, s⟩ _ ma mi pa s WB HOC.out (by have := HS.out; show s.size < _; omega) (by have := HS.out; omega) HMB.out.1 HMB.out.2)
    rw [HQC.out _ HR.out, has_caret HR.out] at HC
    clear hWA hWB hbA hbB hAx hBx hB0 hB1 hB2 hB3 hB4 hB5
    go_wp2_with fail
    rw [show (((((W2.alloc (.cells #[.int .i64 6, .int .i64 ma, .int .i64 mi, .int .i64 pa, .string s] 68)).alloc (.cells #[.slice (some ⟨W2.heap.size, 0, none⟩) 1 1] 69)).alloc (.cells #[.slice (some ⟨W2.heap.size + 1, 0, none⟩) 1 1] 48)).alloc (.cells #[.int .i64 7, .int .i64 ma, .int .i64 mi, .int .i64 pa, .string s] 68)).alloc (.cells #[.slice (some ⟨W2.heap.size + 1 + 1 + 1, 0, none⟩) 1 1] 69)).alloc (.cells #[.slice (some ⟨W2.heap.size + 1 + 1 + 1 + 1, 0, none⟩) 1 1] 48) = WB from HWB.out]
    refine HC.out.mono ?_
    rintro e W4 ⟨rfl, hb⟩
    clear HC y0 y1 y2 y3 c3 x0 x1 x2 x3 q0 q1 q2 q3
    have HBX4 := Lib.hid (HBXB.out.below hb)
    have HB4 : Hid (Below w.heap.size w W4) := Lib.hid (HBB.out.trans (hb.mono HBB.out.size))
    have HM4 := Lib.hid (HMB.out.1.below HMB.out.2 hb)
    have HOC4 := Lib.hid (HOC.out.below hb)
    have HOT4 := Lib.hid (HOT.out.below hb)
    clear hb
    obtain ⟨y0, y1, y2, y3⟩ := cells4 (HBX4.out.get (w.heap.size) (verC ma mi pa s) (by simp))
    have c4 := cell1 (HBX4.out.get (W2.heap.size + 1 + 1 + 1 + 1 + 1) (.cells #[.slice (some ⟨W2.heap.size + 1 + 1 + 1 + 1, 0, none⟩) 1 1] 48) (by simp))
    have HC := Lib.hid (hasOf_any ⟨7, ma, mi, pa, s⟩ _ ma mi pa s W4 HOT4.out (by have := HS.out; show s.size < _; omega) (by have := HS.out; omega) HM4.out.1 HM4.out.2)
    rw [HQT.out _ HR.out, has_tilde HR.out] at HC
    go_wp2_with fail
    refine HC.out.mono ?_
    rintro e W5 ⟨rfl, hb⟩
    have HBX5 := Lib.hid (HBX4.out.below hb)
    have HB5 : Hid (Below w.heap.size w W5) := Lib.hid (HB4.out.trans (hb.mono HB4.out.size))
    have HM5 := Lib.hid (HM4.out.1.below HM4.out.2 hb)
    have HOC5 := Lib.hid (HOC4.out.below hb)
    have HOT5 := Lib.hid (HOT4.out.below hb)
    clear hb HC y0 y1 y2 y3 c4
    go_upto_region 9 with fail
    obtain ⟨y0, y1, y2, y3⟩ := cells4 (HBX5.out.get (w.heap.size) (verC ma mi pa s) (by simp))
    have HBU := Lib.hid (Bump_any ma mi pa s 0 W5 (by have := HS.out; omega) HM5.out.1 HM5.out.2)
    obtain ⟨x, y, z, e, hbu, hbe⟩ := bump0 (p := bs s) HR.out
    rw [hbu] at HBU
    have HBE := Lib.hid hbe
    clear hbu hbe
    go_wp2_with fail
    refine HBU.out.mono ?_
    rintro e1 W6 ⟨rfl, hb⟩
    clear HBU y0 y1 y2 y3
    obtain ⟨W7, hW⟩ : ∃ W', W6.alloc (verC x y z ⟨#[]⟩) = W' := ⟨_, rfl⟩
    have hba : Below W6.heap.size W6 W7 := by rw [← hW]; exact (Below.refl _ W6).alloc (Nat.le_refl _) _
    have hbb : Below W5.heap.size W5 W7 := hb.trans (hba.mono hb.size)
    have HBX7 : Hid (BoxesAt [(w.heap.size, verC ma mi pa s), (W2.heap.size + 1 + 1, .cells #[.slice (some ⟨W2.heap.size + 1, 0, none⟩) 1 1] 48), (W2.heap.size + 1 + 1 + 1 + 1 + 1, .cells #[.slice (some ⟨W2.heap.size + 1 + 1 + 1 + 1, 0, none⟩) 1 1] 48), (W6.heap.size, verC x y z ⟨#[]⟩)] W7) := Lib.hid (fun q hq => by
      simp at hq
      rcases hq with rfl | rfl | rfl | rfl
      · exact (HBX5.out.below hbb) _ (by simp)
      · exact (HBX5.out.below hbb) _ (by simp)
      · exact (HBX5.out.below hbb) _ (by simp)
      · exact ⟨by rw [← hW]; simp, by rw [← hW]; exact World.alloc_heap_new _ _⟩)
    have HB7 : Hid (Below w.heap.size w W7) := Lib.hid (HB5.out.trans (hbb.mono HB5.out.size))
    have HM7 := Lib.hid (HM5.out.1.below HM5.out.2 hbb)
    have HOC7 := Lib.hid (HOC5.out.below hbb)
    have HOT7 := Lib.hid (HOT5.out.below hbb)
    have HW7 := Lib.hid hW
    clear hb hba hbb hW
    go_upto_region 10 with fail
    rw [show W6.alloc (.cells #[.int .i64 x, .int .i64 y, .int .i64 z, .string ⟨#[]⟩] 25) = W7 from HW7.out]
    go_cut [69] (fun v69 w' => v69 = .bool false ∧ Below W7.heap.size W7 w')
    case first =>
      rcases HBE.out with ⟨rfl, h9, rfl, rfl, rfl⟩ | rfl
      · by_cases ha : 0 < ma
        · have da : decide (0 < ma) = true := decide_eq_true ha
          have hwr : Ver.right ⟨ma + 1, 0, 0, []⟩ = true := right_maj HR.out h9
          have HC := Lib.hid (hasOf_any ⟨6, ma, mi, pa, s⟩ _ (ma + 1) 0 0 ⟨#[]⟩ W7 HOC7.out (by have := HS.out; show s.size < _; omega) (by decide) HM7.out.1 HM7.out.2)
          rw [show hasR [[⟨6, ma, mi, pa, s⟩]] ⟨ma + 1, 0, 0, bs ⟨#[]⟩⟩ = false from (HQC.out _ hwr).trans (caret_maj HR.out ha h9)] at HC
          have HWR := Lib.hid hwr
          obtain ⟨y0, y1, y2, y3⟩ := cells4 (HBX7.out.get (w.heap.size) (verC ma mi pa s) (by simp))
          have c3 := cell1 (HBX7.out.get (W2.heap.size + 1 + 1) (.cells #[.slice (some ⟨W2.heap.size + 1, 0, none⟩) 1 1] 48) (by simp))
          have c4 := cell1 (HBX7.out.get (W2.heap.size + 1 + 1 + 1 + 1 + 1) (.cells #[.slice (some ⟨W2.heap.size + 1 + 1 + 1 + 1, 0, none⟩) 1 1] 48) (by simp))
          obtain ⟨u0, u1, u2, u3⟩ := cells4 (HBX7.out.get (W6.heap.size) (verC (ma + 1) 0 0 ⟨#[]⟩) (by simp))
          clear ha h9 hwr
          go_wp2_with fail
          refine HC.out.mono ?_
          rintro e W8 ⟨rfl, hb⟩
          clear HC u0 u1 u2 u3
          have HB78 := Lib.hid hb
          clear y0 y1 y2 y3 c3 c4
          have HBX8 := Lib.hid (HBX7.out.below hb)
          have HB8 : Hid (Below w.heap.size w W8) := Lib.hid (HB7.out.trans (hb.mono HB7.out.size))
          have HM8 := Lib.hid (HM7.out.1.below HM7.out.2 hb)
          have HOC8 := Lib.hid (HOC7.out.below hb)
          have HOT8 := Lib.hid (HOT7.out.below hb)
          clear hb
          obtain ⟨y0, y1, y2, y3⟩ := cells4 (HBX8.out.get (w.heap.size) (verC ma mi pa s) (by simp))
          have c3 := cell1 (HBX8.out.get (W2.heap.size + 1 + 1) (.cells #[.slice (some ⟨W2.heap.size + 1, 0, none⟩) 1 1] 48) (by simp))
          have c4 := cell1 (HBX8.out.get (W2.heap.size + 1 + 1 + 1 + 1 + 1) (.cells #[.slice (some ⟨W2.heap.size + 1 + 1 + 1 + 1, 0, none⟩) 1 1] 48) (by simp))
          obtain ⟨u0, u1, u2, u3⟩ := cells4 (HBX8.out.get (W6.heap.size) (verC (ma + 1) 0 0 ⟨#[]⟩) (by simp))
          by_cases hm9 : mi < 999999
          · have dm : decide (mi < 999999) = true := decide_eq_true hm9
            have HC := Lib.hid (hasOf_any ⟨7, ma, mi, pa, s⟩ _ (ma + 1) 0 0 ⟨#[]⟩ W8 HOT8.out (by have := HS.out; show s.size < _; omega) (by decide) HM8.out.1 HM8.out.2)
            rw [show hasR [[⟨7, ma, mi, pa, s⟩]] ⟨ma + 1, 0, 0, bs ⟨#[]⟩⟩ = false from (HQT.out _ HWR.out).trans (tilde_maj HR.out hm9)] at HC
            clear hm9
            go_wp2_with fail
            refine HC.out.mono ?_
            rintro e W9 ⟨rfl, hb⟩
            have HB79 := Lib.hid (HB78.out.trans (hb.mono HB78.out.size))
            clear HC u0 u1 u2 u3 hb
            clear y0 y1 y2 y3 c3 c4
            go_wp2
            go_meet
            exact ⟨rfl, HB79.out⟩
          · have dm : decide (mi < 999999) = false := decide_eq_false hm9
            clear hm9
            go_wp2
            go_meet
            exact ⟨rfl, HB78.out⟩
        · have da : decide (0 < ma) = false := decide_eq_false ha
          obtain ⟨y0, y1, y2, y3⟩ := cells4 (HBX7.out.get (w.heap.size) (verC ma mi pa s) (by simp))
          have c3 := cell1 (HBX7.out.get (W2.heap.size + 1 + 1) (.cells #[.slice (some ⟨W2.heap.size + 1, 0, none⟩) 1 1] 48) (by simp))
          have c4 := cell1 (HBX7.out.get (W2.heap.size + 1 + 1 + 1 + 1 + 1) (.cells #[.slice (some ⟨W2.heap.size + 1 + 1 + 1 + 1, 0, none⟩) 1 1] 48) (by simp))
          clear ha
          go_wp2
          go_meet
          exact ⟨rfl, Below.refl _ _⟩
      · go_wp2
        go_meet
        exact ⟨rfl, Below.refl _ _⟩
    case rest =>
      obtain ⟨rfl, hb⟩ := hcut
      rename World => W8
      have HBX8' := Lib.hid (HBX7.out.below hb)
      have HBX8 : Hid (BoxesAt [(w.heap.size, verC ma mi pa s), (W2.heap.size + 1 + 1, .cells #[.slice (some ⟨W2.heap.size + 1, 0, none⟩) 1 1] 48), (W2.heap.size + 1 + 1 + 1 + 1 + 1, .cells #[.slice (some ⟨W2.heap.size + 1 + 1 + 1 + 1, 0, none⟩) 1 1] 48)] W8) := Lib.hid (fun q hq => HBX8'.out q (by simp at hq ⊢; rcases hq with h | h | h <;> simp [h]))
      have HB8 : Hid (Below w.heap.size w W8) := Lib.hid (HB7.out.trans (hb.mono HB7.out.size))
      have HM8 := Lib.hid (HM7.out.1.below HM7.out.2 hb)
      have HOC8 := Lib.hid (HOC7.out.below hb)
      have HOT8 := Lib.hid (HOT7.out.below hb)
      clear hb
      clear HBX8' HBX7 HW7 HBE
      go_upto_region 12 with fail
      go_cut [7] (fun v7 w' => v7 = .bool (mi == 0 && pa == 999999) ∧ w' = W8)
      case first =>
        obtain ⟨y0, y1, y2, y3⟩ := cells4 (HBX8.out.get (w.heap.size) (verC ma mi pa s) (by simp))
        by_cases hm : mi = 0
        · subst hm
          by_cases hp : pa = 999999
          · subst hp
            go_wp2
            go_meet
            exact ⟨rfl, rfl⟩
          · have dp : (pa == 999999) = false := by rw [beq_eq_false_iff_ne]; exact hp
            clear hp
            go_wp2
            go_meet
            exact ⟨by rw [dp]; rfl, rfl⟩
        · have dm : (mi == 0) = false := by rw [beq_eq_false_iff_ne]; exact hm
          clear hm
          go_wp2
          go_meet
          exact ⟨by rw [dm]; rfl, rfl⟩
      case rest =>
        obtain ⟨rfl, hwc⟩ := hcut
        have hwd := hwc.symm
        clear hwc
        subst hwd
        obtain ⟨o, ho⟩ : ∃ o, (mi == 0 && pa == 999999) = o := ⟨_, rfl⟩
        rw [ho]
        have HOP := Lib.hid ho
        clear ho
        go_upto_region 13 with fail
        obtain ⟨y0, y1, y2, y3⟩ := cells4 (HBX8.out.get (w.heap.size) (verC ma mi pa s) (by simp))
        have HBU := Lib.hid (Bump_any ma mi pa s 1 W8 (by have := HS.out; omega) HM8.out.1 HM8.out.2)
        obtain ⟨x, y, z, e, hbu, hbe⟩ := bump1 (p := bs s) HR.out
        rw [hbu] at HBU
        have HBE := Lib.hid hbe
        clear hbu hbe
        go_wp2_with fail
        refine HBU.out.mono ?_
        rintro e1 W9 ⟨rfl, hb⟩
        clear HBU y0 y1 y2 y3
        obtain ⟨W10, hW⟩ : ∃ W', W9.alloc (verC x y z ⟨#[]⟩) = W' := ⟨_, rfl⟩
        have hba : Below W9.heap.size W9 W10 := by rw [← hW]; exact (Below.refl _ W9).alloc (Nat.le_refl _) _
        have hbb : Below W8.heap.size W8 W10 := hb.trans (hba.mono hb.size)
        have HBX10 : Hid (BoxesAt [(w.heap.size, verC ma mi pa s), (W2.heap.size + 1 + 1, .cells #[.slice (some ⟨W2.heap.size + 1, 0, none⟩) 1 1] 48), (W2.heap.size + 1 + 1 + 1 + 1 + 1, .cells #[.slice (some ⟨W2.heap.size + 1 + 1 + 1 + 1, 0, none⟩) 1 1] 48), (W9.heap.size, verC x y z ⟨#[]⟩)] W10) := Lib.hid (fun q hq => by
          simp at hq
          rcases hq with rfl | rfl | rfl | rfl
          · exact (HBX8.out.below hbb) _ (by simp)
          · exact (HBX8.out.below hbb) _ (by simp)
          · exact (HBX8.out.below hbb) _ (by simp)
          · exact ⟨by rw [← hW]; simp, by rw [← hW]; exact World.alloc_heap_new _ _⟩)
        have HB10 : Hid (Below w.heap.size w W10) := Lib.hid (HB8.out.trans (hbb.mono HB8.out.size))
        have HM10 := Lib.hid (HM8.out.1.below HM8.out.2 hbb)
        have HOC10 := Lib.hid (HOC8.out.below hbb)
        have HOT10 := Lib.hid (HOT8.out.below hbb)
        have HW10 := Lib.hid hW
        clear hb hba hbb hW
        go_upto_region 14 with fail
        rw [show W9.alloc (.cells #[.int .i64 x, .int .i64 y, .int .i64 z, .string ⟨#[]⟩] 25) = W10 from HW10.out]
        go_cut [101] (fun v101 w' => v101 = .bool false ∧ Below W10.heap.size W10 w')
        case first =>
          rcases HBE.out with ⟨rfl, h9, rfl, rfl, rfl⟩ | rfl
          · clear HBE
            have HL1 : Hid (w.heap.size < W10.heap.size) := Lib.hid (HBX10.out _ (by simp : (w.heap.size, verC ma mi pa s) ∈ _)).1
            have HL3 : Hid (W2.heap.size + 1 + 1 < W10.heap.size) := Lib.hid (HBX10.out (W2.heap.size + 1 + 1, .cells #[.slice (some ⟨W2.heap.size + 1, 0, none⟩) 1 1] 48) (by simp)).1
            have HL4 : Hid (W2.heap.size + 1 + 1 + 1 + 1 + 1 < W10.heap.size) := Lib.hid (HBX10.out (W2.heap.size + 1 + 1 + 1 + 1 + 1, .cells #[.slice (some ⟨W2.heap.size + 1 + 1 + 1 + 1, 0, none⟩) 1 1] 48) (by simp)).1
            have HLU : Hid (W9.heap.size < W10.heap.size) := Lib.hid (HBX10.out (W9.heap.size, verC ma (mi + 1) 0 ⟨#[]⟩) (by simp)).1
            by_cases ha : 0 < ma
            · have HDA : Hid (decide (0 < ma) = true) := Lib.hid (decide_eq_true ha)
              clear ha
              have HQ7 : Hid (hasR [[⟨7, ma, mi, pa, s⟩]] ⟨ma, mi + 1, 0, bs ⟨#[]⟩⟩ = false) := Lib.hid ((HQT.out _ (right_min HR.out h9)).trans (tilde_min HR.out h9))
              have HQ6 : Hid (hasR [[⟨6, ma, mi, pa, s⟩]] ⟨ma, mi + 1, 0, bs ⟨#[]⟩⟩ = true) := Lib.hid ((HQC.out _ (right_min HR.out h9)).trans ((caret_min HR.out h9).trans (by rw [HOP.out, HDA.out]; rfl)))
              clear h9
              refine wp_region_inv (by kernel_rfl) (I := CaJ W10 ma mi pa s w.heap.size (.agg #[.slice (some ⟨W2.heap.size + 1, 0, none⟩) 1 1]) (.agg #[.slice (some ⟨W2.heap.size + 1 + 1 + 1 + 1, 0, none⟩) 1 1]) _ _ _ _ _ _ _ _ _ _ _ _ _ _ _ _ _ _ _ _ _ _ _ _ _ _ _ _ _ _ _ _ _ _ _ _ _ _ _ _ _ _ _ _ _ _ _ _ _ _ _ _ _ _ _ _ _ _ _ _ _ _ _ _ _ _ _ _ _ _ _ _ _ _ _ _ _ _ _ _ _ _ _ _ _ _ _ _ _ _ _ _ _ _ _ _ _ _ _ _ _ _ _ _ _ _ _ _ _ _ _ _ _ _ _) (.mk false false false false false false false false false false false false false false false false false false false _ _ _ _ _ _ _ _ _ _ _ _ _ _ _ _ _ _ _ _ ⟨(Below.refl _ W10).drew, nofun, nofun, nofun, nofun, nofun, nofun, nofun, nofun, nofun, nofun, nofun, nofun, nofun, nofun, nofun, nofun, nofun, nofun, nofun⟩) ?step ?fin
              case step =>
                rintro l a' w' i ⟨b0, b1, b2, b3, b4, b5, b6, b7, b8, b9, b10, b11, b12, b13, b14, b15, b16, b17, b18, v83, v84, v85, v86, v87, v88, v89, v90, v91, v92, v93, v94, v95, v96, v97, v98, v99, v100, v101, _, HT⟩ hi
                obtain ⟨hi_, hib⟩ := ready_lt hi
                have HTH := Lib.hid HT
                match i, hi_, hi, hib with
                | 0, _, hi, hib =>
                  clear HT
                  refine wpOp_one rfl rfl (fun K hK => ?_)
                  go_simp
                  exact hK.out _ _ (.mk true b1 b2 b3 b4 b5 b6 b7 b8 b9 b10 b11 b12 b13 b14 b15 b16 b17 b18 _ _ _ _ _ _ _ _ _ _ _ _ _ _ _ _ _ _ _ _ { HTH.out with h0 := fun _ => rfl })
                | 1, _, hi, hib =>
                  have d0 : b0 = true := ready_dep hi rfl 0 (by kernel_rfl)
                  have hd0 := HT.h0 d0
                  subst hd0
                  clear HT
                  refine wpOp_one rfl rfl (fun K hK => ?_)
                  go_simp
                  exact hK.out _ _ (.mk b0 true b2 b3 b4 b5 b6 b7 b8 b9 b10 b11 b12 b13 b14 b15 b16 b17 b18 _ _ _ _ _ _ _ _ _ _ _ _ _ _ _ _ _ _ _ _ { HTH.out with h1 := fun _ => rfl })
                | 2, _, hi, hib =>
                  have d1 : b1 = true := ready_dep hi rfl 1 (by kernel_rfl)
                  have hd1 := HT.h1 d1
                  subst hd1
                  clear HT
                  refine wpOp_one rfl rfl (fun K hK => ?_)
                  go_simp
                  exact hK.out _ _ (.mk b0 b1 true b3 b4 b5 b6 b7 b8 b9 b10 b11 b12 b13 b14 b15 b16 b17 b18 _ _ _ _ _ _ _ _ _ _ _ _ _ _ _ _ _ _ _ _ { HTH.out with h2 := fun _ => rfl })
                | 3, _, hi, hib =>
                  have e2 : b2 = true := ready_dep hi rfl 2 (by kernel_rfl)
                  have he2 := HT.h2 e2
                  subst he2
                  have c4 := cell1 ((HT.bel.block _ HL4.out).trans (HBX10.out.get (W2.heap.size + 1 + 1 + 1 + 1 + 1) (.cells #[.slice (some ⟨W2.heap.size + 1 + 1 + 1 + 1, 0, none⟩) 1 1] 48) (by simp)))
                  clear HT
                  refine wpOp_want rfl 2 true rfl rfl (fun K hK => ?_)
                  go_simp
                  exact hK.out _ _ (.mk b0 b1 b2 true b4 b5 b6 b7 b8 b9 b10 b11 b12 b13 b14 b15 b16 b17 b18 _ _ _ _ _ _ _ _ _ _ _ _ _ _ _ _ _ _ _ _ { HTH.out with h3 := fun _ => rfl })
                | 4, _, hi, hib =>
                  have e2 : b2 = true := ready_dep hi rfl 2 (by kernel_rfl)
                  have he2 := HT.h2 e2
                  subst he2
                  obtain ⟨u0, u1, u2, u3⟩ := cells4 ((HT.bel.block _ HLU.out).trans (HBX10.out.get (W9.heap.size) (verC ma (mi + 1) 0 ⟨#[]⟩) (by simp)))
                  clear HT
                  refine wpOp_want rfl 2 true rfl rfl (fun K hK => ?_)
                  go_simp
                  exact hK.out _ _ (.mk b0 b1 b2 b3 true b5 b6 b7 b8 b9 b10 b11 b12 b13 b14 b15 b16 b17 b18 _ _ _ _ _ _ _ _ _ _ _ _ _ _ _ _ _ _ _ _ { HTH.out with h4 := fun _ => rfl })
                | 5, _, hi, hib =>
                  have e2 : b2 = true := ready_dep hi rfl 2 (by kernel_rfl)
                  have he2 := HT.h2 e2
                  subst he2
                  have d3 : b3 = true := ready_dep hi rfl 3 (by kernel_rfl)
                  have hd3 := HT.h3 d3
                  subst hd3
                  have d4 : b4 = true := ready_dep hi rfl 4 (by kernel_rfl)
                  have hd4 := HT.h4 d4
                  subst hd4
                  have hM := HM10.out.1.below HM10.out.2 HT.bel
                  have HC := Lib.hid (hasOf_any ⟨7, ma, mi, pa, s⟩ _ ma (mi + 1) 0 ⟨#[]⟩ w' (HOT10.out.below HT.bel) (by have := HS.out; show s.size < _; omega) (by decide) hM.1 hM.2)
                  rw [HQ7.out] at HC
                  clear hM
                  clear HT
                  refine wpOp_want rfl 2 true rfl rfl (fun K hK => ?_)
                  go_simp
                  refine HC.out.mono ?_
                  rintro e w2 ⟨rfl, hb⟩
                  exact hK.out _ _ (.mk b0 b1 b2 b3 b4 true b6 b7 b8 b9 b10 b11 b12 b13 b14 b15 b16 b17 b18 _ _ _ _ _ _ _ _ _ _ _ _ _ _ _ _ _ _ _ _ { HTH.out with bel := HTH.out.bel.trans (hb.mono HTH.out.bel.size), h5 := fun _ => rfl })
                | 6, _, hi, hib =>
                  have e2 : b2 = true := ready_dep hi rfl 2 (by kernel_rfl)
                  have he2 := HT.h2 e2
                  subst he2
                  have d5 : b5 = true := ready_dep hi rfl 5 (by kernel_rfl)
                  have hd5 := HT.h5 d5
                  subst hd5
                  clear HT
                  refine wpOp_want rfl 2 true rfl rfl (fun K hK => ?_)
                  go_simp
                  exact hK.out _ _ (.mk b0 b1 b2 b3 b4 b5 true b7 b8 b9 b10 b11 b12 b13 b14 b15 b16 b17 b18 _ _ _ _ _ _ _ _ _ _ _ _ _ _ _ _ _ _ _ _ { HTH.out with h6 := fun _ => rfl })
                | 7, _, hi, hib =>
                  have e6 : b6 = true := ready_dep hi rfl 6 (by kernel_rfl)
                  have he6 := HT.h6 e6
                  subst he6
                  have c3 := cell1 ((HT.bel.block _ HL3.out).trans (HBX10.out.get (W2.heap.size + 1 + 1) (.cells #[.slice (some ⟨W2.heap.size + 1, 0, none⟩) 1 1] 48) (by simp)))
                  clear HT
                  refine wpOp_want rfl 6 false rfl rfl (fun K hK => ?_)
                  go_simp
                  exact hK.out _ _ (.mk b0 b1 b2 b3 b4 b5 b6 true b8 b9 b10 b11 b12 b13 b14 b15 b16 b17 b18 _ _ _ _ _ _ _ _ _ _ _ _ _ _ _ _ _ _ _ _ { HTH.out with h7 := fun _ => rfl })
                | 8, _, hi, hib =>
                  have e6 : b6 = true := ready_dep hi rfl 6 (by kernel_rfl)
                  have he6 := HT.h6 e6
                  subst he6
                  obtain ⟨u0, u1, u2, u3⟩ := cells4 ((HT.bel.block _ HLU.out).trans (HBX10.out.get (W9.heap.size) (verC ma (mi + 1) 0 ⟨#[]⟩) (by simp)))
                  clear HT
                  refine wpOp_want rfl 6 false rfl rfl (fun K hK => ?_)
                  go_simp
                  exact hK.out _ _ (.mk b0 b1 b2 b3 b4 b5 b6 b7 true b9 b10 b11 b12 b13 b14 b15 b16 b17 b18 _ _ _ _ _ _ _ _ _ _ _ _ _ _ _ _ _ _ _ _ { HTH.out with h8 := fun _ => rfl })
                | 9, _, hi, hib =>
                  have e6 : b6 = true := ready_dep hi rfl 6 (by kernel_rfl)
                  have he6 := HT.h6 e6
                  subst he6
                  have d7 : b7 = true := ready_dep hi rfl 7 (by kernel_rfl)
                  have hd7 := HT.h7 d7
                  subst hd7
                  have d8 : b8 = true := ready_dep hi rfl 8 (by kernel_rfl)
                  have hd8 := HT.h8 d8
                  subst hd8
                  have hM := HM10.out.1.below HM10.out.2 HT.bel
                  have HC := Lib.hid (hasOf_any ⟨6, ma, mi, pa, s⟩ _ ma (mi + 1) 0 ⟨#[]⟩ w' (HOC10.out.below HT.bel) (by have := HS.out; show s.size < _; omega) (by decide) hM.1 hM.2)
                  rw [HQ6.out] at HC
                  clear hM
                  clear HT
                  refine wpOp_want rfl 6 false rfl rfl (fun K hK => ?_)
                  go_simp
                  refine HC.out.mono ?_
                  rintro e w2 ⟨rfl, hb⟩
                  exact hK.out _ _ (.mk b0 b1 b2 b3 b4 b5 b6 b7 b8 true b10 b11 b12 b13 b14 b15 b16 b17 b18 _ _ _ _ _ _ _ _ _ _ _ _ _ _ _ _ _ _ _ _ { HTH.out with bel := HTH.out.bel.trans (hb.mono HTH.out.bel.size), h9 := fun _ => rfl })
                | 10, _, hi, hib =>
                  have e6 : b6 = true := ready_dep hi rfl 6 (by kernel_rfl)
                  have he6 := HT.h6 e6
                  subst he6
                  clear HT
                  refine wpOp_want rfl 6 false rfl rfl (fun K hK => ?_)
                  go_simp
                  exact hK.out _ _ (.mk b0 b1 b2 b3 b4 b5 b6 b7 b8 b9 true b11 b12 b13 b14 b15 b16 b17 b18 _ _ _ _ _ _ _ _ _ _ _ _ _ _ _ _ _ _ _ _ { HTH.out with h10 := fun _ => rfl })
                | 11, _, hi, hib =>
                  have e6 : b6 = true := ready_dep hi rfl 6 (by kernel_rfl)
                  have he6 := HT.h6 e6
                  subst he6
                  have d10 : b10 = true := ready_dep hi rfl 10 (by kernel_rfl)
                  have hd10 := HT.h10 d10
                  subst hd10
                  obtain ⟨y0, y1, y2, y3⟩ := cells4 ((HT.bel.block _ HL1.out).trans (HBX10.out.get (w.heap.size) (verC ma mi pa s) (by simp)))
                  clear HT
                  refine wpOp_want rfl 6 false rfl rfl (fun K hK => ?_)
                  go_simp
                  exact hK.out _ _ (.mk b0 b1 b2 b3 b4 b5 b6 b7 b8 b9 b10 true b12 b13 b14 b15 b16 b17 b18 _ _ _ _ _ _ _ _ _ _ _ _ _ _ _ _ _ _ _ _ { HTH.out with h11 := fun _ => rfl })
                | 12, _, hi, hib =>
                  have e6 : b6 = true := ready_dep hi rfl 6 (by kernel_rfl)
                  have he6 := HT.h6 e6
                  subst he6
                  have d11 : b11 = true := ready_dep hi rfl 11 (by kernel_rfl)
                  have hd11 := HT.h11 d11
                  subst hd11
                  have da := HDA.out
                  clear HT
                  refine wpOp_want rfl 6 false rfl rfl (fun K hK => ?_)
                  go_simp
                  exact hK.out _ _ (.mk b0 b1 b2 b3 b4 b5 b6 b7 b8 b9 b10 b11 true b13 b14 b15 b16 b17 b18 _ _ _ _ _ _ _ _ _ _ _ _ _ _ _ _ _ _ _ _ { HTH.out with h12 := fun _ => rfl })
                | 13, _, hi, hib =>
                  have e6 : b6 = true := ready_dep hi rfl 6 (by kernel_rfl)
                  have he6 := HT.h6 e6
                  subst he6
                  have d12 : b12 = true := ready_dep hi rfl 12 (by kernel_rfl)
                  have hd12 := HT.h12 d12
                  subst hd12
                  clear HT
                  refine wpOp_want rfl 6 false rfl rfl (fun K hK => ?_)
                  go_simp
                  exact hK.out _ _ (.mk b0 b1 b2 b3 b4 b5 b6 b7 b8 b9 b10 b11 b12 true b14 b15 b16 b17 b18 _ _ _ _ _ _ _ _ _ _ _ _ _ _ _ _ _ _ _ _ { HTH.out with h13 := fun _ => rfl })
                | 14, _, hi, hib =>
                  have e13 : b13 = true := ready_dep hi rfl 13 (by kernel_rfl)
                  have he13 := HT.h13 e13
                  subst he13
                  refine wpOp_skip rfl 13 false rfl rfl ?_
                  exact .mk b0 b1 b2 b3 b4 b5 b6 b7 b8 b9 b10 b11 b12 b13 true b15 b16 b17 b18 _ _ _ _ _ _ _ _ _ _ _ _ _ _ _ _ _ _ _ _ { HT with h14 := fun _ => rfl }
                | 15, _, hi, hib =>
                  have e6 : b6 = true := ready_dep hi rfl 6 (by kernel_rfl)
                  have he6 := HT.h6 e6
                  subst he6
                  have d13 : b13 = true := ready_dep hi rfl 13 (by kernel_rfl)
                  have hd13 := HT.h13 d13
                  subst hd13
                  have d14 : b14 = true := ready_dep hi rfl 14 (by kernel_rfl)
                  have hd14 := HT.h14 d14
                  subst hd14
                  clear HT
                  refine wpOp_want rfl 6 false rfl rfl (fun K hK => ?_)
                  go_simp
                  exact hK.out _ _ (.mk b0 b1 b2 b3 b4 b5 b6 b7 b8 b9 b10 b11 b12 b13 b14 true b16 b17 b18 _ _ _ _ _ _ _ _ _ _ _ _ _ _ _ _ _ _ _ _ { HTH.out with h15 := fun _ => rfl })
                | 16, _, hi, hib =>
                  have e6 : b6 = true := ready_dep hi rfl 6 (by kernel_rfl)
                  have he6 := HT.h6 e6
                  subst he6
                  have d9 : b9 = true := ready_dep hi rfl 9 (by kernel_rfl)
                  have hd9 := HT.h9 d9
                  subst hd9
                  have d15 : b15 = true := ready_dep hi rfl 15 (by kernel_rfl)
                  have hd15 := HT.h15 d15
                  subst hd15
                  clear HT
                  refine wpOp_want rfl 6 false rfl rfl (fun K hK => ?_)
                  go_simp
                  exact hK.out _ _ (.mk b0 b1 b2 b3 b4 b5 b6 b7 b8 b9 b10 b11 b12 b13 b14 b15 true b17 b18 _ _ _ _ _ _ _ _ _ _ _ _ _ _ _ _ _ _ _ _ { HTH.out with h16 := fun _ => rfl })
                | 17, _, hi, hib =>
                  have e2 : b2 = true := ready_dep hi rfl 2 (by kernel_rfl)
                  have he2 := HT.h2 e2
                  subst he2
                  have d6 : b6 = true := ready_dep hi rfl 6 (by kernel_rfl)
                  have hd6 := HT.h6 d6
                  subst hd6
                  have d16 : b16 = true := ready_dep hi rfl 16 (by kernel_rfl)
                  have hd16 := HT.h16 d16
                  subst hd16
                  clear HT
                  refine wpOp_want rfl 2 true rfl rfl (fun K hK => ?_)
                  go_simp
                  exact hK.out _ _ (.mk b0 b1 b2 b3 b4 b5 b6 b7 b8 b9 b10 b11 b12 b13 b14 b15 b16 true b18 _ _ _ _ _ _ _ _ _ _ _ _ _ _ _ _ _ _ _ _ { HTH.out with h17 := fun _ => rfl })
                | 18, _, hi, hib =>
                  have d2 : b2 = true := ready_dep hi rfl 2 (by kernel_rfl)
                  have hd2 := HT.h2 d2
                  subst hd2
                  have d17 : b17 = true := ready_dep hi rfl 17 (by kernel_rfl)
                  have hd17 := HT.h17 d17
                  subst hd17
                  clear HT
                  refine wpOp_one rfl rfl (fun K hK => ?_)
                  go_simp
                  exact hK.out _ _ (.mk b0 b1 b2 b3 b4 b5 b6 b7 b8 b9 b10 b11 b12 b13 b14 b15 b16 b17 true _ _ _ _ _ _ _ _ _ _ _ _ _ _ _ _ _ _ _ _ { HTH.out with h18 := fun _ => rfl })
              case fin =>
                rintro l a' w' ⟨b0, b1, b2, b3, b4, b5, b6, b7, b8, b9, b10, b11, b12, b13, b14, b15, b16, b17, b18, v83, v84, v85, v86, v87, v88, v89, v90, v91, v92, v93, v94, v95, v96, v97, v98, v99, v100, v101, _, HT⟩ hr
                obtain rfl : b0 = true := by
                  cases b0 with
                  | true => rfl
                  | false => exact (ready_in 0 rfl rfl (by simp [Region.binds]) hr).elim
                obtain rfl : b1 = true := by
                  cases b1 with
                  | true => rfl
                  | false => exact (ready_in 1 rfl rfl (by simp [Region.binds]) hr).elim
                obtain rfl : b2 = true := by
                  cases b2 with
                  | true => rfl
                  | false => exact (ready_in 2 rfl rfl (by simp [Region.binds]) hr).elim
                obtain rfl : b3 = true := by
                  cases b3 with
                  | true => rfl
                  | false => exact (ready_in 3 rfl rfl (by simp [Region.binds]) hr).elim
                obtain rfl : b4 = true := by
                  cases b4 with
                  | true => rfl
                  | false => exact (ready_in 4 rfl rfl (by simp [Region.binds]) hr).elim
                obtain rfl : b5 = true := by
                  cases b5 with
                  | true => rfl
                  | false => exact (ready_in 5 rfl rfl (by simp [Region.binds]) hr).elim
                obtain rfl : b6 = true := by
                  cases b6 with
                  | true => rfl
                  | false => exact (ready_in 6 rfl rfl (by simp [Region.binds]) hr).elim
                obtain rfl : b7 = true := by
                  cases b7 with
                  | true => rfl
                  | false => exact (ready_in 7 rfl rfl (by simp [Region.binds]) hr).elim
                obtain rfl : b8 = true := by
                  cases b8 with
                  | true => rfl
                  | false => exact (ready_in 8 rfl rfl (by simp [Region.binds]) hr).elim
                obtain rfl : b9 = true := by
                  cases b9 with
                  | true => rfl
                  | false => exact (ready_in 9 rfl rfl (by simp [Region.binds]) hr).elim
                obtain rfl : b10 = true := by
                  cases b10 with
                  | true => rfl
                  | false => exact (ready_in 10 rfl rfl (by simp [Region.binds]) hr).elim
                obtain rfl : b11 = true := by
                  cases b11 with
                  | true => rfl
                  | false => exact (ready_in 11 rfl rfl (by simp [Region.binds]) hr).elim
                obtain rfl : b12 = true := by
                  cases b12 with
                  | true => rfl
                  | false => exact (ready_in 12 rfl rfl (by simp [Region.binds]) hr).elim
                obtain rfl : b13 = true := by
                  cases b13 with
                  | true => rfl
                  | false => exact (ready_in 13 rfl rfl (by simp [Region.binds]) hr).elim
                obtain rfl : b14 = true := by
                  cases b14 with
                  | true => rfl
                  | false => exact (ready_in 14 rfl rfl (by simp [Region.binds]) hr).elim
                obtain rfl : b15 = true := by
                  cases b15 with
                  | true => rfl
                  | false => exact (ready_in 15 rfl rfl (by simp [Region.binds]) hr).elim
                obtain rfl : b16 = true := by
                  cases b16 with
                  | true => rfl
                  | false => exact (ready_in 16 rfl rfl (by simp [Region.binds]) hr).elim
                obtain rfl : b17 = true := by
                  cases b17 with
                  | true => rfl
                  | false => exact (ready_in 17 rfl rfl (by simp [Region.binds]) hr).elim
                obtain rfl : b18 = true := by
                  cases b18 with
                  | true => rfl
                  | false => exact (ready_in 18 rfl rfl (by simp [Region.binds]) hr).elim
                have k0 := HT.h0 rfl
                subst k0
                have k1 := HT.h1 rfl
                subst k1
                have k2 := HT.h2 rfl
                subst k2
                have k3 := HT.h3 rfl
                subst k3
                have k4 := HT.h4 rfl
                subst k4
                have k5 := HT.h5 rfl
                subst k5
                have k6 := HT.h6 rfl
                subst k6
                have k7 := HT.h7 rfl
                subst k7
                have k8 := HT.h8 rfl
                subst k8
                have k9 := HT.h9 rfl
                subst k9
                have k10 := HT.h10 rfl
                subst k10
                have k11 := HT.h11 rfl
                subst k11
                have k12 := HT.h12 rfl
                subst k12
                have k13 := HT.h13 rfl
                subst k13
                have k14 := HT.h14 rfl
                subst k14
                have k15 := HT.h15 rfl
                subst k15
                have k16 := HT.h16 rfl
                subst k16
                have k17 := HT.h17 rfl
                subst k17
                have k18 := HT.h18 rfl
                subst k18
                have HF := HT.bel
                clear HT hr
                show _
                go_wp2_with fail
                go_meet
                exact ⟨rfl, HF⟩
            · have HDA : Hid (decide (0 < ma) = false) := Lib.hid (decide_eq_false ha)
              clear ha
              cases o with
              | true =>
                have HQ7 : Hid (hasR [[⟨7, ma, mi, pa, s⟩]] ⟨ma, mi + 1, 0, bs ⟨#[]⟩⟩ = false) := Lib.hid ((HQT.out _ (right_min HR.out h9)).trans (tilde_min HR.out h9))
                have HQ6 : Hid (hasR [[⟨6, ma, mi, pa, s⟩]] ⟨ma, mi + 1, 0, bs ⟨#[]⟩⟩ = true) := Lib.hid ((HQC.out _ (right_min HR.out h9)).trans ((caret_min HR.out h9).trans (by rw [HOP.out, HDA.out]; rfl)))
                clear h9
                refine wp_region_inv (by kernel_rfl) (I := CbJ W10 ma mi pa s w.heap.size (.agg #[.slice (some ⟨W2.heap.size + 1, 0, none⟩) 1 1]) (.agg #[.slice (some ⟨W2.heap.size + 1 + 1 + 1 + 1, 0, none⟩) 1 1]) _ _ _ _ _ _ _ _ _ _ _ _ _ _ _ _ _ _ _ _ _ _ _ _ _ _ _ _ _ _ _ _ _ _ _ _ _ _ _ _ _ _ _ _ _ _ _ _ _ _ _ _ _ _ _ _ _ _ _ _ _ _ _ _ _ _ _ _ _ _ _ _ _ _ _ _ _ _ _ _ _ _ _ _ _ _ _ _ _ _ _ _ _ _ _ _ _ _ _ _ _ _ _ _ _ _ _ _ _ _ _ _ _ _ _) (.mk false false false false false false false false false false false false false false false false false false false _ _ _ _ _ _ _ _ _ _ _ _ _ _ _ _ _ _ _ _ ⟨(Below.refl _ W10).drew, nofun, nofun, nofun, nofun, nofun, nofun, nofun, nofun, nofun, nofun, nofun, nofun, nofun, nofun, nofun, nofun, nofun, nofun, nofun⟩) ?step ?fin
                case step =>
                  rintro l a' w' i ⟨b0, b1, b2, b3, b4, b5, b6, b7, b8, b9, b10, b11, b12, b13, b14, b15, b16, b17, b18, v83, v84, v85, v86, v87, v88, v89, v90, v91, v92, v93, v94, v95, v96, v97, v98, v99, v100, v101, _, HT⟩ hi
                  obtain ⟨hi_, hib⟩ := ready_lt hi
                  have HTH := Lib.hid HT
                  match i, hi_, hi, hib with
                  | 0, _, hi, hib =>
                    clear HT
                    refine wpOp_one rfl rfl (fun K hK => ?_)
                    go_simp
                    exact hK.out _ _ (.mk true b1 b2 b3 b4 b5 b6 b7 b8 b9 b10 b11 b12 b13 b14 b15 b16 b17 b18 _ _ _ _ _ _ _ _ _ _ _ _ _ _ _ _ _ _ _ _ { HTH.out with h0 := fun _ => rfl })
                  | 1, _, hi, hib =>
                    have d0 : b0 = true := ready_dep hi rfl 0 (by kernel_rfl)
                    have hd0 := HT.h0 d0
                    subst hd0
                    clear HT
                    refine wpOp_one rfl rfl (fun K hK => ?_)
                    go_simp
                    exact hK.out _ _ (.mk b0 true b2 b3 b4 b5 b6 b7 b8 b9 b10 b11 b12 b13 b14 b15 b16 b17 b18 _ _ _ _ _ _ _ _ _ _ _ _ _ _ _ _ _ _ _ _ { HTH.out with h1 := fun _ => rfl })
                  | 2, _, hi, hib =>
                    have d1 : b1 = true := ready_dep hi rfl 1 (by kernel_rfl)
                    have hd1 := HT.h1 d1
                    subst hd1
                    clear HT
                    refine wpOp_one rfl rfl (fun K hK => ?_)
                    go_simp
                    exact hK.out _ _ (.mk b0 b1 true b3 b4 b5 b6 b7 b8 b9 b10 b11 b12 b13 b14 b15 b16 b17 b18 _ _ _ _ _ _ _ _ _ _ _ _ _ _ _ _ _ _ _ _ { HTH.out with h2 := fun _ => rfl })
                  | 3, _, hi, hib =>
                    have e2 : b2 = true := ready_dep hi rfl 2 (by kernel_rfl)
                    have he2 := HT.h2 e2
                    subst he2
                    have c4 := cell1 ((HT.bel.block _ HL4.out).trans (HBX10.out.get (W2.heap.size + 1 + 1 + 1 + 1 + 1) (.cells #[.slice (some ⟨W2.heap.size + 1 + 1 + 1 + 1, 0, none⟩) 1 1] 48) (by simp)))
                    clear HT
                    refine wpOp_want rfl 2 true rfl rfl (fun K hK => ?_)
                    go_simp
                    exact hK.out _ _ (.mk b0 b1 b2 true b4 b5 b6 b7 b8 b9 b10 b11 b12 b13 b14 b15 b16 b17 b18 _ _ _ _ _ _ _ _ _ _ _ _ _ _ _ _ _ _ _ _ { HTH.out with h3 := fun _ => rfl })
                  | 4, _, hi, hib =>
                    have e2 : b2 = true := ready_dep hi rfl 2 (by kernel_rfl)
                    have he2 := HT.h2 e2
                    subst he2
                    obtain ⟨u0, u1, u2, u3⟩ := cells4 ((HT.bel.block _ HLU.out).trans (HBX10.out.get (W9.heap.size) (verC ma (mi + 1) 0 ⟨#[]⟩) (by simp)))
                    clear HT
                    refine wpOp_want rfl 2 true rfl rfl (fun K hK => ?_)
                    go_simp
                    exact hK.out _ _ (.mk b0 b1 b2 b3 true b5 b6 b7 b8 b9 b10 b11 b12 b13 b14 b15 b16 b17 b18 _ _ _ _ _ _ _ _ _ _ _ _ _ _ _ _ _ _ _ _ { HTH.out with h4 := fun _ => rfl })
                  | 5, _, hi, hib =>
                    have e2 : b2 = true := ready_dep hi rfl 2 (by kernel_rfl)
                    have he2 := HT.h2 e2
                    subst he2
                    have d3 : b3 = true := ready_dep hi rfl 3 (by kernel_rfl)
                    have hd3 := HT.h3 d3
                    subst hd3
                    have d4 : b4 = true := ready_dep hi rfl 4 (by kernel_rfl)
                    have hd4 := HT.h4 d4
                    subst hd4
                    have hM := HM10.out.1.below HM10.out.2 HT.bel
                    have HC := Lib.hid (hasOf_any ⟨7, ma, mi, pa, s⟩ _ ma (mi + 1) 0 ⟨#[]⟩ w' (HOT10.out.below HT.bel) (by have := HS.out; show s.size < _; omega) (by decide) hM.1 hM.2)
                    rw [HQ7.out] at HC
                    clear hM
                    clear HT
                    refine wpOp_want rfl 2 true rfl rfl (fun K hK => ?_)
                    go_simp
                    refine HC.out.mono ?_
                    rintro e w2 ⟨rfl, hb⟩
                    exact hK.out _ _ (.mk b0 b1 b2 b3 b4 true b6 b7 b8 b9 b10 b11 b12 b13 b14 b15 b16 b17 b18 _ _ _ _ _ _ _ _ _ _ _ _ _ _ _ _ _ _ _ _ { HTH.out with bel := HTH.out.bel.trans (hb.mono HTH.out.bel.size), h5 := fun _ => rfl })
                  | 6, _, hi, hib =>
                    have e2 : b2 = true := ready_dep hi rfl 2 (by kernel_rfl)
                    have he2 := HT.h2 e2
                    subst he2
                    have d5 : b5 = true := ready_dep hi rfl 5 (by kernel_rfl)
                    have hd5 := HT.h5 d5
                    subst hd5
                    clear HT
                    refine wpOp_want rfl 2 true rfl rfl (fun K hK => ?_)
                    go_simp
                    exact hK.out _ _ (.mk b0 b1 b2 b3 b4 b5 true b7 b8 b9 b10 b11 b12 b13 b14 b15 b16 b17 b18 _ _ _ _ _ _ _ _ _ _ _ _ _ _ _ _ _ _ _ _ { HTH.out with h6 := fun _ => rfl })
                  | 7, _, hi, hib =>
                    have e6 : b6 = true := ready_dep hi rfl 6 (by kernel_rfl)
                    have he6 := HT.h6 e6
                    subst he6
                    have c3 := cell1 ((HT.bel.block _ HL3.out).trans (HBX10.out.get (W2.heap.size + 1 + 1) (.cells #[.slice (some ⟨W2.heap.size + 1, 0, none⟩) 1 1] 48) (by simp)))
                    clear HT
                    refine wpOp_want rfl 6 false rfl rfl (fun K hK => ?_)
                    go_simp
                    exact hK.out _ _ (.mk b0 b1 b2 b3 b4 b5 b6 true b8 b9 b10 b11 b12 b13 b14 b15 b16 b17 b18 _ _ _ _ _ _ _ _ _ _ _ _ _ _ _ _ _ _ _ _ { HTH.out with h7 := fun _ => rfl })
                  | 8, _, hi, hib =>
                    have e6 : b6 = true := ready_dep hi rfl 6 (by kernel_rfl)
                    have he6 := HT.h6 e6
                    subst he6
                    obtain ⟨u0, u1, u2, u3⟩ := cells4 ((HT.bel.block _ HLU.out).trans (HBX10.out.get (W9.heap.size) (verC ma (mi + 1) 0 ⟨#[]⟩) (by simp)))
                    clear HT
                    refine wpOp_want rfl 6 false rfl rfl (fun K hK => ?_)
                    go_simp
                    exact hK.out _ _ (.mk b0 b1 b2 b3 b4 b5 b6 b7 true b9 b10 b11 b12 b13 b14 b15 b16 b17 b18 _ _ _ _ _ _ _ _ _ _ _ _ _ _ _ _ _ _ _ _ { HTH.out with h8 := fun _ => rfl })
                  | 9, _, hi, hib =>
                    have e6 : b6 = true := ready_dep hi rfl 6 (by kernel_rfl)
                    have he6 := HT.h6 e6
                    subst he6
                    have d7 : b7 = true := ready_dep hi rfl 7 (by kernel_rfl)
                    have hd7 := HT.h7 d7
                    subst hd7
                    have d8 : b8 = true := ready_dep hi rfl 8 (by kernel_rfl)
                    have hd8 := HT.h8 d8
                    subst hd8
                    have hM := HM10.out.1.below HM10.out.2 HT.bel
                    have HC := Lib.hid (hasOf_any ⟨6, ma, mi, pa, s⟩ _ ma (mi + 1) 0 ⟨#[]⟩ w' (HOC10.out.below HT.bel) (by have := HS.out; show s.size < _; omega) (by decide) hM.1 hM.2)
                    rw [HQ6.out] at HC
                    clear hM
                    clear HT
                    refine wpOp_want rfl 6 false rfl rfl (fun K hK => ?_)
                    go_simp
                    refine HC.out.mono ?_
                    rintro e w2 ⟨rfl, hb⟩
                    exact hK.out _ _ (.mk b0 b1 b2 b3 b4 b5 b6 b7 b8 true b10 b11 b12 b13 b14 b15 b16 b17 b18 _ _ _ _ _ _ _ _ _ _ _ _ _ _ _ _ _ _ _ _ { HTH.out with bel := HTH.out.bel.trans (hb.mono HTH.out.bel.size), h9 := fun _ => rfl })
                  | 10, _, hi, hib =>
                    have e6 : b6 = true := ready_dep hi rfl 6 (by kernel_rfl)
                    have he6 := HT.h6 e6
                    subst he6
                    clear HT
                    refine wpOp_want rfl 6 false rfl rfl (fun K hK => ?_)
                    go_simp
                    exact hK.out _ _ (.mk b0 b1 b2 b3 b4 b5 b6 b7 b8 b9 true b11 b12 b13 b14 b15 b16 b17 b18 _ _ _ _ _ _ _ _ _ _ _ _ _ _ _ _ _ _ _ _ { HTH.out with h10 := fun _ => rfl })
                  | 11, _, hi, hib =>
                    have e6 : b6 = true := ready_dep hi rfl 6 (by kernel_rfl)
                    have he6 := HT.h6 e6
                    subst he6
                    have d10 : b10 = true := ready_dep hi rfl 10 (by kernel_rfl)
                    have hd10 := HT.h10 d10
                    subst hd10
                    obtain ⟨y0, y1, y2, y3⟩ := cells4 ((HT.bel.block _ HL1.out).trans (HBX10.out.get (w.heap.size) (verC ma mi pa s) (by simp)))
                    clear HT
                    refine wpOp_want rfl 6 false rfl rfl (fun K hK => ?_)
                    go_simp
                    exact hK.out _ _ (.mk b0 b1 b2 b3 b4 b5 b6 b7 b8 b9 b10 true b12 b13 b14 b15 b16 b17 b18 _ _ _ _ _ _ _ _ _ _ _ _ _ _ _ _ _ _ _ _ { HTH.out with h11 := fun _ => rfl })
                  | 12, _, hi, hib =>
                    have e6 : b6 = true := ready_dep hi rfl 6 (by kernel_rfl)
                    have he6 := HT.h6 e6
                    subst he6
                    have d11 : b11 = true := ready_dep hi rfl 11 (by kernel_rfl)
                    have hd11 := HT.h11 d11
                    subst hd11
                    have da := HDA.out
                    clear HT
                    refine wpOp_want rfl 6 false rfl rfl (fun K hK => ?_)
                    go_simp
                    exact hK.out _ _ (.mk b0 b1 b2 b3 b4 b5 b6 b7 b8 b9 b10 b11 true b13 b14 b15 b16 b17 b18 _ _ _ _ _ _ _ _ _ _ _ _ _ _ _ _ _ _ _ _ { HTH.out with h12 := fun _ => rfl })
                  | 13, _, hi, hib =>
                    have e6 : b6 = true := ready_dep hi rfl 6 (by kernel_rfl)
                    have he6 := HT.h6 e6
                    subst he6
                    have d12 : b12 = true := ready_dep hi rfl 12 (by kernel_rfl)
                    have hd12 := HT.h12 d12
                    subst hd12
                    clear HT
                    refine wpOp_want rfl 6 false rfl rfl (fun K hK => ?_)
                    go_simp
                    exact hK.out _ _ (.mk b0 b1 b2 b3 b4 b5 b6 b7 b8 b9 b10 b11 b12 true b14 b15 b16 b17 b18 _ _ _ _ _ _ _ _ _ _ _ _ _ _ _ _ _ _ _ _ { HTH.out with h13 := fun _ => rfl })
                  | 14, _, hi, hib =>
                    have e13 : b13 = true := ready_dep hi rfl 13 (by kernel_rfl)
                    have he13 := HT.h13 e13
                    subst he13
                    clear HT
                    refine wpOp_want rfl 13 false rfl rfl (fun K hK => ?_)
                    go_simp
                    exact hK.out _ _ (.mk b0 b1 b2 b3 b4 b5 b6 b7 b8 b9 b10 b11 b12 b13 true b15 b16 b17 b18 _ _ _ _ _ _ _ _ _ _ _ _ _ _ _ _ _ _ _ _ { HTH.out with h14 := fun _ => rfl })
                  | 15, _, hi, hib =>
                    have e6 : b6 = true := ready_dep hi rfl 6 (by kernel_rfl)
                    have he6 := HT.h6 e6
                    subst he6
                    have d13 : b13 = true := ready_dep hi rfl 13 (by kernel_rfl)
                    have hd13 := HT.h13 d13
                    subst hd13
                    have d14 : b14 = true := ready_dep hi rfl 14 (by kernel_rfl)
                    have hd14 := HT.h14 d14
                    subst hd14
                    clear HT
                    refine wpOp_want rfl 6 false rfl rfl (fun K hK => ?_)
                    go_simp
                    exact hK.out _ _ (.mk b0 b1 b2 b3 b4 b5 b6 b7 b8 b9 b10 b11 b12 b13 b14 true b16 b17 b18 _ _ _ _ _ _ _ _ _ _ _ _ _ _ _ _ _ _ _ _ { HTH.out with h15 := fun _ => rfl })
                  | 16, _, hi, hib =>
                    have e6 : b6 = true := ready_dep hi rfl 6 (by kernel_rfl)
                    have he6 := HT.h6 e6
                    subst he6
                    have d9 : b9 = true := ready_dep hi rfl 9 (by kernel_rfl)
                    have hd9 := HT.h9 d9
                    subst hd9
                    have d15 : b15 = true := ready_dep hi rfl 15 (by kernel_rfl)
                    have hd15 := HT.h15 d15
                    subst hd15
                    clear HT
                    refine wpOp_want rfl 6 false rfl rfl (fun K hK => ?_)
                    go_simp
                    exact hK.out _ _ (.mk b0 b1 b2 b3 b4 b5 b6 b7 b8 b9 b10 b11 b12 b13 b14 b15 true b17 b18 _ _ _ _ _ _ _ _ _ _ _ _ _ _ _ _ _ _ _ _ { HTH.out with h16 := fun _ => rfl })
                  | 17, _, hi, hib =>
                    have e2 : b2 = true := ready_dep hi rfl 2 (by kernel_rfl)
                    have he2 := HT.h2 e2
                    subst he2
                    have d6 : b6 = true := ready_dep hi rfl 6 (by kernel_rfl)
                    have hd6 := HT.h6 d6
                    subst hd6
                    have d16 : b16 = true := ready_dep hi rfl 16 (by kernel_rfl)
                    have hd16 := HT.h16 d16
                    subst hd16
                    clear HT
                    refine wpOp_want rfl 2 true rfl rfl (fun K hK => ?_)
                    go_simp
                    exact hK.out _ _ (.mk b0 b1 b2 b3 b4 b5 b6 b7 b8 b9 b10 b11 b12 b13 b14 b15 b16 true b18 _ _ _ _ _ _ _ _ _ _ _ _ _ _ _ _ _ _ _ _ { HTH.out with h17 := fun _ => rfl })
                  | 18, _, hi, hib =>
                    have d2 : b2 = true := ready_dep hi rfl 2 (by kernel_rfl)
                    have hd2 := HT.h2 d2
                    subst hd2
                    have d17 : b17 = true := ready_dep hi rfl 17 (by kernel_rfl)
                    have hd17 := HT.h17 d17
                    subst hd17
                    clear HT
                    refine wpOp_one rfl rfl (fun K hK => ?_)
                    go_simp
                    exact hK.out _ _ (.mk b0 b1 b2 b3 b4 b5 b6 b7 b8 b9 b10 b11 b12 b13 b14 b15 b16 b17 true _ _ _ _ _ _ _ _ _ _ _ _ _ _ _ _ _ _ _ _ { HTH.out with h18 := fun _ => rfl })
                case fin =>
                  rintro l a' w' ⟨b0, b1, b2, b3, b4, b5, b6, b7, b8, b9, b10, b11, b12, b13, b14, b15, b16, b17, b18, v83, v84, v85, v86, v87, v88, v89, v90, v91, v92, v93, v94, v95, v96, v97, v98, v99, v100, v101, _, HT⟩ hr
                  obtain rfl : b0 = true := by
                    cases b0 with
                    | true => rfl
                    | false => exact (ready_in 0 rfl rfl (by simp [Region.binds]) hr).elim
                  obtain rfl : b1 = true := by
                    cases b1 with
                    | true => rfl
                    | false => exact (ready_in 1 rfl rfl (by simp [Region.binds]) hr).elim
                  obtain rfl : b2 = true := by
                    cases b2 with
                    | true => rfl
                    | false => exact (ready_in 2 rfl rfl (by simp [Region.binds]) hr).elim
                  obtain rfl : b3 = true := by
                    cases b3 with
                    | true => rfl
                    | false => exact (ready_in 3 rfl rfl (by simp [Region.binds]) hr).elim
                  obtain rfl : b4 = true := by
                    cases b4 with
                    | true => rfl
                    | false => exact (ready_in 4 rfl rfl (by simp [Region.binds]) hr).elim
                  obtain rfl : b5 = true := by
                    cases b5 with
                    | true => rfl
                    | false => exact (ready_in 5 rfl rfl (by simp [Region.binds]) hr).elim
                  obtain rfl : b6 = true := by
                    cases b6 with
                    | true => rfl
                    | false => exact (ready_in 6 rfl rfl (by simp [Region.binds]) hr).elim
                  obtain rfl : b7 = true := by
                    cases b7 with
                    | true => rfl
                    | false => exact (ready_in 7 rfl rfl (by simp [Region.binds]) hr).elim
                  obtain rfl : b8 = true := by
                    cases b8 with
                    | true => rfl
                    | false => exact (ready_in 8 rfl rfl (by simp [Region.binds]) hr).elim
                  obtain rfl : b9 = true := by
                    cases b9 with
                    | true => rfl
                    | false => exact (ready_in 9 rfl rfl (by simp [Region.binds]) hr).elim
                  obtain rfl : b10 = true := by
                    cases b10 with
                    | true => rfl
                    | false => exact (ready_in 10 rfl rfl (by simp [Region.binds]) hr).elim
                  obtain rfl : b11 = true := by
                    cases b11 with
                    | true => rfl
                    | false => exact (ready_in 11 rfl rfl (by simp [Region.binds]) hr).elim
                  obtain rfl : b12 = true := by
                    cases b12 with
                    | true => rfl
                    | false => exact (ready_in 12 rfl rfl (by simp [Region.binds]) hr).elim
                  obtain rfl : b13 = true := by
                    cases b13 with
                    | true => rfl
                    | false => exact (ready_in 13 rfl rfl (by simp [Region.binds]) hr).elim
                  obtain rfl : b14 = true := by
                    cases b14 with
                    | true => rfl
                    | false => exact (ready_in 14 rfl rfl (by simp [Region.binds]) hr).elim
                  obtain rfl : b15 = true := by
                    cases b15 with
                    | true => rfl
                    | false => exact (ready_in 15 rfl rfl (by simp [Region.binds]) hr).elim
                  obtain rfl : b16 = true := by
                    cases b16 with
                    | true => rfl
                    | false => exact (ready_in 16 rfl rfl (by simp [Region.binds]) hr).elim
                  obtain rfl : b17 = true := by
                    cases b17 with
                    | true => rfl
                    | false => exact (ready_in 17 rfl rfl (by simp [Region.binds]) hr).elim
                  obtain rfl : b18 = true := by
                    cases b18 with
                    | true => rfl
                    | false => exact (ready_in 18 rfl rfl (by simp [Region.binds]) hr).elim
                  have k0 := HT.h0 rfl
                  subst k0
                  have k1 := HT.h1 rfl
                  subst k1
                  have k2 := HT.h2 rfl
                  subst k2
                  have k3 := HT.h3 rfl
                  subst k3
                  have k4 := HT.h4 rfl
                  subst k4
                  have k5 := HT.h5 rfl
                  subst k5
                  have k6 := HT.h6 rfl
                  subst k6
                  have k7 := HT.h7 rfl
                  subst k7
                  have k8 := HT.h8 rfl
                  subst k8
                  have k9 := HT.h9 rfl
                  subst k9
                  have k10 := HT.h10 rfl
                  subst k10
                  have k11 := HT.h11 rfl
                  subst k11
                  have k12 := HT.h12 rfl
                  subst k12
                  have k13 := HT.h13 rfl
                  subst k13
                  have k14 := HT.h14 rfl
                  subst k14
                  have k15 := HT.h15 rfl
                  subst k15
                  have k16 := HT.h16 rfl
                  subst k16
                  have k17 := HT.h17 rfl
                  subst k17
                  have k18 := HT.h18 rfl
                  subst k18
                  have HF := HT.bel
                  clear HT hr
                  show _
                  go_wp2_with fail
                  go_meet
                  exact ⟨rfl, HF⟩
              | false =>
                have HQ7 : Hid (hasR [[⟨7, ma, mi, pa, s⟩]] ⟨ma, mi + 1, 0, bs ⟨#[]⟩⟩ = false) := Lib.hid ((HQT.out _ (right_min HR.out h9)).trans (tilde_min HR.out h9))
                have HQ6 : Hid (hasR [[⟨6, ma, mi, pa, s⟩]] ⟨ma, mi + 1, 0, bs ⟨#[]⟩⟩ = false) := Lib.hid ((HQC.out _ (right_min HR.out h9)).trans ((caret_min HR.out h9).trans (by rw [HOP.out, HDA.out]; rfl)))
                clear h9
                refine wp_region_inv (by kernel_rfl) (I := CcJ W10 ma mi pa s w.heap.size (.agg #[.slice (some ⟨W2.heap.size + 1, 0, none⟩) 1 1]) (.agg #[.slice (some ⟨W2.heap.size + 1 + 1 + 1 + 1, 0, none⟩) 1 1]) _ _ _ _ _ _ _ _ _ _ _ _ _ _ _ _ _ _ _ _ _ _ _ _ _ _ _ _ _ _ _ _ _ _ _ _ _ _ _ _ _ _ _ _ _ _ _ _ _ _ _ _ _ _ _ _ _ _ _ _ _ _ _ _ _ _ _ _ _ _ _ _ _ _ _ _ _ _ _ _ _ _ _ _ _ _ _ _ _ _ _ _ _ _ _ _ _ _ _ _ _ _ _ _ _ _ _ _ _ _ _ _ _ _ _) (.mk false false false false false false false false false false false false false false false false false false false _ _ _ _ _ _ _ _ _ _ _ _ _ _ _ _ _ _ _ _ ⟨(Below.refl _ W10).drew, nofun, nofun, nofun, nofun, nofun, nofun, nofun, nofun, nofun, nofun, nofun, nofun, nofun, nofun, nofun, nofun, nofun, nofun, nofun⟩) ?step ?fin
                case step =>
                  rintro l a' w' i ⟨b0, b1, b2, b3, b4, b5, b6, b7, b8, b9, b10, b11, b12, b13, b14, b15, b16, b17, b18, v83, v84, v85, v86, v87, v88, v89, v90, v91, v92, v93, v94, v95, v96, v97, v98, v99, v100, v101, _, HT⟩ hi
                  obtain ⟨hi_, hib⟩ := ready_lt hi
                  have HTH := Lib.hid HT
                  match i, hi_, hi, hib with
                  | 0, _, hi, hib =>
                    clear HT
                    refine wpOp_one rfl rfl (fun K hK => ?_)
                    go_simp
                    exact hK.out _ _ (.mk true b1 b2 b3 b4 b5 b6 b7 b8 b9 b10 b11 b12 b13 b14 b15 b16 b17 b18 _ _ _ _ _ _ _ _ _ _ _ _ _ _ _ _ _ _ _ _ { HTH.out with h0 := fun _ => rfl })
                  | 1, _, hi, hib =>
                    have d0 : b0 = true := ready_dep hi rfl 0 (by kernel_rfl)
                    have hd0 := HT.h0 d0
                    subst hd0
                    clear HT
                    refine wpOp_one rfl rfl (fun K hK => ?_)
                    go_simp
                    exact hK.out _ _ (.mk b0 true b2 b3 b4 b5 b6 b7 b8 b9 b10 b11 b12 b13 b14 b15 b16 b17 b18 _ _ _ _ _ _ _ _ _ _ _ _ _ _ _ _ _ _ _ _ { HTH.out with h1 := fun _ => rfl })
                  | 2, _, hi, hib =>
                    have d1 : b1 = true := ready_dep hi rfl 1 (by kernel_rfl)
                    have hd1 := HT.h1 d1
                    subst hd1
                    clear HT
                    refine wpOp_one rfl rfl (fun K hK => ?_)
                    go_simp
                    exact hK.out _ _ (.mk b0 b1 true b3 b4 b5 b6 b7 b8 b9 b10 b11 b12 b13 b14 b15 b16 b17 b18 _ _ _ _ _ _ _ _ _ _ _ _ _ _ _ _ _ _ _ _ { HTH.out with h2 := fun _ => rfl })
                  | 3, _, hi, hib =>
                    have e2 : b2 = true := ready_dep hi rfl 2 (by kernel_rfl)
                    have he2 := HT.h2 e2
                    subst he2
                    have c4 := cell1 ((HT.bel.block _ HL4.out).trans (HBX10.out.get (W2.heap.size + 1 + 1 + 1 + 1 + 1) (.cells #[.slice (some ⟨W2.heap.size + 1 + 1 + 1 + 1, 0, none⟩) 1 1] 48) (by simp)))
                    clear HT
                    refine wpOp_want rfl 2 true rfl rfl (fun K hK => ?_)
                    go_simp
                    exact hK.out _ _ (.mk b0 b1 b2 true b4 b5 b6 b7 b8 b9 b10 b11 b12 b13 b14 b15 b16 b17 b18 _ _ _ _ _ _ _ _ _ _ _ _ _ _ _ _ _ _ _ _ { HTH.out with h3 := fun _ => rfl })
                  | 4, _, hi, hib =>
                    have e2 : b2 = true := ready_dep hi rfl 2 (by kernel_rfl)
                    have he2 := HT.h2 e2
                    subst he2
                    obtain ⟨u0, u1, u2, u3⟩ := cells4 ((HT.bel.block _ HLU.out).trans (HBX10.out.get (W9.heap.size) (verC ma (mi + 1) 0 ⟨#[]⟩) (by simp)))
                    clear HT
                    refine wpOp_want rfl 2 true rfl rfl (fun K hK => ?_)
                    go_simp
                    exact hK.out _ _ (.mk b0 b1 b2 b3 true b5 b6 b7 b8 b9 b10 b11 b12 b13 b14 b15 b16 b17 b18 _ _ _ _ _ _ _ _ _ _ _ _ _ _ _ _ _ _ _ _ { HTH.out with h4 := fun _ => rfl })
                  | 5, _, hi, hib =>
                    have e2 : b2 = true := ready_dep hi rfl 2 (by kernel_rfl)
                    have he2 := HT.h2 e2
                    subst he2
                    have d3 : b3 = true := ready_dep hi rfl 3 (by kernel_rfl)
                    have hd3 := HT.h3 d3
                    subst hd3
                    have d4 : b4 = true := ready_dep hi rfl 4 (by kernel_rfl)
                    have hd4 := HT.h4 d4
                    subst hd4
                    have hM := HM10.out.1.below HM10.out.2 HT.bel
                    have HC := Lib.hid (hasOf_any ⟨7, ma, mi, pa, s⟩ _ ma (mi + 1) 0 ⟨#[]⟩ w' (HOT10.out.below HT.bel) (by have := HS.out; show s.size < _; omega) (by decide) hM.1 hM.2)
                    rw [HQ7.out] at HC
                    clear hM
                    clear HT
                    refine wpOp_want rfl 2 true rfl rfl (fun K hK => ?_)
                    go_simp
                    refine HC.out.mono ?_
                    rintro e w2 ⟨rfl, hb⟩
                    exact hK.out _ _ (.mk b0 b1 b2 b3 b4 true b6 b7 b8 b9 b10 b11 b12 b13 b14 b15 b16 b17 b18 _ _ _ _ _ _ _ _ _ _ _ _ _ _ _ _ _ _ _ _ { HTH.out with bel := HTH.out.bel.trans (hb.mono HTH.out.bel.size), h5 := fun _ => rfl })
                  | 6, _, hi, hib =>
                    have e2 : b2 = true := ready_dep hi rfl 2 (by kernel_rfl)
                    have he2 := HT.h2 e2
                    subst he2
                    have d5 : b5 = true := ready_dep hi rfl 5 (by kernel_rfl)
                    have hd5 := HT.h5 d5
                    subst hd5
                    clear HT
                    refine wpOp_want rfl 2 true rfl rfl (fun K hK => ?_)
                    go_simp
                    exact hK.out _ _ (.mk b0 b1 b2 b3 b4 b5 true b7 b8 b9 b10 b11 b12 b13 b14 b15 b16 b17 b18 _ _ _ _ _ _ _ _ _ _ _ _ _ _ _ _ _ _ _ _ { HTH.out with h6 := fun _ => rfl })
                  | 7, _, hi, hib =>
                    have e6 : b6 = true := ready_dep hi rfl 6 (by kernel_rfl)
                    have he6 := HT.h6 e6
                    subst he6
                    have c3 := cell1 ((HT.bel.block _ HL3.out).trans (HBX10.out.get (W2.heap.size + 1 + 1) (.cells #[.slice (some ⟨W2.heap.size + 1, 0, none⟩) 1 1] 48) (by simp)))
                    clear HT
                    refine wpOp_want rfl 6 false rfl rfl (fun K hK => ?_)
                    go_simp
                    exact hK.out _ _ (.mk b0 b1 b2 b3 b4 b5 b6 true b8 b9 b10 b11 b12 b13 b14 b15 b16 b17 b18 _ _ _ _ _ _ _ _ _ _ _ _ _ _ _ _ _ _ _ _ { HTH.out with h7 := fun _ => rfl })
                  | 8, _, hi, hib =>
                    have e6 : b6 = true := ready_dep hi rfl 6 (by kernel_rfl)
                    have he6 := HT.h6 e6
                    subst he6
                    obtain ⟨u0, u1, u2, u3⟩ := cells4 ((HT.bel.block _ HLU.out).trans (HBX10.out.get (W9.heap.size) (verC ma (mi + 1) 0 ⟨#[]⟩) (by simp)))
                    clear HT
                    refine wpOp_want rfl 6 false rfl rfl (fun K hK => ?_)
                    go_simp
                    exact hK.out _ _ (.mk b0 b1 b2 b3 b4 b5 b6 b7 true b9 b10 b11 b12 b13 b14 b15 b16 b17 b18 _ _ _ _ _ _ _ _ _ _ _ _ _ _ _ _ _ _ _ _ { HTH.out with h8 := fun _ => rfl })
                  | 9, _, hi, hib =>
                    have e6 : b6 = true := ready_dep hi rfl 6 (by kernel_rfl)
                    have he6 := HT.h6 e6
                    subst he6
                    have d7 : b7 = true := ready_dep hi rfl 7 (by kernel_rfl)
                    have hd7 := HT.h7 d7
                    subst hd7
                    have d8 : b8 = true := ready_dep hi rfl 8 (by kernel_rfl)
                    have hd8 := HT.h8 d8
                    subst hd8
                    have hM := HM10.out.1.below HM10.out.2 HT.bel
                    have HC := Lib.hid (hasOf_any ⟨6, ma, mi, pa, s⟩ _ ma (mi + 1) 0 ⟨#[]⟩ w' (HOC10.out.below HT.bel) (by have := HS.out; show s.size < _; omega) (by decide) hM.1 hM.2)
                    rw [HQ6.out] at HC
                    clear hM
                    clear HT
                    refine wpOp_want rfl 6 false rfl rfl (fun K hK => ?_)
                    go_simp
                    refine HC.out.mono ?_
                    rintro e w2 ⟨rfl, hb⟩
                    exact hK.out _ _ (.mk b0 b1 b2 b3 b4 b5 b6 b7 b8 true b10 b11 b12 b13 b14 b15 b16 b17 b18 _ _ _ _ _ _ _ _ _ _ _ _ _ _ _ _ _ _ _ _ { HTH.out with bel := HTH.out.bel.trans (hb.mono HTH.out.bel.size), h9 := fun _ => rfl })
                  | 10, _, hi, hib =>
                    have e6 : b6 = true := ready_dep hi rfl 6 (by kernel_rfl)
                    have he6 := HT.h6 e6
                    subst he6
                    clear HT
                    refine wpOp_want rfl 6 false rfl rfl (fun K hK => ?_)
                    go_simp
                    exact hK.out _ _ (.mk b0 b1 b2 b3 b4 b5 b6 b7 b8 b9 true b11 b12 b13 b14 b15 b16 b17 b18 _ _ _ _ _ _ _ _ _ _ _ _ _ _ _ _ _ _ _ _ { HTH.out with h10 := fun _ => rfl })
                  | 11, _, hi, hib =>
                    have e6 : b6 = true := ready_dep hi rfl 6 (by kernel_rfl)
                    have he6 := HT.h6 e6
                    subst he6
                    have d10 : b10 = true := ready_dep hi rfl 10 (by kernel_rfl)
                    have hd10 := HT.h10 d10
                    subst hd10
                    obtain ⟨y0, y1, y2, y3⟩ := cells4 ((HT.bel.block _ HL1.out).trans (HBX10.out.get (w.heap.size) (verC ma mi pa s) (by simp)))
                    clear HT
                    refine wpOp_want rfl 6 false rfl rfl (fun K hK => ?_)
                    go_simp
                    exact hK.out _ _ (.mk b0 b1 b2 b3 b4 b5 b6 b7 b8 b9 b10 true b12 b13 b14 b15 b16 b17 b18 _ _ _ _ _ _ _ _ _ _ _ _ _ _ _ _ _ _ _ _ { HTH.out with h11 := fun _ => rfl })
                  | 12, _, hi, hib =>
                    have e6 : b6 = true := ready_dep hi rfl 6 (by kernel_rfl)
                    have he6 := HT.h6 e6
                    subst he6
                    have d11 : b11 = true := ready_dep hi rfl 11 (by kernel_rfl)
                    have hd11 := HT.h11 d11
                    subst hd11
                    have da := HDA.out
                    clear HT
                    refine wpOp_want rfl 6 false rfl rfl (fun K hK => ?_)
                    go_simp
                    exact hK.out _ _ (.mk b0 b1 b2 b3 b4 b5 b6 b7 b8 b9 b10 b11 true b13 b14 b15 b16 b17 b18 _ _ _ _ _ _ _ _ _ _ _ _ _ _ _ _ _ _ _ _ { HTH.out with h12 := fun _ => rfl })
                  | 13, _, hi, hib =>
                    have e6 : b6 = true := ready_dep hi rfl 6 (by kernel_rfl)
                    have he6 := HT.h6 e6
                    subst he6
                    have d12 : b12 = true := ready_dep hi rfl 12 (by kernel_rfl)
                    have hd12 := HT.h12 d12
                    subst hd12
                    clear HT
                    refine wpOp_want rfl 6 false rfl rfl (fun K hK => ?_)
                    go_simp
                    exact hK.out _ _ (.mk b0 b1 b2 b3 b4 b5 b6 b7 b8 b9 b10 b11 b12 true b14 b15 b16 b17 b18 _ _ _ _ _ _ _ _ _ _ _ _ _ _ _ _ _ _ _ _ { HTH.out with h13 := fun _ => rfl })
                  | 14, _, hi, hib =>
                    have e13 : b13 = true := ready_dep hi rfl 13 (by kernel_rfl)
                    have he13 := HT.h13 e13
                    subst he13
                    clear HT
                    refine wpOp_want rfl 13 false rfl rfl (fun K hK => ?_)
                    go_simp
                    exact hK.out _ _ (.mk b0 b1 b2 b3 b4 b5 b6 b7 b8 b9 b10 b11 b12 b13 true b15 b16 b17 b18 _ _ _ _ _ _ _ _ _ _ _ _ _ _ _ _ _ _ _ _ { HTH.out with h14 := fun _ => rfl })
                  | 15, _, hi, hib =>
                    have e6 : b6 = true := ready_dep hi rfl 6 (by kernel_rfl)
                    have he6 := HT.h6 e6
                    subst he6
                    have d13 : b13 = true := ready_dep hi rfl 13 (by kernel_rfl)
                    have hd13 := HT.h13 d13
                    subst hd13
                    have d14 : b14 = true := ready_dep hi rfl 14 (by kernel_rfl)
                    have hd14 := HT.h14 d14
                    subst hd14
                    clear HT
                    refine wpOp_want rfl 6 false rfl rfl (fun K hK => ?_)
                    go_simp
                    exact hK.out _ _ (.mk b0 b1 b2 b3 b4 b5 b6 b7 b8 b9 b10 b11 b12 b13 b14 true b16 b17 b18 _ _ _ _ _ _ _ _ _ _ _ _ _ _ _ _ _ _ _ _ { HTH.out with h15 := fun _ => rfl })
                  | 16, _, hi, hib =>
                    have e6 : b6 = true := ready_dep hi rfl 6 (by kernel_rfl)
                    have he6 := HT.h6 e6
                    subst he6
                    have d9 : b9 = true := ready_dep hi rfl 9 (by kernel_rfl)
                    have hd9 := HT.h9 d9
                    subst hd9
                    have d15 : b15 = true := ready_dep hi rfl 15 (by kernel_rfl)
                    have hd15 := HT.h15 d15
                    subst hd15
                    clear HT
                    refine wpOp_want rfl 6 false rfl rfl (fun K hK => ?_)
                    go_simp
                    exact hK.out _ _ (.mk b0 b1 b2 b3 b4 b5 b6 b7 b8 b9 b10 b11 b12 b13 b14 b15 true b17 b18 _ _ _ _ _ _ _ _ _ _ _ _ _ _ _ _ _ _ _ _ { HTH.out with h16 := fun _ => rfl })
                  | 17, _, hi, hib =>
                    have e2 : b2 = true := ready_dep hi rfl 2 (by kernel_rfl)
                    have he2 := HT.h2 e2
                    subst he2
                    have d6 : b6 = true := ready_dep hi rfl 6 (by kernel_rfl)
                    have hd6 := HT.h6 d6
                    subst hd6
                    have d16 : b16 = true := ready_dep hi rfl 16 (by kernel_rfl)
                    have hd16 := HT.h16 d16
                    subst hd16
                    clear HT
                    refine wpOp_want rfl 2 true rfl rfl (fun K hK => ?_)
                    go_simp
                    exact hK.out _ _ (.mk b0 b1 b2 b3 b4 b5 b6 b7 b8 b9 b10 b11 b12 b13 b14 b15 b16 true b18 _ _ _ _ _ _ _ _ _ _ _ _ _ _ _ _ _ _ _ _ { HTH.out with h17 := fun _ => rfl })
                  | 18, _, hi, hib =>
                    have d2 : b2 = true := ready_dep hi rfl 2 (by kernel_rfl)
                    have hd2 := HT.h2 d2
                    subst hd2
                    have d17 : b17 = true := ready_dep hi rfl 17 (by kernel_rfl)
                    have hd17 := HT.h17 d17
                    subst hd17
                    clear HT
                    refine wpOp_one rfl rfl (fun K hK => ?_)
                    go_simp
                    exact hK.out _ _ (.mk b0 b1 b2 b3 b4 b5 b6 b7 b8 b9 b10 b11 b12 b13 b14 b15 b16 b17 true _ _ _ _ _ _ _ _ _ _ _ _ _ _ _ _ _ _ _ _ { HTH.out with h18 := fun _ => rfl })
                case fin =>
                  rintro l a' w' ⟨b0, b1, b2, b3, b4, b5, b6, b7, b8, b9, b10, b11, b12, b13, b14, b15, b16, b17, b18, v83, v84, v85, v86, v87, v88, v89, v90, v91, v92, v93, v94, v95, v96, v97, v98, v99, v100, v101, _, HT⟩ hr
                  obtain rfl : b0 = true := by
                    cases b0 with
                    | true => rfl
                    | false => exact (ready_in 0 rfl rfl (by simp [Region.binds]) hr).elim
                  obtain rfl : b1 = true := by
                    cases b1 with
                    | true => rfl
                    | false => exact (ready_in 1 rfl rfl (by simp [Region.binds]) hr).elim
                  obtain rfl : b2 = true := by
                    cases b2 with
                    | true => rfl
                    | false => exact (ready_in 2 rfl rfl (by simp [Region.binds]) hr).elim
                  obtain rfl : b3 = true := by
                    cases b3 with
                    | true => rfl
                    | false => exact (ready_in 3 rfl rfl (by simp [Region.binds]) hr).elim
                  obtain rfl : b4 = true := by
                    cases b4 with
                    | true => rfl
                    | false => exact (ready_in 4 rfl rfl (by simp [Region.binds]) hr).elim
                  obtain rfl : b5 = true := by
                    cases b5 with
                    | true => rfl
                    | false => exact (ready_in 5 rfl rfl (by simp [Region.binds]) hr).elim
                  obtain rfl : b6 = true := by
                    cases b6 with
                    | true => rfl
                    | false => exact (ready_in 6 rfl rfl (by simp [Region.binds]) hr).elim
                  obtain rfl : b7 = true := by
                    cases b7 with
                    | true => rfl
                    | false => exact (ready_in 7 rfl rfl (by simp [Region.binds]) hr).elim
                  obtain rfl : b8 = true := by
                    cases b8 with
                    | true => rfl
                    | false => exact (ready_in 8 rfl rfl (by simp [Region.binds]) hr).elim
                  obtain rfl : b9 = true := by
                    cases b9 with
                    | true => rfl
                    | false => exact (ready_in 9 rfl rfl (by simp [Region.binds]) hr).elim
                  obtain rfl : b10 = true := by
                    cases b10 with
                    | true => rfl
                    | false => exact (ready_in 10 rfl rfl (by simp [Region.binds]) hr).elim
                  obtain rfl : b11 = true := by
                    cases b11 with
                    | true => rfl
                    | false => exact (ready_in 11 rfl rfl (by simp [Region.binds]) hr).elim
                  obtain rfl : b12 = true := by
                    cases b12 with
                    | true => rfl
                    | false => exact (ready_in 12 rfl rfl (by simp [Region.binds]) hr).elim
                  obtain rfl : b13 = true := by
                    cases b13 with
                    | true => rfl
                    | false => exact (ready_in 13 rfl rfl (by simp [Region.binds]) hr).elim
                  obtain rfl : b14 = true := by
                    cases b14 with
                    | true => rfl
                    | false => exact (ready_in 14 rfl rfl (by simp [Region.binds]) hr).elim
                  obtain rfl : b15 = true := by
                    cases b15 with
                    | true => rfl
                    | false => exact (ready_in 15 rfl rfl (by simp [Region.binds]) hr).elim
                  obtain rfl : b16 = true := by
                    cases b16 with
                    | true => rfl
                    | false => exact (ready_in 16 rfl rfl (by simp [Region.binds]) hr).elim
                  obtain rfl : b17 = true := by
                    cases b17 with
                    | true => rfl
                    | false => exact (ready_in 17 rfl rfl (by simp [Region.binds]) hr).elim
                  obtain rfl : b18 = true := by
                    cases b18 with
                    | true => rfl
                    | false => exact (ready_in 18 rfl rfl (by simp [Region.binds]) hr).elim
                  have k0 := HT.h0 rfl
                  subst k0
                  have k1 := HT.h1 rfl
                  subst k1
                  have k2 := HT.h2 rfl
                  subst k2
                  have k3 := HT.h3 rfl
                  subst k3
                  have k4 := HT.h4 rfl
                  subst k4
                  have k5 := HT.h5 rfl
                  subst k5
                  have k6 := HT.h6 rfl
                  subst k6
                  have k7 := HT.h7 rfl
                  subst k7
                  have k8 := HT.h8 rfl
                  subst k8
                  have k9 := HT.h9 rfl
                  subst k9
                  have k10 := HT.h10 rfl
                  subst k10
                  have k11 := HT.h11 rfl
                  subst k11
                  have k12 := HT.h12 rfl
                  subst k12
                  have k13 := HT.h13 rfl
                  subst k13
                  have k14 := HT.h14 rfl
                  subst k14
                  have k15 := HT.h15 rfl
                  subst k15
                  have k16 := HT.h16 rfl
                  subst k16
                  have k17 := HT.h17 rfl
                  subst k17
                  have k18 := HT.h18 rfl
                  subst k18
                  have HF := HT.bel
                  clear HT hr
                  show _
                  go_wp2_with fail
                  go_meet
                  exact ⟨rfl, HF⟩
          · have mixed : Tryd.prog.follows Departure.mixedOrders = true := by kernel_rfl
            go_region_o
            go_wp2
            go_meet
            first | exact ⟨rfl, Below.refl _ _⟩ | exact ⟨rfl, (Below.refl _ W10).drew⟩
        case rest =>
          obtain ⟨rfl, hb⟩ := hcut
          rename World => W12
          have HBX12' := Lib.hid (HBX10.out.below hb)
          have HBX12 : Hid (BoxesAt [(w.heap.size, verC ma mi pa s), (W2.heap.size + 1 + 1, .cells #[.slice (some ⟨W2.heap.size + 1, 0, none⟩) 1 1] 48), (W2.heap.size + 1 + 1 + 1 + 1 + 1, .cells #[.slice (some ⟨W2.heap.size + 1 + 1 + 1 + 1, 0, none⟩) 1 1] 48)] W12) := Lib.hid (fun q hq => HBX12'.out q (by simp at hq ⊢; rcases hq with h | h | h <;> simp [h]))
          have HB12 : Hid (Below w.heap.size w W12) := Lib.hid (HB10.out.trans (hb.mono HB10.out.size))
          have HM12 := Lib.hid (HM10.out.1.below HM10.out.2 hb)
          have HOC12 := Lib.hid (HOC10.out.below hb)
          have HOT12 := Lib.hid (HOT10.out.below hb)
          clear hb
          clear HBX12' HBX10 HW10 HBE
          go_upto_region 16 with fail
          obtain ⟨y0, y1, y2, y3⟩ := cells4 (HBX12.out.get (w.heap.size) (verC ma mi pa s) (by simp))
          have HBU := Lib.hid (Bump_any ma mi pa s 2 W12 (by have := HS.out; omega) HM12.out.1 HM12.out.2)
          obtain ⟨x, y, z, e, hbu, hbe⟩ := bump2 (p := bs s) HR.out
          rw [hbu] at HBU
          have HBE := Lib.hid hbe
          clear hbu hbe
          go_wp2_with fail
          refine HBU.out.mono ?_
          rintro e1 W13 ⟨rfl, hb⟩
          clear HBU y0 y1 y2 y3
          obtain ⟨W14, hW⟩ : ∃ W', W13.alloc (verC x y z ⟨#[]⟩) = W' := ⟨_, rfl⟩
          have hba : Below W13.heap.size W13 W14 := by rw [← hW]; exact (Below.refl _ W13).alloc (Nat.le_refl _) _
          have hbb : Below W12.heap.size W12 W14 := hb.trans (hba.mono hb.size)
          have HBX14 : Hid (BoxesAt [(w.heap.size, verC ma mi pa s), (W2.heap.size + 1 + 1, .cells #[.slice (some ⟨W2.heap.size + 1, 0, none⟩) 1 1] 48), (W2.heap.size + 1 + 1 + 1 + 1 + 1, .cells #[.slice (some ⟨W2.heap.size + 1 + 1 + 1 + 1, 0, none⟩) 1 1] 48), (W13.heap.size, verC x y z ⟨#[]⟩)] W14) := Lib.hid (fun q hq => by
            simp at hq
            rcases hq with rfl | rfl | rfl | rfl
            · exact (HBX12.out.below hbb) _ (by simp)
            · exact (HBX12.out.below hbb) _ (by simp)
            · exact (HBX12.out.below hbb) _ (by simp)
            · exact ⟨by rw [← hW]; simp, by rw [← hW]; exact World.alloc_heap_new _ _⟩)
          have HB14 : Hid (Below w.heap.size w W14) := Lib.hid (HB12.out.trans (hbb.mono HB12.out.size))
          have HM14 := Lib.hid (HM12.out.1.below HM12.out.2 hbb)
          have HOC14 := Lib.hid (HOC12.out.below hbb)
          have HOT14 := Lib.hid (HOT12.out.below hbb)
          have HW14 := Lib.hid hW
          clear hb hba hbb hW
          go_upto_region 17 with fail
          rw [show W13.alloc (.cells #[.int .i64 x, .int .i64 y, .int .i64 z, .string ⟨#[]⟩] 25) = W14 from HW14.out]
          go_cut [133] (fun v133 w' => v133 = .bool false ∧ Below W14.heap.size W14 w')
          case first =>
            cases hse : s.toList.isEmpty with
            | false =>
              obtain ⟨y0, y1, y2, y3⟩ := cells4 (HBX14.out.get (w.heap.size) (verC ma mi pa s) (by simp))
              by_cases he : e = 0
              · subst he
                have mixed : Tryd.prog.follows Departure.mixedOrders = true := by kernel_rfl
                go_region_o
                go_wp2
                go_meet
                first | exact ⟨rfl, Below.refl _ _⟩ | exact ⟨rfl, (Below.refl _ W14).drew⟩
              · have de : (e == 0) = false := by rw [beq_eq_false_iff_ne]; exact he
                have mixed : Tryd.prog.follows Departure.mixedOrders = true := by kernel_rfl
                go_region_o
                go_wp2
                go_meet
                first | exact ⟨rfl, Below.refl _ _⟩ | exact ⟨rfl, (Below.refl _ W14).drew⟩
            | true =>
              have HSE := Lib.hid hse
              have HS0 : Hid (bs s = []) := Lib.hid (by rw [ByteArray.toList_eq] at hse; exact List.isEmpty_iff.1 hse)
              rcases HBE.out HS0.out with ⟨rfl, h9, rfl, rfl, rfl⟩ | rfl
              · clear HBE hse
                have HL1 : Hid (w.heap.size < W14.heap.size) := Lib.hid (HBX14.out _ (by simp : (w.heap.size, verC ma mi pa s) ∈ _)).1
                have HL3 : Hid (W2.heap.size + 1 + 1 < W14.heap.size) := Lib.hid (HBX14.out (W2.heap.size + 1 + 1, .cells #[.slice (some ⟨W2.heap.size + 1, 0, none⟩) 1 1] 48) (by simp)).1
                have HL4 : Hid (W2.heap.size + 1 + 1 + 1 + 1 + 1 < W14.heap.size) := Lib.hid (HBX14.out (W2.heap.size + 1 + 1 + 1 + 1 + 1, .cells #[.slice (some ⟨W2.heap.size + 1 + 1 + 1 + 1, 0, none⟩) 1 1] 48) (by simp)).1
                have HLU : Hid (W13.heap.size < W14.heap.size) := Lib.hid (HBX14.out (W13.heap.size, verC ma mi (pa + 1) ⟨#[]⟩) (by simp)).1
                by_cases ha : 0 < ma
                · have HDA : Hid (decide (0 < ma) = true) := Lib.hid (decide_eq_true ha)
                  clear ha
                  have HQ7 : Hid (hasR [[⟨7, ma, mi, pa, s⟩]] ⟨ma, mi, pa + 1, bs ⟨#[]⟩⟩ = true) := Lib.hid ((HQT.out _ (right_pat HR.out h9)).trans (by rw [HS0.out]; exact tilde_pat (by rw [← HS0.out]; exact HR.out)))
                  have HQ6 : Hid (hasR [[⟨6, ma, mi, pa, s⟩]] ⟨ma, mi, pa + 1, bs ⟨#[]⟩⟩ = true) := Lib.hid ((HQC.out _ (right_pat HR.out h9)).trans (by rw [HS0.out]; exact (caret_pat (by rw [← HS0.out]; exact HR.out) h9).trans (by rw [HDA.out]; rfl)))
                  clear h9
                  refine wp_region_inv (by kernel_rfl) (I := DaJ W14 ma mi pa s w.heap.size (.agg #[.slice (some ⟨W2.heap.size + 1, 0, none⟩) 1 1]) (.agg #[.slice (some ⟨W2.heap.size + 1 + 1 + 1 + 1, 0, none⟩) 1 1]) _ _ _ _ _ _ _ _ _ _ _ _ _ _ _ _ _ _ _ _ _ _ _ _ _ _ _ _ _ _ _ _ _ _ _ _ _ _ _ _ _ _ _ _ _ _ _ _ _ _ _ _ _ _ _ _ _ _ _ _ _ _ _ _ _ _ _ _ _ _ _ _ _ _ _ _ _ _ _ _ _ _ _ _ _ _ _ _ _ _ _ _ _ _ _ _ _ _ _ _ _ _ _ _ _ _ _) (.mk false false false false false false false false false false false false false false false false false false false false false false false false false false false _ _ _ _ _ _ _ _ _ _ _ _ _ _ _ _ _ _ _ _ _ _ _ _ _ _ _ _ ⟨(Below.refl _ W14).drew, nofun, nofun, nofun, nofun, nofun, nofun, nofun, nofun, nofun, nofun, nofun, nofun, nofun, nofun, nofun, nofun, nofun, nofun, nofun, nofun, nofun, nofun, nofun, nofun, nofun, nofun, nofun⟩) ?step ?fin
                  case step =>
                    rintro l a' w' i ⟨b0, b1, b2, b3, b4, b5, b6, b7, b8, b9, b10, b11, b12, b13, b14, b15, b16, b17, b18, b19, b20, b21, b22, b23, b24, b25, b26, v107, v108, v109, v110, v111, v112, v113, v114, v115, v116, v117, v118, v119, v120, v121, v122, v123, v124, v125, v126, v127, v128, v129, v130, v131, v132, v133, _, HT⟩ hi
                    obtain ⟨hi_, hib⟩ := ready_lt hi
                    have HTH := Lib.hid HT
                    match i, hi_, hi, hib with
                    | 0, _, hi, hib =>
                      clear HT
                      refine wpOp_one rfl rfl (fun K hK => ?_)
                      go_simp
                      exact hK.out _ _ (.mk true b1 b2 b3 b4 b5 b6 b7 b8 b9 b10 b11 b12 b13 b14 b15 b16 b17 b18 b19 b20 b21 b22 b23 b24 b25 b26 _ _ _ _ _ _ _ _ _ _ _ _ _ _ _ _ _ _ _ _ _ _ _ _ _ _ _ _ { HTH.out with h0 := fun _ => rfl })
                    | 1, _, hi, hib =>
                      have d0 : b0 = true := ready_dep hi rfl 0 (by kernel_rfl)
                      have hd0 := HT.h0 d0
                      subst hd0
                      clear HT
                      refine wpOp_one rfl rfl (fun K hK => ?_)
                      go_simp
                      exact hK.out _ _ (.mk b0 true b2 b3 b4 b5 b6 b7 b8 b9 b10 b11 b12 b13 b14 b15 b16 b17 b18 b19 b20 b21 b22 b23 b24 b25 b26 _ _ _ _ _ _ _ _ _ _ _ _ _ _ _ _ _ _ _ _ _ _ _ _ _ _ _ _ { HTH.out with h1 := fun _ => rfl })
                    | 2, _, hi, hib =>
                      have d1 : b1 = true := ready_dep hi rfl 1 (by kernel_rfl)
                      have hd1 := HT.h1 d1
                      subst hd1
                      clear HT
                      refine wpOp_one rfl rfl (fun K hK => ?_)
                      go_simp
                      exact hK.out _ _ (.mk b0 b1 true b3 b4 b5 b6 b7 b8 b9 b10 b11 b12 b13 b14 b15 b16 b17 b18 b19 b20 b21 b22 b23 b24 b25 b26 _ _ _ _ _ _ _ _ _ _ _ _ _ _ _ _ _ _ _ _ _ _ _ _ _ _ _ _ { HTH.out with h2 := fun _ => rfl })
                    | 3, _, hi, hib =>
                      have e2 : b2 = true := ready_dep hi rfl 2 (by kernel_rfl)
                      have he2 := HT.h2 e2
                      subst he2
                      clear HT
                      refine wpOp_want rfl 2 true rfl rfl (fun K hK => ?_)
                      go_simp
                      exact hK.out _ _ (.mk b0 b1 b2 true b4 b5 b6 b7 b8 b9 b10 b11 b12 b13 b14 b15 b16 b17 b18 b19 b20 b21 b22 b23 b24 b25 b26 _ _ _ _ _ _ _ _ _ _ _ _ _ _ _ _ _ _ _ _ _ _ _ _ _ _ _ _ { HTH.out with h3 := fun _ => rfl })
                    | 4, _, hi, hib =>
                      have e2 : b2 = true := ready_dep hi rfl 2 (by kernel_rfl)
                      have he2 := HT.h2 e2
                      subst he2
                      have d3 : b3 = true := ready_dep hi rfl 3 (by kernel_rfl)
                      have hd3 := HT.h3 d3
                      subst hd3
                      obtain ⟨y0, y1, y2, y3⟩ := cells4 ((HT.bel.block _ HL1.out).trans (HBX14.out.get (w.heap.size) (verC ma mi pa s) (by simp)))
                      clear HT
                      refine wpOp_want rfl 2 true rfl rfl (fun K hK => ?_)
                      go_simp
                      exact hK.out _ _ (.mk b0 b1 b2 b3 true b5 b6 b7 b8 b9 b10 b11 b12 b13 b14 b15 b16 b17 b18 b19 b20 b21 b22 b23 b24 b25 b26 _ _ _ _ _ _ _ _ _ _ _ _ _ _ _ _ _ _ _ _ _ _ _ _ _ _ _ _ { HTH.out with h4 := fun _ => rfl })
                    | 5, _, hi, hib =>
                      have e2 : b2 = true := ready_dep hi rfl 2 (by kernel_rfl)
                      have he2 := HT.h2 e2
                      subst he2
                      have d4 : b4 = true := ready_dep hi rfl 4 (by kernel_rfl)
                      have hd4 := HT.h4 d4
                      subst hd4
                      have hse := HSE.out
                      clear HT
                      refine wpOp_want rfl 2 true rfl rfl (fun K hK => ?_)
                      go_simp
                      exact hK.out _ _ (.mk b0 b1 b2 b3 b4 true b6 b7 b8 b9 b10 b11 b12 b13 b14 b15 b16 b17 b18 b19 b20 b21 b22 b23 b24 b25 b26 _ _ _ _ _ _ _ _ _ _ _ _ _ _ _ _ _ _ _ _ _ _ _ _ _ _ _ _ { HTH.out with h5 := fun _ => rfl })
                    | 6, _, hi, hib =>
                      have d2 : b2 = true := ready_dep hi rfl 2 (by kernel_rfl)
                      have hd2 := HT.h2 d2
                      subst hd2
                      have d5 : b5 = true := ready_dep hi rfl 5 (by kernel_rfl)
                      have hd5 := HT.h5 d5
                      subst hd5
                      clear HT
                      refine wpOp_one rfl rfl (fun K hK => ?_)
                      go_simp
                      exact hK.out _ _ (.mk b0 b1 b2 b3 b4 b5 true b7 b8 b9 b10 b11 b12 b13 b14 b15 b16 b17 b18 b19 b20 b21 b22 b23 b24 b25 b26 _ _ _ _ _ _ _ _ _ _ _ _ _ _ _ _ _ _ _ _ _ _ _ _ _ _ _ _ { HTH.out with h6 := fun _ => rfl })
                    | 7, _, hi, hib =>
                      have d6 : b6 = true := ready_dep hi rfl 6 (by kernel_rfl)
                      have hd6 := HT.h6 d6
                      subst hd6
                      clear HT
                      refine wpOp_one rfl rfl (fun K hK => ?_)
                      go_simp
                      exact hK.out _ _ (.mk b0 b1 b2 b3 b4 b5 b6 true b8 b9 b10 b11 b12 b13 b14 b15 b16 b17 b18 b19 b20 b21 b22 b23 b24 b25 b26 _ _ _ _ _ _ _ _ _ _ _ _ _ _ _ _ _ _ _ _ _ _ _ _ _ _ _ _ { HTH.out with h7 := fun _ => rfl })
                    | 8, _, hi, hib =>
                      have e7 : b7 = true := ready_dep hi rfl 7 (by kernel_rfl)
                      have he7 := HT.h7 e7
                      subst he7
                      have c4 := cell1 ((HT.bel.block _ HL4.out).trans (HBX14.out.get (W2.heap.size + 1 + 1 + 1 + 1 + 1) (.cells #[.slice (some ⟨W2.heap.size + 1 + 1 + 1 + 1, 0, none⟩) 1 1] 48) (by simp)))
                      clear HT
                      refine wpOp_want rfl 7 true rfl rfl (fun K hK => ?_)
                      go_simp
                      exact hK.out _ _ (.mk b0 b1 b2 b3 b4 b5 b6 b7 true b9 b10 b11 b12 b13 b14 b15 b16 b17 b18 b19 b20 b21 b22 b23 b24 b25 b26 _ _ _ _ _ _ _ _ _ _ _ _ _ _ _ _ _ _ _ _ _ _ _ _ _ _ _ _ { HTH.out with h8 := fun _ => rfl })
                    | 9, _, hi, hib =>
                      have e7 : b7 = true := ready_dep hi rfl 7 (by kernel_rfl)
                      have he7 := HT.h7 e7
                      subst he7
                      obtain ⟨u0, u1, u2, u3⟩ := cells4 ((HT.bel.block _ HLU.out).trans (HBX14.out.get (W13.heap.size) (verC ma mi (pa + 1) ⟨#[]⟩) (by simp)))
                      clear HT
                      refine wpOp_want rfl 7 true rfl rfl (fun K hK => ?_)
                      go_simp
                      exact hK.out _ _ (.mk b0 b1 b2 b3 b4 b5 b6 b7 b8 true b10 b11 b12 b13 b14 b15 b16 b17 b18 b19 b20 b21 b22 b23 b24 b25 b26 _ _ _ _ _ _ _ _ _ _ _ _ _ _ _ _ _ _ _ _ _ _ _ _ _ _ _ _ { HTH.out with h9 := fun _ => rfl })
                    | 10, _, hi, hib =>
                      have e7 : b7 = true := ready_dep hi rfl 7 (by kernel_rfl)
                      have he7 := HT.h7 e7
                      subst he7
                      have d8 : b8 = true := ready_dep hi rfl 8 (by kernel_rfl)
                      have hd8 := HT.h8 d8
                      subst hd8
                      have d9 : b9 = true := ready_dep hi rfl 9 (by kernel_rfl)
                      have hd9 := HT.h9 d9
                      subst hd9
                      have hM := HM14.out.1.below HM14.out.2 HT.bel
                      have HC := Lib.hid (hasOf_any ⟨7, ma, mi, pa, s⟩ _ ma mi (pa + 1) ⟨#[]⟩ w' (HOT14.out.below HT.bel) (by have := HS.out; show s.size < _; omega) (by decide) hM.1 hM.2)
                      rw [HQ7.out] at HC
                      clear hM
                      clear HT
                      refine wpOp_want rfl 7 true rfl rfl (fun K hK => ?_)
                      go_simp
                      refine HC.out.mono ?_
                      rintro e w2 ⟨rfl, hb⟩
                      exact hK.out _ _ (.mk b0 b1 b2 b3 b4 b5 b6 b7 b8 b9 true b11 b12 b13 b14 b15 b16 b17 b18 b19 b20 b21 b22 b23 b24 b25 b26 _ _ _ _ _ _ _ _ _ _ _ _ _ _ _ _ _ _ _ _ _ _ _ _ _ _ _ _ { HTH.out with bel := HTH.out.bel.trans (hb.mono HTH.out.bel.size), h10 := fun _ => rfl })
                    | 11, _, hi, hib =>
                      have e7 : b7 = true := ready_dep hi rfl 7 (by kernel_rfl)
                      have he7 := HT.h7 e7
                      subst he7
                      have d10 : b10 = true := ready_dep hi rfl 10 (by kernel_rfl)
                      have hd10 := HT.h10 d10
                      subst hd10
                      clear HT
                      refine wpOp_want rfl 7 true rfl rfl (fun K hK => ?_)
                      go_simp
                      exact hK.out _ _ (.mk b0 b1 b2 b3 b4 b5 b6 b7 b8 b9 b10 true b12 b13 b14 b15 b16 b17 b18 b19 b20 b21 b22 b23 b24 b25 b26 _ _ _ _ _ _ _ _ _ _ _ _ _ _ _ _ _ _ _ _ _ _ _ _ _ _ _ _ { HTH.out with h11 := fun _ => rfl })
                    | 12, _, hi, hib =>
                      have e7 : b7 = true := ready_dep hi rfl 7 (by kernel_rfl)
                      have he7 := HT.h7 e7
                      subst he7
                      have d11 : b11 = true := ready_dep hi rfl 11 (by kernel_rfl)
                      have hd11 := HT.h11 d11
                      subst hd11
                      clear HT
                      refine wpOp_want rfl 7 true rfl rfl (fun K hK => ?_)
                      go_simp
                      exact hK.out _ _ (.mk b0 b1 b2 b3 b4 b5 b6 b7 b8 b9 b10 b11 true b13 b14 b15 b16 b17 b18 b19 b20 b21 b22 b23 b24 b25 b26 _ _ _ _ _ _ _ _ _ _ _ _ _ _ _ _ _ _ _ _ _ _ _ _ _ _ _ _ { HTH.out with h12 := fun _ => rfl })
                    | 13, _, hi, hib =>
                      have e12 : b12 = true := ready_dep hi rfl 12 (by kernel_rfl)
                      have he12 := HT.h12 e12
                      subst he12
                      have c3 := cell1 ((HT.bel.block _ HL3.out).trans (HBX14.out.get (W2.heap.size + 1 + 1) (.cells #[.slice (some ⟨W2.heap.size + 1, 0, none⟩) 1 1] 48) (by simp)))
                      clear HT
                      refine wpOp_want rfl 12 false rfl rfl (fun K hK => ?_)
                      go_simp
                      exact hK.out _ _ (.mk b0 b1 b2 b3 b4 b5 b6 b7 b8 b9 b10 b11 b12 true b14 b15 b16 b17 b18 b19 b20 b21 b22 b23 b24 b25 b26 _ _ _ _ _ _ _ _ _ _ _ _ _ _ _ _ _ _ _ _ _ _ _ _ _ _ _ _ { HTH.out with h13 := fun _ => rfl })
                    | 14, _, hi, hib =>
                      have e12 : b12 = true := ready_dep hi rfl 12 (by kernel_rfl)
                      have he12 := HT.h12 e12
                      subst he12
                      obtain ⟨u0, u1, u2, u3⟩ := cells4 ((HT.bel.block _ HLU.out).trans (HBX14.out.get (W13.heap.size) (verC ma mi (pa + 1) ⟨#[]⟩) (by simp)))
                      clear HT
                      refine wpOp_want rfl 12 false rfl rfl (fun K hK => ?_)
                      go_simp
                      exact hK.out _ _ (.mk b0 b1 b2 b3 b4 b5 b6 b7 b8 b9 b10 b11 b12 b13 true b15 b16 b17 b18 b19 b20 b21 b22 b23 b24 b25 b26 _ _ _ _ _ _ _ _ _ _ _ _ _ _ _ _ _ _ _ _ _ _ _ _ _ _ _ _ { HTH.out with h14 := fun _ => rfl })
                    | 15, _, hi, hib =>
                      have e12 : b12 = true := ready_dep hi rfl 12 (by kernel_rfl)
                      have he12 := HT.h12 e12
                      subst he12
                      have d13 : b13 = true := ready_dep hi rfl 13 (by kernel_rfl)
                      have hd13 := HT.h13 d13
                      subst hd13
                      have d14 : b14 = true := ready_dep hi rfl 14 (by kernel_rfl)
                      have hd14 := HT.h14 d14
                      subst hd14
                      have hM := HM14.out.1.below HM14.out.2 HT.bel
                      have HC := Lib.hid (hasOf_any ⟨6, ma, mi, pa, s⟩ _ ma mi (pa + 1) ⟨#[]⟩ w' (HOC14.out.below HT.bel) (by have := HS.out; show s.size < _; omega) (by decide) hM.1 hM.2)
                      rw [HQ6.out] at HC
                      clear hM
                      clear HT
                      refine wpOp_want rfl 12 false rfl rfl (fun K hK => ?_)
                      go_simp
                      refine HC.out.mono ?_
                      rintro e w2 ⟨rfl, hb⟩
                      exact hK.out _ _ (.mk b0 b1 b2 b3 b4 b5 b6 b7 b8 b9 b10 b11 b12 b13 b14 true b16 b17 b18 b19 b20 b21 b22 b23 b24 b25 b26 _ _ _ _ _ _ _ _ _ _ _ _ _ _ _ _ _ _ _ _ _ _ _ _ _ _ _ _ { HTH.out with bel := HTH.out.bel.trans (hb.mono HTH.out.bel.size), h15 := fun _ => rfl })
                    | 16, _, hi, hib =>
                      have e12 : b12 = true := ready_dep hi rfl 12 (by kernel_rfl)
                      have he12 := HT.h12 e12
                      subst he12
                      clear HT
                      refine wpOp_want rfl 12 false rfl rfl (fun K hK => ?_)
                      go_simp
                      exact hK.out _ _ (.mk b0 b1 b2 b3 b4 b5 b6 b7 b8 b9 b10 b11 b12 b13 b14 b15 true b17 b18 b19 b20 b21 b22 b23 b24 b25 b26 _ _ _ _ _ _ _ _ _ _ _ _ _ _ _ _ _ _ _ _ _ _ _ _ _ _ _ _ { HTH.out with h16 := fun _ => rfl })
                    | 17, _, hi, hib =>
                      have e12 : b12 = true := ready_dep hi rfl 12 (by kernel_rfl)
                      have he12 := HT.h12 e12
                      subst he12
                      have d16 : b16 = true := ready_dep hi rfl 16 (by kernel_rfl)
                      have hd16 := HT.h16 d16
                      subst hd16
                      obtain ⟨y0, y1, y2, y3⟩ := cells4 ((HT.bel.block _ HL1.out).trans (HBX14.out.get (w.heap.size) (verC ma mi pa s) (by simp)))
                      clear HT
                      refine wpOp_want rfl 12 false rfl rfl (fun K hK => ?_)
                      go_simp
                      exact hK.out _ _ (.mk b0 b1 b2 b3 b4 b5 b6 b7 b8 b9 b10 b11 b12 b13 b14 b15 b16 true b18 b19 b20 b21 b22 b23 b24 b25 b26 _ _ _ _ _ _ _ _ _ _ _ _ _ _ _ _ _ _ _ _ _ _ _ _ _ _ _ _ { HTH.out with h17 := fun _ => rfl })
                    | 18, _, hi, hib =>
                      have e12 : b12 = true := ready_dep hi rfl 12 (by kernel_rfl)
                      have he12 := HT.h12 e12
                      subst he12
                      have d17 : b17 = true := ready_dep hi rfl 17 (by kernel_rfl)
                      have hd17 := HT.h17 d17
                      subst hd17
                      have da := HDA.out
                      clear HT
                      refine wpOp_want rfl 12 false rfl rfl (fun K hK => ?_)
                      go_simp
                      exact hK.out _ _ (.mk b0 b1 b2 b3 b4 b5 b6 b7 b8 b9 b10 b11 b12 b13 b14 b15 b16 b17 true b19 b20 b21 b22 b23 b24 b25 b26 _ _ _ _ _ _ _ _ _ _ _ _ _ _ _ _ _ _ _ _ _ _ _ _ _ _ _ _ { HTH.out with h18 := fun _ => rfl })
                    | 19, _, hi, hib =>
                      have e12 : b12 = true := ready_dep hi rfl 12 (by kernel_rfl)
                      have he12 := HT.h12 e12
                      subst he12
                      have d18 : b18 = true := ready_dep hi rfl 18 (by kernel_rfl)
                      have hd18 := HT.h18 d18
                      subst hd18
                      clear HT
                      refine wpOp_want rfl 12 false rfl rfl (fun K hK => ?_)
                      go_simp
                      exact hK.out _ _ (.mk b0 b1 b2 b3 b4 b5 b6 b7 b8 b9 b10 b11 b12 b13 b14 b15 b16 b17 b18 true b20 b21 b22 b23 b24 b25 b26 _ _ _ _ _ _ _ _ _ _ _ _ _ _ _ _ _ _ _ _ _ _ _ _ _ _ _ _ { HTH.out with h19 := fun _ => rfl })
                    | 20, _, hi, hib =>
                      have e19 : b19 = true := ready_dep hi rfl 19 (by kernel_rfl)
                      have he19 := HT.h19 e19
                      subst he19
                      refine wpOp_skip rfl 19 false rfl rfl ?_
                      exact .mk b0 b1 b2 b3 b4 b5 b6 b7 b8 b9 b10 b11 b12 b13 b14 b15 b16 b17 b18 b19 true b21 b22 b23 b24 b25 b26 _ _ _ _ _ _ _ _ _ _ _ _ _ _ _ _ _ _ _ _ _ _ _ _ _ _ _ _ { HT with h20 := fun _ => rfl }
                    | 21, _, hi, hib =>
                      have e19 : b19 = true := ready_dep hi rfl 19 (by kernel_rfl)
                      have he19 := HT.h19 e19
                      subst he19
                      refine wpOp_skip rfl 19 false rfl rfl ?_
                      exact .mk b0 b1 b2 b3 b4 b5 b6 b7 b8 b9 b10 b11 b12 b13 b14 b15 b16 b17 b18 b19 b20 true b22 b23 b24 b25 b26 _ _ _ _ _ _ _ _ _ _ _ _ _ _ _ _ _ _ _ _ _ _ _ _ _ _ _ _ { HT with h21 := fun _ => rfl }
                    | 22, _, hi, hib =>
                      have e19 : b19 = true := ready_dep hi rfl 19 (by kernel_rfl)
                      have he19 := HT.h19 e19
                      subst he19
                      refine wpOp_skip rfl 19 false rfl rfl ?_
                      exact .mk b0 b1 b2 b3 b4 b5 b6 b7 b8 b9 b10 b11 b12 b13 b14 b15 b16 b17 b18 b19 b20 b21 true b23 b24 b25 b26 _ _ _ _ _ _ _ _ _ _ _ _ _ _ _ _ _ _ _ _ _ _ _ _ _ _ _ _ { HT with h22 := fun _ => rfl }
                    | 23, _, hi, hib =>
                      have e12 : b12 = true := ready_dep hi rfl 12 (by kernel_rfl)
                      have he12 := HT.h12 e12
                      subst he12
                      have d19 : b19 = true := ready_dep hi rfl 19 (by kernel_rfl)
                      have hd19 := HT.h19 d19
                      subst hd19
                      have d22 : b22 = true := ready_dep hi rfl 22 (by kernel_rfl)
                      have hd22 := HT.h22 d22
                      subst hd22
                      clear HT
                      refine wpOp_want rfl 12 false rfl rfl (fun K hK => ?_)
                      go_simp
                      exact hK.out _ _ (.mk b0 b1 b2 b3 b4 b5 b6 b7 b8 b9 b10 b11 b12 b13 b14 b15 b16 b17 b18 b19 b20 b21 b22 true b24 b25 b26 _ _ _ _ _ _ _ _ _ _ _ _ _ _ _ _ _ _ _ _ _ _ _ _ _ _ _ _ { HTH.out with h23 := fun _ => rfl })
                    | 24, _, hi, hib =>
                      have e12 : b12 = true := ready_dep hi rfl 12 (by kernel_rfl)
                      have he12 := HT.h12 e12
                      subst he12
                      have d15 : b15 = true := ready_dep hi rfl 15 (by kernel_rfl)
                      have hd15 := HT.h15 d15
                      subst hd15
                      have d23 : b23 = true := ready_dep hi rfl 23 (by kernel_rfl)
                      have hd23 := HT.h23 d23
                      subst hd23
                      clear HT
                      refine wpOp_want rfl 12 false rfl rfl (fun K hK => ?_)
                      go_simp
                      exact hK.out _ _ (.mk b0 b1 b2 b3 b4 b5 b6 b7 b8 b9 b10 b11 b12 b13 b14 b15 b16 b17 b18 b19 b20 b21 b22 b23 true b25 b26 _ _ _ _ _ _ _ _ _ _ _ _ _ _ _ _ _ _ _ _ _ _ _ _ _ _ _ _ { HTH.out with h24 := fun _ => rfl })
                    | 25, _, hi, hib =>
                      have e7 : b7 = true := ready_dep hi rfl 7 (by kernel_rfl)
                      have he7 := HT.h7 e7
                      subst he7
                      have d12 : b12 = true := ready_dep hi rfl 12 (by kernel_rfl)
                      have hd12 := HT.h12 d12
                      subst hd12
                      have d24 : b24 = true := ready_dep hi rfl 24 (by kernel_rfl)
                      have hd24 := HT.h24 d24
                      subst hd24
                      clear HT
                      refine wpOp_want rfl 7 true rfl rfl (fun K hK => ?_)
                      go_simp
                      exact hK.out _ _ (.mk b0 b1 b2 b3 b4 b5 b6 b7 b8 b9 b10 b11 b12 b13 b14 b15 b16 b17 b18 b19 b20 b21 b22 b23 b24 true b26 _ _ _ _ _ _ _ _ _ _ _ _ _ _ _ _ _ _ _ _ _ _ _ _ _ _ _ _ { HTH.out with h25 := fun _ => rfl })
                    | 26, _, hi, hib =>
                      have d7 : b7 = true := ready_dep hi rfl 7 (by kernel_rfl)
                      have hd7 := HT.h7 d7
                      subst hd7
                      have d25 : b25 = true := ready_dep hi rfl 25 (by kernel_rfl)
                      have hd25 := HT.h25 d25
                      subst hd25
                      clear HT
                      refine wpOp_one rfl rfl (fun K hK => ?_)
                      go_simp
                      exact hK.out _ _ (.mk b0 b1 b2 b3 b4 b5 b6 b7 b8 b9 b10 b11 b12 b13 b14 b15 b16 b17 b18 b19 b20 b21 b22 b23 b24 b25 true _ _ _ _ _ _ _ _ _ _ _ _ _ _ _ _ _ _ _ _ _ _ _ _ _ _ _ _ { HTH.out with h26 := fun _ => rfl })
                  case fin =>
                    rintro l a' w' ⟨b0, b1, b2, b3, b4, b5, b6, b7, b8, b9, b10, b11, b12, b13, b14, b15, b16, b17, b18, b19, b20, b21, b22, b23, b24, b25, b26, v107, v108, v109, v110, v111, v112, v113, v114, v115, v116, v117, v118, v119, v120, v121, v122, v123, v124, v125, v126, v127, v128, v129, v130, v131, v132, v133, _, HT⟩ hr
                    obtain rfl : b0 = true := by
                      cases b0 with
                      | true => rfl
                      | false => exact (ready_in 0 rfl rfl (by simp [Region.binds]) hr).elim
                    obtain rfl : b1 = true := by
                      cases b1 with
                      | true => rfl
                      | false => exact (ready_in 1 rfl rfl (by simp [Region.binds]) hr).elim
                    obtain rfl : b2 = true := by
                      cases b2 with
                      | true => rfl
                      | false => exact (ready_in 2 rfl rfl (by simp [Region.binds]) hr).elim
                    obtain rfl : b3 = true := by
                      cases b3 with
                      | true => rfl
                      | false => exact (ready_in 3 rfl rfl (by simp [Region.binds]) hr).elim
                    obtain rfl : b4 = true := by
                      cases b4 with
                      | true => rfl
                      | false => exact (ready_in 4 rfl rfl (by simp [Region.binds]) hr).elim
                    obtain rfl : b5 = true := by
                      cases b5 with
                      | true => rfl
                      | false => exact (ready_in 5 rfl rfl (by simp [Region.binds]) hr).elim
                    obtain rfl : b6 = true := by
                      cases b6 with
                      | true => rfl
                      | false => exact (ready_in 6 rfl rfl (by simp [Region.binds]) hr).elim
                    obtain rfl : b7 = true := by
                      cases b7 with
                      | true => rfl
                      | false => exact (ready_in 7 rfl rfl (by simp [Region.binds]) hr).elim
                    obtain rfl : b8 = true := by
                      cases b8 with
                      | true => rfl
                      | false => exact (ready_in 8 rfl rfl (by simp [Region.binds]) hr).elim
                    obtain rfl : b9 = true := by
                      cases b9 with
                      | true => rfl
                      | false => exact (ready_in 9 rfl rfl (by simp [Region.binds]) hr).elim
                    obtain rfl : b10 = true := by
                      cases b10 with
                      | true => rfl
                      | false => exact (ready_in 10 rfl rfl (by simp [Region.binds]) hr).elim
                    obtain rfl : b11 = true := by
                      cases b11 with
                      | true => rfl
                      | false => exact (ready_in 11 rfl rfl (by simp [Region.binds]) hr).elim
                    obtain rfl : b12 = true := by
                      cases b12 with
                      | true => rfl
                      | false => exact (ready_in 12 rfl rfl (by simp [Region.binds]) hr).elim
                    obtain rfl : b13 = true := by
                      cases b13 with
                      | true => rfl
                      | false => exact (ready_in 13 rfl rfl (by simp [Region.binds]) hr).elim
                    obtain rfl : b14 = true := by
                      cases b14 with
                      | true => rfl
                      | false => exact (ready_in 14 rfl rfl (by simp [Region.binds]) hr).elim
                    obtain rfl : b15 = true := by
                      cases b15 with
                      | true => rfl
                      | false => exact (ready_in 15 rfl rfl (by simp [Region.binds]) hr).elim
                    obtain rfl : b16 = true := by
                      cases b16 with
                      | true => rfl
                      | false => exact (ready_in 16 rfl rfl (by simp [Region.binds]) hr).elim
                    obtain rfl : b17 = true := by
                      cases b17 with
                      | true => rfl
                      | false => exact (ready_in 17 rfl rfl (by simp [Region.binds]) hr).elim
                    obtain rfl : b18 = true := by
                      cases b18 with
                      | true => rfl
                      | false => exact (ready_in 18 rfl rfl (by simp [Region.binds]) hr).elim
                    obtain rfl : b19 = true := by
                      cases b19 with
                      | true => rfl
                      | false => exact (ready_in 19 rfl rfl (by simp [Region.binds]) hr).elim
                    obtain rfl : b20 = true := by
                      cases b20 with
                      | true => rfl
                      | false => exact (ready_in 20 rfl rfl (by simp [Region.binds]) hr).elim
                    obtain rfl : b21 = true := by
                      cases b21 with
                      | true => rfl
                      | false => exact (ready_in 21 rfl rfl (by simp [Region.binds]) hr).elim
                    obtain rfl : b22 = true := by
                      cases b22 with
                      | true => rfl
                      | false => exact (ready_in 22 rfl rfl (by simp [Region.binds]) hr).elim
                    obtain rfl : b23 = true := by
                      cases b23 with
                      | true => rfl
                      | false => exact (ready_in 23 rfl rfl (by simp [Region.binds]) hr).elim
                    obtain rfl : b24 = true := by
                      cases b24 with
                      | true => rfl
                      | false => exact (ready_in 24 rfl rfl (by simp [Region.binds]) hr).elim
                    obtain rfl : b25 = true := by
                      cases b25 with
                      | true => rfl
                      | false => exact (ready_in 25 rfl rfl (by simp [Region.binds]) hr).elim
                    obtain rfl : b26 = true := by
                      cases b26 with
                      | true => rfl
                      | false => exact (ready_in 26 rfl rfl (by simp [Region.binds]) hr).elim
                    have k0 := HT.h0 rfl
                    subst k0
                    have k1 := HT.h1 rfl
                    subst k1
                    have k2 := HT.h2 rfl
                    subst k2
                    have k3 := HT.h3 rfl
                    subst k3
                    have k4 := HT.h4 rfl
                    subst k4
                    have k5 := HT.h5 rfl
                    subst k5
                    have k6 := HT.h6 rfl
                    subst k6
                    have k7 := HT.h7 rfl
                    subst k7
                    have k8 := HT.h8 rfl
                    subst k8
                    have k9 := HT.h9 rfl
                    subst k9
                    have k10 := HT.h10 rfl
                    subst k10
                    have k11 := HT.h11 rfl
                    subst k11
                    have k12 := HT.h12 rfl
                    subst k12
                    have k13 := HT.h13 rfl
                    subst k13
                    have k14 := HT.h14 rfl
                    subst k14
                    have k15 := HT.h15 rfl
                    subst k15
                    have k16 := HT.h16 rfl
                    subst k16
                    have k17 := HT.h17 rfl
                    subst k17
                    have k18 := HT.h18 rfl
                    subst k18
                    have k19 := HT.h19 rfl
                    subst k19
                    have k20 := HT.h20 rfl
                    subst k20
                    have k21 := HT.h21 rfl
                    subst k21
                    have k22 := HT.h22 rfl
                    subst k22
                    have k23 := HT.h23 rfl
                    subst k23
                    have k24 := HT.h24 rfl
                    subst k24
                    have k25 := HT.h25 rfl
                    subst k25
                    have k26 := HT.h26 rfl
                    subst k26
                    have HF := HT.bel
                    clear HT hr
                    show _
                    go_wp2_with fail
                    go_meet
                    exact ⟨rfl, HF⟩
                · have HDA : Hid (decide (0 < ma) = false) := Lib.hid (decide_eq_false ha)
                  clear ha
                  by_cases hb : 0 < mi
                  · have HDM : Hid (decide (0 < mi) = true) := Lib.hid (decide_eq_true hb)
                    clear hb
                    have HQ7 : Hid (hasR [[⟨7, ma, mi, pa, s⟩]] ⟨ma, mi, pa + 1, bs ⟨#[]⟩⟩ = true) := Lib.hid ((HQT.out _ (right_pat HR.out h9)).trans (by rw [HS0.out]; exact tilde_pat (by rw [← HS0.out]; exact HR.out)))
                    have HQ6 : Hid (hasR [[⟨6, ma, mi, pa, s⟩]] ⟨ma, mi, pa + 1, bs ⟨#[]⟩⟩ = true) := Lib.hid ((HQC.out _ (right_pat HR.out h9)).trans (by rw [HS0.out]; exact (caret_pat (by rw [← HS0.out]; exact HR.out) h9).trans (by rw [HDA.out, HDM.out]; rfl)))
                    clear h9
                    refine wp_region_inv (by kernel_rfl) (I := DbJ W14 ma mi pa s w.heap.size (.agg #[.slice (some ⟨W2.heap.size + 1, 0, none⟩) 1 1]) (.agg #[.slice (some ⟨W2.heap.size + 1 + 1 + 1 + 1, 0, none⟩) 1 1]) _ _ _ _ _ _ _ _ _ _ _ _ _ _ _ _ _ _ _ _ _ _ _ _ _ _ _ _ _ _ _ _ _ _ _ _ _ _ _ _ _ _ _ _ _ _ _ _ _ _ _ _ _ _ _ _ _ _ _ _ _ _ _ _ _ _ _ _ _ _ _ _ _ _ _ _ _ _ _ _ _ _ _ _ _ _ _ _ _ _ _ _ _ _ _ _ _ _ _ _ _ _ _ _ _ _ _) (.mk false false false false false false false false false false false false false false false false false false false false false false false false false false false _ _ _ _ _ _ _ _ _ _ _ _ _ _ _ _ _ _ _ _ _ _ _ _ _ _ _ _ ⟨(Below.refl _ W14).drew, nofun, nofun, nofun, nofun, nofun, nofun, nofun, nofun, nofun, nofun, nofun, nofun, nofun, nofun, nofun, nofun, nofun, nofun, nofun, nofun, nofun, nofun, nofun, nofun, nofun, nofun, nofun⟩) ?step ?fin
                    case step =>
                      rintro l a' w' i ⟨b0, b1, b2, b3, b4, b5, b6, b7, b8, b9, b10, b11, b12, b13, b14, b15, b16, b17, b18, b19, b20, b21, b22, b23, b24, b25, b26, v107, v108, v109, v110, v111, v112, v113, v114, v115, v116, v117, v118, v119, v120, v121, v122, v123, v124, v125, v126, v127, v128, v129, v130, v131, v132, v133, _, HT⟩ hi
                      obtain ⟨hi_, hib⟩ := ready_lt hi
                      have HTH := Lib.hid HT
                      match i, hi_, hi, hib with
                      | 0, _, hi, hib =>
                        clear HT
                        refine wpOp_one rfl rfl (fun K hK => ?_)
                        go_simp
                        exact hK.out _ _ (.mk true b1 b2 b3 b4 b5 b6 b7 b8 b9 b10 b11 b12 b13 b14 b15 b16 b17 b18 b19 b20 b21 b22 b23 b24 b25 b26 _ _ _ _ _ _ _ _ _ _ _ _ _ _ _ _ _ _ _ _ _ _ _ _ _ _ _ _ { HTH.out with h0 := fun _ => rfl })
                      | 1, _, hi, hib =>
                        have d0 : b0 = true := ready_dep hi rfl 0 (by kernel_rfl)
                        have hd0 := HT.h0 d0
                        subst hd0
                        clear HT
                        refine wpOp_one rfl rfl (fun K hK => ?_)
                        go_simp
                        exact hK.out _ _ (.mk b0 true b2 b3 b4 b5 b6 b7 b8 b9 b10 b11 b12 b13 b14 b15 b16 b17 b18 b19 b20 b21 b22 b23 b24 b25 b26 _ _ _ _ _ _ _ _ _ _ _ _ _ _ _ _ _ _ _ _ _ _ _ _ _ _ _ _ { HTH.out with h1 := fun _ => rfl })
                      | 2, _, hi, hib =>
                        have d1 : b1 = true := ready_dep hi rfl 1 (by kernel_rfl)
                        have hd1 := HT.h1 d1
                        subst hd1
                        clear HT
                        refine wpOp_one rfl rfl (fun K hK => ?_)
                        go_simp
                        exact hK.out _ _ (.mk b0 b1 true b3 b4 b5 b6 b7 b8 b9 b10 b11 b12 b13 b14 b15 b16 b17 b18 b19 b20 b21 b22 b23 b24 b25 b26 _ _ _ _ _ _ _ _ _ _ _ _ _ _ _ _ _ _ _ _ _ _ _ _ _ _ _ _ { HTH.out with h2 := fun _ => rfl })
                      | 3, _, hi, hib =>
                        have e2 : b2 = true := ready_dep hi rfl 2 (by kernel_rfl)
                        have he2 := HT.h2 e2
                        subst he2
                        clear HT
                        refine wpOp_want rfl 2 true rfl rfl (fun K hK => ?_)
                        go_simp
                        exact hK.out _ _ (.mk b0 b1 b2 true b4 b5 b6 b7 b8 b9 b10 b11 b12 b13 b14 b15 b16 b17 b18 b19 b20 b21 b22 b23 b24 b25 b26 _ _ _ _ _ _ _ _ _ _ _ _ _ _ _ _ _ _ _ _ _ _ _ _ _ _ _ _ { HTH.out with h3 := fun _ => rfl })
                      | 4, _, hi, hib =>
                        have e2 : b2 = true := ready_dep hi rfl 2 (by kernel_rfl)
                        have he2 := HT.h2 e2
                        subst he2
                        have d3 : b3 = true := ready_dep hi rfl 3 (by kernel_rfl)
                        have hd3 := HT.h3 d3
                        subst hd3
                        obtain ⟨y0, y1, y2, y3⟩ := cells4 ((HT.bel.block _ HL1.out).trans (HBX14.out.get (w.heap.size) (verC ma mi pa s) (by simp)))
                        clear HT
                        refine wpOp_want rfl 2 true rfl rfl (fun K hK => ?_)
                        go_simp
                        exact hK.out _ _ (.mk b0 b1 b2 b3 true b5 b6 b7 b8 b9 b10 b11 b12 b13 b14 b15 b16 b17 b18 b19 b20 b21 b22 b23 b24 b25 b26 _ _ _ _ _ _ _ _ _ _ _ _ _ _ _ _ _ _ _ _ _ _ _ _ _ _ _ _ { HTH.out with h4 := fun _ => rfl })
                      | 5, _, hi, hib =>
                        have e2 : b2 = true := ready_dep hi rfl 2 (by kernel_rfl)
                        have he2 := HT.h2 e2
                        subst he2
                        have d4 : b4 = true := ready_dep hi rfl 4 (by kernel_rfl)
                        have hd4 := HT.h4 d4
                        subst hd4
                        have hse := HSE.out
                        clear HT
                        refine wpOp_want rfl 2 true rfl rfl (fun K hK => ?_)
                        go_simp
                        exact hK.out _ _ (.mk b0 b1 b2 b3 b4 true b6 b7 b8 b9 b10 b11 b12 b13 b14 b15 b16 b17 b18 b19 b20 b21 b22 b23 b24 b25 b26 _ _ _ _ _ _ _ _ _ _ _ _ _ _ _ _ _ _ _ _ _ _ _ _ _ _ _ _ { HTH.out with h5 := fun _ => rfl })
                      | 6, _, hi, hib =>
                        have d2 : b2 = true := ready_dep hi rfl 2 (by kernel_rfl)
                        have hd2 := HT.h2 d2
                        subst hd2
                        have d5 : b5 = true := ready_dep hi rfl 5 (by kernel_rfl)
                        have hd5 := HT.h5 d5
                        subst hd5
                        clear HT
                        refine wpOp_one rfl rfl (fun K hK => ?_)
                        go_simp
                        exact hK.out _ _ (.mk b0 b1 b2 b3 b4 b5 true b7 b8 b9 b10 b11 b12 b13 b14 b15 b16 b17 b18 b19 b20 b21 b22 b23 b24 b25 b26 _ _ _ _ _ _ _ _ _ _ _ _ _ _ _ _ _ _ _ _ _ _ _ _ _ _ _ _ { HTH.out with h6 := fun _ => rfl })
                      | 7, _, hi, hib =>
                        have d6 : b6 = true := ready_dep hi rfl 6 (by kernel_rfl)
                        have hd6 := HT.h6 d6
                        subst hd6
                        clear HT
                        refine wpOp_one rfl rfl (fun K hK => ?_)
                        go_simp
                        exact hK.out _ _ (.mk b0 b1 b2 b3 b4 b5 b6 true b8 b9 b10 b11 b12 b13 b14 b15 b16 b17 b18 b19 b20 b21 b22 b23 b24 b25 b26 _ _ _ _ _ _ _ _ _ _ _ _ _ _ _ _ _ _ _ _ _ _ _ _ _ _ _ _ { HTH.out with h7 := fun _ => rfl })
                      | 8, _, hi, hib =>
                        have e7 : b7 = true := ready_dep hi rfl 7 (by kernel_rfl)
                        have he7 := HT.h7 e7
                        subst he7
                        have c4 := cell1 ((HT.bel.block _ HL4.out).trans (HBX14.out.get (W2.heap.size + 1 + 1 + 1 + 1 + 1) (.cells #[.slice (some ⟨W2.heap.size + 1 + 1 + 1 + 1, 0, none⟩) 1 1] 48) (by simp)))
                        clear HT
                        refine wpOp_want rfl 7 true rfl rfl (fun K hK => ?_)
                        go_simp
                        exact hK.out _ _ (.mk b0 b1 b2 b3 b4 b5 b6 b7 true b9 b10 b11 b12 b13 b14 b15 b16 b17 b18 b19 b20 b21 b22 b23 b24 b25 b26 _ _ _ _ _ _ _ _ _ _ _ _ _ _ _ _ _ _ _ _ _ _ _ _ _ _ _ _ { HTH.out with h8 := fun _ => rfl })
                      | 9, _, hi, hib =>
                        have e7 : b7 = true := ready_dep hi rfl 7 (by kernel_rfl)
                        have he7 := HT.h7 e7
                        subst he7
                        obtain ⟨u0, u1, u2, u3⟩ := cells4 ((HT.bel.block _ HLU.out).trans (HBX14.out.get (W13.heap.size) (verC ma mi (pa + 1) ⟨#[]⟩) (by simp)))
                        clear HT
                        refine wpOp_want rfl 7 true rfl rfl (fun K hK => ?_)
                        go_simp
                        exact hK.out _ _ (.mk b0 b1 b2 b3 b4 b5 b6 b7 b8 true b10 b11 b12 b13 b14 b15 b16 b17 b18 b19 b20 b21 b22 b23 b24 b25 b26 _ _ _ _ _ _ _ _ _ _ _ _ _ _ _ _ _ _ _ _ _ _ _ _ _ _ _ _ { HTH.out with h9 := fun _ => rfl })
                      | 10, _, hi, hib =>
                        have e7 : b7 = true := ready_dep hi rfl 7 (by kernel_rfl)
                        have he7 := HT.h7 e7
                        subst he7
                        have d8 : b8 = true := ready_dep hi rfl 8 (by kernel_rfl)
                        have hd8 := HT.h8 d8
                        subst hd8
                        have d9 : b9 = true := ready_dep hi rfl 9 (by kernel_rfl)
                        have hd9 := HT.h9 d9
                        subst hd9
                        have hM := HM14.out.1.below HM14.out.2 HT.bel
                        have HC := Lib.hid (hasOf_any ⟨7, ma, mi, pa, s⟩ _ ma mi (pa + 1) ⟨#[]⟩ w' (HOT14.out.below HT.bel) (by have := HS.out; show s.size < _; omega) (by decide) hM.1 hM.2)
                        rw [HQ7.out] at HC
                        clear hM
                        clear HT
                        refine wpOp_want rfl 7 true rfl rfl (fun K hK => ?_)
                        go_simp
                        refine HC.out.mono ?_
                        rintro e w2 ⟨rfl, hb⟩
                        exact hK.out _ _ (.mk b0 b1 b2 b3 b4 b5 b6 b7 b8 b9 true b11 b12 b13 b14 b15 b16 b17 b18 b19 b20 b21 b22 b23 b24 b25 b26 _ _ _ _ _ _ _ _ _ _ _ _ _ _ _ _ _ _ _ _ _ _ _ _ _ _ _ _ { HTH.out with bel := HTH.out.bel.trans (hb.mono HTH.out.bel.size), h10 := fun _ => rfl })
                      | 11, _, hi, hib =>
                        have e7 : b7 = true := ready_dep hi rfl 7 (by kernel_rfl)
                        have he7 := HT.h7 e7
                        subst he7
                        have d10 : b10 = true := ready_dep hi rfl 10 (by kernel_rfl)
                        have hd10 := HT.h10 d10
                        subst hd10
                        clear HT
                        refine wpOp_want rfl 7 true rfl rfl (fun K hK => ?_)
                        go_simp
                        exact hK.out _ _ (.mk b0 b1 b2 b3 b4 b5 b6 b7 b8 b9 b10 true b12 b13 b14 b15 b16 b17 b18 b19 b20 b21 b22 b23 b24 b25 b26 _ _ _ _ _ _ _ _ _ _ _ _ _ _ _ _ _ _ _ _ _ _ _ _ _ _ _ _ { HTH.out with h11 := fun _ => rfl })
                      | 12, _, hi, hib =>
                        have e7 : b7 = true := ready_dep hi rfl 7 (by kernel_rfl)
                        have he7 := HT.h7 e7
                        subst he7
                        have d11 : b11 = true := ready_dep hi rfl 11 (by kernel_rfl)
                        have hd11 := HT.h11 d11
                        subst hd11
                        clear HT
                        refine wpOp_want rfl 7 true rfl rfl (fun K hK => ?_)
                        go_simp
                        exact hK.out _ _ (.mk b0 b1 b2 b3 b4 b5 b6 b7 b8 b9 b10 b11 true b13 b14 b15 b16 b17 b18 b19 b20 b21 b22 b23 b24 b25 b26 _ _ _ _ _ _ _ _ _ _ _ _ _ _ _ _ _ _ _ _ _ _ _ _ _ _ _ _ { HTH.out with h12 := fun _ => rfl })
                      | 13, _, hi, hib =>
                        have e12 : b12 = true := ready_dep hi rfl 12 (by kernel_rfl)
                        have he12 := HT.h12 e12
                        subst he12
                        have c3 := cell1 ((HT.bel.block _ HL3.out).trans (HBX14.out.get (W2.heap.size + 1 + 1) (.cells #[.slice (some ⟨W2.heap.size + 1, 0, none⟩) 1 1] 48) (by simp)))
                        clear HT
                        refine wpOp_want rfl 12 false rfl rfl (fun K hK => ?_)
                        go_simp
                        exact hK.out _ _ (.mk b0 b1 b2 b3 b4 b5 b6 b7 b8 b9 b10 b11 b12 true b14 b15 b16 b17 b18 b19 b20 b21 b22 b23 b24 b25 b26 _ _ _ _ _ _ _ _ _ _ _ _ _ _ _ _ _ _ _ _ _ _ _ _ _ _ _ _ { HTH.out with h13 := fun _ => rfl })
                      | 14, _, hi, hib =>
                        have e12 : b12 = true := ready_dep hi rfl 12 (by kernel_rfl)
                        have he12 := HT.h12 e12
                        subst he12
                        obtain ⟨u0, u1, u2, u3⟩ := cells4 ((HT.bel.block _ HLU.out).trans (HBX14.out.get (W13.heap.size) (verC ma mi (pa + 1) ⟨#[]⟩) (by simp)))
                        clear HT
                        refine wpOp_want rfl 12 false rfl rfl (fun K hK => ?_)
                        go_simp
                        exact hK.out _ _ (.mk b0 b1 b2 b3 b4 b5 b6 b7 b8 b9 b10 b11 b12 b13 true b15 b16 b17 b18 b19 b20 b21 b22 b23 b24 b25 b26 _ _ _ _ _ _ _ _ _ _ _ _ _ _ _ _ _ _ _ _ _ _ _ _ _ _ _ _ { HTH.out with h14 := fun _ => rfl })
                      | 15, _, hi, hib =>
                        have e12 : b12 = true := ready_dep hi rfl 12 (by kernel_rfl)
                        have he12 := HT.h12 e12
                        subst he12
                        have d13 : b13 = true := ready_dep hi rfl 13 (by kernel_rfl)
                        have hd13 := HT.h13 d13
                        subst hd13
                        have d14 : b14 = true := ready_dep hi rfl 14 (by kernel_rfl)
                        have hd14 := HT.h14 d14
                        subst hd14
                        have hM := HM14.out.1.below HM14.out.2 HT.bel
                        have HC := Lib.hid (hasOf_any ⟨6, ma, mi, pa, s⟩ _ ma mi (pa + 1) ⟨#[]⟩ w' (HOC14.out.below HT.bel) (by have := HS.out; show s.size < _; omega) (by decide) hM.1 hM.2)
                        rw [HQ6.out] at HC
                        clear hM
                        clear HT
                        refine wpOp_want rfl 12 false rfl rfl (fun K hK => ?_)
                        go_simp
                        refine HC.out.mono ?_
                        rintro e w2 ⟨rfl, hb⟩
                        exact hK.out _ _ (.mk b0 b1 b2 b3 b4 b5 b6 b7 b8 b9 b10 b11 b12 b13 b14 true b16 b17 b18 b19 b20 b21 b22 b23 b24 b25 b26 _ _ _ _ _ _ _ _ _ _ _ _ _ _ _ _ _ _ _ _ _ _ _ _ _ _ _ _ { HTH.out with bel := HTH.out.bel.trans (hb.mono HTH.out.bel.size), h15 := fun _ => rfl })
                      | 16, _, hi, hib =>
                        have e12 : b12 = true := ready_dep hi rfl 12 (by kernel_rfl)
                        have he12 := HT.h12 e12
                        subst he12
                        clear HT
                        refine wpOp_want rfl 12 false rfl rfl (fun K hK => ?_)
                        go_simp
                        exact hK.out _ _ (.mk b0 b1 b2 b3 b4 b5 b6 b7 b8 b9 b10 b11 b12 b13 b14 b15 true b17 b18 b19 b20 b21 b22 b23 b24 b25 b26 _ _ _ _ _ _ _ _ _ _ _ _ _ _ _ _ _ _ _ _ _ _ _ _ _ _ _ _ { HTH.out with h16 := fun _ => rfl })
                      | 17, _, hi, hib =>
                        have e12 : b12 = true := ready_dep hi rfl 12 (by kernel_rfl)
                        have he12 := HT.h12 e12
                        subst he12
                        have d16 : b16 = true := ready_dep hi rfl 16 (by kernel_rfl)
                        have hd16 := HT.h16 d16
                        subst hd16
                        obtain ⟨y0, y1, y2, y3⟩ := cells4 ((HT.bel.block _ HL1.out).trans (HBX14.out.get (w.heap.size) (verC ma mi pa s) (by simp)))
                        clear HT
                        refine wpOp_want rfl 12 false rfl rfl (fun K hK => ?_)
                        go_simp
                        exact hK.out _ _ (.mk b0 b1 b2 b3 b4 b5 b6 b7 b8 b9 b10 b11 b12 b13 b14 b15 b16 true b18 b19 b20 b21 b22 b23 b24 b25 b26 _ _ _ _ _ _ _ _ _ _ _ _ _ _ _ _ _ _ _ _ _ _ _ _ _ _ _ _ { HTH.out with h17 := fun _ => rfl })
                      | 18, _, hi, hib =>
                        have e12 : b12 = true := ready_dep hi rfl 12 (by kernel_rfl)
                        have he12 := HT.h12 e12
                        subst he12
                        have d17 : b17 = true := ready_dep hi rfl 17 (by kernel_rfl)
                        have hd17 := HT.h17 d17
                        subst hd17
                        have da := HDA.out
                        clear HT
                        refine wpOp_want rfl 12 false rfl rfl (fun K hK => ?_)
                        go_simp
                        exact hK.out _ _ (.mk b0 b1 b2 b3 b4 b5 b6 b7 b8 b9 b10 b11 b12 b13 b14 b15 b16 b17 true b19 b20 b21 b22 b23 b24 b25 b26 _ _ _ _ _ _ _ _ _ _ _ _ _ _ _ _ _ _ _ _ _ _ _ _ _ _ _ _ { HTH.out with h18 := fun _ => rfl })
                      | 19, _, hi, hib =>
                        have e12 : b12 = true := ready_dep hi rfl 12 (by kernel_rfl)
                        have he12 := HT.h12 e12
                        subst he12
                        have d18 : b18 = true := ready_dep hi rfl 18 (by kernel_rfl)
                        have hd18 := HT.h18 d18
                        subst hd18
                        clear HT
                        refine wpOp_want rfl 12 false rfl rfl (fun K hK => ?_)
                        go_simp
                        exact hK.out _ _ (.mk b0 b1 b2 b3 b4 b5 b6 b7 b8 b9 b10 b11 b12 b13 b14 b15 b16 b17 b18 true b20 b21 b22 b23 b24 b25 b26 _ _ _ _ _ _ _ _ _ _ _ _ _ _ _ _ _ _ _ _ _ _ _ _ _ _ _ _ { HTH.out with h19 := fun _ => rfl })
                      | 20, _, hi, hib =>
                        have e19 : b19 = true := ready_dep hi rfl 19 (by kernel_rfl)
                        have he19 := HT.h19 e19
                        subst he19
                        clear HT
                        refine wpOp_want rfl 19 false rfl rfl (fun K hK => ?_)
                        go_simp
                        exact hK.out _ _ (.mk b0 b1 b2 b3 b4 b5 b6 b7 b8 b9 b10 b11 b12 b13 b14 b15 b16 b17 b18 b19 true b21 b22 b23 b24 b25 b26 _ _ _ _ _ _ _ _ _ _ _ _ _ _ _ _ _ _ _ _ _ _ _ _ _ _ _ _ { HTH.out with h20 := fun _ => rfl })
                      | 21, _, hi, hib =>
                        have e19 : b19 = true := ready_dep hi rfl 19 (by kernel_rfl)
                        have he19 := HT.h19 e19
                        subst he19
                        have d20 : b20 = true := ready_dep hi rfl 20 (by kernel_rfl)
                        have hd20 := HT.h20 d20
                        subst hd20
                        obtain ⟨y0, y1, y2, y3⟩ := cells4 ((HT.bel.block _ HL1.out).trans (HBX14.out.get (w.heap.size) (verC ma mi pa s) (by simp)))
                        clear HT
                        refine wpOp_want rfl 19 false rfl rfl (fun K hK => ?_)
                        go_simp
                        exact hK.out _ _ (.mk b0 b1 b2 b3 b4 b5 b6 b7 b8 b9 b10 b11 b12 b13 b14 b15 b16 b17 b18 b19 b20 true b22 b23 b24 b25 b26 _ _ _ _ _ _ _ _ _ _ _ _ _ _ _ _ _ _ _ _ _ _ _ _ _ _ _ _ { HTH.out with h21 := fun _ => rfl })
                      | 22, _, hi, hib =>
                        have e19 : b19 = true := ready_dep hi rfl 19 (by kernel_rfl)
                        have he19 := HT.h19 e19
                        subst he19
                        have d21 : b21 = true := ready_dep hi rfl 21 (by kernel_rfl)
                        have hd21 := HT.h21 d21
                        subst hd21
                        have dm := HDM.out
                        clear HT
                        refine wpOp_want rfl 19 false rfl rfl (fun K hK => ?_)
                        go_simp
                        exact hK.out _ _ (.mk b0 b1 b2 b3 b4 b5 b6 b7 b8 b9 b10 b11 b12 b13 b14 b15 b16 b17 b18 b19 b20 b21 true b23 b24 b25 b26 _ _ _ _ _ _ _ _ _ _ _ _ _ _ _ _ _ _ _ _ _ _ _ _ _ _ _ _ { HTH.out with h22 := fun _ => rfl })
                      | 23, _, hi, hib =>
                        have e12 : b12 = true := ready_dep hi rfl 12 (by kernel_rfl)
                        have he12 := HT.h12 e12
                        subst he12
                        have d19 : b19 = true := ready_dep hi rfl 19 (by kernel_rfl)
                        have hd19 := HT.h19 d19
                        subst hd19
                        have d22 : b22 = true := ready_dep hi rfl 22 (by kernel_rfl)
                        have hd22 := HT.h22 d22
                        subst hd22
                        clear HT
                        refine wpOp_want rfl 12 false rfl rfl (fun K hK => ?_)
                        go_simp
                        exact hK.out _ _ (.mk b0 b1 b2 b3 b4 b5 b6 b7 b8 b9 b10 b11 b12 b13 b14 b15 b16 b17 b18 b19 b20 b21 b22 true b24 b25 b26 _ _ _ _ _ _ _ _ _ _ _ _ _ _ _ _ _ _ _ _ _ _ _ _ _ _ _ _ { HTH.out with h23 := fun _ => rfl })
                      | 24, _, hi, hib =>
                        have e12 : b12 = true := ready_dep hi rfl 12 (by kernel_rfl)
                        have he12 := HT.h12 e12
                        subst he12
                        have d15 : b15 = true := ready_dep hi rfl 15 (by kernel_rfl)
                        have hd15 := HT.h15 d15
                        subst hd15
                        have d23 : b23 = true := ready_dep hi rfl 23 (by kernel_rfl)
                        have hd23 := HT.h23 d23
                        subst hd23
                        clear HT
                        refine wpOp_want rfl 12 false rfl rfl (fun K hK => ?_)
                        go_simp
                        exact hK.out _ _ (.mk b0 b1 b2 b3 b4 b5 b6 b7 b8 b9 b10 b11 b12 b13 b14 b15 b16 b17 b18 b19 b20 b21 b22 b23 true b25 b26 _ _ _ _ _ _ _ _ _ _ _ _ _ _ _ _ _ _ _ _ _ _ _ _ _ _ _ _ { HTH.out with h24 := fun _ => rfl })
                      | 25, _, hi, hib =>
                        have e7 : b7 = true := ready_dep hi rfl 7 (by kernel_rfl)
                        have he7 := HT.h7 e7
                        subst he7
                        have d12 : b12 = true := ready_dep hi rfl 12 (by kernel_rfl)
                        have hd12 := HT.h12 d12
                        subst hd12
                        have d24 : b24 = true := ready_dep hi rfl 24 (by kernel_rfl)
                        have hd24 := HT.h24 d24
                        subst hd24
                        clear HT
                        refine wpOp_want rfl 7 true rfl rfl (fun K hK => ?_)
                        go_simp
                        exact hK.out _ _ (.mk b0 b1 b2 b3 b4 b5 b6 b7 b8 b9 b10 b11 b12 b13 b14 b15 b16 b17 b18 b19 b20 b21 b22 b23 b24 true b26 _ _ _ _ _ _ _ _ _ _ _ _ _ _ _ _ _ _ _ _ _ _ _ _ _ _ _ _ { HTH.out with h25 := fun _ => rfl })
                      | 26, _, hi, hib =>
                        have d7 : b7 = true := ready_dep hi rfl 7 (by kernel_rfl)
                        have hd7 := HT.h7 d7
                        subst hd7
                        have d25 : b25 = true := ready_dep hi rfl 25 (by kernel_rfl)
                        have hd25 := HT.h25 d25
                        subst hd25
                        clear HT
                        refine wpOp_one rfl rfl (fun K hK => ?_)
                        go_simp
                        exact hK.out _ _ (.mk b0 b1 b2 b3 b4 b5 b6 b7 b8 b9 b10 b11 b12 b13 b14 b15 b16 b17 b18 b19 b20 b21 b22 b23 b24 b25 true _ _ _ _ _ _ _ _ _ _ _ _ _ _ _ _ _ _ _ _ _ _ _ _ _ _ _ _ { HTH.out with h26 := fun _ => rfl })
                    case fin =>
                      rintro l a' w' ⟨b0, b1, b2, b3, b4, b5, b6, b7, b8, b9, b10, b11, b12, b13, b14, b15, b16, b17, b18, b19, b20, b21, b22, b23, b24, b25, b26, v107, v108, v109, v110, v111, v112, v113, v114, v115, v116, v117, v118, v119, v120, v121, v122, v123, v124, v125, v126, v127, v128, v129, v130, v131, v132, v133, _, HT⟩ hr
                      obtain rfl : b0 = true := by
                        cases b0 with
                        | true => rfl
                        | false => exact (ready_in 0 rfl rfl (by simp [Region.binds]) hr).elim
                      obtain rfl : b1 = true := by
                        cases b1 with
                        | true => rfl
                        | false => exact (ready_in 1 rfl rfl (by simp [Region.binds]) hr).elim
                      obtain rfl : b2 = true := by
                        cases b2 with
                        | true => rfl
                        | false => exact (ready_in 2 rfl rfl (by simp [Region.binds]) hr).elim
                      obtain rfl : b3 = true := by
                        cases b3 with
                        | true => rfl
                        | false => exact (ready_in 3 rfl rfl (by simp [Region.binds]) hr).elim
                      obtain rfl : b4 = true := by
                        cases b4 with
                        | true => rfl
                        | false => exact (ready_in 4 rfl rfl (by simp [Region.binds]) hr).elim
                      obtain rfl : b5 = true := by
                        cases b5 with
                        | true => rfl
                        | false => exact (ready_in 5 rfl rfl (by simp [Region.binds]) hr).elim
                      obtain rfl : b6 = true := by
                        cases b6 with
                        | true => rfl
                        | false => exact (ready_in 6 rfl rfl (by simp [Region.binds]) hr).elim
                      obtain rfl : b7 = true := by
                        cases b7 with
                        | true => rfl
                        | false => exact (ready_in 7 rfl rfl (by simp [Region.binds]) hr).elim
                      obtain rfl : b8 = true := by
                        cases b8 with
                        | true => rfl
                        | false => exact (ready_in 8 rfl rfl (by simp [Region.binds]) hr).elim
                      obtain rfl : b9 = true := by
                        cases b9 with
                        | true => rfl
                        | false => exact (ready_in 9 rfl rfl (by simp [Region.binds]) hr).elim
                      obtain rfl : b10 = true := by
                        cases b10 with
                        | true => rfl
                        | false => exact (ready_in 10 rfl rfl (by simp [Region.binds]) hr).elim
                      obtain rfl : b11 = true := by
                        cases b11 with
                        | true => rfl
                        | false => exact (ready_in 11 rfl rfl (by simp [Region.binds]) hr).elim
                      obtain rfl : b12 = true := by
                        cases b12 with
                        | true => rfl
                        | false => exact (ready_in 12 rfl rfl (by simp [Region.binds]) hr).elim
                      obtain rfl : b13 = true := by
                        cases b13 with
                        | true => rfl
                        | false => exact (ready_in 13 rfl rfl (by simp [Region.binds]) hr).elim
                      obtain rfl : b14 = true := by
                        cases b14 with
                        | true => rfl
                        | false => exact (ready_in 14 rfl rfl (by simp [Region.binds]) hr).elim
                      obtain rfl : b15 = true := by
                        cases b15 with
                        | true => rfl
                        | false => exact (ready_in 15 rfl rfl (by simp [Region.binds]) hr).elim
                      obtain rfl : b16 = true := by
                        cases b16 with
                        | true => rfl
                        | false => exact (ready_in 16 rfl rfl (by simp [Region.binds]) hr).elim
                      obtain rfl : b17 = true := by
                        cases b17 with
                        | true => rfl
                        | false => exact (ready_in 17 rfl rfl (by simp [Region.binds]) hr).elim
                      obtain rfl : b18 = true := by
                        cases b18 with
                        | true => rfl
                        | false => exact (ready_in 18 rfl rfl (by simp [Region.binds]) hr).elim
                      obtain rfl : b19 = true := by
                        cases b19 with
                        | true => rfl
                        | false => exact (ready_in 19 rfl rfl (by simp [Region.binds]) hr).elim
                      obtain rfl : b20 = true := by
                        cases b20 with
                        | true => rfl
                        | false => exact (ready_in 20 rfl rfl (by simp [Region.binds]) hr).elim
                      obtain rfl : b21 = true := by
                        cases b21 with
                        | true => rfl
                        | false => exact (ready_in 21 rfl rfl (by simp [Region.binds]) hr).elim
                      obtain rfl : b22 = true := by
                        cases b22 with
                        | true => rfl
                        | false => exact (ready_in 22 rfl rfl (by simp [Region.binds]) hr).elim
                      obtain rfl : b23 = true := by
                        cases b23 with
                        | true => rfl
                        | false => exact (ready_in 23 rfl rfl (by simp [Region.binds]) hr).elim
                      obtain rfl : b24 = true := by
                        cases b24 with
                        | true => rfl
                        | false => exact (ready_in 24 rfl rfl (by simp [Region.binds]) hr).elim
                      obtain rfl : b25 = true := by
                        cases b25 with
                        | true => rfl
                        | false => exact (ready_in 25 rfl rfl (by simp [Region.binds]) hr).elim
                      obtain rfl : b26 = true := by
                        cases b26 with
                        | true => rfl
                        | false => exact (ready_in 26 rfl rfl (by simp [Region.binds]) hr).elim
                      have k0 := HT.h0 rfl
                      subst k0
                      have k1 := HT.h1 rfl
                      subst k1
                      have k2 := HT.h2 rfl
                      subst k2
                      have k3 := HT.h3 rfl
                      subst k3
                      have k4 := HT.h4 rfl
                      subst k4
                      have k5 := HT.h5 rfl
                      subst k5
                      have k6 := HT.h6 rfl
                      subst k6
                      have k7 := HT.h7 rfl
                      subst k7
                      have k8 := HT.h8 rfl
                      subst k8
                      have k9 := HT.h9 rfl
                      subst k9
                      have k10 := HT.h10 rfl
                      subst k10
                      have k11 := HT.h11 rfl
                      subst k11
                      have k12 := HT.h12 rfl
                      subst k12
                      have k13 := HT.h13 rfl
                      subst k13
                      have k14 := HT.h14 rfl
                      subst k14
                      have k15 := HT.h15 rfl
                      subst k15
                      have k16 := HT.h16 rfl
                      subst k16
                      have k17 := HT.h17 rfl
                      subst k17
                      have k18 := HT.h18 rfl
                      subst k18
                      have k19 := HT.h19 rfl
                      subst k19
                      have k20 := HT.h20 rfl
                      subst k20
                      have k21 := HT.h21 rfl
                      subst k21
                      have k22 := HT.h22 rfl
                      subst k22
                      have k23 := HT.h23 rfl
                      subst k23
                      have k24 := HT.h24 rfl
                      subst k24
                      have k25 := HT.h25 rfl
                      subst k25
                      have k26 := HT.h26 rfl
                      subst k26
                      have HF := HT.bel
                      clear HT hr
                      show _
                      go_wp2_with fail
                      go_meet
                      exact ⟨rfl, HF⟩
                  · have HDM : Hid (decide (0 < mi) = false) := Lib.hid (decide_eq_false hb)
                    clear hb
                    have HQ7 : Hid (hasR [[⟨7, ma, mi, pa, s⟩]] ⟨ma, mi, pa + 1, bs ⟨#[]⟩⟩ = true) := Lib.hid ((HQT.out _ (right_pat HR.out h9)).trans (by rw [HS0.out]; exact tilde_pat (by rw [← HS0.out]; exact HR.out)))
                    have HQ6 : Hid (hasR [[⟨6, ma, mi, pa, s⟩]] ⟨ma, mi, pa + 1, bs ⟨#[]⟩⟩ = false) := Lib.hid ((HQC.out _ (right_pat HR.out h9)).trans (by rw [HS0.out]; exact (caret_pat (by rw [← HS0.out]; exact HR.out) h9).trans (by rw [HDA.out, HDM.out]; rfl)))
                    clear h9
                    refine wp_region_inv (by kernel_rfl) (I := DcJ W14 ma mi pa s w.heap.size (.agg #[.slice (some ⟨W2.heap.size + 1, 0, none⟩) 1 1]) (.agg #[.slice (some ⟨W2.heap.size + 1 + 1 + 1 + 1, 0, none⟩) 1 1]) _ _ _ _ _ _ _ _ _ _ _ _ _ _ _ _ _ _ _ _ _ _ _ _ _ _ _ _ _ _ _ _ _ _ _ _ _ _ _ _ _ _ _ _ _ _ _ _ _ _ _ _ _ _ _ _ _ _ _ _ _ _ _ _ _ _ _ _ _ _ _ _ _ _ _ _ _ _ _ _ _ _ _ _ _ _ _ _ _ _ _ _ _ _ _ _ _ _ _ _ _ _ _ _ _ _ _) (.mk false false false false false false false false false false false false false false false false false false false false false false false false false false false _ _ _ _ _ _ _ _ _ _ _ _ _ _ _ _ _ _ _ _ _ _ _ _ _ _ _ _ ⟨(Below.refl _ W14).drew, nofun, nofun, nofun, nofun, nofun, nofun, nofun, nofun, nofun, nofun, nofun, nofun, nofun, nofun, nofun, nofun, nofun, nofun, nofun, nofun, nofun, nofun, nofun, nofun, nofun, nofun, nofun⟩) ?step ?fin
                    case step =>
                      rintro l a' w' i ⟨b0, b1, b2, b3, b4, b5, b6, b7, b8, b9, b10, b11, b12, b13, b14, b15, b16, b17, b18, b19, b20, b21, b22, b23, b24, b25, b26, v107, v108, v109, v110, v111, v112, v113, v114, v115, v116, v117, v118, v119, v120, v121, v122, v123, v124, v125, v126, v127, v128, v129, v130, v131, v132, v133, _, HT⟩ hi
                      obtain ⟨hi_, hib⟩ := ready_lt hi
                      have HTH := Lib.hid HT
                      match i, hi_, hi, hib with
                      | 0, _, hi, hib =>
                        clear HT
                        refine wpOp_one rfl rfl (fun K hK => ?_)
                        go_simp
                        exact hK.out _ _ (.mk true b1 b2 b3 b4 b5 b6 b7 b8 b9 b10 b11 b12 b13 b14 b15 b16 b17 b18 b19 b20 b21 b22 b23 b24 b25 b26 _ _ _ _ _ _ _ _ _ _ _ _ _ _ _ _ _ _ _ _ _ _ _ _ _ _ _ _ { HTH.out with h0 := fun _ => rfl })
                      | 1, _, hi, hib =>
                        have d0 : b0 = true := ready_dep hi rfl 0 (by kernel_rfl)
                        have hd0 := HT.h0 d0
                        subst hd0
                        clear HT
                        refine wpOp_one rfl rfl (fun K hK => ?_)
                        go_simp
                        exact hK.out _ _ (.mk b0 true b2 b3 b4 b5 b6 b7 b8 b9 b10 b11 b12 b13 b14 b15 b16 b17 b18 b19 b20 b21 b22 b23 b24 b25 b26 _ _ _ _ _ _ _ _ _ _ _ _ _ _ _ _ _ _ _ _ _ _ _ _ _ _ _ _ { HTH.out with h1 := fun _ => rfl })
                      | 2, _, hi, hib =>
                        have d1 : b1 = true := ready_dep hi rfl 1 (by kernel_rfl)
                        have hd1 := HT.h1 d1
                        subst hd1
                        clear HT
                        refine wpOp_one rfl rfl (fun K hK => ?_)
                        go_simp
                        exact hK.out _ _ (.mk b0 b1 true b3 b4 b5 b6 b7 b8 b9 b10 b11 b12 b13 b14 b15 b16 b17 b18 b19 b20 b21 b22 b23 b24 b25 b26 _ _ _ _ _ _ _ _ _ _ _ _ _ _ _ _ _ _ _ _ _ _ _ _ _ _ _ _ { HTH.out with h2 := fun _ => rfl })
                      | 3, _, hi, hib =>
                        have e2 : b2 = true := ready_dep hi rfl 2 (by kernel_rfl)
                        have he2 := HT.h2 e2
                        subst he2
                        clear HT
                        refine wpOp_want rfl 2 true rfl rfl (fun K hK => ?_)
                        go_simp
                        exact hK.out _ _ (.mk b0 b1 b2 true b4 b5 b6 b7 b8 b9 b10 b11 b12 b13 b14 b15 b16 b17 b18 b19 b20 b21 b22 b23 b24 b25 b26 _ _ _ _ _ _ _ _ _ _ _ _ _ _ _ _ _ _ _ _ _ _ _ _ _ _ _ _ { HTH.out with h3 := fun _ => rfl })
                      | 4, _, hi, hib =>
                        have e2 : b2 = true := ready_dep hi rfl 2 (by kernel_rfl)
                        have he2 := HT.h2 e2
                        subst he2
                        have d3 : b3 = true := ready_dep hi rfl 3 (by kernel_rfl)
                        have hd3 := HT.h3 d3
                        subst hd3
                        obtain ⟨y0, y1, y2, y3⟩ := cells4 ((HT.bel.block _ HL1.out).trans (HBX14.out.get (w.heap.size) (verC ma mi pa s) (by simp)))
                        clear HT
                        refine wpOp_want rfl 2 true rfl rfl (fun K hK => ?_)
                        go_simp
                        exact hK.out _ _ (.mk b0 b1 b2 b3 true b5 b6 b7 b8 b9 b10 b11 b12 b13 b14 b15 b16 b17 b18 b19 b20 b21 b22 b23 b24 b25 b26 _ _ _ _ _ _ _ _ _ _ _ _ _ _ _ _ _ _ _ _ _ _ _ _ _ _ _ _ { HTH.out with h4 := fun _ => rfl })
                      | 5, _, hi, hib =>
                        have e2 : b2 = true := ready_dep hi rfl 2 (by kernel_rfl)
                        have he2 := HT.h2 e2
                        subst he2
                        have d4 : b4 = true := ready_dep hi rfl 4 (by kernel_rfl)
                        have hd4 := HT.h4 d4
                        subst hd4
                        have hse := HSE.out
                        clear HT
                        refine wpOp_want rfl 2 true rfl rfl (fun K hK => ?_)
                        go_simp
                        exact hK.out _ _ (.mk b0 b1 b2 b3 b4 true b6 b7 b8 b9 b10 b11 b12 b13 b14 b15 b16 b17 b18 b19 b20 b21 b22 b23 b24 b25 b26 _ _ _ _ _ _ _ _ _ _ _ _ _ _ _ _ _ _ _ _ _ _ _ _ _ _ _ _ { HTH.out with h5 := fun _ => rfl })
                      | 6, _, hi, hib =>
                        have d2 : b2 = true := ready_dep hi rfl 2 (by kernel_rfl)
                        have hd2 := HT.h2 d2
                        subst hd2
                        have d5 : b5 = true := ready_dep hi rfl 5 (by kernel_rfl)
                        have hd5 := HT.h5 d5
                        subst hd5
                        clear HT
                        refine wpOp_one rfl rfl (fun K hK => ?_)
                        go_simp
                        exact hK.out _ _ (.mk b0 b1 b2 b3 b4 b5 true b7 b8 b9 b10 b11 b12 b13 b14 b15 b16 b17 b18 b19 b20 b21 b22 b23 b24 b25 b26 _ _ _ _ _ _ _ _ _ _ _ _ _ _ _ _ _ _ _ _ _ _ _ _ _ _ _ _ { HTH.out with h6 := fun _ => rfl })
                      | 7, _, hi, hib =>
                        have d6 : b6 = true := ready_dep hi rfl 6 (by kernel_rfl)
                        have hd6 := HT.h6 d6
                        subst hd6
                        clear HT
                        refine wpOp_one rfl rfl (fun K hK => ?_)
                        go_simp
                        exact hK.out _ _ (.mk b0 b1 b2 b3 b4 b5 b6 true b8 b9 b10 b11 b12 b13 b14 b15 b16 b17 b18 b19 b20 b21 b22 b23 b24 b25 b26 _ _ _ _ _ _ _ _ _ _ _ _ _ _ _ _ _ _ _ _ _ _ _ _ _ _ _ _ { HTH.out with h7 := fun _ => rfl })
                      | 8, _, hi, hib =>
                        have e7 : b7 = true := ready_dep hi rfl 7 (by kernel_rfl)
                        have he7 := HT.h7 e7
                        subst he7
                        have c4 := cell1 ((HT.bel.block _ HL4.out).trans (HBX14.out.get (W2.heap.size + 1 + 1 + 1 + 1 + 1) (.cells #[.slice (some ⟨W2.heap.size + 1 + 1 + 1 + 1, 0, none⟩) 1 1] 48) (by simp)))
                        clear HT
                        refine wpOp_want rfl 7 true rfl rfl (fun K hK => ?_)
                        go_simp
                        exact hK.out _ _ (.mk b0 b1 b2 b3 b4 b5 b6 b7 true b9 b10 b11 b12 b13 b14 b15 b16 b17 b18 b19 b20 b21 b22 b23 b24 b25 b26 _ _ _ _ _ _ _ _ _ _ _ _ _ _ _ _ _ _ _ _ _ _ _ _ _ _ _ _ { HTH.out with h8 := fun _ => rfl })
                      | 9, _, hi, hib =>
                        have e7 : b7 = true := ready_dep hi rfl 7 (by kernel_rfl)
                        have he7 := HT.h7 e7
                        subst he7
                        obtain ⟨u0, u1, u2, u3⟩ := cells4 ((HT.bel.block _ HLU.out).trans (HBX14.out.get (W13.heap.size) (verC ma mi (pa + 1) ⟨#[]⟩) (by simp)))
                        clear HT
                        refine wpOp_want rfl 7 true rfl rfl (fun K hK => ?_)
                        go_simp
                        exact hK.out _ _ (.mk b0 b1 b2 b3 b4 b5 b6 b7 b8 true b10 b11 b12 b13 b14 b15 b16 b17 b18 b19 b20 b21 b22 b23 b24 b25 b26 _ _ _ _ _ _ _ _ _ _ _ _ _ _ _ _ _ _ _ _ _ _ _ _ _ _ _ _ { HTH.out with h9 := fun _ => rfl })
                      | 10, _, hi, hib =>
                        have e7 : b7 = true := ready_dep hi rfl 7 (by kernel_rfl)
                        have he7 := HT.h7 e7
                        subst he7
                        have d8 : b8 = true := ready_dep hi rfl 8 (by kernel_rfl)
                        have hd8 := HT.h8 d8
                        subst hd8
                        have d9 : b9 = true := ready_dep hi rfl 9 (by kernel_rfl)
                        have hd9 := HT.h9 d9
                        subst hd9
                        have hM := HM14.out.1.below HM14.out.2 HT.bel
                        have HC := Lib.hid (hasOf_any ⟨7, ma, mi, pa, s⟩ _ ma mi (pa + 1) ⟨#[]⟩ w' (HOT14.out.below HT.bel) (by have := HS.out; show s.size < _; omega) (by decide) hM.1 hM.2)
                        rw [HQ7.out] at HC
                        clear hM
                        clear HT
                        refine wpOp_want rfl 7 true rfl rfl (fun K hK => ?_)
                        go_simp
                        refine HC.out.mono ?_
                        rintro e w2 ⟨rfl, hb⟩
                        exact hK.out _ _ (.mk b0 b1 b2 b3 b4 b5 b6 b7 b8 b9 true b11 b12 b13 b14 b15 b16 b17 b18 b19 b20 b21 b22 b23 b24 b25 b26 _ _ _ _ _ _ _ _ _ _ _ _ _ _ _ _ _ _ _ _ _ _ _ _ _ _ _ _ { HTH.out with bel := HTH.out.bel.trans (hb.mono HTH.out.bel.size), h10 := fun _ => rfl })
                      | 11, _, hi, hib =>
                        have e7 : b7 = true := ready_dep hi rfl 7 (by kernel_rfl)
                        have he7 := HT.h7 e7
                        subst he7
                        have d10 : b10 = true := ready_dep hi rfl 10 (by kernel_rfl)
                        have hd10 := HT.h10 d10
                        subst hd10
                        clear HT
                        refine wpOp_want rfl 7 true rfl rfl (fun K hK => ?_)
                        go_simp
                        exact hK.out _ _ (.mk b0 b1 b2 b3 b4 b5 b6 b7 b8 b9 b10 true b12 b13 b14 b15 b16 b17 b18 b19 b20 b21 b22 b23 b24 b25 b26 _ _ _ _ _ _ _ _ _ _ _ _ _ _ _ _ _ _ _ _ _ _ _ _ _ _ _ _ { HTH.out with h11 := fun _ => rfl })
                      | 12, _, hi, hib =>
                        have e7 : b7 = true := ready_dep hi rfl 7 (by kernel_rfl)
                        have he7 := HT.h7 e7
                        subst he7
                        have d11 : b11 = true := ready_dep hi rfl 11 (by kernel_rfl)
                        have hd11 := HT.h11 d11
                        subst hd11
                        clear HT
                        refine wpOp_want rfl 7 true rfl rfl (fun K hK => ?_)
                        go_simp
                        exact hK.out _ _ (.mk b0 b1 b2 b3 b4 b5 b6 b7 b8 b9 b10 b11 true b13 b14 b15 b16 b17 b18 b19 b20 b21 b22 b23 b24 b25 b26 _ _ _ _ _ _ _ _ _ _ _ _ _ _ _ _ _ _ _ _ _ _ _ _ _ _ _ _ { HTH.out with h12 := fun _ => rfl })
                      | 13, _, hi, hib =>
                        have e12 : b12 = true := ready_dep hi rfl 12 (by kernel_rfl)
                        have he12 := HT.h12 e12
                        subst he12
                        have c3 := cell1 ((HT.bel.block _ HL3.out).trans (HBX14.out.get (W2.heap.size + 1 + 1) (.cells #[.slice (some ⟨W2.heap.size + 1, 0, none⟩) 1 1] 48) (by simp)))
                        clear HT
                        refine wpOp_want rfl 12 false rfl rfl (fun K hK => ?_)
                        go_simp
                        exact hK.out _ _ (.mk b0 b1 b2 b3 b4 b5 b6 b7 b8 b9 b10 b11 b12 true b14 b15 b16 b17 b18 b19 b20 b21 b22 b23 b24 b25 b26 _ _ _ _ _ _ _ _ _ _ _ _ _ _ _ _ _ _ _ _ _ _ _ _ _ _ _ _ { HTH.out with h13 := fun _ => rfl })
                      | 14, _, hi, hib =>
                        have e12 : b12 = true := ready_dep hi rfl 12 (by kernel_rfl)
                        have he12 := HT.h12 e12
                        subst he12
                        obtain ⟨u0, u1, u2, u3⟩ := cells4 ((HT.bel.block _ HLU.out).trans (HBX14.out.get (W13.heap.size) (verC ma mi (pa + 1) ⟨#[]⟩) (by simp)))
                        clear HT
                        refine wpOp_want rfl 12 false rfl rfl (fun K hK => ?_)
                        go_simp
                        exact hK.out _ _ (.mk b0 b1 b2 b3 b4 b5 b6 b7 b8 b9 b10 b11 b12 b13 true b15 b16 b17 b18 b19 b20 b21 b22 b23 b24 b25 b26 _ _ _ _ _ _ _ _ _ _ _ _ _ _ _ _ _ _ _ _ _ _ _ _ _ _ _ _ { HTH.out with h14 := fun _ => rfl })
                      | 15, _, hi, hib =>
                        have e12 : b12 = true := ready_dep hi rfl 12 (by kernel_rfl)
                        have he12 := HT.h12 e12
                        subst he12
                        have d13 : b13 = true := ready_dep hi rfl 13 (by kernel_rfl)
                        have hd13 := HT.h13 d13
                        subst hd13
                        have d14 : b14 = true := ready_dep hi rfl 14 (by kernel_rfl)
                        have hd14 := HT.h14 d14
                        subst hd14
                        have hM := HM14.out.1.below HM14.out.2 HT.bel
                        have HC := Lib.hid (hasOf_any ⟨6, ma, mi, pa, s⟩ _ ma mi (pa + 1) ⟨#[]⟩ w' (HOC14.out.below HT.bel) (by have := HS.out; show s.size < _; omega) (by decide) hM.1 hM.2)
                        rw [HQ6.out] at HC
                        clear hM
                        clear HT
                        refine wpOp_want rfl 12 false rfl rfl (fun K hK => ?_)
                        go_simp
                        refine HC.out.mono ?_
                        rintro e w2 ⟨rfl, hb⟩
                        exact hK.out _ _ (.mk b0 b1 b2 b3 b4 b5 b6 b7 b8 b9 b10 b11 b12 b13 b14 true b16 b17 b18 b19 b20 b21 b22 b23 b24 b25 b26 _ _ _ _ _ _ _ _ _ _ _ _ _ _ _ _ _ _ _ _ _ _ _ _ _ _ _ _ { HTH.out with bel := HTH.out.bel.trans (hb.mono HTH.out.bel.size), h15 := fun _ => rfl })
                      | 16, _, hi, hib =>
                        have e12 : b12 = true := ready_dep hi rfl 12 (by kernel_rfl)
                        have he12 := HT.h12 e12
                        subst he12
                        clear HT
                        refine wpOp_want rfl 12 false rfl rfl (fun K hK => ?_)
                        go_simp
                        exact hK.out _ _ (.mk b0 b1 b2 b3 b4 b5 b6 b7 b8 b9 b10 b11 b12 b13 b14 b15 true b17 b18 b19 b20 b21 b22 b23 b24 b25 b26 _ _ _ _ _ _ _ _ _ _ _ _ _ _ _ _ _ _ _ _ _ _ _ _ _ _ _ _ { HTH.out with h16 := fun _ => rfl })
                      | 17, _, hi, hib =>
                        have e12 : b12 = true := ready_dep hi rfl 12 (by kernel_rfl)
                        have he12 := HT.h12 e12
                        subst he12
                        have d16 : b16 = true := ready_dep hi rfl 16 (by kernel_rfl)
                        have hd16 := HT.h16 d16
                        subst hd16
                        obtain ⟨y0, y1, y2, y3⟩ := cells4 ((HT.bel.block _ HL1.out).trans (HBX14.out.get (w.heap.size) (verC ma mi pa s) (by simp)))
                        clear HT
                        refine wpOp_want rfl 12 false rfl rfl (fun K hK => ?_)
                        go_simp
                        exact hK.out _ _ (.mk b0 b1 b2 b3 b4 b5 b6 b7 b8 b9 b10 b11 b12 b13 b14 b15 b16 true b18 b19 b20 b21 b22 b23 b24 b25 b26 _ _ _ _ _ _ _ _ _ _ _ _ _ _ _ _ _ _ _ _ _ _ _ _ _ _ _ _ { HTH.out with h17 := fun _ => rfl })
                      | 18, _, hi, hib =>
                        have e12 : b12 = true := ready_dep hi rfl 12 (by kernel_rfl)
                        have he12 := HT.h12 e12
                        subst he12
                        have d17 : b17 = true := ready_dep hi rfl 17 (by kernel_rfl)
                        have hd17 := HT.h17 d17
                        subst hd17
                        have da := HDA.out
                        clear HT
                        refine wpOp_want rfl 12 false rfl rfl (fun K hK => ?_)
                        go_simp
                        exact hK.out _ _ (.mk b0 b1 b2 b3 b4 b5 b6 b7 b8 b9 b10 b11 b12 b13 b14 b15 b16 b17 true b19 b20 b21 b22 b23 b24 b25 b26 _ _ _ _ _ _ _ _ _ _ _ _ _ _ _ _ _ _ _ _ _ _ _ _ _ _ _ _ { HTH.out with h18 := fun _ => rfl })
                      | 19, _, hi, hib =>
                        have e12 : b12 = true := ready_dep hi rfl 12 (by kernel_rfl)
                        have he12 := HT.h12 e12
                        subst he12
                        have d18 : b18 = true := ready_dep hi rfl 18 (by kernel_rfl)
                        have hd18 := HT.h18 d18
                        subst hd18
                        clear HT
                        refine wpOp_want rfl 12 false rfl rfl (fun K hK => ?_)
                        go_simp
                        exact hK.out _ _ (.mk b0 b1 b2 b3 b4 b5 b6 b7 b8 b9 b10 b11 b12 b13 b14 b15 b16 b17 b18 true b20 b21 b22 b23 b24 b25 b26 _ _ _ _ _ _ _ _ _ _ _ _ _ _ _ _ _ _ _ _ _ _ _ _ _ _ _ _ { HTH.out with h19 := fun _ => rfl })
                      | 20, _, hi, hib =>
                        have e19 : b19 = true := ready_dep hi rfl 19 (by kernel_rfl)
                        have he19 := HT.h19 e19
                        subst he19
                        clear HT
                        refine wpOp_want rfl 19 false rfl rfl (fun K hK => ?_)
                        go_simp
                        exact hK.out _ _ (.mk b0 b1 b2 b3 b4 b5 b6 b7 b8 b9 b10 b11 b12 b13 b14 b15 b16 b17 b18 b19 true b21 b22 b23 b24 b25 b26 _ _ _ _ _ _ _ _ _ _ _ _ _ _ _ _ _ _ _ _ _ _ _ _ _ _ _ _ { HTH.out with h20 := fun _ => rfl })
                      | 21, _, hi, hib =>
                        have e19 : b19 = true := ready_dep hi rfl 19 (by kernel_rfl)
                        have he19 := HT.h19 e19
                        subst he19
                        have d20 : b20 = true := ready_dep hi rfl 20 (by kernel_rfl)
                        have hd20 := HT.h20 d20
                        subst hd20
                        obtain ⟨y0, y1, y2, y3⟩ := cells4 ((HT.bel.block _ HL1.out).trans (HBX14.out.get (w.heap.size) (verC ma mi pa s) (by simp)))
                        clear HT
                        refine wpOp_want rfl 19 false rfl rfl (fun K hK => ?_)
                        go_simp
                        exact hK.out _ _ (.mk b0 b1 b2 b3 b4 b5 b6 b7 b8 b9 b10 b11 b12 b13 b14 b15 b16 b17 b18 b19 b20 true b22 b23 b24 b25 b26 _ _ _ _ _ _ _ _ _ _ _ _ _ _ _ _ _ _ _ _ _ _ _ _ _ _ _ _ { HTH.out with h21 := fun _ => rfl })
                      | 22, _, hi, hib =>
                        have e19 : b19 = true := ready_dep hi rfl 19 (by kernel_rfl)
                        have he19 := HT.h19 e19
                        subst he19
                        have d21 : b21 = true := ready_dep hi rfl 21 (by kernel_rfl)
                        have hd21 := HT.h21 d21
                        subst hd21
                        have dm := HDM.out
                        clear HT
                        refine wpOp_want rfl 19 false rfl rfl (fun K hK => ?_)
                        go_simp
                        exact hK.out _ _ (.mk b0 b1 b2 b3 b4 b5 b6 b7 b8 b9 b10 b11 b12 b13 b14 b15 b16 b17 b18 b19 b20 b21 true b23 b24 b25 b26 _ _ _ _ _ _ _ _ _ _ _ _ _ _ _ _ _ _ _ _ _ _ _ _ _ _ _ _ { HTH.out with h22 := fun _ => rfl })
                      | 23, _, hi, hib =>
                        have e12 : b12 = true := ready_dep hi rfl 12 (by kernel_rfl)
                        have he12 := HT.h12 e12
                        subst he12
                        have d19 : b19 = true := ready_dep hi rfl 19 (by kernel_rfl)
                        have hd19 := HT.h19 d19
                        subst hd19
                        have d22 : b22 = true := ready_dep hi rfl 22 (by kernel_rfl)
                        have hd22 := HT.h22 d22
                        subst hd22
                        clear HT
                        refine wpOp_want rfl 12 false rfl rfl (fun K hK => ?_)
                        go_simp
                        exact hK.out _ _ (.mk b0 b1 b2 b3 b4 b5 b6 b7 b8 b9 b10 b11 b12 b13 b14 b15 b16 b17 b18 b19 b20 b21 b22 true b24 b25 b26 _ _ _ _ _ _ _ _ _ _ _ _ _ _ _ _ _ _ _ _ _ _ _ _ _ _ _ _ { HTH.out with h23 := fun _ => rfl })
                      | 24, _, hi, hib =>
                        have e12 : b12 = true := ready_dep hi rfl 12 (by kernel_rfl)
                        have he12 := HT.h12 e12
                        subst he12
                        have d15 : b15 = true := ready_dep hi rfl 15 (by kernel_rfl)
                        have hd15 := HT.h15 d15
                        subst hd15
                        have d23 : b23 = true := ready_dep hi rfl 23 (by kernel_rfl)
                        have hd23 := HT.h23 d23
                        subst hd23
                        clear HT
                        refine wpOp_want rfl 12 false rfl rfl (fun K hK => ?_)
                        go_simp
                        exact hK.out _ _ (.mk b0 b1 b2 b3 b4 b5 b6 b7 b8 b9 b10 b11 b12 b13 b14 b15 b16 b17 b18 b19 b20 b21 b22 b23 true b25 b26 _ _ _ _ _ _ _ _ _ _ _ _ _ _ _ _ _ _ _ _ _ _ _ _ _ _ _ _ { HTH.out with h24 := fun _ => rfl })
                      | 25, _, hi, hib =>
                        have e7 : b7 = true := ready_dep hi rfl 7 (by kernel_rfl)
                        have he7 := HT.h7 e7
                        subst he7
                        have d12 : b12 = true := ready_dep hi rfl 12 (by kernel_rfl)
                        have hd12 := HT.h12 d12
                        subst hd12
                        have d24 : b24 = true := ready_dep hi rfl 24 (by kernel_rfl)
                        have hd24 := HT.h24 d24
                        subst hd24
                        clear HT
                        refine wpOp_want rfl 7 true rfl rfl (fun K hK => ?_)
                        go_simp
                        exact hK.out _ _ (.mk b0 b1 b2 b3 b4 b5 b6 b7 b8 b9 b10 b11 b12 b13 b14 b15 b16 b17 b18 b19 b20 b21 b22 b23 b24 true b26 _ _ _ _ _ _ _ _ _ _ _ _ _ _ _ _ _ _ _ _ _ _ _ _ _ _ _ _ { HTH.out with h25 := fun _ => rfl })
                      | 26, _, hi, hib =>
                        have d7 : b7 = true := ready_dep hi rfl 7 (by kernel_rfl)
                        have hd7 := HT.h7 d7
                        subst hd7
                        have d25 : b25 = true := ready_dep hi rfl 25 (by kernel_rfl)
                        have hd25 := HT.h25 d25
                        subst hd25
                        clear HT
                        refine wpOp_one rfl rfl (fun K hK => ?_)
                        go_simp
                        exact hK.out _ _ (.mk b0 b1 b2 b3 b4 b5 b6 b7 b8 b9 b10 b11 b12 b13 b14 b15 b16 b17 b18 b19 b20 b21 b22 b23 b24 b25 true _ _ _ _ _ _ _ _ _ _ _ _ _ _ _ _ _ _ _ _ _ _ _ _ _ _ _ _ { HTH.out with h26 := fun _ => rfl })
                    case fin =>
                      rintro l a' w' ⟨b0, b1, b2, b3, b4, b5, b6, b7, b8, b9, b10, b11, b12, b13, b14, b15, b16, b17, b18, b19, b20, b21, b22, b23, b24, b25, b26, v107, v108, v109, v110, v111, v112, v113, v114, v115, v116, v117, v118, v119, v120, v121, v122, v123, v124, v125, v126, v127, v128, v129, v130, v131, v132, v133, _, HT⟩ hr
                      obtain rfl : b0 = true := by
                        cases b0 with
                        | true => rfl
                        | false => exact (ready_in 0 rfl rfl (by simp [Region.binds]) hr).elim
                      obtain rfl : b1 = true := by
                        cases b1 with
                        | true => rfl
                        | false => exact (ready_in 1 rfl rfl (by simp [Region.binds]) hr).elim
                      obtain rfl : b2 = true := by
                        cases b2 with
                        | true => rfl
                        | false => exact (ready_in 2 rfl rfl (by simp [Region.binds]) hr).elim
                      obtain rfl : b3 = true := by
                        cases b3 with
                        | true => rfl
                        | false => exact (ready_in 3 rfl rfl (by simp [Region.binds]) hr).elim
                      obtain rfl : b4 = true := by
                        cases b4 with
                        | true => rfl
                        | false => exact (ready_in 4 rfl rfl (by simp [Region.binds]) hr).elim
                      obtain rfl : b5 = true := by
                        cases b5 with
                        | true => rfl
                        | false => exact (ready_in 5 rfl rfl (by simp [Region.binds]) hr).elim
                      obtain rfl : b6 = true := by
                        cases b6 with
                        | true => rfl
                        | false => exact (ready_in 6 rfl rfl (by simp [Region.binds]) hr).elim
                      obtain rfl : b7 = true := by
                        cases b7 with
                        | true => rfl
                        | false => exact (ready_in 7 rfl rfl (by simp [Region.binds]) hr).elim
                      obtain rfl : b8 = true := by
                        cases b8 with
                        | true => rfl
                        | false => exact (ready_in 8 rfl rfl (by simp [Region.binds]) hr).elim
                      obtain rfl : b9 = true := by
                        cases b9 with
                        | true => rfl
                        | false => exact (ready_in 9 rfl rfl (by simp [Region.binds]) hr).elim
                      obtain rfl : b10 = true := by
                        cases b10 with
                        | true => rfl
                        | false => exact (ready_in 10 rfl rfl (by simp [Region.binds]) hr).elim
                      obtain rfl : b11 = true := by
                        cases b11 with
                        | true => rfl
                        | false => exact (ready_in 11 rfl rfl (by simp [Region.binds]) hr).elim
                      obtain rfl : b12 = true := by
                        cases b12 with
                        | true => rfl
                        | false => exact (ready_in 12 rfl rfl (by simp [Region.binds]) hr).elim
                      obtain rfl : b13 = true := by
                        cases b13 with
                        | true => rfl
                        | false => exact (ready_in 13 rfl rfl (by simp [Region.binds]) hr).elim
                      obtain rfl : b14 = true := by
                        cases b14 with
                        | true => rfl
                        | false => exact (ready_in 14 rfl rfl (by simp [Region.binds]) hr).elim
                      obtain rfl : b15 = true := by
                        cases b15 with
                        | true => rfl
                        | false => exact (ready_in 15 rfl rfl (by simp [Region.binds]) hr).elim
                      obtain rfl : b16 = true := by
                        cases b16 with
                        | true => rfl
                        | false => exact (ready_in 16 rfl rfl (by simp [Region.binds]) hr).elim
                      obtain rfl : b17 = true := by
                        cases b17 with
                        | true => rfl
                        | false => exact (ready_in 17 rfl rfl (by simp [Region.binds]) hr).elim
                      obtain rfl : b18 = true := by
                        cases b18 with
                        | true => rfl
                        | false => exact (ready_in 18 rfl rfl (by simp [Region.binds]) hr).elim
                      obtain rfl : b19 = true := by
                        cases b19 with
                        | true => rfl
                        | false => exact (ready_in 19 rfl rfl (by simp [Region.binds]) hr).elim
                      obtain rfl : b20 = true := by
                        cases b20 with
                        | true => rfl
                        | false => exact (ready_in 20 rfl rfl (by simp [Region.binds]) hr).elim
                      obtain rfl : b21 = true := by
                        cases b21 with
                        | true => rfl
                        | false => exact (ready_in 21 rfl rfl (by simp [Region.binds]) hr).elim
                      obtain rfl : b22 = true := by
                        cases b22 with
                        | true => rfl
                        | false => exact (ready_in 22 rfl rfl (by simp [Region.binds]) hr).elim
                      obtain rfl : b23 = true := by
                        cases b23 with
                        | true => rfl
                        | false => exact (ready_in 23 rfl rfl (by simp [Region.binds]) hr).elim
                      obtain rfl : b24 = true := by
                        cases b24 with
                        | true => rfl
                        | false => exact (ready_in 24 rfl rfl (by simp [Region.binds]) hr).elim
                      obtain rfl : b25 = true := by
                        cases b25 with
                        | true => rfl
                        | false => exact (ready_in 25 rfl rfl (by simp [Region.binds]) hr).elim
                      obtain rfl : b26 = true := by
                        cases b26 with
                        | true => rfl
                        | false => exact (ready_in 26 rfl rfl (by simp [Region.binds]) hr).elim
                      have k0 := HT.h0 rfl
                      subst k0
                      have k1 := HT.h1 rfl
                      subst k1
                      have k2 := HT.h2 rfl
                      subst k2
                      have k3 := HT.h3 rfl
                      subst k3
                      have k4 := HT.h4 rfl
                      subst k4
                      have k5 := HT.h5 rfl
                      subst k5
                      have k6 := HT.h6 rfl
                      subst k6
                      have k7 := HT.h7 rfl
                      subst k7
                      have k8 := HT.h8 rfl
                      subst k8
                      have k9 := HT.h9 rfl
                      subst k9
                      have k10 := HT.h10 rfl
                      subst k10
                      have k11 := HT.h11 rfl
                      subst k11
                      have k12 := HT.h12 rfl
                      subst k12
                      have k13 := HT.h13 rfl
                      subst k13
                      have k14 := HT.h14 rfl
                      subst k14
                      have k15 := HT.h15 rfl
                      subst k15
                      have k16 := HT.h16 rfl
                      subst k16
                      have k17 := HT.h17 rfl
                      subst k17
                      have k18 := HT.h18 rfl
                      subst k18
                      have k19 := HT.h19 rfl
                      subst k19
                      have k20 := HT.h20 rfl
                      subst k20
                      have k21 := HT.h21 rfl
                      subst k21
                      have k22 := HT.h22 rfl
                      subst k22
                      have k23 := HT.h23 rfl
                      subst k23
                      have k24 := HT.h24 rfl
                      subst k24
                      have k25 := HT.h25 rfl
                      subst k25
                      have k26 := HT.h26 rfl
                      subst k26
                      have HF := HT.bel
                      clear HT hr
                      show _
                      go_wp2_with fail
                      go_meet
                      exact ⟨rfl, HF⟩
              · obtain ⟨y0, y1, y2, y3⟩ := cells4 (HBX14.out.get (w.heap.size) (verC ma mi pa s) (by simp))
                have mixed : Tryd.prog.follows Departure.mixedOrders = true := by kernel_rfl
                go_region_o
                go_wp2
                go_meet
                first | exact ⟨rfl, Below.refl _ _⟩ | exact ⟨rfl, (Below.refl _ W14).drew⟩
          case rest =>
            obtain ⟨rfl, hb⟩ := hcut
            rename World => W16
            have HB16 : Hid (Below w.heap.size w W16) := Lib.hid (HB14.out.trans (hb.mono HB14.out.size))
            clear hb
            go_wp2
            refine bodyPost_ret (results_tmp rfl _ _ _) rfl ⟨rfl, HB16.out⟩
end Go.Proofs.YtbmhjmdbolnbaaaDoor
