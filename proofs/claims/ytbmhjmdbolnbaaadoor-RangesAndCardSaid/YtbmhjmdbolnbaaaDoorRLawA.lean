/-
  THE LAW RangesAnd (printed by genlawra.py).
-/
import Derived.Test.YtbmhjmdbolnbaaaDoorRAndP
import Derived.Test.YtbmhjmdbolnbaaaDoorRLawH
namespace Go.Proofs.YtbmhjmdbolnbaaaDoor
open Go.RowKit
open SemP
set_option linter.unusedVariables false
set_option linter.unusedSimpArgs false
set_option maxRecDepth 100000
theorem plain_form {r : List (List CV)} {e : Ending} {w' : World} (h : PlainR r e w') : ∃ A2 n2 c2, e = .returned (.tuple #[.agg #[.slice A2 n2 c2], .bool (plainR r)]) ∧ (plainR r = true → r.length = n2 ∧ RdR w' w'.heap.size A2 n2 r) := by
  unfold PlainR at h
  cases hp : plainR r with
  | false =>
    rw [hp, if_neg (by decide)] at h
    obtain ⟨A2, n2, c2, rfl⟩ := h
    exact ⟨A2, n2, c2, rfl, fun h => by cases h⟩
  | true =>
    rw [hp, if_pos rfl] at h
    obtain ⟨A2, c2, rfl, hr⟩ := h
    exact ⟨A2, r.length, c2, rfl, fun _ => ⟨rfl, hr⟩⟩
/-- What And answers, as one form. -/
def AnF (p q : List (List CV)) (ex : Int) (nx : Nat) (Ax : Option Addr) (w' : World) : Prop :=
  ((rightR p && rightR q) = false → ex = 12 ∧ nx = 0) ∧
  ((rightR p && rightR q) = true → (decide (p.length * q.length ≤ 8) && andFit p q) = false → ex = 11 ∧ nx = 0) ∧
  ((rightR p && rightR q) = true → (decide (p.length * q.length ≤ 8) && andFit p q) = true → ex = 0 ∧ nx = p.length * q.length ∧ RdR w' w'.heap.size Ax nx (andR p q))
theorem and_form {p q : List (List CV)} {e : Ending} {w' : World} (h : AndA p q e w') : ∃ Ax nx cx ex, e = .returned (.tuple #[.agg #[.slice Ax nx cx], .int .i64 ex]) ∧ AnF p q ex nx Ax w' := by
  unfold AndA at h
  cases hr : (rightR p && rightR q) with
  | false =>
    rw [hr, if_pos rfl] at h
    subst h
    exact ⟨_, _, _, _, rfl, fun _ => ⟨rfl, rfl⟩, fun h => (by rw [hr] at h; cases h), fun h => (by rw [hr] at h; cases h)⟩
  | true =>
    rw [hr, if_neg (by decide)] at h
    cases hf : (decide (p.length * q.length ≤ 8) && andFit p q) with
    | false =>
      rw [hf, if_pos rfl] at h
      subst h
      exact ⟨_, _, _, _, rfl, fun h => (by rw [hr] at h; cases h), fun _ _ => ⟨rfl, rfl⟩, fun _ h => (by rw [hf] at h; cases h)⟩
    | true =>
      rw [hf, if_neg (by decide)] at h
      obtain ⟨A, c, rfl, hd⟩ := h
      exact ⟨_, _, _, _, rfl, fun h => (by rw [hr] at h; cases h), fun _ h => (by rw [hf] at h; cases h), fun _ _ => ⟨rfl, rfl, hd⟩⟩
/-- What Or answers, as one form. -/
def OrF (p q : List (List CV)) (ex : Int) (nx : Nat) (Ax : Option Addr) (w' : World) : Prop :=
  ((rightR p && rightR q) = false → ex = 12 ∧ nx = 0) ∧
  ((rightR p && rightR q) = true → decide (p.length + q.length ≤ 8) = false → ex = 11 ∧ nx = 0) ∧
  ((rightR p && rightR q) = true → decide (p.length + q.length ≤ 8) = true → ex = 0 ∧ nx = p.length + q.length ∧ RdR w' w'.heap.size Ax nx (p ++ q))
theorem or_form {p q : List (List CV)} {e : Ending} {w' : World} (h : OrA p q e w') : ∃ Ax nx cx ex, e = .returned (.tuple #[.agg #[.slice Ax nx cx], .int .i64 ex]) ∧ OrF p q ex nx Ax w' := by
  unfold OrA at h
  cases hr : (rightR p && rightR q) with
  | false =>
    rw [hr, if_pos rfl] at h
    subst h
    exact ⟨_, _, _, _, rfl, fun _ => ⟨rfl, rfl⟩, fun h => (by rw [hr] at h; cases h), fun h => (by rw [hr] at h; cases h)⟩
  | true =>
    rw [hr, if_neg (by decide)] at h
    cases hf : decide (p.length + q.length ≤ 8) with
    | false =>
      rw [hf, if_pos rfl] at h
      subst h
      exact ⟨_, _, _, _, rfl, fun h => (by rw [hr] at h; cases h), fun _ _ => ⟨rfl, rfl⟩, fun _ h => (by rw [hf] at h; cases h)⟩
    | true =>
      rw [hf, if_neg (by decide)] at h
      obtain ⟨A, c, rfl, hd⟩ := h
      exact ⟨_, _, _, _, rfl, fun h => (by rw [hr] at h; cases h), fun _ h => (by rw [hf] at h; cases h), fun _ _ => ⟨rfl, rfl, hd⟩⟩
structure LaSt (w0 : World) (bp bq m n c2 c3 : Nat) (A2 A3 : Option Addr) (b0 b1 b2 b3 b4 b5 b6 b7 b8 b9 b10 b11 b12 b13 b14 b15 : Bool) (v20 v21 v105 v106 v107 v108 v109 v110 v111 v112 v113 v114 v115 v116 v117 v118 : Value) (w' : World) : Prop where
  bel : Below w0.heap.size w0 w'
  h0 : b0 = true → v105 = .pointer (some ⟨bp, 0, none⟩)
  h1 : b1 = true → v106 = .slice A2 m c2
  h2 : b2 = true → v107 = .int .i64 (m : Int)
  h3 : b3 = true → v108 = .pointer (some ⟨bq, 0, none⟩)
  h4 : b4 = true → v109 = .slice A3 n c3
  h5 : b5 = true → v110 = .int .i64 (n : Int)
  h6 : b6 = true → v111 = .int .i64 ((m : Int) * (n : Int))
  h7 : b7 = true → v112 = .pointer (some ⟨bp, 0, none⟩)
  h8 : b8 = true → v113 = .slice A2 m c2
  h9 : b9 = true → v114 = .int .i64 (m : Int)
  h10 : b10 = true → v115 = .pointer (some ⟨bq, 0, none⟩)
  h11 : b11 = true → v116 = .slice A3 n c3
  h12 : b12 = true → v117 = .int .i64 (n : Int)
  h13 : b13 = true → v118 = .int .i64 ((m : Int) + (n : Int))
  h14 : b14 = true → v20 = .int .i64 ((m : Int) * (n : Int))
  h15 : b15 = true → v21 = .int .i64 ((m : Int) + (n : Int))
inductive LaJ (w0 : World) (bp bq m n c2 c3 : Nat) (A2 A3 : Option Addr) (p0 p1 p2 p3 p4 p5 p6 p7 p8 p9 p10 p11 p12 p13 p14 p15 p16 p17 p18 p19 p22 p23 p24 p25 p26 p27 p28 p29 p30 p31 p32 p33 p34 p35 p36 p37 p38 p39 p40 p41 p42 p43 p44 p45 p46 p47 p48 p49 p50 p51 p52 p53 p54 p55 p56 p57 p58 p59 p60 p61 p62 p63 p64 p65 p66 p67 p68 p69 p70 p71 p72 p73 p74 p75 p76 p77 p78 p79 p80 p81 p82 p83 p84 p85 p86 p87 p88 p89 p90 p91 p92 p93 p94 p95 p96 p97 p98 p99 p100 p101 p102 p103 p104 p119 p120 p121 p122 p123 p124 p125 p126 p127 p128 p129 p130 p131 p132 p133 p134 p135 p136 p137 p138 p139 p140 p141 p142 p143 p144 p145 p146 p147 p148 p149 p150 p151 p152 p153 p154 p155 p156 p157 p158 p159 p160 p161 p162 p163 p164 p165 p166 p167 p168 p169 p170 p171 p172 p173 p174 p175 p176 p177 p178 p179 p180 p181 p182 p183 p184 p185 p186 p187 p188 p189 p190 p191 p192 p193 p194 p195 p196 p197 p198 p199 p200 p201 p202 p203 p204 p205 p206 p207 p208 : Value) : Array Bool → Act → World → Prop where
  | mk (b0 b1 b2 b3 b4 b5 b6 b7 b8 b9 b10 b11 b12 b13 b14 b15 : Bool) (v20 v21 v105 v106 v107 v108 v109 v110 v111 v112 v113 v114 v115 v116 v117 v118 : Value) (w' : World) : LaSt w0 bp bq m n c2 c3 A2 A3 b0 b1 b2 b3 b4 b5 b6 b7 b8 b9 b10 b11 b12 b13 b14 b15 v20 v21 v105 v106 v107 v108 v109 v110 v111 v112 v113 v114 v115 v116 v117 v118 w' → LaJ w0 bp bq m n c2 c3 A2 A3 p0 p1 p2 p3 p4 p5 p6 p7 p8 p9 p10 p11 p12 p13 p14 p15 p16 p17 p18 p19 p22 p23 p24 p25 p26 p27 p28 p29 p30 p31 p32 p33 p34 p35 p36 p37 p38 p39 p40 p41 p42 p43 p44 p45 p46 p47 p48 p49 p50 p51 p52 p53 p54 p55 p56 p57 p58 p59 p60 p61 p62 p63 p64 p65 p66 p67 p68 p69 p70 p71 p72 p73 p74 p75 p76 p77 p78 p79 p80 p81 p82 p83 p84 p85 p86 p87 p88 p89 p90 p91 p92 p93 p94 p95 p96 p97 p98 p99 p100 p101 p102 p103 p104 p119 p120 p121 p122 p123 p124 p125 p126 p127 p128 p129 p130 p131 p132 p133 p134 p135 p136 p137 p138 p139 p140 p141 p142 p143 p144 p145 p146 p147 p148 p149 p150 p151 p152 p153 p154 p155 p156 p157 p158 p159 p160 p161 p162 p163 p164 p165 p166 p167 p168 p169 p170 p171 p172 p173 p174 p175 p176 p177 p178 p179 p180 p181 p182 p183 p184 p185 p186 p187 p188 p189 p190 p191 p192 p193 p194 p195 p196 p197 p198 p199 p200 p201 p202 p203 p204 p205 p206 p207 p208 #[b0, b1, b2, b3, b4, b5, b6, b7, b8, b9, b10, b11, b12, b13, b14, b15] { tmps := List.toArray (p0 :: p1 :: p2 :: p3 :: p4 :: p5 :: p6 :: p7 :: p8 :: p9 :: p10 :: p11 :: p12 :: p13 :: p14 :: p15 :: p16 :: p17 :: p18 :: p19 :: v20 :: v21 :: p22 :: p23 :: p24 :: p25 :: p26 :: p27 :: p28 :: p29 :: p30 :: p31 :: p32 :: p33 :: p34 :: p35 :: p36 :: p37 :: p38 :: p39 :: p40 :: p41 :: p42 :: p43 :: p44 :: p45 :: p46 :: p47 :: p48 :: p49 :: p50 :: p51 :: p52 :: p53 :: p54 :: p55 :: p56 :: p57 :: p58 :: p59 :: p60 :: p61 :: p62 :: p63 :: p64 :: p65 :: p66 :: p67 :: p68 :: p69 :: p70 :: p71 :: p72 :: p73 :: p74 :: p75 :: p76 :: p77 :: p78 :: p79 :: p80 :: p81 :: p82 :: p83 :: p84 :: p85 :: p86 :: p87 :: p88 :: p89 :: p90 :: p91 :: p92 :: p93 :: p94 :: p95 :: p96 :: p97 :: p98 :: p99 :: p100 :: p101 :: p102 :: p103 :: p104 :: v105 :: v106 :: v107 :: v108 :: v109 :: v110 :: v111 :: v112 :: v113 :: v114 :: v115 :: v116 :: v117 :: v118 :: p119 :: p120 :: p121 :: p122 :: p123 :: p124 :: p125 :: p126 :: p127 :: p128 :: p129 :: p130 :: p131 :: p132 :: p133 :: p134 :: p135 :: p136 :: p137 :: p138 :: p139 :: p140 :: p141 :: p142 :: p143 :: p144 :: p145 :: p146 :: p147 :: p148 :: p149 :: p150 :: p151 :: p152 :: p153 :: p154 :: p155 :: p156 :: p157 :: p158 :: p159 :: p160 :: p161 :: p162 :: p163 :: p164 :: p165 :: p166 :: p167 :: p168 :: p169 :: p170 :: p171 :: p172 :: p173 :: p174 :: p175 :: p176 :: p177 :: p178 :: p179 :: p180 :: p181 :: p182 :: p183 :: p184 :: p185 :: p186 :: p187 :: p188 :: p189 :: p190 :: p191 :: p192 :: p193 :: p194 :: p195 :: p196 :: p197 :: p198 :: p199 :: p200 :: p201 :: p202 :: p203 :: p204 :: p205 :: p206 :: p207 :: p208 :: []), defers := [] } w'
structure LbtSt (w0 : World) (bx LN : Nat) (vx0 vx vv va vb : Value) (qx : Bool) (b0 b1 b2 b3 b4 b5 b6 b7 b8 b9 b10 b11 b12 b13 b14 b15 b16 b17 b18 b19 b20 b21 b22 : Bool) (v163 v164 v165 v166 v167 v168 v169 v170 v171 v172 v173 v174 v175 v176 v177 v178 v179 v180 v181 v182 v183 v184 v185 : Value) (w' : World) : Prop where
  bel : Below w0.heap.size w0 w'
  h0 : b0 = true → v163 = .int .i64 0
  h1 : b1 = true → v164 = .bool true
  h2 : b2 = true → v165 = .bool true
  h3 : b3 = true → v166 = .pointer (some ⟨bx, 0, none⟩)
  h4 : b4 = true → v167 = vx0
  h5 : b5 = true → v168 = .int .i64 (LN : Int)
  h6 : b6 = true → v169 = .int .i64 (LN : Int)
  h7 : b7 = true → v170 = .bool false
  h8 : b8 = true → v171 = .bool false
  h9 : b9 = true → v172 = vx
  h10 : b10 = true → v173 = vv
  h11 : b11 = true → v174 = .bool qx
  h12 : b12 = true → v175 = va
  h13 : b13 = true → v176 = vv
  h14 : b14 = true → v177 = .bool true
  h15 : b15 = true → v178 = .bool true
  h16 : b16 = true → v179 = vb
  h17 : b17 = true → v180 = vv
  h18 : b18 = true → v181 = .bool qx
  h19 : b19 = true → v182 = .bool qx
  h20 : b20 = true → v183 = .bool false
  h21 : b21 = true → v184 = .bool false
  h22 : b22 = true → v185 = .bool false
inductive LbtJ (w0 : World) (bx LN : Nat) (vx0 vx vv va vb : Value) (qx : Bool) (p0 p1 p2 p3 p4 p5 p6 p7 p8 p9 p10 p11 p12 p13 p14 p15 p16 p17 p18 p19 p20 p21 p22 p23 p24 p25 p26 p27 p28 p29 p30 p31 p32 p33 p34 p35 p36 p37 p38 p39 p40 p41 p42 p43 p44 p45 p46 p47 p48 p49 p50 p51 p52 p53 p54 p55 p56 p57 p58 p59 p60 p61 p62 p63 p64 p65 p66 p67 p68 p69 p70 p71 p72 p73 p74 p75 p76 p77 p78 p79 p80 p81 p82 p83 p84 p85 p86 p87 p88 p89 p90 p91 p92 p93 p94 p95 p96 p97 p98 p99 p100 p101 p102 p103 p104 p105 p106 p107 p108 p109 p110 p111 p112 p113 p114 p115 p116 p117 p118 p119 p120 p121 p122 p123 p124 p125 p126 p127 p128 p129 p130 p131 p132 p133 p134 p135 p136 p137 p138 p139 p140 p141 p142 p143 p144 p145 p146 p147 p148 p149 p150 p151 p152 p153 p154 p155 p156 p157 p158 p159 p160 p161 p162 p186 p187 p188 p189 p190 p191 p192 p193 p194 p195 p196 p197 p198 p199 p200 p201 p202 p203 p204 p205 p206 p207 p208 : Value) : Array Bool → Act → World → Prop where
  | mk (b0 b1 b2 b3 b4 b5 b6 b7 b8 b9 b10 b11 b12 b13 b14 b15 b16 b17 b18 b19 b20 b21 b22 : Bool) (v163 v164 v165 v166 v167 v168 v169 v170 v171 v172 v173 v174 v175 v176 v177 v178 v179 v180 v181 v182 v183 v184 v185 : Value) (w' : World) : LbtSt w0 bx LN vx0 vx vv va vb qx b0 b1 b2 b3 b4 b5 b6 b7 b8 b9 b10 b11 b12 b13 b14 b15 b16 b17 b18 b19 b20 b21 b22 v163 v164 v165 v166 v167 v168 v169 v170 v171 v172 v173 v174 v175 v176 v177 v178 v179 v180 v181 v182 v183 v184 v185 w' → LbtJ w0 bx LN vx0 vx vv va vb qx p0 p1 p2 p3 p4 p5 p6 p7 p8 p9 p10 p11 p12 p13 p14 p15 p16 p17 p18 p19 p20 p21 p22 p23 p24 p25 p26 p27 p28 p29 p30 p31 p32 p33 p34 p35 p36 p37 p38 p39 p40 p41 p42 p43 p44 p45 p46 p47 p48 p49 p50 p51 p52 p53 p54 p55 p56 p57 p58 p59 p60 p61 p62 p63 p64 p65 p66 p67 p68 p69 p70 p71 p72 p73 p74 p75 p76 p77 p78 p79 p80 p81 p82 p83 p84 p85 p86 p87 p88 p89 p90 p91 p92 p93 p94 p95 p96 p97 p98 p99 p100 p101 p102 p103 p104 p105 p106 p107 p108 p109 p110 p111 p112 p113 p114 p115 p116 p117 p118 p119 p120 p121 p122 p123 p124 p125 p126 p127 p128 p129 p130 p131 p132 p133 p134 p135 p136 p137 p138 p139 p140 p141 p142 p143 p144 p145 p146 p147 p148 p149 p150 p151 p152 p153 p154 p155 p156 p157 p158 p159 p160 p161 p162 p186 p187 p188 p189 p190 p191 p192 p193 p194 p195 p196 p197 p198 p199 p200 p201 p202 p203 p204 p205 p206 p207 p208 #[b0, b1, b2, b3, b4, b5, b6, b7, b8, b9, b10, b11, b12, b13, b14, b15, b16, b17, b18, b19, b20, b21, b22] { tmps := List.toArray (p0 :: p1 :: p2 :: p3 :: p4 :: p5 :: p6 :: p7 :: p8 :: p9 :: p10 :: p11 :: p12 :: p13 :: p14 :: p15 :: p16 :: p17 :: p18 :: p19 :: p20 :: p21 :: p22 :: p23 :: p24 :: p25 :: p26 :: p27 :: p28 :: p29 :: p30 :: p31 :: p32 :: p33 :: p34 :: p35 :: p36 :: p37 :: p38 :: p39 :: p40 :: p41 :: p42 :: p43 :: p44 :: p45 :: p46 :: p47 :: p48 :: p49 :: p50 :: p51 :: p52 :: p53 :: p54 :: p55 :: p56 :: p57 :: p58 :: p59 :: p60 :: p61 :: p62 :: p63 :: p64 :: p65 :: p66 :: p67 :: p68 :: p69 :: p70 :: p71 :: p72 :: p73 :: p74 :: p75 :: p76 :: p77 :: p78 :: p79 :: p80 :: p81 :: p82 :: p83 :: p84 :: p85 :: p86 :: p87 :: p88 :: p89 :: p90 :: p91 :: p92 :: p93 :: p94 :: p95 :: p96 :: p97 :: p98 :: p99 :: p100 :: p101 :: p102 :: p103 :: p104 :: p105 :: p106 :: p107 :: p108 :: p109 :: p110 :: p111 :: p112 :: p113 :: p114 :: p115 :: p116 :: p117 :: p118 :: p119 :: p120 :: p121 :: p122 :: p123 :: p124 :: p125 :: p126 :: p127 :: p128 :: p129 :: p130 :: p131 :: p132 :: p133 :: p134 :: p135 :: p136 :: p137 :: p138 :: p139 :: p140 :: p141 :: p142 :: p143 :: p144 :: p145 :: p146 :: p147 :: p148 :: p149 :: p150 :: p151 :: p152 :: p153 :: p154 :: p155 :: p156 :: p157 :: p158 :: p159 :: p160 :: p161 :: p162 :: v163 :: v164 :: v165 :: v166 :: v167 :: v168 :: v169 :: v170 :: v171 :: v172 :: v173 :: v174 :: v175 :: v176 :: v177 :: v178 :: v179 :: v180 :: v181 :: v182 :: v183 :: v184 :: v185 :: p186 :: p187 :: p188 :: p189 :: p190 :: p191 :: p192 :: p193 :: p194 :: p195 :: p196 :: p197 :: p198 :: p199 :: p200 :: p201 :: p202 :: p203 :: p204 :: p205 :: p206 :: p207 :: p208 :: []), defers := [] } w'
structure LbfSt (w0 : World) (bx LN : Nat) (vx0 vx vv va vb : Value) (qx : Bool) (b0 b1 b2 b3 b4 b5 b6 b7 b8 b9 b10 b11 b12 b13 b14 b15 b16 b17 b18 b19 b20 b21 b22 : Bool) (v163 v164 v165 v166 v167 v168 v169 v170 v171 v172 v173 v174 v175 v176 v177 v178 v179 v180 v181 v182 v183 v184 v185 : Value) (w' : World) : Prop where
  bel : Below w0.heap.size w0 w'
  h0 : b0 = true → v163 = .int .i64 0
  h1 : b1 = true → v164 = .bool true
  h2 : b2 = true → v165 = .bool true
  h3 : b3 = true → v166 = .pointer (some ⟨bx, 0, none⟩)
  h4 : b4 = true → v167 = vx0
  h5 : b5 = true → v168 = .int .i64 (LN : Int)
  h6 : b6 = true → v169 = .int .i64 (LN : Int)
  h7 : b7 = true → v170 = .bool false
  h8 : b8 = true → v171 = .bool false
  h9 : b9 = true → v172 = vx
  h10 : b10 = true → v173 = vv
  h11 : b11 = true → v174 = .bool false
  h12 : b12 = true → v175 = va
  h13 : b13 = true → v176 = vv
  h14 : b14 = true → v177 = .bool false
  h15 : b15 = true → v178 = .bool false
  h16 : b16 = true → v179 = undef
  h17 : b17 = true → v180 = undef
  h18 : b18 = true → v181 = undef
  h19 : b19 = true → v182 = .bool false
  h20 : b20 = true → v183 = .bool false
  h21 : b21 = true → v184 = .bool false
  h22 : b22 = true → v185 = .bool false
inductive LbfJ (w0 : World) (bx LN : Nat) (vx0 vx vv va vb : Value) (qx : Bool) (p0 p1 p2 p3 p4 p5 p6 p7 p8 p9 p10 p11 p12 p13 p14 p15 p16 p17 p18 p19 p20 p21 p22 p23 p24 p25 p26 p27 p28 p29 p30 p31 p32 p33 p34 p35 p36 p37 p38 p39 p40 p41 p42 p43 p44 p45 p46 p47 p48 p49 p50 p51 p52 p53 p54 p55 p56 p57 p58 p59 p60 p61 p62 p63 p64 p65 p66 p67 p68 p69 p70 p71 p72 p73 p74 p75 p76 p77 p78 p79 p80 p81 p82 p83 p84 p85 p86 p87 p88 p89 p90 p91 p92 p93 p94 p95 p96 p97 p98 p99 p100 p101 p102 p103 p104 p105 p106 p107 p108 p109 p110 p111 p112 p113 p114 p115 p116 p117 p118 p119 p120 p121 p122 p123 p124 p125 p126 p127 p128 p129 p130 p131 p132 p133 p134 p135 p136 p137 p138 p139 p140 p141 p142 p143 p144 p145 p146 p147 p148 p149 p150 p151 p152 p153 p154 p155 p156 p157 p158 p159 p160 p161 p162 p186 p187 p188 p189 p190 p191 p192 p193 p194 p195 p196 p197 p198 p199 p200 p201 p202 p203 p204 p205 p206 p207 p208 : Value) : Array Bool → Act → World → Prop where
  | mk (b0 b1 b2 b3 b4 b5 b6 b7 b8 b9 b10 b11 b12 b13 b14 b15 b16 b17 b18 b19 b20 b21 b22 : Bool) (v163 v164 v165 v166 v167 v168 v169 v170 v171 v172 v173 v174 v175 v176 v177 v178 v179 v180 v181 v182 v183 v184 v185 : Value) (w' : World) : LbfSt w0 bx LN vx0 vx vv va vb qx b0 b1 b2 b3 b4 b5 b6 b7 b8 b9 b10 b11 b12 b13 b14 b15 b16 b17 b18 b19 b20 b21 b22 v163 v164 v165 v166 v167 v168 v169 v170 v171 v172 v173 v174 v175 v176 v177 v178 v179 v180 v181 v182 v183 v184 v185 w' → LbfJ w0 bx LN vx0 vx vv va vb qx p0 p1 p2 p3 p4 p5 p6 p7 p8 p9 p10 p11 p12 p13 p14 p15 p16 p17 p18 p19 p20 p21 p22 p23 p24 p25 p26 p27 p28 p29 p30 p31 p32 p33 p34 p35 p36 p37 p38 p39 p40 p41 p42 p43 p44 p45 p46 p47 p48 p49 p50 p51 p52 p53 p54 p55 p56 p57 p58 p59 p60 p61 p62 p63 p64 p65 p66 p67 p68 p69 p70 p71 p72 p73 p74 p75 p76 p77 p78 p79 p80 p81 p82 p83 p84 p85 p86 p87 p88 p89 p90 p91 p92 p93 p94 p95 p96 p97 p98 p99 p100 p101 p102 p103 p104 p105 p106 p107 p108 p109 p110 p111 p112 p113 p114 p115 p116 p117 p118 p119 p120 p121 p122 p123 p124 p125 p126 p127 p128 p129 p130 p131 p132 p133 p134 p135 p136 p137 p138 p139 p140 p141 p142 p143 p144 p145 p146 p147 p148 p149 p150 p151 p152 p153 p154 p155 p156 p157 p158 p159 p160 p161 p162 p186 p187 p188 p189 p190 p191 p192 p193 p194 p195 p196 p197 p198 p199 p200 p201 p202 p203 p204 p205 p206 p207 p208 #[b0, b1, b2, b3, b4, b5, b6, b7, b8, b9, b10, b11, b12, b13, b14, b15, b16, b17, b18, b19, b20, b21, b22] { tmps := List.toArray (p0 :: p1 :: p2 :: p3 :: p4 :: p5 :: p6 :: p7 :: p8 :: p9 :: p10 :: p11 :: p12 :: p13 :: p14 :: p15 :: p16 :: p17 :: p18 :: p19 :: p20 :: p21 :: p22 :: p23 :: p24 :: p25 :: p26 :: p27 :: p28 :: p29 :: p30 :: p31 :: p32 :: p33 :: p34 :: p35 :: p36 :: p37 :: p38 :: p39 :: p40 :: p41 :: p42 :: p43 :: p44 :: p45 :: p46 :: p47 :: p48 :: p49 :: p50 :: p51 :: p52 :: p53 :: p54 :: p55 :: p56 :: p57 :: p58 :: p59 :: p60 :: p61 :: p62 :: p63 :: p64 :: p65 :: p66 :: p67 :: p68 :: p69 :: p70 :: p71 :: p72 :: p73 :: p74 :: p75 :: p76 :: p77 :: p78 :: p79 :: p80 :: p81 :: p82 :: p83 :: p84 :: p85 :: p86 :: p87 :: p88 :: p89 :: p90 :: p91 :: p92 :: p93 :: p94 :: p95 :: p96 :: p97 :: p98 :: p99 :: p100 :: p101 :: p102 :: p103 :: p104 :: p105 :: p106 :: p107 :: p108 :: p109 :: p110 :: p111 :: p112 :: p113 :: p114 :: p115 :: p116 :: p117 :: p118 :: p119 :: p120 :: p121 :: p122 :: p123 :: p124 :: p125 :: p126 :: p127 :: p128 :: p129 :: p130 :: p131 :: p132 :: p133 :: p134 :: p135 :: p136 :: p137 :: p138 :: p139 :: p140 :: p141 :: p142 :: p143 :: p144 :: p145 :: p146 :: p147 :: p148 :: p149 :: p150 :: p151 :: p152 :: p153 :: p154 :: p155 :: p156 :: p157 :: p158 :: p159 :: p160 :: p161 :: p162 :: v163 :: v164 :: v165 :: v166 :: v167 :: v168 :: v169 :: v170 :: v171 :: v172 :: v173 :: v174 :: v175 :: v176 :: v177 :: v178 :: v179 :: v180 :: v181 :: v182 :: v183 :: v184 :: v185 :: p186 :: p187 :: p188 :: p189 :: p190 :: p191 :: p192 :: p193 :: p194 :: p195 :: p196 :: p197 :: p198 :: p199 :: p200 :: p201 :: p202 :: p203 :: p204 :: p205 :: p206 :: p207 :: p208 :: []), defers := [] } w'
structure LctSt (w0 : World) (bx LN : Nat) (vx0 vx vv va vb : Value) (qx : Bool) (b0 b1 b2 b3 b4 b5 b6 b7 b8 b9 b10 b11 b12 b13 b14 b15 b16 b17 b18 b19 b20 b21 b22 b23 : Bool) (v6 v186 v187 v188 v189 v190 v191 v192 v193 v194 v195 v196 v197 v198 v199 v200 v201 v202 v203 v204 v205 v206 v207 v208 : Value) (w' : World) : Prop where
  bel : Below w0.heap.size w0 w'
  h0 : b0 = true → v186 = .int .i64 0
  h1 : b1 = true → v187 = .bool false
  h2 : b2 = true → v188 = .bool false
  h3 : b3 = true → v189 = .pointer (some ⟨bx, 0, none⟩)
  h4 : b4 = true → v190 = vx0
  h5 : b5 = true → v191 = .int .i64 (LN : Int)
  h6 : b6 = true → v192 = .int .i64 (LN : Int)
  h7 : b7 = true → v193 = .bool true
  h8 : b8 = true → v194 = .bool true
  h9 : b9 = true → v195 = vx
  h10 : b10 = true → v196 = vv
  h11 : b11 = true → v197 = .bool true
  h12 : b12 = true → v198 = va
  h13 : b13 = true → v199 = vv
  h14 : b14 = true → v200 = .bool true
  h15 : b15 = true → v201 = .bool true
  h16 : b16 = true → v202 = undef
  h17 : b17 = true → v203 = undef
  h18 : b18 = true → v204 = undef
  h19 : b19 = true → v205 = .bool true
  h20 : b20 = true → v206 = .bool true
  h21 : b21 = true → v207 = .bool true
  h22 : b22 = true → v208 = .bool true
  h23 : b23 = true → v6 = .bool true
inductive LctJ (w0 : World) (bx LN : Nat) (vx0 vx vv va vb : Value) (qx : Bool) (p0 p1 p2 p3 p4 p5 p7 p8 p9 p10 p11 p12 p13 p14 p15 p16 p17 p18 p19 p20 p21 p22 p23 p24 p25 p26 p27 p28 p29 p30 p31 p32 p33 p34 p35 p36 p37 p38 p39 p40 p41 p42 p43 p44 p45 p46 p47 p48 p49 p50 p51 p52 p53 p54 p55 p56 p57 p58 p59 p60 p61 p62 p63 p64 p65 p66 p67 p68 p69 p70 p71 p72 p73 p74 p75 p76 p77 p78 p79 p80 p81 p82 p83 p84 p85 p86 p87 p88 p89 p90 p91 p92 p93 p94 p95 p96 p97 p98 p99 p100 p101 p102 p103 p104 p105 p106 p107 p108 p109 p110 p111 p112 p113 p114 p115 p116 p117 p118 p119 p120 p121 p122 p123 p124 p125 p126 p127 p128 p129 p130 p131 p132 p133 p134 p135 p136 p137 p138 p139 p140 p141 p142 p143 p144 p145 p146 p147 p148 p149 p150 p151 p152 p153 p154 p155 p156 p157 p158 p159 p160 p161 p162 p163 p164 p165 p166 p167 p168 p169 p170 p171 p172 p173 p174 p175 p176 p177 p178 p179 p180 p181 p182 p183 p184 p185 : Value) : Array Bool → Act → World → Prop where
  | mk (b0 b1 b2 b3 b4 b5 b6 b7 b8 b9 b10 b11 b12 b13 b14 b15 b16 b17 b18 b19 b20 b21 b22 b23 : Bool) (v6 v186 v187 v188 v189 v190 v191 v192 v193 v194 v195 v196 v197 v198 v199 v200 v201 v202 v203 v204 v205 v206 v207 v208 : Value) (w' : World) : LctSt w0 bx LN vx0 vx vv va vb qx b0 b1 b2 b3 b4 b5 b6 b7 b8 b9 b10 b11 b12 b13 b14 b15 b16 b17 b18 b19 b20 b21 b22 b23 v6 v186 v187 v188 v189 v190 v191 v192 v193 v194 v195 v196 v197 v198 v199 v200 v201 v202 v203 v204 v205 v206 v207 v208 w' → LctJ w0 bx LN vx0 vx vv va vb qx p0 p1 p2 p3 p4 p5 p7 p8 p9 p10 p11 p12 p13 p14 p15 p16 p17 p18 p19 p20 p21 p22 p23 p24 p25 p26 p27 p28 p29 p30 p31 p32 p33 p34 p35 p36 p37 p38 p39 p40 p41 p42 p43 p44 p45 p46 p47 p48 p49 p50 p51 p52 p53 p54 p55 p56 p57 p58 p59 p60 p61 p62 p63 p64 p65 p66 p67 p68 p69 p70 p71 p72 p73 p74 p75 p76 p77 p78 p79 p80 p81 p82 p83 p84 p85 p86 p87 p88 p89 p90 p91 p92 p93 p94 p95 p96 p97 p98 p99 p100 p101 p102 p103 p104 p105 p106 p107 p108 p109 p110 p111 p112 p113 p114 p115 p116 p117 p118 p119 p120 p121 p122 p123 p124 p125 p126 p127 p128 p129 p130 p131 p132 p133 p134 p135 p136 p137 p138 p139 p140 p141 p142 p143 p144 p145 p146 p147 p148 p149 p150 p151 p152 p153 p154 p155 p156 p157 p158 p159 p160 p161 p162 p163 p164 p165 p166 p167 p168 p169 p170 p171 p172 p173 p174 p175 p176 p177 p178 p179 p180 p181 p182 p183 p184 p185 #[b0, b1, b2, b3, b4, b5, b6, b7, b8, b9, b10, b11, b12, b13, b14, b15, b16, b17, b18, b19, b20, b21, b22, b23] { tmps := List.toArray (p0 :: p1 :: p2 :: p3 :: p4 :: p5 :: v6 :: p7 :: p8 :: p9 :: p10 :: p11 :: p12 :: p13 :: p14 :: p15 :: p16 :: p17 :: p18 :: p19 :: p20 :: p21 :: p22 :: p23 :: p24 :: p25 :: p26 :: p27 :: p28 :: p29 :: p30 :: p31 :: p32 :: p33 :: p34 :: p35 :: p36 :: p37 :: p38 :: p39 :: p40 :: p41 :: p42 :: p43 :: p44 :: p45 :: p46 :: p47 :: p48 :: p49 :: p50 :: p51 :: p52 :: p53 :: p54 :: p55 :: p56 :: p57 :: p58 :: p59 :: p60 :: p61 :: p62 :: p63 :: p64 :: p65 :: p66 :: p67 :: p68 :: p69 :: p70 :: p71 :: p72 :: p73 :: p74 :: p75 :: p76 :: p77 :: p78 :: p79 :: p80 :: p81 :: p82 :: p83 :: p84 :: p85 :: p86 :: p87 :: p88 :: p89 :: p90 :: p91 :: p92 :: p93 :: p94 :: p95 :: p96 :: p97 :: p98 :: p99 :: p100 :: p101 :: p102 :: p103 :: p104 :: p105 :: p106 :: p107 :: p108 :: p109 :: p110 :: p111 :: p112 :: p113 :: p114 :: p115 :: p116 :: p117 :: p118 :: p119 :: p120 :: p121 :: p122 :: p123 :: p124 :: p125 :: p126 :: p127 :: p128 :: p129 :: p130 :: p131 :: p132 :: p133 :: p134 :: p135 :: p136 :: p137 :: p138 :: p139 :: p140 :: p141 :: p142 :: p143 :: p144 :: p145 :: p146 :: p147 :: p148 :: p149 :: p150 :: p151 :: p152 :: p153 :: p154 :: p155 :: p156 :: p157 :: p158 :: p159 :: p160 :: p161 :: p162 :: p163 :: p164 :: p165 :: p166 :: p167 :: p168 :: p169 :: p170 :: p171 :: p172 :: p173 :: p174 :: p175 :: p176 :: p177 :: p178 :: p179 :: p180 :: p181 :: p182 :: p183 :: p184 :: p185 :: v186 :: v187 :: v188 :: v189 :: v190 :: v191 :: v192 :: v193 :: v194 :: v195 :: v196 :: v197 :: v198 :: v199 :: v200 :: v201 :: v202 :: v203 :: v204 :: v205 :: v206 :: v207 :: v208 :: []), defers := [] } w'
structure LcfSt (w0 : World) (bx LN : Nat) (vx0 vx vv va vb : Value) (qx : Bool) (b0 b1 b2 b3 b4 b5 b6 b7 b8 b9 b10 b11 b12 b13 b14 b15 b16 b17 b18 b19 b20 b21 b22 b23 : Bool) (v6 v186 v187 v188 v189 v190 v191 v192 v193 v194 v195 v196 v197 v198 v199 v200 v201 v202 v203 v204 v205 v206 v207 v208 : Value) (w' : World) : Prop where
  bel : Below w0.heap.size w0 w'
  h0 : b0 = true → v186 = .int .i64 0
  h1 : b1 = true → v187 = .bool false
  h2 : b2 = true → v188 = .bool false
  h3 : b3 = true → v189 = .pointer (some ⟨bx, 0, none⟩)
  h4 : b4 = true → v190 = vx0
  h5 : b5 = true → v191 = .int .i64 (LN : Int)
  h6 : b6 = true → v192 = .int .i64 (LN : Int)
  h7 : b7 = true → v193 = .bool true
  h8 : b8 = true → v194 = .bool true
  h9 : b9 = true → v195 = vx
  h10 : b10 = true → v196 = vv
  h11 : b11 = true → v197 = .bool qx
  h12 : b12 = true → v198 = va
  h13 : b13 = true → v199 = vv
  h14 : b14 = true → v200 = .bool false
  h15 : b15 = true → v201 = .bool false
  h16 : b16 = true → v202 = vb
  h17 : b17 = true → v203 = vv
  h18 : b18 = true → v204 = .bool qx
  h19 : b19 = true → v205 = .bool qx
  h20 : b20 = true → v206 = .bool true
  h21 : b21 = true → v207 = .bool true
  h22 : b22 = true → v208 = .bool true
  h23 : b23 = true → v6 = .bool true
inductive LcfJ (w0 : World) (bx LN : Nat) (vx0 vx vv va vb : Value) (qx : Bool) (p0 p1 p2 p3 p4 p5 p7 p8 p9 p10 p11 p12 p13 p14 p15 p16 p17 p18 p19 p20 p21 p22 p23 p24 p25 p26 p27 p28 p29 p30 p31 p32 p33 p34 p35 p36 p37 p38 p39 p40 p41 p42 p43 p44 p45 p46 p47 p48 p49 p50 p51 p52 p53 p54 p55 p56 p57 p58 p59 p60 p61 p62 p63 p64 p65 p66 p67 p68 p69 p70 p71 p72 p73 p74 p75 p76 p77 p78 p79 p80 p81 p82 p83 p84 p85 p86 p87 p88 p89 p90 p91 p92 p93 p94 p95 p96 p97 p98 p99 p100 p101 p102 p103 p104 p105 p106 p107 p108 p109 p110 p111 p112 p113 p114 p115 p116 p117 p118 p119 p120 p121 p122 p123 p124 p125 p126 p127 p128 p129 p130 p131 p132 p133 p134 p135 p136 p137 p138 p139 p140 p141 p142 p143 p144 p145 p146 p147 p148 p149 p150 p151 p152 p153 p154 p155 p156 p157 p158 p159 p160 p161 p162 p163 p164 p165 p166 p167 p168 p169 p170 p171 p172 p173 p174 p175 p176 p177 p178 p179 p180 p181 p182 p183 p184 p185 : Value) : Array Bool → Act → World → Prop where
  | mk (b0 b1 b2 b3 b4 b5 b6 b7 b8 b9 b10 b11 b12 b13 b14 b15 b16 b17 b18 b19 b20 b21 b22 b23 : Bool) (v6 v186 v187 v188 v189 v190 v191 v192 v193 v194 v195 v196 v197 v198 v199 v200 v201 v202 v203 v204 v205 v206 v207 v208 : Value) (w' : World) : LcfSt w0 bx LN vx0 vx vv va vb qx b0 b1 b2 b3 b4 b5 b6 b7 b8 b9 b10 b11 b12 b13 b14 b15 b16 b17 b18 b19 b20 b21 b22 b23 v6 v186 v187 v188 v189 v190 v191 v192 v193 v194 v195 v196 v197 v198 v199 v200 v201 v202 v203 v204 v205 v206 v207 v208 w' → LcfJ w0 bx LN vx0 vx vv va vb qx p0 p1 p2 p3 p4 p5 p7 p8 p9 p10 p11 p12 p13 p14 p15 p16 p17 p18 p19 p20 p21 p22 p23 p24 p25 p26 p27 p28 p29 p30 p31 p32 p33 p34 p35 p36 p37 p38 p39 p40 p41 p42 p43 p44 p45 p46 p47 p48 p49 p50 p51 p52 p53 p54 p55 p56 p57 p58 p59 p60 p61 p62 p63 p64 p65 p66 p67 p68 p69 p70 p71 p72 p73 p74 p75 p76 p77 p78 p79 p80 p81 p82 p83 p84 p85 p86 p87 p88 p89 p90 p91 p92 p93 p94 p95 p96 p97 p98 p99 p100 p101 p102 p103 p104 p105 p106 p107 p108 p109 p110 p111 p112 p113 p114 p115 p116 p117 p118 p119 p120 p121 p122 p123 p124 p125 p126 p127 p128 p129 p130 p131 p132 p133 p134 p135 p136 p137 p138 p139 p140 p141 p142 p143 p144 p145 p146 p147 p148 p149 p150 p151 p152 p153 p154 p155 p156 p157 p158 p159 p160 p161 p162 p163 p164 p165 p166 p167 p168 p169 p170 p171 p172 p173 p174 p175 p176 p177 p178 p179 p180 p181 p182 p183 p184 p185 #[b0, b1, b2, b3, b4, b5, b6, b7, b8, b9, b10, b11, b12, b13, b14, b15, b16, b17, b18, b19, b20, b21, b22, b23] { tmps := List.toArray (p0 :: p1 :: p2 :: p3 :: p4 :: p5 :: v6 :: p7 :: p8 :: p9 :: p10 :: p11 :: p12 :: p13 :: p14 :: p15 :: p16 :: p17 :: p18 :: p19 :: p20 :: p21 :: p22 :: p23 :: p24 :: p25 :: p26 :: p27 :: p28 :: p29 :: p30 :: p31 :: p32 :: p33 :: p34 :: p35 :: p36 :: p37 :: p38 :: p39 :: p40 :: p41 :: p42 :: p43 :: p44 :: p45 :: p46 :: p47 :: p48 :: p49 :: p50 :: p51 :: p52 :: p53 :: p54 :: p55 :: p56 :: p57 :: p58 :: p59 :: p60 :: p61 :: p62 :: p63 :: p64 :: p65 :: p66 :: p67 :: p68 :: p69 :: p70 :: p71 :: p72 :: p73 :: p74 :: p75 :: p76 :: p77 :: p78 :: p79 :: p80 :: p81 :: p82 :: p83 :: p84 :: p85 :: p86 :: p87 :: p88 :: p89 :: p90 :: p91 :: p92 :: p93 :: p94 :: p95 :: p96 :: p97 :: p98 :: p99 :: p100 :: p101 :: p102 :: p103 :: p104 :: p105 :: p106 :: p107 :: p108 :: p109 :: p110 :: p111 :: p112 :: p113 :: p114 :: p115 :: p116 :: p117 :: p118 :: p119 :: p120 :: p121 :: p122 :: p123 :: p124 :: p125 :: p126 :: p127 :: p128 :: p129 :: p130 :: p131 :: p132 :: p133 :: p134 :: p135 :: p136 :: p137 :: p138 :: p139 :: p140 :: p141 :: p142 :: p143 :: p144 :: p145 :: p146 :: p147 :: p148 :: p149 :: p150 :: p151 :: p152 :: p153 :: p154 :: p155 :: p156 :: p157 :: p158 :: p159 :: p160 :: p161 :: p162 :: p163 :: p164 :: p165 :: p166 :: p167 :: p168 :: p169 :: p170 :: p171 :: p172 :: p173 :: p174 :: p175 :: p176 :: p177 :: p178 :: p179 :: p180 :: p181 :: p182 :: p183 :: p184 :: p185 :: v186 :: v187 :: v188 :: v189 :: v190 :: v191 :: v192 :: v193 :: v194 :: v195 :: v196 :: v197 :: v198 :: v199 :: v200 :: v201 :: v202 :: v203 :: v204 :: v205 :: v206 :: v207 :: v208 :: []), defers := [] } w'
set_option maxHeartbeats 32000000 in
theorem law_and (A : Option Addr) (m cp : Nat) (p : List (List CV)) (B : Option Addr) (n cq : Nat) (q : List (List CV)) (a c d : Int) (s : ByteArray) (w : World) (hp : RdR w w.heap.size A m p) (hq : RdR w w.heap.size B n q) (hg : SignsAt w) (hm : LenAt w) (h1 : 1 < w.heap.size) :
    Calls Tryd.prog 14 #[.agg #[.slice A m cp], .agg #[.slice B n cq], verV a c d s] w fun e w' => e = .returned (.bool true) ∧ Below w.heap.size w w' := by
  obtain ⟨W0, hW0⟩ : ∃ W0, ((w.alloc (.cells #[.slice A m cp] 48)).alloc (.cells #[.slice B n cq] 48)).alloc (verC a c d s) = W0 := ⟨_, rfl⟩
  have hb0 : Below w.heap.size w W0 := by rw [← hW0]; exact (((Below.refl _ w).alloc (Nat.le_refl _) _).alloc (by simp) _).alloc (by simp; omega) _
  have HBX0 : Hid (BoxesAt [(w.heap.size, (.cells #[.slice A m cp] 48)), (w.heap.size + 1, (.cells #[.slice B n cq] 48)), (w.heap.size + 1 + 1, (verC a c d s))] W0) := Lib.hid (by
    have h1 := World.alloc_heap_new (w.alloc (.cells #[.slice A m cp] 48)) (.cells #[.slice B n cq] 48)
    have h2 := World.alloc_heap_new ((w.alloc (.cells #[.slice A m cp] 48)).alloc (.cells #[.slice B n cq] 48)) (verC a c d s)
    rw [World.size_alloc] at h1 h2
    rw [World.size_alloc] at h2
    rw [← hW0]
    intro x hx
    simp only [List.mem_cons, List.not_mem_nil, or_false] at hx
    rcases hx with rfl | rfl | rfl
    · exact ⟨by simp; omega, by rw [Below.heap_alloc _ _ _ (by simp; omega), Below.heap_alloc _ _ _ (by simp)]; exact World.alloc_heap_new _ _⟩
    · exact ⟨by simp, by rw [Below.heap_alloc _ _ _ (by simp)]; exact h1⟩
    · exact ⟨by simp, h2⟩)
  have HM0 := Lib.hid (hm.below h1 hb0)
  have HG0 : Hid (SignsAt W0) := Lib.hid (hg.below hb0 (by omega))
  have HAN := Lib.hid (ranchor_any W0 HG0.out HM0.out.1 HM0.out.2)
  have HW0 := Lib.hid hW0
  have HB0 := Lib.hid hb0
  have HP0 : Hid (RdR W0 w.heap.size A m p) := Lib.hid (hp.below hb0)
  have HQ0 : Hid (RdR W0 w.heap.size B n q) := Lib.hid (hq.below hb0)
  have HLP := Lib.hid hp.1
  have HLQ := Lib.hid hq.1
  clear hW0 hb0 hm hg hp hq
  go_enter Tryd.func14, Tryd.ntmps14
  go_wp2_with fail
  try rw [show ((w.alloc (.cells #[.slice A m cp] 48)).alloc (.cells #[.slice B n cq] 48)).alloc (.cells #[.int .i64 a, .int .i64 c, .int .i64 d, .string s] 25) = W0 from HW0.out]
  refine HAN.out.mono ?_
  rintro e W1 ⟨rfl, hb⟩
  clear HAN
  have HBX1 := Lib.hid (HBX0.out.below hb)
  have HB1 : Hid (Below w.heap.size w W1) := Lib.hid (HB0.out.trans (hb.mono HB0.out.size))
  have HM1 := Lib.hid (HM0.out.1.below HM0.out.2 hb)
  have HP1 : Hid (RdR W1 w.heap.size A m p) := Lib.hid (HP0.out.below (hb.mono HB0.out.size))
  have HQ1 : Hid (RdR W1 w.heap.size B n q) := Lib.hid (HQ0.out.below (hb.mono HB0.out.size))
  clear hb
  have cA := cell1 (HBX1.out.get (w.heap.size) (.cells #[.slice A m cp] 48) (by simp))
  have HC := Lib.hid (plain_any A m cp p W1 w.heap.size HP1.out HB1.out.size)
  go_wp2_with fail
  refine HC.out.mono ?_
  rintro e W2 ⟨hpr, hb⟩
  obtain ⟨A2, n2, c2, rfl, hpp⟩ := plain_form hpr
  clear hpr HC cA
  have HBX2 := Lib.hid (HBX1.out.below hb)
  have HB2 : Hid (Below w.heap.size w W2) := Lib.hid (HB1.out.trans (hb.mono HB1.out.size))
  have HM2 := Lib.hid (HM1.out.1.below HM1.out.2 hb)
  have HP2 : Hid (RdR W2 w.heap.size A m p) := Lib.hid (HP1.out.below (hb.mono HB1.out.size))
  have HQ2 : Hid (RdR W2 w.heap.size B n q) := Lib.hid (HQ1.out.below (hb.mono HB1.out.size))
  clear hb
  obtain ⟨W3, hW3⟩ : ∃ W3, W2.alloc (.cells #[.slice A2 n2 c2] 53) = W3 := ⟨_, rfl⟩
  have hb : Below W2.heap.size W2 W3 := by rw [← hW3]; exact (Below.refl _ W2).alloc (Nat.le_refl _) _
  have HBX3 := Lib.hid (HBX2.out.push (.cells #[.slice A2 n2 c2] 53))
  rw [hW3] at HBX3
  have HB3 : Hid (Below w.heap.size w W3) := Lib.hid (HB2.out.trans (hb.mono HB2.out.size))
  have HM3 := Lib.hid (HM2.out.1.below HM2.out.2 hb)
  have HP3 : Hid (RdR W3 w.heap.size A m p) := Lib.hid (HP2.out.below (hb.mono HB2.out.size))
  have HQ3 : Hid (RdR W3 w.heap.size B n q) := Lib.hid (HQ2.out.below (hb.mono HB2.out.size))
  have HW3 := Lib.hid hW3
  have HPP : Hid (plainR p = true → p.length = n2 ∧ RdR W3 W2.heap.size A2 n2 p) := Lib.hid (fun h => ⟨(hpp h).1, (hpp h).2.below hb⟩)
  have HS3 := Lib.hid hb.size
  clear hpp hb
  have cB := cell1 (HBX3.out.get (w.heap.size + 1) (.cells #[.slice B n cq] 48) (by simp))
  have HC := Lib.hid (plain_any B n cq q W3 w.heap.size HQ3.out HB3.out.size)
  rw [← hW3] at cB
  clear hW3
  go_wp2_with fail
  try rw [show W2.alloc (.cells #[.slice A2 n2 c2] 53) = W3 from HW3.out]
  refine HC.out.mono ?_
  rintro e W4 ⟨hpr, hb⟩
  obtain ⟨A3, n3, c3, rfl, hpp⟩ := plain_form hpr
  clear hpr HC cB
  have HPP4 : Hid (plainR p = true → p.length = n2 ∧ RdR W4 W2.heap.size A2 n2 p) := Lib.hid (fun h => ⟨(HPP.out h).1, (HPP.out h).2.below (hb.mono HS3.out)⟩)
  have HS4 := Lib.hid (Nat.le_trans HS3.out hb.size)
  have HBX4 := Lib.hid (HBX3.out.below hb)
  have HB4 : Hid (Below w.heap.size w W4) := Lib.hid (HB3.out.trans (hb.mono HB3.out.size))
  have HM4 := Lib.hid (HM3.out.1.below HM3.out.2 hb)
  have HP4 : Hid (RdR W4 w.heap.size A m p) := Lib.hid (HP3.out.below (hb.mono HB3.out.size))
  have HQ4 : Hid (RdR W4 w.heap.size B n q) := Lib.hid (HQ3.out.below (hb.mono HB3.out.size))
  clear hb
  obtain ⟨W5, hW5⟩ : ∃ W5, W4.alloc (.cells #[.slice A3 n3 c3] 53) = W5 := ⟨_, rfl⟩
  have hb : Below W4.heap.size W4 W5 := by rw [← hW5]; exact (Below.refl _ W4).alloc (Nat.le_refl _) _
  have HBX5 := Lib.hid (HBX4.out.push (.cells #[.slice A3 n3 c3] 53))
  rw [hW5] at HBX5
  have HB5 : Hid (Below w.heap.size w W5) := Lib.hid (HB4.out.trans (hb.mono HB4.out.size))
  have HM5 := Lib.hid (HM4.out.1.below HM4.out.2 hb)
  have HP5 : Hid (RdR W5 w.heap.size A m p) := Lib.hid (HP4.out.below (hb.mono HB4.out.size))
  have HQ5 : Hid (RdR W5 w.heap.size B n q) := Lib.hid (HQ4.out.below (hb.mono HB4.out.size))
  have HW5 := Lib.hid hW5
  have HQQ : Hid (plainR q = true → q.length = n3 ∧ RdR W5 W4.heap.size A3 n3 q) := Lib.hid (fun h => ⟨(hpp h).1, (hpp h).2.below hb⟩)
  have HPP5 : Hid (plainR p = true → p.length = n2 ∧ RdR W5 W2.heap.size A2 n2 p) := Lib.hid (fun h => ⟨(HPP4.out h).1, (HPP4.out h).2.below (hb.mono HS4.out)⟩)
  have HS5 : Hid (W2.heap.size ≤ W5.heap.size ∧ W4.heap.size ≤ W5.heap.size) := Lib.hid ⟨Nat.le_trans HS4.out hb.size, hb.size⟩
  clear hpp hb HPP HPP4
  obtain ⟨y0, y1, y2, y3⟩ := cells4 (HBX5.out.get (w.heap.size + 1 + 1) (verC a c d s) (by simp))
  rw [← hW5] at y0 y1 y2 y3
  clear hW5
  cases hpl : plainR p with
  | false =>
    go_wp2
    try rw [show W4.alloc (.cells #[.slice A3 n3 c3] 53) = W5 from HW5.out]
    refine bodyPost_ret (results_tmp rfl _ _ _) rfl ⟨rfl, HB5.out⟩
  | true =>
    cases hql : plainR q with
    | false =>
      go_wp2
      try rw [show W4.alloc (.cells #[.slice A3 n3 c3] 53) = W5 from HW5.out]
      refine bodyPost_ret (results_tmp rfl _ _ _) rfl ⟨rfl, HB5.out⟩
    | true =>
      by_cases hsh : 100 < s.size
      · have dsh : decide (100 < (s.size : Int)) = true := decide_eq_true (by omega)
        go_wp2
        try rw [show W4.alloc (.cells #[.slice A3 n3 c3] 53) = W5 from HW5.out]
        refine bodyPost_ret (results_tmp rfl _ _ _) rfl ⟨rfl, HB5.out⟩
      · have dsh : decide (100 < (s.size : Int)) = false := decide_eq_false (by omega)
        have HSS : Hid (s.size ≤ 100) := Lib.hid (by omega)
        have hpf := plain_fits hpl
        have hqf := plain_fits hql
        have HFP := Lib.hid hpf
        have HFQ := Lib.hid hqf
        have HM20 : Hid (m ≤ 20 ∧ n ≤ 20) := Lib.hid (by rw [← HLP.out, ← HLQ.out]; exact ⟨hpf.1, hqf.1⟩)
        obtain ⟨hn2, hr2⟩ := HPP5.out hpl
        obtain ⟨hn3, hr3⟩ := HQQ.out hql
        have hm2 : m = n2 := HLP.out.symm.trans hn2
        have hm3 : n = n3 := HLQ.out.symm.trans hn3
        subst hm2 hm3
        have HR2 := Lib.hid hr2
        have HR3 := Lib.hid hr3
        clear hpl hql hsh hpf hqf hn2 hn3 hr2 hr3 HPP5 HQQ
        have cA := cell1 (HBX5.out.get (w.heap.size) (.cells #[.slice A m cp] 48) (by simp))
        have cB := cell1 (HBX5.out.get (w.heap.size + 1) (.cells #[.slice B n cq] 48) (by simp))
        have hW5 := HW5.out
        rw [← hW5] at cA cB
        clear hW5
        have HC := Lib.hid (And_any A m cp p B n cq q W5 w.heap.size HP5.out HQ5.out HB5.out.size HFP.out.2.1 HFQ.out.2.1 HM20.out.1 HM20.out.2 HM5.out.1 HM5.out.2)
        go_wp2_with fail
        try rw [show W4.alloc (.cells #[.slice A3 n c3] 53) = W5 from HW5.out]
        clear y0 y1 y2 y3 cA cB dsh
        refine HC.out.mono ?_
        rintro e W6 ⟨han, hb⟩
        obtain ⟨Ax, nx, cx, ex, rfl, hxf⟩ := and_form han
        clear han HC
        have HR26 : Hid (RdR W6 W2.heap.size A2 m p) := Lib.hid (HR2.out.below (hb.mono HS5.out.1))
        have HR36 : Hid (RdR W6 W4.heap.size A3 n q) := Lib.hid (HR3.out.below (hb.mono HS5.out.2))
        have HS6 : Hid (W2.heap.size ≤ W6.heap.size ∧ W4.heap.size ≤ W6.heap.size) := Lib.hid ⟨Nat.le_trans HS5.out.1 hb.size, Nat.le_trans HS5.out.2 hb.size⟩
        have HBX6 := Lib.hid (HBX5.out.below hb)
        have HB6 : Hid (Below w.heap.size w W6) := Lib.hid (HB5.out.trans (hb.mono HB5.out.size))
        have HM6 := Lib.hid (HM5.out.1.below HM5.out.2 hb)
        have HP6 : Hid (RdR W6 w.heap.size A m p) := Lib.hid (HP5.out.below (hb.mono HB5.out.size))
        have HQ6 : Hid (RdR W6 w.heap.size B n q) := Lib.hid (HQ5.out.below (hb.mono HB5.out.size))
        clear hb
        obtain ⟨W7, hW7⟩ : ∃ W7, W6.alloc (.cells #[.slice Ax nx cx] 48) = W7 := ⟨_, rfl⟩
        have hb : Below W6.heap.size W6 W7 := by rw [← hW7]; exact (Below.refl _ W6).alloc (Nat.le_refl _) _
        have HBX7 := Lib.hid (HBX6.out.push (.cells #[.slice Ax nx cx] 48))
        rw [hW7] at HBX7
        have HB7 : Hid (Below w.heap.size w W7) := Lib.hid (HB6.out.trans (hb.mono HB6.out.size))
        have HM7 := Lib.hid (HM6.out.1.below HM6.out.2 hb)
        have HP7 : Hid (RdR W7 w.heap.size A m p) := Lib.hid (HP6.out.below (hb.mono HB6.out.size))
        have HQ7 : Hid (RdR W7 w.heap.size B n q) := Lib.hid (HQ6.out.below (hb.mono HB6.out.size))
        have HW7 := Lib.hid hW7
        have HXF : Hid (AnF p q ex nx Ax W6) := Lib.hid hxf
        have HB67 := Lib.hid hb
        have HR27 : Hid (RdR W7 W2.heap.size A2 m p) := Lib.hid (HR26.out.below (hb.mono HS6.out.1))
        have HR37 : Hid (RdR W7 W4.heap.size A3 n q) := Lib.hid (HR36.out.below (hb.mono HS6.out.2))
        have HS7 : Hid (W2.heap.size ≤ W7.heap.size ∧ W4.heap.size ≤ W7.heap.size) := Lib.hid ⟨Nat.le_trans HS6.out.1 hb.size, Nat.le_trans HS6.out.2 hb.size⟩
        clear hxf hb
        have cA := cell1 (HBX7.out.get (w.heap.size) (.cells #[.slice A m cp] 48) (by simp))
        have cB := cell1 (HBX7.out.get (w.heap.size + 1) (.cells #[.slice B n cq] 48) (by simp))
        rw [← hW7] at cA cB
        clear hW7
        have HC := Lib.hid (Or_any A m cp p B n cq q W7 w.heap.size HP7.out HQ7.out HB7.out.size HFP.out.2.1 HFQ.out.2.1 HM20.out.1 HM20.out.2 HM7.out.1 HM7.out.2)
        go_wp2_with fail
        try rw [show W6.alloc (.cells #[.slice Ax nx cx] 48) = W7 from HW7.out]
        clear cA cB
        refine HC.out.mono ?_
        rintro e W8 ⟨han, hb⟩
        obtain ⟨Ay, ny, cy, ey, rfl, hyf⟩ := or_form han
        clear han HC
        have HB68 := Lib.hid (HB67.out.trans (hb.mono HB67.out.size))
        have HR28 : Hid (RdR W8 W2.heap.size A2 m p) := Lib.hid (HR27.out.below (hb.mono HS7.out.1))
        have HR38 : Hid (RdR W8 W4.heap.size A3 n q) := Lib.hid (HR37.out.below (hb.mono HS7.out.2))
        have HS8 : Hid (W2.heap.size ≤ W8.heap.size ∧ W4.heap.size ≤ W8.heap.size) := Lib.hid ⟨Nat.le_trans HS7.out.1 hb.size, Nat.le_trans HS7.out.2 hb.size⟩
        have HBX8 := Lib.hid (HBX7.out.below hb)
        have HB8 : Hid (Below w.heap.size w W8) := Lib.hid (HB7.out.trans (hb.mono HB7.out.size))
        have HM8 := Lib.hid (HM7.out.1.below HM7.out.2 hb)
        have HP8 : Hid (RdR W8 w.heap.size A m p) := Lib.hid (HP7.out.below (hb.mono HB7.out.size))
        have HQ8 : Hid (RdR W8 w.heap.size B n q) := Lib.hid (HQ7.out.below (hb.mono HB7.out.size))
        clear hb
        obtain ⟨W9, hW9⟩ : ∃ W9, W8.alloc (.cells #[.slice Ay ny cy] 48) = W9 := ⟨_, rfl⟩
        have hb : Below W8.heap.size W8 W9 := by rw [← hW9]; exact (Below.refl _ W8).alloc (Nat.le_refl _) _
        have HBX9 := Lib.hid (HBX8.out.push (.cells #[.slice Ay ny cy] 48))
        rw [hW9] at HBX9
        have HB9 : Hid (Below w.heap.size w W9) := Lib.hid (HB8.out.trans (hb.mono HB8.out.size))
        have HM9 := Lib.hid (HM8.out.1.below HM8.out.2 hb)
        have HP9 : Hid (RdR W9 w.heap.size A m p) := Lib.hid (HP8.out.below (hb.mono HB8.out.size))
        have HQ9 : Hid (RdR W9 w.heap.size B n q) := Lib.hid (HQ8.out.below (hb.mono HB8.out.size))
        have HW9 := Lib.hid hW9
        have HYF : Hid (OrF p q ey ny Ay W8) := Lib.hid hyf
        have HB89 := Lib.hid hb
        have HB69 := Lib.hid (HB68.out.trans (hb.mono HB68.out.size))
        have HR29 : Hid (RdR W9 W2.heap.size A2 m p) := Lib.hid (HR28.out.below (hb.mono HS8.out.1))
        have HR39 : Hid (RdR W9 W4.heap.size A3 n q) := Lib.hid (HR38.out.below (hb.mono HS8.out.2))
        have HS9 : Hid (W2.heap.size ≤ W9.heap.size ∧ W4.heap.size ≤ W9.heap.size) := Lib.hid ⟨Nat.le_trans HS8.out.1 hb.size, Nat.le_trans HS8.out.2 hb.size⟩
        clear hyf hb HP0 HP1 HP2 HP3 HP4 HP5 HP6 HP7 HP8 HQ0 HQ1 HQ2 HQ3 HQ4 HQ5 HQ6 HQ7 HQ8 HBX0 HBX1 HBX2 HBX3 HBX4 HBX5 HBX6 HBX7 HBX8 HR2 HR3 HR26 HR36 HR27 HR37 HR28 HR38 HB0 HB1 HB2 HB3 HB4 HB5 HB6 HB7 HB8 HM0 HM1 HM2 HM3 HM4 HM5 HM6 HM7 HM8 HG0
        have cP := cell1 (HBX9.out.get (W2.heap.size) (.cells #[.slice A2 m c2] 53) (by simp))
        rw [← hW9] at cP
        clear hW9
        have HC := Lib.hid (RefRgRight_any A2 m c2 p W9 W2.heap.size HR29.out HS9.out.1 HFP.out.2.2)
        go_wp2_with fail
        try rw [show W8.alloc (.cells #[.slice Ay ny cy] 48) = W9 from HW9.out]
        clear cP
        refine HC.out.mono ?_
        rintro e W10 ⟨rfl, hb⟩
        clear HC
        have HB910 := Lib.hid hb
        have HR210 : Hid (RdR W10 W2.heap.size A2 m p) := Lib.hid (HR29.out.below (hb.mono HS9.out.1))
        have HR310 : Hid (RdR W10 W4.heap.size A3 n q) := Lib.hid (HR39.out.below (hb.mono HS9.out.2))
        have HS10 : Hid (W2.heap.size ≤ W10.heap.size ∧ W4.heap.size ≤ W10.heap.size) := Lib.hid ⟨Nat.le_trans HS9.out.1 hb.size, Nat.le_trans HS9.out.2 hb.size⟩
        have HBX10 := Lib.hid (HBX9.out.below hb)
        have HB10 : Hid (Below w.heap.size w W10) := Lib.hid (HB9.out.trans (hb.mono HB9.out.size))
        have HM10 := Lib.hid (HM9.out.1.below HM9.out.2 hb)
        have HP10 : Hid (RdR W10 w.heap.size A m p) := Lib.hid (HP9.out.below (hb.mono HB9.out.size))
        have HQ10 : Hid (RdR W10 w.heap.size B n q) := Lib.hid (HQ9.out.below (hb.mono HB9.out.size))
        clear hb
        cases hrp : rightR p with
        | false =>
          obtain ⟨h1, h2⟩ := HXF.out.1 (by rw [hrp, Bool.false_and])
          obtain ⟨h3, h4⟩ := HYF.out.1 (by rw [hrp, Bool.false_and])
          subst h1 h2 h3 h4
          have cX := cell1 (HBX10.out.get (W6.heap.size) (.cells #[.slice Ax 0 cx] 48) (by simp))
          have cY := cell1 (HBX10.out.get (W8.heap.size) (.cells #[.slice Ay 0 cy] 48) (by simp))
          go_wp2
          refine bodyPost_ret (results_tmp rfl _ _ _) rfl ⟨rfl, HB10.out⟩
        | true =>
          have cQ := cell1 (HBX10.out.get (W4.heap.size) (.cells #[.slice A3 n c3] 53) (by simp))
          have HC := Lib.hid (RefRgRight_any A3 n c3 q W10 W4.heap.size HR310.out HS10.out.2 HFQ.out.2.2)
          have HRP := Lib.hid hrp
          clear hrp
          go_wp2_with fail
          clear cQ
          refine HC.out.mono ?_
          rintro e W11 ⟨rfl, hb⟩
          clear HC
          have HB911 := Lib.hid (HB910.out.trans (hb.mono HB910.out.size))
          have HR211 : Hid (RdR W11 W2.heap.size A2 m p) := Lib.hid (HR210.out.below (hb.mono HS10.out.1))
          have HR311 : Hid (RdR W11 W4.heap.size A3 n q) := Lib.hid (HR310.out.below (hb.mono HS10.out.2))
          have HBX11 := Lib.hid (HBX10.out.below hb)
          have HB11 : Hid (Below w.heap.size w W11) := Lib.hid (HB10.out.trans (hb.mono HB10.out.size))
          have HM11 := Lib.hid (HM10.out.1.below HM10.out.2 hb)
          have HP11 : Hid (RdR W11 w.heap.size A m p) := Lib.hid (HP10.out.below (hb.mono HB10.out.size))
          have HQ11 : Hid (RdR W11 w.heap.size B n q) := Lib.hid (HQ10.out.below (hb.mono HB10.out.size))
          clear hb
          cases hrq : rightR q with
          | false =>
            obtain ⟨h1, h2⟩ := HXF.out.1 (by rw [hrq, Bool.and_false])
            obtain ⟨h3, h4⟩ := HYF.out.1 (by rw [hrq, Bool.and_false])
            subst h1 h2 h3 h4
            have cX := cell1 (HBX11.out.get (W6.heap.size) (.cells #[.slice Ax 0 cx] 48) (by simp))
            have cY := cell1 (HBX11.out.get (W8.heap.size) (.cells #[.slice Ay 0 cy] 48) (by simp))
            go_wp2
            refine bodyPost_ret (results_tmp rfl _ _ _) rfl ⟨rfl, HB11.out⟩
          | true =>
            have HRQ := Lib.hid hrq
            clear hrq
            have cP := cell1 (HBX11.out.get (W2.heap.size) (.cells #[.slice A2 m c2] 53) (by simp))
            have H8 : Hid ((1 ≤ m ∧ m ≤ 8) ∧ (1 ≤ n ∧ n ≤ 8)) := Lib.hid ⟨by rw [← HLP.out]; exact rightR_len HRP.out, by rw [← HLQ.out]; exact rightR_len HRQ.out⟩
            have HLP8 : Hid (∀ j, j < m → (lsAt p j).length ≤ 8) := Lib.hid (fun j hj => (rightR_list HRP.out (lsAt_mem (show j < p.length by rw [HLP.out]; exact hj))).1.2)
            have HLQ8 : Hid (∀ j, j < n → (lsAt q j).length ≤ 8) := Lib.hid (fun j hj => (rightR_list HRQ.out (lsAt_mem (show j < q.length by rw [HLQ.out]; exact hj))).1.2)
            go_wp2_with fail
            go_loopw [15, 17, 19, 85, 92] (fun v15 v17 v19 v85 v92 wr => ∃ (i mx : Nat), i ≤ m ∧ v85 = .int .i64 (i : Int) ∧ v15 = .int .i64 (mx : Int) ∧ mx ≤ 16 ∧ Hid (decide (mx ≤ 8) = (p.take i).all (fun l => q.all (fun l2 => decide (l.length + l2.length ≤ 8)))) ∧ W11 = wr) (fun _ _ _ v _ _ => m - (intOf v).toNat)
            case atStart => exact ⟨0, 0, Nat.zero_le _, rfl, rfl, Nat.zero_le _, Lib.hid rfl, rfl⟩
            case round =>
              obtain ⟨i, mx, hi, rfl, rfl, hmx, HD, hw⟩ := hrel
              subst hw
              by_cases him : i < m
              · have hd : decide ((i : Int) < (m : Int)) = true := decide_eq_true (by omega)
                have hadd : IntKind.i64.wrap ((i : Int) + 1) = ((i + 1 : Nat) : Int) := by rw [IntWalk.i64_in _ (by have := H8.out; omega)]; omega
                obtain ⟨ba, offa, A1, n1, c1, rfl, hlta, qa, hra⟩ := HR211.out.2 i him
                have HIL := Lib.hid him
                have HN1 : Hid ((lsAt p i).length = n1 ∧ n1 ≤ 8) := Lib.hid ⟨hra.1, by rw [← hra.1]; exact HLP8.out i him⟩
                have cQ := cell1 (HBX11.out.get (W4.heap.size) (.cells #[.slice A3 n c3] 53) (by simp))
                clear hra
                go_wp2_with fail
                clear qa cQ
                go_loopw [15, 19, 92] (fun v15 v19 v92 wr => ∃ (k mx : Nat), k ≤ n ∧ v92 = .int .i64 (k : Int) ∧ v15 = .int .i64 (mx : Int) ∧ mx ≤ 16 ∧ Hid (decide (mx ≤ 8) = ((p.take i).all (fun l => q.all (fun l2 => decide (l.length + l2.length ≤ 8))) && (q.take k).all (fun l2 => decide ((lsAt p i).length + l2.length ≤ 8)))) ∧ W11 = wr) (fun _ _ v _ => n - (intOf v).toNat)
                case atStart => exact ⟨0, mx, Nat.zero_le _, rfl, rfl, hmx, Lib.hid (by rw [HD.out]; simp), rfl⟩
                case round =>
                  obtain ⟨k, mx', hk, rfl, rfl, hmx', HDk, hw⟩ := hrel
                  subst hw
                  by_cases hkn : k < n
                  · have hdk : decide ((k : Int) < (n : Int)) = true := decide_eq_true (by omega)
                    have haddk : IntKind.i64.wrap ((k : Int) + 1) = ((k + 1 : Nat) : Int) := by rw [IntWalk.i64_in _ (by have := H8.out; omega)]; omega
                    obtain ⟨bb, offb, A2', n2, c2', rfl, hltb, qb, hrb⟩ := HR311.out.2 k hkn
                    have HN2 : Hid ((lsAt q k).length = n2 ∧ n2 ≤ 8) := Lib.hid ⟨hrb.1, by rw [← hrb.1]; exact HLQ8.out k hkn⟩
                    have hsum : IntKind.i64.wrap ((n1 : Int) + (n2 : Int)) = (n1 : Int) + (n2 : Int) := by rw [IntWalk.i64_in _ (by have := HN1.out; have := HN2.out; omega)]
                    have HDN : Hid (decide (max mx' (n1 + n2) ≤ 8) = ((p.take i).all (fun l => q.all (fun l2 => decide (l.length + l2.length ≤ 8))) && (q.take (k + 1)).all (fun l2 => decide ((lsAt p i).length + l2.length ≤ 8)))) := Lib.hid (by
                      have h := HDk.out
                      rw [take_snocR (by rw [HLQ.out]; exact hkn), List.all_append, ← Bool.and_assoc, ← h]
                      have e : decide (max mx' (n1 + n2) ≤ 8) = (decide (mx' ≤ 8) && decide (n1 + n2 ≤ 8)) := by rw [← Bool.decide_and]; exact decide_eq_decide.2 (by omega)
                      rw [e]
                      simp only [List.all_cons, List.all_nil, Bool.and_true]
                      rw [HN1.out.1, HN2.out.1])
                    clear hrb
                    go_wp2
                    go_roundw
                    case rel => exact ⟨k + 1, max mx' (n1 + n2), by omega, rfl, (by rw [show ((max mx' (n1 + n2) : Nat) : Int) = max (mx' : Int) ((n1 : Int) + (n2 : Int)) by omega]), (by have := HN1.out; have := HN2.out; omega), HDN, trivial⟩
                    case measure => simp [intOf]; omega
                  · have hdk : decide ((k : Int) < (n : Int)) = false := decide_eq_false (by omega)
                    have hkk : q.take k = q := by rw [List.take_of_length_le (by rw [HLQ.out]; omega)]
                    have HDo : Hid (decide (mx' ≤ 8) = (p.take (i + 1)).all (fun l => q.all (fun l2 => decide (l.length + l2.length ≤ 8)))) := Lib.hid (by
                      have h := HDk.out
                      rw [hkk] at h
                      rw [h, take_snocR (by rw [HLP.out]; exact HIL.out), List.all_append]
                      simp)
                    clear hkk
                    go_wp2
                    go_roundw
                    case rel => exact ⟨i + 1, mx', by have := HIL.out; omega, rfl, rfl, hmx', HDo, trivial⟩
                    case measure => have := HIL.out; simp [intOf]; omega
              · have hd : decide ((i : Int) < (m : Int)) = false := decide_eq_false (by omega)
                have HMX : Hid (decide (mx ≤ 8) = andFit p q) := Lib.hid (by
                  have h := HD.out
                  rw [List.take_of_length_le (by rw [HLP.out]; omega)] at h
                  exact h)
                have HCP : Hid (W11.cell? ⟨W2.heap.size, 0, none⟩ = some (.slice A2 m c2) ∧ W2.heap.size < W11.heap.size) := Lib.hid ⟨cell1 (HBX11.out.get (W2.heap.size) (.cells #[.slice A2 m c2] 53) (by simp)), (HBX11.out _ (by simp : (W2.heap.size, .cells #[.slice A2 m c2] 53) ∈ _)).1⟩
                have HCQ : Hid (W11.cell? ⟨W4.heap.size, 0, none⟩ = some (.slice A3 n c3) ∧ W4.heap.size < W11.heap.size) := Lib.hid ⟨cell1 (HBX11.out.get (W4.heap.size) (.cells #[.slice A3 n c3] 53) (by simp)), (HBX11.out _ (by simp : (W4.heap.size, .cells #[.slice A3 n c3] 53) ∈ _)).1⟩
                have HMW : Hid (IntKind.i64.wrap ((m : Int) * (n : Int)) = (m : Int) * (n : Int)) := Lib.hid (by
                  have h := Nat.mul_le_mul H8.out.1.2 H8.out.2.2
                  rw [← Int.natCast_mul, IntWalk.i64_in _ (by omega)])
                have HAW : Hid (IntKind.i64.wrap ((m : Int) + (n : Int)) = (m : Int) + (n : Int)) := Lib.hid (by rw [IntWalk.i64_in _ (by have := H8.out; omega)])
                clear hi HD
                go_upto_region 21 with fail
                clear hd him
                refine wp_region_inv (by kernel_rfl) (I := LaJ W11 W2.heap.size W4.heap.size m n c2 c3 A2 A3 _ _ _ _ _ _ _ _ _ _ _ _ _ _ _ _ _ _ _ _ _ _ _ _ _ _ _ _ _ _ _ _ _ _ _ _ _ _ _ _ _ _ _ _ _ _ _ _ _ _ _ _ _ _ _ _ _ _ _ _ _ _ _ _ _ _ _ _ _ _ _ _ _ _ _ _ _ _ _ _ _ _ _ _ _ _ _ _ _ _ _ _ _ _ _ _ _ _ _ _ _ _ _ _ _ _ _ _ _ _ _ _ _ _ _ _ _ _ _ _ _ _ _ _ _ _ _ _ _ _ _ _ _ _ _ _ _ _ _ _ _ _ _ _ _ _ _ _ _ _ _ _ _ _ _ _ _ _ _ _ _ _ _ _ _ _ _ _ _ _ _ _ _ _ _ _ _ _ _ _ _ _ _ _ _ _ _ _ _ _ _ _ _) (.mk false false false false false false false false false false false false false false false false _ _ _ _ _ _ _ _ _ _ _ _ _ _ _ _ _ ⟨(Below.refl _ W11).drew, nofun, nofun, nofun, nofun, nofun, nofun, nofun, nofun, nofun, nofun, nofun, nofun, nofun, nofun, nofun, nofun⟩) ?step ?fin
                case step =>
                  rintro lq a' w' ix ⟨b0, b1, b2, b3, b4, b5, b6, b7, b8, b9, b10, b11, b12, b13, b14, b15, v20, v21, v105, v106, v107, v108, v109, v110, v111, v112, v113, v114, v115, v116, v117, v118, _, HT⟩ hi
                  obtain ⟨hi_, hib⟩ := ready_lt hi
                  have HTH := Lib.hid HT
                  match ix, hi_, hi, hib with
                  | 0, _, hi, hib =>
                    clear HT
                    refine wpOp_one rfl rfl (fun K hK => ?_)
                    go_simp
                    exact hK.out _ _ (.mk true b1 b2 b3 b4 b5 b6 b7 b8 b9 b10 b11 b12 b13 b14 b15 _ _ _ _ _ _ _ _ _ _ _ _ _ _ _ _ _ { HTH.out with h0 := fun _ => rfl })
                  | 1, _, hi, hib =>
                    have d0 : b0 = true := ready_dep hi rfl 0 (by kernel_rfl)
                    have hd0 := HT.h0 d0
                    subst hd0
                    have cP := (HT.bel.cell (p := ⟨W2.heap.size, 0, none⟩) HCP.out.2).trans HCP.out.1
                    clear HT
                    refine wpOp_one rfl rfl (fun K hK => ?_)
                    go_simp
                    exact hK.out _ _ (.mk b0 true b2 b3 b4 b5 b6 b7 b8 b9 b10 b11 b12 b13 b14 b15 _ _ _ _ _ _ _ _ _ _ _ _ _ _ _ _ _ { HTH.out with h1 := fun _ => rfl })
                  | 2, _, hi, hib =>
                    have d1 : b1 = true := ready_dep hi rfl 1 (by kernel_rfl)
                    have hd1 := HT.h1 d1
                    subst hd1
                    clear HT
                    refine wpOp_one rfl rfl (fun K hK => ?_)
                    go_simp
                    exact hK.out _ _ (.mk b0 b1 true b3 b4 b5 b6 b7 b8 b9 b10 b11 b12 b13 b14 b15 _ _ _ _ _ _ _ _ _ _ _ _ _ _ _ _ _ { HTH.out with h2 := fun _ => rfl })
                  | 3, _, hi, hib =>
                    clear HT
                    refine wpOp_one rfl rfl (fun K hK => ?_)
                    go_simp
                    exact hK.out _ _ (.mk b0 b1 b2 true b4 b5 b6 b7 b8 b9 b10 b11 b12 b13 b14 b15 _ _ _ _ _ _ _ _ _ _ _ _ _ _ _ _ _ { HTH.out with h3 := fun _ => rfl })
                  | 4, _, hi, hib =>
                    have d3 : b3 = true := ready_dep hi rfl 3 (by kernel_rfl)
                    have hd3 := HT.h3 d3
                    subst hd3
                    have cQ := (HT.bel.cell (p := ⟨W4.heap.size, 0, none⟩) HCQ.out.2).trans HCQ.out.1
                    clear HT
                    refine wpOp_one rfl rfl (fun K hK => ?_)
                    go_simp
                    exact hK.out _ _ (.mk b0 b1 b2 b3 true b5 b6 b7 b8 b9 b10 b11 b12 b13 b14 b15 _ _ _ _ _ _ _ _ _ _ _ _ _ _ _ _ _ { HTH.out with h4 := fun _ => rfl })
                  | 5, _, hi, hib =>
                    have d4 : b4 = true := ready_dep hi rfl 4 (by kernel_rfl)
                    have hd4 := HT.h4 d4
                    subst hd4
                    clear HT
                    refine wpOp_one rfl rfl (fun K hK => ?_)
                    go_simp
                    exact hK.out _ _ (.mk b0 b1 b2 b3 b4 true b6 b7 b8 b9 b10 b11 b12 b13 b14 b15 _ _ _ _ _ _ _ _ _ _ _ _ _ _ _ _ _ { HTH.out with h5 := fun _ => rfl })
                  | 6, _, hi, hib =>
                    have d2 : b2 = true := ready_dep hi rfl 2 (by kernel_rfl)
                    have hd2 := HT.h2 d2
                    subst hd2
                    have d5 : b5 = true := ready_dep hi rfl 5 (by kernel_rfl)
                    have hd5 := HT.h5 d5
                    subst hd5
                    have hmw := HMW.out
                    clear HT
                    refine wpOp_one rfl rfl (fun K hK => ?_)
                    go_simp
                    exact hK.out _ _ (.mk b0 b1 b2 b3 b4 b5 true b7 b8 b9 b10 b11 b12 b13 b14 b15 _ _ _ _ _ _ _ _ _ _ _ _ _ _ _ _ _ { HTH.out with h6 := fun _ => rfl })
                  | 7, _, hi, hib =>
                    clear HT
                    refine wpOp_one rfl rfl (fun K hK => ?_)
                    go_simp
                    exact hK.out _ _ (.mk b0 b1 b2 b3 b4 b5 b6 true b8 b9 b10 b11 b12 b13 b14 b15 _ _ _ _ _ _ _ _ _ _ _ _ _ _ _ _ _ { HTH.out with h7 := fun _ => rfl })
                  | 8, _, hi, hib =>
                    have d7 : b7 = true := ready_dep hi rfl 7 (by kernel_rfl)
                    have hd7 := HT.h7 d7
                    subst hd7
                    have cP := (HT.bel.cell (p := ⟨W2.heap.size, 0, none⟩) HCP.out.2).trans HCP.out.1
                    clear HT
                    refine wpOp_one rfl rfl (fun K hK => ?_)
                    go_simp
                    exact hK.out _ _ (.mk b0 b1 b2 b3 b4 b5 b6 b7 true b9 b10 b11 b12 b13 b14 b15 _ _ _ _ _ _ _ _ _ _ _ _ _ _ _ _ _ { HTH.out with h8 := fun _ => rfl })
                  | 9, _, hi, hib =>
                    have d8 : b8 = true := ready_dep hi rfl 8 (by kernel_rfl)
                    have hd8 := HT.h8 d8
                    subst hd8
                    clear HT
                    refine wpOp_one rfl rfl (fun K hK => ?_)
                    go_simp
                    exact hK.out _ _ (.mk b0 b1 b2 b3 b4 b5 b6 b7 b8 true b10 b11 b12 b13 b14 b15 _ _ _ _ _ _ _ _ _ _ _ _ _ _ _ _ _ { HTH.out with h9 := fun _ => rfl })
                  | 10, _, hi, hib =>
                    clear HT
                    refine wpOp_one rfl rfl (fun K hK => ?_)
                    go_simp
                    exact hK.out _ _ (.mk b0 b1 b2 b3 b4 b5 b6 b7 b8 b9 true b11 b12 b13 b14 b15 _ _ _ _ _ _ _ _ _ _ _ _ _ _ _ _ _ { HTH.out with h10 := fun _ => rfl })
                  | 11, _, hi, hib =>
                    have d10 : b10 = true := ready_dep hi rfl 10 (by kernel_rfl)
                    have hd10 := HT.h10 d10
                    subst hd10
                    have cQ := (HT.bel.cell (p := ⟨W4.heap.size, 0, none⟩) HCQ.out.2).trans HCQ.out.1
                    clear HT
                    refine wpOp_one rfl rfl (fun K hK => ?_)
                    go_simp
                    exact hK.out _ _ (.mk b0 b1 b2 b3 b4 b5 b6 b7 b8 b9 b10 true b12 b13 b14 b15 _ _ _ _ _ _ _ _ _ _ _ _ _ _ _ _ _ { HTH.out with h11 := fun _ => rfl })
                  | 12, _, hi, hib =>
                    have d11 : b11 = true := ready_dep hi rfl 11 (by kernel_rfl)
                    have hd11 := HT.h11 d11
                    subst hd11
                    clear HT
                    refine wpOp_one rfl rfl (fun K hK => ?_)
                    go_simp
                    exact hK.out _ _ (.mk b0 b1 b2 b3 b4 b5 b6 b7 b8 b9 b10 b11 true b13 b14 b15 _ _ _ _ _ _ _ _ _ _ _ _ _ _ _ _ _ { HTH.out with h12 := fun _ => rfl })
                  | 13, _, hi, hib =>
                    have d9 : b9 = true := ready_dep hi rfl 9 (by kernel_rfl)
                    have hd9 := HT.h9 d9
                    subst hd9
                    have d12 : b12 = true := ready_dep hi rfl 12 (by kernel_rfl)
                    have hd12 := HT.h12 d12
                    subst hd12
                    have haw := HAW.out
                    clear HT
                    refine wpOp_one rfl rfl (fun K hK => ?_)
                    go_simp
                    exact hK.out _ _ (.mk b0 b1 b2 b3 b4 b5 b6 b7 b8 b9 b10 b11 b12 true b14 b15 _ _ _ _ _ _ _ _ _ _ _ _ _ _ _ _ _ { HTH.out with h13 := fun _ => rfl })
                  | 14, _, hi, hib =>
                    have d6 : b6 = true := ready_dep hi rfl 6 (by kernel_rfl)
                    have hd6 := HT.h6 d6
                    subst hd6
                    clear HT
                    refine wpOp_one rfl rfl (fun K hK => ?_)
                    go_simp
                    exact hK.out _ _ (.mk b0 b1 b2 b3 b4 b5 b6 b7 b8 b9 b10 b11 b12 b13 true b15 _ _ _ _ _ _ _ _ _ _ _ _ _ _ _ _ _ { HTH.out with h14 := fun _ => rfl })
                  | 15, _, hi, hib =>
                    have d13 : b13 = true := ready_dep hi rfl 13 (by kernel_rfl)
                    have hd13 := HT.h13 d13
                    subst hd13
                    clear HT
                    refine wpOp_one rfl rfl (fun K hK => ?_)
                    go_simp
                    exact hK.out _ _ (.mk b0 b1 b2 b3 b4 b5 b6 b7 b8 b9 b10 b11 b12 b13 b14 true _ _ _ _ _ _ _ _ _ _ _ _ _ _ _ _ _ { HTH.out with h15 := fun _ => rfl })
                case fin =>
                  rintro lq a' w' ⟨b0, b1, b2, b3, b4, b5, b6, b7, b8, b9, b10, b11, b12, b13, b14, b15, v20, v21, v105, v106, v107, v108, v109, v110, v111, v112, v113, v114, v115, v116, v117, v118, _, HT⟩ hr
                  obtain rfl : b0 = true := by
                    cases b0 with
                    | true => rfl
                    | false => exact (ready_in 0 rfl rfl (by simp [Region.binds]) hr).elim
                  obtain rfl : b1 = true := by
                    cases b1 with
                    | true => rfl
                    | false => exact (ready_in 1 rfl rfl (by simp [Region.binds]) hr).elim
                  obtain rfl : b2 = true := by
                    cases b2 with
                    | true => rfl
                    | false => exact (ready_in 2 rfl rfl (by simp [Region.binds]) hr).elim
                  obtain rfl : b3 = true := by
                    cases b3 with
                    | true => rfl
                    | false => exact (ready_in 3 rfl rfl (by simp [Region.binds]) hr).elim
                  obtain rfl : b4 = true := by
                    cases b4 with
                    | true => rfl
                    | false => exact (ready_in 4 rfl rfl (by simp [Region.binds]) hr).elim
                  obtain rfl : b5 = true := by
                    cases b5 with
                    | true => rfl
                    | false => exact (ready_in 5 rfl rfl (by simp [Region.binds]) hr).elim
                  obtain rfl : b6 = true := by
                    cases b6 with
                    | true => rfl
                    | false => exact (ready_in 6 rfl rfl (by simp [Region.binds]) hr).elim
                  obtain rfl : b7 = true := by
                    cases b7 with
                    | true => rfl
                    | false => exact (ready_in 7 rfl rfl (by simp [Region.binds]) hr).elim
                  obtain rfl : b8 = true := by
                    cases b8 with
                    | true => rfl
                    | false => exact (ready_in 8 rfl rfl (by simp [Region.binds]) hr).elim
                  obtain rfl : b9 = true := by
                    cases b9 with
                    | true => rfl
                    | false => exact (ready_in 9 rfl rfl (by simp [Region.binds]) hr).elim
                  obtain rfl : b10 = true := by
                    cases b10 with
                    | true => rfl
                    | false => exact (ready_in 10 rfl rfl (by simp [Region.binds]) hr).elim
                  obtain rfl : b11 = true := by
                    cases b11 with
                    | true => rfl
                    | false => exact (ready_in 11 rfl rfl (by simp [Region.binds]) hr).elim
                  obtain rfl : b12 = true := by
                    cases b12 with
                    | true => rfl
                    | false => exact (ready_in 12 rfl rfl (by simp [Region.binds]) hr).elim
                  obtain rfl : b13 = true := by
                    cases b13 with
                    | true => rfl
                    | false => exact (ready_in 13 rfl rfl (by simp [Region.binds]) hr).elim
                  obtain rfl : b14 = true := by
                    cases b14 with
                    | true => rfl
                    | false => exact (ready_in 14 rfl rfl (by simp [Region.binds]) hr).elim
                  obtain rfl : b15 = true := by
                    cases b15 with
                    | true => rfl
                    | false => exact (ready_in 15 rfl rfl (by simp [Region.binds]) hr).elim
                  have k0 := HT.h0 rfl
                  subst k0
                  have k1 := HT.h1 rfl
                  subst k1
                  have k2 := HT.h2 rfl
                  subst k2
                  have k3 := HT.h3 rfl
                  subst k3
                  have k4 := HT.h4 rfl
                  subst k4
                  have k5 := HT.h5 rfl
                  subst k5
                  have k6 := HT.h6 rfl
                  subst k6
                  have k7 := HT.h7 rfl
                  subst k7
                  have k8 := HT.h8 rfl
                  subst k8
                  have k9 := HT.h9 rfl
                  subst k9
                  have k10 := HT.h10 rfl
                  subst k10
                  have k11 := HT.h11 rfl
                  subst k11
                  have k12 := HT.h12 rfl
                  subst k12
                  have k13 := HT.h13 rfl
                  subst k13
                  have k14 := HT.h14 rfl
                  subst k14
                  have k15 := HT.h15 rfl
                  subst k15
                  obtain ⟨W12, hW12⟩ : ∃ W12, W12 = w' := ⟨_, rfl⟩
                  subst hW12
                  have hb := HT.bel
                  have HBX12 := Lib.hid (HBX11.out.below hb)
                  have HB12 : Hid (Below w.heap.size w W12) := Lib.hid (HB11.out.trans (hb.mono HB11.out.size))
                  have HM12 := Lib.hid (HM11.out.1.below HM11.out.2 hb)
                  have HP12 : Hid (RdR W12 w.heap.size A m p) := Lib.hid (HP11.out.below (hb.mono HB11.out.size))
                  have HQ12 : Hid (RdR W12 w.heap.size B n q) := Lib.hid (HQ11.out.below (hb.mono HB11.out.size))
                  have HB912 := Lib.hid (HB911.out.trans (hb.mono HB911.out.size))
                  clear HT hr hb HCP HCQ HMW HAW HLP8 HLQ8 HBX11 HBX10 HBX9 HB11 HB10 HB9 HM9 HM10 HM11 HP9 HP10 HP11 HQ9 HQ10 HQ11 HR29 HR39 HR210 HR310 HR211 HR311 HS9 HS10
                  obtain ⟨mn, hmn⟩ : ∃ mn, m * n = mn := ⟨_, rfl⟩
                  have hmnc : (m : Int) * (n : Int) = (mn : Int) := by rw [← hmn, Int.natCast_mul]
                  obtain ⟨sn, hsn⟩ : ∃ sn, m + n = sn := ⟨_, rfl⟩
                  have hsnc : (m : Int) + (n : Int) = (sn : Int) := by rw [← hsn, Int.natCast_add]
                  have HMN := Lib.hid hmn
                  have HSN := Lib.hid hsn
                  have HXF2 : Hid ((ex = 11 ∧ nx = 0 ∧ (decide (mn ≤ 8) && decide (mx ≤ 8)) = false) ∨ (ex = 0 ∧ nx = mn ∧ (decide (mn ≤ 8) && decide (mx ≤ 8)) = true ∧ RdR W6 W6.heap.size Ax nx (andR p q))) := Lib.hid (by
                    have hr : (rightR p && rightR q) = true := by rw [HRP.out, HRQ.out]; rfl
                    have h2 := HXF.out.2.1 hr
                    have h3 := HXF.out.2.2 hr
                    rw [← HMX.out, HLP.out, HLQ.out, hmn] at h2 h3
                    cases h : (decide (mn ≤ 8) && decide (mx ≤ 8)) with
                    | false => exact .inl ⟨(h2 h).1, (h2 h).2, rfl⟩
                    | true => exact .inr ⟨(h3 h).1, (h3 h).2.1, rfl, (h3 h).2.2⟩)
                  have HYF2 : Hid ((ey = 11 ∧ ny = 0 ∧ decide (sn ≤ 8) = false) ∨ (ey = 0 ∧ ny = sn ∧ decide (sn ≤ 8) = true ∧ RdR W8 W8.heap.size Ay ny (p ++ q))) := Lib.hid (by
                    have hr : (rightR p && rightR q) = true := by rw [HRP.out, HRQ.out]; rfl
                    have h2 := HYF.out.2.1 hr
                    have h3 := HYF.out.2.2 hr
                    rw [HLP.out, HLQ.out, hsn] at h2 h3
                    cases h : decide (sn ≤ 8) with
                    | false => exact .inl ⟨(h2 h).1, (h2 h).2, rfl⟩
                    | true => exact .inr ⟨(h3 h).1, (h3 h).2.1, rfl, (h3 h).2.2⟩)
                  rw [hmnc, hsnc]
                  clear hmn hsn hmnc hsnc HXF HYF
                  show _
                  go_upto_region 22 with fail
                  go_cut [162] (fun v162 w' => v162 = .bool false ∧ W12 = w')
                  case first =>
                    by_cases h1 : mn ≤ 8
                    · by_cases h2 : mx ≤ 8
                      · by_cases h3 : sn ≤ 8
                        · as_aux_lemma =>
                            have d1 : decide ((mn : Int) ≤ 8) = true := decide_eq_true (by omega)
                            have d2 : decide ((mx : Int) ≤ 8) = true := decide_eq_true (by omega)
                            have d3 : decide ((sn : Int) ≤ 8) = true := decide_eq_true (by omega)
                            have n1 : decide (mn ≤ 8) = true := decide_eq_true h1
                            have n2 : decide (mx ≤ 8) = true := decide_eq_true h2
                            have n3 : decide (sn ≤ 8) = true := decide_eq_true h3
                            have hx0 : (ex = 0) := by
                              rcases HXF2.out with ⟨e, _, hc⟩ | ⟨e, _, hc, _⟩
                              · rw [n1, n2] at hc; cases hc
                              · exact e
                            have hy0 : (ey = 0) := by
                              rcases HYF2.out with ⟨e, _, hc⟩ | ⟨e, _, hc, _⟩
                              · rw [n3] at hc; cases hc
                              · exact e
                            subst hx0 hy0
                            clear h1 h3 n1 n3 h2 n2
                            have cX := cell1 (HBX12.out.get (W6.heap.size) (.cells #[.slice Ax nx cx] 48) (by simp))
                            have cY := cell1 (HBX12.out.get (W8.heap.size) (.cells #[.slice Ay ny cy] 48) (by simp))
                            clear HXF2 HYF2 HMX HB12 HM12 HP12 HQ12 HBX12 HW0 HW3 HW5 HW7 HW9
                            go_wp2
                            go_meet
                            exact ⟨rfl, rfl⟩
                        · as_aux_lemma =>
                            have d1 : decide ((mn : Int) ≤ 8) = true := decide_eq_true (by omega)
                            have d2 : decide ((mx : Int) ≤ 8) = true := decide_eq_true (by omega)
                            have d3 : decide ((sn : Int) ≤ 8) = false := decide_eq_false (by omega)
                            have n1 : decide (mn ≤ 8) = true := decide_eq_true h1
                            have n2 : decide (mx ≤ 8) = true := decide_eq_true h2
                            have n3 : decide (sn ≤ 8) = false := decide_eq_false h3
                            have hx0 : (ex = 0) := by
                              rcases HXF2.out with ⟨e, _, hc⟩ | ⟨e, _, hc, _⟩
                              · rw [n1, n2] at hc; cases hc
                              · exact e
                            have hy0 : (ey = 11) := by
                              rcases HYF2.out with ⟨e, _, hc⟩ | ⟨e, _, hc, _⟩
                              · exact e
                              · rw [n3] at hc; cases hc
                            have hy1 : ny = 0 := by
                              rcases HYF2.out with ⟨_, e, _⟩ | ⟨e, _⟩
                              · exact e
                              · rw [hy0] at e; cases e
                            subst hx0 hy0 hy1
                            clear h1 h3 n1 n3 h2 n2
                            have cX := cell1 (HBX12.out.get (W6.heap.size) (.cells #[.slice Ax nx cx] 48) (by simp))
                            have cY := cell1 (HBX12.out.get (W8.heap.size) (.cells #[.slice Ay 0 cy] 48) (by simp))
                            clear HXF2 HYF2 HMX HB12 HM12 HP12 HQ12 HBX12 HW0 HW3 HW5 HW7 HW9
                            go_wp2
                            go_meet
                            exact ⟨rfl, rfl⟩
                      · by_cases h3 : sn ≤ 8
                        · as_aux_lemma =>
                            have d1 : decide ((mn : Int) ≤ 8) = true := decide_eq_true (by omega)
                            have d2 : decide ((mx : Int) ≤ 8) = false := decide_eq_false (by omega)
                            have d3 : decide ((sn : Int) ≤ 8) = true := decide_eq_true (by omega)
                            have n1 : decide (mn ≤ 8) = true := decide_eq_true h1
                            have n2 : decide (mx ≤ 8) = false := decide_eq_false h2
                            have n3 : decide (sn ≤ 8) = true := decide_eq_true h3
                            have hx0 : (ex = 11) := by
                              rcases HXF2.out with ⟨e, _, hc⟩ | ⟨e, _, hc, _⟩
                              · exact e
                              · rw [n1, n2] at hc; cases hc
                            have hy0 : (ey = 0) := by
                              rcases HYF2.out with ⟨e, _, hc⟩ | ⟨e, _, hc, _⟩
                              · rw [n3] at hc; cases hc
                              · exact e
                            have hx1 : nx = 0 := by
                              rcases HXF2.out with ⟨_, e, _⟩ | ⟨e, _⟩
                              · exact e
                              · rw [hx0] at e; cases e
                            subst hx0 hy0 hx1
                            clear h1 h3 n1 n3 h2 n2
                            have cX := cell1 (HBX12.out.get (W6.heap.size) (.cells #[.slice Ax 0 cx] 48) (by simp))
                            have cY := cell1 (HBX12.out.get (W8.heap.size) (.cells #[.slice Ay ny cy] 48) (by simp))
                            clear HXF2 HYF2 HMX HB12 HM12 HP12 HQ12 HBX12 HW0 HW3 HW5 HW7 HW9
                            go_wp2
                            go_meet
                            exact ⟨rfl, rfl⟩
                        · as_aux_lemma =>
                            have d1 : decide ((mn : Int) ≤ 8) = true := decide_eq_true (by omega)
                            have d2 : decide ((mx : Int) ≤ 8) = false := decide_eq_false (by omega)
                            have d3 : decide ((sn : Int) ≤ 8) = false := decide_eq_false (by omega)
                            have n1 : decide (mn ≤ 8) = true := decide_eq_true h1
                            have n2 : decide (mx ≤ 8) = false := decide_eq_false h2
                            have n3 : decide (sn ≤ 8) = false := decide_eq_false h3
                            have hx0 : (ex = 11) := by
                              rcases HXF2.out with ⟨e, _, hc⟩ | ⟨e, _, hc, _⟩
                              · exact e
                              · rw [n1, n2] at hc; cases hc
                            have hy0 : (ey = 11) := by
                              rcases HYF2.out with ⟨e, _, hc⟩ | ⟨e, _, hc, _⟩
                              · exact e
                              · rw [n3] at hc; cases hc
                            have hx1 : nx = 0 := by
                              rcases HXF2.out with ⟨_, e, _⟩ | ⟨e, _⟩
                              · exact e
                              · rw [hx0] at e; cases e
                            have hy1 : ny = 0 := by
                              rcases HYF2.out with ⟨_, e, _⟩ | ⟨e, _⟩
                              · exact e
                              · rw [hy0] at e; cases e
                            subst hx0 hy0 hx1 hy1
                            clear h1 h3 n1 n3 h2 n2
                            have cX := cell1 (HBX12.out.get (W6.heap.size) (.cells #[.slice Ax 0 cx] 48) (by simp))
                            have cY := cell1 (HBX12.out.get (W8.heap.size) (.cells #[.slice Ay 0 cy] 48) (by simp))
                            clear HXF2 HYF2 HMX HB12 HM12 HP12 HQ12 HBX12 HW0 HW3 HW5 HW7 HW9
                            go_wp2
                            go_meet
                            exact ⟨rfl, rfl⟩
                    · by_cases h3 : sn ≤ 8
                      · as_aux_lemma =>
                          have d1 : decide ((mn : Int) ≤ 8) = false := decide_eq_false (by omega)
                          have d3 : decide ((sn : Int) ≤ 8) = true := decide_eq_true (by omega)
                          have n1 : decide (mn ≤ 8) = false := decide_eq_false h1
                          have n3 : decide (sn ≤ 8) = true := decide_eq_true h3
                          have hx0 : (ex = 11) := by
                            rcases HXF2.out with ⟨e, _, hc⟩ | ⟨e, _, hc, _⟩
                            · exact e
                            · rw [n1] at hc; cases hc
                          have hy0 : (ey = 0) := by
                            rcases HYF2.out with ⟨e, _, hc⟩ | ⟨e, _, hc, _⟩
                            · rw [n3] at hc; cases hc
                            · exact e
                          have hx1 : nx = 0 := by
                            rcases HXF2.out with ⟨_, e, _⟩ | ⟨e, _⟩
                            · exact e
                            · rw [hx0] at e; cases e
                          subst hx0 hy0 hx1
                          clear h1 h3 n1 n3
                          have cX := cell1 (HBX12.out.get (W6.heap.size) (.cells #[.slice Ax 0 cx] 48) (by simp))
                          have cY := cell1 (HBX12.out.get (W8.heap.size) (.cells #[.slice Ay ny cy] 48) (by simp))
                          clear HXF2 HYF2 HMX HB12 HM12 HP12 HQ12 HBX12 HW0 HW3 HW5 HW7 HW9
                          go_wp2
                          go_meet
                          exact ⟨rfl, rfl⟩
                      · as_aux_lemma =>
                          have d1 : decide ((mn : Int) ≤ 8) = false := decide_eq_false (by omega)
                          have d3 : decide ((sn : Int) ≤ 8) = false := decide_eq_false (by omega)
                          have n1 : decide (mn ≤ 8) = false := decide_eq_false h1
                          have n3 : decide (sn ≤ 8) = false := decide_eq_false h3
                          have hx0 : (ex = 11) := by
                            rcases HXF2.out with ⟨e, _, hc⟩ | ⟨e, _, hc, _⟩
                            · exact e
                            · rw [n1] at hc; cases hc
                          have hy0 : (ey = 11) := by
                            rcases HYF2.out with ⟨e, _, hc⟩ | ⟨e, _, hc, _⟩
                            · exact e
                            · rw [n3] at hc; cases hc
                          have hx1 : nx = 0 := by
                            rcases HXF2.out with ⟨_, e, _⟩ | ⟨e, _⟩
                            · exact e
                            · rw [hx0] at e; cases e
                          have hy1 : ny = 0 := by
                            rcases HYF2.out with ⟨_, e, _⟩ | ⟨e, _⟩
                            · exact e
                            · rw [hy0] at e; cases e
                          subst hx0 hy0 hx1 hy1
                          clear h1 h3 n1 n3
                          have cX := cell1 (HBX12.out.get (W6.heap.size) (.cells #[.slice Ax 0 cx] 48) (by simp))
                          have cY := cell1 (HBX12.out.get (W8.heap.size) (.cells #[.slice Ay 0 cy] 48) (by simp))
                          clear HXF2 HYF2 HMX HB12 HM12 HP12 HQ12 HBX12 HW0 HW3 HW5 HW7 HW9
                          go_wp2
                          go_meet
                          exact ⟨rfl, rfl⟩
                  case rest =>
                    obtain ⟨rfl, hw⟩ := hcut
                    subst hw
                    go_upto_region 24 with fail
                    go_cut [185] (fun v185 w' => v185 = .bool false ∧ Below W12.heap.size W12 w')
                    case first =>
                      rcases HXF2.out with ⟨rfl, rfl, _⟩ | ⟨rfl, rfl, hc, hx⟩
                      · have mixed : Tryd.prog.follows Departure.mixedOrders = true := by kernel_rfl
                        go_region_o
                        go_wp2
                        go_meet
                        first | exact ⟨rfl, Below.refl _ _⟩ | exact ⟨rfl, (Below.refl _ W12).drew⟩
                      · clear HXF2 HYF2
                        have HCX := Lib.hid (cell1 (HBX12.out.get (W6.heap.size) (.cells #[.slice Ax nx cx] 48) (by simp)))
                        have HCY := Lib.hid (cell1 (HBX12.out.get (W8.heap.size) (.cells #[.slice Ay ny cy] 48) (by simp)))
                        have HCA := Lib.hid (cell1 (HBX12.out.get (w.heap.size) (.cells #[.slice A m cp] 48) (by simp)))
                        have HCB := Lib.hid (cell1 (HBX12.out.get (w.heap.size + 1) (.cells #[.slice B n cq] 48) (by simp)))
                        have HCV := Lib.hid (HBX12.out.get (w.heap.size + 1 + 1) (verC a c d s) (by simp))
                        have HCC : Hid (W6.heap.size < W12.heap.size ∧ W8.heap.size < W12.heap.size ∧ w.heap.size < W12.heap.size ∧ w.heap.size + 1 < W12.heap.size ∧ w.heap.size + 1 + 1 < W12.heap.size) := Lib.hid ⟨(HBX12.out (W6.heap.size, (.cells #[.slice Ax nx cx] 48)) (by simp)).1, (HBX12.out (W8.heap.size, (.cells #[.slice Ay ny cy] 48)) (by simp)).1, (HBX12.out (w.heap.size, (.cells #[.slice A m cp] 48)) (by simp)).1, (HBX12.out (w.heap.size + 1, (.cells #[.slice B n cq] 48)) (by simp)).1, (HBX12.out (w.heap.size + 1 + 1, (verC a c d s)) (by simp)).1⟩
                        have HSZW6 : Hid (W6.heap.size ≤ W12.heap.size) := Lib.hid (Nat.le_of_lt HCC.out.1)
                        have HSZW8 : Hid (W8.heap.size ≤ W12.heap.size) := Lib.hid (Nat.le_of_lt HCC.out.2.1)
                        have HSZw : Hid (w.heap.size ≤ W12.heap.size) := Lib.hid (Nat.le_of_lt HCC.out.2.2.1)
                        have HMM := HM12
                        have HPA := HP12
                        have HPB := HQ12
                        have HFA := Lib.hid HFP.out.2.1
                        have HFB := Lib.hid HFQ.out.2.1
                        have HRX : Hid (RdR W12 W6.heap.size Ax nx (andR p q)) := Lib.hid (hx.below (HB69.out.trans (HB912.out.mono HB69.out.size)))
                        have hc1 : (decide (nx ≤ 8)) = true := (Bool.and_eq_true _ _ ▸ hc).1
                        have hc2 : andFit p q = true := by rw [← HMX.out]; exact (Bool.and_eq_true _ _ ▸ hc).2
                        have HFX := Lib.hid (fits_and HFA.out HFB.out hc2)
                        have HLEN : Hid (nx ≤ 8 ∧ m ≤ 20 ∧ n ≤ 20) := Lib.hid ⟨of_decide_eq_true hc1, HM20.out⟩
                        have HHAS := Lib.hid (andR_has HRP.out HRQ.out (by rw [HLP.out, HLQ.out, HMN.out]; exact HLEN.out.1) hc2 ⟨a, c, d, bs s⟩)
                        clear hc1 hc2 hc hx
                        cases hqa : hasR p ⟨a, c, d, bs s⟩ with
                        | true =>
                          as_aux_lemma =>
                            have HVA := Lib.hid hqa
                            obtain ⟨qx, hqb⟩ : ∃ qx, hasR q ⟨a, c, d, bs s⟩ = qx := ⟨_, rfl⟩
                            have HVB := Lib.hid hqb
                            have HVX : Hid (hasR (andR p q) ⟨a, c, d, bs s⟩ = qx) := Lib.hid (by rw [HHAS.out, hqa, hqb]; exact Bool.true_and _)
                            have HQQX : Hid ((qx != qx) = false) := Lib.hid (by cases qx <;> rfl)
                            clear hqa hqb HHAS
                            refine wp_region_inv (by kernel_rfl) (I := LbtJ W12 W6.heap.size nx (.slice Ax nx cx) (.agg #[.slice Ax nx cx]) (verV a c d s) (.agg #[.slice A m cp]) (.agg #[.slice B n cq]) qx _ _ _ _ _ _ _ _ _ _ _ _ _ _ _ _ _ _ _ _ _ _ _ _ _ _ _ _ _ _ _ _ _ _ _ _ _ _ _ _ _ _ _ _ _ _ _ _ _ _ _ _ _ _ _ _ _ _ _ _ _ _ _ _ _ _ _ _ _ _ _ _ _ _ _ _ _ _ _ _ _ _ _ _ _ _ _ _ _ _ _ _ _ _ _ _ _ _ _ _ _ _ _ _ _ _ _ _ _ _ _ _ _ _ _ _ _ _ _ _ _ _ _ _ _ _ _ _ _ _ _ _ _ _ _ _ _ _ _ _ _ _ _ _ _ _ _ _ _ _ _ _ _ _ _ _ _ _ _ _ _ _ _ _ _ _ _ _ _ _ _ _ _ _ _ _ _ _ _ _ _ _ _ _ _ _) (.mk false false false false false false false false false false false false false false false false false false false false false false false _ _ _ _ _ _ _ _ _ _ _ _ _ _ _ _ _ _ _ _ _ _ _ _ ⟨(Below.refl _ W12).drew, nofun, nofun, nofun, nofun, nofun, nofun, nofun, nofun, nofun, nofun, nofun, nofun, nofun, nofun, nofun, nofun, nofun, nofun, nofun, nofun, nofun, nofun, nofun⟩) ?step ?fin
                            case step =>
                              rintro lq a' w' ix ⟨b0, b1, b2, b3, b4, b5, b6, b7, b8, b9, b10, b11, b12, b13, b14, b15, b16, b17, b18, b19, b20, b21, b22, v163, v164, v165, v166, v167, v168, v169, v170, v171, v172, v173, v174, v175, v176, v177, v178, v179, v180, v181, v182, v183, v184, v185, _, HT⟩ hi
                              obtain ⟨hi_, hib⟩ := ready_lt hi
                              have HTH := Lib.hid HT
                              match ix, hi_, hi, hib with
                              | 0, _, hi, hib =>
                                clear HT
                                refine wpOp_one rfl rfl (fun K hK => ?_)
                                go_simp
                                exact hK.out _ _ (.mk true b1 b2 b3 b4 b5 b6 b7 b8 b9 b10 b11 b12 b13 b14 b15 b16 b17 b18 b19 b20 b21 b22 _ _ _ _ _ _ _ _ _ _ _ _ _ _ _ _ _ _ _ _ _ _ _ _ { HTH.out with h0 := fun _ => rfl })
                              | 1, _, hi, hib =>
                                have d0 : b0 = true := ready_dep hi rfl 0 (by kernel_rfl)
                                have hd0 := HT.h0 d0
                                subst hd0
                                clear HT
                                refine wpOp_one rfl rfl (fun K hK => ?_)
                                go_simp
                                exact hK.out _ _ (.mk b0 true b2 b3 b4 b5 b6 b7 b8 b9 b10 b11 b12 b13 b14 b15 b16 b17 b18 b19 b20 b21 b22 _ _ _ _ _ _ _ _ _ _ _ _ _ _ _ _ _ _ _ _ _ _ _ _ { HTH.out with h1 := fun _ => rfl })
                              | 2, _, hi, hib =>
                                have d1 : b1 = true := ready_dep hi rfl 1 (by kernel_rfl)
                                have hd1 := HT.h1 d1
                                subst hd1
                                clear HT
                                refine wpOp_one rfl rfl (fun K hK => ?_)
                                go_simp
                                exact hK.out _ _ (.mk b0 b1 true b3 b4 b5 b6 b7 b8 b9 b10 b11 b12 b13 b14 b15 b16 b17 b18 b19 b20 b21 b22 _ _ _ _ _ _ _ _ _ _ _ _ _ _ _ _ _ _ _ _ _ _ _ _ { HTH.out with h2 := fun _ => rfl })
                              | 3, _, hi, hib =>
                                have e2 : b2 = true := ready_dep hi rfl 2 (by kernel_rfl)
                                have he2 := HT.h2 e2
                                subst he2
                                clear HT
                                refine wpOp_want rfl 2 true rfl rfl (fun K hK => ?_)
                                go_simp
                                exact hK.out _ _ (.mk b0 b1 b2 true b4 b5 b6 b7 b8 b9 b10 b11 b12 b13 b14 b15 b16 b17 b18 b19 b20 b21 b22 _ _ _ _ _ _ _ _ _ _ _ _ _ _ _ _ _ _ _ _ _ _ _ _ { HTH.out with h3 := fun _ => rfl })
                              | 4, _, hi, hib =>
                                have e2 : b2 = true := ready_dep hi rfl 2 (by kernel_rfl)
                                have he2 := HT.h2 e2
                                subst he2
                                have d3 : b3 = true := ready_dep hi rfl 3 (by kernel_rfl)
                                have hd3 := HT.h3 d3
                                subst hd3
                                have cx := (HT.bel.cell (p := ⟨W6.heap.size, 0, none⟩) HCC.out.1).trans HCX.out
                                clear HT
                                refine wpOp_want rfl 2 true rfl rfl (fun K hK => ?_)
                                go_simp
                                exact hK.out _ _ (.mk b0 b1 b2 b3 true b5 b6 b7 b8 b9 b10 b11 b12 b13 b14 b15 b16 b17 b18 b19 b20 b21 b22 _ _ _ _ _ _ _ _ _ _ _ _ _ _ _ _ _ _ _ _ _ _ _ _ { HTH.out with h4 := fun _ => rfl })
                              | 5, _, hi, hib =>
                                have e2 : b2 = true := ready_dep hi rfl 2 (by kernel_rfl)
                                have he2 := HT.h2 e2
                                subst he2
                                have d4 : b4 = true := ready_dep hi rfl 4 (by kernel_rfl)
                                have hd4 := HT.h4 d4
                                subst hd4
                                clear HT
                                refine wpOp_want rfl 2 true rfl rfl (fun K hK => ?_)
                                go_simp
                                exact hK.out _ _ (.mk b0 b1 b2 b3 b4 true b6 b7 b8 b9 b10 b11 b12 b13 b14 b15 b16 b17 b18 b19 b20 b21 b22 _ _ _ _ _ _ _ _ _ _ _ _ _ _ _ _ _ _ _ _ _ _ _ _ { HTH.out with h5 := fun _ => rfl })
                              | 6, _, hi, hib =>
                                have e2 : b2 = true := ready_dep hi rfl 2 (by kernel_rfl)
                                have he2 := HT.h2 e2
                                subst he2
                                clear HT
                                refine wpOp_want rfl 2 true rfl rfl (fun K hK => ?_)
                                go_simp
                                exact hK.out _ _ (.mk b0 b1 b2 b3 b4 b5 true b7 b8 b9 b10 b11 b12 b13 b14 b15 b16 b17 b18 b19 b20 b21 b22 _ _ _ _ _ _ _ _ _ _ _ _ _ _ _ _ _ _ _ _ _ _ _ _ { HTH.out with h6 := fun _ => rfl })
                              | 7, _, hi, hib =>
                                have e2 : b2 = true := ready_dep hi rfl 2 (by kernel_rfl)
                                have he2 := HT.h2 e2
                                subst he2
                                have d5 : b5 = true := ready_dep hi rfl 5 (by kernel_rfl)
                                have hd5 := HT.h5 d5
                                subst hd5
                                have d6 : b6 = true := ready_dep hi rfl 6 (by kernel_rfl)
                                have hd6 := HT.h6 d6
                                subst hd6
                                clear HT
                                refine wpOp_want rfl 2 true rfl rfl (fun K hK => ?_)
                                go_simp
                                exact hK.out _ _ (.mk b0 b1 b2 b3 b4 b5 b6 true b8 b9 b10 b11 b12 b13 b14 b15 b16 b17 b18 b19 b20 b21 b22 _ _ _ _ _ _ _ _ _ _ _ _ _ _ _ _ _ _ _ _ _ _ _ _ { HTH.out with h7 := fun _ => rfl })
                              | 8, _, hi, hib =>
                                have e2 : b2 = true := ready_dep hi rfl 2 (by kernel_rfl)
                                have he2 := HT.h2 e2
                                subst he2
                                have d7 : b7 = true := ready_dep hi rfl 7 (by kernel_rfl)
                                have hd7 := HT.h7 d7
                                subst hd7
                                clear HT
                                refine wpOp_want rfl 2 true rfl rfl (fun K hK => ?_)
                                go_simp
                                exact hK.out _ _ (.mk b0 b1 b2 b3 b4 b5 b6 b7 true b9 b10 b11 b12 b13 b14 b15 b16 b17 b18 b19 b20 b21 b22 _ _ _ _ _ _ _ _ _ _ _ _ _ _ _ _ _ _ _ _ _ _ _ _ { HTH.out with h8 := fun _ => rfl })
                              | 9, _, hi, hib =>
                                have e8 : b8 = true := ready_dep hi rfl 8 (by kernel_rfl)
                                have he8 := HT.h8 e8
                                subst he8
                                have cx := (HT.bel.cell (p := ⟨W6.heap.size, 0, none⟩) HCC.out.1).trans HCX.out
                                clear HT
                                refine wpOp_want rfl 8 false rfl rfl (fun K hK => ?_)
                                go_simp
                                exact hK.out _ _ (.mk b0 b1 b2 b3 b4 b5 b6 b7 b8 true b10 b11 b12 b13 b14 b15 b16 b17 b18 b19 b20 b21 b22 _ _ _ _ _ _ _ _ _ _ _ _ _ _ _ _ _ _ _ _ _ _ _ _ { HTH.out with h9 := fun _ => rfl })
                              | 10, _, hi, hib =>
                                have e8 : b8 = true := ready_dep hi rfl 8 (by kernel_rfl)
                                have he8 := HT.h8 e8
                                subst he8
                                obtain ⟨y0, y1, y2, y3⟩ := cells4 ((HT.bel.block _ HCC.out.2.2.2.2).trans HCV.out)
                                clear HT
                                refine wpOp_want rfl 8 false rfl rfl (fun K hK => ?_)
                                go_simp
                                exact hK.out _ _ (.mk b0 b1 b2 b3 b4 b5 b6 b7 b8 b9 true b11 b12 b13 b14 b15 b16 b17 b18 b19 b20 b21 b22 _ _ _ _ _ _ _ _ _ _ _ _ _ _ _ _ _ _ _ _ _ _ _ _ { HTH.out with h10 := fun _ => rfl })
                              | 11, _, hi, hib =>
                                have e8 : b8 = true := ready_dep hi rfl 8 (by kernel_rfl)
                                have he8 := HT.h8 e8
                                subst he8
                                have d9 : b9 = true := ready_dep hi rfl 9 (by kernel_rfl)
                                have hd9 := HT.h9 d9
                                subst hd9
                                have d10 : b10 = true := ready_dep hi rfl 10 (by kernel_rfl)
                                have hd10 := HT.h10 d10
                                subst hd10
                                have hM := HMM.out.1.below HMM.out.2 HT.bel
                                have HC := Lib.hid (RgHas_any Ax nx cx (andR p q) a c d s w' W6.heap.size (HRX.out.below (HT.bel.mono HSZW6.out)) (Nat.le_trans HSZW6.out HT.bel.size) HFX.out (by have := HSS.out; omega) (by have := HLEN.out; omega) hM.1 hM.2)
                                rw [HVX.out] at HC
                                clear hM
                                clear HT
                                refine wpOp_want rfl 8 false rfl rfl (fun K hK => ?_)
                                go_simp
                                refine HC.out.mono ?_
                                rintro e w2 ⟨rfl, hb⟩
                                exact hK.out _ _ (.mk b0 b1 b2 b3 b4 b5 b6 b7 b8 b9 b10 true b12 b13 b14 b15 b16 b17 b18 b19 b20 b21 b22 _ _ _ _ _ _ _ _ _ _ _ _ _ _ _ _ _ _ _ _ _ _ _ _ { HTH.out with bel := HTH.out.bel.trans (hb.mono HTH.out.bel.size), h11 := fun _ => rfl })
                              | 12, _, hi, hib =>
                                have e8 : b8 = true := ready_dep hi rfl 8 (by kernel_rfl)
                                have he8 := HT.h8 e8
                                subst he8
                                have ca := (HT.bel.cell (p := ⟨w.heap.size, 0, none⟩) HCC.out.2.2.1).trans HCA.out
                                clear HT
                                refine wpOp_want rfl 8 false rfl rfl (fun K hK => ?_)
                                go_simp
                                exact hK.out _ _ (.mk b0 b1 b2 b3 b4 b5 b6 b7 b8 b9 b10 b11 true b13 b14 b15 b16 b17 b18 b19 b20 b21 b22 _ _ _ _ _ _ _ _ _ _ _ _ _ _ _ _ _ _ _ _ _ _ _ _ { HTH.out with h12 := fun _ => rfl })
                              | 13, _, hi, hib =>
                                have e8 : b8 = true := ready_dep hi rfl 8 (by kernel_rfl)
                                have he8 := HT.h8 e8
                                subst he8
                                obtain ⟨y0, y1, y2, y3⟩ := cells4 ((HT.bel.block _ HCC.out.2.2.2.2).trans HCV.out)
                                clear HT
                                refine wpOp_want rfl 8 false rfl rfl (fun K hK => ?_)
                                go_simp
                                exact hK.out _ _ (.mk b0 b1 b2 b3 b4 b5 b6 b7 b8 b9 b10 b11 b12 true b14 b15 b16 b17 b18 b19 b20 b21 b22 _ _ _ _ _ _ _ _ _ _ _ _ _ _ _ _ _ _ _ _ _ _ _ _ { HTH.out with h13 := fun _ => rfl })
                              | 14, _, hi, hib =>
                                have e8 : b8 = true := ready_dep hi rfl 8 (by kernel_rfl)
                                have he8 := HT.h8 e8
                                subst he8
                                have d12 : b12 = true := ready_dep hi rfl 12 (by kernel_rfl)
                                have hd12 := HT.h12 d12
                                subst hd12
                                have d13 : b13 = true := ready_dep hi rfl 13 (by kernel_rfl)
                                have hd13 := HT.h13 d13
                                subst hd13
                                have hM := HMM.out.1.below HMM.out.2 HT.bel
                                have HC := Lib.hid (RgHas_any A m cp p a c d s w' w.heap.size (HPA.out.below (HT.bel.mono HSZw.out)) (Nat.le_trans HSZw.out HT.bel.size) HFA.out (by have := HSS.out; omega) (by have := HLEN.out; omega) hM.1 hM.2)
                                rw [HVA.out] at HC
                                clear hM
                                clear HT
                                refine wpOp_want rfl 8 false rfl rfl (fun K hK => ?_)
                                go_simp
                                refine HC.out.mono ?_
                                rintro e w2 ⟨rfl, hb⟩
                                exact hK.out _ _ (.mk b0 b1 b2 b3 b4 b5 b6 b7 b8 b9 b10 b11 b12 b13 true b15 b16 b17 b18 b19 b20 b21 b22 _ _ _ _ _ _ _ _ _ _ _ _ _ _ _ _ _ _ _ _ _ _ _ _ { HTH.out with bel := HTH.out.bel.trans (hb.mono HTH.out.bel.size), h14 := fun _ => rfl })
                              | 15, _, hi, hib =>
                                have e8 : b8 = true := ready_dep hi rfl 8 (by kernel_rfl)
                                have he8 := HT.h8 e8
                                subst he8
                                have d14 : b14 = true := ready_dep hi rfl 14 (by kernel_rfl)
                                have hd14 := HT.h14 d14
                                subst hd14
                                clear HT
                                refine wpOp_want rfl 8 false rfl rfl (fun K hK => ?_)
                                go_simp
                                exact hK.out _ _ (.mk b0 b1 b2 b3 b4 b5 b6 b7 b8 b9 b10 b11 b12 b13 b14 true b16 b17 b18 b19 b20 b21 b22 _ _ _ _ _ _ _ _ _ _ _ _ _ _ _ _ _ _ _ _ _ _ _ _ { HTH.out with h15 := fun _ => rfl })
                              | 16, _, hi, hib =>
                                have e15 : b15 = true := ready_dep hi rfl 15 (by kernel_rfl)
                                have he15 := HT.h15 e15
                                subst he15
                                have cb := (HT.bel.cell (p := ⟨w.heap.size + 1, 0, none⟩) HCC.out.2.2.2.1).trans HCB.out
                                clear HT
                                refine wpOp_want rfl 15 true rfl rfl (fun K hK => ?_)
                                go_simp
                                exact hK.out _ _ (.mk b0 b1 b2 b3 b4 b5 b6 b7 b8 b9 b10 b11 b12 b13 b14 b15 true b17 b18 b19 b20 b21 b22 _ _ _ _ _ _ _ _ _ _ _ _ _ _ _ _ _ _ _ _ _ _ _ _ { HTH.out with h16 := fun _ => rfl })
                              | 17, _, hi, hib =>
                                have e15 : b15 = true := ready_dep hi rfl 15 (by kernel_rfl)
                                have he15 := HT.h15 e15
                                subst he15
                                obtain ⟨y0, y1, y2, y3⟩ := cells4 ((HT.bel.block _ HCC.out.2.2.2.2).trans HCV.out)
                                clear HT
                                refine wpOp_want rfl 15 true rfl rfl (fun K hK => ?_)
                                go_simp
                                exact hK.out _ _ (.mk b0 b1 b2 b3 b4 b5 b6 b7 b8 b9 b10 b11 b12 b13 b14 b15 b16 true b18 b19 b20 b21 b22 _ _ _ _ _ _ _ _ _ _ _ _ _ _ _ _ _ _ _ _ _ _ _ _ { HTH.out with h17 := fun _ => rfl })
                              | 18, _, hi, hib =>
                                have e15 : b15 = true := ready_dep hi rfl 15 (by kernel_rfl)
                                have he15 := HT.h15 e15
                                subst he15
                                have d16 : b16 = true := ready_dep hi rfl 16 (by kernel_rfl)
                                have hd16 := HT.h16 d16
                                subst hd16
                                have d17 : b17 = true := ready_dep hi rfl 17 (by kernel_rfl)
                                have hd17 := HT.h17 d17
                                subst hd17
                                have hM := HMM.out.1.below HMM.out.2 HT.bel
                                have HC := Lib.hid (RgHas_any B n cq q a c d s w' w.heap.size (HPB.out.below (HT.bel.mono HSZw.out)) (Nat.le_trans HSZw.out HT.bel.size) HFB.out (by have := HSS.out; omega) (by have := HLEN.out; omega) hM.1 hM.2)
                                rw [HVB.out] at HC
                                clear hM
                                clear HT
                                refine wpOp_want rfl 15 true rfl rfl (fun K hK => ?_)
                                go_simp
                                refine HC.out.mono ?_
                                rintro e w2 ⟨rfl, hb⟩
                                exact hK.out _ _ (.mk b0 b1 b2 b3 b4 b5 b6 b7 b8 b9 b10 b11 b12 b13 b14 b15 b16 b17 true b19 b20 b21 b22 _ _ _ _ _ _ _ _ _ _ _ _ _ _ _ _ _ _ _ _ _ _ _ _ { HTH.out with bel := HTH.out.bel.trans (hb.mono HTH.out.bel.size), h18 := fun _ => rfl })
                              | 19, _, hi, hib =>
                                have e8 : b8 = true := ready_dep hi rfl 8 (by kernel_rfl)
                                have he8 := HT.h8 e8
                                subst he8
                                have d15 : b15 = true := ready_dep hi rfl 15 (by kernel_rfl)
                                have hd15 := HT.h15 d15
                                subst hd15
                                have d18 : b18 = true := ready_dep hi rfl 18 (by kernel_rfl)
                                have hd18 := HT.h18 d18
                                subst hd18
                                clear HT
                                refine wpOp_want rfl 8 false rfl rfl (fun K hK => ?_)
                                go_simp
                                exact hK.out _ _ (.mk b0 b1 b2 b3 b4 b5 b6 b7 b8 b9 b10 b11 b12 b13 b14 b15 b16 b17 b18 true b20 b21 b22 _ _ _ _ _ _ _ _ _ _ _ _ _ _ _ _ _ _ _ _ _ _ _ _ { HTH.out with h19 := fun _ => rfl })
                              | 20, _, hi, hib =>
                                have e8 : b8 = true := ready_dep hi rfl 8 (by kernel_rfl)
                                have he8 := HT.h8 e8
                                subst he8
                                have d11 : b11 = true := ready_dep hi rfl 11 (by kernel_rfl)
                                have hd11 := HT.h11 d11
                                subst hd11
                                have d19 : b19 = true := ready_dep hi rfl 19 (by kernel_rfl)
                                have hd19 := HT.h19 d19
                                subst hd19
                                have hqq := HQQX.out
                                clear HT
                                refine wpOp_want rfl 8 false rfl rfl (fun K hK => ?_)
                                go_simp
                                exact hK.out _ _ (.mk b0 b1 b2 b3 b4 b5 b6 b7 b8 b9 b10 b11 b12 b13 b14 b15 b16 b17 b18 b19 true b21 b22 _ _ _ _ _ _ _ _ _ _ _ _ _ _ _ _ _ _ _ _ _ _ _ _ { HTH.out with h20 := fun _ => rfl })
                              | 21, _, hi, hib =>
                                have e2 : b2 = true := ready_dep hi rfl 2 (by kernel_rfl)
                                have he2 := HT.h2 e2
                                subst he2
                                have d8 : b8 = true := ready_dep hi rfl 8 (by kernel_rfl)
                                have hd8 := HT.h8 d8
                                subst hd8
                                have d20 : b20 = true := ready_dep hi rfl 20 (by kernel_rfl)
                                have hd20 := HT.h20 d20
                                subst hd20
                                clear HT
                                refine wpOp_want rfl 2 true rfl rfl (fun K hK => ?_)
                                go_simp
                                exact hK.out _ _ (.mk b0 b1 b2 b3 b4 b5 b6 b7 b8 b9 b10 b11 b12 b13 b14 b15 b16 b17 b18 b19 b20 true b22 _ _ _ _ _ _ _ _ _ _ _ _ _ _ _ _ _ _ _ _ _ _ _ _ { HTH.out with h21 := fun _ => rfl })
                              | 22, _, hi, hib =>
                                have d2 : b2 = true := ready_dep hi rfl 2 (by kernel_rfl)
                                have hd2 := HT.h2 d2
                                subst hd2
                                have d21 : b21 = true := ready_dep hi rfl 21 (by kernel_rfl)
                                have hd21 := HT.h21 d21
                                subst hd21
                                clear HT
                                refine wpOp_one rfl rfl (fun K hK => ?_)
                                go_simp
                                exact hK.out _ _ (.mk b0 b1 b2 b3 b4 b5 b6 b7 b8 b9 b10 b11 b12 b13 b14 b15 b16 b17 b18 b19 b20 b21 true _ _ _ _ _ _ _ _ _ _ _ _ _ _ _ _ _ _ _ _ _ _ _ _ { HTH.out with h22 := fun _ => rfl })
                            case fin =>
                              rintro lq a' w' ⟨b0, b1, b2, b3, b4, b5, b6, b7, b8, b9, b10, b11, b12, b13, b14, b15, b16, b17, b18, b19, b20, b21, b22, v163, v164, v165, v166, v167, v168, v169, v170, v171, v172, v173, v174, v175, v176, v177, v178, v179, v180, v181, v182, v183, v184, v185, _, HT⟩ hr
                              obtain rfl : b0 = true := by
                                cases b0 with
                                | true => rfl
                                | false => exact (ready_in 0 rfl rfl (by simp [Region.binds]) hr).elim
                              obtain rfl : b1 = true := by
                                cases b1 with
                                | true => rfl
                                | false => exact (ready_in 1 rfl rfl (by simp [Region.binds]) hr).elim
                              obtain rfl : b2 = true := by
                                cases b2 with
                                | true => rfl
                                | false => exact (ready_in 2 rfl rfl (by simp [Region.binds]) hr).elim
                              obtain rfl : b3 = true := by
                                cases b3 with
                                | true => rfl
                                | false => exact (ready_in 3 rfl rfl (by simp [Region.binds]) hr).elim
                              obtain rfl : b4 = true := by
                                cases b4 with
                                | true => rfl
                                | false => exact (ready_in 4 rfl rfl (by simp [Region.binds]) hr).elim
                              obtain rfl : b5 = true := by
                                cases b5 with
                                | true => rfl
                                | false => exact (ready_in 5 rfl rfl (by simp [Region.binds]) hr).elim
                              obtain rfl : b6 = true := by
                                cases b6 with
                                | true => rfl
                                | false => exact (ready_in 6 rfl rfl (by simp [Region.binds]) hr).elim
                              obtain rfl : b7 = true := by
                                cases b7 with
                                | true => rfl
                                | false => exact (ready_in 7 rfl rfl (by simp [Region.binds]) hr).elim
                              obtain rfl : b8 = true := by
                                cases b8 with
                                | true => rfl
                                | false => exact (ready_in 8 rfl rfl (by simp [Region.binds]) hr).elim
                              obtain rfl : b9 = true := by
                                cases b9 with
                                | true => rfl
                                | false => exact (ready_in 9 rfl rfl (by simp [Region.binds]) hr).elim
                              obtain rfl : b10 = true := by
                                cases b10 with
                                | true => rfl
                                | false => exact (ready_in 10 rfl rfl (by simp [Region.binds]) hr).elim
                              obtain rfl : b11 = true := by
                                cases b11 with
                                | true => rfl
                                | false => exact (ready_in 11 rfl rfl (by simp [Region.binds]) hr).elim
                              obtain rfl : b12 = true := by
                                cases b12 with
                                | true => rfl
                                | false => exact (ready_in 12 rfl rfl (by simp [Region.binds]) hr).elim
                              obtain rfl : b13 = true := by
                                cases b13 with
                                | true => rfl
                                | false => exact (ready_in 13 rfl rfl (by simp [Region.binds]) hr).elim
                              obtain rfl : b14 = true := by
                                cases b14 with
                                | true => rfl
                                | false => exact (ready_in 14 rfl rfl (by simp [Region.binds]) hr).elim
                              obtain rfl : b15 = true := by
                                cases b15 with
                                | true => rfl
                                | false => exact (ready_in 15 rfl rfl (by simp [Region.binds]) hr).elim
                              obtain rfl : b16 = true := by
                                cases b16 with
                                | true => rfl
                                | false => exact (ready_in 16 rfl rfl (by simp [Region.binds]) hr).elim
                              obtain rfl : b17 = true := by
                                cases b17 with
                                | true => rfl
                                | false => exact (ready_in 17 rfl rfl (by simp [Region.binds]) hr).elim
                              obtain rfl : b18 = true := by
                                cases b18 with
                                | true => rfl
                                | false => exact (ready_in 18 rfl rfl (by simp [Region.binds]) hr).elim
                              obtain rfl : b19 = true := by
                                cases b19 with
                                | true => rfl
                                | false => exact (ready_in 19 rfl rfl (by simp [Region.binds]) hr).elim
                              obtain rfl : b20 = true := by
                                cases b20 with
                                | true => rfl
                                | false => exact (ready_in 20 rfl rfl (by simp [Region.binds]) hr).elim
                              obtain rfl : b21 = true := by
                                cases b21 with
                                | true => rfl
                                | false => exact (ready_in 21 rfl rfl (by simp [Region.binds]) hr).elim
                              obtain rfl : b22 = true := by
                                cases b22 with
                                | true => rfl
                                | false => exact (ready_in 22 rfl rfl (by simp [Region.binds]) hr).elim
                              have k0 := HT.h0 rfl
                              subst k0
                              have k1 := HT.h1 rfl
                              subst k1
                              have k2 := HT.h2 rfl
                              subst k2
                              have k3 := HT.h3 rfl
                              subst k3
                              have k4 := HT.h4 rfl
                              subst k4
                              have k5 := HT.h5 rfl
                              subst k5
                              have k6 := HT.h6 rfl
                              subst k6
                              have k7 := HT.h7 rfl
                              subst k7
                              have k8 := HT.h8 rfl
                              subst k8
                              have k9 := HT.h9 rfl
                              subst k9
                              have k10 := HT.h10 rfl
                              subst k10
                              have k11 := HT.h11 rfl
                              subst k11
                              have k12 := HT.h12 rfl
                              subst k12
                              have k13 := HT.h13 rfl
                              subst k13
                              have k14 := HT.h14 rfl
                              subst k14
                              have k15 := HT.h15 rfl
                              subst k15
                              have k16 := HT.h16 rfl
                              subst k16
                              have k17 := HT.h17 rfl
                              subst k17
                              have k18 := HT.h18 rfl
                              subst k18
                              have k19 := HT.h19 rfl
                              subst k19
                              have k20 := HT.h20 rfl
                              subst k20
                              have k21 := HT.h21 rfl
                              subst k21
                              have k22 := HT.h22 rfl
                              subst k22
                              have HF := HT.bel
                              clear HT hr
                              show _
                              go_wp2_with fail
                              go_meet
                              exact ⟨rfl, HF⟩
                        | false =>
                          as_aux_lemma =>
                            have HVA := Lib.hid hqa
                            have HVX : Hid (hasR (andR p q) ⟨a, c, d, bs s⟩ = false) := Lib.hid (by rw [HHAS.out, hqa]; exact Bool.false_and _)
                            clear hqa HHAS
                            refine wp_region_inv (by kernel_rfl) (I := LbfJ W12 W6.heap.size nx (.slice Ax nx cx) (.agg #[.slice Ax nx cx]) (verV a c d s) (.agg #[.slice A m cp]) (.agg #[.slice B n cq]) false _ _ _ _ _ _ _ _ _ _ _ _ _ _ _ _ _ _ _ _ _ _ _ _ _ _ _ _ _ _ _ _ _ _ _ _ _ _ _ _ _ _ _ _ _ _ _ _ _ _ _ _ _ _ _ _ _ _ _ _ _ _ _ _ _ _ _ _ _ _ _ _ _ _ _ _ _ _ _ _ _ _ _ _ _ _ _ _ _ _ _ _ _ _ _ _ _ _ _ _ _ _ _ _ _ _ _ _ _ _ _ _ _ _ _ _ _ _ _ _ _ _ _ _ _ _ _ _ _ _ _ _ _ _ _ _ _ _ _ _ _ _ _ _ _ _ _ _ _ _ _ _ _ _ _ _ _ _ _ _ _ _ _ _ _ _ _ _ _ _ _ _ _ _ _ _ _ _ _ _ _ _ _ _ _ _) (.mk false false false false false false false false false false false false false false false false false false false false false false false _ _ _ _ _ _ _ _ _ _ _ _ _ _ _ _ _ _ _ _ _ _ _ _ ⟨(Below.refl _ W12).drew, nofun, nofun, nofun, nofun, nofun, nofun, nofun, nofun, nofun, nofun, nofun, nofun, nofun, nofun, nofun, nofun, nofun, nofun, nofun, nofun, nofun, nofun, nofun⟩) ?step ?fin
                            case step =>
                              rintro lq a' w' ix ⟨b0, b1, b2, b3, b4, b5, b6, b7, b8, b9, b10, b11, b12, b13, b14, b15, b16, b17, b18, b19, b20, b21, b22, v163, v164, v165, v166, v167, v168, v169, v170, v171, v172, v173, v174, v175, v176, v177, v178, v179, v180, v181, v182, v183, v184, v185, _, HT⟩ hi
                              obtain ⟨hi_, hib⟩ := ready_lt hi
                              have HTH := Lib.hid HT
                              match ix, hi_, hi, hib with
                              | 0, _, hi, hib =>
                                clear HT
                                refine wpOp_one rfl rfl (fun K hK => ?_)
                                go_simp
                                exact hK.out _ _ (.mk true b1 b2 b3 b4 b5 b6 b7 b8 b9 b10 b11 b12 b13 b14 b15 b16 b17 b18 b19 b20 b21 b22 _ _ _ _ _ _ _ _ _ _ _ _ _ _ _ _ _ _ _ _ _ _ _ _ { HTH.out with h0 := fun _ => rfl })
                              | 1, _, hi, hib =>
                                have d0 : b0 = true := ready_dep hi rfl 0 (by kernel_rfl)
                                have hd0 := HT.h0 d0
                                subst hd0
                                clear HT
                                refine wpOp_one rfl rfl (fun K hK => ?_)
                                go_simp
                                exact hK.out _ _ (.mk b0 true b2 b3 b4 b5 b6 b7 b8 b9 b10 b11 b12 b13 b14 b15 b16 b17 b18 b19 b20 b21 b22 _ _ _ _ _ _ _ _ _ _ _ _ _ _ _ _ _ _ _ _ _ _ _ _ { HTH.out with h1 := fun _ => rfl })
                              | 2, _, hi, hib =>
                                have d1 : b1 = true := ready_dep hi rfl 1 (by kernel_rfl)
                                have hd1 := HT.h1 d1
                                subst hd1
                                clear HT
                                refine wpOp_one rfl rfl (fun K hK => ?_)
                                go_simp
                                exact hK.out _ _ (.mk b0 b1 true b3 b4 b5 b6 b7 b8 b9 b10 b11 b12 b13 b14 b15 b16 b17 b18 b19 b20 b21 b22 _ _ _ _ _ _ _ _ _ _ _ _ _ _ _ _ _ _ _ _ _ _ _ _ { HTH.out with h2 := fun _ => rfl })
                              | 3, _, hi, hib =>
                                have e2 : b2 = true := ready_dep hi rfl 2 (by kernel_rfl)
                                have he2 := HT.h2 e2
                                subst he2
                                clear HT
                                refine wpOp_want rfl 2 true rfl rfl (fun K hK => ?_)
                                go_simp
                                exact hK.out _ _ (.mk b0 b1 b2 true b4 b5 b6 b7 b8 b9 b10 b11 b12 b13 b14 b15 b16 b17 b18 b19 b20 b21 b22 _ _ _ _ _ _ _ _ _ _ _ _ _ _ _ _ _ _ _ _ _ _ _ _ { HTH.out with h3 := fun _ => rfl })
                              | 4, _, hi, hib =>
                                have e2 : b2 = true := ready_dep hi rfl 2 (by kernel_rfl)
                                have he2 := HT.h2 e2
                                subst he2
                                have d3 : b3 = true := ready_dep hi rfl 3 (by kernel_rfl)
                                have hd3 := HT.h3 d3
                                subst hd3
                                have cx := (HT.bel.cell (p := ⟨W6.heap.size, 0, none⟩) HCC.out.1).trans HCX.out
                                clear HT
                                refine wpOp_want rfl 2 true rfl rfl (fun K hK => ?_)
                                go_simp
                                exact hK.out _ _ (.mk b0 b1 b2 b3 true b5 b6 b7 b8 b9 b10 b11 b12 b13 b14 b15 b16 b17 b18 b19 b20 b21 b22 _ _ _ _ _ _ _ _ _ _ _ _ _ _ _ _ _ _ _ _ _ _ _ _ { HTH.out with h4 := fun _ => rfl })
                              | 5, _, hi, hib =>
                                have e2 : b2 = true := ready_dep hi rfl 2 (by kernel_rfl)
                                have he2 := HT.h2 e2
                                subst he2
                                have d4 : b4 = true := ready_dep hi rfl 4 (by kernel_rfl)
                                have hd4 := HT.h4 d4
                                subst hd4
                                clear HT
                                refine wpOp_want rfl 2 true rfl rfl (fun K hK => ?_)
                                go_simp
                                exact hK.out _ _ (.mk b0 b1 b2 b3 b4 true b6 b7 b8 b9 b10 b11 b12 b13 b14 b15 b16 b17 b18 b19 b20 b21 b22 _ _ _ _ _ _ _ _ _ _ _ _ _ _ _ _ _ _ _ _ _ _ _ _ { HTH.out with h5 := fun _ => rfl })
                              | 6, _, hi, hib =>
                                have e2 : b2 = true := ready_dep hi rfl 2 (by kernel_rfl)
                                have he2 := HT.h2 e2
                                subst he2
                                clear HT
                                refine wpOp_want rfl 2 true rfl rfl (fun K hK => ?_)
                                go_simp
                                exact hK.out _ _ (.mk b0 b1 b2 b3 b4 b5 true b7 b8 b9 b10 b11 b12 b13 b14 b15 b16 b17 b18 b19 b20 b21 b22 _ _ _ _ _ _ _ _ _ _ _ _ _ _ _ _ _ _ _ _ _ _ _ _ { HTH.out with h6 := fun _ => rfl })
                              | 7, _, hi, hib =>
                                have e2 : b2 = true := ready_dep hi rfl 2 (by kernel_rfl)
                                have he2 := HT.h2 e2
                                subst he2
                                have d5 : b5 = true := ready_dep hi rfl 5 (by kernel_rfl)
                                have hd5 := HT.h5 d5
                                subst hd5
                                have d6 : b6 = true := ready_dep hi rfl 6 (by kernel_rfl)
                                have hd6 := HT.h6 d6
                                subst hd6
                                clear HT
                                refine wpOp_want rfl 2 true rfl rfl (fun K hK => ?_)
                                go_simp
                                exact hK.out _ _ (.mk b0 b1 b2 b3 b4 b5 b6 true b8 b9 b10 b11 b12 b13 b14 b15 b16 b17 b18 b19 b20 b21 b22 _ _ _ _ _ _ _ _ _ _ _ _ _ _ _ _ _ _ _ _ _ _ _ _ { HTH.out with h7 := fun _ => rfl })
                              | 8, _, hi, hib =>
                                have e2 : b2 = true := ready_dep hi rfl 2 (by kernel_rfl)
                                have he2 := HT.h2 e2
                                subst he2
                                have d7 : b7 = true := ready_dep hi rfl 7 (by kernel_rfl)
                                have hd7 := HT.h7 d7
                                subst hd7
                                clear HT
                                refine wpOp_want rfl 2 true rfl rfl (fun K hK => ?_)
                                go_simp
                                exact hK.out _ _ (.mk b0 b1 b2 b3 b4 b5 b6 b7 true b9 b10 b11 b12 b13 b14 b15 b16 b17 b18 b19 b20 b21 b22 _ _ _ _ _ _ _ _ _ _ _ _ _ _ _ _ _ _ _ _ _ _ _ _ { HTH.out with h8 := fun _ => rfl })
                              | 9, _, hi, hib =>
                                have e8 : b8 = true := ready_dep hi rfl 8 (by kernel_rfl)
                                have he8 := HT.h8 e8
                                subst he8
                                have cx := (HT.bel.cell (p := ⟨W6.heap.size, 0, none⟩) HCC.out.1).trans HCX.out
                                clear HT
                                refine wpOp_want rfl 8 false rfl rfl (fun K hK => ?_)
                                go_simp
                                exact hK.out _ _ (.mk b0 b1 b2 b3 b4 b5 b6 b7 b8 true b10 b11 b12 b13 b14 b15 b16 b17 b18 b19 b20 b21 b22 _ _ _ _ _ _ _ _ _ _ _ _ _ _ _ _ _ _ _ _ _ _ _ _ { HTH.out with h9 := fun _ => rfl })
                              | 10, _, hi, hib =>
                                have e8 : b8 = true := ready_dep hi rfl 8 (by kernel_rfl)
                                have he8 := HT.h8 e8
                                subst he8
                                obtain ⟨y0, y1, y2, y3⟩ := cells4 ((HT.bel.block _ HCC.out.2.2.2.2).trans HCV.out)
                                clear HT
                                refine wpOp_want rfl 8 false rfl rfl (fun K hK => ?_)
                                go_simp
                                exact hK.out _ _ (.mk b0 b1 b2 b3 b4 b5 b6 b7 b8 b9 true b11 b12 b13 b14 b15 b16 b17 b18 b19 b20 b21 b22 _ _ _ _ _ _ _ _ _ _ _ _ _ _ _ _ _ _ _ _ _ _ _ _ { HTH.out with h10 := fun _ => rfl })
                              | 11, _, hi, hib =>
                                have e8 : b8 = true := ready_dep hi rfl 8 (by kernel_rfl)
                                have he8 := HT.h8 e8
                                subst he8
                                have d9 : b9 = true := ready_dep hi rfl 9 (by kernel_rfl)
                                have hd9 := HT.h9 d9
                                subst hd9
                                have d10 : b10 = true := ready_dep hi rfl 10 (by kernel_rfl)
                                have hd10 := HT.h10 d10
                                subst hd10
                                have hM := HMM.out.1.below HMM.out.2 HT.bel
                                have HC := Lib.hid (RgHas_any Ax nx cx (andR p q) a c d s w' W6.heap.size (HRX.out.below (HT.bel.mono HSZW6.out)) (Nat.le_trans HSZW6.out HT.bel.size) HFX.out (by have := HSS.out; omega) (by have := HLEN.out; omega) hM.1 hM.2)
                                rw [HVX.out] at HC
                                clear hM
                                clear HT
                                refine wpOp_want rfl 8 false rfl rfl (fun K hK => ?_)
                                go_simp
                                refine HC.out.mono ?_
                                rintro e w2 ⟨rfl, hb⟩
                                exact hK.out _ _ (.mk b0 b1 b2 b3 b4 b5 b6 b7 b8 b9 b10 true b12 b13 b14 b15 b16 b17 b18 b19 b20 b21 b22 _ _ _ _ _ _ _ _ _ _ _ _ _ _ _ _ _ _ _ _ _ _ _ _ { HTH.out with bel := HTH.out.bel.trans (hb.mono HTH.out.bel.size), h11 := fun _ => rfl })
                              | 12, _, hi, hib =>
                                have e8 : b8 = true := ready_dep hi rfl 8 (by kernel_rfl)
                                have he8 := HT.h8 e8
                                subst he8
                                have ca := (HT.bel.cell (p := ⟨w.heap.size, 0, none⟩) HCC.out.2.2.1).trans HCA.out
                                clear HT
                                refine wpOp_want rfl 8 false rfl rfl (fun K hK => ?_)
                                go_simp
                                exact hK.out _ _ (.mk b0 b1 b2 b3 b4 b5 b6 b7 b8 b9 b10 b11 true b13 b14 b15 b16 b17 b18 b19 b20 b21 b22 _ _ _ _ _ _ _ _ _ _ _ _ _ _ _ _ _ _ _ _ _ _ _ _ { HTH.out with h12 := fun _ => rfl })
                              | 13, _, hi, hib =>
                                have e8 : b8 = true := ready_dep hi rfl 8 (by kernel_rfl)
                                have he8 := HT.h8 e8
                                subst he8
                                obtain ⟨y0, y1, y2, y3⟩ := cells4 ((HT.bel.block _ HCC.out.2.2.2.2).trans HCV.out)
                                clear HT
                                refine wpOp_want rfl 8 false rfl rfl (fun K hK => ?_)
                                go_simp
                                exact hK.out _ _ (.mk b0 b1 b2 b3 b4 b5 b6 b7 b8 b9 b10 b11 b12 true b14 b15 b16 b17 b18 b19 b20 b21 b22 _ _ _ _ _ _ _ _ _ _ _ _ _ _ _ _ _ _ _ _ _ _ _ _ { HTH.out with h13 := fun _ => rfl })
                              | 14, _, hi, hib =>
                                have e8 : b8 = true := ready_dep hi rfl 8 (by kernel_rfl)
                                have he8 := HT.h8 e8
                                subst he8
                                have d12 : b12 = true := ready_dep hi rfl 12 (by kernel_rfl)
                                have hd12 := HT.h12 d12
                                subst hd12
                                have d13 : b13 = true := ready_dep hi rfl 13 (by kernel_rfl)
                                have hd13 := HT.h13 d13
                                subst hd13
                                have hM := HMM.out.1.below HMM.out.2 HT.bel
                                have HC := Lib.hid (RgHas_any A m cp p a c d s w' w.heap.size (HPA.out.below (HT.bel.mono HSZw.out)) (Nat.le_trans HSZw.out HT.bel.size) HFA.out (by have := HSS.out; omega) (by have := HLEN.out; omega) hM.1 hM.2)
                                rw [HVA.out] at HC
                                clear hM
                                clear HT
                                refine wpOp_want rfl 8 false rfl rfl (fun K hK => ?_)
                                go_simp
                                refine HC.out.mono ?_
                                rintro e w2 ⟨rfl, hb⟩
                                exact hK.out _ _ (.mk b0 b1 b2 b3 b4 b5 b6 b7 b8 b9 b10 b11 b12 b13 true b15 b16 b17 b18 b19 b20 b21 b22 _ _ _ _ _ _ _ _ _ _ _ _ _ _ _ _ _ _ _ _ _ _ _ _ { HTH.out with bel := HTH.out.bel.trans (hb.mono HTH.out.bel.size), h14 := fun _ => rfl })
                              | 15, _, hi, hib =>
                                have e8 : b8 = true := ready_dep hi rfl 8 (by kernel_rfl)
                                have he8 := HT.h8 e8
                                subst he8
                                have d14 : b14 = true := ready_dep hi rfl 14 (by kernel_rfl)
                                have hd14 := HT.h14 d14
                                subst hd14
                                clear HT
                                refine wpOp_want rfl 8 false rfl rfl (fun K hK => ?_)
                                go_simp
                                exact hK.out _ _ (.mk b0 b1 b2 b3 b4 b5 b6 b7 b8 b9 b10 b11 b12 b13 b14 true b16 b17 b18 b19 b20 b21 b22 _ _ _ _ _ _ _ _ _ _ _ _ _ _ _ _ _ _ _ _ _ _ _ _ { HTH.out with h15 := fun _ => rfl })
                              | 16, _, hi, hib =>
                                have e15 : b15 = true := ready_dep hi rfl 15 (by kernel_rfl)
                                have he15 := HT.h15 e15
                                subst he15
                                refine wpOp_skip rfl 15 true rfl rfl ?_
                                exact .mk b0 b1 b2 b3 b4 b5 b6 b7 b8 b9 b10 b11 b12 b13 b14 b15 true b17 b18 b19 b20 b21 b22 _ _ _ _ _ _ _ _ _ _ _ _ _ _ _ _ _ _ _ _ _ _ _ _ { HT with h16 := fun _ => rfl }
                              | 17, _, hi, hib =>
                                have e15 : b15 = true := ready_dep hi rfl 15 (by kernel_rfl)
                                have he15 := HT.h15 e15
                                subst he15
                                refine wpOp_skip rfl 15 true rfl rfl ?_
                                exact .mk b0 b1 b2 b3 b4 b5 b6 b7 b8 b9 b10 b11 b12 b13 b14 b15 b16 true b18 b19 b20 b21 b22 _ _ _ _ _ _ _ _ _ _ _ _ _ _ _ _ _ _ _ _ _ _ _ _ { HT with h17 := fun _ => rfl }
                              | 18, _, hi, hib =>
                                have e15 : b15 = true := ready_dep hi rfl 15 (by kernel_rfl)
                                have he15 := HT.h15 e15
                                subst he15
                                refine wpOp_skip rfl 15 true rfl rfl ?_
                                exact .mk b0 b1 b2 b3 b4 b5 b6 b7 b8 b9 b10 b11 b12 b13 b14 b15 b16 b17 true b19 b20 b21 b22 _ _ _ _ _ _ _ _ _ _ _ _ _ _ _ _ _ _ _ _ _ _ _ _ { HT with h18 := fun _ => rfl }
                              | 19, _, hi, hib =>
                                have e8 : b8 = true := ready_dep hi rfl 8 (by kernel_rfl)
                                have he8 := HT.h8 e8
                                subst he8
                                have d15 : b15 = true := ready_dep hi rfl 15 (by kernel_rfl)
                                have hd15 := HT.h15 d15
                                subst hd15
                                have d18 : b18 = true := ready_dep hi rfl 18 (by kernel_rfl)
                                have hd18 := HT.h18 d18
                                subst hd18
                                clear HT
                                refine wpOp_want rfl 8 false rfl rfl (fun K hK => ?_)
                                go_simp
                                exact hK.out _ _ (.mk b0 b1 b2 b3 b4 b5 b6 b7 b8 b9 b10 b11 b12 b13 b14 b15 b16 b17 b18 true b20 b21 b22 _ _ _ _ _ _ _ _ _ _ _ _ _ _ _ _ _ _ _ _ _ _ _ _ { HTH.out with h19 := fun _ => rfl })
                              | 20, _, hi, hib =>
                                have e8 : b8 = true := ready_dep hi rfl 8 (by kernel_rfl)
                                have he8 := HT.h8 e8
                                subst he8
                                have d11 : b11 = true := ready_dep hi rfl 11 (by kernel_rfl)
                                have hd11 := HT.h11 d11
                                subst hd11
                                have d19 : b19 = true := ready_dep hi rfl 19 (by kernel_rfl)
                                have hd19 := HT.h19 d19
                                subst hd19
                                clear HT
                                refine wpOp_want rfl 8 false rfl rfl (fun K hK => ?_)
                                go_simp
                                exact hK.out _ _ (.mk b0 b1 b2 b3 b4 b5 b6 b7 b8 b9 b10 b11 b12 b13 b14 b15 b16 b17 b18 b19 true b21 b22 _ _ _ _ _ _ _ _ _ _ _ _ _ _ _ _ _ _ _ _ _ _ _ _ { HTH.out with h20 := fun _ => rfl })
                              | 21, _, hi, hib =>
                                have e2 : b2 = true := ready_dep hi rfl 2 (by kernel_rfl)
                                have he2 := HT.h2 e2
                                subst he2
                                have d8 : b8 = true := ready_dep hi rfl 8 (by kernel_rfl)
                                have hd8 := HT.h8 d8
                                subst hd8
                                have d20 : b20 = true := ready_dep hi rfl 20 (by kernel_rfl)
                                have hd20 := HT.h20 d20
                                subst hd20
                                clear HT
                                refine wpOp_want rfl 2 true rfl rfl (fun K hK => ?_)
                                go_simp
                                exact hK.out _ _ (.mk b0 b1 b2 b3 b4 b5 b6 b7 b8 b9 b10 b11 b12 b13 b14 b15 b16 b17 b18 b19 b20 true b22 _ _ _ _ _ _ _ _ _ _ _ _ _ _ _ _ _ _ _ _ _ _ _ _ { HTH.out with h21 := fun _ => rfl })
                              | 22, _, hi, hib =>
                                have d2 : b2 = true := ready_dep hi rfl 2 (by kernel_rfl)
                                have hd2 := HT.h2 d2
                                subst hd2
                                have d21 : b21 = true := ready_dep hi rfl 21 (by kernel_rfl)
                                have hd21 := HT.h21 d21
                                subst hd21
                                clear HT
                                refine wpOp_one rfl rfl (fun K hK => ?_)
                                go_simp
                                exact hK.out _ _ (.mk b0 b1 b2 b3 b4 b5 b6 b7 b8 b9 b10 b11 b12 b13 b14 b15 b16 b17 b18 b19 b20 b21 true _ _ _ _ _ _ _ _ _ _ _ _ _ _ _ _ _ _ _ _ _ _ _ _ { HTH.out with h22 := fun _ => rfl })
                            case fin =>
                              rintro lq a' w' ⟨b0, b1, b2, b3, b4, b5, b6, b7, b8, b9, b10, b11, b12, b13, b14, b15, b16, b17, b18, b19, b20, b21, b22, v163, v164, v165, v166, v167, v168, v169, v170, v171, v172, v173, v174, v175, v176, v177, v178, v179, v180, v181, v182, v183, v184, v185, _, HT⟩ hr
                              obtain rfl : b0 = true := by
                                cases b0 with
                                | true => rfl
                                | false => exact (ready_in 0 rfl rfl (by simp [Region.binds]) hr).elim
                              obtain rfl : b1 = true := by
                                cases b1 with
                                | true => rfl
                                | false => exact (ready_in 1 rfl rfl (by simp [Region.binds]) hr).elim
                              obtain rfl : b2 = true := by
                                cases b2 with
                                | true => rfl
                                | false => exact (ready_in 2 rfl rfl (by simp [Region.binds]) hr).elim
                              obtain rfl : b3 = true := by
                                cases b3 with
                                | true => rfl
                                | false => exact (ready_in 3 rfl rfl (by simp [Region.binds]) hr).elim
                              obtain rfl : b4 = true := by
                                cases b4 with
                                | true => rfl
                                | false => exact (ready_in 4 rfl rfl (by simp [Region.binds]) hr).elim
                              obtain rfl : b5 = true := by
                                cases b5 with
                                | true => rfl
                                | false => exact (ready_in 5 rfl rfl (by simp [Region.binds]) hr).elim
                              obtain rfl : b6 = true := by
                                cases b6 with
                                | true => rfl
                                | false => exact (ready_in 6 rfl rfl (by simp [Region.binds]) hr).elim
                              obtain rfl : b7 = true := by
                                cases b7 with
                                | true => rfl
                                | false => exact (ready_in 7 rfl rfl (by simp [Region.binds]) hr).elim
                              obtain rfl : b8 = true := by
                                cases b8 with
                                | true => rfl
                                | false => exact (ready_in 8 rfl rfl (by simp [Region.binds]) hr).elim
                              obtain rfl : b9 = true := by
                                cases b9 with
                                | true => rfl
                                | false => exact (ready_in 9 rfl rfl (by simp [Region.binds]) hr).elim
                              obtain rfl : b10 = true := by
                                cases b10 with
                                | true => rfl
                                | false => exact (ready_in 10 rfl rfl (by simp [Region.binds]) hr).elim
                              obtain rfl : b11 = true := by
                                cases b11 with
                                | true => rfl
                                | false => exact (ready_in 11 rfl rfl (by simp [Region.binds]) hr).elim
                              obtain rfl : b12 = true := by
                                cases b12 with
                                | true => rfl
                                | false => exact (ready_in 12 rfl rfl (by simp [Region.binds]) hr).elim
                              obtain rfl : b13 = true := by
                                cases b13 with
                                | true => rfl
                                | false => exact (ready_in 13 rfl rfl (by simp [Region.binds]) hr).elim
                              obtain rfl : b14 = true := by
                                cases b14 with
                                | true => rfl
                                | false => exact (ready_in 14 rfl rfl (by simp [Region.binds]) hr).elim
                              obtain rfl : b15 = true := by
                                cases b15 with
                                | true => rfl
                                | false => exact (ready_in 15 rfl rfl (by simp [Region.binds]) hr).elim
                              obtain rfl : b16 = true := by
                                cases b16 with
                                | true => rfl
                                | false => exact (ready_in 16 rfl rfl (by simp [Region.binds]) hr).elim
                              obtain rfl : b17 = true := by
                                cases b17 with
                                | true => rfl
                                | false => exact (ready_in 17 rfl rfl (by simp [Region.binds]) hr).elim
                              obtain rfl : b18 = true := by
                                cases b18 with
                                | true => rfl
                                | false => exact (ready_in 18 rfl rfl (by simp [Region.binds]) hr).elim
                              obtain rfl : b19 = true := by
                                cases b19 with
                                | true => rfl
                                | false => exact (ready_in 19 rfl rfl (by simp [Region.binds]) hr).elim
                              obtain rfl : b20 = true := by
                                cases b20 with
                                | true => rfl
                                | false => exact (ready_in 20 rfl rfl (by simp [Region.binds]) hr).elim
                              obtain rfl : b21 = true := by
                                cases b21 with
                                | true => rfl
                                | false => exact (ready_in 21 rfl rfl (by simp [Region.binds]) hr).elim
                              obtain rfl : b22 = true := by
                                cases b22 with
                                | true => rfl
                                | false => exact (ready_in 22 rfl rfl (by simp [Region.binds]) hr).elim
                              have k0 := HT.h0 rfl
                              subst k0
                              have k1 := HT.h1 rfl
                              subst k1
                              have k2 := HT.h2 rfl
                              subst k2
                              have k3 := HT.h3 rfl
                              subst k3
                              have k4 := HT.h4 rfl
                              subst k4
                              have k5 := HT.h5 rfl
                              subst k5
                              have k6 := HT.h6 rfl
                              subst k6
                              have k7 := HT.h7 rfl
                              subst k7
                              have k8 := HT.h8 rfl
                              subst k8
                              have k9 := HT.h9 rfl
                              subst k9
                              have k10 := HT.h10 rfl
                              subst k10
                              have k11 := HT.h11 rfl
                              subst k11
                              have k12 := HT.h12 rfl
                              subst k12
                              have k13 := HT.h13 rfl
                              subst k13
                              have k14 := HT.h14 rfl
                              subst k14
                              have k15 := HT.h15 rfl
                              subst k15
                              have k16 := HT.h16 rfl
                              subst k16
                              have k17 := HT.h17 rfl
                              subst k17
                              have k18 := HT.h18 rfl
                              subst k18
                              have k19 := HT.h19 rfl
                              subst k19
                              have k20 := HT.h20 rfl
                              subst k20
                              have k21 := HT.h21 rfl
                              subst k21
                              have k22 := HT.h22 rfl
                              subst k22
                              have HF := HT.bel
                              clear HT hr
                              show _
                              go_wp2_with fail
                              go_meet
                              exact ⟨rfl, HF⟩
                    case rest =>
                      obtain ⟨rfl, hb⟩ := hcut
                      rename World => W13
                      have HBX13 := Lib.hid (HBX12.out.below hb)
                      have HB13 : Hid (Below w.heap.size w W13) := Lib.hid (HB12.out.trans (hb.mono HB12.out.size))
                      have HM13 := Lib.hid (HM12.out.1.below HM12.out.2 hb)
                      have HP13 : Hid (RdR W13 w.heap.size A m p) := Lib.hid (HP12.out.below (hb.mono HB12.out.size))
                      have HQ13 : Hid (RdR W13 w.heap.size B n q) := Lib.hid (HQ12.out.below (hb.mono HB12.out.size))
                      have HB913 := Lib.hid (HB912.out.trans (hb.mono HB912.out.size))
                      clear hb HBX12 HB12 HM12 HP12 HQ12 HB912
                      go_upto_region 26 with fail
                      rcases HYF2.out with ⟨rfl, rfl, _⟩ | ⟨rfl, rfl, hc, hx⟩
                      · have mixed : Tryd.prog.follows Departure.mixedOrders = true := by kernel_rfl
                        go_region_o
                        go_wp2
                        refine bodyPost_ret (results_tmp rfl _ _ _) rfl ⟨rfl, ?_⟩
                        first | exact HB13.out | exact HB13.out.drew
                      · clear HXF2 HYF2
                        have HCX := Lib.hid (cell1 (HBX13.out.get (W6.heap.size) (.cells #[.slice Ax nx cx] 48) (by simp)))
                        have HCY := Lib.hid (cell1 (HBX13.out.get (W8.heap.size) (.cells #[.slice Ay ny cy] 48) (by simp)))
                        have HCA := Lib.hid (cell1 (HBX13.out.get (w.heap.size) (.cells #[.slice A m cp] 48) (by simp)))
                        have HCB := Lib.hid (cell1 (HBX13.out.get (w.heap.size + 1) (.cells #[.slice B n cq] 48) (by simp)))
                        have HCV := Lib.hid (HBX13.out.get (w.heap.size + 1 + 1) (verC a c d s) (by simp))
                        have HCC : Hid (W6.heap.size < W13.heap.size ∧ W8.heap.size < W13.heap.size ∧ w.heap.size < W13.heap.size ∧ w.heap.size + 1 < W13.heap.size ∧ w.heap.size + 1 + 1 < W13.heap.size) := Lib.hid ⟨(HBX13.out (W6.heap.size, (.cells #[.slice Ax nx cx] 48)) (by simp)).1, (HBX13.out (W8.heap.size, (.cells #[.slice Ay ny cy] 48)) (by simp)).1, (HBX13.out (w.heap.size, (.cells #[.slice A m cp] 48)) (by simp)).1, (HBX13.out (w.heap.size + 1, (.cells #[.slice B n cq] 48)) (by simp)).1, (HBX13.out (w.heap.size + 1 + 1, (verC a c d s)) (by simp)).1⟩
                        have HSZW6 : Hid (W6.heap.size ≤ W13.heap.size) := Lib.hid (Nat.le_of_lt HCC.out.1)
                        have HSZW8 : Hid (W8.heap.size ≤ W13.heap.size) := Lib.hid (Nat.le_of_lt HCC.out.2.1)
                        have HSZw : Hid (w.heap.size ≤ W13.heap.size) := Lib.hid (Nat.le_of_lt HCC.out.2.2.1)
                        have HMM := HM13
                        have HPA := HP13
                        have HPB := HQ13
                        have HFA := Lib.hid HFP.out.2.1
                        have HFB := Lib.hid HFQ.out.2.1
                        have HRY : Hid (RdR W13 W8.heap.size Ay ny (p ++ q)) := Lib.hid (hx.below (HB89.out.trans (HB913.out.mono HB89.out.size)))
                        have HFY := Lib.hid (fits_app HFA.out HFB.out)
                        have HLEN : Hid (ny ≤ 8 ∧ m ≤ 20 ∧ n ≤ 20) := Lib.hid ⟨of_decide_eq_true hc, HM20.out⟩
                        have HHAS := Lib.hid (orR_has HRP.out HRQ.out (by rw [HLP.out, HLQ.out, HSN.out]; exact HLEN.out.1) ⟨a, c, d, bs s⟩)
                        clear hc hx
                        cases hqa : hasR p ⟨a, c, d, bs s⟩ with
                        | true =>
                          as_aux_lemma =>
                            have HVA := Lib.hid hqa
                            have HVY : Hid (hasR (p ++ q) ⟨a, c, d, bs s⟩ = true) := Lib.hid (by rw [HHAS.out, hqa]; exact Bool.true_or _)
                            clear hqa HHAS
                            refine wp_region_inv (by kernel_rfl) (I := LctJ W13 W8.heap.size ny (.slice Ay ny cy) (.agg #[.slice Ay ny cy]) (verV a c d s) (.agg #[.slice A m cp]) (.agg #[.slice B n cq]) false _ _ _ _ _ _ _ _ _ _ _ _ _ _ _ _ _ _ _ _ _ _ _ _ _ _ _ _ _ _ _ _ _ _ _ _ _ _ _ _ _ _ _ _ _ _ _ _ _ _ _ _ _ _ _ _ _ _ _ _ _ _ _ _ _ _ _ _ _ _ _ _ _ _ _ _ _ _ _ _ _ _ _ _ _ _ _ _ _ _ _ _ _ _ _ _ _ _ _ _ _ _ _ _ _ _ _ _ _ _ _ _ _ _ _ _ _ _ _ _ _ _ _ _ _ _ _ _ _ _ _ _ _ _ _ _ _ _ _ _ _ _ _ _ _ _ _ _ _ _ _ _ _ _ _ _ _ _ _ _ _ _ _ _ _ _ _ _ _ _ _ _ _ _ _ _ _ _ _ _ _ _ _ _ _) (.mk false false false false false false false false false false false false false false false false false false false false false false false false _ _ _ _ _ _ _ _ _ _ _ _ _ _ _ _ _ _ _ _ _ _ _ _ _ ⟨(Below.refl _ W13).drew, nofun, nofun, nofun, nofun, nofun, nofun, nofun, nofun, nofun, nofun, nofun, nofun, nofun, nofun, nofun, nofun, nofun, nofun, nofun, nofun, nofun, nofun, nofun, nofun⟩) ?step ?fin
                            case step =>
                              rintro lq a' w' ix ⟨b0, b1, b2, b3, b4, b5, b6, b7, b8, b9, b10, b11, b12, b13, b14, b15, b16, b17, b18, b19, b20, b21, b22, b23, v6, v186, v187, v188, v189, v190, v191, v192, v193, v194, v195, v196, v197, v198, v199, v200, v201, v202, v203, v204, v205, v206, v207, v208, _, HT⟩ hi
                              obtain ⟨hi_, hib⟩ := ready_lt hi
                              have HTH := Lib.hid HT
                              match ix, hi_, hi, hib with
                              | 0, _, hi, hib =>
                                clear HT
                                refine wpOp_one rfl rfl (fun K hK => ?_)
                                go_simp
                                exact hK.out _ _ (.mk true b1 b2 b3 b4 b5 b6 b7 b8 b9 b10 b11 b12 b13 b14 b15 b16 b17 b18 b19 b20 b21 b22 b23 _ _ _ _ _ _ _ _ _ _ _ _ _ _ _ _ _ _ _ _ _ _ _ _ _ { HTH.out with h0 := fun _ => rfl })
                              | 1, _, hi, hib =>
                                have d0 : b0 = true := ready_dep hi rfl 0 (by kernel_rfl)
                                have hd0 := HT.h0 d0
                                subst hd0
                                clear HT
                                refine wpOp_one rfl rfl (fun K hK => ?_)
                                go_simp
                                exact hK.out _ _ (.mk b0 true b2 b3 b4 b5 b6 b7 b8 b9 b10 b11 b12 b13 b14 b15 b16 b17 b18 b19 b20 b21 b22 b23 _ _ _ _ _ _ _ _ _ _ _ _ _ _ _ _ _ _ _ _ _ _ _ _ _ { HTH.out with h1 := fun _ => rfl })
                              | 2, _, hi, hib =>
                                have d1 : b1 = true := ready_dep hi rfl 1 (by kernel_rfl)
                                have hd1 := HT.h1 d1
                                subst hd1
                                clear HT
                                refine wpOp_one rfl rfl (fun K hK => ?_)
                                go_simp
                                exact hK.out _ _ (.mk b0 b1 true b3 b4 b5 b6 b7 b8 b9 b10 b11 b12 b13 b14 b15 b16 b17 b18 b19 b20 b21 b22 b23 _ _ _ _ _ _ _ _ _ _ _ _ _ _ _ _ _ _ _ _ _ _ _ _ _ { HTH.out with h2 := fun _ => rfl })
                              | 3, _, hi, hib =>
                                have e2 : b2 = true := ready_dep hi rfl 2 (by kernel_rfl)
                                have he2 := HT.h2 e2
                                subst he2
                                clear HT
                                refine wpOp_want rfl 2 false rfl rfl (fun K hK => ?_)
                                go_simp
                                exact hK.out _ _ (.mk b0 b1 b2 true b4 b5 b6 b7 b8 b9 b10 b11 b12 b13 b14 b15 b16 b17 b18 b19 b20 b21 b22 b23 _ _ _ _ _ _ _ _ _ _ _ _ _ _ _ _ _ _ _ _ _ _ _ _ _ { HTH.out with h3 := fun _ => rfl })
                              | 4, _, hi, hib =>
                                have e2 : b2 = true := ready_dep hi rfl 2 (by kernel_rfl)
                                have he2 := HT.h2 e2
                                subst he2
                                have d3 : b3 = true := ready_dep hi rfl 3 (by kernel_rfl)
                                have hd3 := HT.h3 d3
                                subst hd3
                                have cy := (HT.bel.cell (p := ⟨W8.heap.size, 0, none⟩) HCC.out.2.1).trans HCY.out
                                clear HT
                                refine wpOp_want rfl 2 false rfl rfl (fun K hK => ?_)
                                go_simp
                                exact hK.out _ _ (.mk b0 b1 b2 b3 true b5 b6 b7 b8 b9 b10 b11 b12 b13 b14 b15 b16 b17 b18 b19 b20 b21 b22 b23 _ _ _ _ _ _ _ _ _ _ _ _ _ _ _ _ _ _ _ _ _ _ _ _ _ { HTH.out with h4 := fun _ => rfl })
                              | 5, _, hi, hib =>
                                have e2 : b2 = true := ready_dep hi rfl 2 (by kernel_rfl)
                                have he2 := HT.h2 e2
                                subst he2
                                have d4 : b4 = true := ready_dep hi rfl 4 (by kernel_rfl)
                                have hd4 := HT.h4 d4
                                subst hd4
                                clear HT
                                refine wpOp_want rfl 2 false rfl rfl (fun K hK => ?_)
                                go_simp
                                exact hK.out _ _ (.mk b0 b1 b2 b3 b4 true b6 b7 b8 b9 b10 b11 b12 b13 b14 b15 b16 b17 b18 b19 b20 b21 b22 b23 _ _ _ _ _ _ _ _ _ _ _ _ _ _ _ _ _ _ _ _ _ _ _ _ _ { HTH.out with h5 := fun _ => rfl })
                              | 6, _, hi, hib =>
                                have e2 : b2 = true := ready_dep hi rfl 2 (by kernel_rfl)
                                have he2 := HT.h2 e2
                                subst he2
                                clear HT
                                refine wpOp_want rfl 2 false rfl rfl (fun K hK => ?_)
                                go_simp
                                exact hK.out _ _ (.mk b0 b1 b2 b3 b4 b5 true b7 b8 b9 b10 b11 b12 b13 b14 b15 b16 b17 b18 b19 b20 b21 b22 b23 _ _ _ _ _ _ _ _ _ _ _ _ _ _ _ _ _ _ _ _ _ _ _ _ _ { HTH.out with h6 := fun _ => rfl })
                              | 7, _, hi, hib =>
                                have e2 : b2 = true := ready_dep hi rfl 2 (by kernel_rfl)
                                have he2 := HT.h2 e2
                                subst he2
                                have d5 : b5 = true := ready_dep hi rfl 5 (by kernel_rfl)
                                have hd5 := HT.h5 d5
                                subst hd5
                                have d6 : b6 = true := ready_dep hi rfl 6 (by kernel_rfl)
                                have hd6 := HT.h6 d6
                                subst hd6
                                clear HT
                                refine wpOp_want rfl 2 false rfl rfl (fun K hK => ?_)
                                go_simp
                                exact hK.out _ _ (.mk b0 b1 b2 b3 b4 b5 b6 true b8 b9 b10 b11 b12 b13 b14 b15 b16 b17 b18 b19 b20 b21 b22 b23 _ _ _ _ _ _ _ _ _ _ _ _ _ _ _ _ _ _ _ _ _ _ _ _ _ { HTH.out with h7 := fun _ => rfl })
                              | 8, _, hi, hib =>
                                have e2 : b2 = true := ready_dep hi rfl 2 (by kernel_rfl)
                                have he2 := HT.h2 e2
                                subst he2
                                have d7 : b7 = true := ready_dep hi rfl 7 (by kernel_rfl)
                                have hd7 := HT.h7 d7
                                subst hd7
                                clear HT
                                refine wpOp_want rfl 2 false rfl rfl (fun K hK => ?_)
                                go_simp
                                exact hK.out _ _ (.mk b0 b1 b2 b3 b4 b5 b6 b7 true b9 b10 b11 b12 b13 b14 b15 b16 b17 b18 b19 b20 b21 b22 b23 _ _ _ _ _ _ _ _ _ _ _ _ _ _ _ _ _ _ _ _ _ _ _ _ _ { HTH.out with h8 := fun _ => rfl })
                              | 9, _, hi, hib =>
                                have e8 : b8 = true := ready_dep hi rfl 8 (by kernel_rfl)
                                have he8 := HT.h8 e8
                                subst he8
                                have cy := (HT.bel.cell (p := ⟨W8.heap.size, 0, none⟩) HCC.out.2.1).trans HCY.out
                                clear HT
                                refine wpOp_want rfl 8 true rfl rfl (fun K hK => ?_)
                                go_simp
                                exact hK.out _ _ (.mk b0 b1 b2 b3 b4 b5 b6 b7 b8 true b10 b11 b12 b13 b14 b15 b16 b17 b18 b19 b20 b21 b22 b23 _ _ _ _ _ _ _ _ _ _ _ _ _ _ _ _ _ _ _ _ _ _ _ _ _ { HTH.out with h9 := fun _ => rfl })
                              | 10, _, hi, hib =>
                                have e8 : b8 = true := ready_dep hi rfl 8 (by kernel_rfl)
                                have he8 := HT.h8 e8
                                subst he8
                                obtain ⟨y0, y1, y2, y3⟩ := cells4 ((HT.bel.block _ HCC.out.2.2.2.2).trans HCV.out)
                                clear HT
                                refine wpOp_want rfl 8 true rfl rfl (fun K hK => ?_)
                                go_simp
                                exact hK.out _ _ (.mk b0 b1 b2 b3 b4 b5 b6 b7 b8 b9 true b11 b12 b13 b14 b15 b16 b17 b18 b19 b20 b21 b22 b23 _ _ _ _ _ _ _ _ _ _ _ _ _ _ _ _ _ _ _ _ _ _ _ _ _ { HTH.out with h10 := fun _ => rfl })
                              | 11, _, hi, hib =>
                                have e8 : b8 = true := ready_dep hi rfl 8 (by kernel_rfl)
                                have he8 := HT.h8 e8
                                subst he8
                                have d9 : b9 = true := ready_dep hi rfl 9 (by kernel_rfl)
                                have hd9 := HT.h9 d9
                                subst hd9
                                have d10 : b10 = true := ready_dep hi rfl 10 (by kernel_rfl)
                                have hd10 := HT.h10 d10
                                subst hd10
                                have hM := HMM.out.1.below HMM.out.2 HT.bel
                                have HC := Lib.hid (RgHas_any Ay ny cy (p ++ q) a c d s w' W8.heap.size (HRY.out.below (HT.bel.mono HSZW8.out)) (Nat.le_trans HSZW8.out HT.bel.size) HFY.out (by have := HSS.out; omega) (by have := HLEN.out; omega) hM.1 hM.2)
                                rw [HVY.out] at HC
                                clear hM
                                clear HT
                                refine wpOp_want rfl 8 true rfl rfl (fun K hK => ?_)
                                go_simp
                                refine HC.out.mono ?_
                                rintro e w2 ⟨rfl, hb⟩
                                exact hK.out _ _ (.mk b0 b1 b2 b3 b4 b5 b6 b7 b8 b9 b10 true b12 b13 b14 b15 b16 b17 b18 b19 b20 b21 b22 b23 _ _ _ _ _ _ _ _ _ _ _ _ _ _ _ _ _ _ _ _ _ _ _ _ _ { HTH.out with bel := HTH.out.bel.trans (hb.mono HTH.out.bel.size), h11 := fun _ => rfl })
                              | 12, _, hi, hib =>
                                have e8 : b8 = true := ready_dep hi rfl 8 (by kernel_rfl)
                                have he8 := HT.h8 e8
                                subst he8
                                have ca := (HT.bel.cell (p := ⟨w.heap.size, 0, none⟩) HCC.out.2.2.1).trans HCA.out
                                clear HT
                                refine wpOp_want rfl 8 true rfl rfl (fun K hK => ?_)
                                go_simp
                                exact hK.out _ _ (.mk b0 b1 b2 b3 b4 b5 b6 b7 b8 b9 b10 b11 true b13 b14 b15 b16 b17 b18 b19 b20 b21 b22 b23 _ _ _ _ _ _ _ _ _ _ _ _ _ _ _ _ _ _ _ _ _ _ _ _ _ { HTH.out with h12 := fun _ => rfl })
                              | 13, _, hi, hib =>
                                have e8 : b8 = true := ready_dep hi rfl 8 (by kernel_rfl)
                                have he8 := HT.h8 e8
                                subst he8
                                obtain ⟨y0, y1, y2, y3⟩ := cells4 ((HT.bel.block _ HCC.out.2.2.2.2).trans HCV.out)
                                clear HT
                                refine wpOp_want rfl 8 true rfl rfl (fun K hK => ?_)
                                go_simp
                                exact hK.out _ _ (.mk b0 b1 b2 b3 b4 b5 b6 b7 b8 b9 b10 b11 b12 true b14 b15 b16 b17 b18 b19 b20 b21 b22 b23 _ _ _ _ _ _ _ _ _ _ _ _ _ _ _ _ _ _ _ _ _ _ _ _ _ { HTH.out with h13 := fun _ => rfl })
                              | 14, _, hi, hib =>
                                have e8 : b8 = true := ready_dep hi rfl 8 (by kernel_rfl)
                                have he8 := HT.h8 e8
                                subst he8
                                have d12 : b12 = true := ready_dep hi rfl 12 (by kernel_rfl)
                                have hd12 := HT.h12 d12
                                subst hd12
                                have d13 : b13 = true := ready_dep hi rfl 13 (by kernel_rfl)
                                have hd13 := HT.h13 d13
                                subst hd13
                                have hM := HMM.out.1.below HMM.out.2 HT.bel
                                have HC := Lib.hid (RgHas_any A m cp p a c d s w' w.heap.size (HPA.out.below (HT.bel.mono HSZw.out)) (Nat.le_trans HSZw.out HT.bel.size) HFA.out (by have := HSS.out; omega) (by have := HLEN.out; omega) hM.1 hM.2)
                                rw [HVA.out] at HC
                                clear hM
                                clear HT
                                refine wpOp_want rfl 8 true rfl rfl (fun K hK => ?_)
                                go_simp
                                refine HC.out.mono ?_
                                rintro e w2 ⟨rfl, hb⟩
                                exact hK.out _ _ (.mk b0 b1 b2 b3 b4 b5 b6 b7 b8 b9 b10 b11 b12 b13 true b15 b16 b17 b18 b19 b20 b21 b22 b23 _ _ _ _ _ _ _ _ _ _ _ _ _ _ _ _ _ _ _ _ _ _ _ _ _ { HTH.out with bel := HTH.out.bel.trans (hb.mono HTH.out.bel.size), h14 := fun _ => rfl })
                              | 15, _, hi, hib =>
                                have e8 : b8 = true := ready_dep hi rfl 8 (by kernel_rfl)
                                have he8 := HT.h8 e8
                                subst he8
                                have d14 : b14 = true := ready_dep hi rfl 14 (by kernel_rfl)
                                have hd14 := HT.h14 d14
                                subst hd14
                                clear HT
                                refine wpOp_want rfl 8 true rfl rfl (fun K hK => ?_)
                                go_simp
                                exact hK.out _ _ (.mk b0 b1 b2 b3 b4 b5 b6 b7 b8 b9 b10 b11 b12 b13 b14 true b16 b17 b18 b19 b20 b21 b22 b23 _ _ _ _ _ _ _ _ _ _ _ _ _ _ _ _ _ _ _ _ _ _ _ _ _ { HTH.out with h15 := fun _ => rfl })
                              | 16, _, hi, hib =>
                                have e15 : b15 = true := ready_dep hi rfl 15 (by kernel_rfl)
                                have he15 := HT.h15 e15
                                subst he15
                                refine wpOp_skip rfl 15 false rfl rfl ?_
                                exact .mk b0 b1 b2 b3 b4 b5 b6 b7 b8 b9 b10 b11 b12 b13 b14 b15 true b17 b18 b19 b20 b21 b22 b23 _ _ _ _ _ _ _ _ _ _ _ _ _ _ _ _ _ _ _ _ _ _ _ _ _ { HT with h16 := fun _ => rfl }
                              | 17, _, hi, hib =>
                                have e15 : b15 = true := ready_dep hi rfl 15 (by kernel_rfl)
                                have he15 := HT.h15 e15
                                subst he15
                                refine wpOp_skip rfl 15 false rfl rfl ?_
                                exact .mk b0 b1 b2 b3 b4 b5 b6 b7 b8 b9 b10 b11 b12 b13 b14 b15 b16 true b18 b19 b20 b21 b22 b23 _ _ _ _ _ _ _ _ _ _ _ _ _ _ _ _ _ _ _ _ _ _ _ _ _ { HT with h17 := fun _ => rfl }
                              | 18, _, hi, hib =>
                                have e15 : b15 = true := ready_dep hi rfl 15 (by kernel_rfl)
                                have he15 := HT.h15 e15
                                subst he15
                                refine wpOp_skip rfl 15 false rfl rfl ?_
                                exact .mk b0 b1 b2 b3 b4 b5 b6 b7 b8 b9 b10 b11 b12 b13 b14 b15 b16 b17 true b19 b20 b21 b22 b23 _ _ _ _ _ _ _ _ _ _ _ _ _ _ _ _ _ _ _ _ _ _ _ _ _ { HT with h18 := fun _ => rfl }
                              | 19, _, hi, hib =>
                                have e8 : b8 = true := ready_dep hi rfl 8 (by kernel_rfl)
                                have he8 := HT.h8 e8
                                subst he8
                                have d15 : b15 = true := ready_dep hi rfl 15 (by kernel_rfl)
                                have hd15 := HT.h15 d15
                                subst hd15
                                have d18 : b18 = true := ready_dep hi rfl 18 (by kernel_rfl)
                                have hd18 := HT.h18 d18
                                subst hd18
                                clear HT
                                refine wpOp_want rfl 8 true rfl rfl (fun K hK => ?_)
                                go_simp
                                exact hK.out _ _ (.mk b0 b1 b2 b3 b4 b5 b6 b7 b8 b9 b10 b11 b12 b13 b14 b15 b16 b17 b18 true b20 b21 b22 b23 _ _ _ _ _ _ _ _ _ _ _ _ _ _ _ _ _ _ _ _ _ _ _ _ _ { HTH.out with h19 := fun _ => rfl })
                              | 20, _, hi, hib =>
                                have e8 : b8 = true := ready_dep hi rfl 8 (by kernel_rfl)
                                have he8 := HT.h8 e8
                                subst he8
                                have d11 : b11 = true := ready_dep hi rfl 11 (by kernel_rfl)
                                have hd11 := HT.h11 d11
                                subst hd11
                                have d19 : b19 = true := ready_dep hi rfl 19 (by kernel_rfl)
                                have hd19 := HT.h19 d19
                                subst hd19
                                clear HT
                                refine wpOp_want rfl 8 true rfl rfl (fun K hK => ?_)
                                go_simp
                                exact hK.out _ _ (.mk b0 b1 b2 b3 b4 b5 b6 b7 b8 b9 b10 b11 b12 b13 b14 b15 b16 b17 b18 b19 true b21 b22 b23 _ _ _ _ _ _ _ _ _ _ _ _ _ _ _ _ _ _ _ _ _ _ _ _ _ { HTH.out with h20 := fun _ => rfl })
                              | 21, _, hi, hib =>
                                have e2 : b2 = true := ready_dep hi rfl 2 (by kernel_rfl)
                                have he2 := HT.h2 e2
                                subst he2
                                have d8 : b8 = true := ready_dep hi rfl 8 (by kernel_rfl)
                                have hd8 := HT.h8 d8
                                subst hd8
                                have d20 : b20 = true := ready_dep hi rfl 20 (by kernel_rfl)
                                have hd20 := HT.h20 d20
                                subst hd20
                                clear HT
                                refine wpOp_want rfl 2 false rfl rfl (fun K hK => ?_)
                                go_simp
                                exact hK.out _ _ (.mk b0 b1 b2 b3 b4 b5 b6 b7 b8 b9 b10 b11 b12 b13 b14 b15 b16 b17 b18 b19 b20 true b22 b23 _ _ _ _ _ _ _ _ _ _ _ _ _ _ _ _ _ _ _ _ _ _ _ _ _ { HTH.out with h21 := fun _ => rfl })
                              | 22, _, hi, hib =>
                                have d2 : b2 = true := ready_dep hi rfl 2 (by kernel_rfl)
                                have hd2 := HT.h2 d2
                                subst hd2
                                have d21 : b21 = true := ready_dep hi rfl 21 (by kernel_rfl)
                                have hd21 := HT.h21 d21
                                subst hd21
                                clear HT
                                refine wpOp_one rfl rfl (fun K hK => ?_)
                                go_simp
                                exact hK.out _ _ (.mk b0 b1 b2 b3 b4 b5 b6 b7 b8 b9 b10 b11 b12 b13 b14 b15 b16 b17 b18 b19 b20 b21 true b23 _ _ _ _ _ _ _ _ _ _ _ _ _ _ _ _ _ _ _ _ _ _ _ _ _ { HTH.out with h22 := fun _ => rfl })
                              | 23, _, hi, hib =>
                                have d22 : b22 = true := ready_dep hi rfl 22 (by kernel_rfl)
                                have hd22 := HT.h22 d22
                                subst hd22
                                clear HT
                                refine wpOp_one rfl rfl (fun K hK => ?_)
                                go_simp
                                exact hK.out _ _ (.mk b0 b1 b2 b3 b4 b5 b6 b7 b8 b9 b10 b11 b12 b13 b14 b15 b16 b17 b18 b19 b20 b21 b22 true _ _ _ _ _ _ _ _ _ _ _ _ _ _ _ _ _ _ _ _ _ _ _ _ _ { HTH.out with h23 := fun _ => rfl })
                            case fin =>
                              rintro lq a' w' ⟨b0, b1, b2, b3, b4, b5, b6, b7, b8, b9, b10, b11, b12, b13, b14, b15, b16, b17, b18, b19, b20, b21, b22, b23, v6, v186, v187, v188, v189, v190, v191, v192, v193, v194, v195, v196, v197, v198, v199, v200, v201, v202, v203, v204, v205, v206, v207, v208, _, HT⟩ hr
                              obtain rfl : b0 = true := by
                                cases b0 with
                                | true => rfl
                                | false => exact (ready_in 0 rfl rfl (by simp [Region.binds]) hr).elim
                              obtain rfl : b1 = true := by
                                cases b1 with
                                | true => rfl
                                | false => exact (ready_in 1 rfl rfl (by simp [Region.binds]) hr).elim
                              obtain rfl : b2 = true := by
                                cases b2 with
                                | true => rfl
                                | false => exact (ready_in 2 rfl rfl (by simp [Region.binds]) hr).elim
                              obtain rfl : b3 = true := by
                                cases b3 with
                                | true => rfl
                                | false => exact (ready_in 3 rfl rfl (by simp [Region.binds]) hr).elim
                              obtain rfl : b4 = true := by
                                cases b4 with
                                | true => rfl
                                | false => exact (ready_in 4 rfl rfl (by simp [Region.binds]) hr).elim
                              obtain rfl : b5 = true := by
                                cases b5 with
                                | true => rfl
                                | false => exact (ready_in 5 rfl rfl (by simp [Region.binds]) hr).elim
                              obtain rfl : b6 = true := by
                                cases b6 with
                                | true => rfl
                                | false => exact (ready_in 6 rfl rfl (by simp [Region.binds]) hr).elim
                              obtain rfl : b7 = true := by
                                cases b7 with
                                | true => rfl
                                | false => exact (ready_in 7 rfl rfl (by simp [Region.binds]) hr).elim
                              obtain rfl : b8 = true := by
                                cases b8 with
                                | true => rfl
                                | false => exact (ready_in 8 rfl rfl (by simp [Region.binds]) hr).elim
                              obtain rfl : b9 = true := by
                                cases b9 with
                                | true => rfl
                                | false => exact (ready_in 9 rfl rfl (by simp [Region.binds]) hr).elim
                              obtain rfl : b10 = true := by
                                cases b10 with
                                | true => rfl
                                | false => exact (ready_in 10 rfl rfl (by simp [Region.binds]) hr).elim
                              obtain rfl : b11 = true := by
                                cases b11 with
                                | true => rfl
                                | false => exact (ready_in 11 rfl rfl (by simp [Region.binds]) hr).elim
                              obtain rfl : b12 = true := by
                                cases b12 with
                                | true => rfl
                                | false => exact (ready_in 12 rfl rfl (by simp [Region.binds]) hr).elim
                              obtain rfl : b13 = true := by
                                cases b13 with
                                | true => rfl
                                | false => exact (ready_in 13 rfl rfl (by simp [Region.binds]) hr).elim
                              obtain rfl : b14 = true := by
                                cases b14 with
                                | true => rfl
                                | false => exact (ready_in 14 rfl rfl (by simp [Region.binds]) hr).elim
                              obtain rfl : b15 = true := by
                                cases b15 with
                                | true => rfl
                                | false => exact (ready_in 15 rfl rfl (by simp [Region.binds]) hr).elim
                              obtain rfl : b16 = true := by
                                cases b16 with
                                | true => rfl
                                | false => exact (ready_in 16 rfl rfl (by simp [Region.binds]) hr).elim
                              obtain rfl : b17 = true := by
                                cases b17 with
                                | true => rfl
                                | false => exact (ready_in 17 rfl rfl (by simp [Region.binds]) hr).elim
                              obtain rfl : b18 = true := by
                                cases b18 with
                                | true => rfl
                                | false => exact (ready_in 18 rfl rfl (by simp [Region.binds]) hr).elim
                              obtain rfl : b19 = true := by
                                cases b19 with
                                | true => rfl
                                | false => exact (ready_in 19 rfl rfl (by simp [Region.binds]) hr).elim
                              obtain rfl : b20 = true := by
                                cases b20 with
                                | true => rfl
                                | false => exact (ready_in 20 rfl rfl (by simp [Region.binds]) hr).elim
                              obtain rfl : b21 = true := by
                                cases b21 with
                                | true => rfl
                                | false => exact (ready_in 21 rfl rfl (by simp [Region.binds]) hr).elim
                              obtain rfl : b22 = true := by
                                cases b22 with
                                | true => rfl
                                | false => exact (ready_in 22 rfl rfl (by simp [Region.binds]) hr).elim
                              obtain rfl : b23 = true := by
                                cases b23 with
                                | true => rfl
                                | false => exact (ready_in 23 rfl rfl (by simp [Region.binds]) hr).elim
                              have k0 := HT.h0 rfl
                              subst k0
                              have k1 := HT.h1 rfl
                              subst k1
                              have k2 := HT.h2 rfl
                              subst k2
                              have k3 := HT.h3 rfl
                              subst k3
                              have k4 := HT.h4 rfl
                              subst k4
                              have k5 := HT.h5 rfl
                              subst k5
                              have k6 := HT.h6 rfl
                              subst k6
                              have k7 := HT.h7 rfl
                              subst k7
                              have k8 := HT.h8 rfl
                              subst k8
                              have k9 := HT.h9 rfl
                              subst k9
                              have k10 := HT.h10 rfl
                              subst k10
                              have k11 := HT.h11 rfl
                              subst k11
                              have k12 := HT.h12 rfl
                              subst k12
                              have k13 := HT.h13 rfl
                              subst k13
                              have k14 := HT.h14 rfl
                              subst k14
                              have k15 := HT.h15 rfl
                              subst k15
                              have k16 := HT.h16 rfl
                              subst k16
                              have k17 := HT.h17 rfl
                              subst k17
                              have k18 := HT.h18 rfl
                              subst k18
                              have k19 := HT.h19 rfl
                              subst k19
                              have k20 := HT.h20 rfl
                              subst k20
                              have k21 := HT.h21 rfl
                              subst k21
                              have k22 := HT.h22 rfl
                              subst k22
                              have k23 := HT.h23 rfl
                              subst k23
                              have HF := Lib.hid (HB13.out.trans (HT.bel.mono HB13.out.size))
                              clear HT hr
                              show _
                              go_wp2
                              refine bodyPost_ret (results_tmp rfl _ _ _) rfl ⟨rfl, HF.out⟩
                        | false =>
                          as_aux_lemma =>
                            have HVA := Lib.hid hqa
                            obtain ⟨qx, hqb⟩ : ∃ qx, hasR q ⟨a, c, d, bs s⟩ = qx := ⟨_, rfl⟩
                            have HVB := Lib.hid hqb
                            have HVY : Hid (hasR (p ++ q) ⟨a, c, d, bs s⟩ = qx) := Lib.hid (by rw [HHAS.out, hqa, hqb]; exact Bool.false_or _)
                            have HQQX : Hid ((qx == qx) = true) := Lib.hid (by cases qx <;> rfl)
                            clear hqa hqb HHAS
                            refine wp_region_inv (by kernel_rfl) (I := LcfJ W13 W8.heap.size ny (.slice Ay ny cy) (.agg #[.slice Ay ny cy]) (verV a c d s) (.agg #[.slice A m cp]) (.agg #[.slice B n cq]) qx _ _ _ _ _ _ _ _ _ _ _ _ _ _ _ _ _ _ _ _ _ _ _ _ _ _ _ _ _ _ _ _ _ _ _ _ _ _ _ _ _ _ _ _ _ _ _ _ _ _ _ _ _ _ _ _ _ _ _ _ _ _ _ _ _ _ _ _ _ _ _ _ _ _ _ _ _ _ _ _ _ _ _ _ _ _ _ _ _ _ _ _ _ _ _ _ _ _ _ _ _ _ _ _ _ _ _ _ _ _ _ _ _ _ _ _ _ _ _ _ _ _ _ _ _ _ _ _ _ _ _ _ _ _ _ _ _ _ _ _ _ _ _ _ _ _ _ _ _ _ _ _ _ _ _ _ _ _ _ _ _ _ _ _ _ _ _ _ _ _ _ _ _ _ _ _ _ _ _ _ _ _ _ _ _) (.mk false false false false false false false false false false false false false false false false false false false false false false false false _ _ _ _ _ _ _ _ _ _ _ _ _ _ _ _ _ _ _ _ _ _ _ _ _ ⟨(Below.refl _ W13).drew, nofun, nofun, nofun, nofun, nofun, nofun, nofun, nofun, nofun, nofun, nofun, nofun, nofun, nofun, nofun, nofun, nofun, nofun, nofun, nofun, nofun, nofun, nofun, nofun⟩) ?step ?fin
                            case step =>
                              rintro lq a' w' ix ⟨b0, b1, b2, b3, b4, b5, b6, b7, b8, b9, b10, b11, b12, b13, b14, b15, b16, b17, b18, b19, b20, b21, b22, b23, v6, v186, v187, v188, v189, v190, v191, v192, v193, v194, v195, v196, v197, v198, v199, v200, v201, v202, v203, v204, v205, v206, v207, v208, _, HT⟩ hi
                              obtain ⟨hi_, hib⟩ := ready_lt hi
                              have HTH := Lib.hid HT
                              match ix, hi_, hi, hib with
                              | 0, _, hi, hib =>
                                clear HT
                                refine wpOp_one rfl rfl (fun K hK => ?_)
                                go_simp
                                exact hK.out _ _ (.mk true b1 b2 b3 b4 b5 b6 b7 b8 b9 b10 b11 b12 b13 b14 b15 b16 b17 b18 b19 b20 b21 b22 b23 _ _ _ _ _ _ _ _ _ _ _ _ _ _ _ _ _ _ _ _ _ _ _ _ _ { HTH.out with h0 := fun _ => rfl })
                              | 1, _, hi, hib =>
                                have d0 : b0 = true := ready_dep hi rfl 0 (by kernel_rfl)
                                have hd0 := HT.h0 d0
                                subst hd0
                                clear HT
                                refine wpOp_one rfl rfl (fun K hK => ?_)
                                go_simp
                                exact hK.out _ _ (.mk b0 true b2 b3 b4 b5 b6 b7 b8 b9 b10 b11 b12 b13 b14 b15 b16 b17 b18 b19 b20 b21 b22 b23 _ _ _ _ _ _ _ _ _ _ _ _ _ _ _ _ _ _ _ _ _ _ _ _ _ { HTH.out with h1 := fun _ => rfl })
                              | 2, _, hi, hib =>
                                have d1 : b1 = true := ready_dep hi rfl 1 (by kernel_rfl)
                                have hd1 := HT.h1 d1
                                subst hd1
                                clear HT
                                refine wpOp_one rfl rfl (fun K hK => ?_)
                                go_simp
                                exact hK.out _ _ (.mk b0 b1 true b3 b4 b5 b6 b7 b8 b9 b10 b11 b12 b13 b14 b15 b16 b17 b18 b19 b20 b21 b22 b23 _ _ _ _ _ _ _ _ _ _ _ _ _ _ _ _ _ _ _ _ _ _ _ _ _ { HTH.out with h2 := fun _ => rfl })
                              | 3, _, hi, hib =>
                                have e2 : b2 = true := ready_dep hi rfl 2 (by kernel_rfl)
                                have he2 := HT.h2 e2
                                subst he2
                                clear HT
                                refine wpOp_want rfl 2 false rfl rfl (fun K hK => ?_)
                                go_simp
                                exact hK.out _ _ (.mk b0 b1 b2 true b4 b5 b6 b7 b8 b9 b10 b11 b12 b13 b14 b15 b16 b17 b18 b19 b20 b21 b22 b23 _ _ _ _ _ _ _ _ _ _ _ _ _ _ _ _ _ _ _ _ _ _ _ _ _ { HTH.out with h3 := fun _ => rfl })
                              | 4, _, hi, hib =>
                                have e2 : b2 = true := ready_dep hi rfl 2 (by kernel_rfl)
                                have he2 := HT.h2 e2
                                subst he2
                                have d3 : b3 = true := ready_dep hi rfl 3 (by kernel_rfl)
                                have hd3 := HT.h3 d3
                                subst hd3
                                have cy := (HT.bel.cell (p := ⟨W8.heap.size, 0, none⟩) HCC.out.2.1).trans HCY.out
                                clear HT
                                refine wpOp_want rfl 2 false rfl rfl (fun K hK => ?_)
                                go_simp
                                exact hK.out _ _ (.mk b0 b1 b2 b3 true b5 b6 b7 b8 b9 b10 b11 b12 b13 b14 b15 b16 b17 b18 b19 b20 b21 b22 b23 _ _ _ _ _ _ _ _ _ _ _ _ _ _ _ _ _ _ _ _ _ _ _ _ _ { HTH.out with h4 := fun _ => rfl })
                              | 5, _, hi, hib =>
                                have e2 : b2 = true := ready_dep hi rfl 2 (by kernel_rfl)
                                have he2 := HT.h2 e2
                                subst he2
                                have d4 : b4 = true := ready_dep hi rfl 4 (by kernel_rfl)
                                have hd4 := HT.h4 d4
                                subst hd4
                                clear HT
                                refine wpOp_want rfl 2 false rfl rfl (fun K hK => ?_)
                                go_simp
                                exact hK.out _ _ (.mk b0 b1 b2 b3 b4 true b6 b7 b8 b9 b10 b11 b12 b13 b14 b15 b16 b17 b18 b19 b20 b21 b22 b23 _ _ _ _ _ _ _ _ _ _ _ _ _ _ _ _ _ _ _ _ _ _ _ _ _ { HTH.out with h5 := fun _ => rfl })
                              | 6, _, hi, hib =>
                                have e2 : b2 = true := ready_dep hi rfl 2 (by kernel_rfl)
                                have he2 := HT.h2 e2
                                subst he2
                                clear HT
                                refine wpOp_want rfl 2 false rfl rfl (fun K hK => ?_)
                                go_simp
                                exact hK.out _ _ (.mk b0 b1 b2 b3 b4 b5 true b7 b8 b9 b10 b11 b12 b13 b14 b15 b16 b17 b18 b19 b20 b21 b22 b23 _ _ _ _ _ _ _ _ _ _ _ _ _ _ _ _ _ _ _ _ _ _ _ _ _ { HTH.out with h6 := fun _ => rfl })
                              | 7, _, hi, hib =>
                                have e2 : b2 = true := ready_dep hi rfl 2 (by kernel_rfl)
                                have he2 := HT.h2 e2
                                subst he2
                                have d5 : b5 = true := ready_dep hi rfl 5 (by kernel_rfl)
                                have hd5 := HT.h5 d5
                                subst hd5
                                have d6 : b6 = true := ready_dep hi rfl 6 (by kernel_rfl)
                                have hd6 := HT.h6 d6
                                subst hd6
                                clear HT
                                refine wpOp_want rfl 2 false rfl rfl (fun K hK => ?_)
                                go_simp
                                exact hK.out _ _ (.mk b0 b1 b2 b3 b4 b5 b6 true b8 b9 b10 b11 b12 b13 b14 b15 b16 b17 b18 b19 b20 b21 b22 b23 _ _ _ _ _ _ _ _ _ _ _ _ _ _ _ _ _ _ _ _ _ _ _ _ _ { HTH.out with h7 := fun _ => rfl })
                              | 8, _, hi, hib =>
                                have e2 : b2 = true := ready_dep hi rfl 2 (by kernel_rfl)
                                have he2 := HT.h2 e2
                                subst he2
                                have d7 : b7 = true := ready_dep hi rfl 7 (by kernel_rfl)
                                have hd7 := HT.h7 d7
                                subst hd7
                                clear HT
                                refine wpOp_want rfl 2 false rfl rfl (fun K hK => ?_)
                                go_simp
                                exact hK.out _ _ (.mk b0 b1 b2 b3 b4 b5 b6 b7 true b9 b10 b11 b12 b13 b14 b15 b16 b17 b18 b19 b20 b21 b22 b23 _ _ _ _ _ _ _ _ _ _ _ _ _ _ _ _ _ _ _ _ _ _ _ _ _ { HTH.out with h8 := fun _ => rfl })
                              | 9, _, hi, hib =>
                                have e8 : b8 = true := ready_dep hi rfl 8 (by kernel_rfl)
                                have he8 := HT.h8 e8
                                subst he8
                                have cy := (HT.bel.cell (p := ⟨W8.heap.size, 0, none⟩) HCC.out.2.1).trans HCY.out
                                clear HT
                                refine wpOp_want rfl 8 true rfl rfl (fun K hK => ?_)
                                go_simp
                                exact hK.out _ _ (.mk b0 b1 b2 b3 b4 b5 b6 b7 b8 true b10 b11 b12 b13 b14 b15 b16 b17 b18 b19 b20 b21 b22 b23 _ _ _ _ _ _ _ _ _ _ _ _ _ _ _ _ _ _ _ _ _ _ _ _ _ { HTH.out with h9 := fun _ => rfl })
                              | 10, _, hi, hib =>
                                have e8 : b8 = true := ready_dep hi rfl 8 (by kernel_rfl)
                                have he8 := HT.h8 e8
                                subst he8
                                obtain ⟨y0, y1, y2, y3⟩ := cells4 ((HT.bel.block _ HCC.out.2.2.2.2).trans HCV.out)
                                clear HT
                                refine wpOp_want rfl 8 true rfl rfl (fun K hK => ?_)
                                go_simp
                                exact hK.out _ _ (.mk b0 b1 b2 b3 b4 b5 b6 b7 b8 b9 true b11 b12 b13 b14 b15 b16 b17 b18 b19 b20 b21 b22 b23 _ _ _ _ _ _ _ _ _ _ _ _ _ _ _ _ _ _ _ _ _ _ _ _ _ { HTH.out with h10 := fun _ => rfl })
                              | 11, _, hi, hib =>
                                have e8 : b8 = true := ready_dep hi rfl 8 (by kernel_rfl)
                                have he8 := HT.h8 e8
                                subst he8
                                have d9 : b9 = true := ready_dep hi rfl 9 (by kernel_rfl)
                                have hd9 := HT.h9 d9
                                subst hd9
                                have d10 : b10 = true := ready_dep hi rfl 10 (by kernel_rfl)
                                have hd10 := HT.h10 d10
                                subst hd10
                                have hM := HMM.out.1.below HMM.out.2 HT.bel
                                have HC := Lib.hid (RgHas_any Ay ny cy (p ++ q) a c d s w' W8.heap.size (HRY.out.below (HT.bel.mono HSZW8.out)) (Nat.le_trans HSZW8.out HT.bel.size) HFY.out (by have := HSS.out; omega) (by have := HLEN.out; omega) hM.1 hM.2)
                                rw [HVY.out] at HC
                                clear hM
                                clear HT
                                refine wpOp_want rfl 8 true rfl rfl (fun K hK => ?_)
                                go_simp
                                refine HC.out.mono ?_
                                rintro e w2 ⟨rfl, hb⟩
                                exact hK.out _ _ (.mk b0 b1 b2 b3 b4 b5 b6 b7 b8 b9 b10 true b12 b13 b14 b15 b16 b17 b18 b19 b20 b21 b22 b23 _ _ _ _ _ _ _ _ _ _ _ _ _ _ _ _ _ _ _ _ _ _ _ _ _ { HTH.out with bel := HTH.out.bel.trans (hb.mono HTH.out.bel.size), h11 := fun _ => rfl })
                              | 12, _, hi, hib =>
                                have e8 : b8 = true := ready_dep hi rfl 8 (by kernel_rfl)
                                have he8 := HT.h8 e8
                                subst he8
                                have ca := (HT.bel.cell (p := ⟨w.heap.size, 0, none⟩) HCC.out.2.2.1).trans HCA.out
                                clear HT
                                refine wpOp_want rfl 8 true rfl rfl (fun K hK => ?_)
                                go_simp
                                exact hK.out _ _ (.mk b0 b1 b2 b3 b4 b5 b6 b7 b8 b9 b10 b11 true b13 b14 b15 b16 b17 b18 b19 b20 b21 b22 b23 _ _ _ _ _ _ _ _ _ _ _ _ _ _ _ _ _ _ _ _ _ _ _ _ _ { HTH.out with h12 := fun _ => rfl })
                              | 13, _, hi, hib =>
                                have e8 : b8 = true := ready_dep hi rfl 8 (by kernel_rfl)
                                have he8 := HT.h8 e8
                                subst he8
                                obtain ⟨y0, y1, y2, y3⟩ := cells4 ((HT.bel.block _ HCC.out.2.2.2.2).trans HCV.out)
                                clear HT
                                refine wpOp_want rfl 8 true rfl rfl (fun K hK => ?_)
                                go_simp
                                exact hK.out _ _ (.mk b0 b1 b2 b3 b4 b5 b6 b7 b8 b9 b10 b11 b12 true b14 b15 b16 b17 b18 b19 b20 b21 b22 b23 _ _ _ _ _ _ _ _ _ _ _ _ _ _ _ _ _ _ _ _ _ _ _ _ _ { HTH.out with h13 := fun _ => rfl })
                              | 14, _, hi, hib =>
                                have e8 : b8 = true := ready_dep hi rfl 8 (by kernel_rfl)
                                have he8 := HT.h8 e8
                                subst he8
                                have d12 : b12 = true := ready_dep hi rfl 12 (by kernel_rfl)
                                have hd12 := HT.h12 d12
                                subst hd12
                                have d13 : b13 = true := ready_dep hi rfl 13 (by kernel_rfl)
                                have hd13 := HT.h13 d13
                                subst hd13
                                have hM := HMM.out.1.below HMM.out.2 HT.bel
                                have HC := Lib.hid (RgHas_any A m cp p a c d s w' w.heap.size (HPA.out.below (HT.bel.mono HSZw.out)) (Nat.le_trans HSZw.out HT.bel.size) HFA.out (by have := HSS.out; omega) (by have := HLEN.out; omega) hM.1 hM.2)
                                rw [HVA.out] at HC
                                clear hM
                                clear HT
                                refine wpOp_want rfl 8 true rfl rfl (fun K hK => ?_)
                                go_simp
                                refine HC.out.mono ?_
                                rintro e w2 ⟨rfl, hb⟩
                                exact hK.out _ _ (.mk b0 b1 b2 b3 b4 b5 b6 b7 b8 b9 b10 b11 b12 b13 true b15 b16 b17 b18 b19 b20 b21 b22 b23 _ _ _ _ _ _ _ _ _ _ _ _ _ _ _ _ _ _ _ _ _ _ _ _ _ { HTH.out with bel := HTH.out.bel.trans (hb.mono HTH.out.bel.size), h14 := fun _ => rfl })
                              | 15, _, hi, hib =>
                                have e8 : b8 = true := ready_dep hi rfl 8 (by kernel_rfl)
                                have he8 := HT.h8 e8
                                subst he8
                                have d14 : b14 = true := ready_dep hi rfl 14 (by kernel_rfl)
                                have hd14 := HT.h14 d14
                                subst hd14
                                clear HT
                                refine wpOp_want rfl 8 true rfl rfl (fun K hK => ?_)
                                go_simp
                                exact hK.out _ _ (.mk b0 b1 b2 b3 b4 b5 b6 b7 b8 b9 b10 b11 b12 b13 b14 true b16 b17 b18 b19 b20 b21 b22 b23 _ _ _ _ _ _ _ _ _ _ _ _ _ _ _ _ _ _ _ _ _ _ _ _ _ { HTH.out with h15 := fun _ => rfl })
                              | 16, _, hi, hib =>
                                have e15 : b15 = true := ready_dep hi rfl 15 (by kernel_rfl)
                                have he15 := HT.h15 e15
                                subst he15
                                have cb := (HT.bel.cell (p := ⟨w.heap.size + 1, 0, none⟩) HCC.out.2.2.2.1).trans HCB.out
                                clear HT
                                refine wpOp_want rfl 15 false rfl rfl (fun K hK => ?_)
                                go_simp
                                exact hK.out _ _ (.mk b0 b1 b2 b3 b4 b5 b6 b7 b8 b9 b10 b11 b12 b13 b14 b15 true b17 b18 b19 b20 b21 b22 b23 _ _ _ _ _ _ _ _ _ _ _ _ _ _ _ _ _ _ _ _ _ _ _ _ _ { HTH.out with h16 := fun _ => rfl })
                              | 17, _, hi, hib =>
                                have e15 : b15 = true := ready_dep hi rfl 15 (by kernel_rfl)
                                have he15 := HT.h15 e15
                                subst he15
                                obtain ⟨y0, y1, y2, y3⟩ := cells4 ((HT.bel.block _ HCC.out.2.2.2.2).trans HCV.out)
                                clear HT
                                refine wpOp_want rfl 15 false rfl rfl (fun K hK => ?_)
                                go_simp
                                exact hK.out _ _ (.mk b0 b1 b2 b3 b4 b5 b6 b7 b8 b9 b10 b11 b12 b13 b14 b15 b16 true b18 b19 b20 b21 b22 b23 _ _ _ _ _ _ _ _ _ _ _ _ _ _ _ _ _ _ _ _ _ _ _ _ _ { HTH.out with h17 := fun _ => rfl })
                              | 18, _, hi, hib =>
                                have e15 : b15 = true := ready_dep hi rfl 15 (by kernel_rfl)
                                have he15 := HT.h15 e15
                                subst he15
                                have d16 : b16 = true := ready_dep hi rfl 16 (by kernel_rfl)
                                have hd16 := HT.h16 d16
                                subst hd16
                                have d17 : b17 = true := ready_dep hi rfl 17 (by kernel_rfl)
                                have hd17 := HT.h17 d17
                                subst hd17
                                have hM := HMM.out.1.below HMM.out.2 HT.bel
                                have HC := Lib.hid (RgHas_any B n cq q a c d s w' w.heap.size (HPB.out.below (HT.bel.mono HSZw.out)) (Nat.le_trans HSZw.out HT.bel.size) HFB.out (by have := HSS.out; omega) (by have := HLEN.out; omega) hM.1 hM.2)
                                rw [HVB.out] at HC
                                clear hM
                                clear HT
                                refine wpOp_want rfl 15 false rfl rfl (fun K hK => ?_)
                                go_simp
                                refine HC.out.mono ?_
                                rintro e w2 ⟨rfl, hb⟩
                                exact hK.out _ _ (.mk b0 b1 b2 b3 b4 b5 b6 b7 b8 b9 b10 b11 b12 b13 b14 b15 b16 b17 true b19 b20 b21 b22 b23 _ _ _ _ _ _ _ _ _ _ _ _ _ _ _ _ _ _ _ _ _ _ _ _ _ { HTH.out with bel := HTH.out.bel.trans (hb.mono HTH.out.bel.size), h18 := fun _ => rfl })
                              | 19, _, hi, hib =>
                                have e8 : b8 = true := ready_dep hi rfl 8 (by kernel_rfl)
                                have he8 := HT.h8 e8
                                subst he8
                                have d15 : b15 = true := ready_dep hi rfl 15 (by kernel_rfl)
                                have hd15 := HT.h15 d15
                                subst hd15
                                have d18 : b18 = true := ready_dep hi rfl 18 (by kernel_rfl)
                                have hd18 := HT.h18 d18
                                subst hd18
                                clear HT
                                refine wpOp_want rfl 8 true rfl rfl (fun K hK => ?_)
                                go_simp
                                exact hK.out _ _ (.mk b0 b1 b2 b3 b4 b5 b6 b7 b8 b9 b10 b11 b12 b13 b14 b15 b16 b17 b18 true b20 b21 b22 b23 _ _ _ _ _ _ _ _ _ _ _ _ _ _ _ _ _ _ _ _ _ _ _ _ _ { HTH.out with h19 := fun _ => rfl })
                              | 20, _, hi, hib =>
                                have e8 : b8 = true := ready_dep hi rfl 8 (by kernel_rfl)
                                have he8 := HT.h8 e8
                                subst he8
                                have d11 : b11 = true := ready_dep hi rfl 11 (by kernel_rfl)
                                have hd11 := HT.h11 d11
                                subst hd11
                                have d19 : b19 = true := ready_dep hi rfl 19 (by kernel_rfl)
                                have hd19 := HT.h19 d19
                                subst hd19
                                have hqq := HQQX.out
                                clear HT
                                refine wpOp_want rfl 8 true rfl rfl (fun K hK => ?_)
                                go_simp
                                exact hK.out _ _ (.mk b0 b1 b2 b3 b4 b5 b6 b7 b8 b9 b10 b11 b12 b13 b14 b15 b16 b17 b18 b19 true b21 b22 b23 _ _ _ _ _ _ _ _ _ _ _ _ _ _ _ _ _ _ _ _ _ _ _ _ _ { HTH.out with h20 := fun _ => rfl })
                              | 21, _, hi, hib =>
                                have e2 : b2 = true := ready_dep hi rfl 2 (by kernel_rfl)
                                have he2 := HT.h2 e2
                                subst he2
                                have d8 : b8 = true := ready_dep hi rfl 8 (by kernel_rfl)
                                have hd8 := HT.h8 d8
                                subst hd8
                                have d20 : b20 = true := ready_dep hi rfl 20 (by kernel_rfl)
                                have hd20 := HT.h20 d20
                                subst hd20
                                clear HT
                                refine wpOp_want rfl 2 false rfl rfl (fun K hK => ?_)
                                go_simp
                                exact hK.out _ _ (.mk b0 b1 b2 b3 b4 b5 b6 b7 b8 b9 b10 b11 b12 b13 b14 b15 b16 b17 b18 b19 b20 true b22 b23 _ _ _ _ _ _ _ _ _ _ _ _ _ _ _ _ _ _ _ _ _ _ _ _ _ { HTH.out with h21 := fun _ => rfl })
                              | 22, _, hi, hib =>
                                have d2 : b2 = true := ready_dep hi rfl 2 (by kernel_rfl)
                                have hd2 := HT.h2 d2
                                subst hd2
                                have d21 : b21 = true := ready_dep hi rfl 21 (by kernel_rfl)
                                have hd21 := HT.h21 d21
                                subst hd21
                                clear HT
                                refine wpOp_one rfl rfl (fun K hK => ?_)
                                go_simp
                                exact hK.out _ _ (.mk b0 b1 b2 b3 b4 b5 b6 b7 b8 b9 b10 b11 b12 b13 b14 b15 b16 b17 b18 b19 b20 b21 true b23 _ _ _ _ _ _ _ _ _ _ _ _ _ _ _ _ _ _ _ _ _ _ _ _ _ { HTH.out with h22 := fun _ => rfl })
                              | 23, _, hi, hib =>
                                have d22 : b22 = true := ready_dep hi rfl 22 (by kernel_rfl)
                                have hd22 := HT.h22 d22
                                subst hd22
                                clear HT
                                refine wpOp_one rfl rfl (fun K hK => ?_)
                                go_simp
                                exact hK.out _ _ (.mk b0 b1 b2 b3 b4 b5 b6 b7 b8 b9 b10 b11 b12 b13 b14 b15 b16 b17 b18 b19 b20 b21 b22 true _ _ _ _ _ _ _ _ _ _ _ _ _ _ _ _ _ _ _ _ _ _ _ _ _ { HTH.out with h23 := fun _ => rfl })
                            case fin =>
                              rintro lq a' w' ⟨b0, b1, b2, b3, b4, b5, b6, b7, b8, b9, b10, b11, b12, b13, b14, b15, b16, b17, b18, b19, b20, b21, b22, b23, v6, v186, v187, v188, v189, v190, v191, v192, v193, v194, v195, v196, v197, v198, v199, v200, v201, v202, v203, v204, v205, v206, v207, v208, _, HT⟩ hr
                              obtain rfl : b0 = true := by
                                cases b0 with
                                | true => rfl
                                | false => exact (ready_in 0 rfl rfl (by simp [Region.binds]) hr).elim
                              obtain rfl : b1 = true := by
                                cases b1 with
                                | true => rfl
                                | false => exact (ready_in 1 rfl rfl (by simp [Region.binds]) hr).elim
                              obtain rfl : b2 = true := by
                                cases b2 with
                                | true => rfl
                                | false => exact (ready_in 2 rfl rfl (by simp [Region.binds]) hr).elim
                              obtain rfl : b3 = true := by
                                cases b3 with
                                | true => rfl
                                | false => exact (ready_in 3 rfl rfl (by simp [Region.binds]) hr).elim
                              obtain rfl : b4 = true := by
                                cases b4 with
                                | true => rfl
                                | false => exact (ready_in 4 rfl rfl (by simp [Region.binds]) hr).elim
                              obtain rfl : b5 = true := by
                                cases b5 with
                                | true => rfl
                                | false => exact (ready_in 5 rfl rfl (by simp [Region.binds]) hr).elim
                              obtain rfl : b6 = true := by
                                cases b6 with
                                | true => rfl
                                | false => exact (ready_in 6 rfl rfl (by simp [Region.binds]) hr).elim
                              obtain rfl : b7 = true := by
                                cases b7 with
                                | true => rfl
                                | false => exact (ready_in 7 rfl rfl (by simp [Region.binds]) hr).elim
                              obtain rfl : b8 = true := by
                                cases b8 with
                                | true => rfl
                                | false => exact (ready_in 8 rfl rfl (by simp [Region.binds]) hr).elim
                              obtain rfl : b9 = true := by
                                cases b9 with
                                | true => rfl
                                | false => exact (ready_in 9 rfl rfl (by simp [Region.binds]) hr).elim
                              obtain rfl : b10 = true := by
                                cases b10 with
                                | true => rfl
                                | false => exact (ready_in 10 rfl rfl (by simp [Region.binds]) hr).elim
                              obtain rfl : b11 = true := by
                                cases b11 with
                                | true => rfl
                                | false => exact (ready_in 11 rfl rfl (by simp [Region.binds]) hr).elim
                              obtain rfl : b12 = true := by
                                cases b12 with
                                | true => rfl
                                | false => exact (ready_in 12 rfl rfl (by simp [Region.binds]) hr).elim
                              obtain rfl : b13 = true := by
                                cases b13 with
                                | true => rfl
                                | false => exact (ready_in 13 rfl rfl (by simp [Region.binds]) hr).elim
                              obtain rfl : b14 = true := by
                                cases b14 with
                                | true => rfl
                                | false => exact (ready_in 14 rfl rfl (by simp [Region.binds]) hr).elim
                              obtain rfl : b15 = true := by
                                cases b15 with
                                | true => rfl
                                | false => exact (ready_in 15 rfl rfl (by simp [Region.binds]) hr).elim
                              obtain rfl : b16 = true := by
                                cases b16 with
                                | true => rfl
                                | false => exact (ready_in 16 rfl rfl (by simp [Region.binds]) hr).elim
                              obtain rfl : b17 = true := by
                                cases b17 with
                                | true => rfl
                                | false => exact (ready_in 17 rfl rfl (by simp [Region.binds]) hr).elim
                              obtain rfl : b18 = true := by
                                cases b18 with
                                | true => rfl
                                | false => exact (ready_in 18 rfl rfl (by simp [Region.binds]) hr).elim
                              obtain rfl : b19 = true := by
                                cases b19 with
                                | true => rfl
                                | false => exact (ready_in 19 rfl rfl (by simp [Region.binds]) hr).elim
                              obtain rfl : b20 = true := by
                                cases b20 with
                                | true => rfl
                                | false => exact (ready_in 20 rfl rfl (by simp [Region.binds]) hr).elim
                              obtain rfl : b21 = true := by
                                cases b21 with
                                | true => rfl
                                | false => exact (ready_in 21 rfl rfl (by simp [Region.binds]) hr).elim
                              obtain rfl : b22 = true := by
                                cases b22 with
                                | true => rfl
                                | false => exact (ready_in 22 rfl rfl (by simp [Region.binds]) hr).elim
                              obtain rfl : b23 = true := by
                                cases b23 with
                                | true => rfl
                                | false => exact (ready_in 23 rfl rfl (by simp [Region.binds]) hr).elim
                              have k0 := HT.h0 rfl
                              subst k0
                              have k1 := HT.h1 rfl
                              subst k1
                              have k2 := HT.h2 rfl
                              subst k2
                              have k3 := HT.h3 rfl
                              subst k3
                              have k4 := HT.h4 rfl
                              subst k4
                              have k5 := HT.h5 rfl
                              subst k5
                              have k6 := HT.h6 rfl
                              subst k6
                              have k7 := HT.h7 rfl
                              subst k7
                              have k8 := HT.h8 rfl
                              subst k8
                              have k9 := HT.h9 rfl
                              subst k9
                              have k10 := HT.h10 rfl
                              subst k10
                              have k11 := HT.h11 rfl
                              subst k11
                              have k12 := HT.h12 rfl
                              subst k12
                              have k13 := HT.h13 rfl
                              subst k13
                              have k14 := HT.h14 rfl
                              subst k14
                              have k15 := HT.h15 rfl
                              subst k15
                              have k16 := HT.h16 rfl
                              subst k16
                              have k17 := HT.h17 rfl
                              subst k17
                              have k18 := HT.h18 rfl
                              subst k18
                              have k19 := HT.h19 rfl
                              subst k19
                              have k20 := HT.h20 rfl
                              subst k20
                              have k21 := HT.h21 rfl
                              subst k21
                              have k22 := HT.h22 rfl
                              subst k22
                              have k23 := HT.h23 rfl
                              subst k23
                              have HF := Lib.hid (HB13.out.trans (HT.bel.mono HB13.out.size))
                              clear HT hr
                              show _
                              go_wp2
                              refine bodyPost_ret (results_tmp rfl _ _ _) rfl ⟨rfl, HF.out⟩
end Go.Proofs.YtbmhjmdbolnbaaaDoor
