/-
  THE LAW RangesLists (printed by genlawru.py).
-/
import Derived.Test.YtbmhjmdbolnbaaaDoorRTurn
namespace Go.Proofs.YtbmhjmdbolnbaaaDoor
open Go.RowKit
open SemP
set_option linter.unusedVariables false
set_option linter.unusedSimpArgs false
set_option maxRecDepth 100000
structure LuSt (W0 : World) (bx b off k m cp : Nat) (vals : List Value) (b0 b1 b2 b3 b4 b5 b6 b7 b8 b9 b10 b11 b12 b13 : Bool) (v10 v45 v46 v47 v48 v49 v50 v51 v52 v53 v54 v55 v56 : Value) (w' : World) : Prop where
  bel : Below W0.heap.size W0 w'
  q1 : b5 = true → b0 = true
  q2 : b10 = true → b5 = true
  q3 : b13 = true → b12 = true ∧ b10 = true
  q4 : b11 = true → b10 = true
  oE : b0 = true → b5 = false → OwnV w' W0.heap.size v45 []
  o1 : b5 = true → b10 = false → OwnV w' W0.heap.size v50 (vals.drop k)
  o2 : b10 = true → OwnV w' W0.heap.size v55 (vals.drop k ++ vals.take k)
  h1 : b1 = true → v46 = .pointer (some ⟨bx, 0, none⟩)
  h2 : b2 = true → v47 = .slice (some ⟨b, off, none⟩) m cp
  h3 : b3 = true → v48 = .int .i64 (k : Int)
  h4 : b4 = true → v49 = .slice (some ⟨b, off + k, none⟩) (m - k) (cp - k)
  h6 : b6 = true → v51 = .pointer (some ⟨bx, 0, none⟩)
  h7 : b7 = true → v52 = .slice (some ⟨b, off, none⟩) m cp
  h8 : b8 = true → v53 = .int .i64 (k : Int)
  h9 : b9 = true → v54 = .slice (some ⟨b, off, none⟩) k cp
  hB : b11 = true → v56 = .agg #[v55]
  hA : b12 = true → ∃ gb, v10 = .pointer (some ⟨gb, 0, none⟩) ∧ W0.heap.size ≤ gb ∧ gb < w'.heap.size ∧ (b13 = false → w'.cell? ⟨gb, 0, none⟩ = some (.slice none 0 0) ∧ w'.frozen? ⟨gb, 0, none⟩ = false) ∧ (b0 = true → b5 = false → v45.ownBlock ≠ some gb) ∧ (b5 = true → b10 = false → v50.ownBlock ≠ some gb) ∧ (b10 = true → v55.ownBlock ≠ some gb) ∧ (b13 = true → w'.cell? ⟨gb, 0, none⟩ = some v55)
inductive LuJ (W0 : World) (bx b off k m cp : Nat) (vals : List Value) (p0 p1 p2 p3 p4 p5 p6 p7 p8 p9 p11 p12 p13 p14 p15 p16 p17 p18 p19 p20 p21 p22 p23 p24 p25 p26 p27 p28 p29 p30 p31 p32 p33 p34 p35 p36 p37 p38 p39 p40 p41 p42 p43 p44 p57 p58 p59 p60 p61 p62 p63 p64 p65 p66 p67 p68 p69 p70 p71 p72 p73 p74 p75 p76 p77 p78 p79 p80 p81 p82 p83 p84 p85 p86 p87 p88 p89 p90 p91 p92 p93 p94 p95 p96 p97 p98 p99 p100 p101 p102 p103 p104 p105 p106 p107 p108 p109 p110 p111 p112 p113 p114 p115 p116 p117 : Value) : Array Bool → Act → World → Prop where
  | mk (b0 b1 b2 b3 b4 b5 b6 b7 b8 b9 b10 b11 b12 b13 : Bool) (v10 v45 v46 v47 v48 v49 v50 v51 v52 v53 v54 v55 v56 : Value) (w' : World) : LuSt W0 bx b off k m cp vals b0 b1 b2 b3 b4 b5 b6 b7 b8 b9 b10 b11 b12 b13 v10 v45 v46 v47 v48 v49 v50 v51 v52 v53 v54 v55 v56 w' → LuJ W0 bx b off k m cp vals p0 p1 p2 p3 p4 p5 p6 p7 p8 p9 p11 p12 p13 p14 p15 p16 p17 p18 p19 p20 p21 p22 p23 p24 p25 p26 p27 p28 p29 p30 p31 p32 p33 p34 p35 p36 p37 p38 p39 p40 p41 p42 p43 p44 p57 p58 p59 p60 p61 p62 p63 p64 p65 p66 p67 p68 p69 p70 p71 p72 p73 p74 p75 p76 p77 p78 p79 p80 p81 p82 p83 p84 p85 p86 p87 p88 p89 p90 p91 p92 p93 p94 p95 p96 p97 p98 p99 p100 p101 p102 p103 p104 p105 p106 p107 p108 p109 p110 p111 p112 p113 p114 p115 p116 p117 #[b0, b1, b2, b3, b4, b5, b6, b7, b8, b9, b10, b11, b12, b13] { tmps := List.toArray (p0 :: p1 :: p2 :: p3 :: p4 :: p5 :: p6 :: p7 :: p8 :: p9 :: v10 :: p11 :: p12 :: p13 :: p14 :: p15 :: p16 :: p17 :: p18 :: p19 :: p20 :: p21 :: p22 :: p23 :: p24 :: p25 :: p26 :: p27 :: p28 :: p29 :: p30 :: p31 :: p32 :: p33 :: p34 :: p35 :: p36 :: p37 :: p38 :: p39 :: p40 :: p41 :: p42 :: p43 :: p44 :: v45 :: v46 :: v47 :: v48 :: v49 :: v50 :: v51 :: v52 :: v53 :: v54 :: v55 :: v56 :: p57 :: p58 :: p59 :: p60 :: p61 :: p62 :: p63 :: p64 :: p65 :: p66 :: p67 :: p68 :: p69 :: p70 :: p71 :: p72 :: p73 :: p74 :: p75 :: p76 :: p77 :: p78 :: p79 :: p80 :: p81 :: p82 :: p83 :: p84 :: p85 :: p86 :: p87 :: p88 :: p89 :: p90 :: p91 :: p92 :: p93 :: p94 :: p95 :: p96 :: p97 :: p98 :: p99 :: p100 :: p101 :: p102 :: p103 :: p104 :: p105 :: p106 :: p107 :: p108 :: p109 :: p110 :: p111 :: p112 :: p113 :: p114 :: p115 :: p116 :: p117 :: []), defers := [] } w'
structure LvSt (w0 : World) (vt vv vr : Value) (q : Bool) (b0 b1 b2 b3 b4 b5 b6 : Bool) (v88 v89 v90 v91 v92 v93 v94 : Value) (w' : World) : Prop where
  bel : Below w0.heap.size w0 w'
  h0 : b0 = true → v88 = vt
  h1 : b1 = true → v89 = vv
  h2 : b2 = true → v90 = .bool q
  h3 : b3 = true → v91 = vr
  h4 : b4 = true → v92 = vv
  h5 : b5 = true → v93 = .bool q
  h6 : b6 = true → v94 = .bool false
inductive LvJ (w0 : World) (vt vv vr : Value) (q : Bool) (p0 p1 p2 p3 p4 p5 p6 p7 p8 p9 p10 p11 p12 p13 p14 p15 p16 p17 p18 p19 p20 p21 p22 p23 p24 p25 p26 p27 p28 p29 p30 p31 p32 p33 p34 p35 p36 p37 p38 p39 p40 p41 p42 p43 p44 p45 p46 p47 p48 p49 p50 p51 p52 p53 p54 p55 p56 p57 p58 p59 p60 p61 p62 p63 p64 p65 p66 p67 p68 p69 p70 p71 p72 p73 p74 p75 p76 p77 p78 p79 p80 p81 p82 p83 p84 p85 p86 p87 p95 p96 p97 p98 p99 p100 p101 p102 p103 p104 p105 p106 p107 p108 p109 p110 p111 p112 p113 p114 p115 p116 p117 : Value) : Array Bool → Act → World → Prop where
  | mk (b0 b1 b2 b3 b4 b5 b6 : Bool) (v88 v89 v90 v91 v92 v93 v94 : Value) (w' : World) : LvSt w0 vt vv vr q b0 b1 b2 b3 b4 b5 b6 v88 v89 v90 v91 v92 v93 v94 w' → LvJ w0 vt vv vr q p0 p1 p2 p3 p4 p5 p6 p7 p8 p9 p10 p11 p12 p13 p14 p15 p16 p17 p18 p19 p20 p21 p22 p23 p24 p25 p26 p27 p28 p29 p30 p31 p32 p33 p34 p35 p36 p37 p38 p39 p40 p41 p42 p43 p44 p45 p46 p47 p48 p49 p50 p51 p52 p53 p54 p55 p56 p57 p58 p59 p60 p61 p62 p63 p64 p65 p66 p67 p68 p69 p70 p71 p72 p73 p74 p75 p76 p77 p78 p79 p80 p81 p82 p83 p84 p85 p86 p87 p95 p96 p97 p98 p99 p100 p101 p102 p103 p104 p105 p106 p107 p108 p109 p110 p111 p112 p113 p114 p115 p116 p117 #[b0, b1, b2, b3, b4, b5, b6] { tmps := List.toArray (p0 :: p1 :: p2 :: p3 :: p4 :: p5 :: p6 :: p7 :: p8 :: p9 :: p10 :: p11 :: p12 :: p13 :: p14 :: p15 :: p16 :: p17 :: p18 :: p19 :: p20 :: p21 :: p22 :: p23 :: p24 :: p25 :: p26 :: p27 :: p28 :: p29 :: p30 :: p31 :: p32 :: p33 :: p34 :: p35 :: p36 :: p37 :: p38 :: p39 :: p40 :: p41 :: p42 :: p43 :: p44 :: p45 :: p46 :: p47 :: p48 :: p49 :: p50 :: p51 :: p52 :: p53 :: p54 :: p55 :: p56 :: p57 :: p58 :: p59 :: p60 :: p61 :: p62 :: p63 :: p64 :: p65 :: p66 :: p67 :: p68 :: p69 :: p70 :: p71 :: p72 :: p73 :: p74 :: p75 :: p76 :: p77 :: p78 :: p79 :: p80 :: p81 :: p82 :: p83 :: p84 :: p85 :: p86 :: p87 :: v88 :: v89 :: v90 :: v91 :: v92 :: v93 :: v94 :: p95 :: p96 :: p97 :: p98 :: p99 :: p100 :: p101 :: p102 :: p103 :: p104 :: p105 :: p106 :: p107 :: p108 :: p109 :: p110 :: p111 :: p112 :: p113 :: p114 :: p115 :: p116 :: p117 :: []), defers := [] } w'
structure LwSt (W0 : World) (bx b off k m cp : Nat) (vals : List Value) (vk : Value) (b0 b1 b2 b3 b4 b5 b6 b7 b8 b9 b10 b11 b12 b13 : Bool) (v15 v99 v100 v101 v102 v103 v104 v105 v106 v107 v108 v109 v110 : Value) (w' : World) : Prop where
  bel : Below W0.heap.size W0 w'
  q1 : b3 = true → b0 = true
  q2 : b10 = true → b3 = true
  q3 : b13 = true → b12 = true ∧ b10 = true
  q4 : b11 = true → b10 = true
  oE : b0 = true → b3 = false → OwnV w' W0.heap.size v99 []
  o1 : b3 = true → b10 = false → OwnV w' W0.heap.size v102 vals
  o2 : b10 = true → OwnV w' W0.heap.size v109 (vals ++ [vk])
  h1 : b1 = true → v100 = .pointer (some ⟨bx, 0, none⟩)
  h2 : b2 = true → v101 = .slice (some ⟨b, off, none⟩) m cp
  h4 : b4 = true → v103 = .pointer (some ⟨bx, 0, none⟩)
  h5 : b5 = true → v104 = .slice (some ⟨b, off, none⟩) m cp
  h6 : b6 = true → v105 = .int .i64 (k : Int)
  h7 : b7 = true → v106 = .pointer (some ⟨b, off + k, none⟩)
  h8 : b8 = true → v107 = vk
  hB : b11 = true → v110 = .agg #[v109]
  hA : b12 = true → ∃ gb, v15 = .pointer (some ⟨gb, 0, none⟩) ∧ W0.heap.size ≤ gb ∧ gb < w'.heap.size ∧ (b13 = false → w'.cell? ⟨gb, 0, none⟩ = some (.slice none 0 0) ∧ w'.frozen? ⟨gb, 0, none⟩ = false) ∧ (b0 = true → b3 = false → v99.ownBlock ≠ some gb) ∧ (b3 = true → b10 = false → v102.ownBlock ≠ some gb) ∧ (b10 = true → v109.ownBlock ≠ some gb) ∧ (b13 = true → w'.cell? ⟨gb, 0, none⟩ = some v109)
  hC : b9 = true → b10 = false → ∃ g1, v108 = .slice (some ⟨g1, 0, none⟩) 1 1 ∧ w'.cell? ⟨g1, 0, none⟩ = some vk ∧ g1 < w'.heap.size ∧ (b0 = true → b3 = false → v99.ownBlock ≠ some g1) ∧ (b3 = true → b10 = false → v102.ownBlock ≠ some g1)
inductive LwJ (W0 : World) (bx b off k m cp : Nat) (vals : List Value) (vk : Value) (p0 p1 p2 p3 p4 p5 p6 p7 p8 p9 p10 p11 p12 p13 p14 p16 p17 p18 p19 p20 p21 p22 p23 p24 p25 p26 p27 p28 p29 p30 p31 p32 p33 p34 p35 p36 p37 p38 p39 p40 p41 p42 p43 p44 p45 p46 p47 p48 p49 p50 p51 p52 p53 p54 p55 p56 p57 p58 p59 p60 p61 p62 p63 p64 p65 p66 p67 p68 p69 p70 p71 p72 p73 p74 p75 p76 p77 p78 p79 p80 p81 p82 p83 p84 p85 p86 p87 p88 p89 p90 p91 p92 p93 p94 p95 p96 p97 p98 p111 p112 p113 p114 p115 p116 p117 : Value) : Array Bool → Act → World → Prop where
  | mk (b0 b1 b2 b3 b4 b5 b6 b7 b8 b9 b10 b11 b12 b13 : Bool) (v15 v99 v100 v101 v102 v103 v104 v105 v106 v107 v108 v109 v110 : Value) (w' : World) : LwSt W0 bx b off k m cp vals vk b0 b1 b2 b3 b4 b5 b6 b7 b8 b9 b10 b11 b12 b13 v15 v99 v100 v101 v102 v103 v104 v105 v106 v107 v108 v109 v110 w' → LwJ W0 bx b off k m cp vals vk p0 p1 p2 p3 p4 p5 p6 p7 p8 p9 p10 p11 p12 p13 p14 p16 p17 p18 p19 p20 p21 p22 p23 p24 p25 p26 p27 p28 p29 p30 p31 p32 p33 p34 p35 p36 p37 p38 p39 p40 p41 p42 p43 p44 p45 p46 p47 p48 p49 p50 p51 p52 p53 p54 p55 p56 p57 p58 p59 p60 p61 p62 p63 p64 p65 p66 p67 p68 p69 p70 p71 p72 p73 p74 p75 p76 p77 p78 p79 p80 p81 p82 p83 p84 p85 p86 p87 p88 p89 p90 p91 p92 p93 p94 p95 p96 p97 p98 p111 p112 p113 p114 p115 p116 p117 #[b0, b1, b2, b3, b4, b5, b6, b7, b8, b9, b10, b11, b12, b13] { tmps := List.toArray (p0 :: p1 :: p2 :: p3 :: p4 :: p5 :: p6 :: p7 :: p8 :: p9 :: p10 :: p11 :: p12 :: p13 :: p14 :: v15 :: p16 :: p17 :: p18 :: p19 :: p20 :: p21 :: p22 :: p23 :: p24 :: p25 :: p26 :: p27 :: p28 :: p29 :: p30 :: p31 :: p32 :: p33 :: p34 :: p35 :: p36 :: p37 :: p38 :: p39 :: p40 :: p41 :: p42 :: p43 :: p44 :: p45 :: p46 :: p47 :: p48 :: p49 :: p50 :: p51 :: p52 :: p53 :: p54 :: p55 :: p56 :: p57 :: p58 :: p59 :: p60 :: p61 :: p62 :: p63 :: p64 :: p65 :: p66 :: p67 :: p68 :: p69 :: p70 :: p71 :: p72 :: p73 :: p74 :: p75 :: p76 :: p77 :: p78 :: p79 :: p80 :: p81 :: p82 :: p83 :: p84 :: p85 :: p86 :: p87 :: p88 :: p89 :: p90 :: p91 :: p92 :: p93 :: p94 :: p95 :: p96 :: p97 :: p98 :: v99 :: v100 :: v101 :: v102 :: v103 :: v104 :: v105 :: v106 :: v107 :: v108 :: v109 :: v110 :: p111 :: p112 :: p113 :: p114 :: p115 :: p116 :: p117 :: []), defers := [] } w'
structure LxSt (w0 : World) (vt vv vr : Value) (q : Bool) (b0 b1 b2 b3 b4 b5 b6 b7 : Bool) (v6 v111 v112 v113 v114 v115 v116 v117 : Value) (w' : World) : Prop where
  bel : Below w0.heap.size w0 w'
  h0 : b0 = true → v111 = vt
  h1 : b1 = true → v112 = vv
  h2 : b2 = true → v113 = .bool q
  h3 : b3 = true → v114 = vr
  h4 : b4 = true → v115 = vv
  h5 : b5 = true → v116 = .bool q
  h6 : b6 = true → v117 = .bool true
  h7 : b7 = true → v6 = .bool true
inductive LxJ (w0 : World) (vt vv vr : Value) (q : Bool) (p0 p1 p2 p3 p4 p5 p7 p8 p9 p10 p11 p12 p13 p14 p15 p16 p17 p18 p19 p20 p21 p22 p23 p24 p25 p26 p27 p28 p29 p30 p31 p32 p33 p34 p35 p36 p37 p38 p39 p40 p41 p42 p43 p44 p45 p46 p47 p48 p49 p50 p51 p52 p53 p54 p55 p56 p57 p58 p59 p60 p61 p62 p63 p64 p65 p66 p67 p68 p69 p70 p71 p72 p73 p74 p75 p76 p77 p78 p79 p80 p81 p82 p83 p84 p85 p86 p87 p88 p89 p90 p91 p92 p93 p94 p95 p96 p97 p98 p99 p100 p101 p102 p103 p104 p105 p106 p107 p108 p109 p110 : Value) : Array Bool → Act → World → Prop where
  | mk (b0 b1 b2 b3 b4 b5 b6 b7 : Bool) (v6 v111 v112 v113 v114 v115 v116 v117 : Value) (w' : World) : LxSt w0 vt vv vr q b0 b1 b2 b3 b4 b5 b6 b7 v6 v111 v112 v113 v114 v115 v116 v117 w' → LxJ w0 vt vv vr q p0 p1 p2 p3 p4 p5 p7 p8 p9 p10 p11 p12 p13 p14 p15 p16 p17 p18 p19 p20 p21 p22 p23 p24 p25 p26 p27 p28 p29 p30 p31 p32 p33 p34 p35 p36 p37 p38 p39 p40 p41 p42 p43 p44 p45 p46 p47 p48 p49 p50 p51 p52 p53 p54 p55 p56 p57 p58 p59 p60 p61 p62 p63 p64 p65 p66 p67 p68 p69 p70 p71 p72 p73 p74 p75 p76 p77 p78 p79 p80 p81 p82 p83 p84 p85 p86 p87 p88 p89 p90 p91 p92 p93 p94 p95 p96 p97 p98 p99 p100 p101 p102 p103 p104 p105 p106 p107 p108 p109 p110 #[b0, b1, b2, b3, b4, b5, b6, b7] { tmps := List.toArray (p0 :: p1 :: p2 :: p3 :: p4 :: p5 :: v6 :: p7 :: p8 :: p9 :: p10 :: p11 :: p12 :: p13 :: p14 :: p15 :: p16 :: p17 :: p18 :: p19 :: p20 :: p21 :: p22 :: p23 :: p24 :: p25 :: p26 :: p27 :: p28 :: p29 :: p30 :: p31 :: p32 :: p33 :: p34 :: p35 :: p36 :: p37 :: p38 :: p39 :: p40 :: p41 :: p42 :: p43 :: p44 :: p45 :: p46 :: p47 :: p48 :: p49 :: p50 :: p51 :: p52 :: p53 :: p54 :: p55 :: p56 :: p57 :: p58 :: p59 :: p60 :: p61 :: p62 :: p63 :: p64 :: p65 :: p66 :: p67 :: p68 :: p69 :: p70 :: p71 :: p72 :: p73 :: p74 :: p75 :: p76 :: p77 :: p78 :: p79 :: p80 :: p81 :: p82 :: p83 :: p84 :: p85 :: p86 :: p87 :: p88 :: p89 :: p90 :: p91 :: p92 :: p93 :: p94 :: p95 :: p96 :: p97 :: p98 :: p99 :: p100 :: p101 :: p102 :: p103 :: p104 :: p105 :: p106 :: p107 :: p108 :: p109 :: p110 :: v111 :: v112 :: v113 :: v114 :: v115 :: v116 :: v117 :: []), defers := [] } w'
set_option maxHeartbeats 16000000 in
theorem law_lists (A : Option Addr) (m cp : Nat) (r : List (List CV)) (at_ : Int) (a c d : Int) (s : ByteArray) (w : World) (hr : RdR w w.heap.size A m r) (hcp : m ≤ cp) (hg : SignsAt w) (hm : LenAt w) (h1 : 1 < w.heap.size) :
    Calls Tryd.prog 17 #[.agg #[.slice A m cp], .int .i64 at_, verV a c d s] w fun e w' => e = .returned (.bool true) ∧ Below w.heap.size w w' := by
  obtain ⟨W0, hW0⟩ : ∃ W0, (w.alloc (.cells #[.slice A m cp] 48)).alloc (verC a c d s) = W0 := ⟨_, rfl⟩
  have hz0 : W0.heap.size = w.heap.size + 2 := by rw [← hW0]; simp
  have hb0 : Below w.heap.size w W0 := by rw [← hW0]; exact ((Below.refl _ w).alloc (Nat.le_refl _) _).alloc (by simp) _
  have HX0 : Hid (W0.heap[w.heap.size]? = some (.cells #[.slice A m cp] 48)) := Lib.hid (by
    rw [← hW0, Below.heap_alloc _ _ _ (by simp)]; exact World.alloc_heap_new _ _)
  have HX1 : Hid (W0.heap[w.heap.size + 1]? = some (verC a c d s)) := Lib.hid (by
    rw [← hW0]
    have := World.alloc_heap_new (w.alloc (.cells #[.slice A m cp] 48)) (verC a c d s)
    rw [World.size_alloc] at this; exact this)
  have HL0 : Hid (w.heap.size < W0.heap.size ∧ w.heap.size + 1 < W0.heap.size) := Lib.hid (by omega)
  have HM0 := Lib.hid (hm.below h1 hb0)
  have HG0 : Hid (SignsAt W0) := Lib.hid (hg.below hb0 (by omega))
  have HAN := Lib.hid (ranchor_any W0 HG0.out HM0.out.1 HM0.out.2)
  have HW0 := Lib.hid hW0
  have HB0 := Lib.hid hb0
  have HR0 : Hid (RdR W0 w.heap.size A m r) := Lib.hid (hr.below hb0)
  have HLE := Lib.hid hr.1
  clear hW0 hb0 hm hg hr hz0
  go_enter Tryd.func17, Tryd.ntmps17
  go_wp2_with fail
  try rw [show (w.alloc (.cells #[.slice A m cp] 48)).alloc (.cells #[.int .i64 a, .int .i64 c, .int .i64 d, .string s] 25) = W0 from HW0.out]
  refine HAN.out.mono ?_
  rintro e W1 ⟨rfl, hb⟩
  have HB1 : Hid (Below W0.heap.size W0 W1) := Lib.hid hb
  have HM1 := Lib.hid (HM0.out.1.below HM0.out.2 hb)
  have c1 : W1.cell? ⟨w.heap.size, 0, none⟩ = some (.slice A m cp) := cell1 ((hb.block _ HL0.out.1).trans HX0.out)
  have HPC := Lib.hid (plain_any A m cp r W1 w.heap.size (HR0.out.below (hb.mono HB0.out.size)) (Nat.le_trans HB0.out.size hb.size))
  clear hb HAN
  go_wp2_with fail
  refine HPC.out.mono ?_
  rintro e W2 ⟨hp, hb⟩
  have HB2 : Hid (Below W0.heap.size W0 W2) := Lib.hid (HB1.out.trans (hb.mono HB1.out.size))
  have HM2 := Lib.hid (HM1.out.1.below HM1.out.2 hb)
  have HBw : Hid (∀ o, Below w.heap.size w (W2.alloc o)) := Lib.hid (fun o => by
    have h := HB0.out.trans (HB2.out.mono HB0.out.size)
    exact h.alloc h.size o)
  clear hb HPC c1
  unfold PlainR at hp
  cases hpl : plainR r with
  | false =>
    rw [hpl, if_neg (by decide)] at hp
    obtain ⟨A2, n2, c2, rfl⟩ := hp
    clear hpl
    go_wp2
    refine bodyPost_ret (results_tmp rfl _ _ _) rfl ⟨rfl, HBw.out _⟩
  | true =>
    rw [hpl, if_pos rfl] at hp
    obtain ⟨A2, c2, rfl, hrd⟩ := hp
    have hpf := plain_fits hpl
    have HM20 : Hid (m ≤ 20) := Lib.hid (by rw [← HLE.out]; exact hpf.1)
    have HFI := Lib.hid hpf.2.1
    have HSM := Lib.hid hpf.2.2
    obtain ⟨W3, hW3⟩ : ∃ W3, W2.alloc (.cells #[.slice A2 r.length c2] 53) = W3 := ⟨_, rfl⟩
    have hb3 : Below W2.heap.size W2 W3 := by rw [← hW3]; exact (Below.refl _ W2).alloc (Nat.le_refl _) _
    have hb03 : Below W0.heap.size W0 W3 := HB2.out.trans (hb3.mono HB2.out.size)
    have HX3 : Hid (W3.heap[w.heap.size]? = some (.cells #[.slice A m cp] 48) ∧ W3.heap[w.heap.size + 1]? = some (verC a c d s) ∧ W3.heap[W2.heap.size]? = some (.cells #[.slice A2 r.length c2] 53)) := Lib.hid ⟨(hb03.block _ HL0.out.1).trans HX0.out, (hb03.block _ HL0.out.2).trans HX1.out, by rw [← hW3]; exact World.alloc_heap_new _ _⟩
    have HL3 : Hid (w.heap.size < W3.heap.size ∧ w.heap.size + 1 < W3.heap.size ∧ W2.heap.size < W3.heap.size) := Lib.hid ⟨Nat.lt_of_lt_of_le HL0.out.1 hb03.size, Nat.lt_of_lt_of_le HL0.out.2 hb03.size, by rw [← hW3]; simp⟩
    have HR3 : Hid (RdR W3 w.heap.size A m r) := Lib.hid (HR0.out.below (hb03.mono HB0.out.size))
    have HR4 : Hid (RdR W3 W2.heap.size A2 r.length r) := Lib.hid (hrd.below hb3)
    have HS3 : Hid (w.heap.size ≤ W3.heap.size ∧ W2.heap.size ≤ W3.heap.size) := Lib.hid ⟨Nat.le_trans HB0.out.size hb03.size, hb3.size⟩
    have HM3 := Lib.hid (HM2.out.1.below HM2.out.2 hb3)
    have HB3 : Hid (Below w.heap.size w W3) := Lib.hid (by rw [← hW3]; exact HBw.out _)
    have HW3 := Lib.hid hW3
    have x0 : W3.cell? ⟨w.heap.size, 0, none⟩ = some (.slice A m cp) := cell1 HX3.out.1
    have HRC := Lib.hid (RgRight_any A m cp r W3 w.heap.size HR3.out HS3.out.1 HFI.out (by have := HM20.out; omega) HM3.out.1 HM3.out.2)
    rw [← hW3] at x0
    have HML : Hid (r.length = m) := HLE
    clear hpl hpf hrd hb3 hb03 hW3
    go_wp2_with fail
    try rw [show W2.alloc (.cells #[.slice A2 r.length c2] 53) = W3 from HW3.out]
    refine HRC.out.mono ?_
    rintro e W4 ⟨rfl, hb⟩
    have HB4 : Hid (Below w.heap.size w W4) := Lib.hid (HB3.out.trans (hb.mono HB3.out.size))
    have HM4 := Lib.hid (HM3.out.1.below HM3.out.2 hb)
    have HX4 : Hid (W4.heap[w.heap.size]? = some (.cells #[.slice A m cp] 48) ∧ W4.heap[w.heap.size + 1]? = some (verC a c d s)) := Lib.hid ⟨(hb.block _ HL3.out.1).trans HX3.out.1, (hb.block _ HL3.out.2.1).trans HX3.out.2.1⟩
    have HL4 : Hid (w.heap.size < W4.heap.size ∧ w.heap.size + 1 < W4.heap.size) := Lib.hid ⟨Nat.lt_of_lt_of_le HL3.out.1 hb.size, Nat.lt_of_lt_of_le HL3.out.2.1 hb.size⟩
    have HR4' : Hid (RdR W4 w.heap.size A m r) := Lib.hid (HR3.out.below (hb.mono HS3.out.1))
    clear hb HRC x0
    obtain ⟨y0, y1, y2, y3⟩ := cells4 HX4.out.2
    have x0 := cell1 HX4.out.1
    cases hrr : rightR r with
    | false =>
      go_wp2
      refine bodyPost_ret (results_tmp rfl _ _ _) rfl ⟨rfl, HB4.out⟩
    | true =>
      have HRR := Lib.hid hrr
      have HM8 : Hid (1 ≤ m ∧ m ≤ 8) := Lib.hid (by rw [← HML.out]; exact rightR_len hrr)
      clear hrr
      by_cases hat : at_ < 0
      · have da : decide (at_ < 0) = true := decide_eq_true hat
        go_wp2
        refine bodyPost_ret (results_tmp rfl _ _ _) rfl ⟨rfl, HB4.out⟩
      · have da : decide (at_ < 0) = false := decide_eq_false hat
        by_cases hsh : 100 < s.size
        · have dsh : decide (100 < (s.size : Int)) = true := decide_eq_true (by omega)
          go_wp2
          refine bodyPost_ret (results_tmp rfl _ _ _) rfl ⟨rfl, HB4.out⟩
        · have HSS : Hid (s.size ≤ 100) := Lib.hid (by omega)
          have dsh : decide (100 < (s.size : Int)) = false := decide_eq_false (by omega)
          have dm0 : ((m : Int) == 0) = false := by rw [beq_eq_false_iff_ne]; have := HM8.out; omega
          have hm0 : ¬ ((m : Int) = 0) := by have := HM8.out; omega
          have hm1 : ¬ ((m : Int) = -1) := by omega
          obtain ⟨k, hk⟩ : ∃ k : Nat, at_ % (m : Int) = (k : Int) ∧ k < m := ⟨(at_ % (m : Int)).toNat, by have := Int.emod_nonneg at_ hm0; omega, by have := Int.emod_lt_of_pos at_ (show (0 : Int) < (m : Int) by have := HM8.out; omega); omega⟩
          have hkk := hk.1
          have HK := Lib.hid hk
          clear hsh hk
          obtain ⟨b, off, vals, hA, hbl, hvl, hvc, hvr⟩ := vals_of HR4'.out HM8.out.1
          subst hA
          have HVA := Lib.hid (And.intro hvl hvr)
          have HNW : Hid ((∀ j u, (vals.drop k)[j]? = some u → W4.cell? (Addr.add ⟨b, off + k, none⟩ j) = some u ∧ (Addr.add ⟨b, off + k, none⟩ j).block < W4.heap.size) ∧ (∀ j u, (vals.take k)[j]? = some u → W4.cell? (Addr.add ⟨b, off, none⟩ j) = some u ∧ (Addr.add ⟨b, off, none⟩ j).block < W4.heap.size) ∧ ∀ u ∈ vals, u.oneCell' = true) := Lib.hid (by
            have e : ∀ o x, (Addr.add ⟨b, o, none⟩ x) = ⟨b, o + x, none⟩ := fun o x => by unfold Addr.add; by_cases h0 : x = 0 <;> simp [h0]
            have hlt : b < W4.heap.size := Nat.lt_trans hbl HL4.out.1
            refine ⟨fun j u hj => ?_, fun j u hj => ?_, fun u hu => ?_⟩
            · rw [List.getElem?_drop] at hj
              have hjm : k + j < m := by rw [← hvl]; exact (List.getElem?_eq_some_iff.1 hj).1
              rw [e, Nat.add_assoc]
              exact ⟨(hvc _ hjm).trans hj, hlt⟩
            · rw [List.getElem?_take] at hj
              split at hj
              · have hjm : j < m := by rw [← hvl]; exact (List.getElem?_eq_some_iff.1 hj).1
                rw [e]; exact ⟨(hvc _ hjm).trans hj, hlt⟩
              · cases hj
            · obtain ⟨j, hj, rfl⟩ := List.getElem_of_mem hu
              obtain ⟨Aj, nj, cj, h1, _⟩ := hvr j (by rw [← hvl]; exact hj)
              rw [List.getElem?_eq_getElem hj] at h1
              injection h1 with h1
              rw [h1]; rfl)
          have HSL : Hid ((0 : Int) ≤ (k : Int) ∧ (k : Int) ≤ (m : Int) ∧ (m : Int) ≤ (cp : Int) ∧ (k : Int) ≤ (cp : Int) ∧ cp ≠ k) := Lib.hid (by have := HK.out.2; exact ⟨by omega, by omega, by omega, by omega, by omega⟩)
          have HBL := Lib.hid hbl
          have HVC := Lib.hid hvc
          clear hvl hvc hvr
          go_upto_region 7 with fail
          try rw [hkk]
          clear hkk x0 y0 y1 y2 y3
          go_cut [10] (fun v10 w' => ∃ gb v, v10 = .pointer (some ⟨gb, 0, none⟩) ∧ Hid (w'.cell? ⟨gb, 0, none⟩ = some v ∧ W4.heap.size ≤ gb ∧ gb < w'.heap.size ∧ v.ownBlock ≠ some gb ∧ OwnV w' W4.heap.size v (vals.drop k ++ vals.take k)) ∧ Hid (Below W4.heap.size W4 w'))
          case first =>
            refine wp_region_inv (by kernel_rfl) (I := LuJ W4 w.heap.size b off k m cp vals _ _ _ _ _ _ _ _ _ _ _ _ _ _ _ _ _ _ _ _ _ _ _ _ _ _ _ _ _ _ _ _ _ _ _ _ _ _ _ _ _ _ _ _ _ _ _ _ _ _ _ _ _ _ _ _ _ _ _ _ _ _ _ _ _ _ _ _ _ _ _ _ _ _ _ _ _ _ _ _ _ _ _ _ _ _ _ _ _ _ _ _ _ _ _ _ _ _ _ _ _ _ _ _ _) (.mk false false false false false false false false false false false false false false _ _ _ _ _ _ _ _ _ _ _ _ _ _ ⟨(Below.refl _ W4).drew, nofun, nofun, nofun, nofun, nofun, nofun, nofun, nofun, nofun, nofun, nofun, nofun, nofun, nofun, nofun, nofun, nofun⟩) ?step ?fin
            case step =>
              rintro lq a' w' ix ⟨b0, b1, b2, b3, b4, b5, b6, b7, b8, b9, b10, b11, b12, b13, v10, v45, v46, v47, v48, v49, v50, v51, v52, v53, v54, v55, v56, _, HT⟩ hi
              obtain ⟨hi_, hib⟩ := ready_lt hi
              have HTH := Lib.hid HT
              match ix, hi_, hi, hib with
              | 0, _, hi, hib =>
                obtain rfl : b0 = false := by simpa using hib
                clear HT
                refine wpOp_one rfl rfl (fun K hK => ?_)
                go_simp
                have hba : Below w'.heap.size w' (w'.alloc (.cells #[] 69)) := (Below.refl _ w').alloc (Nat.le_refl _) _
                have hq1 : b5 = true → False := fun h => by have := HTH.out.q1 h; cases this
                have hq2 : b10 = true → False := fun h => hq1 (HTH.out.q2 h)
                refine hK.out _ _ (.mk true b1 b2 b3 b4 b5 b6 b7 b8 b9 b10 b11 b12 b13 _ _ _ _ _ _ _ _ _ _ _ _ _ _ { HTH.out with bel := HTH.out.bel.trans (hba.mono HTH.out.bel.size), q1 := fun _ => rfl, oE := fun _ _ => OwnV.empty HTH.out.bel.size (World.alloc_heap_new _ _), o1 := fun h1 _ => (hq1 h1).elim, o2 := fun h => (hq2 h).elim, hA := fun h => ?_ })
                obtain ⟨gb, e1, e2, e3, e4, e5, e6, e7, e8⟩ := HTH.out.hA h
                exact ⟨gb, e1, e2, Nat.lt_of_lt_of_le e3 hba.size, fun h => ⟨(hba.cell (p := ⟨gb, 0, none⟩) e3).trans (e4 h).1, (hba.frozen (p := ⟨gb, 0, none⟩) e3).trans (e4 h).2⟩, fun _ _ => (by intro e; injection e with e; have e : w'.heap.size = gb := e; omega), e6, e7, fun h => (hba.cell (p := ⟨gb, 0, none⟩) e3).trans (e8 h)⟩
              | 1, _, hi, hib =>
                clear HT
                refine wpOp_one rfl rfl (fun K hK => ?_)
                go_simp
                exact hK.out _ _ (.mk b0 true b2 b3 b4 b5 b6 b7 b8 b9 b10 b11 b12 b13 _ _ _ _ _ _ _ _ _ _ _ _ _ _ { HTH.out with h1 := fun _ => rfl })
              | 2, _, hi, hib =>
                have d1 : b1 = true := ready_dep hi rfl 1 (by kernel_rfl)
                have hd1 := HT.h1 d1
                subst hd1
                have c1 : w'.cell? ⟨w.heap.size, 0, none⟩ = some (.slice (some ⟨b, off, none⟩) m cp) := cell1 ((HT.bel.block _ HL4.out.1).trans HX4.out.1)
                clear HT
                refine wpOp_one rfl rfl (fun K hK => ?_)
                go_simp
                exact hK.out _ _ (.mk b0 b1 true b3 b4 b5 b6 b7 b8 b9 b10 b11 b12 b13 _ _ _ _ _ _ _ _ _ _ _ _ _ _ { HTH.out with h2 := fun _ => rfl })
              | 3, _, hi, hib =>
                clear HT
                refine wpOp_one rfl rfl (fun K hK => ?_)
                go_simp
                exact hK.out _ _ (.mk b0 b1 b2 true b4 b5 b6 b7 b8 b9 b10 b11 b12 b13 _ _ _ _ _ _ _ _ _ _ _ _ _ _ { HTH.out with h3 := fun _ => rfl })
              | 4, _, hi, hib =>
                have d2 : b2 = true := ready_dep hi rfl 2 (by kernel_rfl)
                have d3 : b3 = true := ready_dep hi rfl 3 (by kernel_rfl)
                have hd2 := HT.h2 d2
                subst hd2
                have hd3 := HT.h3 d3
                subst hd3
                have f1 := HSL.out.1
                have f2 := HSL.out.2.1
                have f3 := HSL.out.2.2.1
                have f4 := HSL.out.2.2.2.1
                have f5 := HSL.out.2.2.2.2
                clear HT
                refine wpOp_one rfl rfl (fun K hK => ?_)
                go_simp
                exact hK.out _ _ (.mk b0 b1 b2 b3 true b5 b6 b7 b8 b9 b10 b11 b12 b13 _ _ _ _ _ _ _ _ _ _ _ _ _ _ { HTH.out with h4 := fun _ => rfl })
              | 5, _, hi, hib =>
                have d0 : b0 = true := ready_dep hi rfl 0 (by kernel_rfl)
                have d4 : b4 = true := ready_dep hi rfl 4 (by kernel_rfl)
                have hd4 := HT.h4 d4
                subst hd4
                obtain rfl : b5 = false := by simpa using hib
                have HOO := Lib.hid (HT.oE d0 rfl)
                clear HT
                have hq2 : b10 = true → False := fun h => by have := HTH.out.q2 h; cases this
                refine wpOp_one rfl rfl (fun K hK => ?_)
                refine oper_appL _ _ rfl W4.heap.size _ _ rfl HOO.out _ (m - k) (cp - k) (vals.drop k) rfl (by rw [List.length_drop, HVA.out.1]) (fun j u hj => ?_) (fun u hu => ?_) ?_ HTH.out.bel.size (fun v' w2 hown hgr hat => ?_)
                · exact (HTH.out.bel.cell (HNW.out.1 j u hj).2).trans (HNW.out.1 j u hj).1
                · exact HNW.out.2.2 _ (List.mem_of_mem_drop hu)
                · show 0 + (m - k) ≤ _; have := HM8.out; omega
                · have HOWN := Lib.hid hown
                  refine hK.out _ _ (.mk b0 b1 b2 b3 b4 true b6 b7 b8 b9 b10 b11 b12 b13 _ _ _ _ _ _ _ _ _ _ _ _ _ _ { HTH.out with bel := HTH.out.bel.grown hgr HTH.out.bel.size (fun g hg => own_ge HOO.out g hg), oE := fun _ h => (by cases h), o1 := fun _ _ => HOWN.out, o2 := fun h => (hq2 h).elim, q1 := fun _ => d0, q2 := fun h => (hq2 h).elim, hA := fun h => ?_ })
                  obtain ⟨gb, e1, e2, e3, e4, e5, e6, e7, e8⟩ := HTH.out.hA h
                  have hne := e5 d0 rfl
                  have hbk : w2.heap[gb]? = w'.heap[gb]? := hgr.block gb e3 (fun e => hne e.symm)
                  have hnew : v'.ownBlock ≠ some gb := by
                    rcases hat with hat | hat
                    · rw [hat]; exact hne
                    · rw [hat]; intro e; injection e with e; omega
                  exact ⟨gb, e1, e2, Nat.lt_of_lt_of_le e3 hgr.size, fun h => ⟨(World.cell?_of_block hbk).trans (e4 h).1, (World.frozen?_of_block hbk).trans (e4 h).2⟩, fun _ h => (by cases h), fun _ _ => hnew, e7, fun h => (World.cell?_of_block hbk).trans (e8 h)⟩
              | 6, _, hi, hib =>
                clear HT
                refine wpOp_one rfl rfl (fun K hK => ?_)
                go_simp
                exact hK.out _ _ (.mk b0 b1 b2 b3 b4 b5 true b7 b8 b9 b10 b11 b12 b13 _ _ _ _ _ _ _ _ _ _ _ _ _ _ { HTH.out with h6 := fun _ => rfl })
              | 7, _, hi, hib =>
                have d6 : b6 = true := ready_dep hi rfl 6 (by kernel_rfl)
                have hd6 := HT.h6 d6
                subst hd6
                have c1 : w'.cell? ⟨w.heap.size, 0, none⟩ = some (.slice (some ⟨b, off, none⟩) m cp) := cell1 ((HT.bel.block _ HL4.out.1).trans HX4.out.1)
                clear HT
                refine wpOp_one rfl rfl (fun K hK => ?_)
                go_simp
                exact hK.out _ _ (.mk b0 b1 b2 b3 b4 b5 b6 true b8 b9 b10 b11 b12 b13 _ _ _ _ _ _ _ _ _ _ _ _ _ _ { HTH.out with h7 := fun _ => rfl })
              | 8, _, hi, hib =>
                clear HT
                refine wpOp_one rfl rfl (fun K hK => ?_)
                go_simp
                exact hK.out _ _ (.mk b0 b1 b2 b3 b4 b5 b6 b7 true b9 b10 b11 b12 b13 _ _ _ _ _ _ _ _ _ _ _ _ _ _ { HTH.out with h8 := fun _ => rfl })
              | 9, _, hi, hib =>
                have d7 : b7 = true := ready_dep hi rfl 7 (by kernel_rfl)
                have d8 : b8 = true := ready_dep hi rfl 8 (by kernel_rfl)
                have hd7 := HT.h7 d7
                subst hd7
                have hd8 := HT.h8 d8
                subst hd8
                have f1 := HSL.out.1
                have f2 := HSL.out.2.1
                have f3 := HSL.out.2.2.1
                have f4 := HSL.out.2.2.2.1
                have f5 := HSL.out.2.2.2.2
                clear HT
                refine wpOp_one rfl rfl (fun K hK => ?_)
                go_simp
                exact hK.out _ _ (.mk b0 b1 b2 b3 b4 b5 b6 b7 b8 true b10 b11 b12 b13 _ _ _ _ _ _ _ _ _ _ _ _ _ _ { HTH.out with h9 := fun _ => rfl })
              | 10, _, hi, hib =>
                have d5 : b5 = true := ready_dep hi rfl 5 (by kernel_rfl)
                have d9 : b9 = true := ready_dep hi rfl 9 (by kernel_rfl)
                have hd9 := HT.h9 d9
                subst hd9
                obtain rfl : b10 = false := by simpa using hib
                have HOO := Lib.hid (HT.o1 d5 rfl)
                clear HT
                have hqB : b11 = true → False := fun h => by have := HTH.out.q4 h; cases this
                have hqS : b13 = true → False := fun h => by have := (HTH.out.q3 h).2; cases this
                refine wpOp_one rfl rfl (fun K hK => ?_)
                refine oper_appL _ _ rfl W4.heap.size _ _ rfl HOO.out _ k cp (vals.take k) rfl (by rw [List.length_take, HVA.out.1]; have := HK.out.2; omega) (fun j u hj => ?_) (fun u hu => ?_) ?_ HTH.out.bel.size (fun v' w2 hown hgr hat => ?_)
                · exact (HTH.out.bel.cell (HNW.out.2.1 j u hj).2).trans (HNW.out.2.1 j u hj).1
                · exact HNW.out.2.2 _ (List.mem_of_mem_take hu)
                · rw [List.length_drop, HVA.out.1]; have := HM8.out; have := HK.out.2; omega
                · have HOWN := Lib.hid hown
                  refine hK.out _ _ (.mk b0 b1 b2 b3 b4 b5 b6 b7 b8 b9 true b11 b12 b13 _ _ _ _ _ _ _ _ _ _ _ _ _ _ { HTH.out with bel := HTH.out.bel.grown hgr HTH.out.bel.size (fun g hg => own_ge HOO.out g hg), oE := fun _ h => (by rw [d5] at h; cases h), o1 := fun _ h => (by cases h), o2 := fun _ => HOWN.out, q2 := fun _ => d5, q3 := fun h => (hqS h).elim, q4 := fun h => (hqB h).elim, hB := fun h => (hqB h).elim, hA := fun h => ?_ })
                  obtain ⟨gb, e1, e2, e3, e4, e5, e6, e7, e8⟩ := HTH.out.hA h
                  have hne := e6 d5 rfl
                  have hbk : w2.heap[gb]? = w'.heap[gb]? := hgr.block gb e3 (fun e => hne e.symm)
                  have hnew : v'.ownBlock ≠ some gb := by
                    rcases hat with hat | hat
                    · rw [hat]; exact hne
                    · rw [hat]; intro e; injection e with e; omega
                  exact ⟨gb, e1, e2, Nat.lt_of_lt_of_le e3 hgr.size, fun h => ⟨(World.cell?_of_block hbk).trans (e4 h).1, (World.frozen?_of_block hbk).trans (e4 h).2⟩, e5, fun _ h => (by cases h), fun _ => hnew, fun h => (hqS h).elim⟩
              | 11, _, hi, hib =>
                have d10 : b10 = true := ready_dep hi rfl 10 (by kernel_rfl)
                obtain ⟨Av, Lz, cv, hv⟩ : ∃ Av Lz cv, v55 = .slice Av Lz cv := (by obtain ⟨x, y, z⟩ := (HT.o2 d10).shape; exact ⟨x, _, y, z⟩)
                subst hv
                clear HT
                refine wpOp_one rfl rfl (fun K hK => ?_)
                go_simp
                exact hK.out _ _ (.mk b0 b1 b2 b3 b4 b5 b6 b7 b8 b9 b10 true b12 b13 _ _ _ _ _ _ _ _ _ _ _ _ _ _ { HTH.out with q4 := fun _ => d10, hB := fun _ => rfl })
              | 12, _, hi, hib =>
                obtain rfl : b12 = false := by simpa using hib
                clear HT
                refine wpOp_one rfl rfl (fun K hK => ?_)
                go_simp
                have hba : Below w'.heap.size w' (w'.alloc (.cells #[.slice none 0 0] 48)) := (Below.refl _ w').alloc (Nat.le_refl _) _
                have hnew := World.alloc_heap_new w' (.cells #[.slice none 0 0] 48)
                exact hK.out _ _ (.mk b0 b1 b2 b3 b4 b5 b6 b7 b8 b9 b10 b11 true b13 _ _ _ _ _ _ _ _ _ _ _ _ _ _ { HTH.out with bel := HTH.out.bel.trans (hba.mono HTH.out.bel.size), oE := fun h1 h2 => (HTH.out.oE h1 h2).alloc _, o1 := fun h1 h2 => (HTH.out.o1 h1 h2).alloc _, o2 := fun h => (HTH.out.o2 h).alloc _, hA := fun _ => ⟨w'.heap.size, rfl, HTH.out.bel.size, by simp, fun _ => ⟨cell1 hnew, by simp only [World.frozen?, hnew]; rfl⟩, fun h1 h2 e => Nat.lt_irrefl _ (own_lt (HTH.out.oE h1 h2) _ e), fun h1 h2 e => Nat.lt_irrefl _ (own_lt (HTH.out.o1 h1 h2) _ e), fun h e => Nat.lt_irrefl _ (own_lt (HTH.out.o2 h) _ e), fun h => (by have := (HTH.out.q3 h).1; cases this)⟩, q3 := fun h => (by have := (HTH.out.q3 h).1; cases this) })
              | 13, _, hi, hib =>
                have d12 : b12 = true := ready_dep hi rfl 12 (by kernel_rfl)
                have d11 : b11 = true := ready_dep hi rfl 11 (by kernel_rfl)
                have d10 : b10 = true := ready_dep hi rfl 10 (by kernel_rfl)
                have hdB := HT.hB d11
                subst hdB
                obtain rfl : b13 = false := by simpa using hib
                obtain ⟨gb, e1, e2, e3, e4, e5, e6, e7, e8⟩ := HT.hA d12
                subst e1
                have HE4 := Lib.hid (e4 rfl)
                obtain ⟨c0, cf⟩ := e4 rfl
                have HOO := Lib.hid (HT.o2 d10)
                have hne := e7 d10
                obtain ⟨Av, Lz, cv, hv⟩ : ∃ Av Lz cv, v55 = .slice Av Lz cv := (by obtain ⟨x, y, z⟩ := (HT.o2 d10).shape; exact ⟨x, _, y, z⟩)
                subst hv
                clear HT
                have dA1 := HTH.out.q2 d10
                refine wpOp_one rfl rfl (fun K hK => ?_)
                go_simp
                refine hK.out _ _ (.mk b0 b1 b2 b3 b4 b5 b6 b7 b8 b9 b10 b11 b12 true _ _ _ _ _ _ _ _ _ _ _ _ _ _ { HTH.out with bel := HTH.out.bel.setCell (p := ⟨gb, 0, none⟩) e2 _, oE := fun _ h => (by rw [dA1] at h; cases h), o1 := fun _ h => (by rw [d10] at h; cases h), o2 := fun _ => ?_, q3 := fun _ => ⟨d12, d10⟩, hB := fun _ => rfl, hA := fun _ => ⟨gb, rfl, e2, by simpa using e3, nofun, e5, e6, e7, fun _ => World.cell?_setCell_same _ _ _ c0⟩ })
                have h := HOO.out
                refine ⟨h.1, ?_⟩
                rcases h.2 with h | ⟨g', cap, cur, hv, hbg, hh, r⟩
                · exact .inl h
                · refine .inr ⟨g', cap, cur, hv, hbg, ?_, r⟩
                  rw [Below.heap_setCell _ _ _ _ (by intro e; exact hne (by rw [hv, e]; rfl))]
                  exact hh
            case fin =>
              rintro lq a' w' ⟨b0, b1, b2, b3, b4, b5, b6, b7, b8, b9, b10, b11, b12, b13, v10, v45, v46, v47, v48, v49, v50, v51, v52, v53, v54, v55, v56, _, HT⟩ hr
              obtain rfl : b0 = true := by
                cases b0 with
                | true => rfl
                | false => exact (ready_in 0 rfl rfl (by simp [Region.binds]) hr).elim
              obtain rfl : b1 = true := by
                cases b1 with
                | true => rfl
                | false => exact (ready_in 1 rfl rfl (by simp [Region.binds]) hr).elim
              obtain rfl : b2 = true := by
                cases b2 with
                | true => rfl
                | false => exact (ready_in 2 rfl rfl (by simp [Region.binds]) hr).elim
              obtain rfl : b3 = true := by
                cases b3 with
                | true => rfl
                | false => exact (ready_in 3 rfl rfl (by simp [Region.binds]) hr).elim
              obtain rfl : b4 = true := by
                cases b4 with
                | true => rfl
                | false => exact (ready_in 4 rfl rfl (by simp [Region.binds]) hr).elim
              obtain rfl : b5 = true := by
                cases b5 with
                | true => rfl
                | false => exact (ready_in 5 rfl rfl (by simp [Region.binds]) hr).elim
              obtain rfl : b6 = true := by
                cases b6 with
                | true => rfl
                | false => exact (ready_in 6 rfl rfl (by simp [Region.binds]) hr).elim
              obtain rfl : b7 = true := by
                cases b7 with
                | true => rfl
                | false => exact (ready_in 7 rfl rfl (by simp [Region.binds]) hr).elim
              obtain rfl : b8 = true := by
                cases b8 with
                | true => rfl
                | false => exact (ready_in 8 rfl rfl (by simp [Region.binds]) hr).elim
              obtain rfl : b9 = true := by
                cases b9 with
                | true => rfl
                | false => exact (ready_in 9 rfl rfl (by simp [Region.binds]) hr).elim
              obtain rfl : b10 = true := by
                cases b10 with
                | true => rfl
                | false => exact (ready_in 10 rfl rfl (by simp [Region.binds]) hr).elim
              obtain rfl : b11 = true := by
                cases b11 with
                | true => rfl
                | false => exact (ready_in 11 rfl rfl (by simp [Region.binds]) hr).elim
              obtain rfl : b12 = true := by
                cases b12 with
                | true => rfl
                | false => exact (ready_in 12 rfl rfl (by simp [Region.binds]) hr).elim
              obtain rfl : b13 = true := by
                cases b13 with
                | true => rfl
                | false => exact (ready_in 13 rfl rfl (by simp [Region.binds]) hr).elim
              obtain ⟨gb, e1, e2, e3, _, _, _, e7, e8⟩ := HT.hA rfl
              subst e1
              have HFF := Lib.hid (And.intro (e8 rfl) (And.intro e2 (And.intro e3 (And.intro (e7 rfl) (HT.o2 rfl)))))
              have HBF := Lib.hid HT.bel
              clear HT hr e2 e3 e7 e8
              show _
              go_wp2_with fail
              go_meet
              exact ⟨gb, _, rfl, HFF, HBF⟩
          case rest =>
            obtain ⟨gb, vT, rfl, HFF, HBF⟩ := hcut
            rename World => W5
            obtain ⟨gt, cT, hvT, hge, hgl⟩ := World.ownsRow.form HFF.out.2.2.2.2 (by have := HVA.out.1; have := HM8.out; have := HK.out.2; simp; omega)
            have hrl : (vals.drop k ++ vals.take k).length = m := by rw [List.length_append, List.length_drop, List.length_take, HVA.out.1]; have := HK.out.2; omega
            rw [hrl] at hvT
            subst hvT
            obtain ⟨rs, hrs⟩ : ∃ rs, r.drop k ++ r.take k = rs := ⟨_, rfl⟩
            have HRS := Lib.hid hrs
            have HRSL : Hid (rs.length = m) := Lib.hid (by rw [← hrs, List.length_append, List.length_drop, List.length_take, HML.out]; have := HK.out.2; omega)
            have HRSR : Hid (∀ l ∈ rs, (1 ≤ l.length ∧ l.length ≤ 8)) := Lib.hid (fun l hl => (rightR_list HRR.out (by rw [← hrs] at hl; rcases List.mem_append.1 hl with h | h; exact List.mem_of_mem_drop h; exact List.mem_of_mem_take h)).1)
            have HGT : Hid (W4.heap.size ≤ gt ∧ gt < W5.heap.size ∧ gt ≠ gb ∧ W4.heap.size ≤ gb ∧ gb < W5.heap.size) := Lib.hid ⟨hge, hgl, fun e => HFF.out.2.2.2.1 (by rw [e]; rfl), HFF.out.2.1, HFF.out.2.2.1⟩
            have HTU : Hid (TuAt W5 gt gb m (TuL rs 0)) := Lib.hid (by
              intro j hj
              obtain ⟨g', cap, cur, hv, _, hh, hc1, _, hc3, hc4⟩ := (HFF.out.2.2.2.2).2.resolve_left (fun h => by cases h.1)
              injection hv with hv1 hv2 hv3
              injection hv1 with hv1
              injection hv1 with hv1
              subst hv1
              have hcell : W5.cell? ⟨gt, j, none⟩ = (vals.drop k ++ vals.take k)[j]? := by
                have h1 := World.ownsRow.cells HFF.out.2.2.2.2 (g := gt) rfl j ((vals.drop k ++ vals.take k)[j]'(by omega)) (List.getElem?_eq_getElem (by omega))
                have ee : (Addr.add ⟨gt, 0, none⟩ j) = ⟨gt, 0 + j, none⟩ := by unfold Addr.add; by_cases h0 : j = 0 <;> simp [h0]
                rw [ee, Nat.zero_add] at h1
                rw [h1, List.getElem?_eq_getElem (by omega)]
              have hfz : W5.frozen? ⟨gt, j, none⟩ = false := by simp only [World.frozen?, hh]; simp
              have hval : ∃ i, i < m ∧ (vals.drop k ++ vals.take k)[j]? = vals[i]? ∧ lsAt rs j = lsAt r i := by
                have hkm := HK.out.2
                by_cases hjd : j < m - k
                · refine ⟨k + j, by omega, ?_, ?_⟩
                  · rw [List.getElem?_append_left (by rw [List.length_drop, HVA.out.1]; exact hjd), List.getElem?_drop]
                  · rw [← hrs]; show (_ : List (List CV)).getD j [] = _
                    rw [List.getD_eq_getElem?_getD, List.getElem?_append_left (by rw [List.length_drop, HML.out]; exact hjd), List.getElem?_drop]; rfl
                · refine ⟨j - (m - k), by omega, ?_, ?_⟩
                  · rw [List.getElem?_append_right (by rw [List.length_drop, HVA.out.1]; omega), List.length_drop, HVA.out.1, List.getElem?_take, if_pos (by omega)]
                  · rw [← hrs]; show (_ : List (List CV)).getD j [] = _
                    rw [List.getD_eq_getElem?_getD, List.getElem?_append_right (by rw [List.length_drop, HML.out]; omega), List.length_drop, HML.out, List.getElem?_take, if_pos (by omega)]; rfl
              obtain ⟨i, him, hv, hls⟩ := hval
              obtain ⟨Aj, nj, cj, h1, h2⟩ := HVA.out.2 i him
              refine ⟨Aj, nj, cj, hcell.trans (hv.trans h1), hfz, ?_, fun b' off' e => ?_⟩
              · unfold TuL; rw [if_neg (by omega), hls]
                exact (h2.below (HBF.out.mono (Nat.le_of_lt HL4.out.1))).more (Nat.le_trans (Nat.le_of_lt HL4.out.1) HBF.out.size)
              · have hpos : 0 < nj := by
                  rw [← h2.1]
                  exact (rightR_list HRR.out (lsAt_mem (show i < r.length by rw [HML.out]; exact him))).1.1
                obtain ⟨b2, off2, e2, hlt2, _⟩ := h2.2 0 hpos
                rw [e] at e2
                injection e2 with e2
                injection e2 with e2
                have := HGT.out
                have := HL4.out.1
                omega)
            have HCB : Hid (W5.cell? ⟨gb, 0, none⟩ = some (.slice (some ⟨gt, 0, none⟩) m cT)) := Lib.hid HFF.out.1
            have c10 := HCB.out
            clear hge hgl hrl hrs HNW HFF
            go_wp2
            clear c10
            go_loopw [11, 12, 13, 14, 60] (fun v11 v12 v13 v14 v60 wr => ∃ (i : Nat), i ≤ m ∧ v60 = .int .i64 (i : Int) ∧ Hid (wr.cell? ⟨gb, 0, none⟩ = some (.slice (some ⟨gt, 0, none⟩) m cT)) ∧ Hid (TuAt wr gt gb m (TuL rs i)) ∧ Hid (Below W4.heap.size W4 wr) ∧ Hid (W5.heap.size ≤ wr.heap.size)) (fun _ _ _ _ v _ => m - (intOf v).toNat)
            case atStart => exact ⟨0, Nat.zero_le _, rfl, HCB, HTU, HBF, Lib.hid (Nat.le_refl _)⟩
            case round =>
              obtain ⟨i, hi, rfl, HCi, HTi, HBi, HZi⟩ := hrel
              obtain ⟨wo, hwo⟩ : ∃ x, x = wr := ⟨_, rfl⟩
              subst hwo
              by_cases him : i < m
              · have hd : decide ((i : Int) < (m : Int)) = true := decide_eq_true (by omega)
                have hadd : IntKind.i64.wrap ((i : Int) + 1) = ((i + 1 : Nat) : Int) := by rw [IntWalk.i64_in _ (by have := HM8.out; omega)]; omega
                obtain ⟨Aj, nj, cj, q0, qf, hrc, hap⟩ := HTi.out i him
                obtain ⟨l, hl⟩ : ∃ l, lsAt rs i = l := ⟨_, rfl⟩
                have e0 : TuL rs i i = l := by unfold TuL; rw [if_neg (by omega), hl]
                rw [e0] at hrc
                have HLL := Lib.hid hl
                have HRC := Lib.hid hrc
                have HNL : Hid (l.length = nj) := Lib.hid hrc.1
                have HN8 : Hid (1 ≤ nj ∧ nj ≤ 8) := Lib.hid (by rw [← HNL.out, ← hl]; exact HRSR.out _ (lsAt_mem (by rw [HRSL.out]; exact him)))
                have HQF := Lib.hid (And.intro q0 qf)
                clear hrc hl e0 hap
                go_wp2
                clear q0 qf
                go_loopw [13, 14, 67] (fun v13 v14 v67 wr => ∃ (q : Nat), q ≤ nj ∧ v67 = .int .i64 (q : Int) ∧ Hid (OwnC wr wo.heap.size v13 (l.reverse.take q)) ∧ Hid (Below wo.heap.size wo wr)) (fun _ _ v _ => nj - (intOf v).toNat)
                case atStart => exact ⟨0, Nat.zero_le _, rfl, Lib.hid (OwnC.nil_ _ _), Lib.hid (Below.refl _ _)⟩
                case round =>
                  obtain ⟨q, hq, rfl, HOq, HBq⟩ := hrel
                  obtain ⟨A3, c3, hv3⟩ := HOq.out.shape
                  have HTQ : Hid ((l.reverse.take q).length = q) := Lib.hid (by rw [List.length_take, List.length_reverse, HNL.out]; omega)
                  rw [HTQ.out] at hv3
                  subst hv3
                  by_cases hqn : q < nj
                  · have hdq : decide ((q : Int) < (nj : Int)) = true := decide_eq_true (by omega)
                    have haddq : IntKind.i64.wrap ((q : Int) + 1) = ((q + 1 : Nat) : Int) := by rw [IntWalk.i64_in _ (by have := HN8.out; omega)]; omega
                    have hsub1 : IntKind.i64.wrap ((nj : Int) - 1) = (nj : Int) - 1 := by rw [IntWalk.i64_in _ (by have := HN8.out; omega)]
                    have hsub2 : IntKind.i64.wrap ((nj : Int) - 1 - (q : Int)) = ((nj - 1 - q : Nat) : Int) := by rw [IntWalk.i64_in _ (by have := HN8.out; omega)]; omega
                    obtain ⟨p, hp⟩ : ∃ p, nj - 1 - q = p := ⟨_, rfl⟩
                    rw [hp] at hsub2
                    have hpl : p < nj := by omega
                    obtain ⟨bb, off2, rfl, hlt2, p0, p1, p2, p3, p4⟩ := (HRC.out.below HBq.out).2 p hpl
                    obtain ⟨x, hx⟩ : ∃ x, cvAt l p = x := ⟨_, rfl⟩
                    have HTS : Hid (l.reverse.take (q + 1) = l.reverse.take q ++ [x]) := Lib.hid (by rw [rev_take (by rw [HNL.out]; exact hqn), HNL.out, hp, hx])
                    rw [hx] at p0 p1 p2 p3 p4
                    have HO6 : Hid (OwnC (wr.alloc (compC x.op x.a x.b x.c x.s)) wo.heap.size (.slice A3 q c3) (l.reverse.take q)) := Lib.hid (World.ownsRow.alloc HOq.out _)
                    have HB6 : Hid (Below wo.heap.size wo (wr.alloc (compC x.op x.a x.b x.c x.s))) := Lib.hid (HBq.out.alloc HBq.out.size _)
                    have HCC := Lib.hid (cells5 (World.alloc_heap_new wr (compC x.op x.a x.b x.c x.s)))
                    have HSZ := Lib.hid HB6.out.size
                    clear hx hp
                    go_wp2_with (at_builtin; refine wpl_appC rfl (.tmp 70) (.tmp 79) rfl wo.heap.size (.slice A3 q c3) _ rfl HO6.out wr.heap.size x rfl HCC.out.1 HCC.out.2.1 HCC.out.2.2.1 HCC.out.2.2.2.1 HCC.out.2.2.2.2 (by rw [HTQ.out]; have := HN8.out; omega) HSZ.out ?_; intro g c2 w2 hown2 hgr2; (have HOWN2 := Lib.hid hown2); (have HGR2 := Lib.hid hgr2); clear hown2 hgr2)
                    go_roundw
                    case rel => exact ⟨q + 1, by omega, rfl, Lib.hid (by rw [HTS.out]; (have h5 := HOWN2.out); (first | exact h5 | (rw [HTQ.out] at h5; exact h5) | (simpa using h5))), Lib.hid (HB6.out.grown HGR2.out HSZ.out (fun g hg => own_ge HO6.out g hg))⟩
                    case measure => simp [intOf]; omega
                  · have hdq : decide ((q : Int) < (nj : Int)) = false := decide_eq_false (by omega)
                    have hqe : q = nj := by omega
                    subst hqe
                    have HOL : Hid (OwnC wr wo.heap.size (.slice A3 q c3) l.reverse) := Lib.hid (by have h := HOq.out; rw [List.take_of_length_le (by rw [List.length_reverse, HNL.out]; exact Nat.le_refl _)] at h; exact h)
                    have HTr : Hid (TuAt wr gt gb m (TuL rs i)) := Lib.hid (HTi.out.below HBq.out (by have := HGT.out; have := HZi.out; omega))
                    have HSET : Hid (TuAt (wr.setCell ⟨gt, i, none⟩ (.slice A3 q c3)) gt gb m (TuL rs (i + 1))) := Lib.hid (by
                      refine HTr.out.set him ?_ (fun b' off' e => ?_) (fun j hj => ?_)
                      · have e : TuL rs (i + 1) i = l.reverse := by unfold TuL; rw [if_pos (by omega), HLL.out]
                        rw [e]
                        exact HOL.out.rd (by rw [List.length_reverse, HNL.out])
                      · have h1 := own_ge HOL.out b' (by rw [e]; rfl)
                        have := HGT.out
                        have := HZi.out
                        omega
                      · unfold TuL
                        by_cases h : j < i
                        · rw [if_pos h, if_pos (by omega)]
                        · rw [if_neg h, if_neg (by omega)])
                    have hgbw : gb < wo.heap.size := by have := HGT.out; have := HZi.out; omega
                    have hgtw : gt < wo.heap.size := by have := HGT.out; have := HZi.out; omega
                    have c10 : wr.cell? ⟨gb, 0, none⟩ = some (.slice (some ⟨gt, 0, none⟩) m cT) := (HBq.out.cell (p := ⟨gb, 0, none⟩) hgbw).trans HCi.out
                    have t0 := (HBq.out.cell (p := ⟨gt, i, none⟩) hgtw).trans HQF.out.1
                    have tf := (HBq.out.frozen (p := ⟨gt, i, none⟩) hgtw).trans HQF.out.2
                    have HC10 := Lib.hid c10
                    clear hgbw hgtw
                    go_wp2
                    go_roundw
                    case rel => exact ⟨i + 1, by omega, rfl, Lib.hid ((World.cell?_setCell_other _ _ _ _ (by intro h; injection h with h1 h2; exact HGT.out.2.2.1 h1)).trans HC10.out), HSET, Lib.hid ((HBi.out.trans (HBq.out.mono HBi.out.size)).setCell (p := ⟨gt, i, none⟩) HGT.out.1 _), Lib.hid (by have := HBq.out.size; have := HZi.out; simp; omega)⟩
                    case measure => simp [intOf]; omega
              · have hd : decide ((i : Int) < (m : Int)) = false := decide_eq_false (by omega)
                have him2 : i = m := by omega
                subst him2
                have HRT : Hid (RdR wo wo.heap.size (some ⟨gt, 0, none⟩) i (rs.map List.reverse)) := Lib.hid (HTi.out.rd (by have := HGT.out; have := HZi.out; omega) (by rw [List.length_map]; exact HRSL.out) (fun j hj => by
                  unfold TuL
                  rw [if_pos hj]
                  simp [lsAt, List.getD, HRSL.out, hj]))
                have HFT : Hid (Fits (rs.map List.reverse)) := Lib.hid (fun l hl => by
                  obtain ⟨l2, hl2, rfl⟩ := List.mem_map.1 hl
                  have hm2 : l2 ∈ r := by rw [← HRS.out] at hl2; rcases List.mem_append.1 hl2 with h | h; exact List.mem_of_mem_drop h; exact List.mem_of_mem_take h
                  exact ⟨fun x hx => (HFI.out l2 hm2).1 x (List.mem_reverse.1 hx), by rw [List.length_reverse]; exact (HFI.out l2 hm2).2⟩)
                obtain ⟨q, hq⟩ : ∃ q, hasR r ⟨a, c, d, bs s⟩ = q := ⟨_, rfl⟩
                have HQ := Lib.hid hq
                have HQT : Hid (hasR (rs.map List.reverse) ⟨a, c, d, bs s⟩ = q) := Lib.hid (by rw [← HRS.out, hasR_turn]; exact hq)
                have HXz : Hid (wo.heap[w.heap.size]? = some (.cells #[.slice (some ⟨b, off, none⟩) i cp] 48) ∧ wo.heap[w.heap.size + 1]? = some (verC a c d s)) := Lib.hid ⟨(HBi.out.block _ HL4.out.1).trans HX4.out.1, (HBi.out.block _ HL4.out.2).trans HX4.out.2⟩
                have HLz : Hid (w.heap.size < wo.heap.size ∧ w.heap.size + 1 < wo.heap.size ∧ gb < wo.heap.size) := Lib.hid ⟨Nat.lt_of_lt_of_le HL4.out.1 HBi.out.size, Nat.lt_of_lt_of_le HL4.out.2 HBi.out.size, by have := HGT.out; have := HZi.out; omega⟩
                have HMz := Lib.hid (HM4.out.1.below HM4.out.2 HBi.out)
                have HRz : Hid (RdR wo w.heap.size (some ⟨b, off, none⟩) i r) := Lib.hid (HR4'.out.below (HBi.out.mono (Nat.le_of_lt HL4.out.1)))
                have HBWo : Hid (Below w.heap.size w wo) := Lib.hid (HB4.out.trans (HBi.out.mono HB4.out.size))
                clear hq hi hd
                go_upto_region 19 with fail
                go_cut [94] (fun v94 w' => v94 = .bool false ∧ Hid (Below wo.heap.size wo w'))
                case first =>
                  refine wp_region_inv (by kernel_rfl) (I := LvJ wo (.agg #[.slice (some ⟨gt, 0, none⟩) i cT]) (verV a c d s) (.agg #[.slice (some ⟨b, off, none⟩) i cp]) q _ _ _ _ _ _ _ _ _ _ _ _ _ _ _ _ _ _ _ _ _ _ _ _ _ _ _ _ _ _ _ _ _ _ _ _ _ _ _ _ _ _ _ _ _ _ _ _ _ _ _ _ _ _ _ _ _ _ _ _ _ _ _ _ _ _ _ _ _ _ _ _ _ _ _ _ _ _ _ _ _ _ _ _ _ _ _ _ _ _ _ _ _ _ _ _ _ _ _ _ _ _ _ _ _ _ _ _ _ _ _) (.mk false false false false false false false _ _ _ _ _ _ _ _ ⟨(Below.refl _ wo).drew, nofun, nofun, nofun, nofun, nofun, nofun, nofun⟩) ?step ?fin
                  case step =>
                    rintro lq a' w' ix ⟨b0, b1, b2, b3, b4, b5, b6, v88, v89, v90, v91, v92, v93, v94, _, HT⟩ hi
                    obtain ⟨hi_, hib⟩ := ready_lt hi
                    have HTH := Lib.hid HT
                    match ix, hi_, hi, hib with
                    | 0, _, hi, hib =>
                      have c10 := (HT.bel.cell (p := ⟨gb, 0, none⟩) HLz.out.2.2).trans HCi.out
                      clear HT
                      refine wpOp_one rfl rfl (fun K hK => ?_)
                      go_simp
                      exact hK.out _ _ (.mk true b1 b2 b3 b4 b5 b6 _ _ _ _ _ _ _ _ { HTH.out with h0 := fun _ => rfl })
                    | 1, _, hi, hib =>
                      obtain ⟨y0, y1, y2, y3⟩ := cells4 ((HT.bel.block _ HLz.out.2.1).trans HXz.out.2)
                      clear HT
                      refine wpOp_one rfl rfl (fun K hK => ?_)
                      go_simp
                      exact hK.out _ _ (.mk b0 true b2 b3 b4 b5 b6 _ _ _ _ _ _ _ _ { HTH.out with h1 := fun _ => rfl })
                    | 2, _, hi, hib =>
                      have d0 : b0 = true := ready_dep hi rfl 0 (by kernel_rfl)
                      have hd0 := HT.h0 d0
                      subst hd0
                      have d1 : b1 = true := ready_dep hi rfl 1 (by kernel_rfl)
                      have hd1 := HT.h1 d1
                      subst hd1
                      have hM := HMz.out.1.below HMz.out.2 HT.bel
                      have HC := Lib.hid (RgHas_any (some ⟨gt, 0, none⟩) i cT (rs.map List.reverse) a c d s w' wo.heap.size (HRT.out.below HT.bel) HT.bel.size HFT.out (by have := HSS.out; omega) (by have := HM8.out; omega) hM.1 hM.2)
                      rw [HQT.out] at HC
                      clear hM
                      clear HT
                      refine wpOp_one rfl rfl (fun K hK => ?_)
                      go_simp
                      refine HC.out.mono ?_
                      rintro e w2 ⟨rfl, hb⟩
                      exact hK.out _ _ (.mk b0 b1 true b3 b4 b5 b6 _ _ _ _ _ _ _ _ { HTH.out with bel := HTH.out.bel.trans (hb.mono HTH.out.bel.size), h2 := fun _ => rfl })
                    | 3, _, hi, hib =>
                      have c1 : w'.cell? ⟨w.heap.size, 0, none⟩ = some (.slice (some ⟨b, off, none⟩) i cp) := cell1 ((HT.bel.block _ HLz.out.1).trans HXz.out.1)
                      clear HT
                      refine wpOp_one rfl rfl (fun K hK => ?_)
                      go_simp
                      exact hK.out _ _ (.mk b0 b1 b2 true b4 b5 b6 _ _ _ _ _ _ _ _ { HTH.out with h3 := fun _ => rfl })
                    | 4, _, hi, hib =>
                      obtain ⟨y0, y1, y2, y3⟩ := cells4 ((HT.bel.block _ HLz.out.2.1).trans HXz.out.2)
                      clear HT
                      refine wpOp_one rfl rfl (fun K hK => ?_)
                      go_simp
                      exact hK.out _ _ (.mk b0 b1 b2 b3 true b5 b6 _ _ _ _ _ _ _ _ { HTH.out with h4 := fun _ => rfl })
                    | 5, _, hi, hib =>
                      have d3 : b3 = true := ready_dep hi rfl 3 (by kernel_rfl)
                      have hd3 := HT.h3 d3
                      subst hd3
                      have d4 : b4 = true := ready_dep hi rfl 4 (by kernel_rfl)
                      have hd4 := HT.h4 d4
                      subst hd4
                      have hM := HMz.out.1.below HMz.out.2 HT.bel
                      have HC := Lib.hid (RgHas_any (some ⟨b, off, none⟩) i cp r a c d s w' w.heap.size (HRz.out.below (HT.bel.mono (Nat.le_of_lt HLz.out.1))) (Nat.le_trans (Nat.le_of_lt HLz.out.1) HT.bel.size) HFI.out (by have := HSS.out; omega) (by have := HM8.out; omega) hM.1 hM.2)
                      rw [HQ.out] at HC
                      clear hM
                      clear HT
                      refine wpOp_one rfl rfl (fun K hK => ?_)
                      go_simp
                      refine HC.out.mono ?_
                      rintro e w2 ⟨rfl, hb⟩
                      exact hK.out _ _ (.mk b0 b1 b2 b3 b4 true b6 _ _ _ _ _ _ _ _ { HTH.out with bel := HTH.out.bel.trans (hb.mono HTH.out.bel.size), h5 := fun _ => rfl })
                    | 6, _, hi, hib =>
                      have d2 : b2 = true := ready_dep hi rfl 2 (by kernel_rfl)
                      have hd2 := HT.h2 d2
                      subst hd2
                      have d5 : b5 = true := ready_dep hi rfl 5 (by kernel_rfl)
                      have hd5 := HT.h5 d5
                      subst hd5
                      clear HT
                      refine wpOp_one rfl rfl (fun K hK => ?_)
                      go_simp
                      exact hK.out _ _ (.mk b0 b1 b2 b3 b4 b5 true _ _ _ _ _ _ _ _ { HTH.out with h6 := fun _ => rfl })
                  case fin =>
                    rintro lq a' w' ⟨b0, b1, b2, b3, b4, b5, b6, v88, v89, v90, v91, v92, v93, v94, _, HT⟩ hr
                    obtain rfl : b0 = true := by
                      cases b0 with
                      | true => rfl
                      | false => exact (ready_in 0 rfl rfl (by simp [Region.binds]) hr).elim
                    obtain rfl : b1 = true := by
                      cases b1 with
                      | true => rfl
                      | false => exact (ready_in 1 rfl rfl (by simp [Region.binds]) hr).elim
                    obtain rfl : b2 = true := by
                      cases b2 with
                      | true => rfl
                      | false => exact (ready_in 2 rfl rfl (by simp [Region.binds]) hr).elim
                    obtain rfl : b3 = true := by
                      cases b3 with
                      | true => rfl
                      | false => exact (ready_in 3 rfl rfl (by simp [Region.binds]) hr).elim
                    obtain rfl : b4 = true := by
                      cases b4 with
                      | true => rfl
                      | false => exact (ready_in 4 rfl rfl (by simp [Region.binds]) hr).elim
                    obtain rfl : b5 = true := by
                      cases b5 with
                      | true => rfl
                      | false => exact (ready_in 5 rfl rfl (by simp [Region.binds]) hr).elim
                    obtain rfl : b6 = true := by
                      cases b6 with
                      | true => rfl
                      | false => exact (ready_in 6 rfl rfl (by simp [Region.binds]) hr).elim
                    have k0 := HT.h0 rfl
                    subst k0
                    have k1 := HT.h1 rfl
                    subst k1
                    have k2 := HT.h2 rfl
                    subst k2
                    have k3 := HT.h3 rfl
                    subst k3
                    have k4 := HT.h4 rfl
                    subst k4
                    have k5 := HT.h5 rfl
                    subst k5
                    have k6 := HT.h6 rfl
                    subst k6
                    have HF2 := Lib.hid HT.bel
                    clear HT hr
                    show _
                    go_wp2_with fail
                    go_meet
                    exact ⟨rfl, HF2⟩
                case rest =>
                obtain ⟨rfl, HB7⟩ := hcut
                rename World => W7
                have HXY := HXz
                have HX7 : Hid (W7.heap[w.heap.size]? = some (.cells #[.slice (some ⟨b, off, none⟩) i cp] 48) ∧ W7.heap[w.heap.size + 1]? = some (verC a c d s)) := Lib.hid ⟨(HB7.out.block _ HLz.out.1).trans HXz.out.1, (HB7.out.block _ HLz.out.2.1).trans HXz.out.2⟩
                have HL7 : Hid (w.heap.size < W7.heap.size ∧ w.heap.size + 1 < W7.heap.size) := Lib.hid ⟨Nat.lt_of_lt_of_le HLz.out.1 HB7.out.size, Nat.lt_of_lt_of_le HLz.out.2.1 HB7.out.size⟩
                have HM7 := Lib.hid (HMz.out.1.below HMz.out.2 HB7.out)
                have HR7 : Hid (RdR W7 w.heap.size (some ⟨b, off, none⟩) i r) := Lib.hid (HRz.out.below (HB7.out.mono (Nat.le_of_lt HLz.out.1)))
                have HBW7 : Hid (Below w.heap.size w W7) := Lib.hid (HBWo.out.trans (HB7.out.mono HBWo.out.size))
                clear HXz HLz HMz HRz HXY HQT
                have x0 := cell1 HX7.out.1
                by_cases hm8 : i = 8
                · have d8 : ((i : Int) == 8) = true := by rw [hm8]; rfl
                  go_wp2
                  refine bodyPost_ret (results_tmp rfl _ _ _) rfl ⟨rfl, HBW7.out⟩
                · have d8 : ((i : Int) == 8) = false := by rw [beq_eq_false_iff_ne]; omega
                  have HM7' : Hid (i < 8) := Lib.hid (by have := HM8.out; omega)
                  have HXz := HX7
                  have HLz := HL7
                  obtain ⟨Ak, nk, ck, hvk, hrk⟩ := HVA.out.2 k HK.out.2
                  have hbl7 : b < W7.heap.size := Nat.lt_trans HBL.out HL7.out.1
                  have HVK : Hid (W7.cell? ⟨b, off + k, none⟩ = some (.slice Ak nk ck) ∧ b < W7.heap.size ∧ (Value.slice Ak nk ck).oneCell' = true) := Lib.hid ⟨by
                    have h1 := HVC.out k HK.out.2
                    exact (HB7.out.cell (p := ⟨b, off + k, none⟩) (Nat.lt_trans HBL.out (Nat.lt_of_lt_of_le HL4.out.1 HBi.out.size))).trans ((HBi.out.cell (p := ⟨b, off + k, none⟩) (Nat.lt_trans HBL.out HL4.out.1)).trans (h1.trans hvk)), hbl7, rfl⟩
                  have HNV : Hid ((∀ j u, vals[j]? = some u → W7.cell? (Addr.add ⟨b, off, none⟩ j) = some u ∧ (Addr.add ⟨b, off, none⟩ j).block < W7.heap.size) ∧ ∀ u ∈ vals, u.oneCell' = true) := Lib.hid (by
                    have e : ∀ o x, (Addr.add ⟨b, o, none⟩ x) = ⟨b, o + x, none⟩ := fun o x => by unfold Addr.add; by_cases h0 : x = 0 <;> simp [h0]
                    refine ⟨fun j u hj => ?_, fun u hu => ?_⟩
                    · have hjm : j < i := by rw [← HVA.out.1]; exact (List.getElem?_eq_some_iff.1 hj).1
                      rw [e]
                      exact ⟨(HB7.out.cell (p := ⟨b, off + j, none⟩) (Nat.lt_trans HBL.out (Nat.lt_of_lt_of_le HL4.out.1 HBi.out.size))).trans ((HBi.out.cell (p := ⟨b, off + j, none⟩) (Nat.lt_trans HBL.out HL4.out.1)).trans ((HVC.out j hjm).trans hj)), hbl7⟩
                    · obtain ⟨j, hj, rfl⟩ := List.getElem_of_mem hu
                      obtain ⟨Aj, nj, cj, h1, _⟩ := HVA.out.2 j (by rw [← HVA.out.1]; exact hj)
                      rw [List.getElem?_eq_getElem hj] at h1
                      injection h1 with h1
                      rw [h1]; rfl)
                  have HVKK := Lib.hid (And.intro hvk hrk)
                  clear hvk hrk hbl7 hm8
                  go_upto_region 23 with fail
                  clear x0 d8
                  go_cut [15] (fun v15 w' => ∃ gb2 v, v15 = .pointer (some ⟨gb2, 0, none⟩) ∧ Hid (w'.cell? ⟨gb2, 0, none⟩ = some v ∧ W7.heap.size ≤ gb2 ∧ gb2 < w'.heap.size ∧ v.ownBlock ≠ some gb2 ∧ OwnV w' W7.heap.size v (vals ++ [.slice Ak nk ck])) ∧ Hid (Below W7.heap.size W7 w'))
                  case first =>
                    refine wp_region_inv (by kernel_rfl) (I := LwJ W7 w.heap.size b off k i cp vals (.slice Ak nk ck) _ _ _ _ _ _ _ _ _ _ _ _ _ _ _ _ _ _ _ _ _ _ _ _ _ _ _ _ _ _ _ _ _ _ _ _ _ _ _ _ _ _ _ _ _ _ _ _ _ _ _ _ _ _ _ _ _ _ _ _ _ _ _ _ _ _ _ _ _ _ _ _ _ _ _ _ _ _ _ _ _ _ _ _ _ _ _ _ _ _ _ _ _ _ _ _ _ _ _ _ _ _ _ _ _) (.mk false false false false false false false false false false false false false false _ _ _ _ _ _ _ _ _ _ _ _ _ _ ⟨(Below.refl _ W7).drew, nofun, nofun, nofun, nofun, nofun, nofun, nofun, nofun, nofun, nofun, nofun, nofun, nofun, nofun, nofun, nofun, nofun⟩) ?step ?fin
                    case step =>
                      rintro lq a' w' ix ⟨b0, b1, b2, b3, b4, b5, b6, b7, b8, b9, b10, b11, b12, b13, v15, v99, v100, v101, v102, v103, v104, v105, v106, v107, v108, v109, v110, _, HT⟩ hi
                      obtain ⟨hi_, hib⟩ := ready_lt hi
                      have HTH := Lib.hid HT
                      match ix, hi_, hi, hib with
                      | 0, _, hi, hib =>
                        obtain rfl : b0 = false := by simpa using hib
                        clear HT
                        refine wpOp_one rfl rfl (fun K hK => ?_)
                        go_simp
                        have hba : Below w'.heap.size w' (w'.alloc (.cells #[] 69)) := (Below.refl _ w').alloc (Nat.le_refl _) _
                        have hq1 : b3 = true → False := fun h => by have := HTH.out.q1 h; cases this
                        have hq2 : b10 = true → False := fun h => hq1 (HTH.out.q2 h)
                        refine hK.out _ _ (.mk true b1 b2 b3 b4 b5 b6 b7 b8 b9 b10 b11 b12 b13 _ _ _ _ _ _ _ _ _ _ _ _ _ _ { HTH.out with bel := HTH.out.bel.trans (hba.mono HTH.out.bel.size), q1 := fun _ => rfl, oE := fun _ _ => OwnV.empty HTH.out.bel.size (World.alloc_heap_new _ _), o1 := fun h1 _ => (hq1 h1).elim, o2 := fun h => (hq2 h).elim, hC := fun h1 h2 => (by obtain ⟨g1, a1, a2, a3, a4, a5⟩ := HTH.out.hC h1 h2; exact ⟨g1, a1, (hba.cell (p := ⟨g1, 0, none⟩) a3).trans a2, Nat.lt_of_lt_of_le a3 hba.size, fun _ _ => (by intro e; injection e with e; have e : w'.heap.size = g1 := e; omega), a5⟩), hA := fun h => ?_ })
                        obtain ⟨gb, e1, e2, e3, e4, e5, e6, e7, e8⟩ := HTH.out.hA h
                        exact ⟨gb, e1, e2, Nat.lt_of_lt_of_le e3 hba.size, fun h => ⟨(hba.cell (p := ⟨gb, 0, none⟩) e3).trans (e4 h).1, (hba.frozen (p := ⟨gb, 0, none⟩) e3).trans (e4 h).2⟩, fun _ _ => (by intro e; injection e with e; have e : w'.heap.size = gb := e; omega), e6, e7, fun h => (hba.cell (p := ⟨gb, 0, none⟩) e3).trans (e8 h)⟩
                      | 1, _, hi, hib =>
                        clear HT
                        refine wpOp_one rfl rfl (fun K hK => ?_)
                        go_simp
                        exact hK.out _ _ (.mk b0 true b2 b3 b4 b5 b6 b7 b8 b9 b10 b11 b12 b13 _ _ _ _ _ _ _ _ _ _ _ _ _ _ { HTH.out with h1 := fun _ => rfl })
                      | 2, _, hi, hib =>
                        have d1 : b1 = true := ready_dep hi rfl 1 (by kernel_rfl)
                        have hd1 := HT.h1 d1
                        subst hd1
                        have c1 : w'.cell? ⟨w.heap.size, 0, none⟩ = some (.slice (some ⟨b, off, none⟩) i cp) := cell1 ((HT.bel.block _ HLz.out.1).trans HXz.out.1)
                        clear HT
                        refine wpOp_one rfl rfl (fun K hK => ?_)
                        go_simp
                        exact hK.out _ _ (.mk b0 b1 true b3 b4 b5 b6 b7 b8 b9 b10 b11 b12 b13 _ _ _ _ _ _ _ _ _ _ _ _ _ _ { HTH.out with h2 := fun _ => rfl })
                      | 3, _, hi, hib =>
                        have d0 : b0 = true := ready_dep hi rfl 0 (by kernel_rfl)
                        have d2 : b2 = true := ready_dep hi rfl 2 (by kernel_rfl)
                        have hd2 := HT.h2 d2
                        subst hd2
                        obtain rfl : b3 = false := by simpa using hib
                        have HOO := Lib.hid (HT.oE d0 rfl)
                        clear HT
                        have hq2 : b10 = true → False := fun h => by have := HTH.out.q2 h; cases this
                        refine wpOp_one rfl rfl (fun K hK => ?_)
                        refine oper_appL _ _ rfl W7.heap.size _ _ rfl HOO.out _ i cp vals rfl HVA.out.1 (fun j u hj => ?_) (fun u hu => ?_) ?_ HTH.out.bel.size (fun v' w2 hown hgr hat => ?_)
                        · exact (HTH.out.bel.cell (HNV.out.1 j u hj).2).trans (HNV.out.1 j u hj).1
                        · exact HNV.out.2 _ hu
                        · show 0 + i ≤ _; have := HM8.out; omega
                        · have HOWN := Lib.hid hown
                          refine hK.out _ _ (.mk b0 b1 b2 true b4 b5 b6 b7 b8 b9 b10 b11 b12 b13 _ _ _ _ _ _ _ _ _ _ _ _ _ _ { HTH.out with bel := HTH.out.bel.grown hgr HTH.out.bel.size (fun g hg => own_ge HOO.out g hg), oE := fun _ h => (by cases h), o1 := fun _ _ => HOWN.out, o2 := fun h => (hq2 h).elim, q1 := fun _ => d0, q2 := fun h => (hq2 h).elim, hC := fun h1 h2 => (by obtain ⟨g1, a1, a2, a3, a4, a5⟩ := HTH.out.hC h1 h2; have hne1 := a4 d0 rfl; exact ⟨g1, a1, (World.cell?_of_block (hgr.block g1 a3 (fun e => hne1 e.symm))).trans a2, Nat.lt_of_lt_of_le a3 hgr.size, fun _ h => (by cases h), fun _ _ => (by rcases hat with hat | hat; (rw [hat]; exact hne1); (rw [hat]; intro e; injection e with e; omega))⟩), hA := fun h => ?_ })
                          obtain ⟨gb, e1, e2, e3, e4, e5, e6, e7, e8⟩ := HTH.out.hA h
                          have hne := e5 d0 rfl
                          have hbk : w2.heap[gb]? = w'.heap[gb]? := hgr.block gb e3 (fun e => hne e.symm)
                          have hnew : v'.ownBlock ≠ some gb := by
                            rcases hat with hat | hat
                            · rw [hat]; exact hne
                            · rw [hat]; intro e; injection e with e; omega
                          exact ⟨gb, e1, e2, Nat.lt_of_lt_of_le e3 hgr.size, fun h => ⟨(World.cell?_of_block hbk).trans (e4 h).1, (World.frozen?_of_block hbk).trans (e4 h).2⟩, fun _ h => (by cases h), fun _ _ => hnew, e7, fun h => (World.cell?_of_block hbk).trans (e8 h)⟩
                      | 4, _, hi, hib =>
                        clear HT
                        refine wpOp_one rfl rfl (fun K hK => ?_)
                        go_simp
                        exact hK.out _ _ (.mk b0 b1 b2 b3 true b5 b6 b7 b8 b9 b10 b11 b12 b13 _ _ _ _ _ _ _ _ _ _ _ _ _ _ { HTH.out with h4 := fun _ => rfl })
                      | 5, _, hi, hib =>
                        have d4 : b4 = true := ready_dep hi rfl 4 (by kernel_rfl)
                        have hd4 := HT.h4 d4
                        subst hd4
                        have c1 : w'.cell? ⟨w.heap.size, 0, none⟩ = some (.slice (some ⟨b, off, none⟩) i cp) := cell1 ((HT.bel.block _ HLz.out.1).trans HXz.out.1)
                        clear HT
                        refine wpOp_one rfl rfl (fun K hK => ?_)
                        go_simp
                        exact hK.out _ _ (.mk b0 b1 b2 b3 b4 true b6 b7 b8 b9 b10 b11 b12 b13 _ _ _ _ _ _ _ _ _ _ _ _ _ _ { HTH.out with h5 := fun _ => rfl })
                      | 6, _, hi, hib =>
                        clear HT
                        refine wpOp_one rfl rfl (fun K hK => ?_)
                        go_simp
                        exact hK.out _ _ (.mk b0 b1 b2 b3 b4 b5 true b7 b8 b9 b10 b11 b12 b13 _ _ _ _ _ _ _ _ _ _ _ _ _ _ { HTH.out with h6 := fun _ => rfl })
                      | 7, _, hi, hib =>
                        have d5 : b5 = true := ready_dep hi rfl 5 (by kernel_rfl)
                        have d6 : b6 = true := ready_dep hi rfl 6 (by kernel_rfl)
                        have hd5 := HT.h5 d5
                        subst hd5
                        have hd6 := HT.h6 d6
                        subst hd6
                        have f1 := HSL.out.1
                        have f2 : (k : Int) < (i : Int) := by have := HK.out.2; omega
                        have f3 := HSL.out.2.2.1
                        clear HT
                        refine wpOp_one rfl rfl (fun K hK => ?_)
                        go_simp
                        exact hK.out _ _ (.mk b0 b1 b2 b3 b4 b5 b6 true b8 b9 b10 b11 b12 b13 _ _ _ _ _ _ _ _ _ _ _ _ _ _ { HTH.out with h7 := fun _ => rfl })
                      | 8, _, hi, hib =>
                        have d7 : b7 = true := ready_dep hi rfl 7 (by kernel_rfl)
                        have hd7 := HT.h7 d7
                        subst hd7
                        have qk := (HT.bel.cell (p := ⟨b, off + k, none⟩) HVK.out.2.1).trans HVK.out.1
                        clear HT
                        refine wpOp_one rfl rfl (fun K hK => ?_)
                        go_simp
                        exact hK.out _ _ (.mk b0 b1 b2 b3 b4 b5 b6 b7 true b9 b10 b11 b12 b13 _ _ _ _ _ _ _ _ _ _ _ _ _ _ { HTH.out with h8 := fun _ => rfl })
                      | 9, _, hi, hib =>
                        have d8 : b8 = true := ready_dep hi rfl 8 (by kernel_rfl)
                        have hd8 := HT.h8 d8
                        subst hd8
                        obtain rfl : b9 = false := by simpa using hib
                        clear HT
                        refine wpOp_one rfl rfl (fun K hK => ?_)
                        go_simp
                        have hba : Below w'.heap.size w' (w'.alloc (.cells #[.slice Ak nk ck] 69)) := (Below.refl _ w').alloc (Nat.le_refl _) _
                        have hnew := World.alloc_heap_new w' (.cells #[.slice Ak nk ck] 69)
                        refine hK.out _ _ (.mk b0 b1 b2 b3 b4 b5 b6 b7 b8 true b10 b11 b12 b13 _ _ _ _ _ _ _ _ _ _ _ _ _ _ { HTH.out with bel := HTH.out.bel.trans (hba.mono HTH.out.bel.size), oE := fun h1 h2 => (HTH.out.oE h1 h2).alloc _, o1 := fun h1 h2 => (HTH.out.o1 h1 h2).alloc _, o2 := fun h => (HTH.out.o2 h).alloc _, hC := fun _ _ => ⟨w'.heap.size, rfl, cell1 hnew, by simp, fun h1 h2 e => Nat.lt_irrefl _ (own_lt (HTH.out.oE h1 h2) _ e), fun h1 h2 e => Nat.lt_irrefl _ (own_lt (HTH.out.o1 h1 h2) _ e)⟩, hA := fun h => ?_ })
                        obtain ⟨gb, e1, e2, e3, e4, e5, e6, e7, e8⟩ := HTH.out.hA h
                        exact ⟨gb, e1, e2, Nat.lt_of_lt_of_le e3 hba.size, fun h => ⟨(hba.cell (p := ⟨gb, 0, none⟩) e3).trans (e4 h).1, (hba.frozen (p := ⟨gb, 0, none⟩) e3).trans (e4 h).2⟩, e5, e6, e7, fun h => (hba.cell (p := ⟨gb, 0, none⟩) e3).trans (e8 h)⟩
                      | 10, _, hi, hib =>
                        have d3 : b3 = true := ready_dep hi rfl 3 (by kernel_rfl)
                        have d9 : b9 = true := ready_dep hi rfl 9 (by kernel_rfl)
                        obtain rfl : b10 = false := by simpa using hib
                        obtain ⟨g1, a1, a2, a3, _, _⟩ := HT.hC d9 rfl
                        subst a1
                        have HA2 := Lib.hid a2
                        clear a2
                        have HOO := Lib.hid (HT.o1 d3 rfl)
                        clear HT
                        have hqB : b11 = true → False := fun h => by have := HTH.out.q4 h; cases this
                        have hqS : b13 = true → False := fun h => by have := (HTH.out.q3 h).2; cases this
                        refine wpOp_one rfl rfl (fun K hK => ?_)
                        refine oper_appL _ _ rfl W7.heap.size _ _ rfl HOO.out _ 1 1 [.slice Ak nk ck] rfl rfl (fun j u hj => ?_) (fun u hu => ?_) ?_ HTH.out.bel.size (fun v' w2 hown hgr hat => ?_)
                        · match j, hj with
                          | 0, hj => simp at hj; subst hj; exact HA2.out
                        · simp only [List.mem_singleton] at hu; subst hu; rfl
                        · rw [HVA.out.1]; have := HM8.out; omega
                        · have HOWN := Lib.hid hown
                          refine hK.out _ _ (.mk b0 b1 b2 b3 b4 b5 b6 b7 b8 b9 true b11 b12 b13 _ _ _ _ _ _ _ _ _ _ _ _ _ _ { HTH.out with bel := HTH.out.bel.grown hgr HTH.out.bel.size (fun g hg => own_ge HOO.out g hg), oE := fun _ h => (by rw [d3] at h; cases h), o1 := fun _ h => (by cases h), o2 := fun _ => HOWN.out, q2 := fun _ => d3, q3 := fun h => (hqS h).elim, q4 := fun h => (hqB h).elim, hB := fun h => (hqB h).elim, hC := fun _ h => (by cases h), hA := fun h => ?_ })
                          obtain ⟨gb, e1, e2, e3, e4, e5, e6, e7, e8⟩ := HTH.out.hA h
                          have hne := e6 d3 rfl
                          have hbk : w2.heap[gb]? = w'.heap[gb]? := hgr.block gb e3 (fun e => hne e.symm)
                          have hnew : v'.ownBlock ≠ some gb := by
                            rcases hat with hat | hat
                            · rw [hat]; exact hne
                            · rw [hat]; intro e; injection e with e; omega
                          exact ⟨gb, e1, e2, Nat.lt_of_lt_of_le e3 hgr.size, fun h => ⟨(World.cell?_of_block hbk).trans (e4 h).1, (World.frozen?_of_block hbk).trans (e4 h).2⟩, e5, fun _ h => (by cases h), fun _ => hnew, fun h => (hqS h).elim⟩
                      | 11, _, hi, hib =>
                        have d10 : b10 = true := ready_dep hi rfl 10 (by kernel_rfl)
                        obtain ⟨Av, Lz, cv, hv⟩ : ∃ Av Lz cv, v109 = .slice Av Lz cv := (by obtain ⟨x, y, z⟩ := (HT.o2 d10).shape; exact ⟨x, _, y, z⟩)
                        subst hv
                        clear HT
                        refine wpOp_one rfl rfl (fun K hK => ?_)
                        go_simp
                        exact hK.out _ _ (.mk b0 b1 b2 b3 b4 b5 b6 b7 b8 b9 b10 true b12 b13 _ _ _ _ _ _ _ _ _ _ _ _ _ _ { HTH.out with q4 := fun _ => d10, hB := fun _ => rfl })
                      | 12, _, hi, hib =>
                        obtain rfl : b12 = false := by simpa using hib
                        clear HT
                        refine wpOp_one rfl rfl (fun K hK => ?_)
                        go_simp
                        have hba : Below w'.heap.size w' (w'.alloc (.cells #[.slice none 0 0] 48)) := (Below.refl _ w').alloc (Nat.le_refl _) _
                        have hnew := World.alloc_heap_new w' (.cells #[.slice none 0 0] 48)
                        exact hK.out _ _ (.mk b0 b1 b2 b3 b4 b5 b6 b7 b8 b9 b10 b11 true b13 _ _ _ _ _ _ _ _ _ _ _ _ _ _ { HTH.out with bel := HTH.out.bel.trans (hba.mono HTH.out.bel.size), oE := fun h1 h2 => (HTH.out.oE h1 h2).alloc _, o1 := fun h1 h2 => (HTH.out.o1 h1 h2).alloc _, o2 := fun h => (HTH.out.o2 h).alloc _, hC := fun h1 h2 => (by obtain ⟨g1, a1, a2, a3, a4, a5⟩ := HTH.out.hC h1 h2; exact ⟨g1, a1, (hba.cell (p := ⟨g1, 0, none⟩) a3).trans a2, Nat.lt_of_lt_of_le a3 hba.size, a4, a5⟩), hA := fun _ => ⟨w'.heap.size, rfl, HTH.out.bel.size, by simp, fun _ => ⟨cell1 hnew, by simp only [World.frozen?, hnew]; rfl⟩, fun h1 h2 e => Nat.lt_irrefl _ (own_lt (HTH.out.oE h1 h2) _ e), fun h1 h2 e => Nat.lt_irrefl _ (own_lt (HTH.out.o1 h1 h2) _ e), fun h e => Nat.lt_irrefl _ (own_lt (HTH.out.o2 h) _ e), fun h => (by have := (HTH.out.q3 h).1; cases this)⟩, q3 := fun h => (by have := (HTH.out.q3 h).1; cases this) })
                      | 13, _, hi, hib =>
                        have d12 : b12 = true := ready_dep hi rfl 12 (by kernel_rfl)
                        have d11 : b11 = true := ready_dep hi rfl 11 (by kernel_rfl)
                        have d10 : b10 = true := ready_dep hi rfl 10 (by kernel_rfl)
                        have hdB := HT.hB d11
                        subst hdB
                        obtain rfl : b13 = false := by simpa using hib
                        obtain ⟨gb, e1, e2, e3, e4, e5, e6, e7, e8⟩ := HT.hA d12
                        subst e1
                        have HE4 := Lib.hid (e4 rfl)
                        obtain ⟨c0, cf⟩ := e4 rfl
                        have HOO := Lib.hid (HT.o2 d10)
                        have hne := e7 d10
                        obtain ⟨Av, Lz, cv, hv⟩ : ∃ Av Lz cv, v109 = .slice Av Lz cv := (by obtain ⟨x, y, z⟩ := (HT.o2 d10).shape; exact ⟨x, _, y, z⟩)
                        subst hv
                        clear HT
                        have dA1 := HTH.out.q2 d10
                        refine wpOp_one rfl rfl (fun K hK => ?_)
                        go_simp
                        refine hK.out _ _ (.mk b0 b1 b2 b3 b4 b5 b6 b7 b8 b9 b10 b11 b12 true _ _ _ _ _ _ _ _ _ _ _ _ _ _ { HTH.out with bel := HTH.out.bel.setCell (p := ⟨gb, 0, none⟩) e2 _, oE := fun _ h => (by rw [dA1] at h; cases h), o1 := fun _ h => (by rw [d10] at h; cases h), o2 := fun _ => ?_, q3 := fun _ => ⟨d12, d10⟩, hB := fun _ => rfl, hC := fun _ h => (by rw [d10] at h; cases h), hA := fun _ => ⟨gb, rfl, e2, by simpa using e3, nofun, e5, e6, e7, fun _ => World.cell?_setCell_same _ _ _ c0⟩ })
                        have h := HOO.out
                        refine ⟨h.1, ?_⟩
                        rcases h.2 with h | ⟨g', cap, cur, hv, hbg, hh, r⟩
                        · exact .inl h
                        · refine .inr ⟨g', cap, cur, hv, hbg, ?_, r⟩
                          rw [Below.heap_setCell _ _ _ _ (by intro e; exact hne (by rw [hv, e]; rfl))]
                          exact hh
                    case fin =>
                      rintro lq a' w' ⟨b0, b1, b2, b3, b4, b5, b6, b7, b8, b9, b10, b11, b12, b13, v15, v99, v100, v101, v102, v103, v104, v105, v106, v107, v108, v109, v110, _, HT⟩ hr
                      obtain rfl : b0 = true := by
                        cases b0 with
                        | true => rfl
                        | false => exact (ready_in 0 rfl rfl (by simp [Region.binds]) hr).elim
                      obtain rfl : b1 = true := by
                        cases b1 with
                        | true => rfl
                        | false => exact (ready_in 1 rfl rfl (by simp [Region.binds]) hr).elim
                      obtain rfl : b2 = true := by
                        cases b2 with
                        | true => rfl
                        | false => exact (ready_in 2 rfl rfl (by simp [Region.binds]) hr).elim
                      obtain rfl : b3 = true := by
                        cases b3 with
                        | true => rfl
                        | false => exact (ready_in 3 rfl rfl (by simp [Region.binds]) hr).elim
                      obtain rfl : b4 = true := by
                        cases b4 with
                        | true => rfl
                        | false => exact (ready_in 4 rfl rfl (by simp [Region.binds]) hr).elim
                      obtain rfl : b5 = true := by
                        cases b5 with
                        | true => rfl
                        | false => exact (ready_in 5 rfl rfl (by simp [Region.binds]) hr).elim
                      obtain rfl : b6 = true := by
                        cases b6 with
                        | true => rfl
                        | false => exact (ready_in 6 rfl rfl (by simp [Region.binds]) hr).elim
                      obtain rfl : b7 = true := by
                        cases b7 with
                        | true => rfl
                        | false => exact (ready_in 7 rfl rfl (by simp [Region.binds]) hr).elim
                      obtain rfl : b8 = true := by
                        cases b8 with
                        | true => rfl
                        | false => exact (ready_in 8 rfl rfl (by simp [Region.binds]) hr).elim
                      obtain rfl : b9 = true := by
                        cases b9 with
                        | true => rfl
                        | false => exact (ready_in 9 rfl rfl (by simp [Region.binds]) hr).elim
                      obtain rfl : b10 = true := by
                        cases b10 with
                        | true => rfl
                        | false => exact (ready_in 10 rfl rfl (by simp [Region.binds]) hr).elim
                      obtain rfl : b11 = true := by
                        cases b11 with
                        | true => rfl
                        | false => exact (ready_in 11 rfl rfl (by simp [Region.binds]) hr).elim
                      obtain rfl : b12 = true := by
                        cases b12 with
                        | true => rfl
                        | false => exact (ready_in 12 rfl rfl (by simp [Region.binds]) hr).elim
                      obtain rfl : b13 = true := by
                        cases b13 with
                        | true => rfl
                        | false => exact (ready_in 13 rfl rfl (by simp [Region.binds]) hr).elim
                      obtain ⟨gb2, e1, e2, e3, _, _, _, e7, e8⟩ := HT.hA rfl
                      subst e1
                      have HFF := Lib.hid (And.intro (e8 rfl) (And.intro e2 (And.intro e3 (And.intro (e7 rfl) (HT.o2 rfl)))))
                      have HBF := Lib.hid HT.bel
                      clear HT hr e2 e3 e7 e8
                      show _
                      go_wp2_with fail
                      go_meet
                      exact ⟨gb2, _, rfl, HFF, HBF⟩
                  case rest =>
                  obtain ⟨gb2, v9, rfl, HFF, HBF9⟩ := hcut
                  rename World => W9
                  obtain ⟨gt2, c9, hv9, hge9, hgl9⟩ := World.ownsRow.form HFF.out.2.2.2.2 (by simp)
                  have hln9 : (vals ++ [Value.slice Ak nk ck]).length = i + 1 := by rw [List.length_append, HVA.out.1]; rfl
                  rw [hln9] at hv9
                  subst hv9
                  have HRT9 : Hid (RdR W9 W9.heap.size (some ⟨gt2, 0, none⟩) (i + 1) (r ++ [lsAt r k])) := Lib.hid (by
                    refine ⟨by rw [List.length_append, HML.out]; rfl, fun j hj => ?_⟩
                    have hval : ∃ A' n' c', (vals ++ [Value.slice Ak nk ck])[j]? = some (.slice A' n' c') ∧ RdC W4 w.heap.size A' n' (lsAt (r ++ [lsAt r k]) j) := by
                      by_cases hji : j < i
                      · obtain ⟨A', n', c', h1, h2⟩ := HVA.out.2 j hji
                        refine ⟨A', n', c', ?_, ?_⟩
                        · rw [List.getElem?_append_left (by rw [HVA.out.1]; exact hji)]; exact h1
                        · have e : lsAt (r ++ [lsAt r k]) j = lsAt r j := by
                            show (_ : List (List CV)).getD j [] = (_ : List (List CV)).getD j []
                            rw [List.getD_eq_getElem?_getD, List.getElem?_append_left (by rw [HML.out]; exact hji), ← List.getD_eq_getElem?_getD]
                          rw [e]; exact h2
                      · have hje : j = i := by omega
                        subst hje
                        refine ⟨Ak, nk, ck, ?_, ?_⟩
                        · rw [List.getElem?_append_right (by rw [HVA.out.1]; exact Nat.le_refl _), HVA.out.1, Nat.sub_self]; rfl
                        · have e : lsAt (r ++ [lsAt r k]) j = lsAt r k := by
                            show (_ : List (List CV)).getD j [] = _
                            rw [List.getD_eq_getElem?_getD, List.getElem?_append_right (by rw [HML.out]; exact Nat.le_refl _), HML.out, Nat.sub_self]; rfl
                          rw [e]; exact HVKK.out.2
                    obtain ⟨A', n', c', h1, h2⟩ := hval
                    have h3 := World.ownsRow.cells HFF.out.2.2.2.2 (g := gt2) rfl _ _ h1
                    have ee : (Addr.add ⟨gt2, 0, none⟩ j) = ⟨gt2, 0 + j, none⟩ := by unfold Addr.add; by_cases h0 : j = 0 <;> simp [h0]
                    rw [ee] at h3
                    refine ⟨gt2, 0, A', n', c', rfl, hgl9, h3, ?_⟩
                    have h4 := (h2.below (HBi.out.mono (Nat.le_of_lt HL4.out.1))).below (HB7.out.mono (by have := HBWo.out.size; exact this))
                    exact (h4.below (HBF9.out.mono (Nat.le_of_lt HL7.out.1))).more (Nat.le_trans (Nat.le_of_lt HL7.out.1) HBF9.out.size))
                  have HFT9 : Hid (Fits (r ++ [lsAt r k])) := Lib.hid (fun l hl => by
                    rcases List.mem_append.1 hl with h | h
                    · exact HFI.out l h
                    · simp only [List.mem_singleton] at h
                      subst h
                      exact HFI.out _ (lsAt_mem (by rw [HML.out]; exact HK.out.2)))
                  have HQT : Hid (hasR (r ++ [lsAt r k]) ⟨a, c, d, bs s⟩ = q) := Lib.hid (by rw [hasR_twice (by rw [HML.out]; exact HK.out.2) (by rw [HML.out]; exact HM7'.out)]; exact HQ.out)
                  have HC15 : Hid (W9.cell? ⟨gb2, 0, none⟩ = some (.slice (some ⟨gt2, 0, none⟩) (i + 1) c9)) := Lib.hid HFF.out.1
                  have HX9 : Hid (W9.heap[w.heap.size]? = some (.cells #[.slice (some ⟨b, off, none⟩) i cp] 48) ∧ W9.heap[w.heap.size + 1]? = some (verC a c d s)) := Lib.hid ⟨(HBF9.out.block _ HL7.out.1).trans HX7.out.1, (HBF9.out.block _ HL7.out.2).trans HX7.out.2⟩
                  have HL9 : Hid (w.heap.size < W9.heap.size ∧ w.heap.size + 1 < W9.heap.size ∧ gb2 < W9.heap.size) := Lib.hid ⟨Nat.lt_of_lt_of_le HL7.out.1 HBF9.out.size, Nat.lt_of_lt_of_le HL7.out.2 HBF9.out.size, HFF.out.2.2.1⟩
                  clear HXz HLz
                  have HXz := HX9
                  have HLz := HL9
                  have HMz := Lib.hid (HM7.out.1.below HM7.out.2 HBF9.out)
                  have HRz : Hid (RdR W9 w.heap.size (some ⟨b, off, none⟩) i r) := Lib.hid (HR7.out.below (HBF9.out.mono (Nat.le_of_lt HL7.out.1)))
                  have HBW9 : Hid (Below w.heap.size w W9) := Lib.hid (HBW7.out.trans (HBF9.out.mono HBW7.out.size))
                  clear hge9 hgl9 hln9
                  go_upto_region 24 with fail
                  refine wp_region_inv (by kernel_rfl) (I := LxJ W9 (.agg #[.slice (some ⟨gt2, 0, none⟩) (i + 1) c9]) (verV a c d s) (.agg #[.slice (some ⟨b, off, none⟩) i cp]) q _ _ _ _ _ _ _ _ _ _ _ _ _ _ _ _ _ _ _ _ _ _ _ _ _ _ _ _ _ _ _ _ _ _ _ _ _ _ _ _ _ _ _ _ _ _ _ _ _ _ _ _ _ _ _ _ _ _ _ _ _ _ _ _ _ _ _ _ _ _ _ _ _ _ _ _ _ _ _ _ _ _ _ _ _ _ _ _ _ _ _ _ _ _ _ _ _ _ _ _ _ _ _ _ _ _ _ _ _ _) (.mk false false false false false false false false _ _ _ _ _ _ _ _ _ ⟨(Below.refl _ W9).drew, nofun, nofun, nofun, nofun, nofun, nofun, nofun, nofun⟩) ?step ?fin
                  case step =>
                    rintro lq a' w' ix ⟨b0, b1, b2, b3, b4, b5, b6, b7, v6, v111, v112, v113, v114, v115, v116, v117, _, HT⟩ hi
                    obtain ⟨hi_, hib⟩ := ready_lt hi
                    have HTH := Lib.hid HT
                    match ix, hi_, hi, hib with
                    | 0, _, hi, hib =>
                      have c15 := (HT.bel.cell (p := ⟨gb2, 0, none⟩) HLz.out.2.2).trans HC15.out
                      clear HT
                      refine wpOp_one rfl rfl (fun K hK => ?_)
                      go_simp
                      exact hK.out _ _ (.mk true b1 b2 b3 b4 b5 b6 b7 _ _ _ _ _ _ _ _ _ { HTH.out with h0 := fun _ => rfl })
                    | 1, _, hi, hib =>
                      obtain ⟨y0, y1, y2, y3⟩ := cells4 ((HT.bel.block _ HLz.out.2.1).trans HXz.out.2)
                      clear HT
                      refine wpOp_one rfl rfl (fun K hK => ?_)
                      go_simp
                      exact hK.out _ _ (.mk b0 true b2 b3 b4 b5 b6 b7 _ _ _ _ _ _ _ _ _ { HTH.out with h1 := fun _ => rfl })
                    | 2, _, hi, hib =>
                      have d0 : b0 = true := ready_dep hi rfl 0 (by kernel_rfl)
                      have hd0 := HT.h0 d0
                      subst hd0
                      have d1 : b1 = true := ready_dep hi rfl 1 (by kernel_rfl)
                      have hd1 := HT.h1 d1
                      subst hd1
                      have hM := HMz.out.1.below HMz.out.2 HT.bel
                      have HC := Lib.hid (RgHas_any (some ⟨gt2, 0, none⟩) (i + 1) c9 (r ++ [lsAt r k]) a c d s w' W9.heap.size (HRT9.out.below HT.bel) HT.bel.size HFT9.out (by have := HSS.out; omega) (by have := HM8.out; omega) hM.1 hM.2)
                      rw [HQT.out] at HC
                      clear hM
                      clear HT
                      refine wpOp_one rfl rfl (fun K hK => ?_)
                      go_simp
                      refine HC.out.mono ?_
                      rintro e w2 ⟨rfl, hb⟩
                      exact hK.out _ _ (.mk b0 b1 true b3 b4 b5 b6 b7 _ _ _ _ _ _ _ _ _ { HTH.out with bel := HTH.out.bel.trans (hb.mono HTH.out.bel.size), h2 := fun _ => rfl })
                    | 3, _, hi, hib =>
                      have c1 : w'.cell? ⟨w.heap.size, 0, none⟩ = some (.slice (some ⟨b, off, none⟩) i cp) := cell1 ((HT.bel.block _ HLz.out.1).trans HXz.out.1)
                      clear HT
                      refine wpOp_one rfl rfl (fun K hK => ?_)
                      go_simp
                      exact hK.out _ _ (.mk b0 b1 b2 true b4 b5 b6 b7 _ _ _ _ _ _ _ _ _ { HTH.out with h3 := fun _ => rfl })
                    | 4, _, hi, hib =>
                      obtain ⟨y0, y1, y2, y3⟩ := cells4 ((HT.bel.block _ HLz.out.2.1).trans HXz.out.2)
                      clear HT
                      refine wpOp_one rfl rfl (fun K hK => ?_)
                      go_simp
                      exact hK.out _ _ (.mk b0 b1 b2 b3 true b5 b6 b7 _ _ _ _ _ _ _ _ _ { HTH.out with h4 := fun _ => rfl })
                    | 5, _, hi, hib =>
                      have d3 : b3 = true := ready_dep hi rfl 3 (by kernel_rfl)
                      have hd3 := HT.h3 d3
                      subst hd3
                      have d4 : b4 = true := ready_dep hi rfl 4 (by kernel_rfl)
                      have hd4 := HT.h4 d4
                      subst hd4
                      have hM := HMz.out.1.below HMz.out.2 HT.bel
                      have HC := Lib.hid (RgHas_any (some ⟨b, off, none⟩) i cp r a c d s w' w.heap.size (HRz.out.below (HT.bel.mono (Nat.le_of_lt HLz.out.1))) (Nat.le_trans (Nat.le_of_lt HLz.out.1) HT.bel.size) HFI.out (by have := HSS.out; omega) (by have := HM8.out; omega) hM.1 hM.2)
                      rw [HQ.out] at HC
                      clear hM
                      clear HT
                      refine wpOp_one rfl rfl (fun K hK => ?_)
                      go_simp
                      refine HC.out.mono ?_
                      rintro e w2 ⟨rfl, hb⟩
                      exact hK.out _ _ (.mk b0 b1 b2 b3 b4 true b6 b7 _ _ _ _ _ _ _ _ _ { HTH.out with bel := HTH.out.bel.trans (hb.mono HTH.out.bel.size), h5 := fun _ => rfl })
                    | 6, _, hi, hib =>
                      have d2 : b2 = true := ready_dep hi rfl 2 (by kernel_rfl)
                      have hd2 := HT.h2 d2
                      subst hd2
                      have d5 : b5 = true := ready_dep hi rfl 5 (by kernel_rfl)
                      have hd5 := HT.h5 d5
                      subst hd5
                      clear HT
                      refine wpOp_one rfl rfl (fun K hK => ?_)
                      go_simp
                      exact hK.out _ _ (.mk b0 b1 b2 b3 b4 b5 true b7 _ _ _ _ _ _ _ _ _ { HTH.out with h6 := fun _ => rfl })
                    | 7, _, hi, hib =>
                      have d6 : b6 = true := ready_dep hi rfl 6 (by kernel_rfl)
                      have hd6 := HT.h6 d6
                      subst hd6
                      clear HT
                      refine wpOp_one rfl rfl (fun K hK => ?_)
                      go_simp
                      exact hK.out _ _ (.mk b0 b1 b2 b3 b4 b5 b6 true _ _ _ _ _ _ _ _ _ { HTH.out with h7 := fun _ => rfl })
                  case fin =>
                    rintro lq a' w' ⟨b0, b1, b2, b3, b4, b5, b6, b7, v6, v111, v112, v113, v114, v115, v116, v117, _, HT⟩ hr
                    obtain rfl : b0 = true := by
                      cases b0 with
                      | true => rfl
                      | false => exact (ready_in 0 rfl rfl (by simp [Region.binds]) hr).elim
                    obtain rfl : b1 = true := by
                      cases b1 with
                      | true => rfl
                      | false => exact (ready_in 1 rfl rfl (by simp [Region.binds]) hr).elim
                    obtain rfl : b2 = true := by
                      cases b2 with
                      | true => rfl
                      | false => exact (ready_in 2 rfl rfl (by simp [Region.binds]) hr).elim
                    obtain rfl : b3 = true := by
                      cases b3 with
                      | true => rfl
                      | false => exact (ready_in 3 rfl rfl (by simp [Region.binds]) hr).elim
                    obtain rfl : b4 = true := by
                      cases b4 with
                      | true => rfl
                      | false => exact (ready_in 4 rfl rfl (by simp [Region.binds]) hr).elim
                    obtain rfl : b5 = true := by
                      cases b5 with
                      | true => rfl
                      | false => exact (ready_in 5 rfl rfl (by simp [Region.binds]) hr).elim
                    obtain rfl : b6 = true := by
                      cases b6 with
                      | true => rfl
                      | false => exact (ready_in 6 rfl rfl (by simp [Region.binds]) hr).elim
                    obtain rfl : b7 = true := by
                      cases b7 with
                      | true => rfl
                      | false => exact (ready_in 7 rfl rfl (by simp [Region.binds]) hr).elim
                    have k0 := HT.h0 rfl
                    subst k0
                    have k1 := HT.h1 rfl
                    subst k1
                    have k2 := HT.h2 rfl
                    subst k2
                    have k3 := HT.h3 rfl
                    subst k3
                    have k4 := HT.h4 rfl
                    subst k4
                    have k5 := HT.h5 rfl
                    subst k5
                    have k6 := HT.h6 rfl
                    subst k6
                    have k7 := HT.h7 rfl
                    subst k7
                    have HF2 : Hid (Below w.heap.size w w') := Lib.hid (HBW9.out.trans (HT.bel.mono HBW9.out.size))
                    clear HT hr
                    show _
                    go_wp2
                    refine bodyPost_ret (results_tmp rfl _ _ _) rfl ⟨rfl, HF2.out⟩
end Go.Proofs.YtbmhjmdbolnbaaaDoor
