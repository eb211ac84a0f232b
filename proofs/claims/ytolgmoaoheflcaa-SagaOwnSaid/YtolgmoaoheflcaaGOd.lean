/-
 Region 11 of SagaOwn: a plan's four rows are copied (printed by gengod.py).
-/
import Derived.Test.YtolgmoaoheflcaaGOb
import Derived.Test.YtolgmoaoheflcaaGOc
namespace Go.Proofs.Ytolgmoaoheflcaa.Sa
open Go.RowKit
open DiP
set_option linter.unusedVariables false
set_option linter.unusedSimpArgs false
set_option maxRecDepth 10000
def curV (b : Bool) (x y : Value) : Value := bif b then y else x
structure RowOk {α : Type} (E : TypeId) (z : Nat) (f : α → List Value) (bb ba : Bool) (vb va : Value) (m : Nat) (row : List α) (w : World) (K : Nat) : Prop where
 ord : ba = true → bb = true
 e : bb = true → ba = false → ∃ g, vb = .slice (some ⟨g, 0, none⟩) 0 0
 e2 : ba = true → ∃ A c, va = .slice A m c
 own : bb = true → OwnF E z f w K (curV ba vb va) (bif ba then row else [])
section
variable {α : Type} {E : TypeId} {z : Nat} {f : α → List Value} {bb ba : Bool} {vb va : Value} {m K : Nat} {row : List α} {w w' : World}
theorem RowOk.alloc (h : RowOk E z f bb ba vb va m row w K) (o : Obj) : RowOk E z f bb ba vb va m row (w.alloc o) K := ⟨h.ord, h.e, h.e2, fun hb => (h.own hb).alloc o⟩
theorem RowOk.lt (h : RowOk E z f bb ba vb va m row w K) (hb : bb = true) : LtV (curV ba vb va) w.heap.size := (h.own hb).lt
theorem RowOk.other {u : Value} (h : RowOk E z f bb ba vb va m row w K) (hg : w.grownBy w' u.ownBlock) (hd : bb = true → Dj (curV ba vb va) u) : RowOk E z f bb ba vb va m row w' K := ⟨h.ord, h.e, h.e2, fun hb => (h.own hb).other hg (hd hb)⟩
theorem RowOk.setC (h : RowOk E z f bb ba vb va m row w K) {p : Addr} (hp : p.block < K) (u : Value) : RowOk E z f bb ba vb va m row (w.setCell p u) K := ⟨h.ord, h.e, h.e2, fun hb => (h.own hb).setC hp u⟩
theorem RowOk.none_ (E : TypeId) (z : Nat) (f : α → List Value) (vb va : Value) (m : Nat) (row : List α) (w : World) (K : Nat) : RowOk E z f false false vb va m row w K := ⟨nofun, nofun, nofun, nofun⟩
theorem RowOk.start (hK : K ≤ w.heap.size) (va : Value) (m : Nat) (row : List α) : RowOk E z f true false (.slice (some ⟨w.heap.size, 0, none⟩) 0 0) va m row (w.alloc (.cells #[] E)) K := ⟨nofun, fun _ _ => ⟨_, rfl⟩, nofun, fun _ => by
 show OwnF E z f (w.alloc (.cells #[] E)) K (.slice (some ⟨w.heap.size, 0, none⟩) 0 0) ([] : List α)
 exact ⟨by simp, .inr ⟨w.heap.size, 0, #[], rfl, hK, heap_alloc_new _ _, Nat.le_refl _, by unfold maxLen; omega, by simp, by simp⟩⟩⟩
theorem RowOk.app {A : Option Addr} {c : Nat} (h : OwnF E z f w K (.slice A m c) row) (vb : Value) : RowOk E z f true true vb (.slice A m c) m row w K := ⟨fun _ => rfl, nofun, fun _ => ⟨_, _, rfl⟩, fun _ => h⟩
theorem ge_new (g : Nat) : GeV (.slice (some ⟨g, 0, none⟩) 0 0) g := fun k hk => by
 have h' : some g = some k := hk
 injection h' with h'
 omega
theorem dj_app {u v : Value} {g n : Nat} (hat : v.ownBlock = some g ∨ v.ownBlock = some n) (hd : Dj u (.slice (some ⟨g, 0, none⟩) 0 0)) (hl : LtV u n) : Dj u v := fun k hk e => by
 rcases hat with h | h
 ·rw [h] at e
  exact hd k hk e
 ·rw [h] at e
  injection e with e
  have := hl k hk
  omega
end
def set4o (w : World) (g : Nat) (a b c d : Value) : World := (((w.setCell ⟨g, 2, none⟩ a).setCell ⟨g, 3, none⟩ b).setCell ⟨g, 4, none⟩ c).setCell ⟨g, 5, none⟩ d
theorem set4o_same {w : World} {g : Nat} {x y a1 a2 a3 a4 a b c d : Value} {t : TypeId} (h : w.heap[g]? = some (.cells #[x, y, a1, a2, a3, a4] t (0, 0))) : (set4o w g a b c d).heap[g]? = some (.cells #[x, y, a, b, c, d] t (0, 0)) :=
 heap_setCell_same _ g 5 _ _ d (heap_setCell_same _ g 4 _ _ c (heap_setCell_same _ g 3 _ _ b (heap_setCell_same w g 2 _ _ a h)))
theorem set4o_other {w : World} {g k : Nat} {a b c d : Value} (h : k ≠ g) : (set4o w g a b c d).heap[k]? = w.heap[k]? :=
 (Below.heap_setCell _ _ _ k h).trans ((Below.heap_setCell _ _ _ k h).trans ((Below.heap_setCell _ _ _ k h).trans (Below.heap_setCell _ _ _ k h)))
theorem set4o_size (w : World) (g : Nat) (a b c d : Value) : (set4o w g a b c d).heap.size = w.heap.size := by unfold set4o; simp
structure OwSt (X : World) (rb : Nat) (kd sp : Int) (BF BT BS BE : Option Addr) (mF mT mS mE dF dT dS dE : Nat) (p : PlV) (b0 b1 b2 b3 b4 b5 b6 b7 b8 b9 b10 b11 b12 b13 b14 b15 b16 b17 b18 : Bool) (v39 v40 v41 v42 v43 v44 v45 v46 v47 v48 v49 v50 v51 v52 v53 v54 v55 v56 : Value) (w' : World) : Prop where
 env : w'.os = X.os ∧ w'.tape = X.tape ∧ w'.output = X.output
 frm : ∀ k, k < X.heap.size → k ≠ rb → w'.heap[k]? = X.heap[k]?
 sz : X.heap.size ≤ w'.heap.size
 fa0 : b1 = true → v40 = .pointer (some ⟨rb + 1, 0, none⟩)
 ld0 : b2 = true → v41 = .slice BF mF dF
 r0 : RowOk 3 1 inF b0 b3 v39 v42 mF p.fs w' X.heap.size
 fa1 : b5 = true → v44 = .pointer (some ⟨rb + 1, 1, none⟩)
 ld1 : b6 = true → v45 = .slice BT mT dT
 r1 : RowOk 3 1 inF b4 b7 v43 v46 mT p.ts w' X.heap.size
 fa2 : b9 = true → v48 = .pointer (some ⟨rb + 1, 2, none⟩)
 ld2 : b10 = true → v49 = .slice BS mS dS
 r2 : RowOk 71 2 prF b8 b11 v47 v50 mS p.S w' X.heap.size
 fa3 : b13 = true → v52 = .pointer (some ⟨rb + 1, 3, none⟩)
 ld3 : b14 = true → v53 = .slice BE mE dE
 r3 : RowOk 90 2 prF b12 b15 v51 v54 mE p.E w' X.heap.size
 d01 : b0 = true → b4 = true → Dj (curV b3 v39 v42) (curV b7 v43 v46)
 d02 : b0 = true → b8 = true → Dj (curV b3 v39 v42) (curV b11 v47 v50)
 d03 : b0 = true → b12 = true → Dj (curV b3 v39 v42) (curV b15 v51 v54)
 d12 : b4 = true → b8 = true → Dj (curV b7 v43 v46) (curV b11 v47 v50)
 d13 : b4 = true → b12 = true → Dj (curV b7 v43 v46) (curV b15 v51 v54)
 d23 : b8 = true → b12 = true → Dj (curV b11 v47 v50) (curV b15 v51 v54)
 bld : b16 = true → ∃ A1 c1 A2 c2 A3 c3 A4 c4, v42 = .slice A1 mF c1 ∧ v46 = .slice A2 mT c2 ∧ v50 = .slice A3 mS c3 ∧ v54 = .slice A4 mE c4 ∧ v55 = .agg #[.slice A1 mF c1, .slice A2 mT c2, .slice A3 mS c3, .slice A4 mE c4]
 o16 : b16 = true → b3 = true ∧ b7 = true ∧ b11 = true ∧ b15 = true
 o18 : b18 = true → b16 = true
 fa4 : b17 = true → v56 = .pointer (some ⟨rb, 2, none⟩)
 z : w'.heap[rb]? = some (.cells (bif b18 then #[.int .i64 kd, .int .i64 sp, v42, v46, v50, v54] else #[.int .i64 kd, .int .i64 sp, .slice BF mF dF, .slice BT mT dT, .slice BS mS dS, .slice BE mE dE]) 33 (0, 0))
inductive OwJ (X : World) (rb : Nat) (kd sp : Int) (BF BT BS BE : Option Addr) (mF mT mS mE dF dT dS dE : Nat) (p : PlV) (p0 p1 p2 p3 p4 p5 p6 p7 p8 p9 p10 p11 p12 p13 p14 p15 p16 p17 p18 p19 p20 p21 p22 p23 p24 p25 p26 p27 p28 p29 p30 p31 p32 p33 p34 p35 p36 p37 p38 p57 p58 p59 p60 p61 p62 p63 p64 p65 p66 p67 p68 p69 p70 p71 p72 p73 p74 p75 p76 p77 p78 p79 p80 p81 p82 p83 p84 p85 p86 p87 p88 p89 p90 p91 p92 p93 p94 p95 p96 p97 p98 p99 p100 p101 p102 p103 p104 p105 p106 p107 p108 p109 p110 p111 p112 p113 p114 p115 p116 p117 p118 p119 p120 p121 p122 p123 p124 p125 p126 p127 p128 p129 p130 p131 p132 p133 p134 p135 p136 p137 p138 p139 p140 p141 p142 p143 p144 p145 p146 p147 p148 p149 p150 p151 p152 p153 p154 p155 p156 p157 : Value) : Array Bool → Act → World → Prop where
 | mk (b0 b1 b2 b3 b4 b5 b6 b7 b8 b9 b10 b11 b12 b13 b14 b15 b16 b17 b18 : Bool) (v39 v40 v41 v42 v43 v44 v45 v46 v47 v48 v49 v50 v51 v52 v53 v54 v55 v56 : Value) (w' : World) : OwSt X rb kd sp BF BT BS BE mF mT mS mE dF dT dS dE p b0 b1 b2 b3 b4 b5 b6 b7 b8 b9 b10 b11 b12 b13 b14 b15 b16 b17 b18 v39 v40 v41 v42 v43 v44 v45 v46 v47 v48 v49 v50 v51 v52 v53 v54 v55 v56 w' → OwJ X rb kd sp BF BT BS BE mF mT mS mE dF dT dS dE p p0 p1 p2 p3 p4 p5 p6 p7 p8 p9 p10 p11 p12 p13 p14 p15 p16 p17 p18 p19 p20 p21 p22 p23 p24 p25 p26 p27 p28 p29 p30 p31 p32 p33 p34 p35 p36 p37 p38 p57 p58 p59 p60 p61 p62 p63 p64 p65 p66 p67 p68 p69 p70 p71 p72 p73 p74 p75 p76 p77 p78 p79 p80 p81 p82 p83 p84 p85 p86 p87 p88 p89 p90 p91 p92 p93 p94 p95 p96 p97 p98 p99 p100 p101 p102 p103 p104 p105 p106 p107 p108 p109 p110 p111 p112 p113 p114 p115 p116 p117 p118 p119 p120 p121 p122 p123 p124 p125 p126 p127 p128 p129 p130 p131 p132 p133 p134 p135 p136 p137 p138 p139 p140 p141 p142 p143 p144 p145 p146 p147 p148 p149 p150 p151 p152 p153 p154 p155 p156 p157 #[b0, b1, b2, b3, b4, b5, b6, b7, b8, b9, b10, b11, b12, b13, b14, b15, b16, b17, b18] { tmps := List.toArray (p0 :: p1 :: p2 :: p3 :: p4 :: p5 :: p6 :: p7 :: p8 :: p9 :: p10 :: p11 :: p12 :: p13 :: p14 :: p15 :: p16 :: p17 :: p18 :: p19 :: p20 :: p21 :: p22 :: p23 :: p24 :: p25 :: p26 :: p27 :: p28 :: p29 :: p30 :: p31 :: p32 :: p33 :: p34 :: p35 :: p36 :: p37 :: p38 :: v39 :: v40 :: v41 :: v42 :: v43 :: v44 :: v45 :: v46 :: v47 :: v48 :: v49 :: v50 :: v51 :: v52 :: v53 :: v54 :: v55 :: v56 :: p57 :: p58 :: p59 :: p60 :: p61 :: p62 :: p63 :: p64 :: p65 :: p66 :: p67 :: p68 :: p69 :: p70 :: p71 :: p72 :: p73 :: p74 :: p75 :: p76 :: p77 :: p78 :: p79 :: p80 :: p81 :: p82 :: p83 :: p84 :: p85 :: p86 :: p87 :: p88 :: p89 :: p90 :: p91 :: p92 :: p93 :: p94 :: p95 :: p96 :: p97 :: p98 :: p99 :: p100 :: p101 :: p102 :: p103 :: p104 :: p105 :: p106 :: p107 :: p108 :: p109 :: p110 :: p111 :: p112 :: p113 :: p114 :: p115 :: p116 :: p117 :: p118 :: p119 :: p120 :: p121 :: p122 :: p123 :: p124 :: p125 :: p126 :: p127 :: p128 :: p129 :: p130 :: p131 :: p132 :: p133 :: p134 :: p135 :: p136 :: p137 :: p138 :: p139 :: p140 :: p141 :: p142 :: p143 :: p144 :: p145 :: p146 :: p147 :: p148 :: p149 :: p150 :: p151 :: p152 :: p153 :: p154 :: p155 :: p156 :: p157 :: []), defers := [] } w'
end Go.Proofs.Ytolgmoaoheflcaa.Sa
