/-
 CONTRACT: behind (printed by gengbh.py): the region that copies the state.
-/
import Derived.Test.YtolgmoaoheflcaaGCp
import Derived.Test.YtolgmoaoheflcaaGFo
import Derived.Test.YtolgmoaoheflcaaInv
namespace Go.Proofs.Ytolgmoaoheflcaa.Sa
open Go.RowKit
open DiP
set_option linter.unusedVariables false
set_option linter.unusedSimpArgs false
set_option maxRecDepth 10000
def aggOf : Value → Array Value
 | .agg cs => cs
 | _ => #[]
def set8 (w : World) (g : Nat) (a0 a1 a2 a3 a4 a5 a6 a7 : Value) : World := (((((((w.setCell ⟨g, 0, none⟩ a0).setCell ⟨g, 1, none⟩ a1).setCell ⟨g, 2, none⟩ a2).setCell ⟨g, 3, none⟩ a3).setCell ⟨g, 4, none⟩ a4).setCell ⟨g, 5, none⟩ a5).setCell ⟨g, 6, none⟩ a6).setCell ⟨g, 7, none⟩ a7
theorem set8_same {w : World} {g : Nat} {x0 x1 x2 x3 x4 x5 x6 x7 a0 a1 a2 a3 a4 a5 a6 a7 : Value} {t : TypeId} (h : w.heap[g]? = some (.cells #[x0, x1, x2, x3, x4, x5, x6, x7] t (0, 0))) : (set8 w g a0 a1 a2 a3 a4 a5 a6 a7).heap[g]? = some (.cells #[a0, a1, a2, a3, a4, a5, a6, a7] t (0, 0)) := by
 unfold set8
 have h0 : (w.setCell ⟨g, 0, none⟩ a0).heap[g]? = some (.cells #[a0, x1, x2, x3, x4, x5, x6, x7] t (0, 0)) := heap_setCell_same w g 0 _ _ a0 h
 have h1 : ((w.setCell ⟨g, 0, none⟩ a0).setCell ⟨g, 1, none⟩ a1).heap[g]? = some (.cells #[a0, a1, x2, x3, x4, x5, x6, x7] t (0, 0)) := heap_setCell_same (w.setCell ⟨g, 0, none⟩ a0) g 1 _ _ a1 h0
 have h2 : (((w.setCell ⟨g, 0, none⟩ a0).setCell ⟨g, 1, none⟩ a1).setCell ⟨g, 2, none⟩ a2).heap[g]? = some (.cells #[a0, a1, a2, x3, x4, x5, x6, x7] t (0, 0)) := heap_setCell_same ((w.setCell ⟨g, 0, none⟩ a0).setCell ⟨g, 1, none⟩ a1) g 2 _ _ a2 h1
 have h3 : ((((w.setCell ⟨g, 0, none⟩ a0).setCell ⟨g, 1, none⟩ a1).setCell ⟨g, 2, none⟩ a2).setCell ⟨g, 3, none⟩ a3).heap[g]? = some (.cells #[a0, a1, a2, a3, x4, x5, x6, x7] t (0, 0)) := heap_setCell_same (((w.setCell ⟨g, 0, none⟩ a0).setCell ⟨g, 1, none⟩ a1).setCell ⟨g, 2, none⟩ a2) g 3 _ _ a3 h2
 have h4 : (((((w.setCell ⟨g, 0, none⟩ a0).setCell ⟨g, 1, none⟩ a1).setCell ⟨g, 2, none⟩ a2).setCell ⟨g, 3, none⟩ a3).setCell ⟨g, 4, none⟩ a4).heap[g]? = some (.cells #[a0, a1, a2, a3, a4, x5, x6, x7] t (0, 0)) := heap_setCell_same ((((w.setCell ⟨g, 0, none⟩ a0).setCell ⟨g, 1, none⟩ a1).setCell ⟨g, 2, none⟩ a2).setCell ⟨g, 3, none⟩ a3) g 4 _ _ a4 h3
 have h5 : ((((((w.setCell ⟨g, 0, none⟩ a0).setCell ⟨g, 1, none⟩ a1).setCell ⟨g, 2, none⟩ a2).setCell ⟨g, 3, none⟩ a3).setCell ⟨g, 4, none⟩ a4).setCell ⟨g, 5, none⟩ a5).heap[g]? = some (.cells #[a0, a1, a2, a3, a4, a5, x6, x7] t (0, 0)) := heap_setCell_same (((((w.setCell ⟨g, 0, none⟩ a0).setCell ⟨g, 1, none⟩ a1).setCell ⟨g, 2, none⟩ a2).setCell ⟨g, 3, none⟩ a3).setCell ⟨g, 4, none⟩ a4) g 5 _ _ a5 h4
 have h6 : (((((((w.setCell ⟨g, 0, none⟩ a0).setCell ⟨g, 1, none⟩ a1).setCell ⟨g, 2, none⟩ a2).setCell ⟨g, 3, none⟩ a3).setCell ⟨g, 4, none⟩ a4).setCell ⟨g, 5, none⟩ a5).setCell ⟨g, 6, none⟩ a6).heap[g]? = some (.cells #[a0, a1, a2, a3, a4, a5, a6, x7] t (0, 0)) := heap_setCell_same ((((((w.setCell ⟨g, 0, none⟩ a0).setCell ⟨g, 1, none⟩ a1).setCell ⟨g, 2, none⟩ a2).setCell ⟨g, 3, none⟩ a3).setCell ⟨g, 4, none⟩ a4).setCell ⟨g, 5, none⟩ a5) g 6 _ _ a6 h5
 have h7 : ((((((((w.setCell ⟨g, 0, none⟩ a0).setCell ⟨g, 1, none⟩ a1).setCell ⟨g, 2, none⟩ a2).setCell ⟨g, 3, none⟩ a3).setCell ⟨g, 4, none⟩ a4).setCell ⟨g, 5, none⟩ a5).setCell ⟨g, 6, none⟩ a6).setCell ⟨g, 7, none⟩ a7).heap[g]? = some (.cells #[a0, a1, a2, a3, a4, a5, a6, a7] t (0, 0)) := heap_setCell_same (((((((w.setCell ⟨g, 0, none⟩ a0).setCell ⟨g, 1, none⟩ a1).setCell ⟨g, 2, none⟩ a2).setCell ⟨g, 3, none⟩ a3).setCell ⟨g, 4, none⟩ a4).setCell ⟨g, 5, none⟩ a5).setCell ⟨g, 6, none⟩ a6) g 7 _ _ a7 h6
 exact h7
theorem set8_other {w : World} {g k : Nat} {a0 a1 a2 a3 a4 a5 a6 a7 : Value} (h : k ≠ g) : (set8 w g a0 a1 a2 a3 a4 a5 a6 a7).heap[k]? = w.heap[k]? := by
 unfold set8
 iterate 8 rw [Below.heap_setCell _ _ _ k h]
theorem set8_size (w : World) (g : Nat) (a0 a1 a2 a3 a4 a5 a6 a7 : Value) : (set8 w g a0 a1 a2 a3 a4 a5 a6 a7).heap.size = w.heap.size := by unfold set8; simp
theorem set8_below {w w' : World} {B g : Nat} {a0 a1 a2 a3 a4 a5 a6 a7 : Value} (h : Below B w w') (hg : B ≤ g) : Below B w (set8 w' g a0 a1 a2 a3 a4 a5 a6 a7) := by
 have h0 := h.setCell (p := ⟨g, 0, none⟩) hg a0
 have h1 := h0.setCell (p := ⟨g, 1, none⟩) hg a1
 have h2 := h1.setCell (p := ⟨g, 2, none⟩) hg a2
 have h3 := h2.setCell (p := ⟨g, 3, none⟩) hg a3
 have h4 := h3.setCell (p := ⟨g, 4, none⟩) hg a4
 have h5 := h4.setCell (p := ⟨g, 5, none⟩) hg a5
 have h6 := h5.setCell (p := ⟨g, 6, none⟩) hg a6
 exact h6.setCell (p := ⟨g, 7, none⟩) hg a7
def GeV (v : Value) (K : Nat) : Prop := ∀ g, v.ownBlock = some g → K ≤ g
def LtV (v : Value) (K : Nat) : Prop := ∀ g, v.ownBlock = some g → g < K
def LtP (v : Value) (K : Nat) : Prop := ∀ cs, v = .agg cs → ∀ x ∈ cs.toList, LtV x K
/-- Two rows have no block in common. -/
def Dj (u v : Value) : Prop := ∀ g, u.ownBlock = some g → v.ownBlock ≠ some g
theorem Dj.of {u v : Value} {K : Nat} (h : LtV u K) (k : GeV v K) : Dj u v := fun g hg e => by have := h g hg; have := k g e; omega
theorem Dj.symm {u v : Value} (h : Dj u v) : Dj v u := fun g hg e => h g e hg
theorem PlO.ltP {w : World} {base : Nat} {AF AT AS AE : Option Addr} {nF nT nS nE cF cT cS cE : Nat} {p : PlV} (h : PlO w base AF nF cF AT nT cT AS nS cS AE nE cE p) : LtP (.agg #[.slice AF nF cF, .slice AT nT cT, .slice AS nS cS, .slice AE nE cE]) w.heap.size := by
 intro cs e x hx
 injection e with e
 subst e
 simp only [List.mem_cons, List.not_mem_nil, or_false] at hx
 rcases hx with rfl | rfl | rfl | rfl
 ·exact h.fs.lt
 ·exact h.ts.lt
 ·exact h.S.lt
 ·exact h.E.lt
/-- The rows that may be written are apart from all others. -/
structure Djs (a b c d o n : Value) : Prop where
 ao : Dj a o
 bo : Dj b o
 co : Dj c o
 do_ : Dj d o
 no : Dj n o
 an : Dj a n
 bn : Dj b n
 cn : Dj c n
 dn : Dj d n
theorem djs {a b c d o n : Value} {K1 K2 : Nat} (h1 : GeV o K1) (h2 : LtP (.agg #[a, b, c, d]) K1) (h3 : GeV n K2) (h4 : LtP (.agg #[a, b, c, d]) K2) (h5 : LtV o K2) : Djs a b c d o n :=
 ⟨.of (h2 _ rfl a (by simp)) h1, .of (h2 _ rfl b (by simp)) h1, .of (h2 _ rfl c (by simp)) h1, .of (h2 _ rfl d (by simp)) h1, (Dj.of h5 h3).symm, .of (h4 _ rfl a (by simp)) h3, .of (h4 _ rfl b (by simp)) h3, .of (h4 _ rfl c (by simp)) h3, .of (h4 _ rfl d (by simp)) h3⟩
theorem OwnF.other {α : Type} {E : TypeId} {z : Nat} {f : α → List Value} {w w' : World} {base : Nat} {v u : Value} {l : List α} (h : OwnF E z f w base v l) (hg : w.grownBy w' u.ownBlock) (hd : Dj v u) : OwnF E z f w' base v l := by
 refine ⟨h.1, ?_⟩
 rcases h.2 with h | ⟨b, cap, cur, hv, hbg, hh, r⟩
 ·exact .inl h
 ·exact .inr ⟨b, cap, cur, hv, hbg, (hg.block b (heapE_lt hh) (fun e => hd b (by rw [hv]; rfl) e.symm)).trans hh, r⟩
theorem PlO.other {w w' : World} {base : Nat} {AF AT AS AE : Option Addr} {nF nT nS nE cF cT cS cE : Nat} {p : PlV} {u : Value} (h : PlO w base AF nF cF AT nT cT AS nS cS AE nE cE p) (hg : w.grownBy w' u.ownBlock) (h1 : Dj (.slice AF nF cF) u) (h2 : Dj (.slice AT nT cT) u) (h3 : Dj (.slice AS nS cS) u) (h4 : Dj (.slice AE nE cE) u) : PlO w' base AF nF cF AT nT cT AS nS cS AE nE cE p := ⟨h.fs.other hg h1, h.ts.other hg h2, h.S.other hg h3, h.E.other hg h4, h.sz⟩
theorem of_grown {w w' : World} {base B : Nat} {v : Value} (h : w.grownBy w' v.ownBlock) (hv : ∀ g, v.ownBlock = some g → base ≤ g) {w0 : World} (hb : Below base w0 w) (hs : base ≤ w.heap.size) : Below base w0 w' := hb.grown h hs hv
structure BhSt (W : World) (sb : Nat) (num ph : Int) (AF AT AS AE AO AD : Option Addr) (nF nT nS nE nO nD cF cT cS cE cO cD : Nat) (s : StV) (b0 b1 b2 b3 b4 b5 b6 b7 b8 b9 b10 b11 b12 b13 b14 b15 : Bool) (v5 v6 v7 v8 v9 v10 v11 v12 v13 v14 v15 v16 v17 v18 v19 : Value) (w' : World) : Prop where
 bel : Below W.heap.size W w'
 h0 : b0 = true → v6 = .pointer (some ⟨sb, 0, none⟩)
 h1 : b1 = true → v7 = .int .i64 num
 h2 : b2 = true → v8 = .pointer (some ⟨sb, 1, none⟩)
 h3 : b3 = true → v9 = .int .i64 ph
 h4 : b4 = true → v10 = .pointer (some ⟨sb, 2, none⟩)
 h5 : b5 = true → v11 = .agg #[.slice AF nF cF, .slice AT nT cT, .slice AS nS cS, .slice AE nE cE]
 h7 : b7 = true → v13 = .pointer (some ⟨sb, 6, none⟩)
 h8 : b8 = true → v14 = .slice AO nO cO
 h10 : b10 = true → v16 = .pointer (some ⟨sb, 7, none⟩)
 h11 : b11 = true → v17 = .slice AD nD cD
 h6 : b6 = true → ∃ A1 c1 A2 c2 A3 c3 A4 c4, v12 = .agg #[.slice A1 nF c1, .slice A2 nT c2, .slice A3 nS c3, .slice A4 nE c4] ∧ PlO w' W.heap.size A1 nF c1 A2 nT c2 A3 nS c3 A4 nE c4 s.pl
 h9 : b9 = true → ∃ A5 c5 K, v15 = .slice A5 nO c5 ∧ OwnF 3 1 inF w' W.heap.size (.slice A5 nO c5) s.op ∧ GeV v15 K ∧ LtP v12 K
 h12 : b12 = true → ∃ A6 c6 K, v18 = .slice A6 nD c6 ∧ OwnF 3 1 inF w' W.heap.size (.slice A6 nD c6) s.dn ∧ GeV v18 K ∧ LtP v12 K ∧ LtV v15 K
 h13 : b13 = true → ∃ A1 c1 A2 c2 A3 c3 A4 c4 A5 c5 A6 c6, v12 = .agg #[.slice A1 nF c1, .slice A2 nT c2, .slice A3 nS c3, .slice A4 nE c4] ∧ v15 = .slice A5 nO c5 ∧ v18 = .slice A6 nD c6 ∧ v19 = .agg #[.int .i64 num, .int .i64 ph, .slice A1 nF c1, .slice A2 nT c2, .slice A3 nS c3, .slice A4 nE c4, .slice A5 nO c5, .slice A6 nD c6]
 z14 : b14 = true → ∃ g, v5 = .pointer (some ⟨g, 0, none⟩) ∧ W.heap.size ≤ g ∧ w'.heap[g]? = some (.cells (bif b15 then aggOf v19 else #[.int .i64 0, .int .i64 0, .slice none 0 0, .slice none 0 0, .slice none 0 0, .slice none 0 0, .slice none 0 0, .slice none 0 0]) 31 (0, 0))
 o15_13 : b15 = true → b13 = true
 o15_14 : b15 = true → b14 = true
 o13_6 : b13 = true → b6 = true
 o13_9 : b13 = true → b9 = true
 o13_12 : b13 = true → b12 = true
 o9_6 : b9 = true → b6 = true
 o12_9 : b12 = true → b9 = true
 o12_6 : b12 = true → b6 = true
inductive BhJ (W : World) (sb : Nat) (num ph : Int) (AF AT AS AE AO AD : Option Addr) (nF nT nS nE nO nD cF cT cS cE cO cD : Nat) (s : StV) (p0 p1 p2 p3 p4 p20 p21 p22 p23 p24 p25 p26 p27 p28 p29 p30 p31 p32 p33 p34 p35 p36 p37 p38 p39 p40 p41 p42 p43 p44 p45 p46 p47 p48 p49 p50 p51 p52 p53 p54 p55 p56 p57 p58 p59 p60 p61 p62 p63 p64 p65 p66 p67 p68 p69 p70 p71 p72 p73 p74 p75 p76 p77 p78 p79 p80 p81 p82 p83 : Value) : Array Bool → Act → World → Prop where
 | mk (b0 b1 b2 b3 b4 b5 b6 b7 b8 b9 b10 b11 b12 b13 b14 b15 : Bool) (v5 v6 v7 v8 v9 v10 v11 v12 v13 v14 v15 v16 v17 v18 v19 : Value) (w' : World) : BhSt W sb num ph AF AT AS AE AO AD nF nT nS nE nO nD cF cT cS cE cO cD s b0 b1 b2 b3 b4 b5 b6 b7 b8 b9 b10 b11 b12 b13 b14 b15 v5 v6 v7 v8 v9 v10 v11 v12 v13 v14 v15 v16 v17 v18 v19 w' → BhJ W sb num ph AF AT AS AE AO AD nF nT nS nE nO nD cF cT cS cE cO cD s p0 p1 p2 p3 p4 p20 p21 p22 p23 p24 p25 p26 p27 p28 p29 p30 p31 p32 p33 p34 p35 p36 p37 p38 p39 p40 p41 p42 p43 p44 p45 p46 p47 p48 p49 p50 p51 p52 p53 p54 p55 p56 p57 p58 p59 p60 p61 p62 p63 p64 p65 p66 p67 p68 p69 p70 p71 p72 p73 p74 p75 p76 p77 p78 p79 p80 p81 p82 p83 #[b0, b1, b2, b3, b4, b5, b6, b7, b8, b9, b10, b11, b12, b13, b14, b15] { tmps := List.toArray (p0 :: p1 :: p2 :: p3 :: p4 :: v5 :: v6 :: v7 :: v8 :: v9 :: v10 :: v11 :: v12 :: v13 :: v14 :: v15 :: v16 :: v17 :: v18 :: v19 :: p20 :: p21 :: p22 :: p23 :: p24 :: p25 :: p26 :: p27 :: p28 :: p29 :: p30 :: p31 :: p32 :: p33 :: p34 :: p35 :: p36 :: p37 :: p38 :: p39 :: p40 :: p41 :: p42 :: p43 :: p44 :: p45 :: p46 :: p47 :: p48 :: p49 :: p50 :: p51 :: p52 :: p53 :: p54 :: p55 :: p56 :: p57 :: p58 :: p59 :: p60 :: p61 :: p62 :: p63 :: p64 :: p65 :: p66 :: p67 :: p68 :: p69 :: p70 :: p71 :: p72 :: p73 :: p74 :: p75 :: p76 :: p77 :: p78 :: p79 :: p80 :: p81 :: p82 :: p83 :: []), defers := [] } w'
theorem Dj.sl {A : Option Addr} {n c n' c' : Nat} {v : Value} (h : Dj (.slice A n c) v) : Dj (.slice A n' c') v := by
 cases A with
 | none => intro g hg; cases hg
 | some a => exact fun g hg => h g hg
theorem OwnF.neT {α : Type} {E T : TypeId} {z : Nat} {f : α → List Value} {w : World} {base g : Nat} {v : Value} {l : List α} {cs : Array Value} (h : OwnF E z f w base v l) (hg : w.heap[g]? = some (.cells cs T (0, 0))) (hT : T ≠ E) : some g ≠ v.ownBlock := by
 intro e
 rcases h.2 with ⟨hv, _⟩ | ⟨b, cap, cur, hv, hbg, hh, r⟩
 ·rw [hv] at e; cases e
 ·rw [hv] at e
  injection e with e
  subst e
  rw [hg] at hh
  injection hh with hh
  injection hh with _ h2 _
  exact hT h2
theorem wplF_one {w : World} {ops : Array Oper} {rest : List Oper} {o : Oper} {a : Act} {Q : Exit → Act → World → Prop} (hgd : o.guard = none) (s x : Operand)
  (ho : o.op = .call { callee := .builtin .append, args := #[s, x], argTypes := #[25, 25] })
  (base : Nat) (v : Value) (l : List Int) (hs : a.eval s = v) (hown : OwnF 3 1 inF w base v l)
  (p : Addr) (d : Nat) (y : Int) (hx : a.eval x = .slice (some p) 1 d) (hc : w.cell? p = some (.int .i64 y)) (hn : l.length + 1 ≤ 1000000000) (hbase : base ≤ w.heap.size)
  (h : ∀ A' n' c' w', OwnF 3 1 inF w' base (.slice A' n' c') (l ++ [y]) → w.grownBy w' v.ownBlock → wpList Try.prog ops Q rest (a.put o.dst (.slice A' n' c')) w') :
  wpList Try.prog ops Q (o :: rest) a w := by
 refine wplF_appA (f := inF) (fun _ => rfl) (fun x u hu => by simp [inF] at hu; subst hu; rfl) Try.underlying25 infoIn rfl (by decide) (by decide) hgd s x ho base v l hs hown p 1 d [y] hx rfl ?_ hn hbase ?_
 ·intro j u hu
  match j, hu with
  | 0, hu =>
   have : u = .int .i64 y := by simpa [inF] using hu.symm
   rw [this]
   have : p.add 0 = p := by unfold Addr.add; simp
   rw [this]; exact hc
  | j + 1, hu => simp [inF] at hu
 ·intro v' w' ho' hg _
  obtain ⟨A', c', hv⟩ := ho'.shape
  subst hv
  exact h _ _ _ w' ho' hg
structure BkSt (X : World) (sb g : Nat) (num : Int) (BF BT BS BE : Option Addr) (mF mT mS mE dF dT dS dE : Nat) (gs : Array Value) (p : PlV) (b0 b1 b2 b3 b4 b5 b6 b7 : Bool) (v24 v25 v26 v27 v28 v29 v30 : Value) (w' : World) : Prop where
 bel : b7 = false → Below X.heap.size X w'
 frm : ∀ k, k < X.heap.size → k ≠ g → w'.heap[k]? = X.heap[k]?
 sz : X.heap.size ≤ w'.heap.size
 env : w'.os = X.os ∧ w'.tape = X.tape ∧ w'.output = X.output
 h0 : b0 = true → v24 = .pointer (some ⟨sb, 0, none⟩)
 h1 : b1 = true → v25 = .int .i64 num
 h2 : b2 = true → v26 = .int .i64 (IntKind.i64.wrap (num + 1))
 h3 : b3 = true → v27 = .pointer (some ⟨sb + 1, 2, none⟩)
 h4 : b4 = true → v28 = .agg #[.slice BF mF dF, .slice BT mT dT, .slice BS mS dS, .slice BE mE dE]
 h5 : b5 = true → ∃ B1 e1 B2 e2 B3 e3 B4 e4, v29 = .agg #[.slice B1 mF e1, .slice B2 mT e2, .slice B3 mS e3, .slice B4 mE e4] ∧ PlO w' X.heap.size B1 mF e1 B2 mT e2 B3 mS e3 B4 mE e4 p
 h6 : b6 = true → ∃ B1 e1 B2 e2 B3 e3 B4 e4, v29 = .agg #[.slice B1 mF e1, .slice B2 mT e2, .slice B3 mS e3, .slice B4 mE e4] ∧ v30 = .agg #[.int .i64 (IntKind.i64.wrap (num + 1)), .int .i64 1, .slice B1 mF e1, .slice B2 mT e2, .slice B3 mS e3, .slice B4 mE e4, .slice none 0 0, .slice none 0 0]
 z : w'.heap[g]? = some (.cells (bif b7 then aggOf v30 else gs) 31 (0, 0))
 o7_6 : b7 = true → b6 = true
 o6_5 : b6 = true → b5 = true
 o7_5 : b7 = true → b5 = true
inductive BkJ (X : World) (sb g : Nat) (num : Int) (BF BT BS BE : Option Addr) (mF mT mS mE dF dT dS dE : Nat) (gs : Array Value) (p : PlV) (p0 p1 p2 p3 p4 p5 p6 p7 p8 p9 p10 p11 p12 p13 p14 p15 p16 p17 p18 p19 p20 p21 p22 p23 p31 p32 p33 p34 p35 p36 p37 p38 p39 p40 p41 p42 p43 p44 p45 p46 p47 p48 p49 p50 p51 p52 p53 p54 p55 p56 p57 p58 p59 p60 p61 p62 p63 p64 p65 p66 p67 p68 p69 p70 p71 p72 p73 p74 p75 p76 p77 p78 p79 p80 p81 p82 p83 : Value) : Array Bool → Act → World → Prop where
 | mk (b0 b1 b2 b3 b4 b5 b6 b7 : Bool) (v24 v25 v26 v27 v28 v29 v30 : Value) (w' : World) : BkSt X sb g num BF BT BS BE mF mT mS mE dF dT dS dE gs p b0 b1 b2 b3 b4 b5 b6 b7 v24 v25 v26 v27 v28 v29 v30 w' → BkJ X sb g num BF BT BS BE mF mT mS mE dF dT dS dE gs p p0 p1 p2 p3 p4 p5 p6 p7 p8 p9 p10 p11 p12 p13 p14 p15 p16 p17 p18 p19 p20 p21 p22 p23 p31 p32 p33 p34 p35 p36 p37 p38 p39 p40 p41 p42 p43 p44 p45 p46 p47 p48 p49 p50 p51 p52 p53 p54 p55 p56 p57 p58 p59 p60 p61 p62 p63 p64 p65 p66 p67 p68 p69 p70 p71 p72 p73 p74 p75 p76 p77 p78 p79 p80 p81 p82 p83 #[b0, b1, b2, b3, b4, b5, b6, b7] { tmps := List.toArray (p0 :: p1 :: p2 :: p3 :: p4 :: p5 :: p6 :: p7 :: p8 :: p9 :: p10 :: p11 :: p12 :: p13 :: p14 :: p15 :: p16 :: p17 :: p18 :: p19 :: p20 :: p21 :: p22 :: p23 :: v24 :: v25 :: v26 :: v27 :: v28 :: v29 :: v30 :: p31 :: p32 :: p33 :: p34 :: p35 :: p36 :: p37 :: p38 :: p39 :: p40 :: p41 :: p42 :: p43 :: p44 :: p45 :: p46 :: p47 :: p48 :: p49 :: p50 :: p51 :: p52 :: p53 :: p54 :: p55 :: p56 :: p57 :: p58 :: p59 :: p60 :: p61 :: p62 :: p63 :: p64 :: p65 :: p66 :: p67 :: p68 :: p69 :: p70 :: p71 :: p72 :: p73 :: p74 :: p75 :: p76 :: p77 :: p78 :: p79 :: p80 :: p81 :: p82 :: p83 :: []), defers := [] } w'
set_option maxHeartbeats 16000000 in
theorem behind_any {w : World} {B : Nat} {num ph : Int} {AF AT AS AE AO AD : Option Addr} {nF nT nS nE nO nD cF cT cS cE cO cD : Nat} {kd sp : Int} {BF BT BS BE : Option Addr} {mF mT mS mE dF dT dS dE : Nat} {s : StV} {r : RcV} (h : StW w B num ph AF nF AT nT AS nS AE nE AO nO AD nD s) (hr : RcW w B kd sp BF mF BT mT BS mS BE mE r) (hB : B ≤ w.heap.size) (hk : 1 ≤ kd ∧ kd ≤ 8) :
 Calls Try.prog 39 #[.agg #[.int .i64 num, .int .i64 ph, .slice AF nF cF, .slice AT nT cT, .slice AS nS cS, .slice AE nE cE, .slice AO nO cO, .slice AD nD cD], .agg #[.int .i64 kd, .int .i64 sp, .slice BF mF dF, .slice BT mT dT, .slice BS mS dS, .slice BE mE dE]] w fun e w' => ∃ num' ph' A1 n1 c1 A2 n2 c2 A3 n3 c3 A4 n4 c4 A5 n5 c5 A6 n6 c6, e = .returned (.agg #[.int .i64 num', .int .i64 ph', .slice A1 n1 c1, .slice A2 n2 c2, .slice A3 n3 c3, .slice A4 n4 c4, .slice A5 n5 c5, .slice A6 n6 c6]) ∧ StO w' w.heap.size num' ph' A1 n1 c1 A2 n2 c2 A3 n3 c3 A4 n4 c4 A5 n5 c5 A6 n6 c6 (behindS s r) ∧ Below w.heap.size w w' := by
 obtain ⟨W, HW⟩ : ∃ W, Hid (W = ((w.alloc (.cells #[.int .i64 num, .int .i64 ph, .slice AF nF cF, .slice AT nT cT, .slice AS nS cS, .slice AE nE cE, .slice AO nO cO, .slice AD nD cD] 31)).alloc (.cells #[.int .i64 kd, .int .i64 sp, .slice BF mF dF, .slice BT mT dT, .slice BS mS dS, .slice BE mE dE] 33)).alloc (.cells #[.int .i64 0, .int .i64 0, .slice none 0 0, .slice none 0 0, .slice none 0 0, .slice none 0 0, .slice none 0 0, .slice none 0 0] 31)) := ⟨_, Lib.hid rfl⟩
 have hbl : Below w.heap.size w W := by rw [HW.out]; exact (((Below.refl _ w).alloc (Nat.le_refl _) _).alloc (by simp) _).alloc (by simp; omega) _
 have H0 : Hid (W.heap[w.heap.size]? = some (.cells #[.int .i64 num, .int .i64 ph, .slice AF nF cF, .slice AT nT cT, .slice AS nS cS, .slice AE nE cE, .slice AO nO cO, .slice AD nD cD] 31 (0, 0))) := Lib.hid (by rw [HW.out, Below.heap_alloc _ _ _ (by simp; omega), Below.heap_alloc _ _ _ (by simp)]; exact heap_new w _)
 have H1 : Hid (W.heap[w.heap.size + 1]? = some (.cells #[.int .i64 kd, .int .i64 sp, .slice BF mF dF, .slice BT mT dT, .slice BS mS dS, .slice BE mE dE] 33 (0, 0))) := Lib.hid (by
  rw [HW.out, Below.heap_alloc _ _ _ (by simp)]
  have h := heap_new (w.alloc (.cells #[.int .i64 num, .int .i64 ph, .slice AF nF cF, .slice AT nT cT, .slice AS nS cS, .slice AE nE cE, .slice AO nO cO, .slice AD nD cD] 31)) (.cells #[.int .i64 kd, .int .i64 sp, .slice BF mF dF, .slice BT mT dT, .slice BS mS dS, .slice BE mE dE] 33)
  rw [World.size_alloc] at h; exact h)
 have H2 : Hid (W.heap[w.heap.size + 2]? = some (.cells #[.int .i64 0, .int .i64 0, .slice none 0 0, .slice none 0 0, .slice none 0 0, .slice none 0 0, .slice none 0 0, .slice none 0 0] 31 (0, 0))) := Lib.hid (by
  rw [HW.out]
  have h := heap_new ((w.alloc (.cells #[.int .i64 num, .int .i64 ph, .slice AF nF cF, .slice AT nT cT, .slice AS nS cS, .slice AE nE cE, .slice AO nO cO, .slice AD nD cD] 31)).alloc (.cells #[.int .i64 kd, .int .i64 sp, .slice BF mF dF, .slice BT mT dT, .slice BS mS dS, .slice BE mE dE] 33)) (.cells #[.int .i64 0, .int .i64 0, .slice none 0 0, .slice none 0 0, .slice none 0 0, .slice none 0 0, .slice none 0 0, .slice none 0 0] 31)
  rw [World.size_alloc, World.size_alloc] at h; exact h)
 have HBL := Lib.hid hbl
 have hnO := h.so
 have hnD := h.sd
 have HS := Lib.hid (h.below (hbl.mono hB))
 have HR := Lib.hid (hr.below (hbl.mono hB))
 have HBB : Hid (B ≤ W.heap.size) := Lib.hid (Nat.le_trans hB hbl.size)
 have HKD : Hid (r.kind = kd) := Lib.hid hr.kind
 have HSP : Hid (r.step = sp) := Lib.hid hr.step
 have ho100 := h.so
 have hd100 := h.sd
 clear h hr hbl hB
 have HX : Hid (∀ Z, Below W.heap.size W Z → (Z.cell? ⟨w.heap.size, 0, none⟩ = some (.int .i64 num) ∧ Z.cell? ⟨w.heap.size, 1, none⟩ = some (.int .i64 ph) ∧ Z.cell? ⟨w.heap.size, 2, none⟩ = some (.slice AF nF cF) ∧ Z.cell? ⟨w.heap.size, 3, none⟩ = some (.slice AT nT cT) ∧ Z.cell? ⟨w.heap.size, 4, none⟩ = some (.slice AS nS cS) ∧ Z.cell? ⟨w.heap.size, 5, none⟩ = some (.slice AE nE cE) ∧ Z.cell? ⟨w.heap.size, 6, none⟩ = some (.slice AO nO cO) ∧ Z.cell? ⟨w.heap.size, 7, none⟩ = some (.slice AD nD cD)) ∧ (Z.cell? ⟨w.heap.size + 1, 0, none⟩ = some (.int .i64 kd) ∧ Z.cell? ⟨w.heap.size + 1, 1, none⟩ = some (.int .i64 sp) ∧ Z.cell? ⟨w.heap.size + 1, 2, none⟩ = some (.slice BF mF dF) ∧ Z.cell? ⟨w.heap.size + 1, 3, none⟩ = some (.slice BT mT dT) ∧ Z.cell? ⟨w.heap.size + 1, 4, none⟩ = some (.slice BS mS dS) ∧ Z.cell? ⟨w.heap.size + 1, 5, none⟩ = some (.slice BE mE dE))) := Lib.hid (fun Z hZ => ⟨row8 ((hZ.block w.heap.size (heapE_lt H0.out)).trans H0.out), row6 ((hZ.block (w.heap.size + 1) (heapE_lt H1.out)).trans H1.out)⟩)
 have hk8 : kd = 1 ∨ kd = 2 ∨ kd = 3 ∨ kd = 4 ∨ kd = 5 ∨ kd = 6 ∨ kd = 7 ∨ kd = 8 := by omega
 have HNUM : Hid (s.num = num) := Lib.hid HS.out.num
 have HPH : Hid (s.ph = ph) := Lib.hid HS.out.ph
 have HC6 := Lib.hid (fun (Z : World) (hZ : Below W.heap.size W Z) => copies_any (w := Z) (cF := cF) (cT := cT) (cS := cS) (cE := cE) (HS.out.pl.below (hZ.mono HBB.out)) (Nat.le_trans HBB.out hZ.size))
 have HC9 := Lib.hid (fun (Z : World) (hZ : Below W.heap.size W Z) => cloneIR (w := Z) (c := cO) (HS.out.op.below (hZ.mono HBB.out)) (Nat.le_trans HBB.out hZ.size) (by omega))
 have HC12 := Lib.hid (fun (Z : World) (hZ : Below W.heap.size W Z) => cloneIR (w := Z) (c := cD) (HS.out.dn.below (hZ.mono HBB.out)) (Nat.le_trans HBB.out hZ.size) (by omega))
 clear hk
 go_enter Try.func39, Try.ntmps39
 go_upto_region 1 with fail
 change Code.wp _ _ _ _ (((w.alloc (.cells #[.int .i64 num, .int .i64 ph, .slice AF nF cF, .slice AT nT cT, .slice AS nS cS, .slice AE nE cE, .slice AO nO cO, .slice AD nD cD] 31)).alloc (.cells #[.int .i64 kd, .int .i64 sp, .slice BF mF dF, .slice BT mT dT, .slice BS mS dS, .slice BE mE dE] 33)).alloc (.cells #[.int .i64 0, .int .i64 0, .slice none 0 0, .slice none 0 0, .slice none 0 0, .slice none 0 0, .slice none 0 0, .slice none 0 0] 31))
 rw [← HW.out]
 refine wp_region_inv (by kernel_rfl) (I := BhJ W w.heap.size num ph AF AT AS AE AO AD nF nT nS nE nO nD cF cT cS cE cO cD s _ _ _ _ _ _ _ _ _ _ _ _ _ _ _ _ _ _ _ _ _ _ _ _ _ _ _ _ _ _ _ _ _ _ _ _ _ _ _ _ _ _ _ _ _ _ _ _ _ _ _ _ _ _ _ _ _ _ _ _ _ _ _ _ _ _ _ _ _) (.mk false false false false false false false false false false false false false false false false _ _ _ _ _ _ _ _ _ _ _ _ _ _ _ _ ⟨(Below.refl _ W).drew, nofun, nofun, nofun, nofun, nofun, nofun, nofun, nofun, nofun, nofun, nofun, nofun, nofun, nofun, nofun, nofun, nofun, nofun, nofun, nofun, nofun, nofun, nofun⟩) ?step ?fin
 case step =>
  rintro lq a' w' ix0 ⟨b0, b1, b2, b3, b4, b5, b6, b7, b8, b9, b10, b11, b12, b13, b14, b15, v5, v6, v7, v8, v9, v10, v11, v12, v13, v14, v15, v16, v17, v18, v19, _, HT⟩ hi
  obtain ⟨hi_, hib⟩ := ready_lt hi
  have HTH := Lib.hid HT
  match ix0, hi_, hi, hib with
  | 0, _, hi, hib =>
   obtain rfl : b0 = false := by simpa using hib
   clear HT
   refine wpOp_one rfl rfl (fun K hK => ?_)
   go_simp
   exact hK.out _ _ (.mk true b1 b2 b3 b4 b5 b6 b7 b8 b9 b10 b11 b12 b13 b14 b15 _ _ _ _ _ _ _ _ _ _ _ _ _ _ _ _ { HTH.out with h0 := fun _ => rfl })
  | 1, _, hi, hib =>
   obtain rfl : b1 = false := by simpa using hib
   have d0 : b0 = true := ready_dep hi rfl 0 (by kernel_rfl)
   have hd0 := HT.h0 d0
   subst hd0
   have HTb := Lib.hid HT.bel
   obtain ⟨x0, x1, x2, x3, x4, x5, x6, x7⟩ := (HX.out _ HTb.out).1
   clear HT
   refine wpOp_one rfl rfl (fun K hK => ?_)
   go_simp
   exact hK.out _ _ (.mk b0 true b2 b3 b4 b5 b6 b7 b8 b9 b10 b11 b12 b13 b14 b15 _ _ _ _ _ _ _ _ _ _ _ _ _ _ _ _ { HTH.out with h1 := fun _ => rfl })
  | 2, _, hi, hib =>
   obtain rfl : b2 = false := by simpa using hib
   clear HT
   refine wpOp_one rfl rfl (fun K hK => ?_)
   go_simp
   exact hK.out _ _ (.mk b0 b1 true b3 b4 b5 b6 b7 b8 b9 b10 b11 b12 b13 b14 b15 _ _ _ _ _ _ _ _ _ _ _ _ _ _ _ _ { HTH.out with h2 := fun _ => rfl })
  | 3, _, hi, hib =>
   obtain rfl : b3 = false := by simpa using hib
   have d2 : b2 = true := ready_dep hi rfl 2 (by kernel_rfl)
   have hd2 := HT.h2 d2
   subst hd2
   have HTb := Lib.hid HT.bel
   obtain ⟨x0, x1, x2, x3, x4, x5, x6, x7⟩ := (HX.out _ HTb.out).1
   clear HT
   refine wpOp_one rfl rfl (fun K hK => ?_)
   go_simp
   exact hK.out _ _ (.mk b0 b1 b2 true b4 b5 b6 b7 b8 b9 b10 b11 b12 b13 b14 b15 _ _ _ _ _ _ _ _ _ _ _ _ _ _ _ _ { HTH.out with h3 := fun _ => rfl })
  | 4, _, hi, hib =>
   obtain rfl : b4 = false := by simpa using hib
   clear HT
   refine wpOp_one rfl rfl (fun K hK => ?_)
   go_simp
   exact hK.out _ _ (.mk b0 b1 b2 b3 true b5 b6 b7 b8 b9 b10 b11 b12 b13 b14 b15 _ _ _ _ _ _ _ _ _ _ _ _ _ _ _ _ { HTH.out with h4 := fun _ => rfl })
  | 5, _, hi, hib =>
   obtain rfl : b5 = false := by simpa using hib
   have d4 : b4 = true := ready_dep hi rfl 4 (by kernel_rfl)
   have hd4 := HT.h4 d4
   subst hd4
   have HTb := Lib.hid HT.bel
   obtain ⟨x0, x1, x2, x3, x4, x5, x6, x7⟩ := (HX.out _ HTb.out).1
   clear HT
   refine wpOp_one rfl rfl (fun K hK => ?_)
   go_simp
   exact hK.out _ _ (.mk b0 b1 b2 b3 b4 true b6 b7 b8 b9 b10 b11 b12 b13 b14 b15 _ _ _ _ _ _ _ _ _ _ _ _ _ _ _ _ { HTH.out with h5 := fun _ => rfl })
  | 6, _, hi, hib =>
   obtain rfl : b6 = false := by simpa using hib
   have d5 : b5 = true := ready_dep hi rfl 5 (by kernel_rfl)
   have hd5 := HT.h5 d5
   subst hd5
   obtain rfl : b13 = false := by
    cases hbl : b13 with
    | false => rfl
    | true => have h := (HT.o13_6 hbl); cases h
   obtain rfl : b15 = false := by
    cases hbl : b15 with
    | false => rfl
    | true => have h := (HT.o15_13 hbl); cases h
   obtain rfl : b9 = false := by
    cases hbl : b9 with
    | false => rfl
    | true => have h := (HT.o9_6 hbl); cases h
   obtain rfl : b12 = false := by
    cases hbl : b12 with
    | false => rfl
    | true => have h := (HT.o12_6 hbl); cases h
   have HTb := Lib.hid HT.bel
   have HC := Lib.hid (HC6.out w' HTb.out)
   clear HT
   refine wpOp_one rfl rfl (fun K hK => ?_)
   go_simp
   refine HC.out.mono ?_
   rintro e w2 ⟨A1, c1, A2, c2, A3, c3, A4, c4, rfl, ho, hb⟩
   exact hK.out _ _ (.mk b0 b1 b2 b3 b4 b5 true b7 b8 false b10 b11 false false b14 false _ _ _ _ _ _ _ _ _ _ _ _ _ _ _ _ { HTH.out with bel := HTb.out.trans (hb.mono HTb.out.size), h6 := fun _ => ⟨A1, c1, A2, c2, A3, c3, A4, c4, rfl, ho.less HTb.out.size⟩, h13 := nofun, h9 := nofun, h12 := nofun, z14 := fun h => (by obtain ⟨g, e, hg, hh⟩ := HTH.out.z14 h; exact ⟨g, e, hg, (hb.block g (heapE_lt hh)).trans hh⟩), o13_6 := fun _ => rfl, o9_6 := fun _ => rfl, o12_6 := fun _ => rfl })
  | 7, _, hi, hib =>
   obtain rfl : b7 = false := by simpa using hib
   clear HT
   refine wpOp_one rfl rfl (fun K hK => ?_)
   go_simp
   exact hK.out _ _ (.mk b0 b1 b2 b3 b4 b5 b6 true b8 b9 b10 b11 b12 b13 b14 b15 _ _ _ _ _ _ _ _ _ _ _ _ _ _ _ _ { HTH.out with h7 := fun _ => rfl })
  | 8, _, hi, hib =>
   obtain rfl : b8 = false := by simpa using hib
   have d7 : b7 = true := ready_dep hi rfl 7 (by kernel_rfl)
   have hd7 := HT.h7 d7
   subst hd7
   have HTb := Lib.hid HT.bel
   obtain ⟨x0, x1, x2, x3, x4, x5, x6, x7⟩ := (HX.out _ HTb.out).1
   clear HT
   refine wpOp_one rfl rfl (fun K hK => ?_)
   go_simp
   exact hK.out _ _ (.mk b0 b1 b2 b3 b4 b5 b6 b7 true b9 b10 b11 b12 b13 b14 b15 _ _ _ _ _ _ _ _ _ _ _ _ _ _ _ _ { HTH.out with h8 := fun _ => rfl })
  | 9, _, hi, hib =>
   obtain rfl : b9 = false := by simpa using hib
   have d8 : b8 = true := ready_dep hi rfl 8 (by kernel_rfl)
   have d6 : b6 = true := ready_dep hi rfl 6 (by kernel_rfl)
   have hd8 := HT.h8 d8
   subst hd8
   obtain rfl : b13 = false := by
    cases hbl : b13 with
    | false => rfl
    | true => have h := (HT.o13_9 hbl); cases h
   obtain rfl : b15 = false := by
    cases hbl : b15 with
    | false => rfl
    | true => have h := (HT.o15_13 hbl); cases h
   obtain rfl : b12 = false := by
    cases hbl : b12 with
    | false => rfl
    | true => have h := (HT.o12_9 hbl); cases h
   obtain ⟨A1, c1, A2, c2, A3, c3, A4, c4, e12, ho6⟩ := HT.h6 d6
   have HLP := Lib.hid ho6.ltP
   rw [← e12] at HLP
   clear e12 ho6
   have HTb := Lib.hid HT.bel
   have HC := Lib.hid (HC9.out w' HTb.out)
   clear HT
   refine wpOp_one rfl rfl (fun K hK => ?_)
   go_simp
   refine HC.out.mono ?_
   rintro e w2 ⟨Aq, cq, rfl, ho, hb⟩
   exact hK.out _ _ (.mk b0 b1 b2 b3 b4 b5 b6 b7 b8 true b10 b11 false false b14 false _ _ _ _ _ _ _ _ _ _ _ _ _ _ _ _ { HTH.out with bel := HTb.out.trans (hb.mono HTb.out.size), h9 := fun _ => ⟨Aq, cq, _, rfl, ho.less HTb.out.size, ho.ge, HLP.out⟩, h13 := nofun, h6 := fun h => (by obtain ⟨A1, c1, A2, c2, A3, c3, A4, c4, e, ho⟩ := HTH.out.h6 h; exact ⟨A1, c1, A2, c2, A3, c3, A4, c4, e, ho.kept hb⟩), h12 := nofun, z14 := fun h => (by obtain ⟨g, e, hg, hh⟩ := HTH.out.z14 h; exact ⟨g, e, hg, (hb.block g (heapE_lt hh)).trans hh⟩), o13_9 := fun _ => rfl, o9_6 := fun _ => d6, o12_9 := fun _ => rfl })
  | 10, _, hi, hib =>
   obtain rfl : b10 = false := by simpa using hib
   clear HT
   refine wpOp_one rfl rfl (fun K hK => ?_)
   go_simp
   exact hK.out _ _ (.mk b0 b1 b2 b3 b4 b5 b6 b7 b8 b9 true b11 b12 b13 b14 b15 _ _ _ _ _ _ _ _ _ _ _ _ _ _ _ _ { HTH.out with h10 := fun _ => rfl })
  | 11, _, hi, hib =>
   obtain rfl : b11 = false := by simpa using hib
   have d10 : b10 = true := ready_dep hi rfl 10 (by kernel_rfl)
   have hd10 := HT.h10 d10
   subst hd10
   have HTb := Lib.hid HT.bel
   obtain ⟨x0, x1, x2, x3, x4, x5, x6, x7⟩ := (HX.out _ HTb.out).1
   clear HT
   refine wpOp_one rfl rfl (fun K hK => ?_)
   go_simp
   exact hK.out _ _ (.mk b0 b1 b2 b3 b4 b5 b6 b7 b8 b9 b10 true b12 b13 b14 b15 _ _ _ _ _ _ _ _ _ _ _ _ _ _ _ _ { HTH.out with h11 := fun _ => rfl })
  | 12, _, hi, hib =>
   obtain rfl : b12 = false := by simpa using hib
   have d11 : b11 = true := ready_dep hi rfl 11 (by kernel_rfl)
   have d9 : b9 = true := ready_dep hi rfl 9 (by kernel_rfl)
   have hd11 := HT.h11 d11
   subst hd11
   obtain rfl : b13 = false := by
    cases hbl : b13 with
    | false => rfl
    | true => have h := (HT.o13_12 hbl); cases h
   obtain rfl : b15 = false := by
    cases hbl : b15 with
    | false => rfl
    | true => have h := (HT.o15_13 hbl); cases h
   have d6 := HT.o9_6 d9
   obtain ⟨A1, c1, A2, c2, A3, c3, A4, c4, e12, ho6⟩ := HT.h6 d6
   have HLP := Lib.hid ho6.ltP
   rw [← e12] at HLP
   obtain ⟨A5, c5, K5, e15, ho9, _⟩ := HT.h9 d9
   have HLV := Lib.hid ho9.lt
   rw [← e15] at HLV
   clear e15 ho9
   clear e12 ho6
   have HTb := Lib.hid HT.bel
   have HC := Lib.hid (HC12.out w' HTb.out)
   clear HT
   refine wpOp_one rfl rfl (fun K hK => ?_)
   go_simp
   refine HC.out.mono ?_
   rintro e w2 ⟨Aq, cq, rfl, ho, hb⟩
   exact hK.out _ _ (.mk b0 b1 b2 b3 b4 b5 b6 b7 b8 b9 b10 b11 true false b14 false _ _ _ _ _ _ _ _ _ _ _ _ _ _ _ _ { HTH.out with bel := HTb.out.trans (hb.mono HTb.out.size), h12 := fun _ => ⟨Aq, cq, _, rfl, ho.less HTb.out.size, ho.ge, HLP.out, HLV.out⟩, h13 := nofun, h6 := fun h => (by obtain ⟨A1, c1, A2, c2, A3, c3, A4, c4, e, ho⟩ := HTH.out.h6 h; exact ⟨A1, c1, A2, c2, A3, c3, A4, c4, e, ho.kept hb⟩), h9 := fun h => (by obtain ⟨A5, c5, K, e, ho, k⟩ := HTH.out.h9 h; exact ⟨A5, c5, K, e, ho.kept hb, k⟩), z14 := fun h => (by obtain ⟨g, e, hg, hh⟩ := HTH.out.z14 h; exact ⟨g, e, hg, (hb.block g (heapE_lt hh)).trans hh⟩), o13_12 := fun _ => rfl, o12_9 := fun _ => d9, o12_6 := fun _ => d6 })
  | 13, _, hi, hib =>
   obtain rfl : b13 = false := by simpa using hib
   have d1 : b1 = true := ready_dep hi rfl 1 (by kernel_rfl)
   have d3 : b3 = true := ready_dep hi rfl 3 (by kernel_rfl)
   have d6 : b6 = true := ready_dep hi rfl 6 (by kernel_rfl)
   have d9 : b9 = true := ready_dep hi rfl 9 (by kernel_rfl)
   have d12 : b12 = true := ready_dep hi rfl 12 (by kernel_rfl)
   have hd1 := HT.h1 d1
   subst hd1
   have hd3 := HT.h3 d3
   subst hd3
   obtain rfl : b15 = false := by
    cases hbl : b15 with
    | false => rfl
    | true => have h := (HT.o15_13 hbl); cases h
   obtain ⟨A1, c1, A2, c2, A3, c3, A4, c4, e12, _⟩ := HT.h6 d6
   obtain ⟨A5, c5, _, e15, _, _⟩ := HT.h9 d9
   obtain ⟨A6, c6, _, e18, _, _⟩ := HT.h12 d12
   subst e12 e15 e18
   clear HT
   refine wpOp_one rfl rfl (fun K hK => ?_)
   go_simp
   exact hK.out _ _ (.mk b0 b1 b2 b3 b4 b5 b6 b7 b8 b9 b10 b11 b12 true b14 false _ _ _ _ _ _ _ _ _ _ _ _ _ _ _ _ { HTH.out with h13 := fun _ => ⟨A1, c1, A2, c2, A3, c3, A4, c4, A5, c5, A6, c6, rfl, rfl, rfl, rfl⟩, o15_13 := fun _ => rfl, o13_6 := fun _ => d6, o13_9 := fun _ => d9, o13_12 := fun _ => d12 })
  | 14, _, hi, hib =>
   obtain rfl : b14 = false := by simpa using hib
   obtain rfl : b15 = false := by
    cases hbl : b15 with
    | false => rfl
    | true => have h := (HT.o15_14 hbl); cases h
   have HTb := Lib.hid HT.bel
   clear HT
   refine wpOp_one rfl rfl (fun K hK => ?_)
   go_simp
   have hb : Below w'.heap.size w' (w'.alloc (.cells #[.int .i64 0, .int .i64 0, .slice none 0 0, .slice none 0 0, .slice none 0 0, .slice none 0 0, .slice none 0 0, .slice none 0 0] 31)) := (Below.refl _ w').alloc (Nat.le_refl _) _
   exact hK.out _ _ (.mk b0 b1 b2 b3 b4 b5 b6 b7 b8 b9 b10 b11 b12 b13 true false _ _ _ _ _ _ _ _ _ _ _ _ _ _ _ _ { HTH.out with bel := HTb.out.trans (hb.mono HTb.out.size), z14 := fun _ => ⟨w'.heap.size, rfl, HTb.out.size, heap_new w' _⟩, h6 := fun h => (by obtain ⟨A1, c1, A2, c2, A3, c3, A4, c4, e, ho⟩ := HTH.out.h6 h; exact ⟨A1, c1, A2, c2, A3, c3, A4, c4, e, ho.kept hb⟩), h9 := fun h => (by obtain ⟨A5, c5, K, e, ho, k⟩ := HTH.out.h9 h; exact ⟨A5, c5, K, e, ho.kept hb, k⟩), h12 := fun h => (by obtain ⟨A6, c6, K, e, ho, k⟩ := HTH.out.h12 h; exact ⟨A6, c6, K, e, ho.kept hb, k⟩), o15_14 := fun _ => rfl })
  | 15, _, hi, hib =>
   obtain rfl : b15 = false := by simpa using hib
   have d14 : b14 = true := ready_dep hi rfl 14 (by kernel_rfl)
   have d13 : b13 = true := ready_dep hi rfl 13 (by kernel_rfl)
   have d12 : b12 = true := ready_dep hi rfl 12 (by kernel_rfl)
   obtain ⟨g, e5, hg, hh⟩ := HT.z14 d14
   subst e5
   obtain ⟨A1, c1, A2, c2, A3, c3, A4, c4, A5, c5, A6, c6, e12, e15, e18, e19⟩ := HT.h13 d13
   subst e12 e15 e18 e19
   have HTb := Lib.hid HT.bel
   have hh' : w'.heap[g]? = some (.cells #[.int .i64 0, .int .i64 0, .slice none 0 0, .slice none 0 0, .slice none 0 0, .slice none 0 0, .slice none 0 0, .slice none 0 0] 31 (0, 0)) := hh
   obtain ⟨q0, q1, q2, q3, q4, q5, q6, q7⟩ := row8 hh'
   have hfr := free_row hh'
   have HH := Lib.hid hh'
   have HG := Lib.hid hg
   clear HT hh hh' hg
   refine wpOp_one rfl rfl (fun K hK => ?_)
   go_simp
   have hot : ∀ k, k < w'.heap.size → k ≠ g → (set8 w' g (.int .i64 num) (.int .i64 ph) (.slice A1 nF c1) (.slice A2 nT c2) (.slice A3 nS c3) (.slice A4 nE c4) (.slice A5 nO c5) (.slice A6 nD c6)).heap[k]? = w'.heap[k]? := fun k _ hne => set8_other hne
   exact hK.out _ _ (.mk b0 b1 b2 b3 b4 b5 b6 b7 b8 b9 b10 b11 b12 b13 b14 true _ _ _ _ _ _ _ _ _ _ _ _ _ _ _ _ { HTH.out with bel := set8_below HTb.out HG.out, h6 := fun h => (by obtain ⟨B1, d1, B2, d2, B3, d3, B4, d4, e, ho⟩ := HTH.out.h6 h; exact ⟨B1, d1, B2, d2, B3, d3, B4, d4, e, ho.apart HH.out (by decide) (by decide) (by decide) hot⟩), h9 := fun h => (by obtain ⟨B5, d5, K, e, ho, k⟩ := HTH.out.h9 h; exact ⟨B5, d5, K, e, ho.apart HH.out (by decide) hot, k⟩), h12 := fun h => (by obtain ⟨B6, d6, K, e, ho, k⟩ := HTH.out.h12 h; exact ⟨B6, d6, K, e, ho.apart HH.out (by decide) hot, k⟩), z14 := fun _ => ⟨g, rfl, HG.out, set8_same HH.out⟩, o15_13 := fun _ => d13, o15_14 := fun _ => d14 })
 case fin =>
  rintro lq a' w' ⟨b0, b1, b2, b3, b4, b5, b6, b7, b8, b9, b10, b11, b12, b13, b14, b15, v5, v6, v7, v8, v9, v10, v11, v12, v13, v14, v15, v16, v17, v18, v19, _, HT⟩ hr
  obtain rfl : b0 = true := by
   cases b0 with
   | true => rfl
   | false => exact (ready_in 0 rfl rfl (by simp [Region.binds]) hr).elim
  obtain rfl : b1 = true := by
   cases b1 with
   | true => rfl
   | false => exact (ready_in 1 rfl rfl (by simp [Region.binds]) hr).elim
  obtain rfl : b2 = true := by
   cases b2 with
   | true => rfl
   | false => exact (ready_in 2 rfl rfl (by simp [Region.binds]) hr).elim
  obtain rfl : b3 = true := by
   cases b3 with
   | true => rfl
   | false => exact (ready_in 3 rfl rfl (by simp [Region.binds]) hr).elim
  obtain rfl : b4 = true := by
   cases b4 with
   | true => rfl
   | false => exact (ready_in 4 rfl rfl (by simp [Region.binds]) hr).elim
  obtain rfl : b5 = true := by
   cases b5 with
   | true => rfl
   | false => exact (ready_in 5 rfl rfl (by simp [Region.binds]) hr).elim
  obtain rfl : b6 = true := by
   cases b6 with
   | true => rfl
   | false => exact (ready_in 6 rfl rfl (by simp [Region.binds]) hr).elim
  obtain rfl : b7 = true := by
   cases b7 with
   | true => rfl
   | false => exact (ready_in 7 rfl rfl (by simp [Region.binds]) hr).elim
  obtain rfl : b8 = true := by
   cases b8 with
   | true => rfl
   | false => exact (ready_in 8 rfl rfl (by simp [Region.binds]) hr).elim
  obtain rfl : b9 = true := by
   cases b9 with
   | true => rfl
   | false => exact (ready_in 9 rfl rfl (by simp [Region.binds]) hr).elim
  obtain rfl : b10 = true := by
   cases b10 with
   | true => rfl
   | false => exact (ready_in 10 rfl rfl (by simp [Region.binds]) hr).elim
  obtain rfl : b11 = true := by
   cases b11 with
   | true => rfl
   | false => exact (ready_in 11 rfl rfl (by simp [Region.binds]) hr).elim
  obtain rfl : b12 = true := by
   cases b12 with
   | true => rfl
   | false => exact (ready_in 12 rfl rfl (by simp [Region.binds]) hr).elim
  obtain rfl : b13 = true := by
   cases b13 with
   | true => rfl
   | false => exact (ready_in 13 rfl rfl (by simp [Region.binds]) hr).elim
  obtain rfl : b14 = true := by
   cases b14 with
   | true => rfl
   | false => exact (ready_in 14 rfl rfl (by simp [Region.binds]) hr).elim
  obtain rfl : b15 = true := by
   cases b15 with
   | true => rfl
   | false => exact (ready_in 15 rfl rfl (by simp [Region.binds]) hr).elim
  obtain ⟨A1, c1, A2, c2, A3, c3, A4, c4, A5, c5, A6, c6, e12, e15, e18, e19⟩ := HT.h13 rfl
  subst e12 e15 e18 e19
  obtain ⟨B1, d1, B2, d2, B3, d3, B4, d4, e12, ho1⟩ := HT.h6 rfl
  obtain ⟨B5, d5, K5, e15, ho2, hge5, hlt5⟩ := HT.h9 rfl
  obtain ⟨B6, d6, K6, e18, ho3, hge6, hlt6, hlo6⟩ := HT.h12 rfl
  injection e12 with e12
  injection e12 with e12
  simp only [List.cons.injEq, Value.slice.injEq, true_and, and_true] at e12 e15 e18
  obtain ⟨⟨rfl, rfl⟩, ⟨rfl, rfl⟩, ⟨rfl, rfl⟩, rfl, rfl⟩ := e12
  obtain ⟨rfl, rfl⟩ := e15
  obtain ⟨rfl, rfl⟩ := e18
  obtain ⟨g, e5, hg, hh⟩ := HT.z14 rfl
  subst e5
  have k0 := HT.h0 rfl
  subst k0
  have k1 := HT.h1 rfl
  subst k1
  have k2 := HT.h2 rfl
  subst k2
  have k3 := HT.h3 rfl
  subst k3
  have k4 := HT.h4 rfl
  subst k4
  have k5 := HT.h5 rfl
  subst k5
  have k7 := HT.h7 rfl
  subst k7
  have k8 := HT.h8 rfl
  subst k8
  have k10 := HT.h10 rfl
  subst k10
  have k11 := HT.h11 rfl
  subst k11
  have HBX := Lib.hid HT.bel
  have HGX : Hid (w'.heap[g]? = some (.cells #[.int .i64 num, .int .i64 ph, .slice A1 nF c1, .slice A2 nT c2, .slice A3 nS c3, .slice A4 nE c4, .slice A5 nO c5, .slice A6 nD c6] 31 (0, 0))) := Lib.hid hh
  have HGE := Lib.hid hg
  have HPO := Lib.hid ho1
  have HOO := Lib.hid ho2
  have HDO := Lib.hid ho3
  have HDJ := Lib.hid (djs hge5 hlt5 hge6 hlt6 hlo6)
  clear HT hr hg hh ho1 ho2 ho3 hge5 hlt5 hge6 hlt6 hlo6
  obtain ⟨n0, n1, n2, n3, n4, n5, n6, n7⟩ := row8 HGX.out
  have nf := free_row HGX.out
  obtain ⟨⟨x0, x1, x2, x3, x4, x5, x6, x7⟩, y0, y1, y2, y3, y4, y5⟩ := HX.out _ HBX.out
  have HLEN : Hid (s.op.length ≤ 100 ∧ s.dn.length ≤ 100) := Lib.hid (by rw [HOO.out.rdI.len, HDO.out.rdI.len]; exact ⟨hnO, hnD⟩)
  rcases hk8 with rfl | rfl | rfl | rfl | rfl | rfl | rfl | rfl
  ·have HV : Hid (behindS s r = ⟨IntKind.i64.wrap (s.num + 1), 1, r.pl, [], []⟩) := Lib.hid (by unfold behindS; rw [HKD.out, if_pos rfl])
   have HCR := Lib.hid (fun (Z : World) (hZ : Below w'.heap.size w' Z) => copies_any (w := Z) (cF := dF) (cT := dT) (cS := dS) (cE := dE) (HR.out.pl.below ((HBX.out.trans (hZ.mono HBX.out.size)).mono HBB.out)) (Nat.le_trans HBB.out (HBX.out.trans (hZ.mono HBX.out.size)).size))
   have HNG0 : Hid (w.heap.size ≠ g) := Lib.hid (by have := heapE_lt H0.out; have := HGE.out; omega)
   have HNG1 : Hid (w.heap.size + 1 ≠ g) := Lib.hid (by have := heapE_lt H1.out; have := HGE.out; omega)
   go_upto_region 4 with fail
   clear n0 n1 n2 n3 n4 n5 n6 n7 nf y0 y1 y2 y3 y4 y5 x0 x1 x2 x3 x4 x5 x6 x7
   refine wp_region_inv (by kernel_rfl) (I := BkJ w' w.heap.size g num BF BT BS BE mF mT mS mE dF dT dS dE #[.int .i64 num, .int .i64 ph, .slice A1 nF c1, .slice A2 nT c2, .slice A3 nS c3, .slice A4 nE c4, .slice A5 nO c5, .slice A6 nD c6] r.pl _ _ _ _ _ _ _ _ _ _ _ _ _ _ _ _ _ _ _ _ _ _ _ _ _ _ _ _ _ _ _ _ _ _ _ _ _ _ _ _ _ _ _ _ _ _ _ _ _ _ _ _ _ _ _ _ _ _ _ _ _ _ _ _ _ _ _ _ _ _ _ _ _ _ _ _ _) (.mk false false false false false false false false _ _ _ _ _ _ _ _ ⟨fun _ => (Below.refl _ w').drew, fun _ _ _ => rfl, Nat.le_refl _, ⟨rfl, rfl, rfl⟩, nofun, nofun, nofun, nofun, nofun, nofun, nofun, HGX.out, nofun, nofun, nofun⟩) ?step ?fin
   case step =>
    rintro lq a' u' ix0 ⟨b0, b1, b2, b3, b4, b5, b6, b7, v24, v25, v26, v27, v28, v29, v30, _, HT⟩ hi
    obtain ⟨hi_, hib⟩ := ready_lt hi
    have HTH := Lib.hid HT
    match ix0, hi_, hi, hib with
    | 0, _, hi, hib =>
     obtain rfl : b0 = false := by simpa using hib
     clear HT
     refine wpOp_one rfl rfl (fun K hK => ?_)
     go_simp
     exact hK.out _ _ (.mk true b1 b2 b3 b4 b5 b6 b7 _ _ _ _ _ _ _ _ { HTH.out with h0 := fun _ => rfl })
    | 1, _, hi, hib =>
     obtain rfl : b1 = false := by simpa using hib
     have d0 : b0 = true := ready_dep hi rfl 0 (by kernel_rfl)
     have hd0 := HT.h0 d0
     subst hd0
     have HFr := Lib.hid HT.frm
     obtain ⟨x0, _, _, _, _, _, _, _⟩ := row8 ((HFr.out w.heap.size (Nat.lt_of_lt_of_le (heapE_lt H0.out) HBX.out.size) HNG0.out).trans ((HBX.out.block _ (heapE_lt H0.out)).trans H0.out))
     obtain ⟨_, _, y2, y3, y4, y5⟩ := row6 ((HFr.out (w.heap.size + 1) (Nat.lt_of_lt_of_le (heapE_lt H1.out) HBX.out.size) HNG1.out).trans ((HBX.out.block _ (heapE_lt H1.out)).trans H1.out))
     clear HT
     refine wpOp_one rfl rfl (fun K hK => ?_)
     go_simp
     exact hK.out _ _ (.mk b0 true b2 b3 b4 b5 b6 b7 _ _ _ _ _ _ _ _ { HTH.out with h1 := fun _ => rfl })
    | 2, _, hi, hib =>
     obtain rfl : b2 = false := by simpa using hib
     have d1 : b1 = true := ready_dep hi rfl 1 (by kernel_rfl)
     have hd1 := HT.h1 d1
     subst hd1
     clear HT
     refine wpOp_one rfl rfl (fun K hK => ?_)
     go_simp
     exact hK.out _ _ (.mk b0 b1 true b3 b4 b5 b6 b7 _ _ _ _ _ _ _ _ { HTH.out with h2 := fun _ => rfl })
    | 3, _, hi, hib =>
     obtain rfl : b3 = false := by simpa using hib
     clear HT
     refine wpOp_one rfl rfl (fun K hK => ?_)
     go_simp
     exact hK.out _ _ (.mk b0 b1 b2 true b4 b5 b6 b7 _ _ _ _ _ _ _ _ { HTH.out with h3 := fun _ => rfl })
    | 4, _, hi, hib =>
     obtain rfl : b4 = false := by simpa using hib
     have d3 : b3 = true := ready_dep hi rfl 3 (by kernel_rfl)
     have hd3 := HT.h3 d3
     subst hd3
     have HFr := Lib.hid HT.frm
     obtain ⟨x0, _, _, _, _, _, _, _⟩ := row8 ((HFr.out w.heap.size (Nat.lt_of_lt_of_le (heapE_lt H0.out) HBX.out.size) HNG0.out).trans ((HBX.out.block _ (heapE_lt H0.out)).trans H0.out))
     obtain ⟨_, _, y2, y3, y4, y5⟩ := row6 ((HFr.out (w.heap.size + 1) (Nat.lt_of_lt_of_le (heapE_lt H1.out) HBX.out.size) HNG1.out).trans ((HBX.out.block _ (heapE_lt H1.out)).trans H1.out))
     clear HT
     refine wpOp_one rfl rfl (fun K hK => ?_)
     go_simp
     exact hK.out _ _ (.mk b0 b1 b2 b3 true b5 b6 b7 _ _ _ _ _ _ _ _ { HTH.out with h4 := fun _ => rfl })
    | 5, _, hi, hib =>
     obtain rfl : b5 = false := by simpa using hib
     have d4 : b4 = true := ready_dep hi rfl 4 (by kernel_rfl)
     have hd4 := HT.h4 d4
     subst hd4
     obtain rfl : b6 = false := by
      cases hbl : b6 with
      | false => rfl
      | true => have h := HT.o6_5 hbl; cases h
     obtain rfl : b7 = false := by
      cases hbl : b7 with
      | false => rfl
      | true => have h := HT.o7_5 hbl; cases h
     have HTb := Lib.hid (HT.bel rfl)
     have HC := Lib.hid (HCR.out u' HTb.out)
     clear HT
     refine wpOp_one rfl rfl (fun K hK => ?_)
     go_simp
     refine HC.out.mono ?_
     rintro e w2 ⟨B1, e1, B2, e2, B3, e3, B4, e4, rfl, ho, hb⟩
     exact hK.out _ _ (.mk b0 b1 b2 b3 b4 true false false _ _ _ _ _ _ _ _ { HTH.out with bel := fun _ => HTb.out.trans (hb.mono HTb.out.size), frm := fun k hk hg => (hb.block k (Nat.lt_of_lt_of_le hk HTb.out.size)).trans (HTH.out.frm k hk hg), sz := Nat.le_trans HTb.out.size hb.size, env := ⟨hb.os.trans HTH.out.env.1, hb.tape.trans HTH.out.env.2.1, hb.output.trans HTH.out.env.2.2⟩, h5 := fun _ => ⟨B1, e1, B2, e2, B3, e3, B4, e4, rfl, ho.less HTb.out.size⟩, h6 := nofun, z := (hb.block g (heapE_lt HTH.out.z)).trans HTH.out.z, o7_6 := nofun, o6_5 := fun _ => rfl, o7_5 := fun _ => rfl })
    | 6, _, hi, hib =>
     obtain rfl : b6 = false := by simpa using hib
     have d2 : b2 = true := ready_dep hi rfl 2 (by kernel_rfl)
     have d5 : b5 = true := ready_dep hi rfl 5 (by kernel_rfl)
     have hd2 := HT.h2 d2
     subst hd2
     obtain rfl : b7 = false := by
      cases hbl : b7 with
      | false => rfl
      | true => have h := HT.o7_6 hbl; cases h
     obtain ⟨B1, e1, B2, e2, B3, e3, B4, e4, e29, _⟩ := HT.h5 d5
     subst e29
     clear HT
     refine wpOp_one rfl rfl (fun K hK => ?_)
     go_simp
     exact hK.out _ _ (.mk b0 b1 b2 b3 b4 b5 true false _ _ _ _ _ _ _ _ { HTH.out with h6 := fun _ => ⟨B1, e1, B2, e2, B3, e3, B4, e4, rfl, rfl⟩, o7_5 := nofun, z := HTH.out.z, o7_6 := fun _ => rfl, o6_5 := fun _ => d5 })
    | 7, _, hi, hib =>
     obtain rfl : b7 = false := by simpa using hib
     have d6 : b6 = true := ready_dep hi rfl 6 (by kernel_rfl)
     have d5 : b5 = true := ready_dep hi rfl 5 (by kernel_rfl)
     obtain ⟨B1, e1, B2, e2, B3, e3, B4, e4, e29, e30⟩ := HT.h6 d6
     subst e29 e30
     have hh' := HT.z
     have HH : Hid (u'.heap[g]? = some (.cells #[.int .i64 num, .int .i64 ph, .slice A1 nF c1, .slice A2 nT c2, .slice A3 nS c3, .slice A4 nE c4, .slice A5 nO c5, .slice A6 nD c6] 31 (0, 0))) := Lib.hid HT.z
     obtain ⟨q0, q1, q2, q3, q4, q5, q6, q7⟩ := row8 HH.out
     have hfr := free_row HH.out
     clear HT hh'
     refine wpOp_one rfl rfl (fun K hK => ?_)
     go_simp
     have hot : ∀ k, k < u'.heap.size → k ≠ g → (set8 u' g (.int .i64 (IntKind.i64.wrap (num + 1))) (.int .i64 1) (.slice B1 mF e1) (.slice B2 mT e2) (.slice B3 mS e3) (.slice B4 mE e4) (.slice none 0 0) (.slice none 0 0)).heap[k]? = u'.heap[k]? := fun k _ hne => set8_other hne
     have hs8 : Below 0 u' (set8 u' g (.int .i64 (IntKind.i64.wrap (num + 1))) (.int .i64 1) (.slice B1 mF e1) (.slice B2 mT e2) (.slice B3 mS e3) (.slice B4 mE e4) (.slice none 0 0) (.slice none 0 0)) := set8_below (Below.refl 0 u') (Nat.zero_le g)
     have hset : (set8 u' g (.int .i64 (IntKind.i64.wrap (num + 1))) (.int .i64 1) (.slice B1 mF e1) (.slice B2 mT e2) (.slice B3 mS e3) (.slice B4 mE e4) (.slice none 0 0) (.slice none 0 0)).heap[g]? = _ := set8_same HH.out
     exact hK.out _ _ (.mk b0 b1 b2 b3 b4 b5 b6 true v24 v25 v26 v27 v28 (.agg #[.slice B1 mF e1, .slice B2 mT e2, .slice B3 mS e3, .slice B4 mE e4]) (.agg #[.int .i64 (IntKind.i64.wrap (num + 1)), .int .i64 1, .slice B1 mF e1, .slice B2 mT e2, .slice B3 mS e3, .slice B4 mE e4, .slice none 0 0, .slice none 0 0]) (set8 u' g (.int .i64 (IntKind.i64.wrap (num + 1))) (.int .i64 1) (.slice B1 mF e1) (.slice B2 mT e2) (.slice B3 mS e3) (.slice B4 mE e4) (.slice none 0 0) (.slice none 0 0)) { HTH.out with bel := nofun, frm := fun k hk hg => (hot k (Nat.lt_of_lt_of_le hk HTH.out.sz) hg).trans (HTH.out.frm k hk hg), sz := Nat.le_trans HTH.out.sz (Nat.le_of_eq (set8_size _ _ _ _ _ _ _ _ _ _).symm), env := ⟨hs8.os.trans HTH.out.env.1, hs8.tape.trans HTH.out.env.2.1, hs8.output.trans HTH.out.env.2.2⟩, h5 := fun h => (by obtain ⟨C1, f1, C2, f2, C3, f3, C4, f4, e, ho⟩ := HTH.out.h5 h; exact ⟨C1, f1, C2, f2, C3, f3, C4, f4, e, ho.apart HH.out (by decide) (by decide) (by decide) hot⟩), z := hset, o7_6 := fun _ => d6, o7_5 := fun _ => d5 })
   case fin =>
    rintro lq a' yc ⟨b0, b1, b2, b3, b4, b5, b6, b7, v24, v25, v26, v27, v28, v29, v30, _, HT⟩ hr
    obtain rfl : b0 = true := by
     cases b0 with
     | true => rfl
     | false => exact (ready_in 0 rfl rfl (by simp [Region.binds]) hr).elim
    obtain rfl : b1 = true := by
     cases b1 with
     | true => rfl
     | false => exact (ready_in 1 rfl rfl (by simp [Region.binds]) hr).elim
    obtain rfl : b2 = true := by
     cases b2 with
     | true => rfl
     | false => exact (ready_in 2 rfl rfl (by simp [Region.binds]) hr).elim
    obtain rfl : b3 = true := by
     cases b3 with
     | true => rfl
     | false => exact (ready_in 3 rfl rfl (by simp [Region.binds]) hr).elim
    obtain rfl : b4 = true := by
     cases b4 with
     | true => rfl
     | false => exact (ready_in 4 rfl rfl (by simp [Region.binds]) hr).elim
    obtain rfl : b5 = true := by
     cases b5 with
     | true => rfl
     | false => exact (ready_in 5 rfl rfl (by simp [Region.binds]) hr).elim
    obtain rfl : b6 = true := by
     cases b6 with
     | true => rfl
     | false => exact (ready_in 6 rfl rfl (by simp [Region.binds]) hr).elim
    obtain rfl : b7 = true := by
     cases b7 with
     | true => rfl
     | false => exact (ready_in 7 rfl rfl (by simp [Region.binds]) hr).elim
    obtain ⟨B1, e1, B2, e2, B3, e3, B4, e4, e29, e30⟩ := HT.h6 rfl
    subst e29 e30
    obtain ⟨C1, f1, C2, f2, C3, f3, C4, f4, e29, ho1⟩ := HT.h5 rfl
    injection e29 with e29
    injection e29 with e29
    simp only [List.cons.injEq, Value.slice.injEq, true_and, and_true] at e29
    obtain ⟨⟨rfl, rfl⟩, ⟨rfl, rfl⟩, ⟨rfl, rfl⟩, rfl, rfl⟩ := e29
    have k0 := HT.h0 rfl
    subst k0
    have k1 := HT.h1 rfl
    subst k1
    have k2 := HT.h2 rfl
    subst k2
    have k3 := HT.h3 rfl
    subst k3
    have k4 := HT.h4 rfl
    subst k4
    have HG2 : Hid (yc.heap[g]? = some (.cells #[.int .i64 (IntKind.i64.wrap (num + 1)), .int .i64 1, .slice B1 mF e1, .slice B2 mT e2, .slice B3 mS e3, .slice B4 mE e4, .slice none 0 0, .slice none 0 0] 31 (0, 0))) := Lib.hid HT.z
    have HOC2 := Lib.hid (ho1.less HBX.out.size)
    have HB2 : Hid (Below W.heap.size W yc) := Lib.hid ⟨HT.env.1.trans HBX.out.os, HT.env.2.1.trans HBX.out.tape, HT.env.2.2.trans HBX.out.output, Nat.le_trans HBX.out.size HT.sz, fun k hk => (HT.frm k (Nat.lt_of_lt_of_le hk HBX.out.size) (fun e => by have := HGE.out; omega)).trans (HBX.out.block k hk)⟩
    clear HT hr ho1
    obtain ⟨nn, HNN⟩ : ∃ q, Hid (IntKind.i64.wrap (num + 1) = q) := ⟨_, Lib.hid rfl⟩
    rw [HNN.out] at HG2
    go_upto_region 22 with fail
    have HRB : Hid (yc.heap[w.heap.size + 2]? = some (.cells #[.int .i64 0, .int .i64 0, .slice none 0 0, .slice none 0 0, .slice none 0 0, .slice none 0 0, .slice none 0 0, .slice none 0 0] 31 (0, 0))) := Lib.hid ((HB2.out.block (w.heap.size + 2) (heapE_lt H2.out)).trans H2.out)
    have HFH : Hid ((set8 yc (w.heap.size + 2) (.int .i64 nn) (.int .i64 1) (.slice B1 mF e1) (.slice B2 mT e2) (.slice B3 mS e3) (.slice B4 mE e4) (.slice none 0 0) (.slice none 0 0)).heap[w.heap.size + 2]? = _) := Lib.hid (set8_same HRB.out)
    have hot : ∀ k, k < yc.heap.size → k ≠ w.heap.size + 2 → (set8 yc (w.heap.size + 2) (.int .i64 nn) (.int .i64 1) (.slice B1 mF e1) (.slice B2 mT e2) (.slice B3 mS e3) (.slice B4 mE e4) (.slice none 0 0) (.slice none 0 0)).heap[k]? = yc.heap[k]? := fun k _ hne => set8_other hne
    have HSF : Hid (StO (set8 yc (w.heap.size + 2) (.int .i64 nn) (.int .i64 1) (.slice B1 mF e1) (.slice B2 mT e2) (.slice B3 mS e3) (.slice B4 mE e4) (.slice none 0 0) (.slice none 0 0)) w.heap.size nn 1 B1 mF e1 B2 mT e2 B3 mS e3 B4 mE e4 none 0 0 none 0 0 (behindS s r)) := Lib.hid (by
     rw [HV.out]
     exact StO.less (StO.apart (w := yc) ⟨HOC2.out, OwnF.nil_ _ _ _ _ _, OwnF.nil_ _ _ _ _ _, (by rw [← HNN.out, HNUM.out]), rfl⟩ HRB.out (by decide) (by decide) (by decide) hot) HBL.out.size)
    have HBF : Hid (Below w.heap.size w (set8 yc (w.heap.size + 2) (.int .i64 nn) (.int .i64 1) (.slice B1 mF e1) (.slice B2 mT e2) (.slice B3 mS e3) (.slice B4 mE e4) (.slice none 0 0) (.slice none 0 0))) := Lib.hid (set8_below (HBL.out.trans (HB2.out.mono HBL.out.size)) (Nat.le_add_right _ _))
    obtain ⟨m0, m1, m2, m3, m4, m5, m6, m7⟩ := row8 HG2.out
    obtain ⟨r0, r1, r2, r3, r4, r5, r6, r7⟩ := row8 HRB.out
    have rf := free_row HRB.out
    clear hot
    go_wp2_with fail
    refine bodyPost_ret (v := .agg #[.int .i64 nn, .int .i64 1, .slice B1 mF e1, .slice B2 mT e2, .slice B3 mS e3, .slice B4 mE e4, .slice none 0 0, .slice none 0 0]) ?_ rfl ⟨_, _, _, _, _, _, _, _, _, _, _, _, _, _, _, _, _, _, _, _, rfl, HSF.out, HBF.out⟩
    exact results_cell_row rfl _ _ (w.heap.size + 2) _ _ _ _ rfl HFH.out Try.underlying31 rfl (by kernel_rfl)
  ·have HV : Hid (behindS s r = { s with op := s.op ++ [sp] }) := Lib.hid (by unfold behindS; rw [HKD.out, if_neg (by decide), if_pos rfl, HSP.out])
   have HAR := Lib.hid (HOO.out.alloc (.cells #[.int .i64 sp] 3))
   have HAC : Hid ((w'.alloc (.cells #[.int .i64 sp] 3)).cell? ⟨w'.heap.size, 0, none⟩ = some (.int .i64 sp)) := Lib.hid (by simp)
   have HLN : Hid (s.op.length + 1 ≤ 1000000000) := Lib.hid (by have := HLEN.out; omega)
   have HAG : Hid ((w'.alloc (.cells #[.int .i64 sp] 3)).heap[g]? = some (.cells #[.int .i64 num, .int .i64 ph, .slice A1 nF c1, .slice A2 nT c2, .slice A3 nS c3, .slice A4 nE c4, .slice A5 nO c5, .slice A6 nD c6] 31 (0, 0))) := Lib.hid (by rw [Below.heap_alloc _ _ _ (heapE_lt HGX.out)]; exact HGX.out)
   have HAB : Hid (Below W.heap.size W (w'.alloc (.cells #[.int .i64 sp] 3))) := Lib.hid (HBX.out.alloc HBX.out.size _)
   go_upto_region 22 with (at_builtin; refine wplF_one rfl (.tmp 34) (.tmp 37) rfl W.heap.size _ s.op rfl HAR.out ⟨w'.heap.size, 0, none⟩ 1 sp rfl HAC.out HLN.out HAB.out.size ?_; intro Ba ka da ya hown hgr; (have HOa := Lib.hid hown); (have HRa := Lib.hid hgr); (have HYa : Hid (ya.heap[g]? = some (.cells #[.int .i64 num, .int .i64 ph, .slice A1 nF c1, .slice A2 nT c2, .slice A3 nS c3, .slice A4 nE c4, .slice A5 nO c5, .slice A6 nD c6] 31 (0, 0))) := Lib.hid ((hgr.block g (heapE_lt HAG.out) (HAR.out.neT HAG.out (by decide))).trans HAG.out)); clear hown hgr; (obtain ⟨t0, t1, t2, t3, t4, t5, t6, t7⟩ := row8 HYa.out); (have tf := free_row HYa.out))
   have HYB : Hid (Below W.heap.size W ya) := Lib.hid (HAB.out.grown HRa.out HAB.out.size HAR.out.ge)
   obtain ⟨X2, HX2⟩ : ∃ q, Hid (q = ya.setCell ⟨g, 6, none⟩ (.slice Ba ka da)) := ⟨_, Lib.hid rfl⟩
   have HGX2 : Hid (X2.heap[g]? = some (.cells #[.int .i64 num, .int .i64 ph, .slice A1 nF c1, .slice A2 nT c2, .slice A3 nS c3, .slice A4 nE c4, .slice Ba ka da, .slice A6 nD c6] 31 (0, 0))) := Lib.hid (by rw [HX2.out]; exact heap_setCell_same _ g 6 _ _ _ HYa.out)
   have hotX2 : ∀ k, k < ya.heap.size → k ≠ g → X2.heap[k]? = ya.heap[k]? := fun k _ hne => by rw [HX2.out]; exact Below.heap_setCell _ _ _ k hne
   have HBX2 : Hid (Below W.heap.size W X2) := Lib.hid (by rw [HX2.out]; exact HYB.out.setCell (by exact HGE.out) _)
   change Code.wp _ _ _ _ (ya.setCell ⟨g, 6, none⟩ (.slice Ba ka da))
   rw [← HX2.out]
   clear t0 t1 t2 t3 t4 t5 t6 t7 tf
   clear n0 n1 n2 n3 n4 n5 n6 n7 nf y0 y1 y2 y3 y4 y5 x0 x1 x2 x3 x4 x5 x6 x7
   have HRB : Hid (X2.heap[w.heap.size + 2]? = some (.cells #[.int .i64 0, .int .i64 0, .slice none 0 0, .slice none 0 0, .slice none 0 0, .slice none 0 0, .slice none 0 0, .slice none 0 0] 31 (0, 0))) := Lib.hid ((HBX2.out.block (w.heap.size + 2) (heapE_lt H2.out)).trans H2.out)
   have HFH : Hid ((set8 X2 (w.heap.size + 2) (.int .i64 num) (.int .i64 ph) (.slice A1 nF c1) (.slice A2 nT c2) (.slice A3 nS c3) (.slice A4 nE c4) (.slice Ba ka da) (.slice A6 nD c6)).heap[w.heap.size + 2]? = _) := Lib.hid (set8_same HRB.out)
   have hot : ∀ k, k < X2.heap.size → k ≠ w.heap.size + 2 → (set8 X2 (w.heap.size + 2) (.int .i64 num) (.int .i64 ph) (.slice A1 nF c1) (.slice A2 nT c2) (.slice A3 nS c3) (.slice A4 nE c4) (.slice Ba ka da) (.slice A6 nD c6)).heap[k]? = X2.heap[k]? := fun k _ hne => set8_other hne
   have HSF : Hid (StO (set8 X2 (w.heap.size + 2) (.int .i64 num) (.int .i64 ph) (.slice A1 nF c1) (.slice A2 nT c2) (.slice A3 nS c3) (.slice A4 nE c4) (.slice Ba ka da) (.slice A6 nD c6)) w.heap.size num ph A1 nF c1 A2 nT c2 A3 nS c3 A4 nE c4 Ba ka da A6 nD c6 (behindS s r)) := Lib.hid (by
    rw [HV.out]
    exact StO.less (StO.apart (w := X2) ⟨(((HPO.out.kept ((Below.refl _ _).alloc (Nat.le_refl _) _)).other HRa.out HDJ.out.ao HDJ.out.bo HDJ.out.co HDJ.out.do_).apart HYa.out (by decide) (by decide) (by decide) hotX2), (HOa.out.apart HYa.out (by decide) hotX2), (((HDO.out.alloc _).other HRa.out HDJ.out.no).apart HYa.out (by decide) hotX2), HNUM.out, HPH.out⟩ HRB.out (by decide) (by decide) (by decide) hot) HBL.out.size)
   have HBF : Hid (Below w.heap.size w (set8 X2 (w.heap.size + 2) (.int .i64 num) (.int .i64 ph) (.slice A1 nF c1) (.slice A2 nT c2) (.slice A3 nS c3) (.slice A4 nE c4) (.slice Ba ka da) (.slice A6 nD c6))) := Lib.hid (set8_below (HBL.out.trans (HBX2.out.mono HBL.out.size)) (Nat.le_add_right _ _))
   obtain ⟨m0, m1, m2, m3, m4, m5, m6, m7⟩ := row8 HGX2.out
   obtain ⟨r0, r1, r2, r3, r4, r5, r6, r7⟩ := row8 HRB.out
   have rf := free_row HRB.out
   clear hot
   go_wp2_with fail
   refine bodyPost_ret (v := .agg #[.int .i64 num, .int .i64 ph, .slice A1 nF c1, .slice A2 nT c2, .slice A3 nS c3, .slice A4 nE c4, .slice Ba ka da, .slice A6 nD c6]) ?_ rfl ⟨_, _, _, _, _, _, _, _, _, _, _, _, _, _, _, _, _, _, _, _, rfl, HSF.out, HBF.out⟩
   exact results_cell_row rfl _ _ (w.heap.size + 2) _ _ _ _ rfl HFH.out Try.underlying31 rfl (by kernel_rfl)
  ·have HV : Hid (behindS s r = { s with op := withoutL s.op sp, dn := s.dn ++ [sp] }) := Lib.hid (by unfold behindS; rw [HKD.out, if_neg (by decide), if_neg (by decide), if_pos rfl, HSP.out])
   have HWw := Lib.hid (without_any HOO.out (by omega) sp)
   go_upto_region 9 with (go_at_call 72; refine HWw.out.mono ?_; rintro e yw ⟨kw, dw, rfl, ho, hgr⟩; (have HOw := Lib.hid ho); (have HRw := Lib.hid hgr); (have HYw : Hid (yw.heap[g]? = some (.cells #[.int .i64 num, .int .i64 ph, .slice A1 nF c1, .slice A2 nT c2, .slice A3 nS c3, .slice A4 nE c4, .slice A5 nO c5, .slice A6 nD c6] 31 (0, 0))) := Lib.hid ((hgr.block g (heapE_lt HGX.out) (HOO.out.neT HGX.out (by decide))).trans HGX.out)); clear ho hgr; (obtain ⟨t0, t1, t2, t3, t4, t5, t6, t7⟩ := row8 HYw.out); (have tf := free_row HYw.out))
   have HYBw : Hid (Below W.heap.size W yw) := Lib.hid (HBX.out.grown HRw.out HBX.out.size HOO.out.ge)
   obtain ⟨X1, HX1⟩ : ∃ q, Hid (q = yw.setCell ⟨g, 6, none⟩ (.slice A5 kw dw)) := ⟨_, Lib.hid rfl⟩
   have HGX1 : Hid (X1.heap[g]? = some (.cells #[.int .i64 num, .int .i64 ph, .slice A1 nF c1, .slice A2 nT c2, .slice A3 nS c3, .slice A4 nE c4, .slice A5 kw dw, .slice A6 nD c6] 31 (0, 0))) := Lib.hid (by rw [HX1.out]; exact heap_setCell_same _ g 6 _ _ _ HYw.out)
   have hotX1 : ∀ k, k < yw.heap.size → k ≠ g → X1.heap[k]? = yw.heap[k]? := fun k _ hne => by rw [HX1.out]; exact Below.heap_setCell _ _ _ k hne
   have HBX1 : Hid (Below W.heap.size W X1) := Lib.hid (by rw [HX1.out]; exact HYBw.out.setCell (by exact HGE.out) _)
   change Code.wp _ _ _ _ (yw.setCell ⟨g, 6, none⟩ (.slice A5 kw dw))
   rw [← HX1.out]
   clear t0 t1 t2 t3 t4 t5 t6 t7 tf
   clear n0 n1 n2 n3 n4 n5 n6 n7 nf y0 y1 y2 y3 y4 y5 x0 x1 x2 x3 x4 x5 x6 x7
   have HP1 := Lib.hid ((HPO.out.other HRw.out HDJ.out.ao HDJ.out.bo HDJ.out.co HDJ.out.do_).apart HYw.out (by decide) (by decide) (by decide) hotX1)
   have HD1 := Lib.hid ((HDO.out.other HRw.out HDJ.out.no).apart HYw.out (by decide) hotX1)
   have HO1 := Lib.hid (HOw.out.apart HYw.out (by decide) hotX1)
   obtain ⟨n0, n1, n2, n3, n4, n5, n6, n7⟩ := row8 HGX1.out
   have nf := free_row HGX1.out
   obtain ⟨⟨x0, x1, x2, x3, x4, x5, x6, x7⟩, y0, y1, y2, y3, y4, y5⟩ := HX.out _ HBX1.out
   have HAR := Lib.hid (HD1.out.alloc (.cells #[.int .i64 sp] 3))
   have HAC : Hid ((X1.alloc (.cells #[.int .i64 sp] 3)).cell? ⟨X1.heap.size, 0, none⟩ = some (.int .i64 sp)) := Lib.hid (by simp)
   have HLN : Hid (s.dn.length + 1 ≤ 1000000000) := Lib.hid (by have := HLEN.out; omega)
   have HAG : Hid ((X1.alloc (.cells #[.int .i64 sp] 3)).heap[g]? = some (.cells #[.int .i64 num, .int .i64 ph, .slice A1 nF c1, .slice A2 nT c2, .slice A3 nS c3, .slice A4 nE c4, .slice A5 kw dw, .slice A6 nD c6] 31 (0, 0))) := Lib.hid (by rw [Below.heap_alloc _ _ _ (heapE_lt HGX1.out)]; exact HGX1.out)
   have HAB : Hid (Below W.heap.size W (X1.alloc (.cells #[.int .i64 sp] 3))) := Lib.hid (HBX1.out.alloc HBX1.out.size _)
   go_upto_region 22 with (at_builtin; refine wplF_one rfl (.tmp 49) (.tmp 52) rfl W.heap.size _ s.dn rfl HAR.out ⟨X1.heap.size, 0, none⟩ 1 sp rfl HAC.out HLN.out HAB.out.size ?_; intro Ba ka da ya hown hgr; (have HOa := Lib.hid hown); (have HRa := Lib.hid hgr); (have HYa : Hid (ya.heap[g]? = some (.cells #[.int .i64 num, .int .i64 ph, .slice A1 nF c1, .slice A2 nT c2, .slice A3 nS c3, .slice A4 nE c4, .slice A5 kw dw, .slice A6 nD c6] 31 (0, 0))) := Lib.hid ((hgr.block g (heapE_lt HAG.out) (HAR.out.neT HAG.out (by decide))).trans HAG.out)); clear hown hgr; (obtain ⟨t0, t1, t2, t3, t4, t5, t6, t7⟩ := row8 HYa.out); (have tf := free_row HYa.out))
   have HYB : Hid (Below W.heap.size W ya) := Lib.hid (HAB.out.grown HRa.out HAB.out.size HAR.out.ge)
   obtain ⟨X2, HX2⟩ : ∃ q, Hid (q = ya.setCell ⟨g, 7, none⟩ (.slice Ba ka da)) := ⟨_, Lib.hid rfl⟩
   have HGX2 : Hid (X2.heap[g]? = some (.cells #[.int .i64 num, .int .i64 ph, .slice A1 nF c1, .slice A2 nT c2, .slice A3 nS c3, .slice A4 nE c4, .slice A5 kw dw, .slice Ba ka da] 31 (0, 0))) := Lib.hid (by rw [HX2.out]; exact heap_setCell_same _ g 7 _ _ _ HYa.out)
   have hotX2 : ∀ k, k < ya.heap.size → k ≠ g → X2.heap[k]? = ya.heap[k]? := fun k _ hne => by rw [HX2.out]; exact Below.heap_setCell _ _ _ k hne
   have HBX2 : Hid (Below W.heap.size W X2) := Lib.hid (by rw [HX2.out]; exact HYB.out.setCell (by exact HGE.out) _)
   change Code.wp _ _ _ _ (ya.setCell ⟨g, 7, none⟩ (.slice Ba ka da))
   rw [← HX2.out]
   clear t0 t1 t2 t3 t4 t5 t6 t7 tf
   clear n0 n1 n2 n3 n4 n5 n6 n7 nf y0 y1 y2 y3 y4 y5 x0 x1 x2 x3 x4 x5 x6 x7
   have HRB : Hid (X2.heap[w.heap.size + 2]? = some (.cells #[.int .i64 0, .int .i64 0, .slice none 0 0, .slice none 0 0, .slice none 0 0, .slice none 0 0, .slice none 0 0, .slice none 0 0] 31 (0, 0))) := Lib.hid ((HBX2.out.block (w.heap.size + 2) (heapE_lt H2.out)).trans H2.out)
   have HFH : Hid ((set8 X2 (w.heap.size + 2) (.int .i64 num) (.int .i64 ph) (.slice A1 nF c1) (.slice A2 nT c2) (.slice A3 nS c3) (.slice A4 nE c4) (.slice A5 kw dw) (.slice Ba ka da)).heap[w.heap.size + 2]? = _) := Lib.hid (set8_same HRB.out)
   have hot : ∀ k, k < X2.heap.size → k ≠ w.heap.size + 2 → (set8 X2 (w.heap.size + 2) (.int .i64 num) (.int .i64 ph) (.slice A1 nF c1) (.slice A2 nT c2) (.slice A3 nS c3) (.slice A4 nE c4) (.slice A5 kw dw) (.slice Ba ka da)).heap[k]? = X2.heap[k]? := fun k _ hne => set8_other hne
   have HSF : Hid (StO (set8 X2 (w.heap.size + 2) (.int .i64 num) (.int .i64 ph) (.slice A1 nF c1) (.slice A2 nT c2) (.slice A3 nS c3) (.slice A4 nE c4) (.slice A5 kw dw) (.slice Ba ka da)) w.heap.size num ph A1 nF c1 A2 nT c2 A3 nS c3 A4 nE c4 A5 kw dw Ba ka da (behindS s r)) := Lib.hid (by
    rw [HV.out]
    exact StO.less (StO.apart (w := X2) ⟨(((HP1.out.kept ((Below.refl _ _).alloc (Nat.le_refl _) _)).other HRa.out HDJ.out.an HDJ.out.bn HDJ.out.cn HDJ.out.dn).apart HYa.out (by decide) (by decide) (by decide) hotX2), (((HO1.out.alloc _).other HRa.out HDJ.out.no.symm.sl).apart HYa.out (by decide) hotX2), (HOa.out.apart HYa.out (by decide) hotX2), HNUM.out, HPH.out⟩ HRB.out (by decide) (by decide) (by decide) hot) HBL.out.size)
   have HBF : Hid (Below w.heap.size w (set8 X2 (w.heap.size + 2) (.int .i64 num) (.int .i64 ph) (.slice A1 nF c1) (.slice A2 nT c2) (.slice A3 nS c3) (.slice A4 nE c4) (.slice A5 kw dw) (.slice Ba ka da))) := Lib.hid (set8_below (HBL.out.trans (HBX2.out.mono HBL.out.size)) (Nat.le_add_right _ _))
   obtain ⟨m0, m1, m2, m3, m4, m5, m6, m7⟩ := row8 HGX2.out
   obtain ⟨r0, r1, r2, r3, r4, r5, r6, r7⟩ := row8 HRB.out
   have rf := free_row HRB.out
   clear hot
   go_wp2_with fail
   refine bodyPost_ret (v := .agg #[.int .i64 num, .int .i64 ph, .slice A1 nF c1, .slice A2 nT c2, .slice A3 nS c3, .slice A4 nE c4, .slice A5 kw dw, .slice Ba ka da]) ?_ rfl ⟨_, _, _, _, _, _, _, _, _, _, _, _, _, _, _, _, _, _, _, _, rfl, HSF.out, HBF.out⟩
   exact results_cell_row rfl _ _ (w.heap.size + 2) _ _ _ _ rfl HFH.out Try.underlying31 rfl (by kernel_rfl)
  ·have HV : Hid (behindS s r = { s with ph := 2 }) := Lib.hid (by unfold behindS; rw [HKD.out, if_neg (by decide), if_neg (by decide), if_neg (by decide), if_pos (by decide)])
   obtain ⟨X2, HX2⟩ : ∃ q, Hid (q = w'.setCell ⟨g, 1, none⟩ (.int .i64 2)) := ⟨_, Lib.hid rfl⟩
   have HG2 : Hid (X2.heap[g]? = some (.cells #[.int .i64 num, .int .i64 2, .slice A1 nF c1, .slice A2 nT c2, .slice A3 nS c3, .slice A4 nE c4, .slice A5 nO c5, .slice A6 nD c6] 31 (0, 0))) := Lib.hid (by rw [HX2.out]; exact heap_setCell_same _ g 1 _ _ _ HGX.out)
   have hotX2 : ∀ k, k < w'.heap.size → k ≠ g → X2.heap[k]? = w'.heap[k]? := fun k _ hne => by rw [HX2.out]; exact Below.heap_setCell _ _ _ k hne
   have HB2 : Hid (Below W.heap.size W X2) := Lib.hid (by rw [HX2.out]; exact HBX.out.setCell (by exact HGE.out) _)
   go_upto_region 22 with fail
   change Code.wp _ _ _ _ (w'.setCell ⟨g, 1, none⟩ (.int .i64 2))
   rw [← HX2.out]
   clear n0 n1 n2 n3 n4 n5 n6 n7 nf y0 y1 y2 y3 y4 y5 x0 x1 x2 x3 x4 x5 x6 x7
   have HRB : Hid (X2.heap[w.heap.size + 2]? = some (.cells #[.int .i64 0, .int .i64 0, .slice none 0 0, .slice none 0 0, .slice none 0 0, .slice none 0 0, .slice none 0 0, .slice none 0 0] 31 (0, 0))) := Lib.hid ((HB2.out.block (w.heap.size + 2) (heapE_lt H2.out)).trans H2.out)
   have HFH : Hid ((set8 X2 (w.heap.size + 2) (.int .i64 num) (.int .i64 2) (.slice A1 nF c1) (.slice A2 nT c2) (.slice A3 nS c3) (.slice A4 nE c4) (.slice A5 nO c5) (.slice A6 nD c6)).heap[w.heap.size + 2]? = _) := Lib.hid (set8_same HRB.out)
   have hot : ∀ k, k < X2.heap.size → k ≠ w.heap.size + 2 → (set8 X2 (w.heap.size + 2) (.int .i64 num) (.int .i64 2) (.slice A1 nF c1) (.slice A2 nT c2) (.slice A3 nS c3) (.slice A4 nE c4) (.slice A5 nO c5) (.slice A6 nD c6)).heap[k]? = X2.heap[k]? := fun k _ hne => set8_other hne
   have HSF : Hid (StO (set8 X2 (w.heap.size + 2) (.int .i64 num) (.int .i64 2) (.slice A1 nF c1) (.slice A2 nT c2) (.slice A3 nS c3) (.slice A4 nE c4) (.slice A5 nO c5) (.slice A6 nD c6)) w.heap.size num 2 A1 nF c1 A2 nT c2 A3 nS c3 A4 nE c4 A5 nO c5 A6 nD c6 (behindS s r)) := Lib.hid (by
    rw [HV.out]
    exact StO.less (StO.apart (w := X2) ⟨HPO.out.apart HGX.out (by decide) (by decide) (by decide) hotX2, HOO.out.apart HGX.out (by decide) hotX2, HDO.out.apart HGX.out (by decide) hotX2, HNUM.out, rfl⟩ HRB.out (by decide) (by decide) (by decide) hot) HBL.out.size)
   have HBF : Hid (Below w.heap.size w (set8 X2 (w.heap.size + 2) (.int .i64 num) (.int .i64 2) (.slice A1 nF c1) (.slice A2 nT c2) (.slice A3 nS c3) (.slice A4 nE c4) (.slice A5 nO c5) (.slice A6 nD c6))) := Lib.hid (set8_below (HBL.out.trans (HB2.out.mono HBL.out.size)) (Nat.le_add_right _ _))
   obtain ⟨m0, m1, m2, m3, m4, m5, m6, m7⟩ := row8 HG2.out
   obtain ⟨r0, r1, r2, r3, r4, r5, r6, r7⟩ := row8 HRB.out
   have rf := free_row HRB.out
   clear hot
   go_wp2_with fail
   refine bodyPost_ret (v := .agg #[.int .i64 num, .int .i64 2, .slice A1 nF c1, .slice A2 nT c2, .slice A3 nS c3, .slice A4 nE c4, .slice A5 nO c5, .slice A6 nD c6]) ?_ rfl ⟨_, _, _, _, _, _, _, _, _, _, _, _, _, _, _, _, _, _, _, _, rfl, HSF.out, HBF.out⟩
   exact results_cell_row rfl _ _ (w.heap.size + 2) _ _ _ _ rfl HFH.out Try.underlying31 rfl (by kernel_rfl)
  ·have HV : Hid (behindS s r = { s with ph := 2 }) := Lib.hid (by unfold behindS; rw [HKD.out, if_neg (by decide), if_neg (by decide), if_neg (by decide), if_pos (by decide)])
   obtain ⟨X2, HX2⟩ : ∃ q, Hid (q = w'.setCell ⟨g, 1, none⟩ (.int .i64 2)) := ⟨_, Lib.hid rfl⟩
   have HG2 : Hid (X2.heap[g]? = some (.cells #[.int .i64 num, .int .i64 2, .slice A1 nF c1, .slice A2 nT c2, .slice A3 nS c3, .slice A4 nE c4, .slice A5 nO c5, .slice A6 nD c6] 31 (0, 0))) := Lib.hid (by rw [HX2.out]; exact heap_setCell_same _ g 1 _ _ _ HGX.out)
   have hotX2 : ∀ k, k < w'.heap.size → k ≠ g → X2.heap[k]? = w'.heap[k]? := fun k _ hne => by rw [HX2.out]; exact Below.heap_setCell _ _ _ k hne
   have HB2 : Hid (Below W.heap.size W X2) := Lib.hid (by rw [HX2.out]; exact HBX.out.setCell (by exact HGE.out) _)
   go_upto_region 22 with fail
   change Code.wp _ _ _ _ (w'.setCell ⟨g, 1, none⟩ (.int .i64 2))
   rw [← HX2.out]
   clear n0 n1 n2 n3 n4 n5 n6 n7 nf y0 y1 y2 y3 y4 y5 x0 x1 x2 x3 x4 x5 x6 x7
   have HRB : Hid (X2.heap[w.heap.size + 2]? = some (.cells #[.int .i64 0, .int .i64 0, .slice none 0 0, .slice none 0 0, .slice none 0 0, .slice none 0 0, .slice none 0 0, .slice none 0 0] 31 (0, 0))) := Lib.hid ((HB2.out.block (w.heap.size + 2) (heapE_lt H2.out)).trans H2.out)
   have HFH : Hid ((set8 X2 (w.heap.size + 2) (.int .i64 num) (.int .i64 2) (.slice A1 nF c1) (.slice A2 nT c2) (.slice A3 nS c3) (.slice A4 nE c4) (.slice A5 nO c5) (.slice A6 nD c6)).heap[w.heap.size + 2]? = _) := Lib.hid (set8_same HRB.out)
   have hot : ∀ k, k < X2.heap.size → k ≠ w.heap.size + 2 → (set8 X2 (w.heap.size + 2) (.int .i64 num) (.int .i64 2) (.slice A1 nF c1) (.slice A2 nT c2) (.slice A3 nS c3) (.slice A4 nE c4) (.slice A5 nO c5) (.slice A6 nD c6)).heap[k]? = X2.heap[k]? := fun k _ hne => set8_other hne
   have HSF : Hid (StO (set8 X2 (w.heap.size + 2) (.int .i64 num) (.int .i64 2) (.slice A1 nF c1) (.slice A2 nT c2) (.slice A3 nS c3) (.slice A4 nE c4) (.slice A5 nO c5) (.slice A6 nD c6)) w.heap.size num 2 A1 nF c1 A2 nT c2 A3 nS c3 A4 nE c4 A5 nO c5 A6 nD c6 (behindS s r)) := Lib.hid (by
    rw [HV.out]
    exact StO.less (StO.apart (w := X2) ⟨HPO.out.apart HGX.out (by decide) (by decide) (by decide) hotX2, HOO.out.apart HGX.out (by decide) hotX2, HDO.out.apart HGX.out (by decide) hotX2, HNUM.out, rfl⟩ HRB.out (by decide) (by decide) (by decide) hot) HBL.out.size)
   have HBF : Hid (Below w.heap.size w (set8 X2 (w.heap.size + 2) (.int .i64 num) (.int .i64 2) (.slice A1 nF c1) (.slice A2 nT c2) (.slice A3 nS c3) (.slice A4 nE c4) (.slice A5 nO c5) (.slice A6 nD c6))) := Lib.hid (set8_below (HBL.out.trans (HB2.out.mono HBL.out.size)) (Nat.le_add_right _ _))
   obtain ⟨m0, m1, m2, m3, m4, m5, m6, m7⟩ := row8 HG2.out
   obtain ⟨r0, r1, r2, r3, r4, r5, r6, r7⟩ := row8 HRB.out
   have rf := free_row HRB.out
   clear hot
   go_wp2_with fail
   refine bodyPost_ret (v := .agg #[.int .i64 num, .int .i64 2, .slice A1 nF c1, .slice A2 nT c2, .slice A3 nS c3, .slice A4 nE c4, .slice A5 nO c5, .slice A6 nD c6]) ?_ rfl ⟨_, _, _, _, _, _, _, _, _, _, _, _, _, _, _, _, _, _, _, _, rfl, HSF.out, HBF.out⟩
   exact results_cell_row rfl _ _ (w.heap.size + 2) _ _ _ _ rfl HFH.out Try.underlying31 rfl (by kernel_rfl)
  ·have HV : Hid (behindS s r = { s with op := withoutL s.op sp, dn := withoutL s.dn sp }) := Lib.hid (by unfold behindS; rw [HKD.out, if_neg (by decide), if_neg (by decide), if_neg (by decide), if_neg (by decide), if_pos rfl, HSP.out])
   have HWw := Lib.hid (without_any HOO.out (by omega) sp)
   go_upto_region 15 with (go_at_call 72; refine HWw.out.mono ?_; rintro e yw ⟨kw, dw, rfl, ho, hgr⟩; (have HOw := Lib.hid ho); (have HRw := Lib.hid hgr); (have HYw : Hid (yw.heap[g]? = some (.cells #[.int .i64 num, .int .i64 ph, .slice A1 nF c1, .slice A2 nT c2, .slice A3 nS c3, .slice A4 nE c4, .slice A5 nO c5, .slice A6 nD c6] 31 (0, 0))) := Lib.hid ((hgr.block g (heapE_lt HGX.out) (HOO.out.neT HGX.out (by decide))).trans HGX.out)); clear ho hgr; (obtain ⟨t0, t1, t2, t3, t4, t5, t6, t7⟩ := row8 HYw.out); (have tf := free_row HYw.out))
   have HYBw : Hid (Below W.heap.size W yw) := Lib.hid (HBX.out.grown HRw.out HBX.out.size HOO.out.ge)
   obtain ⟨X1, HX1⟩ : ∃ q, Hid (q = yw.setCell ⟨g, 6, none⟩ (.slice A5 kw dw)) := ⟨_, Lib.hid rfl⟩
   have HGX1 : Hid (X1.heap[g]? = some (.cells #[.int .i64 num, .int .i64 ph, .slice A1 nF c1, .slice A2 nT c2, .slice A3 nS c3, .slice A4 nE c4, .slice A5 kw dw, .slice A6 nD c6] 31 (0, 0))) := Lib.hid (by rw [HX1.out]; exact heap_setCell_same _ g 6 _ _ _ HYw.out)
   have hotX1 : ∀ k, k < yw.heap.size → k ≠ g → X1.heap[k]? = yw.heap[k]? := fun k _ hne => by rw [HX1.out]; exact Below.heap_setCell _ _ _ k hne
   have HBX1 : Hid (Below W.heap.size W X1) := Lib.hid (by rw [HX1.out]; exact HYBw.out.setCell (by exact HGE.out) _)
   change Code.wp _ _ _ _ (yw.setCell ⟨g, 6, none⟩ (.slice A5 kw dw))
   rw [← HX1.out]
   clear t0 t1 t2 t3 t4 t5 t6 t7 tf
   clear n0 n1 n2 n3 n4 n5 n6 n7 nf y0 y1 y2 y3 y4 y5 x0 x1 x2 x3 x4 x5 x6 x7
   have HP1 := Lib.hid ((HPO.out.other HRw.out HDJ.out.ao HDJ.out.bo HDJ.out.co HDJ.out.do_).apart HYw.out (by decide) (by decide) (by decide) hotX1)
   have HD1 := Lib.hid ((HDO.out.other HRw.out HDJ.out.no).apart HYw.out (by decide) hotX1)
   have HO1 := Lib.hid (HOw.out.apart HYw.out (by decide) hotX1)
   obtain ⟨n0, n1, n2, n3, n4, n5, n6, n7⟩ := row8 HGX1.out
   have nf := free_row HGX1.out
   obtain ⟨⟨x0, x1, x2, x3, x4, x5, x6, x7⟩, y0, y1, y2, y3, y4, y5⟩ := HX.out _ HBX1.out
   have HWv := Lib.hid (without_any HD1.out (by omega) sp)
   go_upto_region 22 with (go_at_call 72; refine HWv.out.mono ?_; rintro e yv ⟨kv, dv, rfl, ho, hgr⟩; (have HOv := Lib.hid ho); (have HRv := Lib.hid hgr); (have HYv : Hid (yv.heap[g]? = some (.cells #[.int .i64 num, .int .i64 ph, .slice A1 nF c1, .slice A2 nT c2, .slice A3 nS c3, .slice A4 nE c4, .slice A5 kw dw, .slice A6 nD c6] 31 (0, 0))) := Lib.hid ((hgr.block g (heapE_lt HGX1.out) (HD1.out.neT HGX1.out (by decide))).trans HGX1.out)); clear ho hgr; (obtain ⟨t0, t1, t2, t3, t4, t5, t6, t7⟩ := row8 HYv.out); (have tf := free_row HYv.out))
   have HYBv : Hid (Below W.heap.size W yv) := Lib.hid (HBX1.out.grown HRv.out HBX1.out.size HD1.out.ge)
   obtain ⟨X2, HX2⟩ : ∃ q, Hid (q = yv.setCell ⟨g, 7, none⟩ (.slice A6 kv dv)) := ⟨_, Lib.hid rfl⟩
   have HGX2 : Hid (X2.heap[g]? = some (.cells #[.int .i64 num, .int .i64 ph, .slice A1 nF c1, .slice A2 nT c2, .slice A3 nS c3, .slice A4 nE c4, .slice A5 kw dw, .slice A6 kv dv] 31 (0, 0))) := Lib.hid (by rw [HX2.out]; exact heap_setCell_same _ g 7 _ _ _ HYv.out)
   have hotX2 : ∀ k, k < yv.heap.size → k ≠ g → X2.heap[k]? = yv.heap[k]? := fun k _ hne => by rw [HX2.out]; exact Below.heap_setCell _ _ _ k hne
   have HBX2 : Hid (Below W.heap.size W X2) := Lib.hid (by rw [HX2.out]; exact HYBv.out.setCell (by exact HGE.out) _)
   change Code.wp _ _ _ _ (yv.setCell ⟨g, 7, none⟩ (.slice A6 kv dv))
   rw [← HX2.out]
   clear t0 t1 t2 t3 t4 t5 t6 t7 tf
   clear n0 n1 n2 n3 n4 n5 n6 n7 nf y0 y1 y2 y3 y4 y5 x0 x1 x2 x3 x4 x5 x6 x7
   have HRB : Hid (X2.heap[w.heap.size + 2]? = some (.cells #[.int .i64 0, .int .i64 0, .slice none 0 0, .slice none 0 0, .slice none 0 0, .slice none 0 0, .slice none 0 0, .slice none 0 0] 31 (0, 0))) := Lib.hid ((HBX2.out.block (w.heap.size + 2) (heapE_lt H2.out)).trans H2.out)
   have HFH : Hid ((set8 X2 (w.heap.size + 2) (.int .i64 num) (.int .i64 ph) (.slice A1 nF c1) (.slice A2 nT c2) (.slice A3 nS c3) (.slice A4 nE c4) (.slice A5 kw dw) (.slice A6 kv dv)).heap[w.heap.size + 2]? = _) := Lib.hid (set8_same HRB.out)
   have hot : ∀ k, k < X2.heap.size → k ≠ w.heap.size + 2 → (set8 X2 (w.heap.size + 2) (.int .i64 num) (.int .i64 ph) (.slice A1 nF c1) (.slice A2 nT c2) (.slice A3 nS c3) (.slice A4 nE c4) (.slice A5 kw dw) (.slice A6 kv dv)).heap[k]? = X2.heap[k]? := fun k _ hne => set8_other hne
   have HSF : Hid (StO (set8 X2 (w.heap.size + 2) (.int .i64 num) (.int .i64 ph) (.slice A1 nF c1) (.slice A2 nT c2) (.slice A3 nS c3) (.slice A4 nE c4) (.slice A5 kw dw) (.slice A6 kv dv)) w.heap.size num ph A1 nF c1 A2 nT c2 A3 nS c3 A4 nE c4 A5 kw dw A6 kv dv (behindS s r)) := Lib.hid (by
    rw [HV.out]
    exact StO.less (StO.apart (w := X2) ⟨((HP1.out.other HRv.out HDJ.out.an HDJ.out.bn HDJ.out.cn HDJ.out.dn).apart HYv.out (by decide) (by decide) (by decide) hotX2), ((HO1.out.other HRv.out HDJ.out.no.symm.sl).apart HYv.out (by decide) hotX2), (HOv.out.apart HYv.out (by decide) hotX2), HNUM.out, HPH.out⟩ HRB.out (by decide) (by decide) (by decide) hot) HBL.out.size)
   have HBF : Hid (Below w.heap.size w (set8 X2 (w.heap.size + 2) (.int .i64 num) (.int .i64 ph) (.slice A1 nF c1) (.slice A2 nT c2) (.slice A3 nS c3) (.slice A4 nE c4) (.slice A5 kw dw) (.slice A6 kv dv))) := Lib.hid (set8_below (HBL.out.trans (HBX2.out.mono HBL.out.size)) (Nat.le_add_right _ _))
   obtain ⟨m0, m1, m2, m3, m4, m5, m6, m7⟩ := row8 HGX2.out
   obtain ⟨r0, r1, r2, r3, r4, r5, r6, r7⟩ := row8 HRB.out
   have rf := free_row HRB.out
   clear hot
   go_wp2_with fail
   refine bodyPost_ret (v := .agg #[.int .i64 num, .int .i64 ph, .slice A1 nF c1, .slice A2 nT c2, .slice A3 nS c3, .slice A4 nE c4, .slice A5 kw dw, .slice A6 kv dv]) ?_ rfl ⟨_, _, _, _, _, _, _, _, _, _, _, _, _, _, _, _, _, _, _, _, rfl, HSF.out, HBF.out⟩
   exact results_cell_row rfl _ _ (w.heap.size + 2) _ _ _ _ rfl HFH.out Try.underlying31 rfl (by kernel_rfl)
  ·have HV : Hid (behindS s r = { s with ph := 3 }) := Lib.hid (by unfold behindS; rw [HKD.out, if_neg (by decide), if_neg (by decide), if_neg (by decide), if_neg (by decide), if_neg (by decide), if_pos rfl])
   obtain ⟨X2, HX2⟩ : ∃ q, Hid (q = w'.setCell ⟨g, 1, none⟩ (.int .i64 3)) := ⟨_, Lib.hid rfl⟩
   have HG2 : Hid (X2.heap[g]? = some (.cells #[.int .i64 num, .int .i64 3, .slice A1 nF c1, .slice A2 nT c2, .slice A3 nS c3, .slice A4 nE c4, .slice A5 nO c5, .slice A6 nD c6] 31 (0, 0))) := Lib.hid (by rw [HX2.out]; exact heap_setCell_same _ g 1 _ _ _ HGX.out)
   have hotX2 : ∀ k, k < w'.heap.size → k ≠ g → X2.heap[k]? = w'.heap[k]? := fun k _ hne => by rw [HX2.out]; exact Below.heap_setCell _ _ _ k hne
   have HB2 : Hid (Below W.heap.size W X2) := Lib.hid (by rw [HX2.out]; exact HBX.out.setCell (by exact HGE.out) _)
   go_upto_region 22 with fail
   change Code.wp _ _ _ _ (w'.setCell ⟨g, 1, none⟩ (.int .i64 3))
   rw [← HX2.out]
   clear n0 n1 n2 n3 n4 n5 n6 n7 nf y0 y1 y2 y3 y4 y5 x0 x1 x2 x3 x4 x5 x6 x7
   have HRB : Hid (X2.heap[w.heap.size + 2]? = some (.cells #[.int .i64 0, .int .i64 0, .slice none 0 0, .slice none 0 0, .slice none 0 0, .slice none 0 0, .slice none 0 0, .slice none 0 0] 31 (0, 0))) := Lib.hid ((HB2.out.block (w.heap.size + 2) (heapE_lt H2.out)).trans H2.out)
   have HFH : Hid ((set8 X2 (w.heap.size + 2) (.int .i64 num) (.int .i64 3) (.slice A1 nF c1) (.slice A2 nT c2) (.slice A3 nS c3) (.slice A4 nE c4) (.slice A5 nO c5) (.slice A6 nD c6)).heap[w.heap.size + 2]? = _) := Lib.hid (set8_same HRB.out)
   have hot : ∀ k, k < X2.heap.size → k ≠ w.heap.size + 2 → (set8 X2 (w.heap.size + 2) (.int .i64 num) (.int .i64 3) (.slice A1 nF c1) (.slice A2 nT c2) (.slice A3 nS c3) (.slice A4 nE c4) (.slice A5 nO c5) (.slice A6 nD c6)).heap[k]? = X2.heap[k]? := fun k _ hne => set8_other hne
   have HSF : Hid (StO (set8 X2 (w.heap.size + 2) (.int .i64 num) (.int .i64 3) (.slice A1 nF c1) (.slice A2 nT c2) (.slice A3 nS c3) (.slice A4 nE c4) (.slice A5 nO c5) (.slice A6 nD c6)) w.heap.size num 3 A1 nF c1 A2 nT c2 A3 nS c3 A4 nE c4 A5 nO c5 A6 nD c6 (behindS s r)) := Lib.hid (by
    rw [HV.out]
    exact StO.less (StO.apart (w := X2) ⟨HPO.out.apart HGX.out (by decide) (by decide) (by decide) hotX2, HOO.out.apart HGX.out (by decide) hotX2, HDO.out.apart HGX.out (by decide) hotX2, HNUM.out, rfl⟩ HRB.out (by decide) (by decide) (by decide) hot) HBL.out.size)
   have HBF : Hid (Below w.heap.size w (set8 X2 (w.heap.size + 2) (.int .i64 num) (.int .i64 3) (.slice A1 nF c1) (.slice A2 nT c2) (.slice A3 nS c3) (.slice A4 nE c4) (.slice A5 nO c5) (.slice A6 nD c6))) := Lib.hid (set8_below (HBL.out.trans (HB2.out.mono HBL.out.size)) (Nat.le_add_right _ _))
   obtain ⟨m0, m1, m2, m3, m4, m5, m6, m7⟩ := row8 HG2.out
   obtain ⟨r0, r1, r2, r3, r4, r5, r6, r7⟩ := row8 HRB.out
   have rf := free_row HRB.out
   clear hot
   go_wp2_with fail
   refine bodyPost_ret (v := .agg #[.int .i64 num, .int .i64 3, .slice A1 nF c1, .slice A2 nT c2, .slice A3 nS c3, .slice A4 nE c4, .slice A5 nO c5, .slice A6 nD c6]) ?_ rfl ⟨_, _, _, _, _, _, _, _, _, _, _, _, _, _, _, _, _, _, _, _, rfl, HSF.out, HBF.out⟩
   exact results_cell_row rfl _ _ (w.heap.size + 2) _ _ _ _ rfl HFH.out Try.underlying31 rfl (by kernel_rfl)
  ·by_cases hp2 : ph = 2
   ·subst hp2
    have HV : Hid (behindS s r = { s with ph := 5 }) := Lib.hid (by unfold behindS; rw [HKD.out, if_neg (by decide), if_neg (by decide), if_neg (by decide), if_neg (by decide), if_neg (by decide), if_neg (by decide), if_pos rfl, if_pos HPH.out])
    obtain ⟨X1, HX1⟩ : ∃ q, Hid (q = w'.setCell ⟨g, 1, none⟩ (.int .i64 4)) := ⟨_, Lib.hid rfl⟩
    have HGX1 : Hid (X1.heap[g]? = some (.cells #[.int .i64 num, .int .i64 4, .slice A1 nF c1, .slice A2 nT c2, .slice A3 nS c3, .slice A4 nE c4, .slice A5 nO c5, .slice A6 nD c6] 31 (0, 0))) := Lib.hid (by rw [HX1.out]; exact heap_setCell_same _ g 1 _ _ _ HGX.out)
    have hotX1 : ∀ k, k < w'.heap.size → k ≠ g → X1.heap[k]? = w'.heap[k]? := fun k _ hne => by rw [HX1.out]; exact Below.heap_setCell _ _ _ k hne
    have HBX1 : Hid (Below W.heap.size W X1) := Lib.hid (by rw [HX1.out]; exact HBX.out.setCell (by exact HGE.out) _)
    obtain ⟨X2, HX2⟩ : ∃ q, Hid (q = X1.setCell ⟨g, 1, none⟩ (.int .i64 5)) := ⟨_, Lib.hid rfl⟩
    have HGX2 : Hid (X2.heap[g]? = some (.cells #[.int .i64 num, .int .i64 5, .slice A1 nF c1, .slice A2 nT c2, .slice A3 nS c3, .slice A4 nE c4, .slice A5 nO c5, .slice A6 nD c6] 31 (0, 0))) := Lib.hid (by rw [HX2.out]; exact heap_setCell_same _ g 1 _ _ _ HGX1.out)
    have hotX2 : ∀ k, k < X1.heap.size → k ≠ g → X2.heap[k]? = X1.heap[k]? := fun k _ hne => by rw [HX2.out]; exact Below.heap_setCell _ _ _ k hne
    have HBX2 : Hid (Below W.heap.size W X2) := Lib.hid (by rw [HX2.out]; exact HBX1.out.setCell (by exact HGE.out) _)
    go_upto_region 20 with fail
    change Code.wp _ _ _ _ (w'.setCell ⟨g, 1, none⟩ (.int .i64 4))
    rw [← HX1.out]
    clear n0 n1 n2 n3 n4 n5 n6 n7 nf y0 y1 y2 y3 y4 y5 x0 x1 x2 x3 x4 x5 x6 x7
    obtain ⟨n0, n1, n2, n3, n4, n5, n6, n7⟩ := row8 HGX1.out
    have nf := free_row HGX1.out
    obtain ⟨⟨x0, x1, x2, x3, x4, x5, x6, x7⟩, y0, y1, y2, y3, y4, y5⟩ := HX.out _ HBX1.out
    go_upto_region 22 with fail
    change Code.wp _ _ _ _ (X1.setCell ⟨g, 1, none⟩ (.int .i64 5))
    rw [← HX2.out]
    clear n0 n1 n2 n3 n4 n5 n6 n7 nf y0 y1 y2 y3 y4 y5 x0 x1 x2 x3 x4 x5 x6 x7
    have HRB : Hid (X2.heap[w.heap.size + 2]? = some (.cells #[.int .i64 0, .int .i64 0, .slice none 0 0, .slice none 0 0, .slice none 0 0, .slice none 0 0, .slice none 0 0, .slice none 0 0] 31 (0, 0))) := Lib.hid ((HBX2.out.block (w.heap.size + 2) (heapE_lt H2.out)).trans H2.out)
    have HFH : Hid ((set8 X2 (w.heap.size + 2) (.int .i64 num) (.int .i64 5) (.slice A1 nF c1) (.slice A2 nT c2) (.slice A3 nS c3) (.slice A4 nE c4) (.slice A5 nO c5) (.slice A6 nD c6)).heap[w.heap.size + 2]? = _) := Lib.hid (set8_same HRB.out)
    have hot : ∀ k, k < X2.heap.size → k ≠ w.heap.size + 2 → (set8 X2 (w.heap.size + 2) (.int .i64 num) (.int .i64 5) (.slice A1 nF c1) (.slice A2 nT c2) (.slice A3 nS c3) (.slice A4 nE c4) (.slice A5 nO c5) (.slice A6 nD c6)).heap[k]? = X2.heap[k]? := fun k _ hne => set8_other hne
    have HSF : Hid (StO (set8 X2 (w.heap.size + 2) (.int .i64 num) (.int .i64 5) (.slice A1 nF c1) (.slice A2 nT c2) (.slice A3 nS c3) (.slice A4 nE c4) (.slice A5 nO c5) (.slice A6 nD c6)) w.heap.size num 5 A1 nF c1 A2 nT c2 A3 nS c3 A4 nE c4 A5 nO c5 A6 nD c6 (behindS s r)) := Lib.hid (by
     rw [HV.out]
     exact StO.less (StO.apart (w := X2) ⟨((HPO.out.apart HGX.out (by decide) (by decide) (by decide) hotX1).apart HGX1.out (by decide) (by decide) (by decide) hotX2), ((HOO.out.apart HGX.out (by decide) hotX1).apart HGX1.out (by decide) hotX2), ((HDO.out.apart HGX.out (by decide) hotX1).apart HGX1.out (by decide) hotX2), HNUM.out, rfl⟩ HRB.out (by decide) (by decide) (by decide) hot) HBL.out.size)
    have HBF : Hid (Below w.heap.size w (set8 X2 (w.heap.size + 2) (.int .i64 num) (.int .i64 5) (.slice A1 nF c1) (.slice A2 nT c2) (.slice A3 nS c3) (.slice A4 nE c4) (.slice A5 nO c5) (.slice A6 nD c6))) := Lib.hid (set8_below (HBL.out.trans (HBX2.out.mono HBL.out.size)) (Nat.le_add_right _ _))
    obtain ⟨m0, m1, m2, m3, m4, m5, m6, m7⟩ := row8 HGX2.out
    obtain ⟨r0, r1, r2, r3, r4, r5, r6, r7⟩ := row8 HRB.out
    have rf := free_row HRB.out
    clear hot
    go_wp2_with fail
    refine bodyPost_ret (v := .agg #[.int .i64 num, .int .i64 5, .slice A1 nF c1, .slice A2 nT c2, .slice A3 nS c3, .slice A4 nE c4, .slice A5 nO c5, .slice A6 nD c6]) ?_ rfl ⟨_, _, _, _, _, _, _, _, _, _, _, _, _, _, _, _, _, _, _, _, rfl, HSF.out, HBF.out⟩
    exact results_cell_row rfl _ _ (w.heap.size + 2) _ _ _ _ rfl HFH.out Try.underlying31 rfl (by kernel_rfl)
   ·have hpb : (ph == 2) = false := by rw [beq_eq_false_iff_ne]; exact hp2
    have HV : Hid (behindS s r = { s with ph := 4 }) := Lib.hid (by unfold behindS; rw [HKD.out, if_neg (by decide), if_neg (by decide), if_neg (by decide), if_neg (by decide), if_neg (by decide), if_neg (by decide), if_pos rfl, if_neg (by rw [HPH.out]; exact hp2)])
    clear hp2
    obtain ⟨X2, HX2⟩ : ∃ q, Hid (q = w'.setCell ⟨g, 1, none⟩ (.int .i64 4)) := ⟨_, Lib.hid rfl⟩
    have HGX2 : Hid (X2.heap[g]? = some (.cells #[.int .i64 num, .int .i64 4, .slice A1 nF c1, .slice A2 nT c2, .slice A3 nS c3, .slice A4 nE c4, .slice A5 nO c5, .slice A6 nD c6] 31 (0, 0))) := Lib.hid (by rw [HX2.out]; exact heap_setCell_same _ g 1 _ _ _ HGX.out)
    have hotX2 : ∀ k, k < w'.heap.size → k ≠ g → X2.heap[k]? = w'.heap[k]? := fun k _ hne => by rw [HX2.out]; exact Below.heap_setCell _ _ _ k hne
    have HBX2 : Hid (Below W.heap.size W X2) := Lib.hid (by rw [HX2.out]; exact HBX.out.setCell (by exact HGE.out) _)
    go_upto_region 20 with fail
    change Code.wp _ _ _ _ (w'.setCell ⟨g, 1, none⟩ (.int .i64 4))
    rw [← HX2.out]
    clear n0 n1 n2 n3 n4 n5 n6 n7 nf y0 y1 y2 y3 y4 y5 x0 x1 x2 x3 x4 x5 x6 x7
    obtain ⟨n0, n1, n2, n3, n4, n5, n6, n7⟩ := row8 HGX2.out
    obtain ⟨⟨x0, x1, x2, x3, x4, x5, x6, x7⟩, y0, y1, y2, y3, y4, y5⟩ := HX.out _ HBX2.out
    go_upto_region 22 with fail
    clear n0 n1 n2 n3 n4 n5 n6 n7 y0 y1 y2 y3 y4 y5 x0 x1 x2 x3 x4 x5 x6 x7
    have HRB : Hid (X2.heap[w.heap.size + 2]? = some (.cells #[.int .i64 0, .int .i64 0, .slice none 0 0, .slice none 0 0, .slice none 0 0, .slice none 0 0, .slice none 0 0, .slice none 0 0] 31 (0, 0))) := Lib.hid ((HBX2.out.block (w.heap.size + 2) (heapE_lt H2.out)).trans H2.out)
    have HFH : Hid ((set8 X2 (w.heap.size + 2) (.int .i64 num) (.int .i64 4) (.slice A1 nF c1) (.slice A2 nT c2) (.slice A3 nS c3) (.slice A4 nE c4) (.slice A5 nO c5) (.slice A6 nD c6)).heap[w.heap.size + 2]? = _) := Lib.hid (set8_same HRB.out)
    have hot : ∀ k, k < X2.heap.size → k ≠ w.heap.size + 2 → (set8 X2 (w.heap.size + 2) (.int .i64 num) (.int .i64 4) (.slice A1 nF c1) (.slice A2 nT c2) (.slice A3 nS c3) (.slice A4 nE c4) (.slice A5 nO c5) (.slice A6 nD c6)).heap[k]? = X2.heap[k]? := fun k _ hne => set8_other hne
    have HSF : Hid (StO (set8 X2 (w.heap.size + 2) (.int .i64 num) (.int .i64 4) (.slice A1 nF c1) (.slice A2 nT c2) (.slice A3 nS c3) (.slice A4 nE c4) (.slice A5 nO c5) (.slice A6 nD c6)) w.heap.size num 4 A1 nF c1 A2 nT c2 A3 nS c3 A4 nE c4 A5 nO c5 A6 nD c6 (behindS s r)) := Lib.hid (by
     rw [HV.out]
     exact StO.less (StO.apart (w := X2) ⟨HPO.out.apart HGX.out (by decide) (by decide) (by decide) hotX2, HOO.out.apart HGX.out (by decide) hotX2, HDO.out.apart HGX.out (by decide) hotX2, HNUM.out, rfl⟩ HRB.out (by decide) (by decide) (by decide) hot) HBL.out.size)
    have HBF : Hid (Below w.heap.size w (set8 X2 (w.heap.size + 2) (.int .i64 num) (.int .i64 4) (.slice A1 nF c1) (.slice A2 nT c2) (.slice A3 nS c3) (.slice A4 nE c4) (.slice A5 nO c5) (.slice A6 nD c6))) := Lib.hid (set8_below (HBL.out.trans (HBX2.out.mono HBL.out.size)) (Nat.le_add_right _ _))
    obtain ⟨m0, m1, m2, m3, m4, m5, m6, m7⟩ := row8 HGX2.out
    obtain ⟨r0, r1, r2, r3, r4, r5, r6, r7⟩ := row8 HRB.out
    have rf := free_row HRB.out
    clear hot
    go_wp2_with fail
    refine bodyPost_ret (v := .agg #[.int .i64 num, .int .i64 4, .slice A1 nF c1, .slice A2 nT c2, .slice A3 nS c3, .slice A4 nE c4, .slice A5 nO c5, .slice A6 nD c6]) ?_ rfl ⟨_, _, _, _, _, _, _, _, _, _, _, _, _, _, _, _, _, _, _, _, rfl, HSF.out, HBF.out⟩
    exact results_cell_row rfl _ _ (w.heap.size + 2) _ _ _ _ rfl HFH.out Try.underlying31 rfl (by kernel_rfl)
end Go.Proofs.Ytolgmoaoheflcaa.Sa
