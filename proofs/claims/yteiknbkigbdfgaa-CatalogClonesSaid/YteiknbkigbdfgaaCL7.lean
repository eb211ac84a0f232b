/-
  CATALOGCLONES.
-/
import Derived.Test.YteiknbkigbdfgaaCAl
import Derived.Test.YteiknbkigbdfgaaCAn
import Derived.Test.YteiknbkigbdfgaaCRg
import Derived.Test.YteiknbkigbdfgaaInv
namespace Go.Proofs.Yteiknbkigbdfgaa
open Go.RowKit
open SemP FlP GaP DiP
set_option linter.unusedVariables false
set_option linter.unusedSimpArgs false
set_option maxRecDepth 10000
structure KlSt (X : World) (cb B n c : Nat) (A : Option Addr) (l : List Sv) (z0 z1 : Nat) (b0 b1 b2 b3 b4 b5 b6 b7 : Bool) (v24 v25 v26 v27 v5 v6 : Value) (w' : World) : Prop where
  bel : Below X.heap.size X w'
  h0 : b0 = true → v24 = .agg #[.slice A n c]
  h2 : b2 = true → v26 = .agg #[.slice A n c]
  h1 : b1 = true → ∃ va, v25 = .agg #[va] ∧ OwI 36 2 svO w' (fun b => b < z0 ∨ z1 ≤ b) [va] l ∧ X.heap.size ≤ z0 ∧ z0 ≤ z1 ∧ z1 ≤ w'.heap.size
  h3 : b3 = true → ∃ vb, v27 = .agg #[vb] ∧ OwI 36 2 svO w' (fun b => b < z1) [vb] l
  h4 : b4 = true → b6 = false → ∃ g, v5 = .pointer (some ⟨g, 0, none⟩) ∧ w'.heap[g]? = some (.cells #[.slice none 0 0] 24 (0, 0)) ∧ X.heap.size ≤ g
  h5 : b5 = true → b7 = false → ∃ g, v6 = .pointer (some ⟨g, 0, none⟩) ∧ w'.heap[g]? = some (.cells #[.slice none 0 0] 24 (0, 0)) ∧ X.heap.size ≤ g
  h6 : b6 = true → ∃ g va, v5 = .pointer (some ⟨g, 0, none⟩) ∧ v25 = .agg #[va] ∧ w'.heap[g]? = some (.cells #[va] 24 (0, 0)) ∧ X.heap.size ≤ g
  h7 : b7 = true → ∃ g vb, v6 = .pointer (some ⟨g, 0, none⟩) ∧ v27 = .agg #[vb] ∧ w'.heap[g]? = some (.cells #[vb] 24 (0, 0)) ∧ X.heap.size ≤ g
  ne : b4 = true → b5 = true → ∀ g, v5 = .pointer (some ⟨g, 0, none⟩) → v6 = .pointer (some ⟨g, 0, none⟩) → False
  o1_0 : b1 = true → b0 = true
  o3_2 : b3 = true → b2 = true
  o3_1 : b3 = true → b1 = true
  o6_4 : b6 = true → b4 = true
  o6_1 : b6 = true → b1 = true
  o6_3 : b6 = true → b3 = true
  o7_5 : b7 = true → b5 = true
  o7_3 : b7 = true → b3 = true
  o7_6 : b7 = true → b6 = true
inductive KlJ (X : World) (cb B n c : Nat) (A : Option Addr) (l : List Sv) (p0 p1 p2 p3 p4 p7 p8 p9 p10 p11 p12 p13 p14 p15 p16 p17 p18 p19 p20 p21 p22 p23 p28 p29 p30 p31 p32 p33 p34 p35 p36 p37 p38 p39 p40 p41 p42 p43 p44 p45 p46 p47 p48 p49 p50 p51 p52 p53 p54 p55 p56 p57 p58 p59 p60 p61 p62 p63 p64 p65 p66 p67 p68 p69 p70 p71 p72 p73 p74 p75 p76 p77 p78 p79 p80 p81 p82 p83 p84 p85 p86 p87 p88 p89 p90 p91 p92 p93 p94 p95 p96 p97 p98 p99 p100 p101 p102 p103 p104 p105 p106 p107 : Value) : Array Bool → Act → World → Prop where
  | mk (z0 z1 : Nat) (b0 b1 b2 b3 b4 b5 b6 b7 : Bool) (v24 v25 v26 v27 v5 v6 : Value) (w' : World) : KlSt X cb B n c A l z0 z1 b0 b1 b2 b3 b4 b5 b6 b7 v24 v25 v26 v27 v5 v6 w' → KlJ X cb B n c A l p0 p1 p2 p3 p4 p7 p8 p9 p10 p11 p12 p13 p14 p15 p16 p17 p18 p19 p20 p21 p22 p23 p28 p29 p30 p31 p32 p33 p34 p35 p36 p37 p38 p39 p40 p41 p42 p43 p44 p45 p46 p47 p48 p49 p50 p51 p52 p53 p54 p55 p56 p57 p58 p59 p60 p61 p62 p63 p64 p65 p66 p67 p68 p69 p70 p71 p72 p73 p74 p75 p76 p77 p78 p79 p80 p81 p82 p83 p84 p85 p86 p87 p88 p89 p90 p91 p92 p93 p94 p95 p96 p97 p98 p99 p100 p101 p102 p103 p104 p105 p106 p107 #[b0, b1, b2, b3, b4, b5, b6, b7] { tmps := List.toArray (p0 :: p1 :: p2 :: p3 :: p4 :: v5 :: v6 :: p7 :: p8 :: p9 :: p10 :: p11 :: p12 :: p13 :: p14 :: p15 :: p16 :: p17 :: p18 :: p19 :: p20 :: p21 :: p22 :: p23 :: v24 :: v25 :: v26 :: v27 :: p28 :: p29 :: p30 :: p31 :: p32 :: p33 :: p34 :: p35 :: p36 :: p37 :: p38 :: p39 :: p40 :: p41 :: p42 :: p43 :: p44 :: p45 :: p46 :: p47 :: p48 :: p49 :: p50 :: p51 :: p52 :: p53 :: p54 :: p55 :: p56 :: p57 :: p58 :: p59 :: p60 :: p61 :: p62 :: p63 :: p64 :: p65 :: p66 :: p67 :: p68 :: p69 :: p70 :: p71 :: p72 :: p73 :: p74 :: p75 :: p76 :: p77 :: p78 :: p79 :: p80 :: p81 :: p82 :: p83 :: p84 :: p85 :: p86 :: p87 :: p88 :: p89 :: p90 :: p91 :: p92 :: p93 :: p94 :: p95 :: p96 :: p97 :: p98 :: p99 :: p100 :: p101 :: p102 :: p103 :: p104 :: p105 :: p106 :: p107 :: []), defers := [] } w'
/-- What stands all through the loops that write a clone over. -/
structure Cl (w w2 wr : World) (M : Nat → Prop) (g5 g6 : Nat) (va vb vc : Value) (l : List Sv) : Prop where
  sh : ssK wr M [va] l
  fr : FrM w2 wr (fun b => ¬ M b)
  bel : Below w.heap.size w wr
  b5 : wr.heap[g5]? = some (.cells #[va] 24 (0, 0))
  b6 : wr.heap[g6]? = some (.cells #[vb] 24 (0, 0))
  b1 : wr.heap[w.heap.size]? = some (.cells #[vc] 24 (0, 0))
  ge : ∀ b, ¬ M b → w.heap.size ≤ b
section
variable {w w2 wr : World} {M : Nat → Prop} {g5 g6 g q : Nat} {va vb vc u : Value} {l : List Sv} {cur : Array Value} {T : TypeId}
theorem heap_other {w : World} {g q g' : Nat} {u : Value} {cur : Array Value} {T : TypeId} {o : Obj} (hg : w.heap[g]? = some (.cells cur T (0, 0))) (hT : 24 ≠ T) {x : Array Value} (h : w.heap[g']? = some (.cells x 24 (0, 0))) : (w.setCell ⟨g, q, none⟩ u).heap[g']? = some (.cells x 24 (0, 0)) :=
  (Below.heap_setCell w _ _ g' (fun e => by
    have e2 : g' = g := e
    subst e2
    rw [hg] at h; injection h with h; injection h with _ h2 _
    exact hT h2.symm)).trans h
theorem Cl.put (h : Cl w w2 wr M g5 g6 va vb vc l) (hg : wr.heap[g]? = some (.cells cur T (0, 0))) (hT : 24 ≠ T) (hn : ¬ M g) (hs : ssK (wr.setCell ⟨g, q, none⟩ u) M [va] l) : Cl w w2 (wr.setCell ⟨g, q, none⟩ u) M g5 g6 va vb vc l :=
  have hf : FrM wr (wr.setCell ⟨g, q, none⟩ u) (fun b => ¬ M b) := FrM.of_grown (grown_set wr g q u) (fun g' e => by injection e with e; subst e; exact hn)
  ⟨hs, ⟨Nat.le_trans h.fr.size hf.size, fun b hb hn => (hf.block b (Nat.lt_of_lt_of_le hb h.fr.size) hn).trans (h.fr.block b hb hn)⟩, h.bel.setCell (p := ⟨g, q, none⟩) (h.ge g hn) u, heap_other (o := .cells cur T (0, 0)) hg hT h.b5, heap_other (o := .cells cur T (0, 0)) hg hT h.b6, heap_other (o := .cells cur T (0, 0)) hg hT h.b1, h.ge⟩
end
theorem ptr_same {v : Value} {g n c g' n' c' : Nat} (h : v = .slice (some ⟨g, 0, none⟩) n c) (h2 : v = .slice (some ⟨g', 0, none⟩) n' c') : g = g' ∧ c = c' := by
  rw [h] at h2
  injection h2 with e1 _ e3
  injection e1 with e1
  injection e1 with e1 _ _
  exact ⟨e1, e3⟩
theorem sl_same {v : Value} {A : Option Addr} {g n c n' c' : Nat} (h : v = .slice A n c) (h2 : v = .slice (some ⟨g, 0, none⟩) n' c') : A = some ⟨g, 0, none⟩ ∧ c = c' := by
  rw [h] at h2
  injection h2 with e1 _ e3
  exact ⟨e1, e3⟩
set_option maxHeartbeats 16000000 in
theorem law_clones {w : World} {n c : Nat} {A : Option Addr} {l : List Sv} (hr : RdJ 2 svI w (fun b => w.heap.size ≤ b) A n l) (hcap : CapA A n c) (hm : LenAt w) (h1 : 1 < w.heap.size) :
    Calls Try.prog 3 #[.agg #[.slice A n c]] w fun e w' => e = .returned (.bool true) ∧ Below w.heap.size w w' := by
  have HR := Lib.hid hr
  have HC := Lib.hid hcap
  obtain ⟨W, HW⟩ : ∃ W, Hid (W = w.alloc (.cells #[.slice A n c] 24)) := ⟨_, Lib.hid rfl⟩
  have hbW : Below w.heap.size w W := by rw [HW.out]; exact (Below.refl _ w).alloc (Nat.le_refl _) _
  have H0 : Hid (W.heap[w.heap.size]? = some (.cells #[.slice A n c] 24 (0, 0))) := Lib.hid (by rw [HW.out]; exact heap_new w _)
  have HLW := Lib.hid (LenAt.below hm h1 hbW)
  have HBW := Lib.hid hbW
  have hsz := hbW.size
  clear hr hcap hm h1 hbW
  obtain ⟨x0, _⟩ := row1f H0.out
  have HAN := Lib.hid (canchor_any W HLW.out.1 HLW.out.2)
  go_enter Try.func3, Try.ntmps3
  go_upto_region 1 with fail
  change Code.wp _ _ _ _ (w.alloc (.cells #[.slice A n c] 24))
  rw [← HW.out]
  go_wp2_with fail
  refine HAN.out.mono ?_
  rintro e w1 ⟨rfl, hb⟩
  have HB1 : Hid (Below w.heap.size w w1) := Lib.hid (HBW.out.trans (hb.mono hsz))
  have HL1 := Lib.hid (LenAt.below HLW.out.1 HLW.out.2 hb)
  have K1 : Hid (w1.heap[w.heap.size]? = _) := Lib.hid ((hb.block w.heap.size (heapE_lt H0.out)).trans H0.out)
  clear hb x0 HAN
  obtain ⟨x0, _⟩ := row1f K1.out
  have HMC := Lib.hid (catM_any (c := c) (RdJ.below sv_turns HR.out HB1.out) HB1.out.size)
  go_wp2_with fail
  refine HMC.out.mono ?_
  rintro e z1 ⟨A', n', c', ok, rfl, hb, hit⟩
  obtain ⟨Y, HY⟩ : ∃ Y, Hid (Y = z1.alloc (.cells #[.slice A' n' c'] 28)) := ⟨_, Lib.hid rfl⟩
  have hb2 : Below z1.heap.size z1 Y := by rw [HY.out]; exact (Below.refl _ z1).alloc (Nat.le_refl _) _
  have hb12 : Below w1.heap.size w1 Y := hb.trans (hb2.mono hb.size)
  have HB2 : Hid (Below w.heap.size w Y) := Lib.hid (HB1.out.trans (hb12.mono HB1.out.size))
  have HL2 := Lib.hid (LenAt.below HL1.out.1 HL1.out.2 hb12)
  have KY : Hid (Y.heap[w.heap.size]? = some (.cells #[.slice A n c] 24 (0, 0))) := Lib.hid ((hb12.block w.heap.size (heapE_lt K1.out)).trans K1.out)
  have HIT := Lib.hid hit
  clear hb hb2 hb12 hit x0 HMC
  go_upto_region 4 with fail
  change Code.wp _ _ _ _ (z1.alloc (.cells #[.slice A' n' c'] 28))
  rw [← HY.out]
  cases ok with
  | false =>
    go_wp2_with fail
    refine bodyPost_ret (results_tmp rfl _ _ _) rfl ⟨rfl, HB2.out⟩
  | true =>
  obtain ⟨hsm, _⟩ := HIT.out rfl
  have HPY : CatAt Y w.heap.size A n c l := ⟨RdJ.below sv_turns HR.out HB2.out, HC.out, HB2.out.size, hsm, HL2.out.1, HL2.out.2⟩
  have HSM := Lib.hid hsm
  have HN : Hid (l.length = n) := Lib.hid HPY.rd.1
  have hn16 := HPY.n16
  have HPY := Lib.hid HPY
  go_upto_region 6 with fail
  refine wp_region_inv (by kernel_rfl) (I := KlJ Y w.heap.size w.heap.size n c A l _ _ _ _ _ _ _ _ _ _ _ _ _ _ _ _ _ _ _ _ _ _ _ _ _ _ _ _ _ _ _ _ _ _ _ _ _ _ _ _ _ _ _ _ _ _ _ _ _ _ _ _ _ _ _ _ _ _ _ _ _ _ _ _ _ _ _ _ _ _ _ _ _ _ _ _ _ _ _ _ _ _ _ _ _ _ _ _ _ _ _ _ _ _ _ _ _ _ _ _ _ _) (.mk 0 0 false false false false false false false false _ _ _ _ _ _ _ ⟨(Below.refl _ Y).drew, nofun, nofun, nofun, nofun, nofun, nofun, nofun, nofun, nofun, nofun, nofun, nofun, nofun, nofun, nofun, nofun, nofun, nofun⟩) ?step ?fin
  case step =>
    rintro lq a' w' ix ⟨z0, z1, b0, b1, b2, b3, b4, b5, b6, b7, v24, v25, v26, v27, v5, v6, _, HT⟩ hi
    obtain ⟨hi_, hib⟩ := ready_lt hi
    have HTH := Lib.hid HT
    match ix, hi_, hi, hib with
    | 0, _, hi, hib =>
      obtain rfl : b0 = false := by simpa using hib
      have hbel := HT.bel
      have HBE := Lib.hid hbel
      obtain ⟨x0, _⟩ := row1f ((hbel.block w.heap.size (heapE_lt KY.out)).trans KY.out)
      clear HT hbel
      refine wpOp_one rfl rfl (fun K hK => ?_)
      go_simp
      exact hK.out _ _ (.mk z0 z1 true b1 b2 b3 b4 b5 b6 b7 _ _ _ _ _ _ _ { HTH.out with h0 := fun _ => rfl, o1_0 := fun _ => rfl })
    | 1, _, hi, hib =>
      obtain rfl : b1 = false := by simpa using hib
      have hbel := HT.bel
      have HBE := Lib.hid hbel
      have d0 : b0 = true := ready_dep hi rfl 0 (by kernel_rfl)
      have hd0 := HT.h0 d0
      subst hd0
      have HC1 := Lib.hid (cloneCat_any (HPY.out.below hbel))
      clear HT hbel
      refine wpOp_one rfl rfl (fun K hK => ?_)
      go_simp
      refine HC1.out.mono ?_
      rintro e w2 ⟨v, base, rfl, hbase, hown, hb⟩
      obtain rfl : b6 = false := by
        cases hbl : b6 with
        | false => rfl
        | true => have h := HTH.out.o6_1 hbl; cases h
      obtain rfl : b7 = false := by
        cases hbl : b7 with
        | false => rfl
        | true => have h := HTH.out.o7_6 hbl; cases h
      obtain rfl : b3 = false := by
        cases hbl : b3 with
        | false => rfl
        | true => have h := HTH.out.o3_1 hbl; cases h
      have hit := hown.itemO (M := fun b => b < min base w2.heap.size ∨ w2.heap.size ≤ b) svO_turns (fun b hb => hb.imp (fun h => Nat.lt_of_lt_of_le h (Nat.min_le_left _ _)) id)
      exact hK.out _ _ (.mk (min base w2.heap.size) w2.heap.size b0 true b2 false b4 b5 false false _ _ _ _ _ _ _ { HTH.out with bel := HBE.out.trans (hb.mono HBE.out.size), h1 := fun _ => ⟨v, rfl, hit, Nat.le_min.2 ⟨Nat.le_trans HBE.out.size hbase, Nat.le_trans HBE.out.size hb.size⟩, Nat.min_le_right _ _, Nat.le_refl _⟩, h3 := fun h => (by cases h), h6 := fun h => (by cases h), h7 := fun h => (by cases h), h4 := fun h hf => (by obtain ⟨g, e, r, k⟩ := HTH.out.h4 h hf; exact ⟨g, e, ((hb).block g (heapE_lt r)).trans r, k⟩), h5 := fun h hf => (by obtain ⟨g, e, r, k⟩ := HTH.out.h5 h hf; exact ⟨g, e, ((hb).block g (heapE_lt r)).trans r, k⟩), o1_0 := fun _ => d0, o3_1 := fun _ => rfl, o6_1 := fun _ => rfl })
    | 2, _, hi, hib =>
      obtain rfl : b2 = false := by simpa using hib
      have hbel := HT.bel
      have HBE := Lib.hid hbel
      obtain ⟨x0, _⟩ := row1f ((hbel.block w.heap.size (heapE_lt KY.out)).trans KY.out)
      clear HT hbel
      refine wpOp_one rfl rfl (fun K hK => ?_)
      go_simp
      exact hK.out _ _ (.mk z0 z1 b0 b1 true b3 b4 b5 b6 b7 _ _ _ _ _ _ _ { HTH.out with h2 := fun _ => rfl, o3_2 := fun _ => rfl })
    | 3, _, hi, hib =>
      obtain rfl : b3 = false := by simpa using hib
      have hbel := HT.bel
      have HBE := Lib.hid hbel
      have d2 : b2 = true := ready_dep hi rfl 2 (by kernel_rfl)
      have d1 : b1 = true := ready_dep hi rfl 1 (by kernel_rfl)
      have hd2 := HT.h2 d2
      subst hd2
      obtain ⟨va, e25, hoa, r1, r2, r3⟩ := HT.h1 d1
      subst e25
      have HOA := Lib.hid hoa
      have HR3 := Lib.hid r3
      clear hoa r3
      have HC1 := Lib.hid (cloneCat_any (HPY.out.below hbel))
      clear HT hbel
      refine wpOp_one rfl rfl (fun K hK => ?_)
      go_simp
      refine HC1.out.mono ?_
      rintro e w2 ⟨v, base, rfl, hbase, hown, hb⟩
      obtain rfl : b6 = false := by
        cases hbl : b6 with
        | false => rfl
        | true => have h := HTH.out.o6_3 hbl; cases h
      obtain rfl : b7 = false := by
        cases hbl : b7 with
        | false => rfl
        | true => have h := HTH.out.o7_3 hbl; cases h
      have hit := hown.itemO (M := fun b => b < z1) svO_turns (fun b hb => .inl (by have h1 := HR3.out; have h2 : b < z1 := hb; omega))
      exact hK.out _ _ (.mk z0 z1 b0 b1 b2 true b4 b5 false false _ _ _ _ _ _ _ { HTH.out with bel := HBE.out.trans (hb.mono HBE.out.size), h3 := fun _ => ⟨v, rfl, hit⟩, h6 := fun h => (by cases h), h7 := fun h => (by cases h), h1 := fun h => (by obtain ⟨va, e, o, r1, r2, r3⟩ := HTH.out.h1 h; exact ⟨va, e, (OwI.turns svO_turns).kept o hb, r1, r2, Nat.le_trans r3 (hb).size⟩), h4 := fun h hf => (by obtain ⟨g, e, r, k⟩ := HTH.out.h4 h hf; exact ⟨g, e, ((hb).block g (heapE_lt r)).trans r, k⟩), h5 := fun h hf => (by obtain ⟨g, e, r, k⟩ := HTH.out.h5 h hf; exact ⟨g, e, ((hb).block g (heapE_lt r)).trans r, k⟩), o3_2 := fun _ => d2, o3_1 := fun _ => d1, o6_3 := fun _ => rfl, o7_3 := fun _ => rfl })
    | 4, _, hi, hib =>
      obtain rfl : b4 = false := by simpa using hib
      have hbel := HT.bel
      have HBE := Lib.hid hbel
      obtain rfl : b6 = false := by
        cases hbl : b6 with
        | false => rfl
        | true => have h := HT.o6_4 hbl; cases h
      obtain rfl : b7 = false := by
        cases hbl : b7 with
        | false => rfl
        | true => have h := HT.o7_6 hbl; cases h
      clear HT hbel
      refine wpOp_one rfl rfl (fun K hK => ?_)
      go_simp
      have hba : Below w'.heap.size w' (w'.alloc (.cells #[.slice none 0 0] 24)) := (Below.refl _ w').alloc (Nat.le_refl _) _
      have hne : ∀ g, (Value.pointer (some ⟨w'.heap.size, 0, none⟩)) = .pointer (some ⟨g, 0, none⟩) → b5 = true → v6 = .pointer (some ⟨g, 0, none⟩) → False := by
        intro g e1 ho e2
        injection e1 with e1
        injection e1 with e1
        injection e1 with e1 _
        subst e1
        obtain ⟨g2, e3, r3, _⟩ := HTH.out.h5 ho rfl
        rw [e3] at e2
        injection e2 with e2
        injection e2 with e2
        injection e2 with e2 _
        subst e2
        exact absurd (heapE_lt r3) (Nat.lt_irrefl _)
      exact hK.out _ _ (.mk z0 z1 b0 b1 b2 b3 true b5 false false _ _ _ _ _ _ _ { HTH.out with bel := HBE.out.trans (hba.mono HBE.out.size), h4 := fun _ _ => ⟨w'.heap.size, rfl, heap_new w' _, HBE.out.size⟩, h6 := fun h => (by cases h), h7 := fun h => (by cases h), h1 := fun h => (by obtain ⟨va, e, o, r1, r2, r3⟩ := HTH.out.h1 h; exact ⟨va, e, (OwI.turns svO_turns).kept o hba, r1, r2, Nat.le_trans r3 (hba).size⟩), h3 := fun h => (by obtain ⟨vb, e, o⟩ := HTH.out.h3 h; exact ⟨vb, e, (OwI.turns svO_turns).kept o hba⟩), h5 := fun h hf => (by obtain ⟨g, e, r, k⟩ := HTH.out.h5 h hf; exact ⟨g, e, ((hba).block g (heapE_lt r)).trans r, k⟩), ne := fun _ ho g e1 e2 => hne g e1 ho e2, o6_4 := fun _ => rfl })
    | 5, _, hi, hib =>
      obtain rfl : b5 = false := by simpa using hib
      have hbel := HT.bel
      have HBE := Lib.hid hbel
      obtain rfl : b7 = false := by
        cases hbl : b7 with
        | false => rfl
        | true => have h := HT.o7_5 hbl; cases h
      clear HT hbel
      refine wpOp_one rfl rfl (fun K hK => ?_)
      go_simp
      have hba : Below w'.heap.size w' (w'.alloc (.cells #[.slice none 0 0] 24)) := (Below.refl _ w').alloc (Nat.le_refl _) _
      have hne : ∀ g, (Value.pointer (some ⟨w'.heap.size, 0, none⟩)) = .pointer (some ⟨g, 0, none⟩) → b4 = true → v5 = .pointer (some ⟨g, 0, none⟩) → False := by
        intro g e2 ho e1
        injection e2 with e2
        injection e2 with e2
        injection e2 with e2 _
        subst e2
        cases h6 : b6 with
        | false =>
          obtain ⟨g2, e3, r3, _⟩ := HTH.out.h4 ho h6
          rw [e3] at e1
          injection e1 with e1
          injection e1 with e1
          injection e1 with e1 _
          subst e1
          exact absurd (heapE_lt r3) (Nat.lt_irrefl _)
        | true =>
          obtain ⟨g2, _, e3, _, r3, _⟩ := HTH.out.h6 h6
          rw [e3] at e1
          injection e1 with e1
          injection e1 with e1
          injection e1 with e1 _
          subst e1
          exact absurd (heapE_lt r3) (Nat.lt_irrefl _)
      exact hK.out _ _ (.mk z0 z1 b0 b1 b2 b3 b4 true b6 false _ _ _ _ _ _ _ { HTH.out with bel := HBE.out.trans (hba.mono HBE.out.size), h5 := fun _ _ => ⟨w'.heap.size, rfl, heap_new w' _, HBE.out.size⟩, h7 := fun h => (by cases h), h1 := fun h => (by obtain ⟨va, e, o, r1, r2, r3⟩ := HTH.out.h1 h; exact ⟨va, e, (OwI.turns svO_turns).kept o hba, r1, r2, Nat.le_trans r3 (hba).size⟩), h3 := fun h => (by obtain ⟨vb, e, o⟩ := HTH.out.h3 h; exact ⟨vb, e, (OwI.turns svO_turns).kept o hba⟩), h4 := fun h hf => (by obtain ⟨g, e, r, k⟩ := HTH.out.h4 h hf; exact ⟨g, e, ((hba).block g (heapE_lt r)).trans r, k⟩), h6 := fun h => (by obtain ⟨g, va, e, e2, r, k⟩ := HTH.out.h6 h; exact ⟨g, va, e, e2, ((hba).block g (heapE_lt r)).trans r, k⟩), ne := fun ho _ g e1 e2 => hne g e2 ho e1, o7_5 := fun _ => rfl })
    | 6, _, hi, hib =>
      obtain rfl : b6 = false := by simpa using hib
      have hbel := HT.bel
      have HBE := Lib.hid hbel
      have d4 : b4 = true := ready_dep hi rfl 4 (by kernel_rfl)
      have d1 : b1 = true := ready_dep hi rfl 1 (by kernel_rfl)
      have d3 : b3 = true := ready_dep hi rfl 3 (by kernel_rfl)
      obtain rfl : b7 = false := by
        cases hbl : b7 with
        | false => rfl
        | true => have h := HT.o7_6 hbl; cases h
      obtain ⟨va, e25, hoa, r1, r2, r3⟩ := HT.h1 d1
      subst e25
      obtain ⟨g, e5, hg, hgX⟩ := HT.h4 d4 rfl
      subst e5
      obtain ⟨A1, c1, hva⟩ := OwI.shape hoa
      subst hva
      obtain ⟨x0, x1⟩ := row1f hg
      have HG := Lib.hid hg
      clear HT hbel hg
      clear hoa r3
      refine wpOp_one rfl rfl (fun K hK => ?_)
      go_simp
      have hfr : FrM w' (w'.setCell ⟨g, 0, none⟩ (.slice A1 l.length c1)) (fun b => b = g) := FrM.of_grown (grown_set w' g 0 (.slice A1 l.length c1)) (fun g' e => by injection e with e; exact e.symm)
      have hnew : (w'.setCell ⟨g, 0, none⟩ (.slice A1 l.length c1)).heap[g]? = some (.cells #[(.slice A1 l.length c1)] 24 (0, 0)) := heap_setCell_same w' g 0 _ _ (.slice A1 l.length c1) HG.out
      exact hK.out _ _ (.mk z0 z1 b0 b1 b2 b3 b4 b5 true false _ _ _ _ _ _ _ { HTH.out with bel := HBE.out.setCell (p := ⟨g, 0, none⟩) hgX _, h1 := fun h => (by obtain ⟨va, e, o, r1, r2, r3⟩ := HTH.out.h1 h; exact ⟨va, e, OwI.miss HG.out (by decide) (fun h => svO_miss HG.out h) o, r1, r2, Nat.le_trans r3 hfr.size⟩), h3 := fun h => (by obtain ⟨vb, e, o⟩ := HTH.out.h3 h; exact ⟨vb, e, OwI.miss HG.out (by decide) (fun h => svO_miss HG.out h) o⟩), h4 := fun _ h => (by cases h), h5 := fun h hf => (by obtain ⟨g2, e, r, k⟩ := HTH.out.h5 h hf; exact ⟨g2, e, (hfr.block g2 (heapE_lt r) (fun e2 => HTH.out.ne d4 h g rfl (by rw [e, e2]))).trans r, k⟩), h6 := fun _ => ⟨g, _, rfl, rfl, hnew, hgX⟩, h7 := fun h => (by cases h), o6_4 := fun _ => d4, o6_1 := fun _ => d1, o6_3 := fun _ => d3, o7_6 := fun _ => rfl })
    | 7, _, hi, hib =>
      obtain rfl : b7 = false := by simpa using hib
      have hbel := HT.bel
      have HBE := Lib.hid hbel
      have d5 : b5 = true := ready_dep hi rfl 5 (by kernel_rfl)
      have d3 : b3 = true := ready_dep hi rfl 3 (by kernel_rfl)
      have d6 : b6 = true := ready_dep hi rfl 6 (by kernel_rfl)
      obtain ⟨vb, e27, hob⟩ := HT.h3 d3
      subst e27
      obtain ⟨g, e6, hg, hgX⟩ := HT.h5 d5 rfl
      subst e6
      obtain ⟨A1, c1, hvb⟩ := OwI.shape hob
      subst hvb
      obtain ⟨x0, x1⟩ := row1f hg
      have HG := Lib.hid hg
      clear HT hbel hg
      refine wpOp_one rfl rfl (fun K hK => ?_)
      go_simp
      have hfr : FrM w' (w'.setCell ⟨g, 0, none⟩ (.slice A1 l.length c1)) (fun b => b = g) := FrM.of_grown (grown_set w' g 0 (.slice A1 l.length c1)) (fun g' e => by injection e with e; exact e.symm)
      have hnew : (w'.setCell ⟨g, 0, none⟩ (.slice A1 l.length c1)).heap[g]? = some (.cells #[(.slice A1 l.length c1)] 24 (0, 0)) := heap_setCell_same w' g 0 _ _ (.slice A1 l.length c1) HG.out
      exact hK.out _ _ (.mk z0 z1 b0 b1 b2 b3 b4 b5 b6 true _ _ _ _ _ _ _ { HTH.out with bel := HBE.out.setCell (p := ⟨g, 0, none⟩) hgX _, h1 := fun h => (by obtain ⟨va, e, o, r1, r2, r3⟩ := HTH.out.h1 h; exact ⟨va, e, OwI.miss HG.out (by decide) (fun h => svO_miss HG.out h) o, r1, r2, Nat.le_trans r3 hfr.size⟩), h3 := fun h => (by obtain ⟨vb, e, o⟩ := HTH.out.h3 h; exact ⟨vb, e, OwI.miss HG.out (by decide) (fun h => svO_miss HG.out h) o⟩), h4 := fun h hf => (by rw [d6] at hf; cases hf), h5 := fun _ h => (by cases h), h6 := fun h => (by obtain ⟨g2, va, e, e2, r, k⟩ := HTH.out.h6 h; exact ⟨g2, va, e, e2, (hfr.block g2 (heapE_lt r) (fun e3 => HTH.out.ne (HTH.out.o6_4 h) d5 g (by rw [e, e3]) rfl)).trans r, k⟩), h7 := fun _ => ⟨g, _, rfl, rfl, hnew, hgX⟩, o7_5 := fun _ => d5, o7_3 := fun _ => d3, o7_6 := fun _ => d6 })
  case fin =>
    rintro lq a' w' ⟨z0, z1', b0, b1, b2, b3, b4, b5, b6, b7, v24, v25, v26, v27, v5, v6, _, HT⟩ hr
    obtain rfl : b0 = true := by
      cases b0 with
      | true => rfl
      | false => exact (ready_in 0 rfl rfl (by simp [Region.binds]) hr).elim
    obtain rfl : b1 = true := by
      cases b1 with
      | true => rfl
      | false => exact (ready_in 1 rfl rfl (by simp [Region.binds]) hr).elim
    obtain rfl : b2 = true := by
      cases b2 with
      | true => rfl
      | false => exact (ready_in 2 rfl rfl (by simp [Region.binds]) hr).elim
    obtain rfl : b3 = true := by
      cases b3 with
      | true => rfl
      | false => exact (ready_in 3 rfl rfl (by simp [Region.binds]) hr).elim
    obtain rfl : b4 = true := by
      cases b4 with
      | true => rfl
      | false => exact (ready_in 4 rfl rfl (by simp [Region.binds]) hr).elim
    obtain rfl : b5 = true := by
      cases b5 with
      | true => rfl
      | false => exact (ready_in 5 rfl rfl (by simp [Region.binds]) hr).elim
    obtain rfl : b6 = true := by
      cases b6 with
      | true => rfl
      | false => exact (ready_in 6 rfl rfl (by simp [Region.binds]) hr).elim
    obtain rfl : b7 = true := by
      cases b7 with
      | true => rfl
      | false => exact (ready_in 7 rfl rfl (by simp [Region.binds]) hr).elim
    obtain ⟨va, rfl, hoa, hz0, hz01, hz1⟩ := HT.h1 rfl
    obtain ⟨vb, rfl, hob⟩ := HT.h3 rfl
    obtain ⟨g5, va', rfl, e25, hg5, hg5X⟩ := HT.h6 rfl
    injection e25 with e25
    have e25 : va = va' := by simpa using e25
    subst e25
    obtain ⟨g6, vb', rfl, e27, hg6, hg6X⟩ := HT.h7 rfl
    have e27 : vb = vb' := by injection e27 with e27; simpa using e27
    subst e27
    have HBK := Lib.hid HT.bel
    have hne : g5 ≠ g6 := fun e => HT.ne rfl rfl g5 rfl (by rw [e])
    obtain ⟨A5, c5, hva⟩ := OwI.shape hoa
    subst hva
    obtain ⟨A6, c6, hvb⟩ := OwI.shape hob
    subst hvb
    have HZ := Lib.hid (And.intro hz0 (And.intro hz01 hz1))
    have HPK := Lib.hid (HPY.out.below HBK.out)
    have HBW2 : Hid (Below w.heap.size w w') := Lib.hid (HB2.out.trans (HBK.out.mono HB2.out.size))
    have K2 : Hid (w'.heap[w.heap.size]? = _) := Lib.hid ((HBK.out.block w.heap.size (heapE_lt KY.out)).trans KY.out)
    have HOA := Lib.hid hoa
    have HOB := Lib.hid hob
    have G5 := Lib.hid hg5
    have G6 := Lib.hid hg6
    rw [HN.out] at HOA HOB G5 G6
    have HSA := (OwI.sl (fun h => svO_svI h) HOA.out)
    have HSB := Lib.hid (OwI.sl (fun h => svO_svI h) HOB.out)
    have HDA := Lib.hid ((ss_turns.go HSA (FrM.refl w' _) (M' := fun b => w'.heap.size ≤ b) (fun b hb => .inr hb)).rd)
    obtain ⟨V5, HV5⟩ : ∃ V5 : Value, Hid (V5 = .slice A5 n c5) := ⟨_, Lib.hid rfl⟩
    obtain ⟨M, HM⟩ : ∃ M : Nat → Prop, Hid ((fun b => b < z0 ∨ z1' ≤ b) = M) := ⟨_, Lib.hid rfl⟩
    have HMG : Hid (∀ b, ¬ M b → z0 ≤ b ∧ b < z1') := Lib.hid (fun b hb => by rw [← HM.out] at hb; omega)
    have HSH : Hid (ssK w' M [V5] l) := Lib.hid (ssO.k (by rw [← HM.out, HV5.out]; exact HOA.out))
    have HCL : Hid (Cl w w' w' M g5 g6 V5 (.slice A6 n c6) (.slice A n c) l) := Lib.hid ⟨HSH.out, FrM.refl _ _, HBW2.out, by rw [HV5.out]; exact G5.out, G6.out, K2.out, fun b hb => by have := HMG.out b hb; have := HZ.out.1; have := HB2.out.size; omega⟩
    rw [HN.out]
    clear HSA hoa hob hg5 hg6 hz0 hz01 hz1 HT HSH HIT
    have HAL := Lib.hid (alike_yes (c1 := c5) (c2 := c) HDA.out.2 (HPK.out.rd.turn sv_turns (FrM.refl w' _) (M' := fun b => w'.heap.size ≤ b) (fun b hb => .inr hb)) (Nat.le_refl _) HSM.out)
    obtain ⟨x5, _⟩ := row1f G5.out
    obtain ⟨x1, _⟩ := row1f K2.out
    go_wp2_with fail
    refine HAL.out.mono ?_
    rintro e w3 ⟨rfl, hb3⟩
    have HC3 : Hid (Cl w w' w3 M g5 g6 V5 (.slice A6 n c6) (.slice A n c) l) := Lib.hid ⟨ssK_turns.kept HCL.out.sh hb3, ⟨hb3.size, fun b hb _ => hb3.block b hb⟩, HBW2.out.trans (hb3.mono HBW2.out.size), by rw [HV5.out]; exact (hb3.block g5 (heapE_lt G5.out)).trans G5.out, (hb3.block g6 (heapE_lt G6.out)).trans G6.out, (hb3.block w.heap.size (heapE_lt K2.out)).trans K2.out, HCL.out.ge⟩
    clear x5 x1 hb3 HAL HCL
    obtain ⟨x5, _⟩ := row1f HC3.out.b5
    rw [HV5.out] at x5
    go_wp2_with fail
    clear x5
    go_loopw [7, 8, 9, 10, 11, 13, 14, 35] (fun _ _ _ _ _ _ _ v wr => ∃ i : Nat, i ≤ n ∧ v = .int .i64 (i : Int) ∧ Hid (Cl w w' wr M g5 g6 V5 (.slice A6 n c6) (.slice A n c) l)) (fun _ _ _ _ _ _ _ v _ => n - (intOf v).toNat)
    case atStart => exact ⟨0, Nat.zero_le _, rfl, HC3⟩
    case round =>
      obtain ⟨wi, hwi⟩ : ∃ x, x = wr := ⟨_, rfl⟩
      subst hwi
      obtain ⟨i, hile, rfl, HCwi⟩ := hrel
      by_cases hin : i < n
      · have hdi : decide ((i : Int) < (n : Int)) = true := by simp; omega
        have hii : (i : Int) < (n : Int) := by omega
        have hi0 : (0 : Int) ≤ (i : Int) := by omega
        have haddi : IntKind.i64.wrap ((i : Int) + 1) = ((i + 1 : Nat) : Int) := by rw [IntWalk.i64_in _ (by omega)]; omega
        obtain ⟨gS, cS, curS, smS, yr0, hvS, hMS, hgS, hgcS, _, s1, _, HRI0⟩ := HCwi.out.sh.parts (j := i) (by rw [HN.out]; exact hin)
        have HVS := Lib.hid hvS
        obtain ⟨rls, HRLS⟩ : ∃ y, Hid ((l.getD i default).2 = y) := ⟨_, Lib.hid rfl⟩
        rw [HRLS.out] at HRI0
        obtain ⟨nr, HLR⟩ : ∃ y, Hid (rls.length = y) := ⟨_, Lib.hid rfl⟩
        obtain ⟨AR, cR0, hyR⟩ := OwI.shape HRI0
        rw [HLR.out] at hyR
        subst hyR
        have hsi := HSM.out.2 _ (getD_mem (l := l) (j := i) (by rw [HN.out]; exact hin))
        have HSJ : Hid (∀ r ∈ rls, SmRl r) := Lib.hid (by rw [← HRLS.out]; exact hsi.2.2)
        have hr16 : nr ≤ 16 := by rw [← HLR.out, ← HRLS.out]; exact hsi.2.1
        obtain ⟨x5, _⟩ := row1f HCwi.out.b5
        rw [hvS, HN.out] at x5
        clear hvS hgcS hMS HRI0 hsi
        go_wp2_with fail
        clear s1 x5
        go_loopw [9, 10, 11, 13, 14, 47] (fun _ _ _ _ _ v wr => ∃ k : Nat, k ≤ nr ∧ v = .int .i64 (k : Int) ∧ Hid (Cl w w' wr M g5 g6 V5 (.slice A6 n c6) (.slice A n c) l)) (fun _ _ _ _ _ v _ => nr - (intOf v).toNat)
        case atStart => exact ⟨0, Nat.zero_le _, rfl, HCwi⟩
        case round =>
          obtain ⟨wk, hwk⟩ : ∃ x, x = wr := ⟨_, rfl⟩
          subst hwk
          obtain ⟨k, hkle, rfl, HCwk⟩ := hrel
          by_cases hkn : k < nr
          · have hdk : decide ((k : Int) < (nr : Int)) = true := by simp; omega
            have hki : (k : Int) < (nr : Int) := by omega
            have hk0 : (0 : Int) ≤ (k : Int) := by omega
            have haddk : IntKind.i64.wrap ((k : Int) + 1) = ((k + 1 : Nat) : Int) := by rw [IntWalk.i64_in _ (by omega)]; omega
            obtain ⟨gS2, cS2, curS2, smS2, yr, hvS2, hMS2, hgS2, hgcS2, _, s1, _, HRI⟩ := HCwk.out.sh.parts (j := i) (by rw [HN.out]; exact hin)
            obtain ⟨e1, e2⟩ := ptr_same hvS2 HVS.out
            subst e1 e2
            rw [HRLS.out] at HRI
            obtain ⟨gR, cR, curR, lvR, yN, hvR, hMR, hgR, hgcR, _, r5, _, HPN⟩ := HRI.parts (j := k) (by rw [HLR.out]; exact hkn)
            have HVR := Lib.hid hvR
            rw [hvR, HLR.out] at s1
            obtain ⟨nds, HND⟩ : ∃ y, Hid ((rls.getD k default).2.2 = y) := ⟨_, Lib.hid rfl⟩
            rw [HND.out] at HPN
            obtain ⟨nm, HLN⟩ : ∃ y, Hid (nds.length = y) := ⟨_, Lib.hid rfl⟩
            obtain ⟨AN, cN, hyN⟩ := OwI.shape HPN
            rw [HLN.out] at hyN
            subst hyN
            have hsk := HSJ.out _ (getD_mem (l := rls) (j := k) (by rw [HLR.out]; exact hkn))
            have HSN : Hid (∀ p ∈ nds, SmR p.2) := Lib.hid (by rw [← HND.out]; exact hsk.2.2)
            have hm12 : nm ≤ 12 := by rw [← HLN.out, ← HND.out]; exact hsk.1
            have HRI := Lib.hid HRI
            clear hgcS2 hMS2 hgcR hMR HPN hsk hvR hvS2
            go_wp2_with fail
            clear s1 r5
            go_loopw [11, 13, 14, 61] (fun _ _ _ v wr => ∃ m : Nat, m ≤ nm ∧ v = .int .i64 (m : Int) ∧ Hid (Cl w w' wr M g5 g6 V5 (.slice A6 n c6) (.slice A n c) l) ∧ Hid (rsK wr M [yr] rls)) (fun _ _ _ v _ => nm - (intOf v).toNat)
            case atStart => exact ⟨0, Nat.zero_le _, rfl, HCwk, HRI⟩
            case round =>
              obtain ⟨wn, hwn⟩ : ∃ x, x = wr := ⟨_, rfl⟩
              subst hwn
              obtain ⟨m, hmle, rfl, HCwn, HRIwn⟩ := hrel
              by_cases hmn : m < nm
              · have hdm : decide ((m : Int) < (nm : Int)) = true := by simp; omega
                have hmi : (m : Int) < (nm : Int) := by omega
                have hm0 : (0 : Int) ≤ (m : Int) := by omega
                have haddm : IntKind.i64.wrap ((m : Int) + 1) = ((m + 1 : Nat) : Int) := by rw [IntWalk.i64_in _ (by omega)]; omega
                obtain ⟨gR, cR, curR, lvR, yN, hvR, hMR, hgR, hgcR, _, r5, _, HPN⟩ := HRIwn.out.parts (j := k) (by rw [HLR.out]; exact hkn)
                obtain ⟨e1, e2⟩ := ptr_same hvR HVR.out
                subst e1 e2
                rw [HND.out] at HPN
                obtain ⟨gN, cN, curN, svN, yg, hvN, hMN, hgN, hgcN, n0, n1, nf, HGI⟩ := HPN.parts (j := m) (by rw [HLN.out]; exact hmn)
                rw [hvN, HLN.out] at r5
                obtain ⟨rg, HRG⟩ : ∃ y, Hid ((nds.getD m default).2 = y) := ⟨_, Lib.hid rfl⟩
                rw [HRG.out] at HGI
                obtain ⟨ng, HLG⟩ : ∃ y, Hid (rg.length = y) := ⟨_, Lib.hid rfl⟩
                obtain ⟨Ag, cg, hyg⟩ := OwI.shape HGI
                rw [HLG.out] at hyg
                have HYG := Lib.hid hyg
                rw [hyg] at n1
                have HSR : Hid (SmR rg) := Lib.hid (by rw [← HRG.out]; exact HSN.out _ (getD_mem (by rw [HLN.out]; exact hmn)))
                have hg12 : ng ≤ 12 := by rw [← HLG.out]; exact HSR.out.1
                have HGI := Lib.hid HGI
                clear hgcR hMR hgcN hMN n0 nf hyg hvR
                go_wp2_with fail
                clear r5 n1
                go_loopw [13, 14, 74] (fun _ _ v wr => ∃ q : Nat, q ≤ ng ∧ v = .int .i64 (q : Int) ∧ Hid (Cl w w' wr M g5 g6 V5 (.slice A6 n c6) (.slice A n c) l) ∧ Hid (rsK wr M [yr] rls) ∧ Hid (rgK wr M [yg] rg)) (fun _ _ v _ => ng - (intOf v).toNat)
                case atStart => exact ⟨0, Nat.zero_le _, rfl, HCwn, HRIwn, HGI⟩
                case round =>
                  obtain ⟨wq, hwq⟩ : ∃ x, x = wr := ⟨_, rfl⟩
                  subst hwq
                  obtain ⟨q, hqle, rfl, HCwq, HRIwq, HGIwq⟩ := hrel
                  by_cases hqn : q < ng
                  · have hdq : decide ((q : Int) < (ng : Int)) = true := by simp; omega
                    have hqi : (q : Int) < (ng : Int) := by omega
                    have hq0 : (0 : Int) ≤ (q : Int) := by omega
                    have haddq : IntKind.i64.wrap ((q : Int) + 1) = ((q + 1 : Nat) : Int) := by rw [IntWalk.i64_in _ (by omega)]; omega
                    obtain ⟨gl, cl, cur, yl, hvl, hMg, hgl, hgc, q0, HLI⟩ := HGIwq.out.parts (j := q) (by rw [HLG.out]; exact hqn)
                    rw [HLG.out] at hvl
                    obtain ⟨e1, e3⟩ := sl_same HYG.out hvl
                    subst e1 e3
                    obtain ⟨cs, HCS⟩ : ∃ y, Hid (rg.getD q default = y) := ⟨_, Lib.hid rfl⟩
                    rw [HCS.out] at HLI
                    obtain ⟨nx, HLX⟩ : ∃ y, Hid (cs.length = y) := ⟨_, Lib.hid rfl⟩
                    obtain ⟨Al, cl2, hyl⟩ := OwI.shape HLI
                    rw [HLX.out] at hyl
                    have HYL := Lib.hid hyl
                    rw [hyl] at q0
                    have hx12 : nx ≤ 12 := by rw [← HLX.out, ← HCS.out]; exact (HSR.out.2 _ (getD_mem (by rw [HLG.out]; exact hqn))).1
                    have HLI := Lib.hid HLI
                    clear hgc hMg hyl hvl
                    go_wp2_with fail
                    clear q0
                    go_loopw [14, 80] (fun _ v wr => ∃ x : Nat, x ≤ nx ∧ v = .int .i64 (x : Int) ∧ Hid (Cl w w' wr M g5 g6 V5 (.slice A6 n c6) (.slice A n c) l) ∧ Hid (rsK wr M [yr] rls) ∧ Hid (rgK wr M [yg] rg) ∧ Hid (liK wr M [yl] cs)) (fun _ v _ => nx - (intOf v).toNat)
                    case atStart => exact ⟨0, Nat.zero_le _, rfl, HCwq, HRIwq, HGIwq, HLI⟩
                    case round =>
                      obtain ⟨wx, hwx⟩ : ∃ x, x = wr := ⟨_, rfl⟩
                      subst hwx
                      obtain ⟨x, hxle, rfl, HCwx, HRIwx, HGIwx, HLIwx⟩ := hrel
                      by_cases hxn : x < nx
                      · have hdx : decide ((x : Int) < (nx : Int)) = true := by simp; omega
                        have hxi : (x : Int) < (nx : Int) := by omega
                        have hx0 : (0 : Int) ≤ (x : Int) := by omega
                        have haddx : IntKind.i64.wrap ((x : Int) + 1) = ((x + 1 : Nat) : Int) := by rw [IntWalk.i64_in _ (by omega)]; omega
                        obtain ⟨gc, cc, cur, vo, va_, vb_, vd_, vs_, hvl, hMg, hgl, hgc, q0, q1, q2, q3, q4, qf⟩ := HLIwx.out.parts (j := x) (by rw [HLX.out]; exact hxn)
                        rw [HLX.out] at hvl
                        obtain ⟨e1, e3⟩ := sl_same HYL.out hvl
                        subst e1 e3
                        have qf0 := qf (x * 5)
                        have HG := Lib.hid hgc
                        have HCn := Lib.hid (HCwx.out.put (q := x * 5) (u := .int .i64 (-9)) HG.out (by decide) hMg (ssK.op HG.out HCwx.out.sh))
                        have HLn := Lib.hid (HLIwx.out.op (b := x) (u := -9) HG.out)
                        have HGn := Lib.hid (HGIwx.out.op (b := x) (u := -9) HG.out)
                        have HRn := Lib.hid (HRIwx.out.op (b := x) (u := -9) HG.out)
                        clear hgc qf hMg q1 q2 q3 q4 hvl
                        go_wp2_with fail
                        go_roundw
                        case rel => exact ⟨x + 1, by omega, by go_num, HCn, HRn, HGn, HLn⟩
                        case measure => simp [intOf]; omega
                      · have hdx : decide ((x : Int) < (nx : Int)) = false := by simp; omega
                        obtain rfl : x = nx := by omega
                        go_wp2_with fail
                        go_roundw
                        case rel => exact ⟨q + 1, by omega, by go_num, HCwx, HRIwx, HGIwx⟩
                        case measure => simp [intOf]; omega
                  · have hdq : decide ((q : Int) < (ng : Int)) = false := by simp; omega
                    obtain rfl : q = ng := by omega
                    obtain ⟨gR2, cR2, curR2, lvR2, yN2, hvR2, hMR2, hgR2, hgcR2, _, r5, _, HPN2⟩ := HRIwq.out.parts (j := k) (by rw [HLR.out]; exact hkn)
                    obtain ⟨e1, e2⟩ := ptr_same hvR2 HVR.out
                    subst e1 e2
                    rw [HND.out] at HPN2
                    obtain ⟨gN2, cN2, curN2, svN2, yg2, hvN2, hMN2, hgN2, hgcN2, n0, n1, nf, HGI2⟩ := HPN2.parts (j := m) (by rw [HLN.out]; exact hmn)
                    rw [hvN2, HLN.out] at r5
                    have nf0 := nf (m * 2)
                    have HG := Lib.hid hgcN2
                    have HCn := Lib.hid (HCwq.out.put (q := m * 2) (u := .int .i64 (-9)) HG.out (by decide) hMN2 (ssK.sv HG.out HCwq.out.sh))
                    have HRn := Lib.hid (HRIwq.out.sv (b := m) (u := -9) HG.out)
                    clear hgcR2 hMR2 hgcN2 hMN2 n1 nf HGI2 HPN2
                    go_wp2_with fail
                    go_roundw
                    case rel => exact ⟨m + 1, by omega, by go_num, HCn, HRn⟩
                    case measure => simp [intOf]; omega
              · have hdm : decide ((m : Int) < (nm : Int)) = false := by simp; omega
                obtain rfl : m = nm := by omega
                obtain ⟨gR2, cR2, curR2, lvR2, yN2, hvR2, hMR2, hgR2, hgcR2, r4, _, rf, _⟩ := HRIwn.out.parts (j := k) (by rw [HLR.out]; exact hkn)
                obtain ⟨e1, e2⟩ := ptr_same hvR2 HVR.out
                subst e1 e2
                have rf0 := rf (k * 6 + 4)
                have HG := Lib.hid hgcR2
                have HCn := Lib.hid (HCwn.out.put (q := k * 6 + 4) (u := .int .i64 (-9)) HG.out (by decide) hMR2 (ssK.lv HG.out HCwn.out.sh))
                clear hgcR2 hMR2 rf
                go_wp2_with fail
                go_roundw
                case rel => exact ⟨k + 1, by omega, by go_num, HCn⟩
                case measure => simp [intOf]; omega
          · have hdk : decide ((k : Int) < (nr : Int)) = false := by simp; omega
            obtain rfl : k = nr := by omega
            obtain ⟨gS2, cS2, curS2, smS2, yr, hvS2, hMS2, hgS2, hgcS2, s0, _, sf, _⟩ := HCwk.out.sh.parts (j := i) (by rw [HN.out]; exact hin)
            obtain ⟨e1, e2⟩ := ptr_same hvS2 HVS.out
            subst e1 e2
            have sf0 := sf (i * 2)
            have HG := Lib.hid hgcS2
            have HCn := Lib.hid (HCwk.out.put (q := i * 2) (u := .string ⟨#[45, 57]⟩) HG.out (by decide) hMS2 (ssK.nm HG.out HCwk.out.sh))
            clear hgcS2 hMS2 sf
            go_wp2_with fail
            go_roundw
            case rel => exact ⟨i + 1, by omega, by go_num, HCn⟩
            case measure => simp [intOf]; omega
      · have hdi : decide ((i : Int) < (n : Int)) = false := by simp; omega
        obtain rfl : i = n := by omega
        have HFR : Hid (FrM w' wi (fun b => z0 ≤ b ∧ b < z1')) := Lib.hid ⟨HCwi.out.fr.size, fun b hb hn => HCwi.out.fr.block b hb (fun q => hn (HMG.out b q))⟩
        have HRB : Hid (RdJ 2 svI wi (fun b => wi.heap.size ≤ b) A6 i l) := Lib.hid (by
          have h := (ss_turns.go HSB.out (FrM.refl w' _) (M' := fun b => z0 ≤ b ∧ b < z1') (fun b hb => .inl hb.2)).rd.2
          exact h.turn sv_turns HFR.out (fun b hb => .inr (Nat.le_trans HFR.out.size hb)))
        have HRC : Hid (RdJ 2 svI wi (fun b => wi.heap.size ≤ b) A i l) := Lib.hid (by
          have h := HPK.out.rd.turn sv_turns (FrM.refl w' _) (M' := fun b => z0 ≤ b ∧ b < z1') (fun b hb => .inl (by have := hb.1; have := HZ.out.1; have := HB2.out.size; omega))
          exact h.turn sv_turns HFR.out (fun b hb => .inr (Nat.le_trans HFR.out.size hb)))
        have HAL := Lib.hid (alike_yes (c1 := c6) (c2 := c) HRB.out HRC.out (Nat.le_refl _) HSM.out)
        obtain ⟨x6, _⟩ := row1f HCwi.out.b6
        obtain ⟨x1, _⟩ := row1f HCwi.out.b1
        have HBF := Lib.hid HCwi.out.bel
        go_wp2_with fail
        refine HAL.out.mono ?_
        rintro e w9 ⟨rfl, hb9⟩
        have HB9 : Hid (Below w.heap.size w w9) := Lib.hid (HBF.out.trans (hb9.mono HBF.out.size))
        clear x6 x1
        go_wp2_with fail
        exact bodyPost_ret (results_tmp rfl _ _ _) rfl ⟨rfl, HB9.out⟩
end Go.Proofs.Yteiknbkigbdfgaa
