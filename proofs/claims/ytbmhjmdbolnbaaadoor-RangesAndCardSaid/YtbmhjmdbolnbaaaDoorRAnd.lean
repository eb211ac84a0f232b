/-
  CONTRACT: And (printed by genrand.py).
-/
import Derived.Test.YtbmhjmdbolnbaaaDoorRGrow
import Derived.StillTailTactics
namespace Go.Proofs.YtbmhjmdbolnbaaaDoor
open Go.RowKit
open SemP
set_option linter.unusedVariables false
set_option linter.unusedSimpArgs false
set_option maxRecDepth 100000
/-- Every list of the one beside every list of the other. -/
def andRow (l : List CV) (q : List (List CV)) : List (List CV) := q.map (fun l2 => l ++ l2)
def andR (p q : List (List CV)) : List (List CV) := p.flatMap (fun l => andRow l q)
theorem andR_len (p q : List (List CV)) : (andR p q).length = p.length * q.length := by
  induction p with
  | nil => simp [andR]
  | cons a t ih =>
    have h : andR (a :: t) q = andRow a q ++ andR t q := by simp [andR]
    rw [h, List.length_append, ih]; simp [andRow, Nat.succ_mul, Nat.add_comm]
theorem andR_snoc (p q : List (List CV)) (l : List CV) : andR (p ++ [l]) q = andR p q ++ andRow l q := by simp [andR]
def andFit (p q : List (List CV)) : Bool := p.all (fun l => q.all (fun l2 => decide (l.length + l2.length ≤ 8)))
/-- What And answers. -/
def AndA (p q : List (List CV)) (e : Ending) (w' : World) : Prop :=
  if (rightR p && rightR q) = false then e = .returned (.tuple #[.agg #[.slice none 0 0], .int .i64 12])
  else if (decide (p.length * q.length ≤ 8) && andFit p q) = false then e = .returned (.tuple #[.agg #[.slice none 0 0], .int .i64 11])
  else ∃ A c, e = .returned (.tuple #[.agg #[.slice A (p.length * q.length) c], .int .i64 0]) ∧ RdR w' w'.heap.size A (p.length * q.length) (andR p q)
structure AnSt (wr W2 : World) (bk5 : Nat) (vo : Value) (vs : List Value) (rr : List (List CV)) (s1 s2 : Value) (l l2 : List CV) (b0 b1 b2 b3 b4 b5 b6 b7 b8 b9 : Bool) (v50 v51 v52 v53 v54 v55 v56 v57 v58 : Value) (w' : World) : Prop where
  q1 : b7 = true → b1 = true
  q5 : b5 = true → b4 = true
  q6 : b6 = true → b5 = true
  q7 : b7 = true → b6 = true
  q9 : b9 = true → b7 = true
  bel : b7 = false → Below wr.heap.size wr w'
  h0 : b0 = true → v50 = .pointer (some ⟨bk5, 0, none⟩)
  h1 : b1 = true → v51 = vo
  h2 : b2 = true → v52 = s1
  h3 : b3 = true → v53 = s2
  h4 : b4 = true → b5 = false → ∃ g, v54 = .slice (some ⟨g, 0, none⟩) 2 2 ∧ w'.heap[g]? = some (.cells #[s1, s2] 69 (0, 0))
  h5 : b5 = true → b6 = false → OwnC w' wr.heap.size v55 (l ++ l2)
  h6 : b6 = true → b7 = false → ∃ g v, v56 = .slice (some ⟨g, 0, none⟩) 1 1 ∧ w'.cell? ⟨g, 0, none⟩ = some v ∧ OwnC w' wr.heap.size v (l ++ l2)
  h7 : b7 = true → (∃ v, OwnV w' (bk5 + 1) v57 (vs ++ [v]) ∧ RowL w' bk5 v57 (vs ++ [v]) (rr ++ [l ++ l2])) ∧ Below bk5 W2 w' ∧ bk5 + 1 ≤ w'.heap.size
  hc : b7 = true → b9 = false → w'.cell? ⟨bk5, 0, none⟩ = some vo ∧ w'.frozen? ⟨bk5, 0, none⟩ = false
  h8 : b8 = true → v58 = .pointer (some ⟨bk5, 0, none⟩)
  h9 : b9 = true → w'.cell? ⟨bk5, 0, none⟩ = some v57 ∧ w'.frozen? ⟨bk5, 0, none⟩ = false
inductive AnJ (wr W2 : World) (bk5 : Nat) (vo : Value) (vs : List Value) (rr : List (List CV)) (s1 s2 : Value) (l l2 : List CV) (p0 p1 p2 p3 p4 p5 p6 p7 p8 p9 p10 p11 p12 p13 p14 p15 p16 p17 p18 p19 p20 p21 p22 p23 p24 p25 p26 p27 p28 p29 p30 p31 p32 p33 p34 p35 p36 p37 p38 p39 p40 p41 p42 p43 p44 p45 p46 p47 p48 p49 p59 p60 p61 : Value) : Array Bool → Act → World → Prop where
  | mk (b0 b1 b2 b3 b4 b5 b6 b7 b8 b9 : Bool) (v50 v51 v52 v53 v54 v55 v56 v57 v58 : Value) (w' : World) : AnSt wr W2 bk5 vo vs rr s1 s2 l l2 b0 b1 b2 b3 b4 b5 b6 b7 b8 b9 v50 v51 v52 v53 v54 v55 v56 v57 v58 w' → AnJ wr W2 bk5 vo vs rr s1 s2 l l2 p0 p1 p2 p3 p4 p5 p6 p7 p8 p9 p10 p11 p12 p13 p14 p15 p16 p17 p18 p19 p20 p21 p22 p23 p24 p25 p26 p27 p28 p29 p30 p31 p32 p33 p34 p35 p36 p37 p38 p39 p40 p41 p42 p43 p44 p45 p46 p47 p48 p49 p59 p60 p61 #[b0, b1, b2, b3, b4, b5, b6, b7, b8, b9] { tmps := List.toArray (p0 :: p1 :: p2 :: p3 :: p4 :: p5 :: p6 :: p7 :: p8 :: p9 :: p10 :: p11 :: p12 :: p13 :: p14 :: p15 :: p16 :: p17 :: p18 :: p19 :: p20 :: p21 :: p22 :: p23 :: p24 :: p25 :: p26 :: p27 :: p28 :: p29 :: p30 :: p31 :: p32 :: p33 :: p34 :: p35 :: p36 :: p37 :: p38 :: p39 :: p40 :: p41 :: p42 :: p43 :: p44 :: p45 :: p46 :: p47 :: p48 :: p49 :: v50 :: v51 :: v52 :: v53 :: v54 :: v55 :: v56 :: v57 :: v58 :: p59 :: p60 :: p61 :: []), defers := [] } w'
set_option maxHeartbeats 32000000 in
theorem And_any (A : Option Addr) (m cp : Nat) (p : List (List CV)) (B : Option Addr) (n cq : Nat) (q : List (List CV)) (w : World) (B0 : Nat) (hp : RdR w B0 A m p) (hq : RdR w B0 B n q) (hB : B0 ≤ w.heap.size) (hfp : Fits p) (hfq : Fits q) (hm20 : m ≤ 20) (hn20 : n ≤ 20) (hm : LenAt w) (h1 : 1 < w.heap.size) :
    Calls Tryd.prog 41 #[.agg #[.slice A m cp], .agg #[.slice B n cq]] w fun e w' => AndA p q e w' ∧ Below w.heap.size w w' := by
  obtain ⟨W0, hW0⟩ : ∃ W0, ((w.alloc (.cells #[.slice A m cp] 48)).alloc (.cells #[.slice B n cq] 48)).alloc (.cells #[.slice none 0 0] 48) = W0 := ⟨_, rfl⟩
  have hz0 : W0.heap.size = w.heap.size + 3 := by rw [← hW0]; simp
  have hb0 : Below w.heap.size w W0 := by rw [← hW0]; exact (((Below.refl _ w).alloc (Nat.le_refl _) _).alloc (by simp) _).alloc (by simp; omega) _
  have hX0 : W0.heap[w.heap.size]? = some (.cells #[.slice A m cp] 48) := by
    rw [← hW0, Below.heap_alloc _ _ _ (by simp; omega), Below.heap_alloc _ _ _ (by simp)]; exact World.alloc_heap_new _ _
  have hX1 : W0.heap[w.heap.size + 1]? = some (.cells #[.slice B n cq] 48) := by
    rw [← hW0, Below.heap_alloc _ _ _ (by simp)]
    have h := World.alloc_heap_new (w.alloc (.cells #[.slice A m cp] 48)) (.cells #[.slice B n cq] 48)
    rw [World.size_alloc] at h; exact h
  have hX2 : W0.heap[w.heap.size + 1 + 1]? = some (.cells #[.slice none 0 0] 48) := by
    rw [← hW0]
    have h := World.alloc_heap_new ((w.alloc (.cells #[.slice A m cp] 48)).alloc (.cells #[.slice B n cq] 48)) (.cells #[.slice none 0 0] 48)
    rw [World.size_alloc, World.size_alloc] at h; exact h
  have HX := Lib.hid (And.intro hX0 (And.intro hX1 hX2))
  have HL0 : Hid (w.heap.size < W0.heap.size ∧ w.heap.size + 1 < W0.heap.size ∧ w.heap.size + 1 + 1 < W0.heap.size) := Lib.hid ⟨by omega, by omega, by omega⟩
  have HM0 := Lib.hid (hm.below h1 hb0)
  have HB0 := Lib.hid hb0
  have HW0 := Lib.hid hW0
  have HP0 : Hid (RdR W0 B0 A m p) := Lib.hid (hp.below (hb0.mono hB))
  have HQ0 : Hid (RdR W0 B0 B n q) := Lib.hid (hq.below (hb0.mono hB))
  have HBB := Lib.hid hB
  have HLP := Lib.hid hp.1
  have HLQ := Lib.hid hq.1
  have HF := Lib.hid (And.intro hfp hfq)
  have H20 := Lib.hid (And.intro hm20 hn20)
  have HC := Lib.hid (RgRight_any A m cp p W0 B0 HP0.out (Nat.le_trans hB hb0.size) hfp (by omega) HM0.out.1 HM0.out.2)
  have c1 := cell1 hX0
  rw [← hW0] at c1
  clear hp hq hB hfp hfq hb0 hW0 hX0 hX1 hX2 hz0 hm20 hn20 hm h1
  go_enter Tryd.func41, Tryd.ntmps41
  go_wp2_with fail
  try rw [show ((w.alloc (.cells #[.slice A m cp] 48)).alloc (.cells #[.slice B n cq] 48)).alloc (.cells #[.slice none 0 0] 48) = W0 from HW0.out]
  refine HC.out.mono ?_
  rintro e W1 ⟨rfl, hb⟩
  clear HC c1
  have HB01 := Lib.hid hb
  have HM1 := Lib.hid (HM0.out.1.below HM0.out.2 hb)
  have HP1 : Hid (RdR W1 B0 A m p) := Lib.hid (HP0.out.below (hb.mono (Nat.le_trans HBB.out HB0.out.size)))
  have HQ1 : Hid (RdR W1 B0 B n q) := Lib.hid (HQ0.out.below (hb.mono (Nat.le_trans HBB.out HB0.out.size)))
  have HX1 : Hid (W1.heap[w.heap.size]? = some (.cells #[.slice A m cp] 48) ∧ W1.heap[w.heap.size + 1]? = some (.cells #[.slice B n cq] 48) ∧ W1.heap[w.heap.size + 1 + 1]? = some (.cells #[.slice none 0 0] 48)) := Lib.hid ⟨(hb.block _ HL0.out.1).trans HX.out.1, (hb.block _ HL0.out.2.1).trans HX.out.2.1, (hb.block _ HL0.out.2.2).trans HX.out.2.2⟩
  have HL1 : Hid (w.heap.size < W1.heap.size ∧ w.heap.size + 1 < W1.heap.size ∧ w.heap.size + 1 + 1 < W1.heap.size) := Lib.hid ⟨Nat.lt_of_lt_of_le HL0.out.1 hb.size, Nat.lt_of_lt_of_le HL0.out.2.1 hb.size, Nat.lt_of_lt_of_le HL0.out.2.2 hb.size⟩
  have HB1 : Hid (Below w.heap.size w W1) := Lib.hid (HB0.out.trans (hb.mono HB0.out.size))
  clear hb
  cases hrp : rightR p with
  | false =>
    have HN : Hid (∀ w', AndA p q (.returned (.tuple #[.agg #[.slice none 0 0], .int .i64 12])) w') := Lib.hid (fun w' => by unfold AndA; rw [if_pos (by rw [hrp]; rfl)])
    have x0 := cell1 HX1.out.2.2
    have xf : W1.frozen? ⟨w.heap.size + 1 + 1, 0, none⟩ = false := by simp only [World.frozen?, HX1.out.2.2]; rfl
    have HBS : Hid (∀ u, Below w.heap.size w (W1.setCell ⟨w.heap.size + 1 + 1, 0, none⟩ u)) := Lib.hid (fun u => HB1.out.setCell (p := ⟨w.heap.size + 1 + 1, 0, none⟩) (by show w.heap.size ≤ w.heap.size + 1 + 1; omega) u)
    clear hrp
    go_wp2
    refine bodyPost_ret (v := .tuple #[.agg #[.slice none 0 0], .int .i64 12]) (by simp [results, Tryd.results41, go_sem, x0]) rfl ⟨HN.out _, HBS.out _⟩
  | true =>
    have HRP := Lib.hid hrp
    have HC := Lib.hid (RgRight_any B n cq q W1 B0 HQ1.out (Nat.le_trans HBB.out HB1.out.size) HF.out.2 (by have := H20.out; omega) HM1.out.1 HM1.out.2)
    have c2 := cell1 HX1.out.2.1
    clear hrp
    go_wp2_with fail
    refine HC.out.mono ?_
    rintro e W2 ⟨rfl, hb⟩
    clear HC c2
    have HM2 := Lib.hid (HM1.out.1.below HM1.out.2 hb)
    have HB2 : Hid (Below w.heap.size w W2) := Lib.hid (HB1.out.trans (hb.mono HB1.out.size))
    have HP2 : Hid (RdR W2 B0 A m p) := Lib.hid (HP1.out.below (hb.mono (Nat.le_trans HBB.out HB1.out.size)))
    have HQ2 : Hid (RdR W2 B0 B n q) := Lib.hid (HQ1.out.below (hb.mono (Nat.le_trans HBB.out HB1.out.size)))
    have HX2 : Hid (W2.heap[w.heap.size]? = some (.cells #[.slice A m cp] 48) ∧ W2.heap[w.heap.size + 1]? = some (.cells #[.slice B n cq] 48) ∧ W2.heap[w.heap.size + 1 + 1]? = some (.cells #[.slice none 0 0] 48)) := Lib.hid ⟨(hb.block _ HL1.out.1).trans HX1.out.1, (hb.block _ HL1.out.2.1).trans HX1.out.2.1, (hb.block _ HL1.out.2.2).trans HX1.out.2.2⟩
    have HL2 : Hid (w.heap.size < W2.heap.size ∧ w.heap.size + 1 < W2.heap.size ∧ w.heap.size + 1 + 1 < W2.heap.size) := Lib.hid ⟨Nat.lt_of_lt_of_le HL1.out.1 hb.size, Nat.lt_of_lt_of_le HL1.out.2.1 hb.size, Nat.lt_of_lt_of_le HL1.out.2.2 hb.size⟩
    clear hb
    have x0 := cell1 HX2.out.2.2
    have xf : W2.frozen? ⟨w.heap.size + 1 + 1, 0, none⟩ = false := by simp only [World.frozen?, HX2.out.2.2]; rfl
    have x1 := cell1 HX2.out.1
    have x2 := cell1 HX2.out.2.1
    have HBS : Hid (∀ u, Below w.heap.size w (W2.setCell ⟨w.heap.size + 1 + 1, 0, none⟩ u)) := Lib.hid (fun u => HB2.out.setCell (p := ⟨w.heap.size + 1 + 1, 0, none⟩) (by show w.heap.size ≤ w.heap.size + 1 + 1; omega) u)
    cases hrq : rightR q with
    | false =>
      have HN : Hid (∀ w', AndA p q (.returned (.tuple #[.agg #[.slice none 0 0], .int .i64 12])) w') := Lib.hid (fun w' => by unfold AndA; rw [if_pos (by rw [hrq, Bool.and_false])])
      clear hrq
      go_wp2
      refine bodyPost_ret (v := .tuple #[.agg #[.slice none 0 0], .int .i64 12]) (by simp [results, Tryd.results41, go_sem, x0]) rfl ⟨HN.out _, HBS.out _⟩
    | true =>
      have HRQ := Lib.hid hrq
      have H8 : Hid ((1 ≤ m ∧ m ≤ 8) ∧ (1 ≤ n ∧ n ≤ 8)) := Lib.hid ⟨by rw [← HLP.out]; exact rightR_len HRP.out, by rw [← HLQ.out]; exact rightR_len hrq⟩
      have hmul : m * n ≤ 64 := Nat.le_trans (Nat.mul_le_mul H8.out.1.2 H8.out.2.2) (Nat.le_refl _)
      have hmw : IntKind.i64.wrap ((m : Int) * (n : Int)) = ((m * n : Nat) : Int) := by rw [← Int.natCast_mul, IntWalk.i64_in _ (by omega)]
      clear hrq
      by_cases h8 : 8 < m * n
      · have d8 : decide (8 < ((m * n : Nat) : Int)) = true := decide_eq_true (by omega)
        have d8' : decide (8 < (m : Int) * (n : Int)) = true := by rw [← Int.natCast_mul]; exact d8
        have HN : Hid (∀ w', AndA p q (.returned (.tuple #[.agg #[.slice none 0 0], .int .i64 11])) w') := Lib.hid (fun w' => by
          unfold AndA; rw [if_neg (by rw [HRP.out, HRQ.out]; decide), if_pos (by rw [HLP.out, HLQ.out, decide_eq_false (by omega)]; rfl)])
        clear h8
        go_wp2
        refine bodyPost_ret (v := .tuple #[.agg #[.slice none 0 0], .int .i64 11]) (by simp [results, Tryd.results41, go_sem, x0]) rfl ⟨HN.out _, HBS.out _⟩
      · have d8 : decide (8 < ((m * n : Nat) : Int)) = false := decide_eq_false (by omega)
        have d8' : decide (8 < (m : Int) * (n : Int)) = false := by rw [← Int.natCast_mul]; exact d8
        clear h8
        obtain ⟨bk5, hb5⟩ : ∃ bk5, W2.heap.size = bk5 := ⟨_, rfl⟩
        obtain ⟨W3, hW3⟩ : ∃ W3, W2.alloc (.cells #[.slice none 0 0] 48) = W3 := ⟨_, rfl⟩
        have HX3 : Hid (W3.heap[bk5]? = some (.cells #[.slice none 0 0] 48)) := Lib.hid (by rw [← hW3, ← hb5]; exact World.alloc_heap_new _ _)
        have HZ3 : Hid (W3.heap.size = bk5 + 1) := Lib.hid (by rw [← hW3, ← hb5]; simp)
        have HB23 : Hid (Below bk5 W2 W3) := Lib.hid (by rw [← hW3, ← hb5]; exact (Below.refl _ W2).alloc (Nat.le_refl _) _)
        have HLW : Hid (w.heap.size < bk5 ∧ w.heap.size + 1 < bk5 ∧ w.heap.size + 1 + 1 < bk5) := Lib.hid (by rw [← hb5]; exact HL2.out)
        have y1 : (W2.alloc (.cells #[.slice none 0 0] 48)).cell? ⟨w.heap.size, 0, none⟩ = some (.slice A m cp) := cell1 ((Below.heap_alloc _ _ _ HL2.out.1).trans HX2.out.1)
        have HW3 := Lib.hid hW3
        have HB5 := Lib.hid hb5
        have HAND : Hid ((decide (p.length * q.length ≤ 8) && andFit p q) = andFit p q) := Lib.hid (by rw [HLP.out, HLQ.out, decide_eq_true (by have h := of_decide_eq_false d8; omega), Bool.true_and])
        clear hW3 hb5 hmul
        go_wp2
        try rw [show W2.alloc (.cells #[.slice none 0 0] 48) = W3 from HW3.out]
        try rw [show W2.heap.size = bk5 from HB5.out]
        clear x0 xf x1 x2 y1 d8 d8' hmw
        go_loopw [8, 10, 32, 39] (fun v8 v10 v32 v39 wr => ∃ (i : Nat) (v : Value) (vs : List Value), i ≤ m ∧ v32 = .int .i64 (i : Int) ∧ Hid (∀ j, j < i → (q.all (fun l2 => decide ((lsAt p j).length + l2.length ≤ 8))) = true) ∧ Hid (wr.cell? ⟨bk5, 0, none⟩ = some v ∧ wr.frozen? ⟨bk5, 0, none⟩ = false) ∧ Hid (OwnV wr (bk5 + 1) v vs) ∧ Hid (RowL wr bk5 v vs (andR (p.take i) q)) ∧ Hid (Below bk5 W2 wr) ∧ Hid (bk5 + 1 ≤ wr.heap.size)) (fun _ _ v _ _ => m - (intOf v).toNat)
        case atStart => exact ⟨0, .slice none 0 0, [], Nat.zero_le _, rfl, Lib.hid (fun j hj => absurd hj (by omega)), Lib.hid ⟨cell1 HX3.out, by simp only [World.frozen?, HX3.out]; rfl⟩, Lib.hid (World.ownsRow_nil _ _ _ _), Lib.hid (RowL.nil _ _ _), HB23, Lib.hid (Nat.le_of_eq HZ3.out.symm)⟩
        case round =>
          obtain ⟨i, v, vs, hi, rfl, HD, HC, HO, HR, HB, HZ⟩ := hrel
          obtain ⟨wo, hwo⟩ : ∃ x, x = wr := ⟨_, rfl⟩
          subst hwo
          by_cases him : i < m
          · have hd : decide ((i : Int) < (m : Int)) = true := decide_eq_true (by omega)
            have hadd : IntKind.i64.wrap ((i : Int) + 1) = ((i + 1 : Nat) : Int) := by rw [IntWalk.i64_in _ (by have := H8.out; omega)]; omega
            obtain ⟨ba, offa, A1, n1, c1, rfl, hlta, qa, hra⟩ := (HP2.out.below (HB.out.mono (by have := HBB.out; have := HLW.out; omega))).2 i him
            obtain ⟨l, hl⟩ : ∃ l, lsAt p i = l := ⟨_, rfl⟩
            have HLL := Lib.hid hl
            rw [hl] at hra
            have HIL := Lib.hid him
            have HN1 : Hid (l.length = n1 ∧ 1 ≤ n1 ∧ n1 ≤ 8) := Lib.hid (by
              have h := (rightR_list HRP.out (lsAt_mem (show i < p.length by rw [HLP.out]; exact him))).1
              rw [hl, hra.1] at h
              exact ⟨hra.1, h⟩)
            have x2 : wo.cell? ⟨w.heap.size + 1, 0, none⟩ = some (.slice B n cq) := cell1 ((HB.out.block _ HLW.out.2.1).trans HX2.out.2.1)
            obtain ⟨bx1, ox1, hA1, _, _⟩ := hra.2 0 (by have := HN1.out; omega)
            subst hA1
            obtain ⟨A1', n1', c1', e1', hra2⟩ : ∃ A' n' c', W2.cell? ⟨ba, offa + i, none⟩ = some (.slice A' n' c') ∧ RdC W2 B0 A' n' l := by
              obtain ⟨b', o', A', n', c', e, _, hc', hr'⟩ := HP2.out.2 i him
              injection e with e
              injection e with e1 e2 e3
              subst e1 e2
              rw [HLL.out] at hr'
              exact ⟨A', n', c', hc', hr'⟩
            have heq : Value.slice (some ⟨bx1, ox1, none⟩) n1 c1 = .slice A1' n1' c1' := by
              have h := (HB.out.cell (p := ⟨ba, offa + i, none⟩) (by have := HBB.out; have := HLW.out; show ba < _; omega)).trans e1'
              rw [qa] at h
              injection h
            injection heq with q1 q2 q3
            subst q1 q2 q3
            have HR1p := Lib.hid hra2
            clear hl hra e1' hra2
            go_wp2
            clear qa x2
            go_loopw [10, 39] (fun v10 v39 wr => ∃ (k : Nat) (v : Value) (vs : List Value), k ≤ n ∧ v39 = .int .i64 (k : Int) ∧ Hid (∀ j, j < k → decide (l.length + (lsAt q j).length ≤ 8) = true) ∧ Hid (wr.cell? ⟨bk5, 0, none⟩ = some v ∧ wr.frozen? ⟨bk5, 0, none⟩ = false) ∧ Hid (OwnV wr (bk5 + 1) v vs) ∧ Hid (RowL wr bk5 v vs (andR (p.take i) q ++ andRow l (q.take k))) ∧ Hid (Below bk5 W2 wr) ∧ Hid (bk5 + 1 ≤ wr.heap.size)) (fun _ v _ => n - (intOf v).toNat)
            case atStart => exact ⟨0, v, vs, Nat.zero_le _, rfl, Lib.hid (fun j hj => absurd hj (by omega)), HC, HO, Lib.hid (by simpa [andRow] using HR.out), HB, HZ⟩
            case round =>
              obtain ⟨k, v', vs', hk, rfl, HDk, HCk, HOk, HRk, HBk, HZk⟩ := hrel
              have HLEN : Hid ((andR (p.take i) q ++ andRow l (q.take k)).length ≤ 128) := Lib.hid (by
                rw [List.length_append, andR_len]
                have h1 : (p.take i).length ≤ 8 := by rw [List.length_take]; have := H8.out; omega
                have h2 : q.length ≤ 8 := by rw [HLQ.out]; exact H8.out.2.2
                have h3 : (andRow l (q.take k)).length ≤ 8 := by unfold andRow; rw [List.length_map, List.length_take]; omega
                have h4 := Nat.mul_le_mul h1 h2
                omega)
              have HVL : Hid (vs'.length ≤ 128) := Lib.hid (by rw [HRk.out.1]; exact HLEN.out)
              by_cases hkn : k < n
              · have hdk : decide ((k : Int) < (n : Int)) = true := decide_eq_true (by omega)
                have haddk : IntKind.i64.wrap ((k : Int) + 1) = ((k + 1 : Nat) : Int) := by rw [IntWalk.i64_in _ (by have := H8.out; omega)]; omega
                obtain ⟨bb, offb, A2, n2, c2, rfl, hltb, qb, hrb⟩ := (HQ2.out.below (HBk.out.mono (by have := HBB.out; have := HLW.out; omega))).2 k hkn
                obtain ⟨l2, hl2⟩ : ∃ l2, lsAt q k = l2 := ⟨_, rfl⟩
                have HLL2 := Lib.hid hl2
                rw [hl2] at hrb
                have HKL := Lib.hid hkn
                have HN2 : Hid (l2.length = n2 ∧ 1 ≤ n2 ∧ n2 ≤ 8) := Lib.hid (by
                  have h := (rightR_list HRQ.out (lsAt_mem (show k < q.length by rw [HLQ.out]; exact hkn))).1
                  rw [hl2, hrb.1] at h
                  exact ⟨hrb.1, h⟩)
                obtain ⟨bx2, ox2, hA2, _, _⟩ := hrb.2 0 (by have := HN2.out; omega)
                subst hA2
                have HR2 := Lib.hid hrb
                have hsum : IntKind.i64.wrap ((n1 : Int) + (n2 : Int)) = (n1 : Int) + (n2 : Int) := by rw [IntWalk.i64_in _ (by have := HN1.out; have := HN2.out; omega)]
                clear hl2 hrb
                by_cases h8 : 8 < n1 + n2
                · have d8 : decide (8 < (n1 : Int) + (n2 : Int)) = true := decide_eq_true (by omega)
                  have HN : Hid (∀ w', AndA p q (.returned (.tuple #[.agg #[.slice none 0 0], .int .i64 11])) w') := Lib.hid (fun w' => by
                    unfold AndA; rw [if_neg (by rw [HRP.out, HRQ.out]; decide), HAND.out, if_pos]
                    unfold andFit
                    refine allR_not (p := fun l => q.all (fun l2 => decide (l.length + l2.length ≤ 8))) (show i < p.length by rw [HLP.out]; exact HIL.out) ?_
                    rw [HLL.out]
                    refine allR_not (p := fun l2 => decide (l.length + l2.length ≤ 8)) (show k < q.length by rw [HLQ.out]; exact HKL.out) (decide_eq_false ?_)
                    rw [HLL2.out, HN1.out.1, HN2.out.1]; omega)
                  have hx4 : wr.heap[w.heap.size + 1 + 1]? = some (.cells #[.slice none 0 0] 48) := (HBk.out.block _ HLW.out.2.2).trans HX2.out.2.2
                  have x0 := cell1 hx4
                  have xf : wr.frozen? ⟨w.heap.size + 1 + 1, 0, none⟩ = false := by simp only [World.frozen?, hx4]; rfl
                  have HBS2 : Hid (∀ u, Below w.heap.size w (wr.setCell ⟨w.heap.size + 1 + 1, 0, none⟩ u)) := Lib.hid (fun u => (HB2.out.trans (HBk.out.mono (by have := HLW.out; omega))).setCell (p := ⟨w.heap.size + 1 + 1, 0, none⟩) (by show w.heap.size ≤ w.heap.size + 1 + 1; omega) u)
                  clear hx4 h8
                  go_wp2
                  refine bodyPost_ret (v := .tuple #[.agg #[.slice none 0 0], .int .i64 11]) (by simp [results, Tryd.results41, go_sem, x0]) rfl ⟨HN.out _, HBS2.out _⟩
                · have d8 : decide (8 < (n1 : Int) + (n2 : Int)) = false := decide_eq_false (by omega)
                  have HS8 : Hid (n1 + n2 ≤ 8) := Lib.hid (by omega)
                  have HLB : Hid (bk5 < wr.heap.size) := Lib.hid (by have := HZk.out; omega)
                  have HR1w : Hid (RdC wr wr.heap.size (some ⟨bx1, ox1, none⟩) n1 l) := Lib.hid ((HR1p.out.below (HBk.out.mono (by have := HBB.out; have := HLW.out; omega))).more (by have := HBB.out; have := HLW.out; have := HZk.out; omega))
                  have HR2w : Hid (RdC wr wr.heap.size (some ⟨bx2, ox2, none⟩) n2 l2) := Lib.hid (HR2.out.more (by have := HBB.out; have := HLW.out; have := HZk.out; omega))
                  have HTS : Hid (andR (p.take i) q ++ andRow l (q.take (k + 1)) = (andR (p.take i) q ++ andRow l (q.take k)) ++ [l ++ l2]) := Lib.hid (by unfold andRow; rw [take_snocR (by rw [HLQ.out]; exact HKL.out), HLL2.out]; simp)
                  have HDK2 : Hid (∀ j, j < k + 1 → decide (l.length + (lsAt q j).length ≤ 8) = true) := Lib.hid (fun j hj => by
                    rcases Nat.lt_succ_iff_lt_or_eq.1 hj with h | h
                    · exact HDk.out j h
                    · subst h; rw [HLL2.out, HN1.out.1, HN2.out.1]; exact decide_eq_true (by omega))
                  clear h8
                  go_upto_region 14 with fail
                  refine wp_region_inv (by kernel_rfl) (I := AnJ wr W2 bk5 v' vs' (andR (p.take i) q ++ andRow l (q.take k)) (.slice (some ⟨bx1, ox1, none⟩) n1 c1) (.slice (some ⟨bx2, ox2, none⟩) n2 c2) l l2 _ _ _ _ _ _ _ _ _ _ _ _ _ _ _ _ _ _ _ _ _ _ _ _ _ _ _ _ _ _ _ _ _ _ _ _ _ _ _ _ _ _ _ _ _ _ _ _ _ _ _ _ _) (.mk false false false false false false false false false false _ _ _ _ _ _ _ _ _ _ ⟨nofun, nofun, nofun, nofun, nofun, fun _ => (Below.refl _ wr).drew, nofun, nofun, nofun, nofun, nofun, nofun, nofun, nofun, nofun, nofun, nofun⟩) ?step ?fin
                  case step =>
                    rintro lq a' w' ix ⟨b0, b1, b2, b3, b4, b5, b6, b7, b8, b9, v50, v51, v52, v53, v54, v55, v56, v57, v58, _, HT⟩ hi
                    obtain ⟨hi_, hib⟩ := ready_lt hi
                    have HTH := Lib.hid HT
                    match ix, hi_, hi, hib with
                    | 0, _, hi, hib =>
                      have hdum := True.intro
                      clear HT
                      refine wpOp_one rfl rfl (fun K hK => ?_)
                      go_simp
                      exact hK.out _ _ (.mk true b1 b2 b3 b4 b5 b6 b7 b8 b9 _ _ _ _ _ _ _ _ _ _ { HTH.out with h0 := fun _ => rfl })
                    | 1, _, hi, hib =>
                      have d0 : b0 = true := ready_dep hi rfl 0 (by kernel_rfl)
                      have hd0 := HT.h0 d0
                      subst hd0
                      obtain rfl : b1 = false := by simpa using hib
                      have hb7 : b7 = false := by
                        cases h7 : b7 with
                        | false => rfl
                        | true => exact absurd (HT.q1 h7) (by decide)
                      have hcc : w'.cell? ⟨bk5, 0, none⟩ = some v' := ((HT.bel hb7).cell (p := ⟨bk5, 0, none⟩) HLB.out).trans HCk.out.1
                      clear HT
                      refine wpOp_one rfl rfl (fun K hK => ?_)
                      go_simp
                      exact hK.out _ _ (.mk b0 true b2 b3 b4 b5 b6 b7 b8 b9 _ _ _ _ _ _ _ _ _ _ { HTH.out with q1 := fun _ => rfl, h1 := fun _ => rfl })
                    | 2, _, hi, hib =>
                      have hdum := True.intro
                      clear HT
                      refine wpOp_one rfl rfl (fun K hK => ?_)
                      go_simp
                      exact hK.out _ _ (.mk b0 b1 true b3 b4 b5 b6 b7 b8 b9 _ _ _ _ _ _ _ _ _ _ { HTH.out with h2 := fun _ => rfl })
                    | 3, _, hi, hib =>
                      have hdum := True.intro
                      clear HT
                      refine wpOp_one rfl rfl (fun K hK => ?_)
                      go_simp
                      exact hK.out _ _ (.mk b0 b1 b2 true b4 b5 b6 b7 b8 b9 _ _ _ _ _ _ _ _ _ _ { HTH.out with h3 := fun _ => rfl })
                    | 4, _, hi, hib =>
                      have d2 : b2 = true := ready_dep hi rfl 2 (by kernel_rfl)
                      have d3 : b3 = true := ready_dep hi rfl 3 (by kernel_rfl)
                      have hd2 := HT.h2 d2
                      subst hd2
                      have hd3 := HT.h3 d3
                      subst hd3
                      obtain rfl : b4 = false := by simpa using hib
                      have hb7 : b7 = false := by
                        cases h7 : b7 with
                        | false => rfl
                        | true => exact absurd (HT.q5 (HT.q6 (HT.q7 h7))) (by decide)
                      have hb5 : b5 = true → False := fun h => by have := HT.q5 h; cases this
                      have hb6 : b6 = true → False := fun h => hb5 (HT.q6 h)
                      subst hb7
                      clear HT
                      refine wpOp_one rfl rfl (fun K hK => ?_)
                      go_simp
                      have hb := (HTH.out.bel rfl)
                      exact hK.out _ _ (.mk b0 b1 b2 b3 true b5 b6 false b8 b9 _ _ _ _ _ _ _ _ _ _ { HTH.out with q5 := fun _ => rfl, bel := fun _ => hb.alloc hb.size _, h4 := fun _ _ => ⟨_, rfl, World.alloc_heap_new _ _⟩, h5 := fun h _ => (hb5 h).elim, h6 := fun h _ => (hb6 h).elim, h7 := nofun, hc := nofun, h9 := fun h => (by have := HTH.out.q9 h; cases this) })
                    | 5, _, hi, hib =>
                      have d4 : b4 = true := ready_dep hi rfl 4 (by kernel_rfl)
                      obtain rfl : b5 = false := by simpa using hib
                      have hb7 : b7 = false := by
                        cases h7 : b7 with
                        | false => rfl
                        | true => exact absurd (HT.q6 (HT.q7 h7)) (by decide)
                      have hb6 : b6 = true → False := fun h => by have := HT.q6 h; cases this
                      subst hb7
                      obtain ⟨g, e1, hg⟩ := HT.h4 d4 rfl
                      subst e1
                      have hb := HT.bel rfl
                      have HC := Lib.hid (ConcatC_any (some ⟨bx1, ox1, none⟩) (some ⟨bx2, ox2, none⟩) n1 n2 c1 c2 l l2 g 2 w' wr.heap.size (HR1w.out.below hb) (HR2w.out.below hb) hb.size hg (by have := HN1.out; omega) (by have := HN2.out; omega))
                      have HBB' := Lib.hid hb
                      clear hb hg
                      clear HT
                      refine wpOp_one rfl rfl (fun K hK => ?_)
                      go_simp
                      refine HC.out.mono ?_
                      rintro e w2 ⟨⟨v, rfl, ho⟩, hb⟩
                      have hoo : OwnC w2 wr.heap.size v (l ++ l2) := ⟨ho.1, by
                        rcases ho.2 with h | ⟨g', cap, cur, hv, hbg, r⟩
                        · exact .inl h
                        · exact .inr ⟨g', cap, cur, hv, Nat.le_trans HBB'.out.size hbg, r⟩⟩
                      exact hK.out _ _ (.mk b0 b1 b2 b3 b4 true b6 false b8 b9 _ _ _ _ _ _ _ _ _ _ { HTH.out with q5 := fun _ => d4, q6 := fun _ => rfl, bel := fun _ => HBB'.out.trans (hb.mono HBB'.out.size), h4 := fun _ h => (by cases h), h5 := fun _ _ => hoo, h6 := fun h _ => (hb6 h).elim, h7 := nofun, hc := nofun, h9 := fun h => (by have := HTH.out.q9 h; cases this) })
                    | 6, _, hi, hib =>
                      have d5 : b5 = true := ready_dep hi rfl 5 (by kernel_rfl)
                      obtain rfl : b6 = false := by simpa using hib
                      have hb7 : b7 = false := by
                        cases h7 : b7 with
                        | false => rfl
                        | true => exact absurd (HT.q7 h7) (by decide)
                      subst hb7
                      have ho := HT.h5 d5 rfl
                      obtain ⟨Al, Lz, cv, hv⟩ : ∃ Al Lz cv, v55 = .slice Al Lz cv := (by obtain ⟨x, y, z⟩ := ho.shape; exact ⟨x, _, y, z⟩)
                      subst hv
                      have HOO := Lib.hid ho
                      have HBB' := Lib.hid (HT.bel rfl)
                      clear ho
                      clear HT
                      refine wpOp_one rfl rfl (fun K hK => ?_)
                      go_simp
                      have hnew := World.alloc_heap_new w' (.cells #[.slice Al Lz cv] 69)
                      exact hK.out _ _ (.mk b0 b1 b2 b3 b4 b5 true false b8 b9 _ _ _ _ _ _ _ _ _ _ { HTH.out with q6 := fun _ => d5, q7 := nofun, bel := fun _ => HBB'.out.alloc HBB'.out.size _, h4 := fun _ h => (by rw [d5] at h; cases h), h5 := fun _ h => (by cases h), h6 := fun _ _ => ⟨_, _, rfl, cell1 hnew, World.ownsRow.alloc HOO.out _⟩, h7 := nofun, hc := nofun, h9 := fun h => (by have := HTH.out.q9 h; cases this) })
                    | 7, _, hi, hib =>
                      have d1 : b1 = true := ready_dep hi rfl 1 (by kernel_rfl)
                      have d6 : b6 = true := ready_dep hi rfl 6 (by kernel_rfl)
                      have hd1 := (HT.h1 d1).symm
                      subst hd1
                      obtain rfl : b7 = false := by simpa using hib
                      have hq9 : b9 = true → False := fun h => by have := HT.q9 h; cases this
                      obtain ⟨g6, vl, e6, hc6, hol⟩ := HT.h6 d6 rfl
                      subst e6
                      obtain ⟨Al, cl, hvl⟩ := hol.shape
                      subst hvl
                      have HBB' := Lib.hid (HT.bel rfl)
                      have HC6 := Lib.hid hc6
                      have HOL := Lib.hid hol
                      have HOv : Hid (OwnV w' (bk5 + 1) v' vs') := Lib.hid (own_kept HOk.out HBB'.out)
                      have HRv : Hid (RowL w' bk5 v' vs' (andR (p.take i) q ++ andRow l (q.take k))) := Lib.hid (HRk.out.map (fun A n l h => h.below HBB'.out))
                      clear hc6 hol
                      clear HT
                      have HIN : Hid (InL w' bk5 v' Al (l ++ l2).length (l ++ l2)) := Lib.hid ⟨HOL.out.rd rfl, fun b off e => by
                        subst e
                        have h1 := own_ge HOL.out b rfl
                        have h2 := own_lt HOL.out b rfl
                        exact ⟨fun e2 => by have h3 := own_lt HOk.out b e2; omega, by have := HZk.out; omega, h2⟩⟩
                      have hsz : bk5 + 1 ≤ w'.heap.size := Nat.le_trans HZk.out HBB'.out.size
                      refine wpOp_one rfl rfl (fun K hK => ?_)
                      refine oper_appL _ _ rfl (bk5 + 1) _ _ rfl HOv.out ⟨g6, 0, none⟩ 1 1 [.slice Al (l ++ l2).length cl] rfl rfl (fun j u hj => ?_) (fun u hu => ?_) ?_ hsz (fun v2 w2 hown hgr hat => ?_)
                      · match j, hj with
                        | 0, hj => have e : some (Value.slice Al (l ++ l2).length cl) = some u := hj; injection e with e; subst e; exact HC6.out
                      · simp only [List.mem_singleton] at hu; subst hu; rfl
                      · have := HVL.out; simp; omega
                      · have hbk : w2.heap[bk5]? = w'.heap[bk5]? := hgr.block bk5 (by omega) (fun e => by have h := own_ge HOv.out bk5 e.symm; omega)
                        have hcc := (HBB'.out.cell (p := ⟨bk5, 0, none⟩) HLB.out).trans HCk.out.1
                        have hcf := (HBB'.out.frozen (p := ⟨bk5, 0, none⟩) HLB.out).trans HCk.out.2
                        exact hK.out _ _ (.mk b0 b1 b2 b3 b4 b5 b6 true b8 b9 _ _ _ _ _ _ _ _ _ _ { HTH.out with q1 := fun _ => d1, q7 := fun _ => d6, q9 := fun h => (hq9 h).elim, bel := nofun, h4 := fun h1 h2 => (by rw [HTH.out.q6 d6] at h2; cases h2), h5 := fun h1 h2 => (by rw [d6] at h2; cases h2), h6 := fun _ h => (by cases h), h7 := fun _ => ⟨⟨_, hown, (HRv.out.snoc (c := cl) HIN.out).map (fun A n l h => h.grown hgr hat)⟩, (HBk.out.trans (HBB'.out.mono (by have := HZk.out; omega))).grown hgr (by omega) (fun g hg => by have h := own_ge HOv.out g hg; omega), Nat.le_trans hsz hgr.size⟩, hc := fun _ _ => ⟨(World.cell?_of_block hbk).trans hcc, (World.frozen?_of_block hbk).trans hcf⟩, h9 := fun h => (hq9 h).elim })
                    | 8, _, hi, hib =>
                      have hdum := True.intro
                      clear HT
                      refine wpOp_one rfl rfl (fun K hK => ?_)
                      go_simp
                      exact hK.out _ _ (.mk b0 b1 b2 b3 b4 b5 b6 b7 true b9 _ _ _ _ _ _ _ _ _ _ { HTH.out with h8 := fun _ => rfl })
                    | 9, _, hi, hib =>
                      have d7 : b7 = true := ready_dep hi rfl 7 (by kernel_rfl)
                      have d8 : b8 = true := ready_dep hi rfl 8 (by kernel_rfl)
                      have hd8 := HT.h8 d8
                      subst hd8
                      obtain rfl : b9 = false := by simpa using hib
                      obtain ⟨⟨v, ho, hr⟩, hbl, hz⟩ := HT.h7 d7
                      obtain ⟨c0, cf⟩ := HT.hc d7 rfl
                      obtain ⟨Av, Lz, cv, hv⟩ : ∃ Av Lz cv, v57 = .slice Av Lz cv := (by obtain ⟨x, y, z⟩ := ho.shape; exact ⟨x, _, y, z⟩)
                      subst hv
                      have HOO := Lib.hid ho
                      have HRO := Lib.hid hr
                      have HBL := Lib.hid (And.intro hbl hz)
                      clear ho hr hbl hz
                      clear HT
                      refine wpOp_one rfl rfl (fun K hK => ?_)
                      go_simp
                      refine hK.out _ _ (.mk b0 b1 b2 b3 b4 b5 b6 b7 b8 true _ _ _ _ _ _ _ _ _ _ { HTH.out with q9 := fun _ => d7, bel := fun h => (by rw [d7] at h; cases h), h4 := fun h1 h2 => (by rw [HTH.out.q6 (HTH.out.q7 d7)] at h2; cases h2), h5 := fun h1 h2 => (by rw [HTH.out.q7 d7] at h2; cases h2), h6 := fun _ h => (by rw [d7] at h; cases h), h7 := fun _ => ⟨⟨v, ?_, HRO.out.map (fun A n l h => h.setBox (Nat.le_refl _))⟩, HBL.out.1.setCell (p := ⟨bk5, 0, none⟩) (Nat.le_refl _) _, by simpa using HBL.out.2⟩, hc := fun _ h => (by cases h), h9 := fun _ => ⟨World.cell?_setCell_same _ _ _ c0, by simp [cf]⟩ })
                      have h := HOO.out
                      refine ⟨h.1, ?_⟩
                      rcases h.2 with h | ⟨g', cap, cur, hv, hbg, hh, r⟩
                      · exact .inl h
                      · refine .inr ⟨g', cap, cur, hv, hbg, ?_, r⟩
                        rw [Below.heap_setCell _ _ _ _ (by show g' ≠ bk5; omega)]
                        exact hh
                  case fin =>
                    rintro lq a' w' ⟨b0, b1, b2, b3, b4, b5, b6, b7, b8, b9, v50, v51, v52, v53, v54, v55, v56, v57, v58, _, HT⟩ hr
                    obtain rfl : b0 = true := by
                      cases b0 with
                      | true => rfl
                      | false => exact (ready_in 0 rfl rfl (by simp [Region.binds]) hr).elim
                    obtain rfl : b1 = true := by
                      cases b1 with
                      | true => rfl
                      | false => exact (ready_in 1 rfl rfl (by simp [Region.binds]) hr).elim
                    obtain rfl : b2 = true := by
                      cases b2 with
                      | true => rfl
                      | false => exact (ready_in 2 rfl rfl (by simp [Region.binds]) hr).elim
                    obtain rfl : b3 = true := by
                      cases b3 with
                      | true => rfl
                      | false => exact (ready_in 3 rfl rfl (by simp [Region.binds]) hr).elim
                    obtain rfl : b4 = true := by
                      cases b4 with
                      | true => rfl
                      | false => exact (ready_in 4 rfl rfl (by simp [Region.binds]) hr).elim
                    obtain rfl : b5 = true := by
                      cases b5 with
                      | true => rfl
                      | false => exact (ready_in 5 rfl rfl (by simp [Region.binds]) hr).elim
                    obtain rfl : b6 = true := by
                      cases b6 with
                      | true => rfl
                      | false => exact (ready_in 6 rfl rfl (by simp [Region.binds]) hr).elim
                    obtain rfl : b7 = true := by
                      cases b7 with
                      | true => rfl
                      | false => exact (ready_in 7 rfl rfl (by simp [Region.binds]) hr).elim
                    obtain rfl : b8 = true := by
                      cases b8 with
                      | true => rfl
                      | false => exact (ready_in 8 rfl rfl (by simp [Region.binds]) hr).elim
                    obtain rfl : b9 = true := by
                      cases b9 with
                      | true => rfl
                      | false => exact (ready_in 9 rfl rfl (by simp [Region.binds]) hr).elim
                    obtain ⟨⟨vn, hon, hrn⟩, hbn, hzn⟩ := HT.h7 rfl
                    have HC9 := Lib.hid (HT.h9 rfl)
                    have HON := Lib.hid hon
                    have HRN := Lib.hid hrn
                    have HBN := Lib.hid hbn
                    have HZN := Lib.hid hzn
                    clear HT hr hon hrn hbn hzn
                    show _
                    go_wp2
                    go_roundw
                    case rel => exact ⟨k + 1, _, _, by omega, rfl, HDK2, HC9, HON, Lib.hid (by rw [HTS.out]; exact HRN.out), HBN, HZN⟩
                    case measure => simp [intOf]; omega
              · have hdk : decide ((k : Int) < (n : Int)) = false := decide_eq_false (by omega)
                have hkk : q.take k = q := by rw [List.take_of_length_le (by rw [HLQ.out]; omega)]
                have HRo : Hid (RowL wr bk5 v' vs' (andR (p.take (i + 1)) q)) := Lib.hid (by rw [take_snocR (by rw [HLP.out]; exact HIL.out), HLL.out, andR_snoc]; have h := HRk.out; rw [hkk] at h; exact h)
                have HDo : Hid (∀ j, j < i + 1 → (q.all (fun l2 => decide ((lsAt p j).length + l2.length ≤ 8))) = true) := Lib.hid (fun j hj => by
                  rcases Nat.lt_succ_iff_lt_or_eq.1 hj with h | h
                  · exact HD.out j h
                  · subst h
                    rw [HLL.out]
                    exact allR_at (p := fun l2 => decide (l.length + l2.length ≤ 8)) (fun x hx => HDk.out x (by rw [HLQ.out] at hx; omega)))
                clear hkk
                go_wp2
                go_roundw
                case rel => exact ⟨i + 1, _, _, by have := HIL.out; omega, rfl, HDo, HCk, HOk, HRo, HBk, HZk⟩
                case measure => have := HIL.out; simp [intOf]; omega
          · have hd : decide ((i : Int) < (m : Int)) = false := decide_eq_false (by omega)
            have hii : p.take i = p := by rw [List.take_of_length_le (by rw [HLP.out]; omega)]
            rw [hii] at HR
            clear hii
            have HT : Hid (andFit p q = true) := Lib.hid (by unfold andFit; exact allR_at (p := fun l => q.all (fun l2 => decide (l.length + l2.length ≤ 8))) (fun j hj => HD.out j (by rw [HLP.out] at hj; omega)))
            have HLN : Hid ((andR p q).length = m * n) := Lib.hid (by rw [andR_len, HLP.out, HLQ.out])
            obtain ⟨Av, cv, hv⟩ := HO.out.shape
            rw [HR.out.1, HLN.out] at hv
            subst hv
            have x0 := HC.out.1
            have hx4 : wo.heap[w.heap.size + 1 + 1]? = some (.cells #[.slice none 0 0] 48) := (HB.out.block _ HLW.out.2.2).trans HX2.out.2.2
            have y0 : wo.cell? ⟨w.heap.size + 1 + 1, 0, none⟩ = some (.slice none 0 0) := cell1 hx4
            have yf : wo.frozen? ⟨w.heap.size + 1 + 1, 0, none⟩ = false := by simp only [World.frozen?, hx4]; rfl
            have g0 : ∀ u, (wo.setCell ⟨w.heap.size + 1 + 1, 0, none⟩ u).cell? ⟨w.heap.size + 1 + 1, 0, none⟩ = some u := fun u => World.cell?_setCell_same _ _ _ y0
            have HBS2 : Hid (∀ u, Below w.heap.size w (wo.setCell ⟨w.heap.size + 1 + 1, 0, none⟩ u)) := Lib.hid (fun u => (HB2.out.trans (HB.out.mono (by have := HLW.out; omega))).setCell (p := ⟨w.heap.size + 1 + 1, 0, none⟩) (by show w.heap.size ≤ w.heap.size + 1 + 1; omega) u)
            have HRD : Hid (∀ u, RdR (wo.setCell ⟨w.heap.size + 1 + 1, 0, none⟩ u) (wo.setCell ⟨w.heap.size + 1 + 1, 0, none⟩ u).heap.size Av (m * n) (andR p q)) := Lib.hid (fun u => by
              have h1 := HR.out.map (fun A n l h => h.setBox (u := u) (k := w.heap.size + 1 + 1) (by have := HLW.out; omega))
              refine RowL.rd h1 (base := bk5 + 1) ?_ HLN.out
              have h := HO.out
              refine ⟨h.1, ?_⟩
              rcases h.2 with h | ⟨g', cap, cur, hv, hbg, hh, r⟩
              · exact .inl h
              · refine .inr ⟨g', cap, cur, hv, hbg, ?_, r⟩
                rw [Below.heap_setCell _ _ _ _ (by have := HLW.out; show g' ≠ w.heap.size + 1 + 1; omega)]
                exact hh)
            clear hx4
            go_wp2
            refine bodyPost_ret (v := .tuple #[.agg #[.slice Av (m * n) cv], .int .i64 0]) (by simp [results, Tryd.results41, go_sem, g0]) rfl ⟨?_, HBS2.out _⟩
            unfold AndA
            rw [if_neg (by rw [HRP.out, HRQ.out]; decide), if_neg (by rw [HAND.out, HT.out]; decide), HLP.out, HLQ.out]
            exact ⟨Av, cv, rfl, HRD.out _⟩
end Go.Proofs.YtbmhjmdbolnbaaaDoor
