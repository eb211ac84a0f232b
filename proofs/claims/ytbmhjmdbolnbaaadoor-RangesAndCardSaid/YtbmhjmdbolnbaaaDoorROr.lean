/-
  CONTRACT: Or (printed by genror.py).
-/
import Derived.Test.YtbmhjmdbolnbaaaDoorRAnd
namespace Go.Proofs.YtbmhjmdbolnbaaaDoor
open Go.RowKit
open SemP
set_option linter.unusedVariables false
set_option linter.unusedSimpArgs false
set_option maxRecDepth 100000
/-- What Or answers. -/
def OrA (p q : List (List CV)) (e : Ending) (w' : World) : Prop :=
  if (rightR p && rightR q) = false then e = .returned (.tuple #[.agg #[.slice none 0 0], .int .i64 12])
  else if decide (p.length + q.length ≤ 8) = false then e = .returned (.tuple #[.agg #[.slice none 0 0], .int .i64 11])
  else ∃ A c, e = .returned (.tuple #[.agg #[.slice A (p.length + q.length) c], .int .i64 0]) ∧ RdR w' w'.heap.size A (p.length + q.length) (p ++ q)
theorem lsAt_left {p q : List (List CV)} {i : Nat} (h : i < p.length) : lsAt (p ++ q) i = lsAt p i := by simp [lsAt, List.getD, List.getElem?_append_left h]
theorem lsAt_right {p q : List (List CV)} {i : Nat} (h : p.length ≤ i) : lsAt (p ++ q) i = lsAt q (i - p.length) := by simp [lsAt, List.getD, List.getElem?_append_right h]
structure OrSt (wr W2 W4 : World) (bk5 : Nat) (vo : Value) (vs : List Value) (rr : List (List CV)) (s1 : Value) (l : List CV) (b0 b1 b2 b3 b4 b5 b6 b7 : Bool) (v38 v39 v40 v41 v42 v43 v44 : Value) (w' : World) : Prop where
  q1 : b5 = true → b1 = true
  q4 : b4 = true → b3 = true
  q5 : b5 = true → b4 = true
  q7 : b7 = true → b5 = true
  bel : b5 = false → Below wr.heap.size wr w'
  h0 : b0 = true → v38 = .pointer (some ⟨bk5, 0, none⟩)
  h1 : b1 = true → v39 = vo
  h2 : b2 = true → v40 = s1
  h3 : b3 = true → b4 = false → OwnC w' wr.heap.size v41 l
  h4 : b4 = true → b5 = false → ∃ g v, v42 = .slice (some ⟨g, 0, none⟩) 1 1 ∧ w'.cell? ⟨g, 0, none⟩ = some v ∧ OwnC w' wr.heap.size v l
  h5 : b5 = true → (∃ v, OwnV w' W4.heap.size v43 (vs ++ [v]) ∧ RowL w' bk5 v43 (vs ++ [v]) (rr ++ [l])) ∧ Below bk5 W2 w' ∧ W4.heap.size ≤ w'.heap.size ∧ (∀ g, g < W4.heap.size → g ≠ bk5 → w'.heap[g]? = W4.heap[g]?)
  hc : b5 = true → b7 = false → w'.cell? ⟨bk5, 0, none⟩ = some vo ∧ w'.frozen? ⟨bk5, 0, none⟩ = false
  h6 : b6 = true → v44 = .pointer (some ⟨bk5, 0, none⟩)
  h7 : b7 = true → w'.cell? ⟨bk5, 0, none⟩ = some v43 ∧ w'.frozen? ⟨bk5, 0, none⟩ = false
inductive OrJ (wr W2 W4 : World) (bk5 : Nat) (vo : Value) (vs : List Value) (rr : List (List CV)) (s1 : Value) (l : List CV) (p0 p1 p2 p3 p4 p5 p6 p7 p8 p9 p10 p11 p12 p13 p14 p15 p16 p17 p18 p19 p20 p21 p22 p23 p24 p25 p26 p27 p28 p29 p30 p31 p32 p33 p34 p35 p36 p37 p45 p46 : Value) : Array Bool → Act → World → Prop where
  | mk (b0 b1 b2 b3 b4 b5 b6 b7 : Bool) (v38 v39 v40 v41 v42 v43 v44 : Value) (w' : World) : OrSt wr W2 W4 bk5 vo vs rr s1 l b0 b1 b2 b3 b4 b5 b6 b7 v38 v39 v40 v41 v42 v43 v44 w' → OrJ wr W2 W4 bk5 vo vs rr s1 l p0 p1 p2 p3 p4 p5 p6 p7 p8 p9 p10 p11 p12 p13 p14 p15 p16 p17 p18 p19 p20 p21 p22 p23 p24 p25 p26 p27 p28 p29 p30 p31 p32 p33 p34 p35 p36 p37 p45 p46 #[b0, b1, b2, b3, b4, b5, b6, b7] { tmps := List.toArray (p0 :: p1 :: p2 :: p3 :: p4 :: p5 :: p6 :: p7 :: p8 :: p9 :: p10 :: p11 :: p12 :: p13 :: p14 :: p15 :: p16 :: p17 :: p18 :: p19 :: p20 :: p21 :: p22 :: p23 :: p24 :: p25 :: p26 :: p27 :: p28 :: p29 :: p30 :: p31 :: p32 :: p33 :: p34 :: p35 :: p36 :: p37 :: v38 :: v39 :: v40 :: v41 :: v42 :: v43 :: v44 :: p45 :: p46 :: []), defers := [] } w'
set_option maxHeartbeats 32000000 in
theorem Or_any (A : Option Addr) (m cp : Nat) (p : List (List CV)) (B : Option Addr) (n cq : Nat) (q : List (List CV)) (w : World) (B0 : Nat) (hp : RdR w B0 A m p) (hq : RdR w B0 B n q) (hB : B0 ≤ w.heap.size) (hfp : Fits p) (hfq : Fits q) (hm20 : m ≤ 20) (hn20 : n ≤ 20) (hm : LenAt w) (h1 : 1 < w.heap.size) :
    Calls Tryd.prog 42 #[.agg #[.slice A m cp], .agg #[.slice B n cq]] w fun e w' => OrA p q e w' ∧ Below w.heap.size w w' := by
  obtain ⟨W0, hW0⟩ : ∃ W0, ((w.alloc (.cells #[.slice A m cp] 48)).alloc (.cells #[.slice B n cq] 48)).alloc (.cells #[.slice none 0 0] 48) = W0 := ⟨_, rfl⟩
  have hz0 : W0.heap.size = w.heap.size + 3 := by rw [← hW0]; simp
  have hb0 : Below w.heap.size w W0 := by rw [← hW0]; exact (((Below.refl _ w).alloc (Nat.le_refl _) _).alloc (by simp) _).alloc (by simp; omega) _
  have hX0 : W0.heap[w.heap.size]? = some (.cells #[.slice A m cp] 48) := by
    rw [← hW0, Below.heap_alloc _ _ _ (by simp; omega), Below.heap_alloc _ _ _ (by simp)]; exact World.alloc_heap_new _ _
  have hX1 : W0.heap[w.heap.size + 1]? = some (.cells #[.slice B n cq] 48) := by
    rw [← hW0, Below.heap_alloc _ _ _ (by simp)]
    have h := World.alloc_heap_new (w.alloc (.cells #[.slice A m cp] 48)) (.cells #[.slice B n cq] 48)
    rw [World.size_alloc] at h; exact h
  have hX2 : W0.heap[w.heap.size + 1 + 1]? = some (.cells #[.slice none 0 0] 48) := by
    rw [← hW0]
    have h := World.alloc_heap_new ((w.alloc (.cells #[.slice A m cp] 48)).alloc (.cells #[.slice B n cq] 48)) (.cells #[.slice none 0 0] 48)
    rw [World.size_alloc, World.size_alloc] at h; exact h
  have HX := Lib.hid (And.intro hX0 (And.intro hX1 hX2))
  have HL0 : Hid (w.heap.size < W0.heap.size ∧ w.heap.size + 1 < W0.heap.size ∧ w.heap.size + 1 + 1 < W0.heap.size) := Lib.hid ⟨by omega, by omega, by omega⟩
  have HM0 := Lib.hid (hm.below h1 hb0)
  have HB0 := Lib.hid hb0
  have HW0 := Lib.hid hW0
  have HP0 : Hid (RdR W0 B0 A m p) := Lib.hid (hp.below (hb0.mono hB))
  have HQ0 : Hid (RdR W0 B0 B n q) := Lib.hid (hq.below (hb0.mono hB))
  have HBB := Lib.hid hB
  have HLP := Lib.hid hp.1
  have HLQ := Lib.hid hq.1
  have HF := Lib.hid (And.intro hfp hfq)
  have H20 := Lib.hid (And.intro hm20 hn20)
  have HC := Lib.hid (RgRight_any A m cp p W0 B0 HP0.out (Nat.le_trans hB hb0.size) hfp (by omega) HM0.out.1 HM0.out.2)
  have c1 := cell1 hX0
  rw [← hW0] at c1
  clear hp hq hB hfp hfq hb0 hW0 hX0 hX1 hX2 hz0 hm20 hn20 hm h1
  go_enter Tryd.func42, Tryd.ntmps42
  go_wp2_with fail
  try rw [show ((w.alloc (.cells #[.slice A m cp] 48)).alloc (.cells #[.slice B n cq] 48)).alloc (.cells #[.slice none 0 0] 48) = W0 from HW0.out]
  refine HC.out.mono ?_
  rintro e W1 ⟨rfl, hb⟩
  clear HC c1
  have HB01 := Lib.hid hb
  have HM1 := Lib.hid (HM0.out.1.below HM0.out.2 hb)
  have HP1 : Hid (RdR W1 B0 A m p) := Lib.hid (HP0.out.below (hb.mono (Nat.le_trans HBB.out HB0.out.size)))
  have HQ1 : Hid (RdR W1 B0 B n q) := Lib.hid (HQ0.out.below (hb.mono (Nat.le_trans HBB.out HB0.out.size)))
  have HX1 : Hid (W1.heap[w.heap.size]? = some (.cells #[.slice A m cp] 48) ∧ W1.heap[w.heap.size + 1]? = some (.cells #[.slice B n cq] 48) ∧ W1.heap[w.heap.size + 1 + 1]? = some (.cells #[.slice none 0 0] 48)) := Lib.hid ⟨(hb.block _ HL0.out.1).trans HX.out.1, (hb.block _ HL0.out.2.1).trans HX.out.2.1, (hb.block _ HL0.out.2.2).trans HX.out.2.2⟩
  have HL1 : Hid (w.heap.size < W1.heap.size ∧ w.heap.size + 1 < W1.heap.size ∧ w.heap.size + 1 + 1 < W1.heap.size) := Lib.hid ⟨Nat.lt_of_lt_of_le HL0.out.1 hb.size, Nat.lt_of_lt_of_le HL0.out.2.1 hb.size, Nat.lt_of_lt_of_le HL0.out.2.2 hb.size⟩
  have HB1 : Hid (Below w.heap.size w W1) := Lib.hid (HB0.out.trans (hb.mono HB0.out.size))
  clear hb
  cases hrp : rightR p with
  | false =>
    have HN : Hid (∀ w', OrA p q (.returned (.tuple #[.agg #[.slice none 0 0], .int .i64 12])) w') := Lib.hid (fun w' => by unfold OrA; rw [if_pos (by rw [hrp]; rfl)])
    have x0 := cell1 HX1.out.2.2
    have xf : W1.frozen? ⟨w.heap.size + 1 + 1, 0, none⟩ = false := by simp only [World.frozen?, HX1.out.2.2]; rfl
    have HBS : Hid (∀ u, Below w.heap.size w (W1.setCell ⟨w.heap.size + 1 + 1, 0, none⟩ u)) := Lib.hid (fun u => HB1.out.setCell (p := ⟨w.heap.size + 1 + 1, 0, none⟩) (by show w.heap.size ≤ w.heap.size + 1 + 1; omega) u)
    clear hrp
    go_wp2
    refine bodyPost_ret (v := .tuple #[.agg #[.slice none 0 0], .int .i64 12]) (by simp [results, Tryd.results42, go_sem, x0]) rfl ⟨HN.out _, HBS.out _⟩
  | true =>
    have HRP := Lib.hid hrp
    have HC := Lib.hid (RgRight_any B n cq q W1 B0 HQ1.out (Nat.le_trans HBB.out HB1.out.size) HF.out.2 (by have := H20.out; omega) HM1.out.1 HM1.out.2)
    have c2 := cell1 HX1.out.2.1
    clear hrp
    go_wp2_with fail
    refine HC.out.mono ?_
    rintro e W2 ⟨rfl, hb⟩
    clear HC c2
    have HM2 := Lib.hid (HM1.out.1.below HM1.out.2 hb)
    have HB2 : Hid (Below w.heap.size w W2) := Lib.hid (HB1.out.trans (hb.mono HB1.out.size))
    have HP2 : Hid (RdR W2 B0 A m p) := Lib.hid (HP1.out.below (hb.mono (Nat.le_trans HBB.out HB1.out.size)))
    have HQ2 : Hid (RdR W2 B0 B n q) := Lib.hid (HQ1.out.below (hb.mono (Nat.le_trans HBB.out HB1.out.size)))
    have HX2 : Hid (W2.heap[w.heap.size]? = some (.cells #[.slice A m cp] 48) ∧ W2.heap[w.heap.size + 1]? = some (.cells #[.slice B n cq] 48) ∧ W2.heap[w.heap.size + 1 + 1]? = some (.cells #[.slice none 0 0] 48)) := Lib.hid ⟨(hb.block _ HL1.out.1).trans HX1.out.1, (hb.block _ HL1.out.2.1).trans HX1.out.2.1, (hb.block _ HL1.out.2.2).trans HX1.out.2.2⟩
    have HL2 : Hid (w.heap.size < W2.heap.size ∧ w.heap.size + 1 < W2.heap.size ∧ w.heap.size + 1 + 1 < W2.heap.size) := Lib.hid ⟨Nat.lt_of_lt_of_le HL1.out.1 hb.size, Nat.lt_of_lt_of_le HL1.out.2.1 hb.size, Nat.lt_of_lt_of_le HL1.out.2.2 hb.size⟩
    clear hb
    have x0 := cell1 HX2.out.2.2
    have xf : W2.frozen? ⟨w.heap.size + 1 + 1, 0, none⟩ = false := by simp only [World.frozen?, HX2.out.2.2]; rfl
    have x1 := cell1 HX2.out.1
    have x2 := cell1 HX2.out.2.1
    have HBS : Hid (∀ u, Below w.heap.size w (W2.setCell ⟨w.heap.size + 1 + 1, 0, none⟩ u)) := Lib.hid (fun u => HB2.out.setCell (p := ⟨w.heap.size + 1 + 1, 0, none⟩) (by show w.heap.size ≤ w.heap.size + 1 + 1; omega) u)
    cases hrq : rightR q with
    | false =>
      have HN : Hid (∀ w', OrA p q (.returned (.tuple #[.agg #[.slice none 0 0], .int .i64 12])) w') := Lib.hid (fun w' => by unfold OrA; rw [if_pos (by rw [hrq, Bool.and_false])])
      clear hrq
      go_wp2
      refine bodyPost_ret (v := .tuple #[.agg #[.slice none 0 0], .int .i64 12]) (by simp [results, Tryd.results42, go_sem, x0]) rfl ⟨HN.out _, HBS.out _⟩
    | true =>
      have HRQ := Lib.hid hrq
      have H8 : Hid ((1 ≤ m ∧ m ≤ 8) ∧ (1 ≤ n ∧ n ≤ 8)) := Lib.hid ⟨by rw [← HLP.out]; exact rightR_len HRP.out, by rw [← HLQ.out]; exact rightR_len hrq⟩
      have hmw : IntKind.i64.wrap ((m : Int) + (n : Int)) = (m : Int) + (n : Int) := by rw [IntWalk.i64_in _ (by have := H8.out; omega)]
      clear hrq
      by_cases h8 : 8 < m + n
      · have d8 : decide (8 < (m : Int) + (n : Int)) = true := decide_eq_true (by omega)
        have HN : Hid (∀ w', OrA p q (.returned (.tuple #[.agg #[.slice none 0 0], .int .i64 11])) w') := Lib.hid (fun w' => by
          unfold OrA; rw [if_neg (by rw [HRP.out, HRQ.out]; decide), if_pos (by rw [HLP.out, HLQ.out, decide_eq_false (by omega)])])
        clear h8
        go_wp2
        refine bodyPost_ret (v := .tuple #[.agg #[.slice none 0 0], .int .i64 11]) (by simp [results, Tryd.results42, go_sem, x0]) rfl ⟨HN.out _, HBS.out _⟩
      · have d8 : decide (8 < (m : Int) + (n : Int)) = false := decide_eq_false (by omega)
        have HS8 : Hid (m + n ≤ 8) := Lib.hid (by omega)
        clear h8
        obtain ⟨bk5, hb5⟩ : ∃ bk5, W2.heap.size = bk5 := ⟨_, rfl⟩
        obtain ⟨W3, hW3⟩ : ∃ W3, W2.alloc (.cells #[.slice none 0 0] 48) = W3 := ⟨_, rfl⟩
        have HX3 : Hid (W3.heap[bk5]? = some (.cells #[.slice none 0 0] 48)) := Lib.hid (by rw [← hW3, ← hb5]; exact World.alloc_heap_new _ _)
        have HZ3 : Hid (W3.heap.size = bk5 + 1) := Lib.hid (by rw [← hW3, ← hb5]; simp)
        have HB23 : Hid (Below bk5 W2 W3) := Lib.hid (by rw [← hW3, ← hb5]; exact (Below.refl _ W2).alloc (Nat.le_refl _) _)
        have HLW : Hid (w.heap.size < bk5 ∧ w.heap.size + 1 < bk5 ∧ w.heap.size + 1 + 1 < bk5) := Lib.hid (by rw [← hb5]; exact HL2.out)
        obtain ⟨ba, oa, va, hA, hbl, hvl, hvc, hvr⟩ := vals_of HP2.out H8.out.1.1
        subst hA
        obtain ⟨bb, ob, vb, hA, hbl', hvl', hvc', hvr'⟩ := vals_of HQ2.out H8.out.2.1
        subst hA
        have y1 : (W2.alloc (.cells #[.slice none 0 0] 48)).cell? ⟨w.heap.size, 0, none⟩ = some (.slice (some ⟨ba, oa, none⟩) m cp) := cell1 ((Below.heap_alloc _ _ _ HL2.out.1).trans HX2.out.1)
        have y2 : (W2.alloc (.cells #[.slice none 0 0] 48)).cell? ⟨w.heap.size + 1, 0, none⟩ = some (.slice (some ⟨bb, ob, none⟩) n cq) := cell1 ((Below.heap_alloc _ _ _ HL2.out.2.1).trans HX2.out.2.1)
        obtain ⟨W5, hW5⟩ : ∃ W5, W3.alloc (.cells #[.slice (some ⟨ba, oa, none⟩) m cp, .slice (some ⟨bb, ob, none⟩) n cq] 46 (0, 0)) = W5 := ⟨_, rfl⟩
        have HX5 : Hid (W5.heap[bk5 + 1]? = some (.cells #[.slice (some ⟨ba, oa, none⟩) m cp, .slice (some ⟨bb, ob, none⟩) n cq] 46 (0, 0))) := Lib.hid (by rw [← hW5, ← HZ3.out]; exact World.alloc_heap_new _ _)
        have HZ5 : Hid (W5.heap.size = bk5 + 1 + 1) := Lib.hid (by rw [← hW5]; simp [HZ3.out])
        have hb35 : Below W3.heap.size W3 W5 := by rw [← hW5]; exact (Below.refl _ W3).alloc (Nat.le_refl _) _
        have HB25 : Hid (Below bk5 W2 W5) := Lib.hid (HB23.out.trans (hb35.mono (by rw [HZ3.out]; omega)))
        have HY5 : Hid (W5.heap[bk5]? = some (.cells #[.slice none 0 0] 48)) := Lib.hid ((hb35.block bk5 (by rw [HZ3.out]; omega)).trans HX3.out)
        have ee : ∀ b o x, (Addr.add ⟨b, o, none⟩ x) = ⟨b, o + x, none⟩ := fun b o x => by unfold Addr.add; by_cases h0 : x = 0 <;> simp [h0]
        have hone : ∀ {k B : Nat} {vals : List Value} {r : List (List CV)}, vals.length = k → (∀ j, j < k → ∃ Aj nj cj, vals[j]? = some (.slice Aj nj cj) ∧ RdC W2 B Aj nj (lsAt r j)) → ∀ u ∈ vals, u.oneCell' = true := by
          intro k B vals r hl h u hu
          obtain ⟨j, hj, rfl⟩ := List.getElem_of_mem hu
          obtain ⟨Aj, nj, cj, h1, _⟩ := h j (by omega)
          rw [List.getElem?_eq_getElem hj] at h1
          injection h1 with h1
          rw [h1]; rfl
        have hcel : ∀ {b o k : Nat} {vals : List Value}, vals.length = k → b < B0 → (∀ j, j < k → W2.cell? ⟨b, o + j, none⟩ = vals[j]?) → ∀ j u, vals[j]? = some u → W5.cell? (Addr.add ⟨b, o, none⟩ j) = some u ∧ (Addr.add ⟨b, o, none⟩ j).block < W5.heap.size := by
          intro b o k vals hl hb h j u hj
          have hjm : j < k := by rw [← hl]; exact (List.getElem?_eq_some_iff.1 hj).1
          rw [ee]
          have h1 := HBB.out
          have h2 := HLW.out
          exact ⟨(HB25.out.cell (p := ⟨b, o + j, none⟩) (by show b < bk5; omega)).trans ((h j hjm).trans hj), by show b < W5.heap.size; rw [HZ5.out]; omega⟩
        have HC := Lib.hid (ConcatL_any ba oa bb ob m n cp cq va vb (bk5 + 1) 2 W5 (hcel hvl hbl hvc) (hcel hvl' hbl' hvc') hvl hvl' (hone hvl hvr) (hone hvl' hvr') HX5.out (by have := H8.out; omega) (by have := H8.out; omega))
        have HEL : Hid (∀ j, j < m + n → ∃ Aj nj cj, (va ++ vb)[j]? = some (.slice Aj nj cj) ∧ RdC W2 B0 Aj nj (lsAt (p ++ q) j)) := Lib.hid (fun j hj => by
          by_cases hjm : j < m
          · obtain ⟨Aj, nj, cj, h1, h2⟩ := hvr j hjm
            exact ⟨Aj, nj, cj, by rw [List.getElem?_append_left (by omega)]; exact h1, by rw [lsAt_left (by rw [HLP.out]; exact hjm)]; exact h2⟩
          · obtain ⟨Aj, nj, cj, h1, h2⟩ := hvr' (j - m) (by omega)
            exact ⟨Aj, nj, cj, by rw [List.getElem?_append_right (by omega), hvl]; exact h1, by rw [lsAt_right (by rw [HLP.out]; omega), HLP.out]; exact h2⟩)
        have HVV : Hid ((va ++ vb).length = m + n) := Lib.hid (by rw [List.length_append, hvl, hvl'])
        have HPQ : Hid ((p ++ q).length = m + n) := Lib.hid (by rw [List.length_append, HLP.out, HLQ.out])
        have HW3 := Lib.hid hW3
        have HW5 := Lib.hid hW5
        have HB5 := Lib.hid hb5
        clear hvl hvl' hbl hbl' hvc hvc' hvr hvr' hone hcel ee hb35 hW3 hW5 hb5
        go_wp2_with fail
        try rw [show W2.alloc (.cells #[.slice none 0 0] 48) = W3 from HW3.out]
        try rw [show W3.alloc (.cells #[.slice (some ⟨ba, oa, none⟩) m cp, .slice (some ⟨bb, ob, none⟩) n cq] 46 (0, 0)) = W5 from HW5.out]
        try rw [show W3.heap.size = bk5 + 1 from HZ3.out]
        try rw [show W2.heap.size = bk5 from HB5.out]
        clear x0 xf x1 x2 y1 y2 d8 hmw
        refine HC.out.mono ?_
        rintro e W4 ⟨⟨vc, rfl, hoc⟩, hb⟩
        obtain ⟨gC, cC, hvC, hgC, hgl⟩ := World.ownsRow.form hoc (by rw [HVV.out]; have := H8.out; omega)
        rw [HVV.out] at hvC
        subst hvC
        have HB24 : Hid (Below bk5 W2 W4) := Lib.hid (HB25.out.trans (hb.mono (by rw [HZ5.out]; omega)))
        have HZ4 : Hid (bk5 + 1 ≤ W4.heap.size) := Lib.hid (by have h := hb.size; rw [HZ5.out] at h; omega)
        have HY4 : Hid (W4.heap[bk5]? = some (.cells #[.slice none 0 0] 48)) := Lib.hid ((hb.block bk5 (by rw [HZ5.out]; omega)).trans HY5.out)
        have HGC : Hid (gC ≠ bk5 ∧ gC < W4.heap.size) := Lib.hid ⟨by rw [HZ5.out] at hgC; omega, hgl⟩
        have HCC : Hid (∀ j u, (va ++ vb)[j]? = some u → W4.cell? ⟨gC, 0 + j, none⟩ = some u) := Lib.hid (fun j u hj => by
          have k := World.ownsRow.cells hoc (g := gC) rfl _ _ hj
          have ee : (Addr.add ⟨gC, 0, none⟩ j) = ⟨gC, 0 + j, none⟩ := by unfold Addr.add; by_cases h0 : j = 0 <;> simp [h0]
          rw [ee] at k
          exact k)
        obtain ⟨N, hN⟩ : ∃ N, m + n = N := ⟨_, rfl⟩
        have HNN := Lib.hid hN
        rw [hN]
        clear hb hoc hgC hgl hN HC
        go_wp2_with fail
        go_loopw [8, 34] (fun v8 v34 wr => ∃ (i : Nat) (v : Value) (vs : List Value), i ≤ N ∧ v34 = .int .i64 (i : Int) ∧ Hid (wr.cell? ⟨bk5, 0, none⟩ = some v ∧ wr.frozen? ⟨bk5, 0, none⟩ = false) ∧ Hid (OwnV wr W4.heap.size v vs) ∧ Hid (RowL wr bk5 v vs ((p ++ q).take i)) ∧ Hid (Below bk5 W2 wr) ∧ Hid (W4.heap.size ≤ wr.heap.size) ∧ Hid (∀ g, g < W4.heap.size → g ≠ bk5 → wr.heap[g]? = W4.heap[g]?)) (fun _ v _ => N - (intOf v).toNat)
        case atStart => exact ⟨0, .slice none 0 0, [], Nat.zero_le _, rfl, Lib.hid ⟨cell1 HY4.out, by simp only [World.frozen?, HY4.out]; rfl⟩, Lib.hid (World.ownsRow_nil _ _ _ _), Lib.hid (RowL.nil _ _ _), HB24, Lib.hid (Nat.le_refl _), Lib.hid (fun _ _ _ => rfl)⟩
        case round =>
          obtain ⟨i, v', vs', hi, rfl, HCk, HOk, HRk, HBk, HZk, HK4⟩ := hrel
          have HVL : Hid (vs'.length ≤ 8) := Lib.hid (by rw [HRk.out.1, List.length_take]; have := HS8.out; have := HNN.out; omega)
          by_cases hin : i < N
          · have hd : decide ((i : Int) < (N : Int)) = true := decide_eq_true (by omega)
            have hadd : IntKind.i64.wrap ((i : Int) + 1) = ((i + 1 : Nat) : Int) := by rw [IntWalk.i64_in _ (by have := HS8.out; have := HNN.out; omega)]; omega
            have HIL := Lib.hid hin
            obtain ⟨A1, n1, c1, hv1, hr1⟩ := HEL.out i (by rw [HNN.out]; exact hin)
            have qa : wr.cell? ⟨gC, 0 + i, none⟩ = some (.slice A1 n1 c1) := (World.cell?_of_block (HK4.out gC HGC.out.2 HGC.out.1)).trans (HCC.out i _ hv1)
            have qa2 : wr.cell? ⟨gC, i, none⟩ = some (.slice A1 n1 c1) := by simpa using qa
            obtain ⟨l, hl⟩ : ∃ l, lsAt (p ++ q) i = l := ⟨_, rfl⟩
            have HLL := Lib.hid hl
            have HN1 : Hid (l.length = n1 ∧ 1 ≤ n1 ∧ n1 ≤ 8) := Lib.hid (by
              have hm := lsAt_mem (show i < (p ++ q).length by rw [HPQ.out, HNN.out]; exact hin)
              have h : 1 ≤ (lsAt (p ++ q) i).length ∧ (lsAt (p ++ q) i).length ≤ 8 := by
                rcases List.mem_append.1 hm with h | h
                · exact (rightR_list HRP.out h).1
                · exact (rightR_list HRQ.out h).1
              rw [hr1.1] at h
              rw [← hl]
              exact ⟨hr1.1, h⟩)
            rw [hl] at hr1
            obtain ⟨bx1, ox1, hA1, _, _⟩ := hr1.2 0 (by have := HN1.out; omega)
            subst hA1
            have HLB : Hid (bk5 < wr.heap.size) := Lib.hid (by have := HZk.out; have := HZ4.out; omega)
            have HR1w : Hid (RdC wr wr.heap.size (some ⟨bx1, ox1, none⟩) n1 l) := Lib.hid ((hr1.below (HBk.out.mono (by have := HBB.out; have := HLW.out; omega))).more (by have := HBB.out; have := HLW.out; have := HLB.out; omega))
            have HTS : Hid ((p ++ q).take (i + 1) = (p ++ q).take i ++ [l]) := Lib.hid (by rw [take_snocR (by rw [HPQ.out, HNN.out]; exact hin), hl])
            have hdn : decide (i < N) = true := decide_eq_true hin
            clear hl hr1 hv1
            go_upto_region 9 with fail
            try simp only [hdn]
            clear hin
            refine wp_region_inv (by kernel_rfl) (I := OrJ wr W2 W4 bk5 v' vs' ((p ++ q).take i) (.slice (some ⟨bx1, ox1, none⟩) n1 c1) l _ _ _ _ _ _ _ _ _ _ _ _ _ _ _ _ _ _ _ _ _ _ _ _ _ _ _ _ _ _ _ _ _ _ _ _ _ _ _ _) (.mk false false false false false false false false _ _ _ _ _ _ _ _ ⟨nofun, nofun, nofun, nofun, fun _ => (Below.refl _ wr).drew, nofun, nofun, nofun, nofun, nofun, nofun, nofun, nofun, nofun⟩) ?step ?fin
            case step =>
              rintro lq a' w' ix ⟨b0, b1, b2, b3, b4, b5, b6, b7, v38, v39, v40, v41, v42, v43, v44, _, HT⟩ hi
              obtain ⟨hi_, hib⟩ := ready_lt hi
              have HTH := Lib.hid HT
              match ix, hi_, hi, hib with
              | 0, _, hi, hib =>
                have hdum := True.intro
                clear HT
                refine wpOp_one rfl rfl (fun K hK => ?_)
                go_simp
                exact hK.out _ _ (.mk true b1 b2 b3 b4 b5 b6 b7 _ _ _ _ _ _ _ _ { HTH.out with h0 := fun _ => rfl })
              | 1, _, hi, hib =>
                have d0 : b0 = true := ready_dep hi rfl 0 (by kernel_rfl)
                have hd0 := HT.h0 d0
                subst hd0
                obtain rfl : b1 = false := by simpa using hib
                have hb7 : b5 = false := by
                  cases h7 : b5 with
                  | false => rfl
                  | true => exact absurd (HT.q1 h7) (by decide)
                have hcc : w'.cell? ⟨bk5, 0, none⟩ = some v' := ((HT.bel hb7).cell (p := ⟨bk5, 0, none⟩) HLB.out).trans HCk.out.1
                clear HT
                refine wpOp_one rfl rfl (fun K hK => ?_)
                go_simp
                exact hK.out _ _ (.mk b0 true b2 b3 b4 b5 b6 b7 _ _ _ _ _ _ _ _ { HTH.out with q1 := fun _ => rfl, h1 := fun _ => rfl })
              | 2, _, hi, hib =>
                have hdum := True.intro
                clear HT
                refine wpOp_one rfl rfl (fun K hK => ?_)
                go_simp
                exact hK.out _ _ (.mk b0 b1 true b3 b4 b5 b6 b7 _ _ _ _ _ _ _ _ { HTH.out with h2 := fun _ => rfl })
              | 3, _, hi, hib =>
                have d2 : b2 = true := ready_dep hi rfl 2 (by kernel_rfl)
                have hd2 := HT.h2 d2
                subst hd2
                obtain rfl : b3 = false := by simpa using hib
                have hb7 : b5 = false := by
                  cases h7 : b5 with
                  | false => rfl
                  | true => exact absurd (HT.q4 (HT.q5 h7)) (by decide)
                have hb4 : b4 = true → False := fun h => by have := HT.q4 h; cases this
                subst hb7
                have hb := HT.bel rfl
                have HC := Lib.hid (Clone_any (some ⟨bx1, ox1, none⟩) n1 c1 l w' wr.heap.size (HR1w.out.below hb) hb.size (by have := HN1.out; omega))
                have HBB' := Lib.hid hb
                clear hb
                clear HT
                refine wpOp_one rfl rfl (fun K hK => ?_)
                go_simp
                refine HC.out.mono ?_
                rintro e w2 ⟨⟨v, rfl, ho⟩, hb⟩
                have hoo : OwnC w2 wr.heap.size v l := ⟨ho.1, by
                  rcases ho.2 with h | ⟨g', cap, cur, hv, hbg, r⟩
                  · exact .inl h
                  · exact .inr ⟨g', cap, cur, hv, Nat.le_trans HBB'.out.size hbg, r⟩⟩
                exact hK.out _ _ (.mk b0 b1 b2 true b4 false b6 b7 _ _ _ _ _ _ _ _ { HTH.out with q4 := fun _ => rfl, bel := fun _ => HBB'.out.trans (hb.mono HBB'.out.size), h3 := fun _ _ => hoo, h4 := fun h _ => (hb4 h).elim, h5 := nofun, hc := nofun, h7 := fun h => (by have := HTH.out.q7 h; cases this) })
              | 4, _, hi, hib =>
                have d3 : b3 = true := ready_dep hi rfl 3 (by kernel_rfl)
                obtain rfl : b4 = false := by simpa using hib
                have hb7 : b5 = false := by
                  cases h7 : b5 with
                  | false => rfl
                  | true => exact absurd (HT.q5 h7) (by decide)
                subst hb7
                have ho := HT.h3 d3 rfl
                obtain ⟨Al, Lz, cv, hv⟩ : ∃ Al Lz cv, v41 = .slice Al Lz cv := (by obtain ⟨x, y, z⟩ := ho.shape; exact ⟨x, _, y, z⟩)
                subst hv
                have HOO := Lib.hid ho
                have HBB' := Lib.hid (HT.bel rfl)
                clear ho
                clear HT
                refine wpOp_one rfl rfl (fun K hK => ?_)
                go_simp
                have hnew := World.alloc_heap_new w' (.cells #[.slice Al Lz cv] 69)
                exact hK.out _ _ (.mk b0 b1 b2 b3 true false b6 b7 _ _ _ _ _ _ _ _ { HTH.out with q4 := fun _ => d3, q5 := nofun, bel := fun _ => HBB'.out.alloc HBB'.out.size _, h3 := fun _ h => (by cases h), h4 := fun _ _ => ⟨_, _, rfl, cell1 hnew, World.ownsRow.alloc HOO.out _⟩, h5 := nofun, hc := nofun, h7 := fun h => (by have := HTH.out.q7 h; cases this) })
              | 5, _, hi, hib =>
                have d1 : b1 = true := ready_dep hi rfl 1 (by kernel_rfl)
                have d4 : b4 = true := ready_dep hi rfl 4 (by kernel_rfl)
                have hd1 := (HT.h1 d1).symm
                subst hd1
                obtain rfl : b5 = false := by simpa using hib
                have hq9 : b7 = true → False := fun h => by have := HT.q7 h; cases this
                obtain ⟨g6, vl, e6, hc6, hol⟩ := HT.h4 d4 rfl
                subst e6
                obtain ⟨Al, cl, hvl⟩ := hol.shape
                subst hvl
                have HBB' := Lib.hid (HT.bel rfl)
                have HC6 := Lib.hid hc6
                have HOL := Lib.hid hol
                have HOv : Hid (OwnV w' W4.heap.size v' vs') := Lib.hid (own_kept HOk.out HBB'.out)
                have HRv : Hid (RowL w' bk5 v' vs' ((p ++ q).take i)) := Lib.hid (HRk.out.map (fun A n l h => h.below HBB'.out))
                clear hc6 hol
                clear HT
                have HIN : Hid (InL w' bk5 v' Al l.length l) := Lib.hid ⟨HOL.out.rd rfl, fun b off e => by
                  subst e
                  have h1 := own_ge HOL.out b rfl
                  have h2 := own_lt HOL.out b rfl
                  exact ⟨fun e2 => by have h3 := own_lt HOk.out b e2; omega, by have := HZk.out; have := HZ4.out; omega, h2⟩⟩
                have hsz : W4.heap.size ≤ w'.heap.size := Nat.le_trans HZk.out HBB'.out.size
                refine wpOp_one rfl rfl (fun K hK => ?_)
                refine oper_appL _ _ rfl W4.heap.size _ _ rfl HOv.out ⟨g6, 0, none⟩ 1 1 [.slice Al l.length cl] rfl rfl (fun j u hj => ?_) (fun u hu => ?_) ?_ hsz (fun v2 w2 hown hgr hat => ?_)
                · match j, hj with
                  | 0, hj => have e : some (Value.slice Al l.length cl) = some u := hj; injection e with e; subst e; exact HC6.out
                · simp only [List.mem_singleton] at hu; subst hu; rfl
                · have := HVL.out; simp; omega
                · have hbk : w2.heap[bk5]? = w'.heap[bk5]? := hgr.block bk5 (by have := HZ4.out; omega) (fun e => by have h := own_ge HOv.out bk5 e.symm; have := HZ4.out; omega)
                  have hcc := (HBB'.out.cell (p := ⟨bk5, 0, none⟩) HLB.out).trans HCk.out.1
                  have hcf := (HBB'.out.frozen (p := ⟨bk5, 0, none⟩) HLB.out).trans HCk.out.2
                  exact hK.out _ _ (.mk b0 b1 b2 b3 b4 true b6 b7 _ _ _ _ _ _ _ _ { HTH.out with q1 := fun _ => d1, q5 := fun _ => d4, q7 := fun h => (hq9 h).elim, bel := nofun, h3 := fun h1 h2 => (by rw [d4] at h2; cases h2), h4 := fun _ h => (by cases h), h5 := fun _ => ⟨⟨_, hown, (HRv.out.snoc (c := cl) HIN.out).map (fun A n l h => h.grown hgr hat)⟩, (HBk.out.trans (HBB'.out.mono (by have := HZk.out; have := HZ4.out; omega))).grown hgr (by have := HZ4.out; omega) (fun g hg => by have h := own_ge HOv.out g hg; have := HZ4.out; omega), Nat.le_trans hsz hgr.size, fun g h1 h2 => ((hgr.block g (by omega) (fun e => by have h := own_ge HOv.out g e.symm; omega)).trans (HBB'.out.block g (Nat.lt_of_lt_of_le h1 HZk.out))).trans (HK4.out g h1 h2)⟩, hc := fun _ _ => ⟨(World.cell?_of_block hbk).trans hcc, (World.frozen?_of_block hbk).trans hcf⟩, h7 := fun h => (hq9 h).elim })
              | 6, _, hi, hib =>
                have hdum := True.intro
                clear HT
                refine wpOp_one rfl rfl (fun K hK => ?_)
                go_simp
                exact hK.out _ _ (.mk b0 b1 b2 b3 b4 b5 true b7 _ _ _ _ _ _ _ _ { HTH.out with h6 := fun _ => rfl })
              | 7, _, hi, hib =>
                have d5 : b5 = true := ready_dep hi rfl 5 (by kernel_rfl)
                have d6 : b6 = true := ready_dep hi rfl 6 (by kernel_rfl)
                have hd8 := HT.h6 d6
                subst hd8
                obtain rfl : b7 = false := by simpa using hib
                obtain ⟨⟨v, ho, hr⟩, hbl, hz, hk4⟩ := HT.h5 d5
                obtain ⟨c0, cf⟩ := HT.hc d5 rfl
                obtain ⟨Av, Lz, cv, hv⟩ : ∃ Av Lz cv, v43 = .slice Av Lz cv := (by obtain ⟨x, y, z⟩ := ho.shape; exact ⟨x, _, y, z⟩)
                subst hv
                have HOO := Lib.hid ho
                have HRO := Lib.hid hr
                have HBL := Lib.hid (And.intro hbl (And.intro hz hk4))
                clear ho hr hbl hz hk4
                clear HT
                refine wpOp_one rfl rfl (fun K hK => ?_)
                go_simp
                refine hK.out _ _ (.mk b0 b1 b2 b3 b4 b5 b6 true _ _ _ _ _ _ _ _ { HTH.out with q7 := fun _ => d5, bel := fun h => (by rw [d5] at h; cases h), h3 := fun h1 h2 => (by rw [HTH.out.q5 d5] at h2; cases h2), h4 := fun _ h => (by rw [d5] at h; cases h), h5 := fun _ => ⟨⟨v, ?_, HRO.out.map (fun A n l h => h.setBox (Nat.le_refl _))⟩, HBL.out.1.setCell (p := ⟨bk5, 0, none⟩) (Nat.le_refl _) _, by simpa using HBL.out.2.1, fun g h1 h2 => (Below.heap_setCell _ _ _ _ h2).trans (HBL.out.2.2 g h1 h2)⟩, hc := fun _ h => (by cases h), h7 := fun _ => ⟨World.cell?_setCell_same _ _ _ c0, by simp [cf]⟩ })
                have h := HOO.out
                refine ⟨h.1, ?_⟩
                rcases h.2 with h | ⟨g', cap, cur, hv, hbg, hh, r⟩
                · exact .inl h
                · refine .inr ⟨g', cap, cur, hv, hbg, ?_, r⟩
                  rw [Below.heap_setCell _ _ _ _ (by have := HZ4.out; show g' ≠ bk5; omega)]
                  exact hh
            case fin =>
              rintro lq a' w' ⟨b0, b1, b2, b3, b4, b5, b6, b7, v38, v39, v40, v41, v42, v43, v44, _, HT⟩ hr
              obtain rfl : b0 = true := by
                cases b0 with
                | true => rfl
                | false => exact (ready_in 0 rfl rfl (by simp [Region.binds]) hr).elim
              obtain rfl : b1 = true := by
                cases b1 with
                | true => rfl
                | false => exact (ready_in 1 rfl rfl (by simp [Region.binds]) hr).elim
              obtain rfl : b2 = true := by
                cases b2 with
                | true => rfl
                | false => exact (ready_in 2 rfl rfl (by simp [Region.binds]) hr).elim
              obtain rfl : b3 = true := by
                cases b3 with
                | true => rfl
                | false => exact (ready_in 3 rfl rfl (by simp [Region.binds]) hr).elim
              obtain rfl : b4 = true := by
                cases b4 with
                | true => rfl
                | false => exact (ready_in 4 rfl rfl (by simp [Region.binds]) hr).elim
              obtain rfl : b5 = true := by
                cases b5 with
                | true => rfl
                | false => exact (ready_in 5 rfl rfl (by simp [Region.binds]) hr).elim
              obtain rfl : b6 = true := by
                cases b6 with
                | true => rfl
                | false => exact (ready_in 6 rfl rfl (by simp [Region.binds]) hr).elim
              obtain rfl : b7 = true := by
                cases b7 with
                | true => rfl
                | false => exact (ready_in 7 rfl rfl (by simp [Region.binds]) hr).elim
              obtain ⟨⟨vn, hon, hrn⟩, hbn, hzn, hkn⟩ := HT.h5 rfl
              have HC9 := Lib.hid (HT.h7 rfl)
              have HON := Lib.hid hon
              have HRN := Lib.hid hrn
              have HBN := Lib.hid hbn
              have HZN := Lib.hid hzn
              have HKN := Lib.hid hkn
              clear HT hr hon hrn hbn hzn hkn
              show _
              go_wp2
              go_roundw
              case rel => exact ⟨i + 1, _, _, by have := HIL.out; omega, rfl, HC9, HON, Lib.hid (by rw [HTS.out]; exact HRN.out), HBN, HZN, HKN⟩
              case measure => have := HIL.out; simp [intOf]; omega
          · have hd : decide ((i : Int) < (N : Int)) = false := decide_eq_false (by omega)
            have hii : (p ++ q).take i = p ++ q := by rw [List.take_of_length_le (by rw [HPQ.out, HNN.out]; omega)]
            rw [hii] at HRk
            clear hii
            obtain ⟨Av, cv, hv⟩ := HOk.out.shape
            rw [HRk.out.1, HPQ.out, HNN.out] at hv
            subst hv
            have x0 := HCk.out.1
            have hx4 : wr.heap[w.heap.size + 1 + 1]? = some (.cells #[.slice none 0 0] 48) := (HBk.out.block _ HLW.out.2.2).trans HX2.out.2.2
            have y0 : wr.cell? ⟨w.heap.size + 1 + 1, 0, none⟩ = some (.slice none 0 0) := cell1 hx4
            have yf : wr.frozen? ⟨w.heap.size + 1 + 1, 0, none⟩ = false := by simp only [World.frozen?, hx4]; rfl
            have g0 : ∀ u, (wr.setCell ⟨w.heap.size + 1 + 1, 0, none⟩ u).cell? ⟨w.heap.size + 1 + 1, 0, none⟩ = some u := fun u => World.cell?_setCell_same _ _ _ y0
            have HBS2 : Hid (∀ u, Below w.heap.size w (wr.setCell ⟨w.heap.size + 1 + 1, 0, none⟩ u)) := Lib.hid (fun u => (HB2.out.trans (HBk.out.mono (by have := HLW.out; omega))).setCell (p := ⟨w.heap.size + 1 + 1, 0, none⟩) (by show w.heap.size ≤ w.heap.size + 1 + 1; omega) u)
            have HRD : Hid (∀ u, RdR (wr.setCell ⟨w.heap.size + 1 + 1, 0, none⟩ u) (wr.setCell ⟨w.heap.size + 1 + 1, 0, none⟩ u).heap.size Av N (p ++ q)) := Lib.hid (fun u => by
              have h1 := HRk.out.map (fun A n l h => h.setBox (u := u) (k := w.heap.size + 1 + 1) (by have := HLW.out; omega))
              refine RowL.rd h1 (base := W4.heap.size) ?_ (HPQ.out.trans HNN.out)
              have h := HOk.out
              refine ⟨h.1, ?_⟩
              rcases h.2 with h | ⟨g', cap, cur, hv, hbg, hh, r⟩
              · exact .inl h
              · refine .inr ⟨g', cap, cur, hv, hbg, ?_, r⟩
                rw [Below.heap_setCell _ _ _ _ (by have := HLW.out; have := HZ4.out; show g' ≠ w.heap.size + 1 + 1; omega)]
                exact hh)
            clear hx4
            go_wp2
            refine bodyPost_ret (v := .tuple #[.agg #[.slice Av N cv], .int .i64 0]) (by simp [results, Tryd.results42, go_sem, g0]) rfl ⟨?_, HBS2.out _⟩
            unfold OrA
            rw [if_neg (by rw [HRP.out, HRQ.out]; decide), HLP.out, HLQ.out, if_neg (by rw [decide_eq_true HS8.out]; decide), HNN.out]
            exact ⟨Av, cv, rfl, HRD.out _⟩
end Go.Proofs.YtbmhjmdbolnbaaaDoor
