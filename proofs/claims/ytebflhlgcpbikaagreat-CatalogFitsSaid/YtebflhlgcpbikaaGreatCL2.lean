/-
  CatalogFits, over this translation.
-/
import Derived.Test.YtebflhlgcpbikaaGreatCAn
import Derived.Test.YtebflhlgcpbikaaGreatCRg
import Derived.Test.YtebflhlgcpbikaaGreatCQm
namespace Go.Proofs.YtebflhlgcpbikaaGreat
open Go.RowKit
open SemP
set_option linter.unusedVariables false
set_option linter.unusedSimpArgs false
set_option maxRecDepth 10000
theorem bears_asks {l : List Sv} {a v b x : Nat} (hv : v < (svAt l a).2.length) (h : asks l a (b : Int) = false) : bearsB l (a : Int) (v : Int) (b : Int) (x : Int) = true := by
  unfold bearsB
  rw [Int.toNat_natCast, Int.toNat_natCast]
  rw [Bool.not_eq_true', List.any_eq_false]
  intro nd hnd
  unfold asks at h
  rw [List.any_eq_false] at h
  have := h _ (rlAt_mem hv)
  rw [Bool.not_eq_true, List.any_eq_false] at this
  have := this nd hnd
  simp at this
  simp [this]
theorem fits_unlinked {l : List Sv} {a v b x : Nat} (hne : (a : Int) ≠ (b : Int)) (ha : a < l.length) (hb : b < l.length) (hv : v < (svAt l a).2.length) (hx : x < (svAt l b).2.length) (h : linkC l (a : Int) (b : Int) = false) : fitsC l (a : Int) (v : Int) (b : Int) (x : Int) = true := by
  have h1 : isS l (a : Int) = true := by unfold isS; simp; omega
  have h2 : isS l (b : Int) = true := by unfold isS; simp; omega
  unfold linkC at h
  rw [decide_eq_true hne, h1, h2, Int.toNat_natCast, Int.toNat_natCast] at h
  simp only [Bool.true_and, Bool.or_eq_false_iff] at h
  unfold fitsC
  rw [decide_eq_true hne, isR_of ha hv, isR_of hb hx, bears_asks hv h.1, bears_asks hx h.2]
  rfl
theorem fitsC_true {l : List Sv} {i v j x : Int} (h : fitsC l i v j x = true) : i ≠ j ∧ isR l i v = true ∧ isR l j x = true := by
  unfold fitsC at h
  simp only [Bool.and_eq_true, decide_eq_true_eq] at h
  exact ⟨h.1, h.2.1, h.2.2.1⟩
set_option maxHeartbeats 16000000 in
theorem law_fits {w : World} {n c : Nat} {A : Option Addr} {l : List Sv} {i v j x : Int} (hr : RdJ 2 svI w (fun b => w.heap.size ≤ b) A n l) (hcap : CapA A n c) (hm : LenAt w) (h1 : 1 < w.heap.size) :
    Calls Tryz.prog 5 #[.agg #[.slice A n c], .int .i64 i, .int .i64 v, .int .i64 j, .int .i64 x] w fun e w' => e = .returned (.bool true) ∧ Below w.heap.size w w' := by
  have HR := Lib.hid hr
  have HC := Lib.hid hcap
  obtain ⟨W, HW⟩ : ∃ W, Hid (W = w.alloc (.cells #[.slice A n c] 24)) := ⟨_, Lib.hid rfl⟩
  have hbW : Below w.heap.size w W := by rw [HW.out]; exact (Below.refl _ w).alloc (Nat.le_refl _) _
  have H0 : Hid (W.heap[w.heap.size]? = some (.cells #[.slice A n c] 24 (0, 0))) := Lib.hid (by rw [HW.out]; exact heap_new w _)
  have HLW := Lib.hid (LenAt.below hm h1 hbW)
  have HBW := Lib.hid hbW
  have hsz := hbW.size
  clear hr hcap hm h1 hbW
  obtain ⟨x0, _⟩ := row1f H0.out
  have HAN := Lib.hid (canchor_any W HLW.out.1 HLW.out.2)
  go_enter Tryz.func5, Tryz.ntmps5
  go_upto_region 1 with fail
  change Code.wp _ _ _ _ (w.alloc (.cells #[.slice A n c] 24))
  rw [← HW.out]
  go_wp2_with fail
  refine HAN.out.mono ?_
  rintro e w1 ⟨rfl, hb⟩
  have HB1 : Hid (Below w.heap.size w w1) := Lib.hid (HBW.out.trans (hb.mono hsz))
  have HL1 := Lib.hid (LenAt.below HLW.out.1 HLW.out.2 hb)
  have K1 : Hid (w1.heap[w.heap.size]? = _) := Lib.hid ((hb.block w.heap.size (heapE_lt H0.out)).trans H0.out)
  clear hb x0 HAN
  obtain ⟨x0, _⟩ := row1f K1.out
  have HMC := Lib.hid (right_any (c := c) (RdJ.below sv_turns HR.out HB1.out) HB1.out.size HL1.out.1 HL1.out.2)
  go_wp2_with fail
  refine HMC.out.mono ?_
  rintro e z1 ⟨A', n', c', ok, rfl, hb, hit⟩
  obtain ⟨W2, HW2⟩ : ∃ W2, Hid (W2 = z1.alloc (.cells #[.slice A' n' c'] 28)) := ⟨_, Lib.hid rfl⟩
  have hb2 : Below z1.heap.size z1 W2 := by rw [HW2.out]; exact (Below.refl _ z1).alloc (Nat.le_refl _) _
  have J2 : Hid (W2.heap[z1.heap.size]? = some (.cells #[.slice A' n' c'] 28 (0, 0))) := Lib.hid (by rw [HW2.out]; exact heap_new z1 _)
  have hb12 : Below w1.heap.size w1 W2 := hb.trans (hb2.mono hb.size)
  have HB2 : Hid (Below w.heap.size w W2) := Lib.hid (HB1.out.trans (hb12.mono HB1.out.size))
  have HL2 := Lib.hid (LenAt.below HL1.out.1 HL1.out.2 hb12)
  have K2 : Hid (W2.heap[w.heap.size]? = _) := Lib.hid ((hb12.block w.heap.size (heapE_lt K1.out)).trans K1.out)
  have HIT := Lib.hid (fun h => And.intro (hit h).2.1 (ss_turns.kept (hit h).2.2 hb2))
  clear hb hb2 hb12 hit x0 HMC
  go_upto_region 4 with fail
  change Code.wp _ _ _ _ (z1.alloc (.cells #[.slice A' n' c'] 28))
  rw [← HW2.out]
  cases ok with
  | false =>
    go_wp2_with fail
    refine bodyPost_ret (results_tmp rfl _ _ _) rfl ⟨rfl, HB2.out⟩
  | true =>
    obtain ⟨hsm, hss⟩ := HIT.out rfl
    obtain ⟨hcap', hrd'⟩ := (ss_turns.go hss (FrM.refl W2 _) (M' := fun b => W2.heap.size ≤ b) (fun b hb => .inr hb)).rd
    have HP : Hid (CatAt W2 w.heap.size A n c l) := Lib.hid ⟨RdJ.below sv_turns HR.out HB2.out, HC.out, HB2.out.size, hsm, HL2.out.1, HL2.out.2⟩
    have HQ : Hid (CatAt W2 W2.heap.size A' n' c' l) := Lib.hid ⟨hrd', hcap', Nat.le_refl _, hsm, HL2.out.1, HL2.out.2⟩
    have HF1 := Lib.hid (fits_any (i := i) (v := v) (j := j) (x := x) HP.out)
    clear hsm hss hcap' hrd' HIT
    obtain ⟨x0, _⟩ := row1f K2.out
    obtain ⟨f, HF⟩ : ∃ f, Hid (fitsC l i v j x = f) := ⟨_, Lib.hid rfl⟩
    rw [HF.out] at HF1
    go_wp2_with fail
    refine HF1.out.mono ?_
    rintro e w3 ⟨rfl, hb⟩
    have HB3 : Hid (Below w.heap.size w w3) := Lib.hid (HB2.out.trans (hb.mono HB2.out.size))
    have J3 : Hid (w3.heap[z1.heap.size]? = _) := Lib.hid ((hb.block z1.heap.size (heapE_lt J2.out)).trans J2.out)
    have K3 : Hid (w3.heap[w.heap.size]? = _) := Lib.hid ((hb.block w.heap.size (heapE_lt K2.out)).trans K2.out)
    have HP3 := Lib.hid (HP.out.below hb)
    have HQ3 := Lib.hid (HQ.out.below hb)
    have HF1 := Lib.hid (fitsQ_any (i := i) (v := v) (j := j) (x := x) HQ3.out)
    rw [HF.out] at HF1
    clear hb x0
    obtain ⟨y0, _⟩ := row1f J3.out
    go_wp2_with fail
    refine HF1.out.mono ?_
    rintro e w4 ⟨rfl, hb⟩
    have HB4 : Hid (Below w.heap.size w w4) := Lib.hid (HB3.out.trans (hb.mono HB3.out.size))
    have J4 : Hid (w4.heap[z1.heap.size]? = _) := Lib.hid ((hb.block z1.heap.size (heapE_lt J3.out)).trans J3.out)
    have K4 : Hid (w4.heap[w.heap.size]? = _) := Lib.hid ((hb.block w.heap.size (heapE_lt K3.out)).trans K3.out)
    have HP4 := Lib.hid (HP3.out.below hb)
    have HQ4 := Lib.hid (HQ3.out.below hb)
    have HF1 := Lib.hid (fits_any (i := j) (v := x) (j := i) (x := v) HP4.out)
    rw [← fitsC_swap, HF.out] at HF1
    clear hb y0
    have hff : (f != f) = false := by cases f <;> rfl
    obtain ⟨x0, _⟩ := row1f K4.out
    go_wp2_with fail
    refine HF1.out.mono ?_
    rintro e w5 ⟨rfl, hb⟩
    have HB5 : Hid (Below w.heap.size w w5) := Lib.hid (HB4.out.trans (hb.mono HB4.out.size))
    have J5 : Hid (w5.heap[z1.heap.size]? = _) := Lib.hid ((hb.block z1.heap.size (heapE_lt J4.out)).trans J4.out)
    have K5 : Hid (w5.heap[w.heap.size]? = _) := Lib.hid ((hb.block w.heap.size (heapE_lt K4.out)).trans K4.out)
    have HP5 := Lib.hid (HP4.out.below hb)
    have HQ5 := Lib.hid (HQ4.out.below hb)
    have HN : Hid (l.length = n') := Lib.hid HQ5.out.rd.1
    clear hb x0 HF1 HP HQ HP3 HQ3 HP4 HQ4
    by_cases h1 : 0 ≤ i
    · have d1 : decide (0 ≤ i) = true := decide_eq_true h1
      by_cases h2 : 0 ≤ j
      · have d2 : decide (0 ≤ j) = true := decide_eq_true h2
        by_cases h3 : i < (n' : Int)
        · have d3 : decide (i < (n' : Int)) = true := decide_eq_true h3
          by_cases h4 : j < (n' : Int)
          · have d4 : decide (j < (n' : Int)) = true := decide_eq_true h4
            by_cases h5 : i = j
            · subst h5
              have hd : (i != i) = false := by simp
              obtain rfl : f = false := by
                rw [← HF.out]
                unfold fitsC
                rw [decide_eq_false (fun h => h rfl)]; rfl
              have HLK := Lib.hid (linked_any (i := i) (j := i) HP5.out)
              obtain ⟨x0, _⟩ := row1f K5.out
              obtain ⟨y0, _⟩ := row1f J5.out
              go_wp2_with fail
              refine HLK.out.mono ?_
              rintro e w6 ⟨rfl, hb⟩
              have HB6 : Hid (Below w.heap.size w w6) := Lib.hid (HB5.out.trans (hb.mono HB5.out.size))
              clear hb x0 y0 HLK
              cases hq : linkC l i i with
              | true =>
                clear hq
                go_wp2_with fail
                exact bodyPost_ret (results_tmp rfl _ _ _) rfl ⟨rfl, HB6.out⟩
              | false =>
                clear hq
                go_wp2_with fail
                exact bodyPost_ret (results_tmp rfl _ _ _) rfl ⟨rfl, HB6.out⟩
            have hd : (i != j) = true := by rw [bne_iff_ne]; exact h5
            by_cases h6 : 0 ≤ v
            · have d6 : decide (0 ≤ v) = true := decide_eq_true h6
              by_cases h7 : 0 ≤ x
              · have d7 : decide (0 ≤ x) = true := decide_eq_true h7
                obtain ⟨a, rfl⟩ : ∃ a : Nat, i = (a : Int) := ⟨i.toNat, by omega⟩
                obtain ⟨b, rfl⟩ : ∃ b : Nat, j = (b : Int) := ⟨j.toNat, by omega⟩
                have HAN : Hid (a < n') := Lib.hid (by omega)
                have HBN : Hid (b < n') := Lib.hid (by omega)
                obtain ⟨b1, o1, Ai, ni, ci, hA, hb1, _, k1, _, hri⟩ := sv_at HQ5.out.rd HAN.out
                subst hA
                obtain ⟨b1', o1', Aj, nj, cj, he, _, _, k2, _, hrj⟩ := sv_at HQ5.out.rd HBN.out
                injection he with he
                injection he with e1 e2
                subst e1 e2
                have hb1w : b1 < w5.heap.size := by have := HQ5.out.le; omega
                have HNI : Hid ((svAt l a).2.length = ni) := Lib.hid hri.1
                have HNJ : Hid ((svAt l b).2.length = nj) := Lib.hid hrj.1
                clear hri hrj
                by_cases h8 : v < (ni : Int)
                · have d8 : decide (v < (ni : Int)) = true := decide_eq_true h8
                  by_cases h9 : x < (nj : Int)
                  · have d9 : decide (x < (nj : Int)) = true := decide_eq_true h9
                    obtain ⟨v', rfl⟩ : ∃ v' : Nat, v = (v' : Int) := ⟨v.toNat, by omega⟩
                    obtain ⟨x', rfl⟩ : ∃ x' : Nat, x = (x' : Int) := ⟨x.toNat, by omega⟩
                    have HUN : Hid (linkC l (a : Int) (b : Int) = false → f = true) := Lib.hid (fun h => by
                      rw [← HF.out]
                      exact fits_unlinked h5 (by rw [HN.out]; exact HAN.out) (by rw [HN.out]; exact HBN.out) (by rw [HNI.out]; omega) (by rw [HNJ.out]; omega) h)
                    cases f with
                    | true =>
                      have HLK := Lib.hid (linked_any (i := (a : Int)) (j := (b : Int)) HP5.out)
                      obtain ⟨x0, _⟩ := row1f K5.out
                      obtain ⟨y0, _⟩ := row1f J5.out
                      go_wp2_with fail
                      refine HLK.out.mono ?_
                      rintro e w6 ⟨rfl, hb⟩
                      have HB6 : Hid (Below w.heap.size w w6) := Lib.hid (HB5.out.trans (hb.mono HB5.out.size))
                      clear hb x0 y0 HLK
                      cases hq : linkC l (a : Int) (b : Int) with
                      | true =>
                        clear hq
                        go_wp2_with fail
                        exact bodyPost_ret (results_tmp rfl _ _ _) rfl ⟨rfl, HB6.out⟩
                      | false =>
                        clear hq
                        go_wp2_with fail
                        exact bodyPost_ret (results_tmp rfl _ _ _) rfl ⟨rfl, HB6.out⟩
                    | false =>
                      have HLK := Lib.hid (linked_any (i := (a : Int)) (j := (b : Int)) HP5.out)
                      obtain ⟨x0, _⟩ := row1f K5.out
                      obtain ⟨y0, _⟩ := row1f J5.out
                      go_wp2_with fail
                      refine HLK.out.mono ?_
                      rintro e w6 ⟨rfl, hb⟩
                      have HB6 : Hid (Below w.heap.size w w6) := Lib.hid (HB5.out.trans (hb.mono HB5.out.size))
                      clear hb x0 y0 HLK
                      cases hq : linkC l (a : Int) (b : Int) with
                      | true =>
                        clear hq
                        go_wp2_with fail
                        exact bodyPost_ret (results_tmp rfl _ _ _) rfl ⟨rfl, HB6.out⟩
                      | false =>
                        exact absurd (HUN.out hq) (by simp)
                  · have d9 : decide (x < (nj : Int)) = false := decide_eq_false h9
                    obtain rfl : f = false := by
                      rw [← HF.out]
                      exact fitsC_no2 (isR_big (by rw [HNJ.out]; omega))
                    have HLK := Lib.hid (linked_any (i := (a : Int)) (j := (b : Int)) HP5.out)
                    obtain ⟨x0, _⟩ := row1f K5.out
                    obtain ⟨y0, _⟩ := row1f J5.out
                    go_wp2_with fail
                    refine HLK.out.mono ?_
                    rintro e w6 ⟨rfl, hb⟩
                    have HB6 : Hid (Below w.heap.size w w6) := Lib.hid (HB5.out.trans (hb.mono HB5.out.size))
                    clear hb x0 y0 HLK
                    cases hq : linkC l (a : Int) (b : Int) with
                    | true =>
                      clear hq
                      go_wp2_with fail
                      exact bodyPost_ret (results_tmp rfl _ _ _) rfl ⟨rfl, HB6.out⟩
                    | false =>
                      clear hq
                      go_wp2_with fail
                      exact bodyPost_ret (results_tmp rfl _ _ _) rfl ⟨rfl, HB6.out⟩
                · have d8 : decide (v < (ni : Int)) = false := decide_eq_false h8
                  obtain rfl : f = false := by
                    rw [← HF.out]
                    exact fitsC_no1 (isR_big (by rw [HNI.out]; omega))
                  have HLK := Lib.hid (linked_any (i := (a : Int)) (j := (b : Int)) HP5.out)
                  obtain ⟨x0, _⟩ := row1f K5.out
                  obtain ⟨y0, _⟩ := row1f J5.out
                  go_wp2_with fail
                  refine HLK.out.mono ?_
                  rintro e w6 ⟨rfl, hb⟩
                  have HB6 : Hid (Below w.heap.size w w6) := Lib.hid (HB5.out.trans (hb.mono HB5.out.size))
                  clear hb x0 y0 HLK
                  cases hq : linkC l (a : Int) (b : Int) with
                  | true =>
                    clear hq
                    go_wp2_with fail
                    exact bodyPost_ret (results_tmp rfl _ _ _) rfl ⟨rfl, HB6.out⟩
                  | false =>
                    clear hq
                    go_wp2_with fail
                    exact bodyPost_ret (results_tmp rfl _ _ _) rfl ⟨rfl, HB6.out⟩
              · have d7 : decide (0 ≤ x) = false := decide_eq_false h7
                obtain rfl : f = false := by
                  rw [← HF.out]
                  exact fitsC_no2 (isR_neg (by omega))
                have HLK := Lib.hid (linked_any (i := i) (j := j) HP5.out)
                obtain ⟨x0, _⟩ := row1f K5.out
                obtain ⟨y0, _⟩ := row1f J5.out
                go_wp2_with fail
                refine HLK.out.mono ?_
                rintro e w6 ⟨rfl, hb⟩
                have HB6 : Hid (Below w.heap.size w w6) := Lib.hid (HB5.out.trans (hb.mono HB5.out.size))
                clear hb x0 y0 HLK
                cases hq : linkC l i j with
                | true =>
                  clear hq
                  go_wp2_with fail
                  exact bodyPost_ret (results_tmp rfl _ _ _) rfl ⟨rfl, HB6.out⟩
                | false =>
                  clear hq
                  go_wp2_with fail
                  exact bodyPost_ret (results_tmp rfl _ _ _) rfl ⟨rfl, HB6.out⟩
            · have d6 : decide (0 ≤ v) = false := decide_eq_false h6
              obtain rfl : f = false := by
                rw [← HF.out]
                exact fitsC_no1 (isR_neg (by omega))
              have HLK := Lib.hid (linked_any (i := i) (j := j) HP5.out)
              obtain ⟨x0, _⟩ := row1f K5.out
              obtain ⟨y0, _⟩ := row1f J5.out
              go_wp2_with fail
              refine HLK.out.mono ?_
              rintro e w6 ⟨rfl, hb⟩
              have HB6 : Hid (Below w.heap.size w w6) := Lib.hid (HB5.out.trans (hb.mono HB5.out.size))
              clear hb x0 y0 HLK
              cases hq : linkC l i j with
              | true =>
                clear hq
                go_wp2_with fail
                exact bodyPost_ret (results_tmp rfl _ _ _) rfl ⟨rfl, HB6.out⟩
              | false =>
                clear hq
                go_wp2_with fail
                exact bodyPost_ret (results_tmp rfl _ _ _) rfl ⟨rfl, HB6.out⟩
          · have d4 : decide (j < (n' : Int)) = false := decide_eq_false h4
            obtain rfl : f = false := by
              rw [← HF.out]
              exact fitsC_no2 (by unfold isR isS; rw [HN.out, d4]; simp)
            have HLK := Lib.hid (linked_any (i := i) (j := j) HP5.out)
            obtain ⟨x0, _⟩ := row1f K5.out
            obtain ⟨y0, _⟩ := row1f J5.out
            go_wp2_with fail
            refine HLK.out.mono ?_
            rintro e w6 ⟨rfl, hb⟩
            have HB6 : Hid (Below w.heap.size w w6) := Lib.hid (HB5.out.trans (hb.mono HB5.out.size))
            clear hb x0 y0 HLK
            cases hq : linkC l i j with
            | true =>
              clear hq
              go_wp2_with fail
              exact bodyPost_ret (results_tmp rfl _ _ _) rfl ⟨rfl, HB6.out⟩
            | false =>
              clear hq
              go_wp2_with fail
              exact bodyPost_ret (results_tmp rfl _ _ _) rfl ⟨rfl, HB6.out⟩
        · have d3 : decide (i < (n' : Int)) = false := decide_eq_false h3
          obtain rfl : f = false := by
            rw [← HF.out]
            exact fitsC_no1 (by unfold isR isS; rw [HN.out, d3]; simp)
          have HLK := Lib.hid (linked_any (i := i) (j := j) HP5.out)
          obtain ⟨x0, _⟩ := row1f K5.out
          obtain ⟨y0, _⟩ := row1f J5.out
          go_wp2_with fail
          refine HLK.out.mono ?_
          rintro e w6 ⟨rfl, hb⟩
          have HB6 : Hid (Below w.heap.size w w6) := Lib.hid (HB5.out.trans (hb.mono HB5.out.size))
          clear hb x0 y0 HLK
          cases hq : linkC l i j with
          | true =>
            clear hq
            go_wp2_with fail
            exact bodyPost_ret (results_tmp rfl _ _ _) rfl ⟨rfl, HB6.out⟩
          | false =>
            clear hq
            go_wp2_with fail
            exact bodyPost_ret (results_tmp rfl _ _ _) rfl ⟨rfl, HB6.out⟩
      · have d2 : decide (0 ≤ j) = false := decide_eq_false h2
        obtain rfl : f = false := by
          rw [← HF.out]
          exact fitsC_no2 (by unfold isR isS; rw [d2]; simp)
        have HLK := Lib.hid (linked_any (i := i) (j := j) HP5.out)
        obtain ⟨x0, _⟩ := row1f K5.out
        obtain ⟨y0, _⟩ := row1f J5.out
        go_wp2_with fail
        refine HLK.out.mono ?_
        rintro e w6 ⟨rfl, hb⟩
        have HB6 : Hid (Below w.heap.size w w6) := Lib.hid (HB5.out.trans (hb.mono HB5.out.size))
        clear hb x0 y0 HLK
        cases hq : linkC l i j with
        | true =>
          clear hq
          go_wp2_with fail
          exact bodyPost_ret (results_tmp rfl _ _ _) rfl ⟨rfl, HB6.out⟩
        | false =>
          clear hq
          go_wp2_with fail
          exact bodyPost_ret (results_tmp rfl _ _ _) rfl ⟨rfl, HB6.out⟩
    · have d1 : decide (0 ≤ i) = false := decide_eq_false h1
      obtain rfl : f = false := by
        rw [← HF.out]
        exact fitsC_no1 (by unfold isR isS; rw [d1]; simp)
      have HLK := Lib.hid (linked_any (i := i) (j := j) HP5.out)
      obtain ⟨x0, _⟩ := row1f K5.out
      obtain ⟨y0, _⟩ := row1f J5.out
      go_wp2_with fail
      refine HLK.out.mono ?_
      rintro e w6 ⟨rfl, hb⟩
      have HB6 : Hid (Below w.heap.size w w6) := Lib.hid (HB5.out.trans (hb.mono HB5.out.size))
      clear hb x0 y0 HLK
      cases hq : linkC l i j with
      | true =>
        clear hq
        go_wp2_with fail
        exact bodyPost_ret (results_tmp rfl _ _ _) rfl ⟨rfl, HB6.out⟩
      | false =>
        clear hq
        go_wp2_with fail
        exact bodyPost_ret (results_tmp rfl _ _ _) rfl ⟨rfl, HB6.out⟩
end Go.Proofs.YtebflhlgcpbikaaGreat
