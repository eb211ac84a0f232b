/-
 MERGED: CQf CQm.
-/
import Derived.Test.YtminihiecloglaaGreatCQa
import Derived.Test.YtminihiecloglaaGreatCFa
import Derived.Test.YtminihiecloglaaGreatRRef
import Derived.Deep.RegionHeld3
set_option linter.unusedVariables false
set_option linter.unusedSimpArgs false
namespace Go.Proofs.YtminihiecloglaaGreat
open Go.RowKit
open SemP
set_option maxRecDepth 10000
def twoC (l : List Sv) (i j : Int) : Bool := isS l i && (isS l j && decide (i ≠ j))
theorem fitsC_two (l : List Sv) (i v j x : Int) : fitsC l i v j x = (twoC l i j && (isR l i v && (isR l j x && (bearsB l i v j x && bearsB l j x i v)))) := by
 unfold fitsC twoC isR
 cases isS l i <;> cases isS l j <;> cases decide (i ≠ j) <;> simp
theorem twoC_nat {l : List Sv} {i j : Int} (h : twoC l i j = true) : ∃ a b : Nat, i = (a : Int) ∧ j = (b : Int) ∧ a < l.length ∧ b < l.length ∧ i ≠ j := by
 unfold twoC isS at h
 simp at h
 exact ⟨i.toNat, j.toNat, by omega, by omega, by omega, by omega, h.2.2⟩
set_option maxHeartbeats 4000000 in
theorem two_any {w : World} {c : Nat} {i j : Int} {A : Option Addr} {l : List Sv} :
  Calls Tryz.prog 87 #[.agg #[.slice A l.length c], .int .i64 i, .int .i64 j] w fun e w' => e = .returned (.bool (twoC l i j)) ∧ Below w.heap.size w w' := by
 have HB : Hid (Below w.heap.size w (w.alloc (.cells #[.slice A l.length c] 29))) := Lib.hid ((Below.refl _ w).alloc (Nat.le_refl _) _)
 obtain ⟨n, HN⟩ : ∃ n, Hid (l.length = n) := ⟨_, Lib.hid rfl⟩
 obtain ⟨q, HQ⟩ : ∃ q, Hid (twoC l i j = q) := ⟨_, Lib.hid rfl⟩
 have HV : Hid ((decide (0 ≤ i) && decide (i < (n : Int)) && (decide (0 ≤ j) && decide (j < (n : Int)) && decide (i ≠ j))) = q) := Lib.hid (by rw [← HQ.out, ← HN.out]; rfl)
 rw [HQ.out]
 rw [HN.out] at HB ⊢
 by_cases h1 : 0 ≤ i
 ·have d1 : decide (0 ≤ i) = true := decide_eq_true h1
  by_cases h2 : 0 ≤ j
  ·have d2 : decide (0 ≤ j) = true := decide_eq_true h2
   by_cases h3 : i < (n : Int)
   ·have d3 : decide (i < (n : Int)) = true := decide_eq_true h3
    by_cases h4 : j < (n : Int)
    ·have d4 : decide (j < (n : Int)) = true := decide_eq_true h4
     by_cases h5 : i = j
     ·subst h5
      obtain rfl : q = false := by rw [← HV.out]; simp
      have hd : (i != i) = false := by simp
      go_enter Tryz.func87, Tryz.ntmps87
      go_wp2_with fail
      exact bodyPost_ret (results_tmp rfl _ _ _) rfl ⟨rfl, HB.out⟩
     ·obtain rfl : q = true := by rw [← HV.out, d1, d2, d3, d4, decide_eq_true h5]; rfl
      have hd : (i != j) = true := by rw [bne_iff_ne]; exact h5
      go_enter Tryz.func87, Tryz.ntmps87
      go_wp2_with fail
      exact bodyPost_ret (results_tmp rfl _ _ _) rfl ⟨rfl, HB.out⟩
    ·have d4 : decide (j < (n : Int)) = false := decide_eq_false h4
     obtain rfl : q = false := by rw [← HV.out, d4]; simp
     go_enter Tryz.func87, Tryz.ntmps87
     go_wp2_with fail
     exact bodyPost_ret (results_tmp rfl _ _ _) rfl ⟨rfl, HB.out⟩
   ·have d3 : decide (i < (n : Int)) = false := decide_eq_false h3
    obtain rfl : q = false := by rw [← HV.out, d3]; simp
    go_enter Tryz.func87, Tryz.ntmps87
    go_wp2_with fail
    exact bodyPost_ret (results_tmp rfl _ _ _) rfl ⟨rfl, HB.out⟩
  ·have d2 : decide (0 ≤ j) = false := decide_eq_false h2
   obtain rfl : q = false := by rw [← HV.out, d2]; simp
   go_enter Tryz.func87, Tryz.ntmps87
   go_wp2_with fail
   exact bodyPost_ret (results_tmp rfl _ _ _) rfl ⟨rfl, HB.out⟩
 ·have d1 : decide (0 ≤ i) = false := decide_eq_false h1
  obtain rfl : q = false := by rw [← HV.out, d1]; simp
  go_enter Tryz.func87, Tryz.ntmps87
  go_wp2_with fail
  exact bodyPost_ret (results_tmp rfl _ _ _) rfl ⟨rfl, HB.out⟩
theorem isR_neg {l : List Sv} {i v : Int} (h : v < 0) : isR l i v = false := by
 unfold isR
 rw [decide_eq_false (show ¬ 0 ≤ v by omega)]
 simp
theorem isR_big {l : List Sv} {a : Nat} {v : Int} (h : ((svAt l a).2.length : Int) ≤ v) : isR l (a : Int) v = false := by
 unfold isR
 rw [Int.toNat_natCast, decide_eq_false (show ¬ v < ((svAt l a).2.length : Int) by omega)]
 simp
theorem fitsC_no1 {l : List Sv} {i v j x : Int} (h : isR l i v = false) : fitsC l i v j x = false := by
 unfold fitsC; rw [h]; simp
theorem fitsC_no2 {l : List Sv} {i v j x : Int} (h : isR l j x = false) : fitsC l i v j x = false := by
 unfold fitsC; rw [h]; simp
theorem SmR.small {r : List (List CV)} (h : SmR r) : Small r := fun l hl x hx => by have := (h.2 l hl).2 x hx; omega
set_option maxHeartbeats 8000000 in
theorem met_any {w : World} {B n3 c3 : Nat} {A3 : Option Addr} {nds : List Nd} {ra rb rc lv j a b c : Int} {rs s : ByteArray} (hr : RdJ 2 pnI w (fun b => B ≤ b) A3 n3 nds) (hB : B ≤ w.heap.size) (hn : n3 ≤ 12) (hsm : ∀ p ∈ nds, SmR p.2) (hs : s.size ≤ 100) :
  Calls Tryz.prog 88 #[.agg #[.int .i64 ra, .int .i64 rb, .int .i64 rc, .string rs, .int .i64 lv, .slice A3 n3 c3], .int .i64 j, verV a b c s] w fun e w' => e = .returned (.bool (!(nds.any (fun n => decide (n.1 = j) && !hasR n.2 ⟨a, b, c, bs s⟩)))) ∧ Below w.heap.size w w' := by
 obtain ⟨W, HW⟩ : ∃ W, Hid (W = (w.alloc (.cells #[.int .i64 ra, .int .i64 rb, .int .i64 rc, .string rs, .int .i64 lv, .slice A3 n3 c3] 125)).alloc (.cells #[.int .i64 a, .int .i64 b, .int .i64 c, .string s] 122)) := ⟨_, Lib.hid rfl⟩
 have hbl : Below w.heap.size w W := by rw [HW.out]; exact ((Below.refl _ w).alloc (Nat.le_refl _) _).alloc (by simp) _
 have HZ : Hid (W.heap.size = w.heap.size + 2) := Lib.hid (by rw [HW.out]; simp)
 have H0 : Hid (W.heap[w.heap.size]? = some (.cells #[.int .i64 ra, .int .i64 rb, .int .i64 rc, .string rs, .int .i64 lv, .slice A3 n3 c3] 125 (0, 0))) := Lib.hid (by
  rw [HW.out, Below.heap_alloc _ _ _ (by simp)]; exact heap_new w _)
 have H1 : Hid (W.heap[w.heap.size + 1]? = some (.cells #[.int .i64 a, .int .i64 b, .int .i64 c, .string s] 122 (0, 0))) := Lib.hid (by
  rw [HW.out]
  have h := heap_new (w.alloc (.cells #[.int .i64 ra, .int .i64 rb, .int .i64 rc, .string rs, .int .i64 lv, .slice A3 n3 c3] 125)) (.cells #[.int .i64 a, .int .i64 b, .int .i64 c, .string s] 122)
  rw [World.size_alloc] at h; exact h)
 have HR : Hid (RdJ 2 pnI W (fun b => B ≤ b) A3 n3 nds) := Lib.hid (RdJ.below' pn_turns hr hB hbl)
 have HBL := Lib.hid hbl
 have HBB : Hid (B ≤ W.heap.size) := Lib.hid (Nat.le_trans hB hbl.size)
 have HNL : Hid (nds.length = n3) := Lib.hid hr.1
 have HSM := Lib.hid hsm
 have HS := Lib.hid hs
 clear hr hB hbl hsm hs
 go_enter Tryz.func88, Tryz.ntmps88
 go_upto_region 1 with fail
 change Code.wp _ _ _ _ ((w.alloc (.cells #[.int .i64 ra, .int .i64 rb, .int .i64 rc, .string rs, .int .i64 lv, .slice A3 n3 c3] 125)).alloc (.cells #[.int .i64 a, .int .i64 b, .int .i64 c, .string s] 122))
 rw [← HW.out]
 go_wp2_with fail
 go_loopw [7] (fun v wr => ∃ k : Nat, k ≤ n3 ∧ v = .int .i64 (k : Int) ∧ Hid (Below W.heap.size W wr) ∧ Hid (∀ q, q < k → (decide ((pnAt nds q).1 = j) && !hasR (pnAt nds q).2 ⟨a, b, c, bs s⟩) = false)) (fun v _ => n3 - (intOf v).toNat)
 case atStart => exact ⟨0, Nat.zero_le _, rfl, Lib.hid (Below.refl _ _), Lib.hid (fun q h => absurd h (by omega))⟩
 case round =>
  obtain ⟨wo, hwo⟩ : ∃ x, x = wr := ⟨_, rfl⟩
  subst hwo
  obtain ⟨k, hk, rfl, HBo, HOK⟩ := hrel
  have HB : Hid (Below w.heap.size w wo) := Lib.hid (HBL.out.trans (HBo.out.mono (by have := HZ.out; omega)))
  have K0 : Hid (wo.heap[w.heap.size]? = _) := Lib.hid ((HBo.out.block w.heap.size (heapE_lt H0.out)).trans H0.out)
  have K1 : Hid (wo.heap[w.heap.size + 1]? = _) := Lib.hid ((HBo.out.block (w.heap.size + 1) (heapE_lt H1.out)).trans H1.out)
  obtain ⟨y0, y1, y2, y3, y4, y5, _⟩ := r6_cells K0.out
  clear y0 y1 y2 y3 y4
  by_cases hkn : k < n3
  ·have hd : decide ((k : Int) < (n3 : Int)) = true := by simp; omega
   have hki : (k : Int) < (n3 : Int) := by omega
   have hk0 : (0 : Int) ≤ (k : Int) := by omega
   have hadd : IntKind.i64.wrap ((k : Int) + 1) = ((k + 1 : Nat) : Int) := by rw [IntWalk.i64_in _ (by omega)]; omega
   have HKL : Hid (k < nds.length) := Lib.hid (by rw [HNL.out]; exact hkn)
   have hbo1 : Below wo.heap.size wo (wo.drewN 1) := Below.drewN' (Below.refl _ wo) 1
   obtain ⟨b4, o4, A5, n5, c5, rfl, hb4, p0, p1, hcap5, hr5⟩ := nd_at (RdJ.below' pn_turns HR.out HBB.out HBo.out) hkn
   have hr5d : RdR (wo.drewN 1) B A5 n5 (pnAt nds k).2 := hr5
   have hb4w : b4 < wo.heap.size := by have := HBB.out; have := HBo.out.size; omega
   have hsr := HSM.out _ (pnAt_mem HKL.out)
   have HI := Lib.hid (RefHas_any A5 n5 c5 (pnAt nds k).2 a b c s (wo.drewN 1) B hr5d (by have := HBB.out; have := HBo.out.size; show B ≤ wo.heap.size; omega) hsr.small (by have := HS.out; omega))
   obtain ⟨pj, HPJ⟩ : ∃ pj, Hid ((pnAt nds k).1 = pj) := ⟨_, Lib.hid rfl⟩
   rw [HPJ.out] at p0
   clear hr5 hr5d hsr hbo1
   by_cases hj : pj = j
   ·subst hj
    have h3 : (pj == pj) = true := by simp
    obtain ⟨z0, z1, z2, z3⟩ := cells4 K1.out
    go_wp2_with fail
    go_region_held3 (fun W' => W'.cell? ⟨w.heap.size, 5, none⟩ = some (.slice (some ⟨b4, o4, none⟩) n3 c3) ∧ W'.cell? ⟨b4, o4 + k * 2, none⟩ = some (.int .i64 pj) ∧ W'.cell? ⟨b4, o4 + k * 2 + 1, none⟩ = some (.slice A5 n5 c5) ∧ W'.cell? ⟨w.heap.size + 1, 0, none⟩ = some (.int .i64 a) ∧ W'.cell? ⟨w.heap.size + 1, 1, none⟩ = some (.int .i64 b) ∧ W'.cell? ⟨w.heap.size + 1, 2, none⟩ = some (.int .i64 c) ∧ W'.cell? ⟨w.heap.size + 1, 3, none⟩ = some (.string s)) ((first | exact ⟨y5, p0, p1, z0, z1, z2, z3⟩ | exact ⟨u0, u1, u2, u3, u4, u5, u6⟩ | go_keep)) (first
     | (go_at_call 112; refine HI.out.mono ?_; rintro e w1 ⟨rfl, hb'⟩; (have hb : Below wo.heap.size wo w1 := (Below.drewN' (Below.refl _ wo) 1).trans hb'); (have u0 := (hb.cell (p := ⟨w.heap.size, 5, none⟩) (heapE_lt K0.out)).trans y5); (have u1 := (hb.cell (p := ⟨b4, o4 + k * 2, none⟩) hb4w).trans p0); (have u2 := (hb.cell (p := ⟨b4, o4 + k * 2 + 1, none⟩) hb4w).trans p1); (have u3 := (hb.cell (p := ⟨w.heap.size + 1, 0, none⟩) (heapE_lt K1.out)).trans z0); (have u4 := (hb.cell (p := ⟨w.heap.size + 1, 1, none⟩) (heapE_lt K1.out)).trans z1); (have u5 := (hb.cell (p := ⟨w.heap.size + 1, 2, none⟩) (heapE_lt K1.out)).trans z2); (have u6 := (hb.cell (p := ⟨w.heap.size + 1, 3, none⟩) (heapE_lt K1.out)).trans z3); (have HBW := Lib.hid hb); clear hb hb'))
    have HB1 : Hid (Below w.heap.size w w1 ∧ Below W.heap.size W w1) := Lib.hid ⟨HB.out.trans (HBW.out.mono HB.out.size), HBo.out.trans (HBW.out.mono HBo.out.size)⟩
    clear u0 u1 u2 u3 u4 u5 u6 y5 p0 p1 z0 z1 z2 z3 HBW HI
    cases hq : hasR (pnAt nds k).2 ⟨a, b, c, bs s⟩ with
    | false =>
     have HV : Hid ((!(nds.any (fun n => decide (n.1 = pj) && !hasR n.2 ⟨a, b, c, bs s⟩))) = false) := Lib.hid (by
      rw [show nds.any (fun n => decide (n.1 = pj) && !hasR n.2 ⟨a, b, c, bs s⟩) = true from ?_]
      ·rfl
      ·rw [List.any_eq_true]
       exact ⟨pnAt nds k, pnAt_mem HKL.out, by rw [hq, HPJ.out]; simp⟩)
     clear hq
     go_wp2_with fail
     refine bodyPost_ret (results_tmp rfl _ _ _) rfl ⟨?_, HB1.out.1⟩
     exact congrArg (fun b => Ending.returned (.bool b)) HV.out.symm
    | true =>
     have HQ : Hid ((decide ((pnAt nds k).1 = pj) && !hasR (pnAt nds k).2 ⟨a, b, c, bs s⟩) = false) := Lib.hid (by rw [hq]; simp)
     clear hq
     go_wp2_with fail
     go_roundw
     case rel => exact ⟨k + 1, by omega, by go_num, Lib.hid HB1.out.2, Lib.hid (fun q hq => by
      by_cases e : q = k
      ·subst e; exact HQ.out
      ·exact HOK.out q (by omega))⟩
     case measure => simp [intOf]; omega
   ·have HQ : Hid ((decide ((pnAt nds k).1 = j) && !hasR (pnAt nds k).2 ⟨a, b, c, bs s⟩) = false) := Lib.hid (by rw [HPJ.out, decide_eq_false hj]; rfl)
    have h3 : (pj == j) = false := by rw [beq_eq_false_iff_ne]; exact hj
    go_wp2_with fail
    go_quiet (fail)
    go_wp2_with fail
    go_roundw
    case rel => exact ⟨k + 1, by omega, by go_num, Lib.hid (by first | exact HBo.out | exact Below.drewN' HBo.out _), Lib.hid (fun q hq => by
     by_cases e : q = k
     ·subst e; exact HQ.out
     ·exact HOK.out q (by omega))⟩
    case measure => simp [intOf]; omega
  ·have hd : decide ((k : Int) < (n3 : Int)) = false := by simp; omega
   obtain rfl : k = n3 := by omega
   have HV : Hid ((!(nds.any (fun n => decide (n.1 = j) && !hasR n.2 ⟨a, b, c, bs s⟩))) = true) := Lib.hid (by
    rw [show nds.any (fun n => decide (n.1 = j) && !hasR n.2 ⟨a, b, c, bs s⟩) = false from ?_]
    ·rfl
    ·refine List.any_eq_false.2 fun y hy => ?_
     obtain ⟨q, hq, rfl⟩ := List.getElem_of_mem hy
     have := HOK.out q (by rw [← HNL.out]; exact hq)
     have e : pnAt nds q = nds[q]'hq := by simp [pnAt, List.getD, hq]
     rw [e] at this
     rw [this]; simp)
   go_wp2_with fail
   refine bodyPost_ret (results_tmp rfl _ _ _) rfl ⟨?_, HB.out⟩
   exact congrArg (fun b => Ending.returned (.bool b)) HV.out.symm
set_option maxHeartbeats 8000000 in
theorem fitsQ_any {w : World} {B n c : Nat} {i v j x : Int} {A : Option Addr} {l : List Sv} (h : CatAt w B A n c l) :
  Calls Tryz.prog 58 #[.agg #[.slice A n c], .int .i64 i, .int .i64 v, .int .i64 j, .int .i64 x] w fun e w' => e = .returned (.bool (fitsC l i v j x)) ∧ Below w.heap.size w w' := by
 have HN : Hid (l.length = n) := Lib.hid h.rd.1
 obtain ⟨W, HW⟩ : ∃ W, Hid (W = w.alloc (.cells #[.slice A n c] 29)) := ⟨_, Lib.hid rfl⟩
 have hbl : Below w.heap.size w W := by rw [HW.out]; exact (Below.refl _ w).alloc (Nat.le_refl _) _
 have H0 : Hid (W.heap[w.heap.size]? = some (.cells #[.slice A n c] 29 (0, 0))) := Lib.hid (by rw [HW.out]; exact heap_new w _)
 have HA := Lib.hid (h.below hbl)
 have HBL := Lib.hid hbl
 have hsz := hbl.size
 have HV := Lib.hid (fitsC_two l i v j x)
 have HTW : Hid (Calls Tryz.prog 87 #[.agg #[.slice A n c], .int .i64 i, .int .i64 j] W fun e w' => e = .returned (.bool (twoC l i j)) ∧ Below W.heap.size W w') := Lib.hid (by
  have := two_any (w := W) (c := c) (i := i) (j := j) (A := A) (l := l)
  rw [HN.out] at this; exact this)
 clear h hbl
 obtain ⟨x0, _⟩ := row1f H0.out
 go_enter Tryz.func58, Tryz.ntmps58
 go_upto_region 1 with fail
 change Code.wp _ _ _ _ (w.alloc (.cells #[.slice A n c] 29))
 rw [← HW.out]
 go_wp2_with fail
 refine HTW.out.mono ?_
 rintro e w1 ⟨rfl, hb⟩
 have HB1 : Hid (Below w.heap.size w w1) := Lib.hid (HBL.out.trans (hb.mono hsz))
 have HA1 := Lib.hid (HA.out.below hb)
 have K1 : Hid (w1.heap[w.heap.size]? = _) := Lib.hid ((hb.block w.heap.size (heapE_lt H0.out)).trans H0.out)
 have hsz1 : w.heap.size < w1.heap.size := heapE_lt K1.out
 clear hb x0 HTW hsz
 cases hq : twoC l i j with
 | false =>
  have HE : Hid (fitsC l i v j x = false) := Lib.hid (by rw [HV.out, hq]; rfl)
  clear hq
  go_wp2_with fail
  refine bodyPost_ret (results_tmp rfl _ _ _) rfl ⟨?_, HB1.out⟩
  exact congrArg (fun b => Ending.returned (.bool b)) HE.out.symm
 | true =>
  obtain ⟨a, b, rfl, rfl, ha, hbb, _⟩ := twoC_nat hq
  have HE1 : Hid (fitsC l (a : Int) v (b : Int) x = (isR l (a : Int) v && (isR l (b : Int) x && (bearsB l (a : Int) v (b : Int) x && bearsB l (b : Int) x (a : Int) v)))) := Lib.hid (by rw [HV.out, hq]; rfl)
  have HAN : Hid (a < n) := Lib.hid (by rw [← HN.out]; exact ha)
  have HBN : Hid (b < n) := Lib.hid (by rw [← HN.out]; exact hbb)
  have hai : (a : Int) < (n : Int) := by have := HAN.out; omega
  have hbi : (b : Int) < (n : Int) := by have := HBN.out; omega
  have ha0 : (0 : Int) ≤ (a : Int) := by omega
  have hb0 : (0 : Int) ≤ (b : Int) := by omega
  obtain ⟨x0, _⟩ := row1f K1.out
  clear hq HV
  by_cases hv0 : v < 0
  ·have d1 : decide (v < 0) = true := decide_eq_true hv0
   have HE : Hid (fitsC l (a : Int) v (b : Int) x = false) := Lib.hid (fitsC_no1 (isR_neg hv0))
   go_wp2_with fail
   refine bodyPost_ret (results_tmp rfl _ _ _) rfl ⟨?_, HB1.out⟩
   exact congrArg (fun b => Ending.returned (.bool b)) HE.out.symm
  have d1 : decide (v < 0) = false := decide_eq_false hv0
  by_cases hx0 : x < 0
  ·have d2 : decide (x < 0) = true := decide_eq_true hx0
   have HE : Hid (fitsC l (a : Int) v (b : Int) x = false) := Lib.hid (fitsC_no2 (isR_neg hx0))
   go_wp2_with fail
   refine bodyPost_ret (results_tmp rfl _ _ _) rfl ⟨?_, HB1.out⟩
   exact congrArg (fun b => Ending.returned (.bool b)) HE.out.symm
  have d2 : decide (x < 0) = false := decide_eq_false hx0
  obtain ⟨b1, o1, Ai, ni, ci, hA, hb1, _, k1, _, hri⟩ := sv_at HA1.out.rd HAN.out
  subst hA
  obtain ⟨b1', o1', Aj, nj, cj, he, _, _, k2, _, hrj⟩ := sv_at HA1.out.rd HBN.out
  injection he with he
  injection he with e1 e2
  subst e1 e2
  have hb1w : b1 < w1.heap.size := by have := HA1.out.le; omega
  have HNI : Hid ((svAt l a).2.length = ni) := Lib.hid hri.1
  have HNJ : Hid ((svAt l b).2.length = nj) := Lib.hid hrj.1
  by_cases hvn : (ni : Int) ≤ v
  ·have d3 : decide ((ni : Int) ≤ v) = true := decide_eq_true hvn
   have HE : Hid (fitsC l (a : Int) v (b : Int) x = false) := Lib.hid (fitsC_no1 (isR_big (by rw [HNI.out]; exact hvn)))
   go_wp2_with fail
   refine bodyPost_ret (results_tmp rfl _ _ _) rfl ⟨?_, HB1.out⟩
   exact congrArg (fun b => Ending.returned (.bool b)) HE.out.symm
  have d3 : decide ((ni : Int) ≤ v) = false := decide_eq_false hvn
  by_cases hxn : (nj : Int) ≤ x
  ·have d4 : decide ((nj : Int) ≤ x) = true := decide_eq_true hxn
   have HE : Hid (fitsC l (a : Int) v (b : Int) x = false) := Lib.hid (fitsC_no2 (isR_big (by rw [HNJ.out]; exact hxn)))
   go_wp2_with fail
   refine bodyPost_ret (results_tmp rfl _ _ _) rfl ⟨?_, HB1.out⟩
   exact congrArg (fun b => Ending.returned (.bool b)) HE.out.symm
  have d4 : decide ((nj : Int) ≤ x) = false := decide_eq_false hxn
  obtain ⟨v', rfl⟩ : ∃ v' : Nat, v = (v' : Int) := ⟨v.toNat, by omega⟩
  obtain ⟨x', rfl⟩ : ∃ x' : Nat, x = (x' : Int) := ⟨x.toNat, by omega⟩
  have hvI : (v' : Int) < (ni : Int) := by omega
  have hxI : (x' : Int) < (nj : Int) := by omega
  have hv0' : (0 : Int) ≤ (v' : Int) := by omega
  have hx0' : (0 : Int) ≤ (x' : Int) := by omega
  have HVL : Hid (v' < (svAt l a).2.length) := Lib.hid (by rw [HNI.out]; omega)
  have HXL : Hid (x' < (svAt l b).2.length) := Lib.hid (by rw [HNJ.out]; omega)
  obtain ⟨b2, o2, A3, n3, c3, hA2, hb2, p0, p1, p2, p3, p4, p5, _, hnd⟩ := rl_at hri (show v' < ni by omega)
  subst hA2
  obtain ⟨b4, o4, A5, n5, c5, hA4, hb4, q0, q1, q2, q3, q4, q5, _, hmd⟩ := rl_at hrj (show x' < nj by omega)
  subst hA4
  have hb2w : b2 < w1.heap.size := by have := HA1.out.le; omega
  have hb4w : b4 < w1.heap.size := by have := HA1.out.le; omega
  have hsi := (HA1.out.sm.2 _ (svAt_mem (i := a) (by rw [HN.out]; exact HAN.out))).2.2 _ (rlAt_mem HVL.out)
  have hsj := (HA1.out.sm.2 _ (svAt_mem (i := b) (by rw [HN.out]; exact HBN.out))).2.2 _ (rlAt_mem HXL.out)
  have HE2 : Hid (fitsC l (a : Int) (v' : Int) (b : Int) (x' : Int) = (bearsB l (a : Int) (v' : Int) (b : Int) (x' : Int) && bearsB l (b : Int) (x' : Int) (a : Int) (v' : Int))) := Lib.hid (by
   rw [HE1.out, isR_of (by rw [HN.out]; exact HAN.out) HVL.out, isR_of (by rw [HN.out]; exact HBN.out) HXL.out]; rfl)
  obtain ⟨y, HY⟩ : ∃ y, Hid (rlAt (svAt l a).2 v' = y) := ⟨_, Lib.hid rfl⟩
  obtain ⟨z, HZ⟩ : ∃ y, Hid (rlAt (svAt l b).2 x' = y) := ⟨_, Lib.hid rfl⟩
  rw [HY.out] at p0 p1 p2 p3 p4 hnd hsi
  rw [HZ.out] at q0 q1 q2 q3 q4 hmd hsj
  obtain ⟨⟨ya, yb, yc, ys⟩, yl, ynd⟩ := y
  obtain ⟨⟨za, zb, zc, zs⟩, zl, znd⟩ := z
  simp only at p0 p1 p2 p3 p4 hnd q0 q1 q2 q3 q4 hmd
  have HV1 : Hid (bearsB l (a : Int) (v' : Int) (b : Int) (x' : Int) = !(ynd.any (fun n => decide (n.1 = (b : Int)) && !hasR n.2 ⟨za, zb, zc, bs zs⟩))) := Lib.hid (by
   unfold bearsB
   rw [Int.toNat_natCast, Int.toNat_natCast, Int.toNat_natCast, Int.toNat_natCast, HY.out, HZ.out]; rfl)
  have HV2 : Hid (bearsB l (b : Int) (x' : Int) (a : Int) (v' : Int) = !(znd.any (fun n => decide (n.1 = (a : Int)) && !hasR n.2 ⟨ya, yb, yc, bs ys⟩))) := Lib.hid (by
   unfold bearsB
   rw [Int.toNat_natCast, Int.toNat_natCast, Int.toNat_natCast, Int.toNat_natCast, HY.out, HZ.out]; rfl)
  obtain ⟨X, HX⟩ : ∃ X, Hid (X = (w1.alloc (.cells #[.int .i64 ya, .int .i64 yb, .int .i64 yc, .string ys, .int .i64 yl, .slice A3 n3 c3] 125)).alloc (.cells #[.int .i64 za, .int .i64 zb, .int .i64 zc, .string zs, .int .i64 zl, .slice A5 n5 c5] 125)) := ⟨_, Lib.hid rfl⟩
  have hbx : Below w1.heap.size w1 X := by rw [HX.out]; exact ((Below.refl _ w1).alloc (Nat.le_refl _) _).alloc (by simp) _
  have X0 : Hid (X.heap[w1.heap.size]? = some (.cells #[.int .i64 ya, .int .i64 yb, .int .i64 yc, .string ys, .int .i64 yl, .slice A3 n3 c3] 125 (0, 0))) := Lib.hid (by
   rw [HX.out, Below.heap_alloc _ _ _ (by simp)]; exact heap_new w1 _)
  have X1 : Hid (X.heap[w1.heap.size + 1]? = some (.cells #[.int .i64 za, .int .i64 zb, .int .i64 zc, .string zs, .int .i64 zl, .slice A5 n5 c5] 125 (0, 0))) := Lib.hid (by
   rw [HX.out]
   have h := heap_new (w1.alloc (.cells #[.int .i64 ya, .int .i64 yb, .int .i64 yc, .string ys, .int .i64 yl, .slice A3 n3 c3] 125)) (.cells #[.int .i64 za, .int .i64 zb, .int .i64 zc, .string zs, .int .i64 zl, .slice A5 n5 c5] 125)
   rw [World.size_alloc] at h; exact h)
  have HBX : Hid (Below w.heap.size w X) := Lib.hid (HB1.out.trans (hbx.mono HB1.out.size))
  have HND := Lib.hid (RdJ.below' pn_turns hnd HA1.out.le hbx)
  have HMD := Lib.hid (RdJ.below' pn_turns hmd HA1.out.le hbx)
  have HLE : Hid (B ≤ X.heap.size) := Lib.hid (Nat.le_trans HA1.out.le hbx.size)
  have HS1 := Lib.hid hsi
  have HS2 := Lib.hid hsj
  have HM1 := Lib.hid (met_any (ra := ya) (rb := yb) (rc := yc) (rs := ys) (lv := yl) (j := (b : Int)) (a := za) (b := zb) (c := zc) (s := zs) (c3 := c3) HND.out HLE.out (by have h1 := HND.out.1; have h2 : ynd.length ≤ 12 := HS1.out.1; omega) HS1.out.2.2 HS2.out.2.1)
  clear hnd hmd hsi hsj hbx hri hrj
  go_upto_region 5 with fail
  change Code.wp _ _ _ _ ((w1.alloc (.cells #[.int .i64 ya, .int .i64 yb, .int .i64 yc, .string ys, .int .i64 yl, .slice A3 n3 c3] 125)).alloc (.cells #[.int .i64 za, .int .i64 zb, .int .i64 zc, .string zs, .int .i64 zl, .slice A5 n5 c5] 125))
  rw [← HX.out]
  clear p0 p1 p2 p3 p4 p5 q0 q1 q2 q3 q4 q5 x0 k1 k2
  obtain ⟨p0, p1, p2, p3, p4, p5, _⟩ := r6_cells X0.out
  obtain ⟨q0, q1, q2, q3, q4, q5, _⟩ := r6_cells X1.out
  go_wp2_with fail
  refine HM1.out.mono ?_
  rintro e w3 ⟨rfl, hb⟩
  have HB3 : Hid (Below w.heap.size w w3) := Lib.hid (HBX.out.trans (hb.mono HBX.out.size))
  have Y0 : Hid (w3.heap[w1.heap.size]? = _) := Lib.hid ((hb.block w1.heap.size (heapE_lt X0.out)).trans X0.out)
  have Y1 : Hid (w3.heap[w1.heap.size + 1]? = _) := Lib.hid ((hb.block (w1.heap.size + 1) (heapE_lt X1.out)).trans X1.out)
  have HMD3 := Lib.hid (RdJ.below' pn_turns HMD.out HLE.out hb)
  have HLE3 : Hid (B ≤ w3.heap.size) := Lib.hid (Nat.le_trans HLE.out hb.size)
  clear hb p0 p1 p2 p3 p4 p5 q0 q1 q2 q3 q4 q5 HM1
  cases hq : ynd.any (fun n => decide (n.1 = (b : Int)) && !hasR n.2 ⟨za, zb, zc, bs zs⟩) with
  | true =>
   have HE : Hid (fitsC l (a : Int) (v' : Int) (b : Int) (x' : Int) = false) := Lib.hid (by rw [HE2.out, HV1.out, hq]; rfl)
   clear hq
   go_wp2_with fail
   refine bodyPost_ret (results_tmp rfl _ _ _) rfl ⟨?_, HB3.out⟩
   exact congrArg (fun b => Ending.returned (.bool b)) HE.out.symm
  | false =>
   have HE : Hid (fitsC l (a : Int) (v' : Int) (b : Int) (x' : Int) = !(znd.any (fun n => decide (n.1 = (a : Int)) && !hasR n.2 ⟨ya, yb, yc, bs ys⟩))) := Lib.hid (by rw [HE2.out, HV1.out, hq, HV2.out]; rfl)
   have HM1 := Lib.hid (met_any (ra := za) (rb := zb) (rc := zc) (rs := zs) (lv := zl) (j := (a : Int)) (a := ya) (b := yb) (c := yc) (s := ys) (c3 := c5) HMD3.out HLE3.out (by have h1 := HMD3.out.1; have h2 : znd.length ≤ 12 := HS2.out.1; omega) HS2.out.2.2 HS1.out.2.1)
   obtain ⟨p0, p1, p2, p3, p4, p5, _⟩ := r6_cells Y0.out
   obtain ⟨q0, q1, q2, q3, q4, q5, _⟩ := r6_cells Y1.out
   clear hq
   go_wp2_with fail
   refine HM1.out.mono ?_
   rintro e w4 ⟨rfl, hb⟩
   have HB4 : Hid (Below w.heap.size w w4) := Lib.hid (HB3.out.trans (hb.mono HB3.out.size))
   clear hb p0 p1 p2 p3 p4 p5 q0 q1 q2 q3 q4 q5 HM1
   go_wp2_with fail
   refine bodyPost_ret (results_tmp rfl _ _ _) rfl ⟨?_, HB4.out⟩
   exact congrArg (fun b => Ending.returned (.bool b)) HE.out.symm
end Go.Proofs.YtminihiecloglaaGreat
