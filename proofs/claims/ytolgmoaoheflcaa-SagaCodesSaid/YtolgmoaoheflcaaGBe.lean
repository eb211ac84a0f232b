/-
 CONTRACTS: Check and Order of any graph; Graph, canBegin (printed by gengbe.py).
-/
import Derived.Test.YtolgmoaoheflcaaGSt
namespace Go.Proofs.Ytolgmoaoheflcaa.Sa
open Go.RowKit
open DiP
set_option linter.unusedVariables false
set_option linter.unusedSimpArgs false
set_option maxRecDepth 10000
set_option maxHeartbeats 1600000 in
theorem check_no {w : World} {B m c : Nat} {n : Int} {A : Option Addr} {es : List (Int × Int)} (hx : RdE w B A m es) (hr : ¬ GraphR n es) (hm0 : m ≤ 9223372036854775807) (hB : B ≤ w.heap.size) :
    Calls Try.prog 89 #[.agg #[.int .i64 n, .slice A m c]] w fun e w' => e = .returned (.int .i64 20) ∧ Below w.heap.size w w' := by
  have HX := Lib.hid hx
  have HXL := Lib.hid hx.1
  have HR := Lib.hid hr
  clear hx hr
  by_cases h1 : n < 0
  · go_enter Try.func89, Try.ntmps89
    go_wp2
    go_ret
    exact ⟨rfl, (Below.refl _ _).alloc (Nat.le_refl _) _⟩
  by_cases h2 : 64 < n
  · go_enter Try.func89, Try.ntmps89
    go_wp2
    go_ret
    exact ⟨rfl, (Below.refl _ _).alloc (Nat.le_refl _) _⟩
  by_cases h3 : 4096 < m
  · go_enter Try.func89, Try.ntmps89
    go_wp2
    go_ret
    exact ⟨rfl, (Below.refl _ _).alloc (Nat.le_refl _) _⟩
  go_enter Try.func89, Try.ntmps89
  go_wp2_with fail
  have HW : Hid (Boxed (w.alloc (.cells #[.int .i64 n, .slice A m c] 133)) w.heap.size n A m c ∧ Below w.heap.size w (w.alloc (.cells #[.int .i64 n, .slice A m c] 133))) := Lib.hid ⟨boxed_alloc _ _ _ _ _ _, (Below.refl _ _).alloc (Nat.le_refl _) _⟩
  have hsz : (w.alloc (.cells #[.int .i64 n, .slice A m c] 133)).heap.size = w.heap.size + 1 := by simp
  generalize (w.alloc (.cells #[.int .i64 n, .slice A m c] 133)) = W0 at HW hsz ⊢
  go_loopw [22] (fun i wr => ∃ k : Nat, k ≤ m ∧ i = .int .i64 (k : Int) ∧ Hid (∀ j < k, node n (ea es j) = true ∧ node n (eb es j) = true) ∧ Hid (Below (w.heap.size + 1) W0 wr)) (fun i _ => m - (intOf i).toNat)
  case atStart => exact ⟨0, by omega, rfl, Lib.hid (fun j hj => absurd hj (by omega)), Lib.hid (Below.refl _ _)⟩
  case round =>
    obtain ⟨k, hk, rfl, HG, HB⟩ := hrel
    have HBw : Hid (Below w.heap.size w wr) := Lib.hid (HW.out.2.trans (HB.out.mono (by omega)))
    by_cases hlt : k < m
    · obtain ⟨b, off, rfl, hbb, hca, hcb⟩ := (HX.out.below (HBw.out.mono hB)).at_ hlt
      obtain ⟨hcn, hcs⟩ := HW.out.1.below HB.out (Nat.lt_succ_self _)
      have hwr : w.heap.size < wr.heap.size := by have := HB.out.size; omega
      obtain ⟨hcn1, hcs1⟩ := (Boxed.below ⟨hcn, hcs⟩ ((Below.refl wr.heap.size wr).alloc (Nat.le_refl _) (.cells #[.int .i64 (ea es k), .int .i64 (eb es k)] 90)) hwr : Boxed (wr.alloc (.cells #[.int .i64 (ea es k), .int .i64 (eb es k)] 90)) w.heap.size n (some ⟨b, off, none⟩) m c)
      have HB1 : Hid (Below (w.heap.size + 1) W0 (wr.alloc (.cells #[.int .i64 (ea es k), .int .i64 (eb es k)] 90))) := Lib.hid (HB.out.alloc (by omega) _)
      go_wp2_with fail
      refine hasNode_any.mono ?_
      rintro e w2 ⟨rfl, hbel2⟩
      have hce1 : w2.cell? ⟨wr.heap.size, 0, none⟩ = some (.int .i64 (ea es k)) := by rw [hbel2.cell (p := ⟨wr.heap.size, 0, none⟩) (by simp)]; simp
      have hce2 : w2.cell? ⟨wr.heap.size, 1, none⟩ = some (.int .i64 (eb es k)) := by rw [hbel2.cell (p := ⟨wr.heap.size, 1, none⟩) (by simp)]; simp
      have HB2 : Hid (Below (w.heap.size + 1) W0 w2) := Lib.hid (HB1.out.trans (hbel2.mono (by simp; omega)))
      obtain ⟨hcn2, hcs2⟩ := HW.out.1.below HB2.out (Nat.lt_succ_self _)
      clear hbel2
      cases hna : node n (ea es k) with
      | false =>
        go_wp2
        go_ret
        exact ⟨rfl, HW.out.2.trans (HB2.out.mono (by omega))⟩
      | true =>
        go_wp2_with fail
        refine hasNode_any.mono ?_
        rintro e w3 ⟨rfl, hbel3⟩
        have HB3 : Hid (Below (w.heap.size + 1) W0 w3) := Lib.hid (HB2.out.trans (hbel3.mono (by have := HB2.out.size; omega)))
        clear hbel3
        cases hnb : node n (eb es k) with
        | false =>
          go_wp2
          go_ret
          exact ⟨rfl, HW.out.2.trans (HB3.out.mono (by omega))⟩
        | true =>
          go_wp2
          go_roundw
          case rel => exact ⟨k + 1, by omega, by go_num, Lib.hid (fun j hj => by
            by_cases hjk : j < k
            · exact HG.out j hjk
            · obtain rfl : j = k := by omega
              exact ⟨hna, hnb⟩), HB3⟩
          case measure => simp [intOf]; omega
    · exfalso
      refine HR.out ⟨by omega, by omega, by rw [HXL.out]; omega, fun j hj => HG.out j (by rw [HXL.out] at hj; omega)⟩
set_option maxHeartbeats 1000000 in
theorem order_bad {w : World} {B m c : Nat} {n : Int} {A : Option Addr} {es : List (Int × Int)} (hx : RdE w B A m es) (hr : ¬ GraphR n es) (hm0 : m ≤ 9223372036854775807) (hB : B ≤ w.heap.size) :
    Calls Try.prog 83 #[.agg #[.int .i64 n, .slice A m c]] w fun e w' => e = .returned (.tuple #[.slice none 0 0, .int .i64 20]) ∧ Below w.heap.size w w' := by
  have HX := Lib.hid hx
  have HR := Lib.hid hr
  clear hx hr
  go_enter Try.func83, Try.ntmps83
  go_wp2_with fail
  go_step3
  go_wp2_with fail
  refine (check_no (HX.out.alloc hB _) HR.out hm0 (by simp; omega)).mono ?_
  rintro e w2 ⟨rfl, hb⟩
  have HB := Lib.hid hb
  clear hb
  go_wp2
  try rw [Exit.noGoto_ret]
  go_ret2
  exact ⟨rfl, ((Below.refl _ _).alloc (Nat.le_refl _) _).trans (HB.out.mono (by simp))⟩

theorem natE_len (es : List Pr) : (natE es).length = es.length := by simp [natE]
theorem pr_at (es : List Pr) (k : Nat) (h : k < es.length) : (ea es k, eb es k) = es[k] := by
 unfold ea eb; simp [List.getD, h]
theorem graphB_iff {n : Nat} {es : List Pr} : graphB n es = true ↔ GraphR (n : Int) es := by
 unfold graphB GraphR
 simp only [Bool.and_eq_true, decide_eq_true_eq, List.all_eq_true]
 constructor
 ·rintro ⟨⟨h1, h2⟩, h3⟩
  refine ⟨by omega, by omega, h2, fun k hk => ?_⟩
  have h4 := h3 es[k] (List.getElem_mem hk)
  rw [← pr_at es k hk] at h4
  exact h4
 ·rintro ⟨h1, h2, h3, h4⟩
  refine ⟨⟨by omega, h3⟩, fun e he => ?_⟩
  obtain ⟨k, hk, rfl⟩ := List.getElem_of_mem he
  rw [← pr_at es k hk]
  exact h4 k hk
theorem graphB_ed {n : Nat} {es : List Pr} (h : graphB n es = true) {e : Pr} (he : e ∈ es) : 0 ≤ e.1 ∧ e.1 < (n : Int) ∧ 0 ≤ e.2 ∧ e.2 < (n : Int) := by
 unfold graphB node at h
 simp only [Bool.and_eq_true, decide_eq_true_eq, List.all_eq_true] at h
 have := h.2 e he
 omega
theorem castE_nat {n : Nat} {es : List Pr} (h : graphB n es = true) : castE (natE es) = es := by
 unfold castE natE
 rw [List.map_map]
 conv => rhs; rw [← List.map_id es]
 apply List.map_congr_left
 intro e he
 have := graphB_ed h he
 show ((e.1.toNat : Int), (e.2.toNat : Int)) = e
 rw [Int.toNat_of_nonneg this.1, Int.toNat_of_nonneg this.2.2.1]
theorem inN_nat {n : Nat} {es : List Pr} (h : graphB n es = true) : InN n (natE es) := by
 intro k hk
 rw [natE_len] at hk
 have := graphB_ed h (List.getElem_mem hk)
 unfold fa fb natE
 simp [List.getD, hk]
 omega
def ordI (n : Nat) (es : List Pr) : Int := if graphB n es = true then (if goesB n es = true then 0 else 21) else 20
theorem orderV_any {w : World} {B m c n : Nat} {A : Option Addr} {es : List Pr} (hx : RdE w B A m es) (hm0 : m ≤ 9223372036854775807) (hB : B ≤ w.heap.size) :
 Calls Try.prog 83 #[.agg #[.int .i64 (n : Int), .slice A m c]] w fun e w' => (∃ v, e = .returned (.tuple #[v, .int .i64 (ordI n es)])) ∧ Below w.heap.size w w' := by
 by_cases hg : graphB n es = true
 ·have hr := graphB_iff.1 hg
  have hx' : RdEg w B A m (natE es) := by unfold RdEg; rw [castE_nat hg]; exact hx
  have hm : m ≤ 4096 := by rw [← hx.1]; exact hr.2.2.1
  refine (order_any hx' (inN_nat hg) (by have := hr.2.1; omega) hm hB).mono ?_
  rintro e w' ⟨hb, ⟨hG, A', c', rfl, _⟩ | ⟨hG, rfl⟩⟩
  ·refine ⟨⟨.slice A' n c', ?_⟩, hb⟩
   unfold ordI; rw [if_pos hg, if_pos (goesB_iff.2 hG)]
  ·refine ⟨⟨.slice none 0 0, ?_⟩, hb⟩
   unfold ordI; rw [if_pos hg, if_neg (fun h => hG (goesB_iff.1 h))]
 ·refine (order_bad hx (fun h => hg (graphB_iff.2 h)) hm0 hB).mono ?_
  rintro e w' ⟨rfl, hb⟩
  refine ⟨⟨.slice none 0 0, ?_⟩, hb⟩
  unfold ordI; rw [if_neg hg]
theorem OwnF.setC {α : Type} {E : TypeId} {z : Nat} {f : α → List Value} {w : World} {base : Nat} {v : Value} {l : List α} (h : OwnF E z f w base v l) {p : Addr} (hp : p.block < base) (u : Value) : OwnF E z f (w.setCell p u) base v l := by
 refine ⟨h.1, ?_⟩
 rcases h.2 with h | ⟨g, cap, cur, hv, hbg, hh, r⟩
 ·exact .inl h
 ·exact .inr ⟨g, cap, cur, hv, hbg, (Go.Deep.blk_setCell_other w p u g (by omega)).trans hh, r⟩
set_option maxHeartbeats 4000000 in
theorem graphP_any {w : World} {nF cF nT cT nS cS n c : Nat} {AF AT AS A : Option Addr} {es : List Pr} (hl : es.length = n) (hn : n ≤ 1000000) (h : 0 < n → ∃ b off, A = some ⟨b, off, none⟩ ∧ b < w.heap.size ∧ ∀ j u, (es.flatMap prF)[j]? = some u → w.cell? ⟨b, off + j, none⟩ = some u) :
  Calls Try.prog 82 #[.agg #[.slice AF nF cF, .slice AT nT cT, .slice AS nS cS, .slice A n c]] w fun e w' => ∃ A' c', e = .returned (.agg #[.int .i64 (nS : Int), .slice A' n c']) ∧ OwnF 90 2 prF w' w.heap.size (.slice A' n c') es ∧ Below w.heap.size w w' := by
 obtain ⟨W, HW⟩ : ∃ W, Hid (W = (w.alloc (.cells #[.slice AF nF cF, .slice AT nT cT, .slice AS nS cS, .slice A n c] 29)).alloc (.cells #[.int .i64 0, .slice none 0 0] 133)) := ⟨_, Lib.hid rfl⟩
 have hbl : Below w.heap.size w W := by rw [HW.out]; exact ((Below.refl _ w).alloc (Nat.le_refl _) _).alloc (by simp) _
 have HBL := Lib.hid hbl
 have HZ : Hid (W.heap.size = w.heap.size + 2) := Lib.hid (by rw [HW.out]; simp)
 have H0 : Hid (W.heap[w.heap.size]? = some (.cells #[.slice AF nF cF, .slice AT nT cT, .slice AS nS cS, .slice A n c] 29 (0, 0))) := Lib.hid (by
  rw [HW.out, Below.heap_alloc _ _ _ (by simp)]; exact heap_new w _)
 have H1 : Hid (W.heap[w.heap.size + 1]? = some (.cells #[.int .i64 0, .slice none 0 0] 133 (0, 0))) := Lib.hid (by
  rw [HW.out]
  have h := heap_new (w.alloc (.cells #[.slice AF nF cF, .slice AT nT cT, .slice AS nS cS, .slice A n c] 29)) (.cells #[.int .i64 0, .slice none 0 0] 133)
  rw [World.size_alloc] at h; exact h)
 have HC := Lib.hid (cloneE_any (w := W.drewN 1) (c := c) hl hn (fun h0 => by
  obtain ⟨b, off, e, hb, hc⟩ := h h0
  exact ⟨b, off, e, Nat.lt_of_lt_of_le hb hbl.size, fun j u hj => (hbl.cell (p := ⟨b, off + j, none⟩) hb).trans (hc j u hj)⟩))
 clear h hbl
 go_enter Try.func82, Try.ntmps82
 go_upto_region 1 with fail
 change Code.wp _ _ _ _ ((w.alloc (.cells #[.slice AF nF cF, .slice AT nT cT, .slice AS nS cS, .slice A n c] 29)).alloc (.cells #[.int .i64 0, .slice none 0 0] 133))
 rw [← HW.out]
 obtain ⟨_, _, y2, y3⟩ := row4 H0.out
 obtain ⟨g0, g1, gf0, gf1⟩ := row2 H1.out
 go_region_held3 (fun W' => W'.cell? ⟨w.heap.size, 2, none⟩ = some (.slice AS nS cS) ∧ W'.cell? ⟨w.heap.size, 3, none⟩ = some (.slice A n c)) ((first | exact ⟨y2, y3⟩ | exact ⟨z2, z3⟩ | go_keep)) (first
  | (go_at_call 85; refine HC.out.mono ?_; rintro e w1 ⟨A', c', rfl, hown, hb'⟩; (have hb : Below W.heap.size W w1 := (Below.drewN' (Below.refl _ W) 1).trans hb'); (obtain ⟨_, _, z2, z3⟩ := row4 ((hb.block w.heap.size (heapE_lt H0.out)).trans H0.out)); (obtain ⟨g0, g1, gf0, gf1⟩ := row2 ((hb.block (w.heap.size + 1) (heapE_lt H1.out)).trans H1.out)); (have HB1 := Lib.hid hb); (have HO1 := Lib.hid hown); clear hb hb' hown))
 have K1 : Hid (w1.heap[w.heap.size + 1]? = _) := Lib.hid ((HB1.out.block (w.heap.size + 1) (heapE_lt H1.out)).trans H1.out)
 have S1 := heap_setCell_same w1 (w.heap.size + 1) 0 _ _ (.int .i64 (nS : Int)) K1.out
 have S2 := heap_setCell_same _ (w.heap.size + 1) 1 _ _ (.slice A' n c') S1
 have S3 := Lib.hid S2
 have HOF := Lib.hid ((HO1.out.setC (p := ⟨w.heap.size + 1, 0, none⟩) (by have := HZ.out; show w.heap.size + 1 < W.heap.size; omega) (.int .i64 (nS : Int))).setC (p := ⟨w.heap.size + 1, 1, none⟩) (by have := HZ.out; show w.heap.size + 1 < W.heap.size; omega) (.slice A' n c'))
 have HBF := Lib.hid (((HBL.out.trans (HB1.out.mono HBL.out.size)).setCell (p := ⟨w.heap.size + 1, 0, none⟩) (by show w.heap.size ≤ w.heap.size + 1; omega) (.int .i64 (nS : Int))).setCell (p := ⟨w.heap.size + 1, 1, none⟩) (by show w.heap.size ≤ w.heap.size + 1; omega) (.slice A' n c'))
 clear S1 S2 y2 y3 z2 z3 g0 g1 gf0 gf1
 go_wp2_with fail
 refine bodyPost_ret (v := .agg #[.int .i64 (nS : Int), .slice A' n c']) ?_ rfl ⟨A', c', rfl, HOF.out.less HBL.out.size, HBF.out⟩
 exact results_cell_row rfl _ _ (w.heap.size + 1) _ _ _ _ rfl S3.out Try.underlying133 rfl (by kernel_rfl)
set_option maxHeartbeats 8000000 in
theorem canBegin_any {w : World} {B : Nat} {AF AT AS AE : Option Addr} {nF nT nS nE cF cT cS cE : Nat} {p : PlV} (h : PlW w B AF nF AT nT AS nS AE nE p) (hB : B ≤ w.heap.size) :
 Calls Try.prog 69 #[.agg #[.slice AF nF cF, .slice AT nT cT, .slice AS nS cS, .slice AE nE cE]] w fun e w' => e = .returned (.bool (canB p)) ∧ Below w.heap.size w w' := by
 obtain ⟨W, HW⟩ : ∃ W, Hid (W = w.alloc (.cells #[.slice AF nF cF, .slice AT nT cT, .slice AS nS cS, .slice AE nE cE] 29)) := ⟨_, Lib.hid rfl⟩
 have hbl : Below w.heap.size w W := by rw [HW.out]; exact (Below.refl _ w).alloc (Nat.le_refl _) _
 have H0 : Hid (W.heap[w.heap.size]? = some (.cells #[.slice AF nF cF, .slice AT nT cT, .slice AS nS cS, .slice AE nE cE] 29 (0, 0))) := Lib.hid (by rw [HW.out]; exact heap_new w _)
 have HBL := Lib.hid hbl
 have HP := Lib.hid (h.below (hbl.mono hB))
 have HBB : Hid (B ≤ W.heap.size) := Lib.hid (Nat.le_trans hB hbl.size)
 have HNS : Hid (p.S.length = nS) := Lib.hid h.S.1
 have hn100 := h.sz.2.2.1
 have he200 := h.sz.2.2.2
 clear h hbl hB
 have HX : Hid (∀ Z, Below W.heap.size W Z → Z.cell? ⟨w.heap.size, 0, none⟩ = some (.slice AF nF cF) ∧ Z.cell? ⟨w.heap.size, 1, none⟩ = some (.slice AT nT cT) ∧ Z.cell? ⟨w.heap.size, 2, none⟩ = some (.slice AS nS cS) ∧ Z.cell? ⟨w.heap.size, 3, none⟩ = some (.slice AE nE cE)) := Lib.hid (fun Z hZ => row4 ((hZ.block w.heap.size (heapE_lt H0.out)).trans H0.out))
 obtain ⟨x0, x1, x2, x3⟩ := HX.out W (Below.refl _ _)
 go_enter Try.func69, Try.ntmps69
 go_upto_region 1 with fail
 change Code.wp _ _ _ _ (w.alloc (.cells #[.slice AF nF cF, .slice AT nT cT, .slice AS nS cS, .slice AE nE cE] 29))
 rw [← HW.out]
 by_cases h36 : 36 < nS
 ·have d1 : decide (36 < (nS : Int)) = true := decide_eq_true (by omega)
  have HV : Hid (canB p = false) := Lib.hid (by unfold canB; rw [HNS.out, decide_eq_false (by omega)]; rfl)
  go_wp2_with fail
  refine bodyPost_ret (results_tmp rfl _ _ _) rfl ⟨?_, HBL.out⟩
  exact congrArg (fun b => Ending.returned (.bool b)) HV.out.symm
 have d1 : decide (36 < (nS : Int)) = false := decide_eq_false (by omega)
 have HC0 : Hid (canB p = (p.S.all (fun x => decide (1 ≤ x.2 ∧ x.2 ≤ 3)) && (graphB p.S.length p.E && goesB p.S.length p.E))) := Lib.hid (by unfold canB; rw [decide_eq_true (show p.S.length ≤ 36 by rw [HNS.out]; omega), Bool.true_and])
 go_wp2_with fail
 clear x0 x1 x2 x3 d1
 go_loopw [4, 14] (fun _ v wr => ∃ k : Nat, k ≤ nS ∧ v = .int .i64 (k : Int) ∧ Hid (Below W.heap.size W wr) ∧ Hid (∀ i, i < k → 1 ≤ eb p.S i ∧ eb p.S i ≤ 3)) (fun _ v _ => nS - (intOf v).toNat)
 case atStart => exact ⟨0, Nat.zero_le _, rfl, Lib.hid (Below.refl _ _), Lib.hid (fun i h => absurd h (by omega))⟩
 case round =>
  obtain ⟨wo, hwo⟩ : ∃ x, x = wr := ⟨_, rfl⟩
  subst hwo
  obtain ⟨k, hk, rfl, HBo, HOK⟩ := hrel
  have HWo : Hid (Below w.heap.size w wo) := Lib.hid (HBL.out.trans (HBo.out.mono HBL.out.size))
  by_cases hkn : k < nS
  ·have hd : decide ((k : Int) < (nS : Int)) = true := by simp; omega
   have hki : (k : Int) < (nS : Int) := by omega
   have hadd : IntKind.i64.wrap ((k : Int) + 1) = ((k + 1 : Nat) : Int) := by rw [IntWalk.i64_in _ (by omega)]; omega
   obtain ⟨b, off, hA, hbB, s0, s1⟩ := (HP.out.S.below (HBo.out.mono HBB.out)).at_ hkn
   subst hA
   obtain ⟨u, HU⟩ : ∃ u, Hid (eb p.S k = u) := ⟨_, Lib.hid rfl⟩
   obtain ⟨v, HU2⟩ : ∃ u, Hid (ea p.S k = u) := ⟨_, Lib.hid rfl⟩
   rw [HU.out] at s1
   rw [HU2.out] at s0
   obtain ⟨W1, HW1⟩ : ∃ W1, Hid (W1 = wo.alloc (.cells #[.int .i64 v, .int .i64 u] 71)) := ⟨_, Lib.hid rfl⟩
   have hb1 : Below wo.heap.size wo W1 := by rw [HW1.out]; exact (Below.refl _ wo).alloc (Nat.le_refl _) _
   have hn0 : W1.heap[wo.heap.size]? = some (.cells #[.int .i64 v, .int .i64 u] 71 (0, 0)) := by rw [HW1.out]; exact heap_new wo _
   obtain ⟨y0, y1, _, _⟩ := row2 hn0
   have HB1 : Hid (Below W.heap.size W W1) := Lib.hid (HBo.out.trans (hb1.mono HBo.out.size))
   have HW1w : Hid (Below w.heap.size w W1) := Lib.hid (HBL.out.trans (HB1.out.mono HBL.out.size))
   clear hb1 hn0
   have HBAD : Hid (¬ (1 ≤ u ∧ u ≤ 3) → canB p = false) := Lib.hid (fun hn => by
    rw [HC0.out]
    have : p.S.all (fun x => decide (1 ≤ x.2 ∧ x.2 ≤ 3)) = false := by
     rw [List.all_eq_false]
     have hkl : k < p.S.length := by rw [HNS.out]; exact hkn
     refine ⟨_, mem_pr.2 ⟨k, hkl, rfl⟩, ?_⟩
     show ¬ decide (1 ≤ eb p.S k ∧ eb p.S k ≤ 3) = true
     rw [HU.out]; simpa using hn
    rw [this]; rfl)
   by_cases h1 : u < 1
   ·have e1 : decide (u < 1) = true := decide_eq_true h1
    have HV : Hid (canB p = false) := Lib.hid (HBAD.out (by omega))
    clear h1
    go_upto_region 6 with fail
    change Code.wp _ _ _ _ (wo.alloc (.cells #[.int .i64 v, .int .i64 u] 71))
    rw [← HW1.out]
    go_wp2_with fail
    refine bodyPost_ret (results_tmp rfl _ _ _) rfl ⟨?_, HW1w.out⟩
    exact congrArg (fun b => Ending.returned (.bool b)) HV.out.symm
   have e1 : decide (u < 1) = false := decide_eq_false h1
   by_cases h2 : 3 < u
   ·have e2 : decide (3 < u) = true := decide_eq_true h2
    have HV : Hid (canB p = false) := Lib.hid (HBAD.out (by omega))
    clear h1 h2
    go_upto_region 6 with fail
    change Code.wp _ _ _ _ (wo.alloc (.cells #[.int .i64 v, .int .i64 u] 71))
    rw [← HW1.out]
    go_wp2_with fail
    refine bodyPost_ret (results_tmp rfl _ _ _) rfl ⟨?_, HW1w.out⟩
    exact congrArg (fun b => Ending.returned (.bool b)) HV.out.symm
   have e2 : decide (3 < u) = false := decide_eq_false h2
   have HOU : Hid (1 ≤ u ∧ u ≤ 3) := Lib.hid (by omega)
   clear h1 h2
   go_upto_region 6 with fail
   change Code.wp _ _ _ _ (wo.alloc (.cells #[.int .i64 v, .int .i64 u] 71))
   rw [← HW1.out]
   go_wp2_with fail
   go_roundw
   case rel => exact ⟨k + 1, by omega, by go_num, HB1, Lib.hid (fun i hi => by
    by_cases e : i = k
    ·subst e; rw [HU.out]; exact HOU.out
    ·exact HOK.out i (by omega))⟩
   case measure => simp [intOf]; omega
  ·have hd : decide ((k : Int) < (nS : Int)) = false := by simp; omega
   have HAL : Hid (canB p = (graphB nS p.E && goesB nS p.E)) := Lib.hid (by
    rw [HC0.out, HNS.out]
    have : p.S.all (fun x => decide (1 ≤ x.2 ∧ x.2 ≤ 3)) = true := by
     rw [List.all_eq_true]
     intro x hx
     obtain ⟨i, hi, rfl⟩ := mem_pr.1 hx
     exact decide_eq_true (HOK.out i (by have := HNS.out; omega))
    rw [this, Bool.true_and])
   have HPo := Lib.hid (HP.out.below (HBo.out.mono HBB.out))
   have HGR := Lib.hid (graphP_any (w := wo) (nF := nF) (cF := cF) (nT := nT) (cT := cT) (nS := nS) (cS := cS) (c := cE) (AF := AF) (AT := AT) (AS := AS) (HPo.out.E.cl (Nat.le_trans HBB.out HBo.out.size)).1 (by omega) (HPo.out.E.cl (Nat.le_trans HBB.out HBo.out.size)).2)
   obtain ⟨x0, x1, x2, x3⟩ := HX.out wo HBo.out
   go_wp2_with fail
   refine HGR.out.mono ?_
   rintro e w1 ⟨A', c', rfl, ho, hb⟩
   have HB1 := Lib.hid (HWo.out.trans (hb.mono HWo.out.size))
   have HOR := Lib.hid (orderV_any (c := c') (n := nS) ho.rdE (by omega) (Nat.le_refl _))
   clear ho hb x0 x1 x2 x3
   obtain ⟨oi, HOI⟩ : ∃ oi, Hid (ordI nS p.E = oi) := ⟨_, Lib.hid rfl⟩
   rw [HOI.out] at HOR
   have HV : Hid (canB p = (oi == 0)) := Lib.hid (by
    rw [HAL.out, ← HOI.out]; unfold ordI
    by_cases hg : graphB nS p.E = true
    ·rw [if_pos hg, hg]
     by_cases hq : goesB nS p.E = true
     ·rw [if_pos hq, hq]; rfl
     ·rw [if_neg hq]; simp only [Bool.not_eq_true] at hq; rw [hq]; rfl
    ·rw [if_neg hg]; simp only [Bool.not_eq_true] at hg; rw [hg]; rfl)
   go_wp2_with fail
   refine HOR.out.mono ?_
   rintro e w2 ⟨⟨v, rfl⟩, hb⟩
   have HB2 := Lib.hid (HB1.out.trans (hb.mono HB1.out.size))
   clear hb
   go_wp2_with fail
   refine bodyPost_ret (results_tmp rfl _ _ _) rfl ⟨?_, HB2.out⟩
   exact congrArg (fun b => Ending.returned (.bool b)) HV.out.symm
end Go.Proofs.Ytolgmoaoheflcaa.Sa
