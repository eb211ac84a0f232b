/-
 CONTRACTS: slices.Grow of nil, slices.Concat of two rows of numbers; Reached (printed by gengre.py).
-/
import Derived.Test.YtolgmoaoheflcaaGSt
import Derived.Lib.AppendZerosOnto
import Derived.Lib.Walk
namespace Go.Proofs.Ytolgmoaoheflcaa.Sa
open Go.RowKit
open DiP
set_option linter.unusedVariables false
set_option linter.unusedSimpArgs false
set_option maxRecDepth 10000
/-- 'append(s, x...)', s the call's own, x a slice that is only read (nil too). -/
theorem wpl_apps {w : World} {ops : Array Oper} {rest : List Oper} {o : Oper} {a : Act} {Q : Exit → Act → World → Prop} (hgd : o.guard = none) (s x : Operand)
  (ho : o.op = .call { callee := .builtin .append, args := #[s, x], argTypes := #[25, 25] })
  (base : Nat) (v : Value) (n : Nat) (xs : List Int) (hs : a.eval s = v) (hown : Own w base v n xs)
  (B : Nat) (D : Option Addr) (m d : Nat) (ys : List Int) (hx : a.eval x = .slice D m d) (hr : Rd w B D m ys) (hn : n + m ≤ 1099511627776) (hbase : base ≤ w.heap.size)
  (h : ∀ v' w', Own w' base v' (n + m) (xs ++ ys) → w.grownBy w' v.ownBlock → (v'.ownBlock = v.ownBlock ∨ v'.ownBlock = some w.heap.size) → wpList Try.prog ops Q rest (a.put o.dst v') w') :
  wpList Try.prog ops Q (o :: rest) a w := by
 obtain ⟨i0, hi, hz0, hz1, hz2⟩ := info_parts infoInt
 rcases D with _ | ad
 ·have hm : m = 0 := by
   rcases Nat.eq_zero_or_pos m with h0 | h0
   ·exact h0
   ·obtain ⟨b, off, e, _⟩ := hr.2 h0
    cases e
  subst hm
  have hy : ys = [] := List.eq_nil_of_length_eq_zero hr.1
  subst hy
  have hrun : (Builtin.append_ #[25, 25] o.type #[v, .slice none 0 d]).run Try.prog w = .ok v w := by
   rcases hown.2 with ⟨rfl, rfl⟩ | ⟨g, cap, cur, rfl, _, _, hnc, _⟩
   ·simp [Builtin.append_, run_underlying Try.underlying25, sizeOf, typeInfo, hi, Builtin.lenOf, Builtin.firstCells]
   ·simp [Builtin.append_, run_underlying Try.underlying25, sizeOf, typeInfo, hi, Builtin.lenOf, Builtin.firstCells, hnc, storeCells]
  refine wpList_plain hgd fun K hK => ?_
  unfold Oper.wp execOp
  simp only [ho, resolve, invoke, builtin, Sem.run_bind, Sem.run_pure, Result.andThen_ok, List.map_toArray, List.map_cons, List.map_nil, hs, hx, hrun]
  exact hK _ _ (h v w (by simpa using hown) (World.grownBy.refl w _) (.inl rfl))
 ·refine wpList_append_own_at w hgd s x 25 ho base 3 i0 (.int .i64 0) 1 8 Try.underlying25 hi hz0 hz1 hz2 rfl (by decide) v n _ hs hown ad m d (ys.map (Value.int .i64)) hx (by simp [hr.1]) ?_ ?_ (by unfold maxLen; omega) (by omega) hbase ?_
  ·intro j z hj
   have hjm : j < m := by
    have := (List.getElem?_eq_some_iff.1 hj).1
    simpa [hr.1] using this
   obtain ⟨b, off, e, _, hc⟩ := hr.at_ hjm
   cases e
   rw [addr_add, hc]
   rw [ix_map ys j (by rw [hr.1]; exact hjm)] at hj
   exact hj
  ·intro z hz
   obtain ⟨u, _, rfl⟩ := List.mem_map.1 hz
   rfl
  ·intro v' w' hown' hg _ hat
   exact h v' w' (by unfold Own; rw [List.map_append]; exact hown') hg hat
theorem size_zeroCells1 (z : Value) (k : Nat) (h : z.cells.size = 1) : (Builtin.zeroCells z.cells k).size = k := by
 unfold Builtin.zeroCells; simp [h]

set_option maxRecDepth 100000 in
set_option maxHeartbeats 800000 in
theorem growI_any (w : World) (n : Nat) (hn : n ≤ 1099511627776) :
  Calls Try.prog 73 #[.slice none 0 0, .int .i64 (n : Int)] w fun e w' => ∃ v, e = .returned v ∧ Own w' w.heap.size v 0 [] ∧ Below w.heap.size w w' := by
 by_cases h0 : n = 0
 ·subst h0
  go_enter Try.func73, Try.ntmps73
  go_wp2
  go_ret
  exact ⟨_, rfl, Own.nil_ _ _, Below.refl _ _⟩
 ·obtain ⟨i0, hi, hz0, hz1, hz2⟩ := info_parts infoInt
  have hgn : n ≤ grownCap w n 0 3 := grownCap_ge w _ _ _
  have hgm : grownCap w n 0 3 ≤ maxLen := grownCap_le_maxLen w n 0 3 (by unfold maxLen; omega)
  have hrz : ∀ ty, (Builtin.append_ #[25, 3] ty #[.slice none 0 0, .int .i64 (n : Int)]).run Try.prog w =
    .ok (.slice (some ⟨w.heap.size, 0, none⟩) n (grownCap w n 0 3)) (w.drew.alloc (.cells (#[] ++ Builtin.zeroCells (Value.int .i64 0).cells n ++ Builtin.zeroCells (Value.int .i64 0).cells (grownCap w n 0 3 - n)) 3)) := fun ty => by
   have h := Lib.run_append_grow_zeros w 25 3 ty 3 i0 (.int .i64 0) .i64 .i64 Try.underlying25 Try.underlying3 hi hz0 none 0 0 [] (run_firstCells_none w.drew i0.size 0 0 0) n (by omega) (by omega) (by omega) (by omega)
    (by rw [hz2]; omega) (growslice_fits (by omega) (by rw [hz2]; omega))
   simpa using h
  have HO : Hid (Own (w.alloc (.cells (Builtin.zeroCells #[Value.int .i64 0] n ++ Builtin.zeroCells #[Value.int .i64 0] (grownCap w n 0 3 - n)) 3)).drew w.heap.size (.slice (some ⟨w.heap.size, 0, none⟩) 0 (grownCap w n 0 3)) 0 []) := Lib.hid
   (Own.drew ⟨rfl, .inr ⟨w.heap.size, grownCap w n 0 3, _, rfl, Nat.le_refl _, heap_alloc_new w _, Nat.zero_le _, hgm, by
    have h1 : (Builtin.zeroCells #[Value.int .i64 0] n).size = n := size_zeroCells1 (.int .i64 0) n rfl
    have h2 : (Builtin.zeroCells #[Value.int .i64 0] (grownCap w n 0 3 - n)).size = grownCap w n 0 3 - n := size_zeroCells1 (.int .i64 0) (grownCap w n 0 3 - n) rfl
    rw [Array.size_append, h1, h2]; omega, by simp⟩⟩)
  have HB : Hid (Below w.heap.size w (w.alloc (.cells (Builtin.zeroCells #[Value.int .i64 0] n ++ Builtin.zeroCells #[Value.int .i64 0] (grownCap w n 0 3 - n)) 3)).drew) := Lib.hid ((Below.refl _ w).alloc (Nat.le_refl _) _).drew
  obtain ⟨G, hG⟩ : ∃ G, G = grownCap w n 0 3 := ⟨_, rfl⟩
  rw [← hG] at hrz hgn HO HB
  have hn0 : 0 < n := by omega
  clear hG hgm
  go_enter Try.func73, Try.ntmps73
  go_wp2_with (at_builtin; refine Lib.wpList_append_run _ rfl _ _ _ _ rfl _ _ rfl rfl _ _ (hrz _) ?_)
  go_ret
  exact ⟨_, rfl, HO.out, HB.out⟩

set_option maxHeartbeats 8000000 in
theorem concatI_any (A1 A2 : Option Addr) (n1 n2 c1 c2 : Nat) (l1 l2 : List Int) (g cap : Nat) (w : World) (B : Nat) (h1 : Rd w B A1 n1 l1) (h2 : Rd w B A2 n2 l2) (hB : B ≤ w.heap.size) (hg : w.heap[g]? = some (.cells #[.slice A1 n1 c1, .slice A2 n2 c2] 25 (0, 0))) (hn1 : n1 ≤ 1000) (hn2 : n2 ≤ 1000) :
  Calls Try.prog 40 #[.slice (some ⟨g, 0, none⟩) 2 cap] w fun e w' => (∃ v, e = .returned v ∧ Own w' w.heap.size v (n1 + n2) (l1 ++ l2)) ∧ Below w.heap.size w w' := by
 have hgl : g < w.heap.size := heapE_lt hg
 obtain ⟨p0, p1, _, _⟩ := row2 hg
 have a1 : IntKind.i64.wrap (0 + (n1 : Int)) = (n1 : Int) := by rw [IntWalk.i64_in _ (by omega)]; omega
 have a1' : IntKind.i64.wrap (n1 : Int) = (n1 : Int) := by rw [IntWalk.i64_in _ (by omega)]
 have a2 : IntKind.i64.wrap ((n1 : Int) + (n2 : Int)) = ((n1 + n2 : Nat) : Int) := by rw [IntWalk.i64_in _ (by omega)]; omega
 have d1 : decide ((n1 : Int) < 0) = false := decide_eq_false (by omega)
 have d2 : decide (((n1 + n2 : Nat) : Int) < 0) = false := decide_eq_false (by omega)
 have d3 : decide ((n1 : Int) + (n2 : Int) < 0) = false := decide_eq_false (by omega)
 have HGW := Lib.hid (growI_any w (n1 + n2) (by omega))
 rw [show ((n1 + n2 : Nat) : Int) = (n1 : Int) + (n2 : Int) by omega] at HGW
 have HN := Lib.hid (And.intro hn1 hn2)
 have HG := Lib.hid (And.intro hg hgl)
 have HS := Lib.hid (And.intro h1 (And.intro h2 hB))
 clear h1 h2 hB
 clear hg hgl hn1 hn2
 go_enter Try.func40, Try.ntmps40
 go_wp2
 refine wp_loop_rounds 3 ?_
 rw [rounds_succ]
 go_wp2
 rw [rounds_succ]
 go_wp2
 rw [rounds_succ]
 go_wp2_with fail
 refine HGW.out.mono ?_
 rintro e w2 ⟨v2, rfl, ho, hb⟩
 have HO2 := Lib.hid ho
 have HB2 := Lib.hid hb
 have q0 := (hb.cell (p := ⟨g, 0, none⟩) HG.out.2).trans p0
 have q1 := (hb.cell (p := ⟨g, 1, none⟩) HG.out.2).trans p1
 have HQ1 := Lib.hid q1
 have HGL2 : Hid (g < w2.heap.size) := Lib.hid (Nat.lt_of_lt_of_le HG.out.2 hb.size)
 clear ho hb HGW p0 p1 a1 a1' a2 d1 d2 d3
 go_wp2
 refine wp_loop_rounds 3 ?_
 rw [rounds_succ]
 go_wp2_with (at_builtin; refine wpl_apps rfl (.tmp 31) (.tmp 32) rfl w.heap.size v2 0 [] rfl HO2.out B A1 n1 c1 l1 rfl (HS.out.1.below (HB2.out.mono HS.out.2.2)) (by have := HN.out; omega) HB2.out.size ?_; intro v3 w3 hown3 hgr3 hat3; (have HO3 := Lib.hid hown3); (have HGR3 := Lib.hid hgr3); (have q1' : w3.cell? ⟨g, 1, none⟩ = some (.slice A2 n2 c2) := (World.cell?_of_block (hgr3.block g HGL2.out (fun e => by have h := HO2.out.ge g e.symm; have := HG.out.2; omega))).trans HQ1.out); clear hown3 hgr3 hat3)
 have HB3 : Hid (Below w.heap.size w w3) := Lib.hid (HB2.out.grown HGR3.out HB2.out.size (fun g hg => HO2.out.ge g hg))
 rw [rounds_succ]
 go_wp2_with (at_builtin; refine wpl_apps rfl (.tmp 31) (.tmp 32) rfl w.heap.size v3 _ _ rfl HO3.out B A2 n2 c2 l2 rfl (HS.out.2.1.below (HB3.out.mono HS.out.2.2)) (by have := HN.out; omega) HB3.out.size ?_; intro v4 w4 hown4 hgr4 hat4; (have HO4 := Lib.hid hown4); (have HGR4 := Lib.hid hgr4); clear hown4 hgr4 hat4)
 have HB4 : Hid (Below w.heap.size w w4) := Lib.hid (HB3.out.grown HGR4.out HB3.out.size (fun g hg => HO3.out.ge g hg))
 rw [rounds_succ]
 go_wp2
 refine bodyPost_ret (results_tmp rfl _ _ _) rfl ⟨⟨v4, rfl, ?_⟩, HB4.out⟩
 have h := HO4.out
 rw [List.nil_append, Nat.zero_add] at h
 exact h
/-- A list's numbers, as a set. -/
def setL (l : List Int) : Nat := l.foldl (fun s k => add s k.toNat) 0
theorem setL_snoc (l : List Int) (k : Int) : setL (l ++ [k]) = add (setL l) k.toNat := by unfold setL; rw [List.foldl_append]; rfl
theorem setL_ind (P : List Int → Prop) (h0 : P []) (h1 : ∀ l k, P l → P (l ++ [k])) (l : List Int) : P l := by
 have : ∀ n (l : List Int), l.length = n → P l := by
  intro n
  induction n with
  | zero => intro l hl; rw [List.eq_nil_of_length_eq_zero hl]; exact h0
  | succ n ih =>
   intro l hl
   rcases List.eq_nil_or_concat l with rfl | ⟨d, z, rfl⟩
   ·cases hl
   ·rw [List.concat_eq_append]
    exact h1 d z (ih d (by rw [List.concat_eq_append, List.length_append] at hl; simpa using hl))
 exact this _ l rfl
theorem bt_setL {l : List Int} (h : ∀ k ∈ l, 0 ≤ k) (v : Nat) : bt (setL l) v = decide ((v : Int) ∈ l) := by
 revert h
 refine setL_ind (fun l => (∀ k ∈ l, 0 ≤ k) → bt (setL l) v = decide ((v : Int) ∈ l)) (fun _ => by simp [setL, bt_zero]) (fun l k ih h => ?_) l
 rw [setL_snoc, bt_add, ih (fun x hx => h x (by simp [hx]))]
 have hk := h k (by simp)
 by_cases h1 : (v : Int) ∈ l
 ·simp [h1]
 ·by_cases h2 : k.toNat = v
  ·have : k = (v : Int) := by omega
   simp [h1, h2, this]
  ·have : ¬ (v : Int) = k := by omega
   simp [h1, h2, this]
theorem setL_lt {l : List Int} (h : ∀ k ∈ l, 0 ≤ k ∧ k < 64) : setL l < lim := by
 revert h
 refine setL_ind (fun l => (∀ k ∈ l, 0 ≤ k ∧ k < 64) → setL l < lim) (fun _ => by decide) (fun l k ih h => ?_) l
 rw [setL_snoc]
 exact add_lt (ih (fun x hx => h x (by simp [hx]))) (by have := h k (by simp); omega)
theorem take_ix {l : List Int} {k : Nat} (h : k < l.length) : l.take (k + 1) = l.take k ++ [ix l k] := by
 have : ix l k = l[k] := by unfold ix; simp [List.getD, h]
 rw [this, List.take_add_one, List.getElem?_eq_getElem h]; rfl
set_option maxHeartbeats 8000000 in
theorem reached_x {w : World} {B : Nat} {num ph : Int} {AF AT AS AE AO AD : Option Addr} {nF nT nS nE nO nD cF cT cS cE cO cD : Nat} {s : StV} {xs : List Int} (h : StW w B num ph AF nF AT nT AS nS AE nE AO nO AD nD s) (hB : B ≤ w.heap.size) (hr : ∀ k ∈ s.op ++ s.dn, 0 ≤ k ∧ k < 64) (hxs : s.op ++ s.dn = xs) :
 Calls Try.prog 14 #[.agg #[.int .i64 num, .int .i64 ph, .slice AF nF cF, .slice AT nT cT, .slice AS nS cS, .slice AE nE cE, .slice AO nO cO, .slice AD nD cD]] w fun e w' => e = .returned (.int .u64 ((setL xs : Nat) : Int)) ∧ Below w.heap.size w w' := by
 have HRG := Lib.hid hr
 have HXS := Lib.hid hxs
 clear hr hxs
 obtain ⟨W, HW⟩ : ∃ W, Hid (W = w.alloc (.cells #[.int .i64 num, .int .i64 ph, .slice AF nF cF, .slice AT nT cT, .slice AS nS cS, .slice AE nE cE, .slice AO nO cO, .slice AD nD cD] 31)) := ⟨_, Lib.hid rfl⟩
 have hbl : Below w.heap.size w W := by rw [HW.out]; exact (Below.refl _ w).alloc (Nat.le_refl _) _
 have H0 : Hid (W.heap[w.heap.size]? = some (.cells #[.int .i64 num, .int .i64 ph, .slice AF nF cF, .slice AT nT cT, .slice AS nS cS, .slice AE nE cE, .slice AO nO cO, .slice AD nD cD] 31 (0, 0))) := Lib.hid (by rw [HW.out]; exact heap_new w _)
 have HBL := Lib.hid hbl
 have HS := Lib.hid (h.below (hbl.mono hB))
 have HBB : Hid (B ≤ W.heap.size) := Lib.hid (Nat.le_trans hB hbl.size)
 have HNS : Hid (s.pl.S.length = nS) := Lib.hid h.pl.S.1
 have HNO : Hid (s.op.length = nO) := Lib.hid h.op.len
 have HND : Hid (s.dn.length = nD) := Lib.hid h.dn.len
 have HPH : Hid (s.ph = ph) := Lib.hid h.ph
 have hn100 := h.pl.sz.2.2.1
 have ho100 := h.so
 have hd100 := h.sd
 clear h hbl hB
 have HX : Hid (∀ Z, Below W.heap.size W Z → Z.cell? ⟨w.heap.size, 0, none⟩ = some (.int .i64 num) ∧ Z.cell? ⟨w.heap.size, 1, none⟩ = some (.int .i64 ph) ∧ Z.cell? ⟨w.heap.size, 2, none⟩ = some (.slice AF nF cF) ∧ Z.cell? ⟨w.heap.size, 3, none⟩ = some (.slice AT nT cT) ∧ Z.cell? ⟨w.heap.size, 4, none⟩ = some (.slice AS nS cS) ∧ Z.cell? ⟨w.heap.size, 5, none⟩ = some (.slice AE nE cE) ∧ Z.cell? ⟨w.heap.size, 6, none⟩ = some (.slice AO nO cO) ∧ Z.cell? ⟨w.heap.size, 7, none⟩ = some (.slice AD nD cD)) := Lib.hid (fun Z hZ => row8 ((hZ.block w.heap.size (heapE_lt H0.out)).trans H0.out))
 obtain ⟨x0, x1, x2, x3, x4, x5, x6, x7⟩ := HX.out W (Below.refl _ _)
 go_enter Try.func14, Try.ntmps14
 go_upto_region 1 with fail
 change Code.wp _ _ _ _ (w.alloc (.cells #[.int .i64 num, .int .i64 ph, .slice AF nF cF, .slice AT nT cT, .slice AS nS cS, .slice AE nE cE, .slice AO nO cO, .slice AD nD cD] 31))
 rw [← HW.out]
 clear x0 x1 x2 x3 x4 x5
 have hsl : W.heap.size = W.heap.size := rfl
 obtain ⟨X, HXE⟩ : ∃ X, Hid (X = W.alloc (.cells #[.slice AO nO cO, .slice AD nD cD] 25)) := ⟨_, Lib.hid rfl⟩
 have hxb : Below W.heap.size W (W.alloc (.cells #[.slice AO nO cO, .slice AD nD cD] 25)) := (Below.refl _ W).alloc (Nat.le_refl _) _
 have HC := Lib.hid (concatI_any AO AD nO nD cO cD s.op s.dn W.heap.size 2 (W.alloc (.cells #[.slice AO nO cO, .slice AD nD cD] 25)) B (HS.out.op.below (hxb.mono HBB.out)) (HS.out.dn.below (hxb.mono HBB.out)) (Nat.le_trans HBB.out hxb.size) (heap_new W _) (by omega) (by omega))
 have HBX : Hid (Below w.heap.size w (W.alloc (.cells #[.slice AO nO cO, .slice AD nD cD] 25))) := Lib.hid (HBL.out.trans (hxb.mono HBL.out.size))
 clear hxb hsl HXE X
 obtain ⟨N, HNN⟩ : ∃ q, Hid (nO + nD = q) := ⟨_, Lib.hid rfl⟩
 have HNL : Hid (N ≤ 1000) := Lib.hid (by rw [← HNN.out]; omega)
 rw [HXS.out] at HC HRG
 rw [HNN.out] at HC
 go_wp2_with fail
 refine HC.out.mono ?_
 rintro e w1 ⟨⟨v, rfl, ho⟩, hb⟩
 obtain ⟨A', c', hv, hrd⟩ := ho.shape
 subst hv
 have HB1 := Lib.hid (HBX.out.trans (hb.mono HBX.out.size))
 have HRD := Lib.hid hrd
 have HLN : Hid (xs.length = N) := Lib.hid hrd.len
 have hN := HNL.out
 clear ho hb hrd x6 x7 HC
 go_wp2_with fail
 go_loop [3, 5, 13] (fun q _ v => ∃ k : Nat, k ≤ N ∧ v = .int .i64 (k : Int) ∧ q = .int .u64 ((setL (xs.take k) : Nat) : Int)) (fun _ _ v => N - (intOf v).toNat)
 case atStart => exact ⟨0, Nat.zero_le _, rfl, rfl⟩
 case round =>
  obtain ⟨k, hk, rfl, rfl⟩ := hrel
  by_cases hkn : k < N
  ·have hd : decide ((k : Int) < (N : Int)) = true := by simp; omega
   have hki : (k : Int) < (N : Int) := by omega
   have hadd : IntKind.i64.wrap ((k : Int) + 1) = ((k + 1 : Nat) : Int) := by rw [IntWalk.i64_in _ (by omega)]; omega
   obtain ⟨b, off, hA, _, k1⟩ := HRD.out.at_ hkn
   subst hA
   have hkx : k < xs.length := by rw [HLN.out]; exact hkn
   have hmem : ix xs k ∈ xs := mem_ix.2 ⟨k, hkx, rfl⟩
   have hrk := HRG.out _ hmem
   obtain ⟨u, hu⟩ : ∃ u : Nat, ix xs k = (u : Int) := ⟨(ix xs k).toNat, by omega⟩
   have hu64 : u < 64 := by omega
   have HSM : Hid (setL (xs.take k) < lim) := Lib.hid (setL_lt (fun x hx => HRG.out x (List.mem_of_mem_take hx)))
   have HTK : Hid (setL (xs.take (k + 1)) = add (setL (xs.take k)) u) := Lib.hid (by rw [take_ix hkx, setL_snoc, hu, Int.toNat_natCast])
   rw [hu] at k1
   obtain ⟨S, HSS⟩ : ∃ q, Hid (setL (xs.take k) = q) := ⟨_, Lib.hid rfl⟩
   rw [HSS.out] at HSM HTK
   rw [HSS.out]
   obtain ⟨S2, HS2⟩ : ∃ q, Hid (add S u = q) := ⟨_, Lib.hid rfl⟩
   have hor := or_spell HSM.out hu64
   have hor2 := or_spell2 HSM.out hu64
   rw [HS2.out] at hor hor2 HTK
   have hu0 : (0 : Int) ≤ (u : Int) := by omega
   have hwu : IntKind.u64.wrap (u : Int) = (u : Int) := by rw [IntKind.wrap_u64]; omega
   clear hmem hrk hu
   go_wp2_with fail
   go_round
   case rel => exact ⟨k + 1, by omega, by go_num, by rw [HTK.out]⟩
   case measure => simp [intOf]; omega
  ·have hd : decide ((k : Int) < (N : Int)) = false := by simp; omega
   have HTK : Hid (xs.take k = xs) := Lib.hid (List.take_of_length_le (by rw [HLN.out]; omega))
   rw [HTK.out]
   go_wp2_with fail
   refine bodyPost_ret (results_tmp rfl _ _ _) rfl ⟨rfl, HB1.out⟩
theorem reached_any {w : World} {B : Nat} {num ph : Int} {AF AT AS AE AO AD : Option Addr} {nF nT nS nE nO nD cF cT cS cE cO cD : Nat} {s : StV} (h : StW w B num ph AF nF AT nT AS nS AE nE AO nO AD nD s) (hB : B ≤ w.heap.size) (hr : ∀ k ∈ s.op ++ s.dn, 0 ≤ k ∧ k < 64) :
 Calls Try.prog 14 #[.agg #[.int .i64 num, .int .i64 ph, .slice AF nF cF, .slice AT nT cT, .slice AS nS cS, .slice AE nE cE, .slice AO nO cO, .slice AD nD cD]] w fun e w' => e = .returned (.int .u64 ((setL (s.op ++ s.dn) : Nat) : Int)) ∧ Below w.heap.size w w' := reached_x h hB hr rfl
theorem in_bits {s v : Nat} (hs : s < lim) : (((s : Int) / 2 ^ v) % 2 == 1) = bt s v := by
 have e : ((s : Int) / 2 ^ v) = ((s / 2 ^ v : Nat) : Int) := by simp
 rw [e, bt_div]
 have : s / 2 ^ v % 2 < 2 := Nat.mod_lt _ (by decide)
 by_cases h : s / 2 ^ v % 2 = 1
 ·have h' : ((s / 2 ^ v : Nat) : Int) % 2 = 1 := by omega
  rw [h', h]; rfl
 ·have h0 : s / 2 ^ v % 2 = 0 := by omega
  have h' : ((s / 2 ^ v : Nat) : Int) % 2 = 0 := by omega
  rw [h', h0]; rfl
set_option maxHeartbeats 400000 in
theorem in_any {s v : Nat} {w : World} (hs : s < lim) (hv : v < 64) : Calls Try.prog 12 #[.int .u64 (s : Int), .int .i64 (v : Int)] w fun e w' => e = .returned (.bool (bt s v)) ∧ w = w' := by
 have HS := Lib.hid (in_bits (v := v) hs)
 have hv1 : (0 : Int) ≤ (v : Int) := by omega
 go_enter Try.func12, Try.ntmps12
 go_wp2
 go_ret
 exact ⟨by rw [← HS.out]; rfl, rfl⟩
/-- Is a set closed, as far as the first k edges tell? -/
def clB (g : List (Nat × Nat)) (s : Nat) : Nat → Bool
 | 0 => true
 | k + 1 => clB g s k && (!bt s (fb g k) || bt s (fa g k))
def closedB (g : List (Nat × Nat)) (s : Nat) : Bool := clB g s g.length
theorem clB_later {g : List (Nat × Nat)} {s k : Nat} (h : clB g s k = false) : ∀ m, clB g s (k + m) = false := by
 intro m
 induction m with
 | zero => exact h
 | succ m ih => show (clB g s (k + m) && _) = false; rw [ih]; rfl
set_option maxHeartbeats 1000000 in
theorem refClosed_any {w : World} {B m c n s : Nat} {A : Option Addr} {g : List (Nat × Nat)} (hx : RdEg w B A m g) (hi : InN n g) (hn : n ≤ 64) (hm : m ≤ 4096) (hB : B ≤ w.heap.size) (hs : s < lim) :
  Calls Try.prog 13 #[.agg #[.int .i64 (n : Int), .slice A m c], .int .u64 (s : Int)] w fun e w' => e = .returned (.bool (closedB g s)) ∧ Below w.heap.size w w' := by
 have HX := Lib.hid hx
 have HI := Lib.hid hi
 have HL := Lib.hid hx.len
 have HS := Lib.hid hs
 clear hx hi hs
 go_enter Try.func13, Try.ntmps13
 go_wp2_with fail
 have HW : Hid (Boxed (w.alloc (.cells #[.int .i64 (n : Int), .slice A m c] 38)) w.heap.size n A m c ∧ Below w.heap.size w (w.alloc (.cells #[.int .i64 (n : Int), .slice A m c] 38))) := Lib.hid ⟨boxed_alloc _ _ _ _ _ _, (Below.refl _ _).alloc (Nat.le_refl _) _⟩
 generalize (w.alloc (.cells #[.int .i64 (n : Int), .slice A m c] 38)) = W0 at HW ⊢
 obtain ⟨hcn, hcs⟩ := HW.out.1
 go_loop [5] (fun i => ∃ k : Nat, k ≤ m ∧ i = .int .i64 (k : Int) ∧ Hid (clB g s k = true)) (fun i => m - (intOf i).toNat)
 case atStart => exact ⟨0, by omega, rfl, Lib.hid rfl⟩
 case round =>
  obtain ⟨k, hk, rfl, HV⟩ := hrel
  by_cases hlt : k < m
  ·obtain ⟨b, off, rfl, hbb, hca, hcb⟩ := (HX.out.below (HW.out.2.mono hB)).at_ hlt
   obtain ⟨hfa, hfb⟩ := HI.out k (by rw [HL.out]; exact hlt)
   have HK : Hid (clB g s (k + 1) = (!bt s (fb g k) || bt s (fa g k))) := Lib.hid (by show (clB g s k && _) = _; rw [HV.out]; rfl)
   have HC : Hid (closedB g s = clB g s m) := Lib.hid (by unfold closedB; rw [HL.out])
   have HE : Hid (clB g s (k + 1) = false → clB g s m = false) := Lib.hid (fun h => by have := clB_later h (m - (k + 1)); rwa [show k + 1 + (m - (k + 1)) = m by omega] at this)
   cases hb : bt s (fb g k) with
   | false =>
    have HH := Lib.hid hb
    clear hb
    go_wp2_with (go_at_call 12; refine (in_any HS.out (by omega)).mono ?_; rintro e w' ⟨rfl, rfl⟩; rw [HH.out])
    go_round
    case rel => exact ⟨k + 1, by omega, by go_num, Lib.hid (by rw [HK.out, HH.out]; rfl)⟩
    case measure => simp [intOf]; omega
   | true =>
    cases ha : bt s (fa g k) with
    | false =>
     have HH := Lib.hid hb
     have HA := Lib.hid ha
     clear hb ha
     go_wp2_with fail
     refine (in_any HS.out (by omega)).mono ?_; rintro e w' ⟨rfl, rfl⟩; rw [HH.out]
     go_wp2_with fail
     refine (in_any HS.out (by omega)).mono ?_; rintro e w' ⟨rfl, rfl⟩; rw [HA.out]
     go_wp2
     go_ret
     exact ⟨by rw [HC.out, HE.out (by rw [HK.out, HH.out, HA.out]; rfl)]; rfl, HW.out.2⟩
    | true =>
     have HH := Lib.hid hb
     have HA := Lib.hid ha
     clear hb ha
     go_wp2_with fail
     refine (in_any HS.out (by omega)).mono ?_; rintro e w' ⟨rfl, rfl⟩; rw [HH.out]
     go_wp2_with fail
     refine (in_any HS.out (by omega)).mono ?_; rintro e w' ⟨rfl, rfl⟩; rw [HA.out]
     go_wp2
     go_round
     case rel => exact ⟨k + 1, by omega, by go_num, Lib.hid (by rw [HK.out, HH.out, HA.out]; rfl)⟩
     case measure => simp [intOf]; omega
  ·have e : k = m := by omega
   have HC : Hid (closedB g s = true) := Lib.hid (by unfold closedB; rw [HL.out, ← e]; exact HV.out)
   clear e
   go_wp2
   go_ret
   exact ⟨by rw [HC.out]; rfl, HW.out.2⟩
end Go.Proofs.Ytolgmoaoheflcaa.Sa
