/-
 PURE: what a right catalogue gives; moves. INTS: append of one slice to another; a row that came in.
-/
import Derived.Test.YtminihiecloglaaGreatCSe
import Derived.Test.YtminihiecloglaaGreatCQk
set_option linter.unusedVariables false
set_option linter.unusedSimpArgs false
namespace Go.Proofs.YtminihiecloglaaGreat
open Go.RowKit
open SemP FlP GaP DiP
set_option maxRecDepth 10000
theorem ck_ok {l : List Sv} (h : (chkC l).2.2 = 0) : (∀ j, j < l.length → bad3 (chkS l j) = false) ∧ Goes (befG (grE l)) l.length l.length := by
 unfold chkC at h
 by_cases h1 : l.length < 1 ∨ 12 < l.length
 ·rw [if_pos h1] at h; exact absurd h (by decide)
 rw [if_neg h1] at h
 by_cases h2 : bad3 (fst1 bad3 (0, 0, 0) (chkS l) l.length) = true
 ·rw [if_pos h2] at h; exact absurd h (bad3_yes.1 h2)
 rw [if_neg h2] at h
 by_cases h3 : Goes (befG (grE l)) l.length l.length
 ·refine ⟨?_, h3⟩
  rcases fst1_cases (bad := bad3) (z := (0, 0, 0)) (f := chkS l) rfl l.length with ⟨k, _, _, hb, e⟩ | ⟨hj, _⟩
  ·exact absurd (e ▸ hb) h2
  ·exact hj
 ·rw [if_neg h3] at h; exact absurd h (by decide)
theorem ck_len {l : List Sv} (h : (chkC l).2.2 = 0) : 1 ≤ l.length ∧ l.length ≤ 12 := by
 unfold chkC at h
 by_cases h1 : l.length < 1 ∨ 12 < l.length
 ·rw [if_pos h1] at h; exact absurd h (by decide)
 omega
theorem ck_svc {l : List Sv} {i : Nat} (h : bad3 (chkS l i) = false) : svcE l i = 0 ∧ ∀ v, v < (svAt l i).2.length → relE l.length i (svAt l i).2 v = 0 := by
 unfold chkS at h
 by_cases h1 : svcE l i = 0
 ·refine ⟨h1, ?_⟩
  rw [if_neg (by rw [h1]; decide)] at h
  rcases fst1_cases (bad := bad3) (z := (0, 0, 0)) (f := relT l i) rfl (svAt l i).2.length with ⟨k, _, _, hb, e⟩ | ⟨hj, _⟩
  ·rw [e, hb] at h; cases h
  ·exact fun v hv => bad3_no.1 (hj v hv)
 ·rw [if_pos h1] at h
  exact absurd (bad3_no.1 h) h1
theorem ck_hi {N i : Nat} {rs : List Rl} {v : Nat} (h : relE N i rs v = 0) : (rlAt rs v).2.1 ≤ 1000 := by
 unfold relE at h
 by_cases a1 : Ver.right (vOf (rlAt rs v).1) = false
 ·rw [if_pos a1] at h; exact absurd h (by decide)
 rw [if_neg a1] at h
 by_cases a2 : 0 < v ∧ 0 ≤ cmpV (vOf (rlAt rs (v - 1)).1) (vOf (rlAt rs v).1)
 ·rw [if_pos a2] at h; exact absurd h (by decide)
 rw [if_neg a2] at h
 by_cases a3 : (rlAt rs v).2.1 < (if 0 < v then (rlAt rs (v - 1)).2.1 else 0) ∨ 1000 < (rlAt rs v).2.1
 ·rw [if_pos a3] at h; exact absurd h (by decide)
 omega
theorem getD_at {α : Type} [Inhabited α] (l : List α) (v : Nat) (hv : v < l.length) : l.getD v default = l[v]'hv := by simp [List.getD, hv]
theorem ck_lev {l : List Sv} (h : (chkC l).2.2 = 0) : LevOK l := by
 intro s hs r hr
 obtain ⟨i, hi, rfl⟩ := List.getElem_of_mem hs
 obtain ⟨v, hv, rfl⟩ := List.getElem_of_mem hr
 have e : svAt l i = l[i]'hi := getD_at _ i hi
 have hok := (ck_svc ((ck_ok h).1 i hi)).2
 rw [e] at hok
 have e2 : rlAt (l[i]'hi).2 v = (l[i]'hi).2[v]'hv := getD_at _ v hv
 have h1 := (relE_ok v (fun j hj => hok j (by omega))).2
 have h2 := ck_hi (hok v hv)
 rw [e2] at h1 h2
 exact ⟨h1, h2⟩
theorem levAt_ok {l : List Sv} (h : LevOK l) {i v : Nat} (hi : i < l.length) (hv : v < (svAt l i).2.length) : 0 ≤ levAt l i v ∧ levAt l i v ≤ 1000 := h _ (svAt_mem hi) _ (rlAt_mem hv)
theorem setP_ok {l : List Sv} {vs : List Int} {k : Nat} (hl : LevOK l) (hs : SmCat l) (h : isR l (k : Int) (ix vs k) = true) : 0 ≤ (setP l vs k).1 ∧ (setP l vs k).1 ≤ 16 ∧ 0 ≤ (setP l vs k).2 ∧ (setP l vs k).2 ≤ 2000 := by
 obtain ⟨a, b, ea, eb, ha, hb⟩ := isR_nat h
 obtain rfl : k = a := by omega
 have h1 := levAt_ok hl ha hb
 have h2 := (hs.2 _ (svAt_mem ha)).2.1
 unfold setP
 rw [eb, Int.toNat_natCast]
 refine ⟨?_, ?_, ?_, ?_⟩ <;> simp only <;> omega
theorem stand_set {l : List Sv} {vs : List Int} {k : Nat} (hl : LevOK l) (hs : SmCat l) (h : isR l (k : Int) (ix vs k) = true) : standC l (k : Int) (setP l vs k) = true := by
 obtain ⟨h1, h2, h3, h4⟩ := setP_ok hl hs h
 unfold standC plB
 rw [decide_eq_true h1, decide_eq_true h3, decide_eq_true (show (setP l vs k).1 ≤ 1048576 by omega), decide_eq_true (show (setP l vs k).2 ≤ 1048576 by omega)]
 have e1 : (setP l vs k).1 = ix vs k := rfl
 have e2 : (setP l vs k).2 = 2 * levAt l k (ix vs k).toNat := rfl
 rw [e1, h, e2, Int.toNat_natCast, Int.sub_self]
 rfl
theorem goodC_iff {l : List Sv} {ps : List (Int × Int)} : goodC l ps = true ↔ ps.length = l.length ∧ (∀ k, k < ps.length → standC l (k : Int) (at_ ps k) = true) ∧ ∀ j, j < ps.length → ∀ k, k < j → fitP l ps k j = true := by
 unfold goodC
 simp only [Bool.and_eq_true, decide_eq_true_eq, List.all_eq_true, List.mem_range]
theorem setB_iff {l : List Sv} {vs : List Int} : setB l vs = true ↔ vs.length = l.length ∧ ∀ k, k < vs.length → isR l (k : Int) (ix vs k) = true := by
 unfold setB
 simp only [Bool.and_eq_true, decide_eq_true_eq, List.all_eq_true, List.mem_range]
theorem fitP_set {l : List Sv} {vs : List Int} {k j : Nat} (hk : k < vs.length) (hj : j < vs.length) : fitP l (setL l vs) k j = fitsC l (k : Int) (ix vs k) (j : Int) (ix vs j) := by
 unfold fitP
 rw [setL_at l vs hk, setL_at l vs hj]; rfl
theorem addr_add (b off j : Nat) : (Addr.add ⟨b, off, none⟩ j) = ⟨b, off + j, none⟩ := by
 unfold Addr.add
 by_cases h0 : j = 0 <;> simp [h0]
theorem wpl_apps {w : World} {ops : Array Oper} {rest : List Oper} {o : Oper} {a : Act} {Q : Exit → Act → World → Prop} (hgd : o.guard = none) (s x : Operand)
  (ho : o.op = .call { callee := .builtin .append, args := #[s, x], argTypes := #[25, 25] })
  (base : Nat) (v : Value) (n : Nat) (xs : List Int) (hs : a.eval s = v) (hown : Own w base v n xs)
  (B : Nat) (D : Option Addr) (m d : Nat) (ys : List Int) (hx : a.eval x = .slice D m d) (hr : Rd w B D m ys) (hn : n + m ≤ 1099511627776) (hbase : base ≤ w.heap.size)
  (h : ∀ v' w', Own w' base v' (n + m) (xs ++ ys) → w.grownBy w' v.ownBlock → (v'.ownBlock = v.ownBlock ∨ v'.ownBlock = some w.heap.size) → wpList Tryz.prog ops Q rest (a.put o.dst v') w') :
  wpList Tryz.prog ops Q (o :: rest) a w := by
 obtain ⟨i0, hi, hz0, hz1, hz2⟩ := info_parts infoInt
 rcases D with _ | ad
 ·have hm : m = 0 := by
   rcases Nat.eq_zero_or_pos m with h0 | h0
   ·exact h0
   ·obtain ⟨b, off, e, _⟩ := hr.2 h0
    cases e
  subst hm
  have hy : ys = [] := List.eq_nil_of_length_eq_zero hr.1
  subst hy
  have hrun : (Builtin.append_ #[25, 25] o.type #[v, .slice none 0 d]).run Tryz.prog w = .ok v w := by
   rcases hown.2 with ⟨rfl, rfl⟩ | ⟨g, cap, cur, rfl, _, _, hnc, _⟩
   ·simp [Builtin.append_, run_underlying Tryz.underlying25, sizeOf, typeInfo, hi, Builtin.lenOf, Builtin.firstCells]
   ·simp [Builtin.append_, run_underlying Tryz.underlying25, sizeOf, typeInfo, hi, Builtin.lenOf, Builtin.firstCells, hnc, storeCells]
  refine wpList_plain hgd fun K hK => ?_
  unfold Oper.wp execOp
  simp only [ho, resolve, invoke, builtin, Sem.run_bind, Sem.run_pure, Result.andThen_ok, List.map_toArray, List.map_cons, List.map_nil, hs, hx, hrun]
  exact hK _ _ (h v w (by simpa using hown) (World.grownBy.refl w _) (.inl rfl))
 ·refine wpList_append_own_at w hgd s x 25 ho base 3 i0 (.int .i64 0) 1 8 Tryz.underlying25 hi hz0 hz1 hz2 rfl (by decide) v n _ hs hown ad m d (ys.map (Value.int .i64)) hx (by simp [hr.1]) ?_ ?_ (by unfold maxLen; omega) (by omega) hbase ?_
  ·intro j z hj
   have hjm : j < m := by
    have := (List.getElem?_eq_some_iff.1 hj).1
    simpa [hr.1] using this
   obtain ⟨b, off, e, _, hc⟩ := hr.at_ hjm
   cases e
   rw [addr_add, hc]
   rw [ix_map ys j (by rw [hr.1]; exact hjm)] at hj
   exact hj
  ·intro z hz
   obtain ⟨u, _, rfl⟩ := List.mem_map.1 hz
   rfl
  ·intro v' w' hown' hg _ hat
   exact h v' w' (by unfold Own; rw [List.map_append]; exact hown') hg hat
theorem Own.empty (w : World) (base : Nat) (hb : base ≤ w.heap.size) : Own (w.alloc (.cells #[] 3)) base (.slice (some ⟨w.heap.size, 0, none⟩) 0 0) 0 [] := Own.lit w base [] hb (by simp)
theorem rd_of_row {w : World} {a : Option Addr} {len cap : Nat} {zs : List Int}
  (h : (a = none ∧ len = 0 ∧ cap = 0 ∧ zs = []) ∨ ∃ x, a = some x ∧ len ≤ cap ∧ cap ≤ maxLen ∧ zs.length = cap ∧ (∀ i, i < zs.length → w.cell? (x.add i) = some (.int .i64 (zs.getD i 0))) ∧ ∀ n ∈ zs, (Lit.int .i64 n).wf = true) :
  Rd w w.heap.size a len (zs.take len) ∧ len ≤ 9223372036854775807 := by
 rcases h with ⟨rfl, rfl, rfl, rfl⟩ | ⟨x, rfl, hl, hm, hz, hcell, hwz⟩
 ·exact ⟨Rd.nil_, by omega⟩
 ·refine ⟨⟨by rw [List.length_take]; omega, fun hn => ?_⟩, by unfold maxLen at hm; omega⟩
  obtain ⟨b, off, spot⟩ := x
  have h0 := hcell 0 (by omega)
  have hspot : spot = none := by simpa [Addr.add] using World.cell?_spot h0
  subst hspot
  have hb : b < w.heap.size := by
   have h1 : w.cell? ⟨b, off, none⟩ = some (.int .i64 (zs.getD 0 0)) := by simpa [Addr.add] using h0
   rcases Nat.lt_or_ge b w.heap.size with hlt | hge
   ·exact hlt
   ·simp [World.cell?, Array.getElem?_eq_none hge] at h1
  refine ⟨b, off, rfl, hb, fun j hj => ?_⟩
  have h1 := hcell j (by omega)
  have e1 : (Addr.add ⟨b, off, none⟩ j) = ⟨b, off + j, none⟩ := by
   unfold Addr.add
   by_cases h0 : j = 0 <;> simp [h0]
  rw [e1] at h1
  rw [h1]
  have : zs.getD j 0 = ix (zs.take len) j := by
   unfold ix
   simp [List.getD, hj]
  rw [this]
end Go.Proofs.YtminihiecloglaaGreat
