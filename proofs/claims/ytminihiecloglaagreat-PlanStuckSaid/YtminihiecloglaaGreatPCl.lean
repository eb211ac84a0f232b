/-
 CONTRACTS: slices.Clone at []int and [][2]int, Graph (printed by genpcl.py).
-/
import Derived.Test.YtminihiecloglaaGreatPOr
import Derived.Test.YtminihiecloglaaGreatPRe
import Derived.Test.YtminihiecloglaaGreatPCe
set_option linter.unusedVariables false
set_option linter.unusedSimpArgs false
namespace Go.Proofs.YtminihiecloglaaGreat
open Go.RowKit
open SemP FlP GaP DiP
set_option maxRecDepth 10000
def inF (x : Int) : List Value := [.int .i64 x]
section
variable {α : Type} {E : TypeId} {z : Nat} {f : α → List Value} {w w' : World} {base : Nat} {v : Value} {l : List α}
theorem wplF_appA {S : TypeId} {bytes : Nat} {zero : Value} (hz : ∀ x, (f x).length = z) (h1c : ∀ x, ∀ u ∈ f x, u.oneCell' = true) (hu : Tryz.prog.underlying S = some (.slice E)) (hinfo : (Tryz.prog.info? E).map (fun i => (i.zero, i.size, i.bytes)) = some (some zero, z, bytes)) (hzs : zero.cells.size = z) (hz0 : 0 < z) (hby : bytes ≤ 100000)
  {ops : Array Oper} {rest : List Oper} {o : Oper} {a : Act} {Q : Exit → Act → World → Prop} (hgd : o.guard = none) (s x : Operand)
  (ho : o.op = .call { callee := .builtin .append, args := #[s, x], argTypes := #[S, S] })
  (base : Nat) (v : Value) (l : List α) (hs : a.eval s = v) (hown : OwnF E z f w base v l)
  (p : Addr) (m d : Nat) (ys : List α) (hx : a.eval x = .slice (some p) m d) (hm : ys.length = m) (hc : ∀ j u, (ys.flatMap f)[j]? = some u → w.cell? (p.add j) = some u) (hn : l.length + m ≤ 1000000000) (hbase : base ≤ w.heap.size)
  (h : ∀ v' w', OwnF E z f w' base v' (l ++ ys) → w.grownBy w' v.ownBlock → (v'.ownBlock = v.ownBlock ∨ v'.ownBlock = some w.heap.size) → wpList Tryz.prog ops Q rest (a.put o.dst v') w') :
  wpList Tryz.prog ops Q (o :: rest) a w := by
 obtain ⟨i0, hi, hz0', hz1, hz2⟩ := info_parts hinfo
 refine wpList_append_own_at w hgd s x S ho base E i0 zero z bytes hu hi hz0' hz1 hz2 hzs hz0 v l.length _ hs hown p m d (ys.flatMap f) hx (by rw [flatF_len hz, hm]) hc ?_ (by unfold maxLen; omega) (by have := Nat.mul_le_mul (show l.length + m ≤ 1000000000 from hn) hby; omega) hbase ?_
 ·intro u hu
  obtain ⟨x, _, hx⟩ := List.mem_flatMap.1 hu
  exact h1c x u hx
 ·intro v' w' hown' hg _ hat
  exact h v' w' (by unfold OwnF; rw [List.length_append, List.flatMap_append, hm]; exact hown') hg hat
end
theorem infoIn : (Tryz.prog.info? 3).map (fun i => (i.zero, i.size, i.bytes)) = some (some (.int .i64 0), 1, 8) := by kernel_rfl
set_option maxHeartbeats 2000000 in
theorem cloneI_any {w : World} {n c : Nat} {A : Option Addr} {xs : List Int} (hl : xs.length = n) (hn : n ≤ 1000000) (h : 0 < n → ∃ b off, A = some ⟨b, off, none⟩ ∧ b < w.heap.size ∧ ∀ j u, (xs.flatMap inF)[j]? = some u → w.cell? ⟨b, off + j, none⟩ = some u) :
  Calls Tryz.prog 41 #[.slice A n c] w fun e w' => ∃ A' c', e = .returned (.slice A' n c') ∧ OwnF 3 1 inF w' w.heap.size (.slice A' n c') xs ∧ Below w.heap.size w w' := by
 have hnil := fun (W : World) (A : Option Addr) (n c : Nat) => Lib.run_eql_slice_nil (P := Tryz.prog) W 25 3 A n c 0 0 Tryz.underlying25
 have HL := Lib.hid hl
 cases A with
 | none =>
  have h0 : n = 0 := by
   rcases Nat.eq_zero_or_pos n with h' | h'
   ·exact h'
   ·obtain ⟨_, _, e, _⟩ := h h'; cases e
  subst h0
  have hx0 : xs = [] := List.eq_nil_of_length_eq_zero hl
  subst hx0
  clear h
  go_enter Tryz.func41, Tryz.ntmps41
  go_wp2_with fail
  exact bodyPost_ret (results_tmp rfl _ _ _) rfl ⟨none, 0, rfl, OwnF.nil_ _ _ _ _ _, Below.refl _ _⟩
 | some p =>
  have HC : Hid (∀ j u, (xs.flatMap inF)[j]? = some u → w.cell? (p.add j) = some u ∧ p.block < w.heap.size) := Lib.hid (by
   intro j u hj
   rcases Nat.eq_zero_or_pos n with h' | h'
   ·have : xs = [] := List.eq_nil_of_length_eq_zero (hl.trans h')
    rw [this] at hj; simp at hj
   ·obtain ⟨b, off, e, hb, hc⟩ := h h'
    injection e with e
    subst e
    rw [addr_add]
    exact ⟨hc j u hj, hb⟩)
  have HO : Hid (OwnF 3 1 inF (w.alloc (.cells #[] 3)) w.heap.size (.slice (some ⟨w.heap.size, 0, none⟩) 0 0) []) := Lib.hid ⟨rfl, .inr ⟨w.heap.size, 0, #[], rfl, Nat.le_refl _, heap_alloc_new _ _, Nat.le_refl _, by unfold maxLen; omega, rfl, rfl⟩⟩
  have HN : Hid (∀ j u, (xs.flatMap inF)[j]? = some u → (w.alloc (.cells #[] 3)).cell? (p.add j) = some u) := Lib.hid (fun j u hj => by
   obtain ⟨h1, h2⟩ := HC.out j u hj
   rw [World.cell?_alloc_lt w _ _ (by unfold Addr.add; split <;> exact h2)]
   exact h1)
  clear h
  go_enter Tryz.func41, Tryz.ntmps41
  go_wp2_with (at_builtin; refine wplF_appA (f := inF) (fun _ => rfl) (fun x u hu => by simp [inF] at hu; subst hu; rfl) Tryz.underlying25 infoIn rfl (by decide) (by decide) rfl (.tmp 5) (.tmp 6) rfl w.heap.size _ [] rfl HO.out p n c xs rfl HL.out HN.out (by simp; omega) (by simp) ?_; intro v' w1 hown hg hat)
  have HB1 : Hid (Below w.heap.size w w1) := Lib.hid (((Below.refl _ w).alloc (Nat.le_refl _) _).grown hg (by simp) (fun k h => by have h' : some w.heap.size = some k := h; cases h'; exact Nat.le_refl _))
  rw [List.nil_append] at hown
  obtain ⟨A', c', hv⟩ := hown.shape
  rw [HL.out] at hv
  subst hv
  have HV := Lib.hid hown
  clear hown hg hat
  go_wp2_with fail
  exact bodyPost_ret (results_tmp rfl _ _ _) rfl ⟨A', c', rfl, HV.out, HB1.out⟩
set_option maxHeartbeats 2000000 in
theorem cloneE_any {w : World} {n c : Nat} {A : Option Addr} {xs : List (Nat × Nat)} (hl : xs.length = n) (hn : n ≤ 1000000) (h : 0 < n → ∃ b off, A = some ⟨b, off, none⟩ ∧ b < w.heap.size ∧ ∀ j u, (xs.flatMap egF)[j]? = some u → w.cell? ⟨b, off + j, none⟩ = some u) :
  Calls Tryz.prog 79 #[.slice A n c] w fun e w' => ∃ A' c', e = .returned (.slice A' n c') ∧ OwnF 91 2 egF w' w.heap.size (.slice A' n c') xs ∧ Below w.heap.size w w' := by
 have hnil := fun (W : World) (A : Option Addr) (n c : Nat) => Lib.run_eql_slice_nil (P := Tryz.prog) W 33 91 A n c 0 0 Tryz.underlying33
 have HL := Lib.hid hl
 cases A with
 | none =>
  have h0 : n = 0 := by
   rcases Nat.eq_zero_or_pos n with h' | h'
   ·exact h'
   ·obtain ⟨_, _, e, _⟩ := h h'; cases e
  subst h0
  have hx0 : xs = [] := List.eq_nil_of_length_eq_zero hl
  subst hx0
  clear h
  go_enter Tryz.func79, Tryz.ntmps79
  go_wp2_with fail
  exact bodyPost_ret (results_tmp rfl _ _ _) rfl ⟨none, 0, rfl, OwnF.nil_ _ _ _ _ _, Below.refl _ _⟩
 | some p =>
  have HC : Hid (∀ j u, (xs.flatMap egF)[j]? = some u → w.cell? (p.add j) = some u ∧ p.block < w.heap.size) := Lib.hid (by
   intro j u hj
   rcases Nat.eq_zero_or_pos n with h' | h'
   ·have : xs = [] := List.eq_nil_of_length_eq_zero (hl.trans h')
    rw [this] at hj; simp at hj
   ·obtain ⟨b, off, e, hb, hc⟩ := h h'
    injection e with e
    subst e
    rw [addr_add]
    exact ⟨hc j u hj, hb⟩)
  have HO : Hid (OwnF 91 2 egF (w.alloc (.cells #[] 91)) w.heap.size (.slice (some ⟨w.heap.size, 0, none⟩) 0 0) []) := Lib.hid ⟨rfl, .inr ⟨w.heap.size, 0, #[], rfl, Nat.le_refl _, heap_alloc_new _ _, Nat.le_refl _, by unfold maxLen; omega, rfl, rfl⟩⟩
  have HN : Hid (∀ j u, (xs.flatMap egF)[j]? = some u → (w.alloc (.cells #[] 91)).cell? (p.add j) = some u) := Lib.hid (fun j u hj => by
   obtain ⟨h1, h2⟩ := HC.out j u hj
   rw [World.cell?_alloc_lt w _ _ (by unfold Addr.add; split <;> exact h2)]
   exact h1)
  clear h
  go_enter Tryz.func79, Tryz.ntmps79
  go_wp2_with (at_builtin; refine wplF_appA (f := egF) (fun _ => rfl) (fun x u hu => by simp [egF] at hu; rcases hu with rfl | rfl <;> rfl) Tryz.underlying33 infoPr rfl (by decide) (by decide) rfl (.tmp 5) (.tmp 6) rfl w.heap.size _ [] rfl HO.out p n c xs rfl HL.out HN.out (by simp; omega) (by simp) ?_; intro v' w1 hown hg hat)
  have HB1 : Hid (Below w.heap.size w w1) := Lib.hid (((Below.refl _ w).alloc (Nat.le_refl _) _).grown hg (by simp) (fun k h => by have h' : some w.heap.size = some k := h; cases h'; exact Nat.le_refl _))
  rw [List.nil_append] at hown
  obtain ⟨A', c', hv⟩ := hown.shape
  rw [HL.out] at hv
  subst hv
  have HV := Lib.hid hown
  clear hown hg hat
  go_wp2_with fail
  exact bodyPost_ret (results_tmp rfl _ _ _) rfl ⟨A', c', rfl, HV.out, HB1.out⟩
theorem own_of_F {w : World} {base n c : Nat} {A : Option Addr} {xs : List Int} (h : OwnF 3 1 inF w base (.slice A n c) xs) (hl : xs.length = n) : Own w base (.slice A n c) n xs := by
 have e : xs.flatMap inF = xs.map (Value.int .i64) := by
  clear h hl
  induction xs with
  | nil => rfl
  | cons x xs ih => rw [List.flatMap_cons, ih]; rfl
 have h' := h
 unfold OwnF at h'
 rw [e, hl] at h'
 exact h'
theorem flat_in (xs : List Int) (j : Nat) (u : Value) (h : (xs.flatMap inF)[j]? = some u) : j < xs.length ∧ u = .int .i64 (ix xs j) := by
 have e : xs.flatMap inF = xs.map (Value.int .i64) := by
  clear h
  induction xs with
  | nil => rfl
  | cons x xs ih => rw [List.flatMap_cons, ih]; rfl
 rw [e, List.getElem?_map] at h
 by_cases hj : j < xs.length
 ·rw [List.getElem?_eq_getElem hj] at h
  simp at h
  refine ⟨hj, ?_⟩
  unfold ix
  simp [List.getD, hj, ← h]
 ·rw [List.getElem?_eq_none (by omega)] at h; simp at h
theorem OwnF.edg {w : World} {base n c : Nat} {A : Option Addr} {es : List (Nat × Nat)} (h : OwnF 91 2 egF w base (.slice A n c) es) : RdEg w w.heap.size A n es := by
 obtain ⟨A', c', hA⟩ := h.shape
 injection hA with hA hn hc
 subst hA hc
 refine ⟨by rw [castE_len]; exact hn.symm, fun h0 => ?_⟩
 rcases h.2 with ⟨hv, hz⟩ | ⟨g, cap, cur, hv, hbg, hh, hlc, hcm, hcs, htk⟩
 ·omega
 ·injection hv with hv1 hv2 hv3
  subst hv1
  refine ⟨g, 0, rfl, heapE_lt hh, fun j hj => ?_⟩
  have h1 := flatF_at (f := egF) (z := 2) (fun _ => rfl) es j 0 (by omega) (by omega)
  have h2 := flatF_at (f := egF) (z := 2) (fun _ => rfl) es j 1 (by omega) (by omega)
  have ht : ∀ t, t < es.length * 2 → cur.toList[t]? = (es.flatMap egF)[t]? := fun t ht => by rw [← htk, List.getElem?_take_of_lt ht]
  have k1 := cells_of hh _ _ ((ht _ (by omega)).trans h1)
  have k2 := cells_of hh _ _ ((ht _ (by omega)).trans h2)
  rw [ea_cast, eb_cast, Nat.zero_add]
  exact ⟨k1, k2⟩
theorem OwnF.setC {α : Type} {E : TypeId} {z : Nat} {f : α → List Value} {w : World} {base : Nat} {v : Value} {l : List α} (h : OwnF E z f w base v l) {p : Addr} (hp : p.block < base) (u : Value) : OwnF E z f (w.setCell p u) base v l := by
 refine ⟨h.1, ?_⟩
 rcases h.2 with h | ⟨g, cap, cur, hv, hbg, hh, r⟩
 ·exact .inl h
 ·exact .inr ⟨g, cap, cur, hv, hbg, (Go.Deep.blk_setCell_other w p u g (by omega)).trans hh, r⟩
set_option maxHeartbeats 4000000 in
theorem graphP_any {w : World} {nF cF nT cT nS cS n c : Nat} {AF AT AS A : Option Addr} {es : List (Nat × Nat)} (hl : es.length = n) (hn : n ≤ 1000000) (h : 0 < n → ∃ b off, A = some ⟨b, off, none⟩ ∧ b < w.heap.size ∧ ∀ j u, (es.flatMap egF)[j]? = some u → w.cell? ⟨b, off + j, none⟩ = some u) :
  Calls Tryz.prog 44 #[.agg #[.slice AF nF cF, .slice AT nT cT, .slice AS nS cS, .slice A n c]] w fun e w' => ∃ A' c', e = .returned (.agg #[.int .i64 (nS : Int), .slice A' n c']) ∧ OwnF 91 2 egF w' w.heap.size (.slice A' n c') es ∧ Below w.heap.size w w' := by
 obtain ⟨W, HW⟩ : ∃ W, Hid (W = (w.alloc (.cells #[.slice AF nF cF, .slice AT nT cT, .slice AS nS cS, .slice A n c] 35)).alloc (.cells #[.int .i64 0, .slice none 0 0] 107)) := ⟨_, Lib.hid rfl⟩
 have hbl : Below w.heap.size w W := by rw [HW.out]; exact ((Below.refl _ w).alloc (Nat.le_refl _) _).alloc (by simp) _
 have HBL := Lib.hid hbl
 have HZ : Hid (W.heap.size = w.heap.size + 2) := Lib.hid (by rw [HW.out]; simp)
 have H0 : Hid (W.heap[w.heap.size]? = some (.cells #[.slice AF nF cF, .slice AT nT cT, .slice AS nS cS, .slice A n c] 35 (0, 0))) := Lib.hid (by
  rw [HW.out, Below.heap_alloc _ _ _ (by simp)]; exact heap_new w _)
 have H1 : Hid (W.heap[w.heap.size + 1]? = some (.cells #[.int .i64 0, .slice none 0 0] 107 (0, 0))) := Lib.hid (by
  rw [HW.out]
  have h := heap_new (w.alloc (.cells #[.slice AF nF cF, .slice AT nT cT, .slice AS nS cS, .slice A n c] 35)) (.cells #[.int .i64 0, .slice none 0 0] 107)
  rw [World.size_alloc] at h; exact h)
 have HC := Lib.hid (cloneE_any (w := W.drewN 1) (c := c) hl hn (fun h0 => by
  obtain ⟨b, off, e, hb, hc⟩ := h h0
  exact ⟨b, off, e, Nat.lt_of_lt_of_le hb hbl.size, fun j u hj => (hbl.cell (p := ⟨b, off + j, none⟩) hb).trans (hc j u hj)⟩))
 clear h hbl
 go_enter Tryz.func44, Tryz.ntmps44
 go_upto_region 1 with fail
 change Code.wp _ _ _ _ ((w.alloc (.cells #[.slice AF nF cF, .slice AT nT cT, .slice AS nS cS, .slice A n c] 35)).alloc (.cells #[.int .i64 0, .slice none 0 0] 107))
 rw [← HW.out]
 obtain ⟨_, _, y2, y3⟩ := row4 H0.out
 obtain ⟨g0, g1, gf0, gf1⟩ := row2 H1.out
 go_region_held3 (fun W' => W'.cell? ⟨w.heap.size, 2, none⟩ = some (.slice AS nS cS) ∧ W'.cell? ⟨w.heap.size, 3, none⟩ = some (.slice A n c)) ((first | exact ⟨y2, y3⟩ | exact ⟨z2, z3⟩ | go_keep)) (first
  | (go_at_call 79; refine HC.out.mono ?_; rintro e w1 ⟨A', c', rfl, hown, hb'⟩; (have hb : Below W.heap.size W w1 := (Below.drewN' (Below.refl _ W) 1).trans hb'); (obtain ⟨_, _, z2, z3⟩ := row4 ((hb.block w.heap.size (heapE_lt H0.out)).trans H0.out)); (obtain ⟨g0, g1, gf0, gf1⟩ := row2 ((hb.block (w.heap.size + 1) (heapE_lt H1.out)).trans H1.out)); (have HB1 := Lib.hid hb); (have HO1 := Lib.hid hown); clear hb hb' hown))
 have K1 : Hid (w1.heap[w.heap.size + 1]? = _) := Lib.hid ((HB1.out.block (w.heap.size + 1) (heapE_lt H1.out)).trans H1.out)
 have S1 := heap_setCell_same w1 (w.heap.size + 1) 0 _ _ (.int .i64 (nS : Int)) K1.out
 have S2 := heap_setCell_same _ (w.heap.size + 1) 1 _ _ (.slice A' n c') S1
 have S3 := Lib.hid S2
 have HOF := Lib.hid ((HO1.out.setC (p := ⟨w.heap.size + 1, 0, none⟩) (by have := HZ.out; show w.heap.size + 1 < W.heap.size; omega) (.int .i64 (nS : Int))).setC (p := ⟨w.heap.size + 1, 1, none⟩) (by have := HZ.out; show w.heap.size + 1 < W.heap.size; omega) (.slice A' n c'))
 have HBF := Lib.hid (((HBL.out.trans (HB1.out.mono HBL.out.size)).setCell (p := ⟨w.heap.size + 1, 0, none⟩) (by show w.heap.size ≤ w.heap.size + 1; omega) (.int .i64 (nS : Int))).setCell (p := ⟨w.heap.size + 1, 1, none⟩) (by show w.heap.size ≤ w.heap.size + 1; omega) (.slice A' n c'))
 clear S1 S2 y2 y3 z2 z3 g0 g1 gf0 gf1
 go_wp2_with fail
 refine bodyPost_ret (v := .agg #[.int .i64 (nS : Int), .slice A' n c']) ?_ rfl ⟨A', c', rfl, HOF.out.less HBL.out.size, HBF.out⟩
 exact results_cell_row rfl _ _ (w.heap.size + 1) _ _ _ _ rfl S3.out Tryz.underlying107 rfl (by kernel_rfl)
end Go.Proofs.YtminihiecloglaaGreat
