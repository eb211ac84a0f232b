/-
  CONTRACT of the lattice statements' plain (printed by genlplain.py).
-/
import Derived.Test.YtfcabdgidlnljaaDoorLAnch
import Derived.Test.YtfcabdgidlnljaaDoorDRight
import Derived.Test.YtfcabdgidlnljaaDoorDRef
import Derived.Test.YtfcabdgidlnljaaDoorInv
import Derived.Shelf.RegionOpenPlain
namespace Go.Proofs.YtfcabdgidlnljaaDoor
open Go.RowKit
open DiP
set_option linter.unusedVariables false
set_option linter.unusedSimpArgs false
set_option maxRecDepth 100000
section
variable {P : Program} {ops : Array Oper} {Q : Exit → Act → World → Prop}
theorem wpOp_want {i : Nat} {o : Oper} {a : Act} {w : World} {K0 : Act → World → Prop} (ho : ops[i]? = some o) (j : Nat) (b : Bool) (hg : o.guard = some (j, b)) (hy : yielded ops a.tmps j = some b)
    (h : ∀ K : Act → World → Prop, Hid (∀ a' w', K0 a' w' → K a' w') → o.wp P a w K Q) : wpOp P ops Q i K0 a w := by
  unfold wpOp
  rw [ho]
  have hw : Region.wanted o (yielded ops a.tmps) = true := by unfold Region.wanted; rw [hg]; simp [hy]
  simp only [hw, if_true]
  exact .inl (h K0 (Lib.hid fun _ _ h => h))
theorem wpOp_skip {i : Nat} {o : Oper} {a : Act} {w : World} {K0 : Act → World → Prop} (ho : ops[i]? = some o) (j : Nat) (b : Bool) (hg : o.guard = some (j, b)) (hy : yielded ops a.tmps j = some (!b))
    (h : K0 (a.put o.dst undef) w) : wpOp P ops Q i K0 a w := by
  unfold wpOp
  rw [ho]
  have hw : Region.wanted o (yielded ops a.tmps) = false := by unfold Region.wanted; rw [hg]; cases b <;> simp [hy]
  simp only [hw]
  exact h
end
theorem one_set {w' : World} {k i : Nat} {cs : Array Value} {y : Value} {T : TypeId} (h : w'.heap[k]? = some (.cells cs T (0, 0))) : (w'.setCell ⟨k, i, none⟩ y).heap[k]? = some (.cells (cs.setIfInBounds i y) T (0, 0)) := by
  obtain ⟨hlt, hk⟩ := Array.getElem?_eq_some_iff.1 h
  show (w'.heap.modify k _)[k]? = _
  rw [Array.getElem?_eq_getElem (by rw [Array.size_modify]; exact hlt), Array.getElem_modify_self, hk]
  rfl
theorem two_set {w' : World} {k : Nat} {x0 x1 y0 y1 : Value} {T : TypeId} (h : w'.heap[k]? = some (.cells #[x0, x1] T (0, 0))) : ((w'.setCell ⟨k, 0, none⟩ y0).setCell ⟨k, 1, none⟩ y1).heap[k]? = some (.cells #[y0, y1] T (0, 0)) := one_set (one_set h)
structure PlSt (w : World) (k : Nat) (z : Int) (m c : Nat) (A : Option Addr) (r : Bool) (b0 b1 b2 b3 b4 b5 b6 b7 b8 b9 b10 b11 b12 b13 b14 b15 b16 : Bool) (v3 v10 v11 v12 v13 v14 v15 v16 v17 v18 v19 v20 v21 v22 v23 v24 : Value) (w' : World) : Prop where
  bel : Below k w w'
  g0 : w'.cell? ⟨k, 0, none⟩ = some (.int .i64 z)
  g1 : w'.cell? ⟨k, 1, none⟩ = some (.slice A m c)
  q0 : w'.cell? ⟨k + 1 + 1, 0, none⟩ = some (.int .i64 z)
  q1 : w'.cell? ⟨k + 1 + 1, 1, none⟩ = some (.slice A m c)
  hx : ∃ x0 x1, w'.heap[k + 1]? = some (.cells #[x0, x1] 26 (0, 0))
  hz : k + 1 + 1 < w'.heap.size
  h0 : b0 = true → v10 = .agg #[.int .i64 z, .slice A m c]
  h1 : b1 = true → v11 = .pointer (some ⟨k, 1, none⟩)
  h2 : b2 = true → v12 = .slice A m c
  h3 : b3 = true → v13 = .int .i64 (m : Int)
  h4 : b4 = true → v14 = .bool true
  h5 : b5 = true → v15 = .bool true
  h6 : b6 = true → v16 = .pointer (some ⟨k, 0, none⟩)
  h7 : b7 = true → v17 = .int .i64 z
  h8 : b8 = true → v18 = .bool false
  h9 : b9 = true → v19 = .bool false
  h10 : b10 = true → v20 = .agg #[.int .i64 z, .slice A m c]
  h11 : b11 = true → v21 = .bool r
  h12 : b12 = true → v22 = .bool (!r)
  h13 : b13 = true → v23 = .bool (!r)
  h14 : b14 = true → v24 = .bool (!r)
  h16 : b16 = true → v3 = .bool (!r)
  h15 : b15 = true → w'.cell? ⟨k + 1, 0, none⟩ = some (.int .i64 z) ∧ w'.cell? ⟨k + 1, 1, none⟩ = some (.slice A m c)
inductive PlJ (w : World) (k : Nat) (z : Int) (m c : Nat) (A : Option Addr) (r : Bool) (p0 p1 p2 p4 p5 p6 p7 p8 p9 : Value) : Array Bool → Act → World → Prop where
  | mk (b0 b1 b2 b3 b4 b5 b6 b7 b8 b9 b10 b11 b12 b13 b14 b15 b16 : Bool) (v3 v10 v11 v12 v13 v14 v15 v16 v17 v18 v19 v20 v21 v22 v23 v24 : Value) (w' : World) : PlSt w k z m c A r b0 b1 b2 b3 b4 b5 b6 b7 b8 b9 b10 b11 b12 b13 b14 b15 b16 v3 v10 v11 v12 v13 v14 v15 v16 v17 v18 v19 v20 v21 v22 v23 v24 w' → PlJ w k z m c A r p0 p1 p2 p4 p5 p6 p7 p8 p9 #[b0, b1, b2, b3, b4, b5, b6, b7, b8, b9, b10, b11, b12, b13, b14, b15, b16] { tmps := List.toArray (p0 :: p1 :: p2 :: v3 :: p4 :: p5 :: p6 :: p7 :: p8 :: p9 :: v10 :: v11 :: v12 :: v13 :: v14 :: v15 :: v16 :: v17 :: v18 :: v19 :: v20 :: v21 :: v22 :: v23 :: v24 :: []), defers := [] } w'
set_option maxHeartbeats 2000000 in
theorem plain_few {w : World} {m c : Nat} {n : Int} {A : Option Addr} (hm : m ≤ 60) (hn : n ≤ 10) :
    Calls Tryd.prog 12 #[.agg #[.int .i64 n, .slice A m c]] w fun e w' => e = .returned (.tuple #[.agg #[.int .i64 n, .slice A m c], .bool true]) ∧ Below w.heap.size w w' := by
  have hd1 : decide ((m : Int) ≤ 60) = true := decide_eq_true (by omega)
  have hd2 : decide (n ≤ 10) = true := decide_eq_true hn
  have hb : ∀ W, W = (((w.alloc (.cells #[.int .i64 n, .slice A m c] 24)).alloc (.cells #[.int .i64 0, .slice none 0 0] 26)).alloc (.cells #[.int .i64 n, .slice A m c] 26)) → Below w.heap.size w W := fun W h => by rw [h]; exact ((((Below.refl _ w).alloc (Nat.le_refl _) _).alloc (by simp) _).alloc (by simp; omega) _)
  have HB := Lib.hid (hb _ rfl)
  clear hb
  go_enter Tryd.func12, Tryd.ntmps12
  go_wp2_with fail
  have mixed : Tryd.prog.follows Departure.mixedOrders = true := by kernel_rfl
  go_region_o
  go_wp2
  refine bodyPost_ret (v := .tuple #[.agg #[.int .i64 n, .slice A m c], .bool true]) (by simp [results, Tryd.results12, go_sem]) rfl ⟨rfl, ?_⟩
  exact below_drewN ((((Below.refl _ w).alloc (Nat.le_refl _) _).alloc (by simp) _).alloc (by simp; omega) _) _
set_option maxHeartbeats 2000000 in
theorem plain_more {w : World} {m c : Nat} {n : Int} {A : Option Addr} (hm : ¬ m ≤ 60) :
    Calls Tryd.prog 12 #[.agg #[.int .i64 n, .slice A m c]] w fun e w' => e = .returned (.tuple #[.agg #[.int .i64 n, .slice A m c], .bool false]) ∧ Below w.heap.size w w' := by
  have hd1 : decide ((m : Int) ≤ 60) = false := decide_eq_false (by omega)
  have hb : ∀ W, W = (((w.alloc (.cells #[.int .i64 n, .slice A m c] 24)).alloc (.cells #[.int .i64 0, .slice none 0 0] 26)).alloc (.cells #[.int .i64 n, .slice A m c] 26)) → Below w.heap.size w W := fun W h => by rw [h]; exact ((((Below.refl _ w).alloc (Nat.le_refl _) _).alloc (by simp) _).alloc (by simp; omega) _)
  have HB := Lib.hid (hb _ rfl)
  clear hb
  go_enter Tryd.func12, Tryd.ntmps12
  go_wp2_with fail
  have mixed : Tryd.prog.follows Departure.mixedOrders = true := by kernel_rfl
  go_region_o
  go_wp2
  refine bodyPost_ret (v := .tuple #[.agg #[.int .i64 n, .slice A m c], .bool false]) (by simp [results, Tryd.results12, go_sem]) rfl ⟨rfl, ?_⟩
  exact below_drewN ((((Below.refl _ w).alloc (Nat.le_refl _) _).alloc (by simp) _).alloc (by simp; omega) _) _
set_option maxHeartbeats 4000000 in
theorem plain_ask {w : World} {B m c : Nat} {z : Int} {A : Option Addr} {es : List (Int × Int)} (hx : RdE w B A m es) (hB : B ≤ w.heap.size) (hm0 : m ≤ 9223372036854775807) (hm : m ≤ 60) (hn : ¬ z ≤ 10) (r : Bool) (hr : r = true ↔ GraphR z es) :
    Calls Tryd.prog 12 #[.agg #[.int .i64 z, .slice A m c]] w fun e w' => e = .returned (.tuple #[.agg #[.int .i64 z, .slice A m c], .bool (!r)]) ∧ Below w.heap.size w w' := by
  have HM : Hid (decide ((m : Int) ≤ 60) = true) := Lib.hid (decide_eq_true (by omega))
  have HN : Hid (decide (z ≤ 10) = false) := Lib.hid (decide_eq_false hn)
  obtain ⟨k, hk⟩ : ∃ k, w.heap.size = k := ⟨_, rfl⟩
  have HCR : Hid (∀ w' : World, Below k w w' → k ≤ w'.heap.size → Calls Tryd.prog 15 #[.agg #[.int .i64 z, .slice A m c]] w' fun e w2 => e = .returned (.bool r) ∧ Below w'.heap.size w' w2) := Lib.hid (fun w' hb hz => by
    have hx' := hx.below (hb.mono (by omega))
    cases r with
    | true => exact right_yes hx' (hr.1 rfl) (by omega)
    | false => exact right_no hx' (fun h => by have := hr.2 h; cases this) hm0 (by omega))
  obtain ⟨W3, hW3⟩ : ∃ W3, (((w.alloc (.cells #[.int .i64 z, .slice A m c] 24)).alloc (.cells #[.int .i64 0, .slice none 0 0] 26)).alloc (.cells #[.int .i64 z, .slice A m c] 26)) = W3 := ⟨_, rfl⟩
  have HB3 : Hid (Below k w W3) := Lib.hid (by rw [← hW3, ← hk]; exact (((Below.refl _ w).alloc (Nat.le_refl _) _).alloc (by simp) _).alloc (by simp; omega) _)
  have HZ3 : Hid (k + 1 + 1 < W3.heap.size) := Lib.hid (by rw [← hW3, ← hk]; simp)
  have hh0 : W3.heap[k]? = some (.cells #[.int .i64 z, .slice A m c] 24 (0, 0)) := by
    rw [← hW3, Below.heap_alloc _ _ _ (by simp; omega), Below.heap_alloc _ _ _ (by simp; omega), ← hk]; exact World.alloc_heap_new _ _
  have hh1 : W3.heap[k + 1]? = some (.cells #[.int .i64 0, .slice none 0 0] 26 (0, 0)) := by
    have h := World.alloc_heap_new (w.alloc (.cells #[.int .i64 z, .slice A m c] 24)) (.cells #[.int .i64 0, .slice none 0 0] 26)
    rw [World.size_alloc, hk] at h
    rw [← hW3, Below.heap_alloc _ _ _ (by simp; omega)]; exact h
  have hh2 : W3.heap[k + 1 + 1]? = some (.cells #[.int .i64 z, .slice A m c] 26 (0, 0)) := by
    have h := World.alloc_heap_new ((w.alloc (.cells #[.int .i64 z, .slice A m c] 24)).alloc (.cells #[.int .i64 0, .slice none 0 0] 26)) (.cells #[.int .i64 z, .slice A m c] 26)
    rw [World.size_alloc, World.size_alloc, hk, hW3] at h
    exact h
  have HG0 : Hid (W3.cell? ⟨k, 0, none⟩ = some (.int .i64 z)) := Lib.hid (by simp [World.cell?, hh0])
  have HG1 : Hid (W3.cell? ⟨k, 1, none⟩ = some (.slice A m c)) := Lib.hid (by simp [World.cell?, hh0])
  have HQ0 : Hid (W3.cell? ⟨k + 1 + 1, 0, none⟩ = some (.int .i64 z)) := Lib.hid (by simp [World.cell?, hh2])
  have HQ1 : Hid (W3.cell? ⟨k + 1 + 1, 1, none⟩ = some (.slice A m c)) := Lib.hid (by simp [World.cell?, hh2])
  have HXX : Hid (∃ x0 x1, W3.heap[k + 1]? = some (.cells #[x0, x1] 26 (0, 0))) := Lib.hid ⟨_, _, hh1⟩
  have Hk := Lib.hid hk
  have HW3 := Lib.hid hW3
  clear hx hr hh0 hh1 hh2 hW3 hm hn
  go_enter Tryd.func12, Tryd.ntmps12
  go_wp2_with fail
  rw [HW3.out]
  refine wp_region_inv (by kernel_rfl) (I := PlJ w k z m c A r _ _ _ _ _ _ _ _ _) (.mk false false false false false false false false false false false false false false false false false _ _ _ _ _ _ _ _ _ _ _ _ _ _ _ _ _ { bel := below_drewN HB3.out 1, g0 := HG0.out, g1 := HG1.out, q0 := HQ0.out, q1 := HQ1.out, hx := HXX.out, hz := HZ3.out, h0 := nofun, h1 := nofun, h2 := nofun, h3 := nofun, h4 := nofun, h5 := nofun, h6 := nofun, h7 := nofun, h8 := nofun, h9 := nofun, h10 := nofun, h11 := nofun, h12 := nofun, h13 := nofun, h14 := nofun, h15 := nofun, h16 := nofun }) ?step ?fin
  case step =>
    rintro lq a' w' ix ⟨b0, b1, b2, b3, b4, b5, b6, b7, b8, b9, b10, b11, b12, b13, b14, b15, b16, v3, v10, v11, v12, v13, v14, v15, v16, v17, v18, v19, v20, v21, v22, v23, v24, _, HT⟩ hi
    obtain ⟨hi_, hib⟩ := ready_lt hi
    have HTH := Lib.hid HT
    match ix, hi_, hi, hib with
    | 0, _, hi, hib =>
      have q0 := HT.q0
      have q1 := HT.q1
      clear HT
      refine wpOp_one rfl rfl (fun K hK => ?_)
      go_simp
      exact hK.out _ _ (.mk true b1 b2 b3 b4 b5 b6 b7 b8 b9 b10 b11 b12 b13 b14 b15 b16 _ _ _ _ _ _ _ _ _ _ _ _ _ _ _ _ _ { HTH.out with h0 := fun _ => rfl })
    | 1, _, hi, hib =>
      clear HT
      refine wpOp_one rfl rfl (fun K hK => ?_)
      go_simp
      exact hK.out _ _ (.mk b0 true b2 b3 b4 b5 b6 b7 b8 b9 b10 b11 b12 b13 b14 b15 b16 _ _ _ _ _ _ _ _ _ _ _ _ _ _ _ _ _ { HTH.out with h1 := fun _ => rfl })
    | 2, _, hi, hib =>
      have d1 : b1 = true := ready_dep hi rfl 1 (by kernel_rfl)
      have hd1 := HT.h1 d1
      subst hd1
      have g1 := HT.g1
      clear HT
      refine wpOp_one rfl rfl (fun K hK => ?_)
      go_simp
      exact hK.out _ _ (.mk b0 b1 true b3 b4 b5 b6 b7 b8 b9 b10 b11 b12 b13 b14 b15 b16 _ _ _ _ _ _ _ _ _ _ _ _ _ _ _ _ _ { HTH.out with h2 := fun _ => rfl })
    | 3, _, hi, hib =>
      have d2 : b2 = true := ready_dep hi rfl 2 (by kernel_rfl)
      have hd2 := HT.h2 d2
      subst hd2
      clear HT
      refine wpOp_one rfl rfl (fun K hK => ?_)
      go_simp
      exact hK.out _ _ (.mk b0 b1 b2 true b4 b5 b6 b7 b8 b9 b10 b11 b12 b13 b14 b15 b16 _ _ _ _ _ _ _ _ _ _ _ _ _ _ _ _ _ { HTH.out with h3 := fun _ => rfl })
    | 4, _, hi, hib =>
      have d3 : b3 = true := ready_dep hi rfl 3 (by kernel_rfl)
      have hd3 := HT.h3 d3
      subst hd3
      have hd1 := HM.out
      clear HT
      refine wpOp_one rfl rfl (fun K hK => ?_)
      go_simp
      exact hK.out _ _ (.mk b0 b1 b2 b3 true b5 b6 b7 b8 b9 b10 b11 b12 b13 b14 b15 b16 _ _ _ _ _ _ _ _ _ _ _ _ _ _ _ _ _ { HTH.out with h4 := fun _ => rfl })
    | 5, _, hi, hib =>
      have d4 : b4 = true := ready_dep hi rfl 4 (by kernel_rfl)
      have hd4 := HT.h4 d4
      subst hd4
      clear HT
      refine wpOp_one rfl rfl (fun K hK => ?_)
      go_simp
      exact hK.out _ _ (.mk b0 b1 b2 b3 b4 true b6 b7 b8 b9 b10 b11 b12 b13 b14 b15 b16 _ _ _ _ _ _ _ _ _ _ _ _ _ _ _ _ _ { HTH.out with h5 := fun _ => rfl })
    | 6, _, hi, hib =>
      have e5 : b5 = true := ready_dep hi rfl 5 (by kernel_rfl)
      have he5 := HT.h5 e5
      subst he5
      clear HT
      refine wpOp_want rfl 5 true rfl rfl (fun K hK => ?_)
      go_simp
      exact hK.out _ _ (.mk b0 b1 b2 b3 b4 b5 true b7 b8 b9 b10 b11 b12 b13 b14 b15 b16 _ _ _ _ _ _ _ _ _ _ _ _ _ _ _ _ _ { HTH.out with h6 := fun _ => rfl })
    | 7, _, hi, hib =>
      have e5 : b5 = true := ready_dep hi rfl 5 (by kernel_rfl)
      have he5 := HT.h5 e5
      subst he5
      have d6 : b6 = true := ready_dep hi rfl 6 (by kernel_rfl)
      have hd6 := HT.h6 d6
      subst hd6
      have g0 := HT.g0
      clear HT
      refine wpOp_want rfl 5 true rfl rfl (fun K hK => ?_)
      go_simp
      exact hK.out _ _ (.mk b0 b1 b2 b3 b4 b5 b6 true b8 b9 b10 b11 b12 b13 b14 b15 b16 _ _ _ _ _ _ _ _ _ _ _ _ _ _ _ _ _ { HTH.out with h7 := fun _ => rfl })
    | 8, _, hi, hib =>
      have e5 : b5 = true := ready_dep hi rfl 5 (by kernel_rfl)
      have he5 := HT.h5 e5
      subst he5
      have d7 : b7 = true := ready_dep hi rfl 7 (by kernel_rfl)
      have hd7 := HT.h7 d7
      subst hd7
      have hd2 := HN.out
      clear HT
      refine wpOp_want rfl 5 true rfl rfl (fun K hK => ?_)
      go_simp
      exact hK.out _ _ (.mk b0 b1 b2 b3 b4 b5 b6 b7 true b9 b10 b11 b12 b13 b14 b15 b16 _ _ _ _ _ _ _ _ _ _ _ _ _ _ _ _ _ { HTH.out with h8 := fun _ => rfl })
    | 9, _, hi, hib =>
      have e5 : b5 = true := ready_dep hi rfl 5 (by kernel_rfl)
      have he5 := HT.h5 e5
      subst he5
      have d8 : b8 = true := ready_dep hi rfl 8 (by kernel_rfl)
      have hd8 := HT.h8 d8
      subst hd8
      clear HT
      refine wpOp_want rfl 5 true rfl rfl (fun K hK => ?_)
      go_simp
      exact hK.out _ _ (.mk b0 b1 b2 b3 b4 b5 b6 b7 b8 true b10 b11 b12 b13 b14 b15 b16 _ _ _ _ _ _ _ _ _ _ _ _ _ _ _ _ _ { HTH.out with h9 := fun _ => rfl })
    | 10, _, hi, hib =>
      have e9 : b9 = true := ready_dep hi rfl 9 (by kernel_rfl)
      have he9 := HT.h9 e9
      subst he9
      have q0 := HT.q0
      have q1 := HT.q1
      clear HT
      refine wpOp_want rfl 9 false rfl rfl (fun K hK => ?_)
      go_simp
      exact hK.out _ _ (.mk b0 b1 b2 b3 b4 b5 b6 b7 b8 b9 true b11 b12 b13 b14 b15 b16 _ _ _ _ _ _ _ _ _ _ _ _ _ _ _ _ _ { HTH.out with h10 := fun _ => rfl })
    | 11, _, hi, hib =>
      have e9 : b9 = true := ready_dep hi rfl 9 (by kernel_rfl)
      have he9 := HT.h9 e9
      subst he9
      have d10 : b10 = true := ready_dep hi rfl 10 (by kernel_rfl)
      have hd10 := HT.h10 d10
      subst hd10
      have HC := Lib.hid (HCR.out w' HT.bel (by have := HT.hz; omega))
      clear HT
      refine wpOp_want rfl 9 false rfl rfl (fun K hK => ?_)
      go_simp
      refine HC.out.mono ?_
      rintro e w2 ⟨rfl, hb⟩
      have hz := HTH.out.hz
      exact hK.out _ _ (.mk b0 b1 b2 b3 b4 b5 b6 b7 b8 b9 b10 true b12 b13 b14 b15 b16 _ _ _ _ _ _ _ _ _ _ _ _ _ _ _ _ _ { HTH.out with bel := HTH.out.bel.trans (hb.mono (by omega)), g0 := (hb.cell (p := ⟨k, 0, none⟩) (show k < _ by omega)).trans HTH.out.g0, g1 := (hb.cell (p := ⟨k, 1, none⟩) (show k < _ by omega)).trans HTH.out.g1, q0 := (hb.cell (p := ⟨k + 1 + 1, 0, none⟩) (show k + 1 + 1 < _ by omega)).trans HTH.out.q0, q1 := (hb.cell (p := ⟨k + 1 + 1, 1, none⟩) (show k + 1 + 1 < _ by omega)).trans HTH.out.q1, hx := (by obtain ⟨x0, x1, h⟩ := HTH.out.hx; exact ⟨x0, x1, (hb.block (k + 1) (by omega)).trans h⟩), hz := Nat.lt_of_lt_of_le hz hb.size, h11 := fun _ => rfl, h15 := fun h => ⟨(hb.cell (p := ⟨k + 1, 0, none⟩) (show k + 1 < _ by omega)).trans (HTH.out.h15 h).1, (hb.cell (p := ⟨k + 1, 1, none⟩) (show k + 1 < _ by omega)).trans (HTH.out.h15 h).2⟩ })
    | 12, _, hi, hib =>
      have e9 : b9 = true := ready_dep hi rfl 9 (by kernel_rfl)
      have he9 := HT.h9 e9
      subst he9
      have d11 : b11 = true := ready_dep hi rfl 11 (by kernel_rfl)
      have hd11 := HT.h11 d11
      subst hd11
      clear HT
      refine wpOp_want rfl 9 false rfl rfl (fun K hK => ?_)
      go_simp
      exact hK.out _ _ (.mk b0 b1 b2 b3 b4 b5 b6 b7 b8 b9 b10 b11 true b13 b14 b15 b16 _ _ _ _ _ _ _ _ _ _ _ _ _ _ _ _ _ { HTH.out with h12 := fun _ => rfl })
    | 13, _, hi, hib =>
      have e5 : b5 = true := ready_dep hi rfl 5 (by kernel_rfl)
      have he5 := HT.h5 e5
      subst he5
      have d12 : b12 = true := ready_dep hi rfl 12 (by kernel_rfl)
      have hd12 := HT.h12 d12
      subst hd12
      have e9 : b9 = true := ready_dep hi rfl 9 (by kernel_rfl)
      have hd9 := HT.h9 e9
      subst hd9
      clear HT
      refine wpOp_want rfl 5 true rfl rfl (fun K hK => ?_)
      go_simp
      exact hK.out _ _ (.mk b0 b1 b2 b3 b4 b5 b6 b7 b8 b9 b10 b11 b12 true b14 b15 b16 _ _ _ _ _ _ _ _ _ _ _ _ _ _ _ _ _ { HTH.out with h13 := fun _ => rfl })
    | 14, _, hi, hib =>
      have d5 : b5 = true := ready_dep hi rfl 5 (by kernel_rfl)
      have hd5 := HT.h5 d5
      subst hd5
      have d13 : b13 = true := ready_dep hi rfl 13 (by kernel_rfl)
      have hd13 := HT.h13 d13
      subst hd13
      clear HT
      refine wpOp_one rfl rfl (fun K hK => ?_)
      go_simp
      exact hK.out _ _ (.mk b0 b1 b2 b3 b4 b5 b6 b7 b8 b9 b10 b11 b12 b13 true b15 b16 _ _ _ _ _ _ _ _ _ _ _ _ _ _ _ _ _ { HTH.out with h14 := fun _ => rfl })
    | 15, _, hi, hib =>
      have d0 : b0 = true := ready_dep hi rfl 0 (by kernel_rfl)
      have hd0 := HT.h0 d0
      subst hd0
      obtain ⟨x0, x1, hxx⟩ := HT.hx
      have hx0 : w'.cell? ⟨k + 1, 0, none⟩ = some x0 := by simp [World.cell?, hxx]
      have hx1 : w'.cell? ⟨k + 1, 1, none⟩ = some x1 := by simp [World.cell?, hxx]
      have hf0 : w'.frozen? ⟨k + 1, 0, none⟩ = false := by simp [World.frozen?, hxx]
      have hf1 : w'.frozen? ⟨k + 1, 1, none⟩ = false := by simp [World.frozen?, hxx]
      have HXH := Lib.hid hxx
      clear hxx
      clear HT
      refine wpOp_one rfl rfl (fun K hK => ?_)
      go_simp
      have hz := HTH.out.hz
      refine hK.out _ _ (.mk b0 b1 b2 b3 b4 b5 b6 b7 b8 b9 b10 b11 b12 b13 b14 true b16 _ _ _ _ _ _ _ _ _ _ _ _ _ _ _ _ _ { HTH.out with bel := ((HTH.out.bel.setCell (p := ⟨k + 1, 0, none⟩) (show k ≤ k + 1 by omega) _).setCell (p := ⟨k + 1, 1, none⟩) (show k ≤ k + 1 by omega) _), g0 := ?_, g1 := ?_, q0 := ?_, q1 := ?_, hx := ?_, hz := by simpa using hz, h15 := fun _ => ⟨?_, ?_⟩ })
      · rw [World.cell?_setCell_other _ _ _ _ (by simp), World.cell?_setCell_other _ _ _ _ (by simp)]; exact HTH.out.g0
      · rw [World.cell?_setCell_other _ _ _ _ (by simp), World.cell?_setCell_other _ _ _ _ (by simp)]; exact HTH.out.g1
      · rw [World.cell?_setCell_other _ _ _ _ (by simp), World.cell?_setCell_other _ _ _ _ (by simp)]; exact HTH.out.q0
      · rw [World.cell?_setCell_other _ _ _ _ (by simp), World.cell?_setCell_other _ _ _ _ (by simp)]; exact HTH.out.q1
      · exact ⟨_, _, two_set HXH.out⟩
      · simp [World.cell?, two_set HXH.out]
      · simp [World.cell?, two_set HXH.out]
    | 16, _, hi, hib =>
      have d14 : b14 = true := ready_dep hi rfl 14 (by kernel_rfl)
      have hd14 := HT.h14 d14
      subst hd14
      clear HT
      refine wpOp_one rfl rfl (fun K hK => ?_)
      go_simp
      exact hK.out _ _ (.mk b0 b1 b2 b3 b4 b5 b6 b7 b8 b9 b10 b11 b12 b13 b14 b15 true _ _ _ _ _ _ _ _ _ _ _ _ _ _ _ _ _ { HTH.out with h16 := fun _ => rfl })
  case fin =>
    rintro lq a' w' ⟨b0, b1, b2, b3, b4, b5, b6, b7, b8, b9, b10, b11, b12, b13, b14, b15, b16, v3, v10, v11, v12, v13, v14, v15, v16, v17, v18, v19, v20, v21, v22, v23, v24, _, HT⟩ hr
    obtain rfl : b0 = true := by
      cases b0 with
      | true => rfl
      | false => exact (ready_in 0 rfl rfl (by simp [Region.binds]) hr).elim
    obtain rfl : b1 = true := by
      cases b1 with
      | true => rfl
      | false => exact (ready_in 1 rfl rfl (by simp [Region.binds]) hr).elim
    obtain rfl : b2 = true := by
      cases b2 with
      | true => rfl
      | false => exact (ready_in 2 rfl rfl (by simp [Region.binds]) hr).elim
    obtain rfl : b3 = true := by
      cases b3 with
      | true => rfl
      | false => exact (ready_in 3 rfl rfl (by simp [Region.binds]) hr).elim
    obtain rfl : b4 = true := by
      cases b4 with
      | true => rfl
      | false => exact (ready_in 4 rfl rfl (by simp [Region.binds]) hr).elim
    obtain rfl : b5 = true := by
      cases b5 with
      | true => rfl
      | false => exact (ready_in 5 rfl rfl (by simp [Region.binds]) hr).elim
    obtain rfl : b6 = true := by
      cases b6 with
      | true => rfl
      | false => exact (ready_in 6 rfl rfl (by simp [Region.binds]) hr).elim
    obtain rfl : b7 = true := by
      cases b7 with
      | true => rfl
      | false => exact (ready_in 7 rfl rfl (by simp [Region.binds]) hr).elim
    obtain rfl : b8 = true := by
      cases b8 with
      | true => rfl
      | false => exact (ready_in 8 rfl rfl (by simp [Region.binds]) hr).elim
    obtain rfl : b9 = true := by
      cases b9 with
      | true => rfl
      | false => exact (ready_in 9 rfl rfl (by simp [Region.binds]) hr).elim
    obtain rfl : b10 = true := by
      cases b10 with
      | true => rfl
      | false => exact (ready_in 10 rfl rfl (by simp [Region.binds]) hr).elim
    obtain rfl : b11 = true := by
      cases b11 with
      | true => rfl
      | false => exact (ready_in 11 rfl rfl (by simp [Region.binds]) hr).elim
    obtain rfl : b12 = true := by
      cases b12 with
      | true => rfl
      | false => exact (ready_in 12 rfl rfl (by simp [Region.binds]) hr).elim
    obtain rfl : b13 = true := by
      cases b13 with
      | true => rfl
      | false => exact (ready_in 13 rfl rfl (by simp [Region.binds]) hr).elim
    obtain rfl : b14 = true := by
      cases b14 with
      | true => rfl
      | false => exact (ready_in 14 rfl rfl (by simp [Region.binds]) hr).elim
    obtain rfl : b15 = true := by
      cases b15 with
      | true => rfl
      | false => exact (ready_in 15 rfl rfl (by simp [Region.binds]) hr).elim
    obtain rfl : b16 = true := by
      cases b16 with
      | true => rfl
      | false => exact (ready_in 16 rfl rfl (by simp [Region.binds]) hr).elim
    have k0 := HT.h0 rfl
    subst k0
    have k1 := HT.h1 rfl
    subst k1
    have k2 := HT.h2 rfl
    subst k2
    have k3 := HT.h3 rfl
    subst k3
    have k4 := HT.h4 rfl
    subst k4
    have k5 := HT.h5 rfl
    subst k5
    have k6 := HT.h6 rfl
    subst k6
    have k7 := HT.h7 rfl
    subst k7
    have k8 := HT.h8 rfl
    subst k8
    have k9 := HT.h9 rfl
    subst k9
    have k10 := HT.h10 rfl
    subst k10
    have k11 := HT.h11 rfl
    subst k11
    have k12 := HT.h12 rfl
    subst k12
    have k13 := HT.h13 rfl
    subst k13
    have k14 := HT.h14 rfl
    subst k14
    have k16 := HT.h16 rfl
    subst k16
    have HE := Lib.hid HT.bel
    obtain ⟨hc0, hc1⟩ := HT.h15 rfl
    clear HT hr
    show _
    go_wp2
    refine bodyPost_ret (v := .tuple #[.agg #[.int .i64 z, .slice A m c], .bool (!r)]) (by simp [results, Tryd.results12, go_sem, hc0, hc1]) rfl ⟨rfl, by rw [Hk.out]; exact HE.out⟩
end Go.Proofs.YtfcabdgidlnljaaDoor
