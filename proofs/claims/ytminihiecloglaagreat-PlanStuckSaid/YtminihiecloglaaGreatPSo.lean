/-
 SORTS: slices.SortFunc at pairs.
-/
import Derived.Test.YtminihiecloglaaGreatPOf
import Derived.Test.YtminihiecloglaaGreatPLay
import Derived.Test.YtminihiecloglaaGreatSLay
import Derived.Shelf.SlSortCmp.NoneTotal
set_option linter.unusedVariables false
set_option linter.unusedSimpArgs false
namespace Go.Proofs.YtminihiecloglaaGreat
open Go.RowKit
open SemP FlP GaP DiP
set_option linter.unnecessarySimpa false
set_option maxRecDepth 10000
/-! ### A row behind a sort -/
section
open Go.Sort Go.Shelf
theorem heap_sortedV {w : World} {g n : Nat} {os : Array Obj} {cur : Array Value} {e : TypeId} {fr : Nat × Nat} (d : Array Value) (hb : w.heap[g]? = some (.cells cur e fr)) :
  (grow (putRow id (Go.Sort.ahead w n) g 0 d) os).heap[g]? = some (.cells (putCells id 0 d cur) e fr) := by
 have hg : g < w.heap.size := (Array.getElem?_eq_some_iff.1 hb).1
 rw [heap_grow_old _ _ (by simpa using hg)]
 simp [putRow, mapBlock, Go.Sort.ahead, Array.getElem?_modify, hb, onCells]
theorem grownBy_sortedV {w : World} {g n : Nat} {os : Array Obj} (d : Array Value) : w.grownBy (grow (putRow id (Go.Sort.ahead w n) g 0 d) os) (some g) := by
 refine ⟨rfl, rfl, rfl, by simp, fun k hk hne => ?_⟩
 rw [heap_grow_old _ _ (by simpa using hk)]
 have : g ≠ k := fun e => hne (by rw [e])
 simp [putRow, mapBlock, Go.Sort.ahead, Array.getElem?_modify, this]
theorem take_putCellsV (cur : Array Value) (ts : List Value) (h : ts.length ≤ cur.size) : (putCells id 0 ts.toArray cur).toList.take ts.length = ts := by
 apply List.ext_getElem?
 intro j
 by_cases hj : j < ts.length
 ·rw [List.getElem?_take_of_lt hj, Array.getElem?_toList]
  simp [putCells, hj, show j < cur.size by omega]
 ·rw [List.getElem?_take_eq_none (by omega), List.getElem?_eq_none (by omega)]
theorem ownsRow_sortedV {w : World} {base g cap n m z : Nat} {e : TypeId} {os : Array Obj} {cur : Array Value} {ts : List Value} (hl : ts.length = m * z) (hbase : base ≤ g) (hb : w.heap[g]? = some (.cells cur e (0, 0)))
  (h1 : m ≤ cap) (h2 : cap ≤ maxLen) (h3 : cur.size = cap * z) :
  (grow (putRow id (Go.Sort.ahead w n) g 0 ts.toArray) os).ownsRow base e z (.slice (some ⟨g, 0, none⟩) m cap) m ts :=
 ⟨hl, .inr ⟨g, cap, _, rfl, hbase, heap_sortedV _ hb, h1, h2, by simp [putCells, h3], by rw [← hl]; exact take_putCellsV cur ts (by rw [hl, h3]; exact Nat.mul_le_mul_right z h1)⟩⟩
end
def cfP (x y : Nat × Nat) : Int := if Lib.compareInt (x.1 : Int) (y.1 : Int) = 0 then Lib.compareInt (x.2 : Int) (y.2 : Int) else Lib.compareInt (x.1 : Int) (y.1 : Int)
set_option maxHeartbeats 8000000 in
theorem compare2_any {w : World} {b d : Nat} {x0 x1 y0 y1 : Int} (h0 : w.cell? ⟨b, 0, none⟩ = some (.int .i64 x0)) (h1 : w.cell? ⟨b, 1, none⟩ = some (.int .i64 x1)) (k0 : w.cell? ⟨d, 0, none⟩ = some (.int .i64 y0)) (k1 : w.cell? ⟨d, 1, none⟩ = some (.int .i64 y1)) :
  Calls Tryz.prog 78 #[.slice (some ⟨b, 0, none⟩) 2 2, .slice (some ⟨d, 0, none⟩) 2 2] w fun e w' => e = .returned (.int .i64 (if Lib.compareInt x0 y0 = 0 then Lib.compareInt x1 y1 else Lib.compareInt x0 y0)) ∧ w' = w := by
 have HC0 := Lib.hid (fun W => Tryz.cmp_Compare_int x0 y0 W)
 have HC1 := Lib.hid (fun W => Tryz.cmp_Compare_int x1 y1 W)
 obtain ⟨c0, E0⟩ : ∃ q, Hid (Lib.compareInt x0 y0 = q) := ⟨_, Lib.hid rfl⟩
 obtain ⟨c1, E1⟩ : ∃ q, Hid (Lib.compareInt x1 y1 = q) := ⟨_, Lib.hid rfl⟩
 rw [E0.out, E1.out]
 rw [E0.out] at HC0
 rw [E1.out] at HC1
 go_enter Tryz.func78, Tryz.ntmps78
 go_wp2_with fail
 go_loop [5, 6, 7, 8, 11] (fun _ _ _ _ v => ∃ k : Nat, k ≤ 2 ∧ v = .int .i64 (k : Int) ∧ Hid (0 < k → c0 = 0) ∧ Hid (1 < k → c1 = 0)) (fun _ _ _ _ v => 2 - (intOf v).toNat)
 case atStart => exact ⟨0, by omega, rfl, Lib.hid (fun h => absurd h (by omega)), Lib.hid (fun h => absurd h (by omega))⟩
 case round =>
  obtain ⟨k, hk, rfl, HK0, HK1⟩ := hrel
  obtain rfl | rfl | rfl : k = 0 ∨ k = 1 ∨ k = 2 := by omega
  ·by_cases e0 : c0 = 0
   ·subst e0
    go_wp2_with fail
    refine (HC0.out _).mono ?_
    rintro e w1 ⟨rfl, rfl⟩
    go_wp2_with fail
    go_round
    case rel => exact ⟨1, by omega, by go_num, Lib.hid (by first | exact fun _ => rfl | trivial), Lib.hid (fun h => absurd h (by omega))⟩
    case measure => simp [intOf]
   ·have d0 : (c0 != 0) = true := by rw [bne_iff_ne]; exact e0
    go_wp2_with fail
    refine (HC0.out _).mono ?_
    rintro e w1 ⟨rfl, rfl⟩
    go_wp2_with fail
    exact bodyPost_ret (results_tmp rfl _ _ _) rfl ⟨by first | rfl | (rw [if_neg e0]; rfl), rfl⟩
  ·have e0 := HK0.out (by omega)
   subst e0
   by_cases e1 : c1 = 0
   ·subst e1
    go_wp2_with fail
    refine (HC1.out _).mono ?_
    rintro e w1 ⟨rfl, rfl⟩
    go_wp2_with fail
    go_round
    case rel => exact ⟨2, by omega, by go_num, Lib.hid (by first | exact fun _ => rfl | trivial), Lib.hid (by first | exact fun _ => rfl | trivial)⟩
    case measure => simp [intOf]
   ·have d0 : (c1 != 0) = true := by rw [bne_iff_ne]; exact e1
    go_wp2_with fail
    refine (HC1.out _).mono ?_
    rintro e w1 ⟨rfl, rfl⟩
    go_wp2_with fail
    exact bodyPost_ret (results_tmp rfl _ _ _) rfl ⟨by first | rfl | (rw [if_pos rfl]; rfl), rfl⟩
  ·have e0 := HK0.out (by omega)
   have e1 := HK1.out (by omega)
   subst e0 e1
   go_wp2_with fail
   exact bodyPost_ret (results_tmp rfl _ _ _) rfl ⟨by first | rfl | (rw [if_pos rfl]; rfl), rfl⟩
open Go.Sort in
set_option maxHeartbeats 4000000 in
theorem closureP_any (x y : Nat × Nat) (w : World) :
  Calls Tryz.prog 77 #[.agg #[.int .i64 (x.1 : Int), .int .i64 (x.2 : Int)], .agg #[.int .i64 (y.1 : Int), .int .i64 (y.2 : Int)]] w fun e w' => e = .returned (.int .i64 (cfP x y)) ∧ ∃ q os', w' = Go.Sort.grow (w.drewN q) os' := by
 obtain ⟨W, HW⟩ : ∃ W, Hid (W = (w.alloc (.cells #[.int .i64 (x.1 : Int), .int .i64 (x.2 : Int)] 91)).alloc (.cells #[.int .i64 (y.1 : Int), .int .i64 (y.2 : Int)] 91)) := ⟨_, Lib.hid rfl⟩
 have c1 := cells_of (heap_new (w.alloc (.cells #[.int .i64 (x.1 : Int), .int .i64 (x.2 : Int)] 91)) (.cells #[.int .i64 (y.1 : Int), .int .i64 (y.2 : Int)] 91))
 have c0 := cells_of (heap_new w (.cells #[.int .i64 (x.1 : Int), .int .i64 (x.2 : Int)] 91))
 have HCM := Lib.hid (fun n => compare2_any (w := W.drewN n) (b := w.heap.size) (d := w.heap.size + 1) (x0 := (x.1 : Int)) (x1 := (x.2 : Int)) (y0 := (y.1 : Int)) (y1 := (y.2 : Int))
  (by rw [HW.out]; show World.cell? (World.alloc _ _) _ = _; rw [World.cell?_alloc_lt _ _ _ (by simp)]; exact c0 0 _ rfl)
  (by rw [HW.out]; show World.cell? (World.alloc _ _) _ = _; rw [World.cell?_alloc_lt _ _ _ (by simp)]; exact c0 1 _ rfl)
  (by rw [HW.out]; have := c1 0 _ rfl; simpa using this) (by rw [HW.out]; have := c1 1 _ rfl; simpa using this))
 obtain ⟨cq, HQ⟩ : ∃ q, Hid (cfP x y = q) := ⟨_, Lib.hid rfl⟩
 have HCM := Lib.hid (fun n => by
  have h := HCM.out n
  have e : (if Lib.compareInt (x.1 : Int) (y.1 : Int) = 0 then Lib.compareInt (x.2 : Int) (y.2 : Int) else Lib.compareInt (x.1 : Int) (y.1 : Int)) = cq := HQ.out
  rw [e] at h
  exact h)
 rw [HQ.out]
 have s0 : W.cell? ⟨w.heap.size, 0, none⟩ = some (.int .i64 (x.1 : Int)) := by rw [HW.out, World.cell?_alloc_lt _ _ _ (by simp)]; exact c0 0 _ rfl
 clear c0 c1
 go_enter Tryz.func77, Tryz.ntmps77
 go_upto_region 1 with fail
 change Code.wp _ _ _ _ ((w.alloc (.cells #[.int .i64 (x.1 : Int), .int .i64 (x.2 : Int)] 91)).alloc (.cells #[.int .i64 (y.1 : Int), .int .i64 (y.2 : Int)] 91))
 rw [← HW.out]
 go_region_held3 (fun W' => W'.cell? ⟨w.heap.size, 0, none⟩ = some (.int .i64 (x.1 : Int))) ((first | exact s0 | exact z0 | go_keep)) (first
  | (go_at_call 78; refine (HCM.out 1).mono ?_; rintro e w1 ⟨rfl, hw⟩; (have z0 : w1.cell? ⟨w.heap.size, 0, none⟩ = some (.int .i64 (x.1 : Int)) := (by rw [hw]; exact s0)); (have HW1 := Lib.hid hw); clear hw))
 go_wp2_with fail
 refine bodyPost_ret (results_tmp rfl _ _ _) rfl ?_
 exact ⟨rfl, 1, _, by rw [HW1.out, HW.out, alloc_eq_grow, alloc_eq_grow, grow_grow]; rfl⟩
section
open Go.Sort Go.Shelf
theorem cmpI_lt (a b : Int) : Lib.compareInt a b < 0 ↔ a < b := by
 unfold Lib.compareInt
 split
 ·simp; omega
 ·split <;> simp <;> omega
theorem cmpI_eq (a b : Int) : Lib.compareInt a b = 0 ↔ a = b := by
 unfold Lib.compareInt
 split
 ·simp; omega
 ·split <;> simp <;> omega
instance (x y : Nat × Nat) : Decidable (ltP x y) := by unfold ltP; infer_instance
theorem ltP_cf (x y : Nat × Nat) : ltOf cfP x y = decide (ltP x y) := by
 unfold ltOf cfP ltP
 congr 1
 apply propext
 split
 ·rename_i h
  have := (cmpI_eq _ _).1 h
  rw [cmpI_lt]; omega
 ·rename_i h
  have h2 : ¬ (x.1 : Int) = (y.1 : Int) := fun e => h ((cmpI_eq _ _).2 e)
  rw [cmpI_lt]; omega
theorem swoP : SWO (ltOf cfP) where
 irrefl x := by rw [ltP_cf]; simp [ltP]
 trans x y z h1 h2 := by
  rw [ltP_cf, decide_eq_true_iff] at *
  unfold ltP at *; omega
 ntrans x y z h1 h2 := by
  rw [ltP_cf, decide_eq_false_iff_not] at *
  unfold ltP at *; omega
theorem cmpLaysP (blk off size : Nat) (w : World) : CmpLays Tryz.prog 77 #[] egF 2 cfP blk off size w :=
 fun _ _ _ _ x y => closureP_any x y _
theorem infoPr : (Tryz.prog.info? 91).map (fun i => (i.zero, i.size, i.bytes)) = some (some (.agg #[.int .i64 0, .int .i64 0]), 2, 16) := by kernel_rfl
theorem flat_eq (es : List (Nat × Nat)) : (flatK egF 2 es.toArray).toList = es.flatMap egF := by
 apply List.ext_getElem?
 intro t
 have hz : ∀ x : Nat × Nat, (egF x).length = 2 := fun _ => rfl
 by_cases ht : t < es.length * 2
 ·have h1 := get_flatK egF 2 es.toArray t (by simpa using ht)
  have h2 := flatF_at (f := egF) hz es (t / 2) (t % 2) (by omega) (by omega)
  rw [show t / 2 * 2 + t % 2 = t by omega] at h2
  rw [h2]
  have hs : t < (flatK egF 2 es.toArray).size := by simpa using ht
  rw [Array.getElem?_toList, Array.getElem?_eq_getElem hs, ← getElem!_pos (flatK egF 2 es.toArray) t hs, h1]
  have h3 : (es.toArray)[t / 2]! = es.getD (t / 2) default := by
   rw [getElem!_pos es.toArray (t / 2) (show t / 2 < es.toArray.size by simp; omega)]
   simp [List.getD, show t / 2 < es.length by omega]
  rw [h3]
  have h4 : t % 2 < (egF (es.getD (t / 2) default)).length := by rw [hz]; omega
  rw [List.getElem?_eq_getElem h4, getElem!_pos (egF (es.getD (t / 2) default)) (t % 2) h4]
 ·rw [List.getElem?_eq_none (by simpa using ht), List.getElem?_eq_none (by rw [flatF_len hz]; omega)]
set_option maxHeartbeats 4000000 in
theorem sortP_any {w : World} {base n c : Nat} {A : Option Addr} {es : List (Nat × Nat)} (h : OwnF 91 2 egF w base (.slice A n c) es) (hn : n ≤ 1000000) (hb : base ≤ w.heap.size) :
  Calls Tryz.prog 76 #[.slice A n c, .func (.func 77) #[] #[]] w fun e w' => e = .returned (.tuple #[]) ∧ ∃ es', es'.Perm es ∧ es'.Pairwise (fun x y => ¬ ltP y x) ∧ OwnF 91 2 egF w' base (.slice A n c) es' ∧ w.grownBy w' (Value.slice A n c).ownBlock := by
 obtain ⟨A', c', hA⟩ := h.shape
 injection hA with hA hn' hc
 subst hA hc
 rcases h.2 with ⟨hv, h0⟩ | ⟨g, cap, cur, hv, hbg, hh, hlc, hcm, hcs, htk⟩
 ·injection hv with hv1 hv2 hv3
  subst hv1 hv2 hv3
  refine (Go.Proofs.AnyF.slices_SortFunc_none (P := Tryz.prog) (ρ := Tryz.laysSF_ren) { Tryz.laysSF with } none 0 _ w).mono ?_
  rintro e w' ⟨rfl, rfl⟩
  have : es = [] := List.eq_nil_of_length_eq_zero h0
  subst this
  exact ⟨rfl, [], List.Perm.refl _, List.Pairwise.nil, h, World.grownBy.refl _ _⟩
 ·injection hv with hv1 hv2 hv3
  subst hv1 hv3
  have hlen : es.toArray.size = n := by simp; exact hn'.symm
  have hH : HoldsK egF 2 w g 0 es.toArray := by
   intro j hj
   have hj' : j < es.length * 2 := by simpa using hj
   have h1 : (flatK egF 2 es.toArray).toList[j]? = some (flatK egF 2 es.toArray)[j]! := by
    rw [Array.getElem?_toList, Array.getElem?_eq_getElem hj, getElem!_pos _ j hj]
   rw [flat_eq] at h1
   rw [Nat.zero_add]
   refine ⟨?_, ?_⟩
   ·have h2 : cur.toList[j]? = (es.flatMap egF)[j]? := by
     rw [← htk, List.getElem?_take_of_lt hj']
    have := cells_of hh j _ (h2.trans h1)
    exact this
   ·unfold World.frozen?
    rw [hh]
    rfl
  have eg : ∀ args w, (callFunc 77 args).run Tryz.prog w = .ok (.enter 77 args) w := enters_of Tryz.func77 (by kernel_rfl) rfl
  have hS := Go.Proofs.AnyQ.slices_SortFunc Tryz.laysSF 2 Tryz.isAgg91 Tryz.sizeOf91 egF (fun _ => rfl) (fun x v hv => by simp [egF] at hv; rcases hv with rfl | rfl <;> rfl) cfP swoP 77 #[] g 0 c es.toArray w eg (cmpLaysP g 0 _ w) hH (Array.getElem?_eq_some_iff.1 hh).1 (by omega)
  rw [hlen] at hS
  refine hS.mono ?_
  rintro e w' ⟨rfl, d', m, os, hp, hs, rfl⟩
  have hds : d'.size = n := by rw [hp.1, hlen]
  have hperm : d'.toList.Perm es := by
   have := hp.2.2
   have e1 : d'.extract 0 n = d' := by rw [← hds]; exact Array.extract_size
   have e2 : es.toArray.extract 0 n = es.toArray := by rw [← hlen]; exact Array.extract_size
   rw [e1, e2] at this
   exact this
  refine ⟨rfl, d'.toList, hperm, ?_, ?_, ?_⟩
  ·rw [List.pairwise_iff_getElem]
   intro i j hi hj hij
   have := hs i j (by omega) hij (by simpa [hds] using hj)
   rw [ltP_cf, getElem!_pos d' j (by simpa using hj), getElem!_pos d' i (by simpa using hi)] at this
   simpa using this
  ·have hfl : (flatK egF 2 d') = (d'.toList.flatMap egF).toArray := by
    have := flat_eq d'.toList
    rw [show d'.toList.toArray = d' from rfl] at this
    rw [← this]
   unfold sortWorldK putRowK OwnF
   rw [hfl]
   have hl2 : d'.toList.length = n := by simpa using hds
   rw [hl2]
   have := ownsRow_sortedV (w := w) (base := base) (g := g) (cap := c) (n := m) (m := n) (z := 2) (os := os) (cur := cur) (e := 91) (ts := d'.toList.flatMap egF) (by rw [flatF_len (f := egF) (z := 2) (fun _ => rfl), hl2]) hbg hh (by omega) hcm hcs
   exact this
  ·unfold sortWorldK putRowK
   exact grownBy_sortedV _
end
end Go.Proofs.YtminihiecloglaaGreat
