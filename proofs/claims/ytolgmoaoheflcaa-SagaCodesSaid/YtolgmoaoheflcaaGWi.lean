/-
 CONTRACT: without: slices.DeleteFunc with its closure.
-/
import Derived.Test.YtolgmoaoheflcaaGCo
import Derived.Test.YtolgmoaoheflcaaGLay
namespace Go.Proofs.Ytolgmoaoheflcaa.Sa
open Go.RowKit Go.Lib Go.Sort
open DiP
set_option linter.unusedVariables false
set_option linter.unusedSimpArgs false
set_option maxRecDepth 10000
theorem flat_in_map : ∀ xs : List Int, xs.flatMap inF = xs.map (Value.int .i64)
 | [] => rfl
 | x :: xs => by rw [List.flatMap_cons, flat_in_map xs]; rfl
theorem gives_wo (k x : Int) (B : Nat) (W : World) (hc : W.cell? ⟨B, 0, none⟩ = some (.int .i64 k)) : FnGives Try.prog 87 #[.pointer (some ⟨B, 0, none⟩)] #[.int .i64 x] (.bool (decide (x = k))) W := by
 show Calls Try.prog 87 #[.int .i64 x, .pointer (some ⟨B, 0, none⟩)] W _
 by_cases h : x = k
 ·have h1 : (x == k) = true := by rw [beq_iff_eq]; exact h
  rw [decide_eq_true h]
  clear h
  go_enter Try.func87, Try.ntmps87
  go_wp2
  go_ret
  exact ⟨rfl, 0, rfl⟩
 ·have h1 : (x == k) = false := by rw [beq_eq_false_iff_ne]; exact h
  rw [decide_eq_false h]
  clear h
  go_enter Try.func87, Try.ntmps87
  go_wp2
  go_ret
  exact ⟨rfl, 0, rfl⟩
theorem pred_wo (k : Int) (B : Nat) (w : World) (hB : B < w.heap.size) (hcell : w.cell? ⟨B, 0, none⟩ = some (.int .i64 k)) : PredAt Try.prog 87 #[.pointer (some ⟨B, 0, none⟩)] (Value.int .i64) (fun x => decide (x = k)) w :=
 fun W x hb => gives_wo k x B W ((hb.cell (p := ⟨B, 0, none⟩) hB).trans hcell)
theorem over_wo (k : Int) (B blk off size : Nat) (w : World) (hB : B < w.heap.size) (hne : B ≠ blk) (hcell : w.cell? ⟨B, 0, none⟩ = some (.int .i64 k)) : PredOver Try.prog 87 #[.pointer (some ⟨B, 0, none⟩)] (Value.int .i64) (fun x => decide (x = k)) blk off size w :=
 fun n os dk x _ => gives_wo k x B _ (by
  unfold sortWorld
  rw [cell?_grow _ _ _ (by show B < (putRow _ _ _ _ _).heap.size; rw [size_putRow]; exact hB), cell?_putRow_other _ _ blk off _ _ (Or.inl hne)]
  exact hcell)
theorem enters_wo : ∀ args w, (callFunc 87 args).run Try.prog w = .ok (.enter 87 args) w := enters_of Try.func87 (by kernel_rfl) rfl
theorem idxNil (fv : Value) (w : World) : Calls Try.prog 92 #[.slice none 0 0, fv] w fun e w' => e = .returned (.int .i64 (-1)) ∧ w' = w := by
 go_enter Try.func92, Try.ntmps92
 go_wp2_with fail
 refine wp_loop_rounds 1 ?_
 rw [rounds_succ]
 go_wp2_with fail
 exact bodyPost_ret (results_tmp rfl _ _ _) rfl ⟨rfl, rfl⟩
theorem delNil (fv : Value) (w : World) : Calls Try.prog 86 #[.slice none 0 0, fv] w fun e w' => e = .returned (.slice none 0 0) ∧ w' = w := by
 have HI := Lib.hid (idxNil fv w)
 go_enter Try.func86, Try.ntmps86
 go_wp2_with (go_at_call 92; refine HI.out.mono ?_; rintro e w1 ⟨rfl, rfl⟩)
 exact bodyPost_ret (results_tmp rfl _ _ _) rfl ⟨rfl, rfl⟩
theorem ix_arr {l : List Int} {j : Nat} (h : j < l.length) : (l.toArray)[j]! = ix l j := by
 rw [getElem!_pos _ j (by simpa using h)]
 unfold ix; simp [List.getD, h]
theorem block_putRow {α : Type} [Inhabited α] (enc : α → Value) (w : World) (blk off : Nat) (d : Array α) (k : Nat) (h : k ≠ blk) : (putRow enc w blk off d).heap[k]? = w.heap[k]? := by
 unfold putRow mapBlock
 simp [Array.getElem?_modify, Ne.symm h]
theorem heap_putRow_same {α : Type} [Inhabited α] (enc : α → Value) (w : World) (blk off : Nat) (d : Array α) {cur : Array Value} {T : TypeId} (h : w.heap[blk]? = some (.cells cur T (0, 0))) : (putRow enc w blk off d).heap[blk]? = some (.cells (putCells enc off d cur) T (0, 0)) := by
 unfold putRow mapBlock
 simp [Array.getElem?_modify, h, onCells]
theorem filter_le (l : List Int) (k : Int) : (withoutL l k).length ≤ l.length := (without_sub l k).length_le
set_option maxHeartbeats 4000000 in
theorem without_any {w : World} {base n c : Nat} {A : Option Addr} {xs : List Int} (h : OwnF 3 1 inF w base (.slice A n c) xs) (hn : n ≤ 1000000) (k : Int) :
 Calls Try.prog 72 #[.slice A n c, .int .i64 k] w fun e w' => ∃ n' c', e = .returned (.slice A n' c') ∧ OwnF 3 1 inF w' base (.slice A n' c') (withoutL xs k) ∧ w.grownBy w' (Value.slice A n c).ownBlock := by
 have HC := Lib.hid (OwnF.cellsA (f := inF) (z := 1) (fun _ => rfl) h)
 have hgr : w.grownBy (w.alloc (.cells #[.int .i64 k] 3)) (Value.slice A n c).ownBlock := grown_alloc1 w _ _
 rcases h.2 with ⟨hv, h0⟩ | ⟨g, cap, cur, hv, hbg, hh, hlc, hcm, hcs, htk⟩
 ·injection hv with h1 h2 h3
  subst h1 h2 h3
  have hx0 : xs = [] := List.eq_nil_of_length_eq_zero h0
  subst hx0
  have HG := Lib.hid hgr
  have HD := Lib.hid (fun fv => delNil fv (w.alloc (.cells #[.int .i64 k] 3)))
  clear h hgr
  go_enter Try.func72, Try.ntmps72
  go_wp2_with (go_at_call 86; refine (HD.out _).mono ?_; rintro e w1 ⟨rfl, rfl⟩)
  refine bodyPost_ret (results_tmp rfl _ _ _) rfl ⟨0, 0, rfl, OwnF.nil_ _ _ _ _ _, HG.out⟩
 ·injection hv with h1 h2 h3
  subst h1 h2 h3
  have hg := heapE_lt hh
  have HCEL : Hid (∀ j, j < xs.length → w.cell? ⟨g, j, none⟩ = some (.int .i64 (ix xs j))) := Lib.hid (fun j hj => by
   obtain ⟨b, e, _, hc⟩ := HC.out.2 (by omega)
   injection e with e
   injection e with e1 e2 e3
   subst e1
   refine hc j _ ?_
   rw [flat_in_map]; exact ix_map xs j hj)
  have hH : Holds (Value.int .i64) (w.alloc (.cells #[.int .i64 k] 3)) g 0 xs.toArray := fun j hj => by
   have hj' : j < xs.length := by simpa using hj
   rw [ix_arr hj', Nat.zero_add]
   exact ⟨(World.cell?_alloc_lt w _ _ hg).trans (HCEL.out j hj'), by rw [World.frozen?_alloc_old _ _ _ (by show g ≠ w.heap.size; omega)]; exact free_row hh j⟩
  have hcon := AnyE.slices_DeleteFunc Try.laysDF (Value.int .i64) (fun _ => rfl) (fun x => decide (x = k)) 87 #[.pointer (some ⟨w.heap.size, 0, none⟩)] enters_wo 0 Try.zeroValue3 g 0 c xs.toArray (w.alloc (.cells #[.int .i64 k] 3))
   (pred_wo k w.heap.size _ (by simp) (by simp)) (over_wo k w.heap.size g 0 _ _ (by simp) (by omega) (by simp)) hH (by simp; omega) (by simp; omega)
  change Calls Try.prog 86 _ _ _ at hcon
  have ef : xs.toArray.toList.filter (fun x => !decide (x = k)) = withoutL xs k := by unfold withoutL; simp
  rw [ef] at hcon
  have hsz : xs.toArray.size = xs.length := by simp
  rw [hsz] at hcon
  have HFL : Hid ((withoutL xs k).length ≤ xs.length) := Lib.hid (filter_le xs k)
  have HG := Lib.hid hgr
  have HBG := Lib.hid hbg
  have HCAP := Lib.hid (And.intro hlc (And.intro hcm hcs))
  obtain ⟨r, HR⟩ : ∃ r, Hid (withoutL xs k = r) := ⟨_, Lib.hid rfl⟩
  rw [HR.out] at hcon HFL
  have HD := Lib.hid hcon
  obtain ⟨W, HW⟩ : ∃ W, Hid (W = w.alloc (.cells #[.int .i64 k] 3)) := ⟨_, Lib.hid rfl⟩
  have HHW : Hid (W.heap[g]? = some (.cells cur 3 (0, 0))) := Lib.hid (by rw [HW.out, Below.heap_alloc _ _ _ hg]; exact hh)
  have k0 : W.cell? ⟨w.heap.size, 0, none⟩ = some (.int .i64 k) := by rw [HW.out]; simp
  rw [← HW.out] at HD HG
  clear h hH hcon ef hsz hh htk hcs hgr hlc hcm
  go_enter Try.func72, Try.ntmps72
  go_upto_region 1 with fail
  change Code.wp _ _ _ _ (w.alloc (.cells #[.int .i64 k] 3))
  rw [← HW.out]
  go_wp2_with (go_at_call 86; refine HD.out.mono ?_; rintro e w1 ⟨rfl, q, hq⟩; (have HQ := Lib.hid hq); clear hq)
  have HGR : Hid (w.grownBy w1 (some g)) := Lib.hid (by
   rw [HQ.out]
   refine grown_add HG.out ⟨rfl, rfl, rfl, by rw [size_putRow]; exact Nat.le_refl _, fun i hi hne => ?_⟩
   rw [block_putRow _ _ _ _ _ _ (fun e => hne (by rw [e]))]; rfl)
  refine bodyPost_ret (results_tmp rfl _ _ _) rfl ⟨_, _, rfl, ?_, HGR.out⟩
  rw [HQ.out, HR.out]
  obtain ⟨hlc, hcm, hcs⟩ := HCAP.out
  have hfl := HFL.out
  refine ⟨by rw [flatF_len (f := inF) (z := 1) (fun _ => rfl)], .inr ⟨g, c, putCells (Value.int .i64) 0 (r ++ List.replicate (xs.length - r.length) 0).toArray cur, rfl, HBG.out, heap_putRow_same _ (Sort.ahead W q) _ _ _ HHW.out, by omega, hcm, ?_, ?_⟩⟩
  ·unfold putCells; rw [Array.size_mapIdx]; exact hcs
  ·rw [flat_in_map, Nat.mul_one]
   apply List.ext_getElem?
   intro j
   by_cases hj : j < r.length
   ·rw [List.getElem?_take_of_lt hj, Array.getElem?_toList]
    unfold putCells
    have hjc : j < cur.size := by rw [hcs]; omega
    have hlt : j < (r ++ List.replicate (xs.length - r.length) 0).length := by simp; omega
    rw [Array.getElem?_mapIdx, Array.getElem?_eq_getElem hjc, Option.map_some, if_pos ⟨Nat.zero_le _, by rw [List.size_toArray, Nat.zero_add]; exact hlt⟩, Nat.sub_zero, ix_arr hlt, ix_append_lt hj, ix_map r j hj]
   ·rw [List.getElem?_eq_none (by rw [List.length_take]; omega), List.getElem?_eq_none (by rw [List.length_map]; omega)]
end Go.Proofs.Ytolgmoaoheflcaa.Sa
