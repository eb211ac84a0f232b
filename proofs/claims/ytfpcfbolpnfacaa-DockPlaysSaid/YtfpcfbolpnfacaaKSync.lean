/-
  CONTRACTS of package dock, over this translation: New, Sync.
-/
import Derived.Test.YtfpcfbolpnfacaaKOps
namespace Go.Proofs.Ytfpcfbolpnfacaa
open Go.RowKit
open ByteP
set_option linter.unusedVariables false
set_option maxRecDepth 10000
theorem cellK_of_heap {w : World} {g : Nat} {cur : Array Value} {T : TypeId} {i : Nat} {x : Value} (h : w.heap[g]? = some (.cells cur T (0, 0))) (hc : cur[i]? = some x) : w.cell? ⟨g, i, none⟩ = some x := by
  simp [World.cell?, h, hc]
theorem freeK_of_heap {w : World} {g : Nat} {cur : Array Value} {T : TypeId} {i : Nat} (h : w.heap[g]? = some (.cells cur T (0, 0))) : w.frozen? ⟨g, i, none⟩ = false := by
  simp [World.frozen?, h]
theorem Dk.notMine {w : World} {db mb K : Nat} {n : Nm} {F : Int → Option Fi} (h : Dk w db mb K n F) {b : Nat} (hb : w.heap.size ≤ b) : ¬ Mine db mb F b := fun hm => by
  have h1 := h.lt
  have h2 := h.dlt
  rcases hm with e | e | ⟨k, f, hf, e⟩
  · omega
  · omega
  · have := h.rowLt hf b e; omega
/-- A block made behind the dock is as it was. -/
theorem Fr.box {w w2 : World} {o : Obj} {db mb K : Nat} {n : Nm} {F : Int → Option Fi} (h : Fr (w.alloc o) w2 (Mine db mb F)) (hk : Dk w db mb K n F) : w2.heap[w.heap.size]? = some o := by
  rw [h.block w.heap.size (by simp) (hk.notMine (Nat.le_refl _))]
  exact heap_alloc_new w o
theorem Dk.aside {w : World} {db mb K : Nat} {n : Nm} {F : Int → Option Fi} (h : Dk w db mb K n F) {p : Addr} (hp : ¬ Mine db mb F p.block) (u : Value) : Dk (w.setCell p u) db mb K n F :=
  h.of_heap (heap_setCell_other w p db u (fun e => hp (.inl e.symm))) (heap_setCell_other w p mb u (fun e => hp (.inr (.inl e.symm)))) (fun k f hf g hg => heap_setCell_other w p g u (fun e => hp (.inr (.inr ⟨k, f, hf, by rw [hg, e]⟩))))
section
variable {w : World} {db mb K : Nat} {n : Nm} {F : Int → Option Fi}
theorem goesDown_any (h : Dk w db mb K n F) (hl0 : -1 ≤ n.left) (hl1 : n.left ≤ 9223372036854775807) : Calls Try.prog 25 #[.pointer (some ⟨db, 0, none⟩)] w fun e w' => e = .returned (.bool (decide (n.left = 0))) ∧ Dk w' db mb K (gd n) F ∧ Fr w w' (Mine db mb F) := by
  by_cases h1 : n.left = -1
  · refine (goesDown_off h h1).mono ?_
    rintro e w' ⟨rfl, rfl⟩
    refine ⟨by rw [h1]; rfl, ?_, Fr.refl _ _⟩
    unfold gd; rw [if_pos h1]; exact h
  · by_cases h2 : n.left = 0
    · refine (goesDown_now h h2).mono ?_
      rintro e w' ⟨rfl, hk, hf⟩
      refine ⟨by rw [h2]; rfl, ?_, hf⟩
      unfold gd; rw [if_neg h1, if_pos h2]; exact hk
    · refine (goesDown_later h (by omega) hl1).mono ?_
      rintro e w' ⟨rfl, hk, hf⟩
      refine ⟨by rw [decide_eq_false h2], ?_, hf⟩
      unfold gd; rw [if_neg h1, if_neg h2]; exact hk

/-- A new dock. -/
theorem new_any (w : World) (c : Int) (h0 : 0 ≤ c) (h1 : c ≤ 16777216) : Calls Try.prog 5 #[.int .i64 c] w fun e w' => ∃ db mb, e = .returned (.pointer (some ⟨db, 0, none⟩)) ∧ w.heap.size ≤ mb ∧ Dk w' db mb 0 ⟨c, 0, -1, false⟩ (fun _ => none) ∧ Below w.heap.size w w' := by
  have hmm := @run_makeMap Try.prog
  go_enter Try.func5, Try.ntmps5
  go_wp2
  go_ret
  refine ⟨w.heap.size + 1, w.heap.size, rfl, Nat.le_refl _, ?_, ((Below.refl _ _).alloc (Nat.le_refl _) _).alloc (by simp) _⟩
  have hm := World.ownsMap_made (H := Value) w Try.prog 3 held
  refine ⟨Nat.lt_succ_self _, ?_, ⟨_, hm.alloc _, filesD_empty⟩, fun k f h => (by cases h), fun k f h => (by cases h), fun k k' f f' _ h => (by cases h)⟩
  have := heap_alloc_new (w.alloc (.map #[] 0)) (.cells (cellsK w.heap.size ⟨c, 0, -1, false⟩) 46)
  have e : (w.alloc (.map #[] 0)).heap.size = w.heap.size + 1 := by simp
  rw [e] at this
  exact this

theorem sync_down (h : Dk w db mb K n F) (hd : n.down = true) (k : Int) : Calls Try.prog 9 #[.pointer (some ⟨db, 0, none⟩), .int .i64 k] w fun e w' => e = .returned (.int .i64 51) ∧ Below w.heap.size w w' := by
  have H := Lib.hid h
  have HD := Lib.hid hd
  clear h hd
  go_enter Try.func9, Try.ntmps9
  go_wp2_with fail
  refine (find_down H.out HD.out k).mono ?_
  rintro e w1 ⟨rfl, hb⟩
  have HB := Lib.hid hb
  have hsz := hb.size
  clear hb
  go_wp2
  go_ret
  exact ⟨rfl, HB.out.trans ((Below.refl _ _).alloc hsz _)⟩
theorem sync_none (h : Dk w db mb K n F) (hd : n.down = false) {k : Int} (h0 : -9223372036854775808 ≤ k) (h1 : k ≤ 9223372036854775807) (hf : F k = none) : Calls Try.prog 9 #[.pointer (some ⟨db, 0, none⟩), .int .i64 k] w fun e w' => e = .returned (.int .i64 52) ∧ Below w.heap.size w w' := by
  have H := Lib.hid h
  have HD := Lib.hid hd
  have HF := Lib.hid hf
  clear h hd hf
  go_enter Try.func9, Try.ntmps9
  go_wp2_with fail
  refine (find_none H.out HD.out h0 h1 HF.out).mono ?_
  rintro e w1 ⟨rfl, hb⟩
  have HB := Lib.hid hb
  have hsz := hb.size
  clear hb
  go_wp2
  go_ret
  exact ⟨rfl, HB.out.trans ((Below.refl _ _).alloc hsz _)⟩
theorem sync_now (h : Dk w db mb K n F) (hd : n.down = false) (hl : n.left = 0) {k : Int} (h0 : -9223372036854775808 ≤ k) (h1 : k ≤ 9223372036854775807) {f : Fi} (hf : F k = some f) : Calls Try.prog 9 #[.pointer (some ⟨db, 0, none⟩), .int .i64 k] w fun e w' => e = .returned (.int .i64 51) ∧ Dk w' db mb K (gd n) F ∧ Fr w w' (Mine db mb F) := by
  have H := Lib.hid h
  have HD := Lib.hid hd
  have HF := Lib.hid hf
  have HL := Lib.hid hl
  clear h hd hf hl
  go_enter Try.func9, Try.ntmps9
  go_wp2_with fail
  refine (find_some H.out HD.out h0 h1 HF.out).mono ?_
  rintro e w1 ⟨rfl, hb⟩
  have HB := Lib.hid hb
  have H1 := Lib.hid (H.out.below hb)
  clear hb
  go_wp2_with fail
  refine (goesDown_any (H1.out.alloc _) (by rw [HL.out]; omega) (by rw [HL.out]; omega)).mono ?_
  rintro e w2 ⟨rfl, hk, hfr⟩
  rw [HL.out, show (decide ((0 : Int) = 0)) = true from rfl]
  have HK := Lib.hid hk
  have HFR := Lib.hid hfr
  clear hk hfr
  go_wp2
  go_ret
  exact ⟨rfl, HK.out, Fr.of_below_then HB.out (Fr.of_below_then ((Below.refl _ _).alloc (Nat.le_refl _) _) HFR.out)⟩
theorem sync_ok (h : Dk w db mb K n F) (hK : K ≤ 1000000000) (hd : n.down = false) (hl0 : -1 ≤ n.left) (hl1 : n.left ≤ 9223372036854775807) (hl : n.left ≠ 0) {k : Int} {f : Fi} (hf : F k = some f) : Calls Try.prog 9 #[.pointer (some ⟨db, 0, none⟩), .int .i64 k] w fun e w' => e = .returned (.int .i64 0) ∧ Dk w' db mb (K + 1) (gd n) (putF F k { f with s := f.n }) ∧ Fr w w' (Mine db mb F) := by
  have H := Lib.hid h
  have HD := Lib.hid hd
  have HF := Lib.hid hf
  have HG := Lib.hid (h.good k f hf)
  have HAP := Lib.hid (h.apart)
  have HLD : Hid (decide (n.left = 0) = false) := Lib.hid (decide_eq_false hl)
  clear h hd hf hl
  go_enter Try.func9, Try.ntmps9
  go_wp2_with fail
  refine (find_some H.out HD.out (by have := HG.out; omega) (by have := HG.out; omega) HF.out).mono ?_
  rintro e w1 ⟨rfl, hb⟩
  have HB := Lib.hid hb
  have H1 := Lib.hid (H.out.below hb)
  clear hb
  go_wp2_with fail
  refine (goesDown_any (H1.out.alloc _) hl0 hl1).mono ?_
  rintro e w2 ⟨rfl, hk, hfr⟩
  rw [HLD.out]
  have HK := Lib.hid hk
  have HFR := Lib.hid hfr
  have hbx := hfr.box H1.out
  have hnm := (H1.out).notMine (b := w1.heap.size) (Nat.le_refl _)
  have x0 := cellK_of_heap hbx (i := 0) (x := .slice f.A f.n f.c) rfl
  have x1 := cellK_of_heap hbx (i := 1) (x := .int .i64 (f.s : Int)) rfl
  have xf := freeK_of_heap (i := 1) hbx
  have HBX := Lib.hid hbx
  have HNM := Lib.hid hnm
  clear hk hfr hbx hnm
  go_wp2_with fail
  obtain ⟨w3, HW3⟩ : ∃ w3, Hid (w3 = w2.setCell ⟨w1.heap.size, 1, none⟩ (.int .i64 (f.n : Int))) := ⟨_, Lib.hid rfl⟩
  have H3 : Hid (Dk w3 db mb K (gd n) F) := Lib.hid (by rw [HW3.out]; exact HK.out.aside HNM.out _)
  have HB3 : Hid (w3.heap[w1.heap.size]? = some (.cells #[.slice f.A f.n f.c, .int .i64 (f.n : Int)] 57 (0, 0))) := Lib.hid (by
    rw [HW3.out]
    exact heap_setCell_same w2 w1.heap.size 1 _ _ _ HBX.out)
  have HFR3 : Hid (Fr w w3 (Mine db mb F)) := Lib.hid (by
    have h1 := Fr.of_below_then HB.out (Fr.of_below_then ((Below.refl _ _).alloc (Nat.le_refl _) _) HFR.out)
    refine h1.trans (M' := fun b => b = w1.heap.size) ?_ (fun b hb => .inr (by rw [hb]; exact HB.out.size))
    rw [HW3.out]
    exact Fr.setCell w2 (fun b => b = w1.heap.size) (p := ⟨w1.heap.size, 1, none⟩) rfl _)
  have y0 := cellK_of_heap HB3.out (i := 0) (x := .slice f.A f.n f.c) rfl
  have y1 := cellK_of_heap HB3.out (i := 1) (x := .int .i64 (f.n : Int)) rfl
  have c2 := H3.out.c2
  rw [← HW3.out]
  clear x0 x1 xf HW3 HBX HK HFR
  go_still_tail 6, (by kernel_rfl)
  obtain ⟨w4, HW4⟩ : ∃ w4, Hid (w4 = w3.drewN 1) := ⟨_, Lib.hid rfl⟩
  have e4 : ({ heap := w3.heap, tape := w3.tape, drawn := w3.drawn + 1, os := w3.os, output := w3.output } : World) = w4 := HW4.out.symm
  have H4 : Hid (Dk w4 db mb K (gd n) F) := Lib.hid (by rw [HW4.out]; exact H3.out.drewN 1)
  have HFR4 : Hid (Fr w w4 (Mine db mb F)) := Lib.hid (by rw [HW4.out]; exact HFR3.out.trans (Fr.drewN w3 _ 1) (fun b hb => .inl hb))
  rw [e4]
  clear e4 HW4 y0 y1 c2
  refine wplK_put rfl (.tmp 25) (.tmp 26) (.tmp 27) rfl (H4.out.x k) (by omega) rfl rfl HG.out.1 HG.out.2.1 { f with s := f.n } rfl (H4.out.own k f HF.out) ⟨Nat.le_refl _, HG.out.2.2.2.1, HG.out.2.2.2.2⟩ (fun k' f' hne hf' g hg => HAP.out k k' f f' (fun e => hne e.symm) HF.out hf' g hg) ?_
  intro w5 hk5 hfr5
  have HK5 := Lib.hid hk5
  have HFR5 : Hid (Fr w w5 (Mine db mb F)) := Lib.hid (HFR4.out.trans hfr5 (fun b hb => .inl hb))
  clear hk5 hfr5
  go_wp2
  go_ret
  exact ⟨rfl, HK5.out, HFR5.out⟩
end
end Go.Proofs.Ytfpcfbolpnfacaa
