/-
  CONTRACTS: needs and its closures; Linked.
-/
import Derived.Test.YtebflhlgcpbikaaGreatCNd
import Derived.Laws.EntriesVeiled
namespace Go.Proofs.YtebflhlgcpbikaaGreat
open Go.RowKit
open SemP
set_option linter.unusedVariables false
set_option linter.unusedSimpArgs false
set_option maxRecDepth 10000
theorem ofJ_any {w : World} {W : World} {g : Nat} {s t : Int} {v1 : Value} {T : TypeId} (hk : w.heap[g]? = some (.cells #[.int .i64 s] T (0, 0))) (hb : Below w.heap.size w W) :
    Calls Tryz.prog 60 #[.agg #[.int .i64 t, v1], .pointer (some ⟨g, 0, none⟩)] W fun e w' => e = .returned (.bool (decide (t = s))) ∧ Below w.heap.size w w' := by
  have hg : g < w.heap.size := heapE_lt hk
  obtain ⟨k0, _⟩ := row1f ((hb.block g hg).trans hk)
  have hne : g ≠ W.heap.size := by have := hb.size; omega
  have hgW : g < W.heap.size := by have := hb.size; omega
  have HX : Hid (Below w.heap.size w (W.alloc (.cells #[.int .i64 t, v1] 84))) := Lib.hid (hb.alloc hb.size _)
  clear hk hb
  by_cases h : t = s
  · subst h
    have HD : Hid (decide (t = t) = true) := Lib.hid (by simp)
    go_enter Tryz.func60, Tryz.ntmps60
    go_wp2_with fail
    go_ret
    exact ⟨congrArg (fun b => Ending.returned (.bool b)) HD.out.symm, HX.out⟩
  · have HD : Hid (decide (t = s) = false) := Lib.hid (decide_eq_false h)
    have h3 : (t == s) = false := by rw [beq_eq_false_iff_ne]; exact h
    go_enter Tryz.func60, Tryz.ntmps60
    go_wp2_with fail
    go_ret
    exact ⟨congrArg (fun b => Ending.returned (.bool b)) HD.out.symm, HX.out⟩
theorem enters_ofJ : ∀ args w, (callFunc 60 args).run Tryz.prog w = .ok (.enter 60 args) w := enters_of Tryz.func60 (by kernel_rfl) rfl
theorem enters_n2 : ∀ args w, (callFunc 62 args).run Tryz.prog w = .ok (.enter 62 args) w := enters_of Tryz.func62 (by kernel_rfl) rfl
set_option maxHeartbeats 4000000 in
theorem needs2_any {w W : World} {B fb jb : Nat} {j : Int} {T T' : TypeId} {vs : List Value} {x : Rl} (hk : w.heap[fb]? = some (.cells #[.func (.func 60) #[] #[.pointer (some ⟨jb, 0, none⟩)]] T (0, 0))) (hj : w.heap[jb]? = some (.cells #[.int .i64 j] T' (0, 0))) (hb : Below w.heap.size w W) (hB : B ≤ w.heap.size)
    (hit : reI W (fun b => B ≤ b) vs x) (hx : x.2.2.length ≤ 12) :
    Calls Tryz.prog 62 (#[.agg vs.toArray] ++ #[.pointer (some ⟨fb, 0, none⟩)]) W fun e w' => e = .returned (.bool (x.2.2.any (fun n => decide (n.1 = j)))) ∧ Below w.heap.size w w' := by
  obtain ⟨A3, n3, c3, rfl, hps⟩ := hit.parts
  obtain ⟨hcap, hr⟩ := hps.rd
  have hfb : fb < w.heap.size := heapE_lt hk
  have hjb : jb < w.heap.size := heapE_lt hj
  have hsz := hb.size
  obtain ⟨⟨va, vb, vc, vs⟩, lv, nds⟩ := x
  simp only at hr hx ⊢
  obtain ⟨k0, _⟩ := row1f ((hb.block fb hfb).trans hk)
  have hfbW : fb < W.heap.size := by omega
  obtain ⟨W1, HW1⟩ : ∃ W1, Hid (W1 = W.alloc (.cells #[.int .i64 va, .int .i64 vb, .int .i64 vc, .string vs, .int .i64 lv, .slice A3 n3 c3] 75)) := ⟨_, Lib.hid rfl⟩
  have hb1 : Below W.heap.size W W1 := by rw [HW1.out]; exact (Below.refl _ W).alloc (Nat.le_refl _) _
  have hz1 : W1.heap.size = W.heap.size + 1 := by rw [HW1.out]; simp
  have hnl := hr.1
  have hj1 : W1.heap[jb]? = some (.cells #[.int .i64 j] T' (0, 0)) := (hb1.block jb (by omega)).trans ((hb.block jb hjb).trans hj)
  have HCO : Hid (Calls Tryz.prog 63 #[.slice A3 n3 c3, .func (.func 60) #[] #[.pointer (some ⟨jb, 0, none⟩)]] W1 fun e w' => e = .returned (.bool (nds.any (fun y => decide (y.1 = j)))) ∧ Below W1.heap.size W1 w') := Lib.hid (con_nd (B := B) (fun y => decide (y.1 = j)) _ _ (RdJ.below pn_turns hr (hb1.mono (by omega))) (by omega) (by omega) enters_ofJ (fun W2 vs x hx hb2 hl2 hit => by
    obtain ⟨A4, n4, c4, rfl, _, _⟩ := hit.parts
    exact ofJ_any hj1 hb2))
  have HB1 : Hid (Below w.heap.size w W1) := Lib.hid (hb.trans (hb1.mono (by omega)))
  have HZ : Hid (w.heap.size ≤ W1.heap.size) := Lib.hid (by omega)
  clear hk hj hb hit hps hr hb1 hj1 hz1
  show Calls Tryz.prog 62 #[.agg #[.int .i64 va, .int .i64 vb, .int .i64 vc, .string vs, .int .i64 lv, .slice A3 n3 c3], .pointer (some ⟨fb, 0, none⟩)] W _
  go_enter Tryz.func62, Tryz.ntmps62
  go_wp2_with fail
  try rw [← HW1.out]
  refine HCO.out.mono ?_
  rintro e w2 ⟨rfl, hb2⟩
  have HB2 : Hid (Below w.heap.size w w2) := Lib.hid (HB1.out.trans (hb2.mono HZ.out))
  clear hb2
  go_wp2_with fail
  refine bodyPost_ret (results_tmp rfl _ _ _) rfl ⟨rfl, HB2.out⟩
set_option maxHeartbeats 4000000 in
theorem needs_any {w : World} {B n c i : Nat} {j : Int} {A : Option Addr} {l : List Sv} (h : CatAt w B A n c l) (hi : i < n) :
    Calls Tryz.prog 34 #[.agg #[.slice A n c], .int .i64 (i : Int), .int .i64 j] w fun e w' => e = .returned (.bool (asks l i j)) ∧ Below w.heap.size w w' := by
  have HN : Hid (l.length = n) := Lib.hid h.rd.1
  have hn16 := h.n16
  have hle := h.le
  obtain ⟨b1, o1, Aj, nj, cj, rfl, hb1, k0, k1, hcap, hrr⟩ := sv_at h.rd hi
  have hb1w : b1 < w.heap.size := by omega
  have hii : (i : Int) < (n : Int) := by omega
  have hsm := h.sm.2 _ (svAt_mem (i := i) (by rw [HN.out]; exact hi))
  have hnj : nj ≤ 16 := by have := hsm.2.1; have := hrr.1; omega
  obtain ⟨W, HW⟩ : ∃ W, Hid (W = ((w.alloc (.cells #[.slice (some ⟨b1, o1, none⟩) n c] 24)).alloc (.cells #[.int .i64 j] 3)).alloc (.cells #[.func (.func 60) #[] #[.pointer (some ⟨w.heap.size + 1, 0, none⟩)]] 126)) := ⟨_, Lib.hid rfl⟩
  have hbl : Below w.heap.size w W := by rw [HW.out]; exact (((Below.refl _ w).alloc (Nat.le_refl _) _).alloc (by simp) _).alloc (by simp; omega) _
  have hz : W.heap.size = w.heap.size + 3 := by rw [HW.out]; simp
  have h1 : W.heap[w.heap.size + 1]? = some (.cells #[.int .i64 j] 3 (0, 0)) := by
    rw [HW.out, Below.heap_alloc _ _ _ (by simp)]
    have h := heap_new (w.alloc (.cells #[.slice (some ⟨b1, o1, none⟩) n c] 24)) (.cells #[.int .i64 j] 3)
    rw [World.size_alloc] at h; exact h
  have h2 : W.heap[w.heap.size + 1 + 1]? = some (.cells #[.func (.func 60) #[] #[.pointer (some ⟨w.heap.size + 1, 0, none⟩)]] 126 (0, 0)) := by
    rw [HW.out]
    have h := heap_new ((w.alloc (.cells #[.slice (some ⟨b1, o1, none⟩) n c] 24)).alloc (.cells #[.int .i64 j] 3)) (.cells #[.func (.func 60) #[] #[.pointer (some ⟨w.heap.size + 1, 0, none⟩)]] 126)
    rw [World.size_alloc, World.size_alloc] at h; exact h
  have h0 : W.heap[w.heap.size]? = some (.cells #[.slice (some ⟨b1, o1, none⟩) n c] 24 (0, 0)) := by
    rw [HW.out, Below.heap_alloc _ _ _ (by simp; omega), Below.heap_alloc _ _ _ (by simp)]
    exact heap_new w _
  obtain ⟨x0, _⟩ := row1f h0
  have k1W := (hbl.cell (p := ⟨b1, o1 + i * 2 + 1, none⟩) hb1w).trans k1
  have HBL := Lib.hid hbl
  have HCO : Hid (Calls Tryz.prog 61 #[.slice Aj nj cj, .func (.func 62) #[] #[.pointer (some ⟨w.heap.size + 1 + 1, 0, none⟩)]] W fun e w' => e = .returned (.bool (asks l i j)) ∧ Below W.heap.size W w') := Lib.hid (con_rl (B := B) (fun r => r.2.2.any (fun n => decide (n.1 = j))) _ _ (RdJ.below' re_turns hrr hle hbl) (Nat.le_trans hle hbl.size) (by omega) enters_n2 (fun W2 vs x hx hb2 hl2 hit => needs2_any h2 h1 hb2 (Nat.le_trans hle hbl.size) hit (hsm.2.2 _ hx).1))
  clear hbl h hrr hsm h0 h1 h2 k0 k1
  go_enter Tryz.func34, Tryz.ntmps34
  go_upto_region 2 with fail
  change Code.wp _ _ _ _ (((w.alloc (.cells #[.slice (some ⟨b1, o1, none⟩) n c] 24)).alloc (.cells #[.int .i64 j] 3)).alloc (.cells #[.func (.func 60) #[] #[.pointer (some ⟨w.heap.size + 1, 0, none⟩)]] 126))
  rw [← HW.out]
  go_wp2_with fail
  refine HCO.out.mono ?_
  rintro e w2 ⟨rfl, hb2⟩
  have HB2 : Hid (Below w.heap.size w w2) := Lib.hid (HBL.out.trans (hb2.mono (by omega)))
  clear hb2
  go_wp2_with fail
  refine bodyPost_ret (results_tmp rfl _ _ _) rfl ⟨rfl, HB2.out⟩
end Go.Proofs.YtebflhlgcpbikaaGreat
