/-
  CONTRACTS of package dock, over this translation: Arm, Cut, Remove; Append of a dock that is down.
-/
import Derived.Test.YtfpcfbolpnfacaaKRead
namespace Go.Proofs.Ytfpcfbolpnfacaa
open Go.RowKit
open ByteP
set_option linter.unusedVariables false
set_option maxRecDepth 10000

/-- 'delete(m, k)'. -/
theorem wplK_del {w : World} {ops : Array Oper} {rest : List Oper} {o : Oper} {a : Act} {Q : Exit → Act → World → Prop} (hgd : o.guard = none) (m x : Operand) (ho : o.op = Op.call { callee := Callee.builtin Builtin.delete, args := #[m, x], argTypes := #[44, 3] })
    {db mb K : Nat} {n : Nm} {F : Int → Option Fi} {k : Int} (hk : Dk w db mb K n F) (hm : a.eval m = .map (some mb)) (hx : a.eval x = .int .i64 k) (h0 : -9223372036854775808 ≤ k) (h1 : k ≤ 9223372036854775807)
    (h : ∀ w', Dk w' db mb K n (delF F k) → Fr w w' (Mine db mb F) → wpList Try.prog ops Q rest (a.put o.dst (.tuple #[])) w') :
    wpList Try.prog ops Q (o :: rest) a w := by
  obtain ⟨D, hown, hD⟩ := hk.map
  refine wpList_delete_own w hgd m x 44 3 ho 57 keyedInt Try.underlying44 held mb K D hm hown (.int .i64 k) (kI k) hx (keyI h0 h1) ?_
  intro w' hown' hg
  have hlt := hk.lt
  have hdlt : db < w.heap.size := heapK_lt hk.cells
  obtain ⟨es, clock, es', clock', hb0, rfl⟩ := hg
  have hb : ∀ g, g < w.heap.size → g ≠ mb → (ChangeMaps.setBlock w mb (.map es' clock')).heap[g]? = w.heap[g]? := fun g hg1 hg2 => by
    show (w.heap.setIfInBounds mb (.map es' clock'))[g]? = _
    rw [Array.getElem?_setIfInBounds_ne (fun e => hg2 e.symm)]
  have hdel : ∀ k' f, delF F k k' = some f → F k' = some f := fun k' f hf => by
    unfold delF at hf
    by_cases e : k' = k
    · rw [if_pos e] at hf; cases hf
    · rw [if_neg e] at hf; exact hf
  refine h _ ⟨hlt, ?_, ⟨_, hown', hD.del k⟩, ?_, ?_, ?_⟩ ?_
  · rw [hb db hdlt (by omega)]; exact hk.cells
  · intro k' f' hf'
    have hf := hdel k' f' hf'
    exact own_heap (hk.own k' f' hf) (fun g hg1 hg2 => hb g hg2 (by have := hk.rowGe hf g hg1; omega))
  · exact fun k' f' hf' => hk.good k' f' (hdel k' f' hf')
  · exact fun k1 k2 f1 f2 hne h1' h2' => hk.apart k1 k2 f1 f2 hne (hdel k1 f1 h1') (hdel k2 f2 h2')
  · exact ⟨rfl, rfl, rfl, by show w.heap.size ≤ (w.heap.setIfInBounds mb (.map es' clock')).size; simp, fun b hb1 hb2 => hb b hb1 (fun e => hb2 (.inr (.inl e)))⟩
section
variable {w : World} {db mb K : Nat} {n : Nm} {F : Int → Option Fi}
theorem arm_any (h : Dk w db mb K n F) (x : Int) : Calls Try.prog 17 #[.pointer (some ⟨db, 0, none⟩), .int .i64 x] w fun e w' => e = .returned (.tuple #[]) ∧ Dk w' db mb K { n with left := max x (-1) } F ∧ Fr w w' (Mine db mb F) := by
  have H := Lib.hid h
  have c3 := h.c3
  have f3 := h.fz 3
  clear h
  go_enter Try.func17, Try.ntmps17
  go_wp2
  all_goals (go_end0; refine ⟨rfl, ?_, Fr.setCell _ _ (.inl rfl) _⟩; first | (rw [show max x (-1) = -1 by omega]; exact H.out.setLeft _) | (rw [show max x (-1) = x by omega]; exact H.out.setLeft _))
theorem append_down (h : Dk w db mb K n F) (hd : n.down = true) (k : Int) (D : Option Addr) (m d : Nat) : Calls Try.prog 8 #[.pointer (some ⟨db, 0, none⟩), .int .i64 k, .slice D m d] w fun e w' => e = .returned (.int .i64 51) ∧ w' = w := by
  have c4 := h.c4
  rw [hd] at c4
  clear h
  go_enter Try.func8, Try.ntmps8
  go_wp2
  go_ret
  exact ⟨rfl, rfl⟩

/-- Cut. -/
theorem cut_big (h : Dk w db mb K n F) (hd : n.down = false) {k : Int} {f : Fi} (hf : F k = some f) {p : Int} (hp : p < 0 ∨ (f.n : Int) < p) :
    Calls Try.prog 19 #[.pointer (some ⟨db, 0, none⟩), .int .i64 k, .int .i64 p] w fun e w' => e = .returned (.int .i64 11) ∧ Below w.heap.size w w' := by
  have H := Lib.hid h
  have HD := Lib.hid hd
  have HF := Lib.hid hf
  have HG := Lib.hid (h.good k f hf)
  clear h hd hf
  go_enter Try.func19, Try.ntmps19
  go_wp2_with fail
  refine (find_some H.out HD.out (by have := HG.out; omega) (by have := HG.out; omega) HF.out).mono ?_
  rintro e w1 ⟨rfl, hb⟩
  have HB := Lib.hid hb
  have hsz := hb.size
  clear hb
  by_cases hp0 : p < 0
  · have d1 : decide (p < 0) = true := by simp; omega
    go_wp2
    go_ret
    exact ⟨rfl, HB.out.trans ((Below.refl _ _).alloc hsz _)⟩
  · have d1 : decide (p < 0) = false := by simp; omega
    have d2 : decide ((f.n : Int) < p) = true := by simp; omega
    go_wp2
    go_ret
    exact ⟨rfl, HB.out.trans ((Below.refl _ _).alloc hsz _)⟩
set_option maxHeartbeats 1000000 in
theorem cut_ok (h : Dk w db mb K n F) (hK : K ≤ 1000000000) (hd : n.down = false) (hl0 : -1 ≤ n.left) (hl1 : n.left ≤ 9223372036854775807) (hl : n.left ≠ 0) (hs0 : -4611686018427387904 ≤ n.size) (hs1 : n.size ≤ 4611686018427387904) {k : Int} {f : Fi} (hf : F k = some f) {p : Nat} (hp : p ≤ f.n) :
    Calls Try.prog 19 #[.pointer (some ⟨db, 0, none⟩), .int .i64 k, .int .i64 (p : Int)] w fun e w' => e = .returned (.int .i64 0) ∧ Dk w' db mb (K + 1) { gd n with size := n.size - ((f.n : Int) - p) } (putF F k (cutTo f p (min f.s p))) ∧ Fr w w' (Mine db mb F) := by
  have H := Lib.hid h
  have HD := Lib.hid hd
  have HF := Lib.hid hf
  have HG := Lib.hid (h.good k f hf)
  have HLD : Hid (decide (n.left = 0) = false) := Lib.hid (decide_eq_false hl)
  have HS := Lib.hid (gd_size n)
  clear h hd hf
  go_enter Try.func19, Try.ntmps19
  go_wp2_with fail
  refine (find_some H.out HD.out (by have := HG.out; omega) (by have := HG.out; omega) HF.out).mono ?_
  rintro e w1 ⟨rfl, hb⟩
  have HB := Lib.hid hb
  have H1 := Lib.hid (H.out.below hb)
  have hsz := hb.size
  clear hb
  have d1 : decide ((p : Int) < 0) = false := by simp
  have d2 : decide ((f.n : Int) < (p : Int)) = false := by simp; omega
  go_wp2_with fail
  refine (goesDown_any (H1.out.alloc _) hl0 hl1).mono ?_
  rintro e w2 ⟨rfl, hk, hfr⟩
  rw [HLD.out]
  have HK := Lib.hid hk
  have HFR := Lib.hid hfr
  have hbx := hfr.box H1.out
  have x1 := cellK_of_heap hbx (i := 1) (x := .int .i64 (f.s : Int)) rfl
  clear hk hfr hbx
  by_cases hc : f.s ≤ p
  · have d3 : decide ((f.s : Int) ≤ (p : Int)) = true := by simp; omega
    have d4 : decide ((p : Int) < (f.s : Int)) = false := by simp; omega
    go_wp2_with fail
    refine (keep_any (s := f.s) HK.out (by omega) (by rw [HS.out.1]; omega) (by rw [HS.out.1]; omega) HF.out hp hc).mono ?_
    rintro e w3 ⟨rfl, hk3, hfr3⟩
    rw [HS.out.1] at hk3
    have HK3 := Lib.hid hk3
    have HFR3 : Hid (Fr w w3 (Mine db mb F)) := Lib.hid ((Fr.of_below_then HB.out (Fr.of_below_then ((Below.refl _ _).alloc (Nat.le_refl _) _) HFR.out)).trans hfr3 (fun b hb => .inl hb))
    clear hk3 hfr3
    go_wp2
    go_ret
    exact ⟨rfl, by rw [show min f.s p = f.s by omega]; exact HK3.out, HFR3.out⟩
  · have d3 : decide ((f.s : Int) ≤ (p : Int)) = false := by simp; omega
    have d4 : decide ((p : Int) < (f.s : Int)) = true := by simp; omega
    go_wp2_with fail
    refine (keep_any (s := p) HK.out (by omega) (by rw [HS.out.1]; omega) (by rw [HS.out.1]; omega) HF.out hp (Nat.le_refl _)).mono ?_
    rintro e w3 ⟨rfl, hk3, hfr3⟩
    rw [HS.out.1] at hk3
    have HK3 := Lib.hid hk3
    have HFR3 : Hid (Fr w w3 (Mine db mb F)) := Lib.hid ((Fr.of_below_then HB.out (Fr.of_below_then ((Below.refl _ _).alloc (Nat.le_refl _) _) HFR.out)).trans hfr3 (fun b hb => .inl hb))
    clear hk3 hfr3
    go_wp2
    go_ret
    exact ⟨rfl, by rw [show min f.s p = p by omega]; exact HK3.out, HFR3.out⟩

/- Remove. -/
set_option maxHeartbeats 1000000 in
theorem remove_ok (h : Dk w db mb K n F) (hd : n.down = false) (hl0 : -1 ≤ n.left) (hl1 : n.left ≤ 9223372036854775807) (hl : n.left ≠ 0) (hs0 : -4611686018427387904 ≤ n.size) (hs1 : n.size ≤ 4611686018427387904) {k : Int} {f : Fi} (hf : F k = some f) :
    Calls Try.prog 15 #[.pointer (some ⟨db, 0, none⟩), .int .i64 k] w fun e w' => e = .returned (.int .i64 0) ∧ Dk w' db mb K { gd n with size := n.size - (f.n : Int) } (delF F k) ∧ Fr w w' (Mine db mb F) := by
  have H := Lib.hid h
  have HD := Lib.hid hd
  have HF := Lib.hid hf
  have HG := Lib.hid (h.good k f hf)
  have HLD : Hid (decide (n.left = 0) = false) := Lib.hid (decide_eq_false hl)
  have HS := Lib.hid (gd_size n)
  clear h hd hf
  go_enter Try.func15, Try.ntmps15
  go_wp2_with fail
  refine (find_some H.out HD.out (by have := HG.out; omega) (by have := HG.out; omega) HF.out).mono ?_
  rintro e w1 ⟨rfl, hb⟩
  have HB := Lib.hid hb
  have H1 := Lib.hid (H.out.below hb)
  have hsz := hb.size
  clear hb
  go_wp2_with fail
  refine (goesDown_any (H1.out.alloc _) hl0 hl1).mono ?_
  rintro e w2 ⟨rfl, hk, hfr⟩
  rw [HLD.out]
  have HK := Lib.hid hk
  have HFR := Lib.hid hfr
  have hbx := hfr.box H1.out
  have x0 := cellK_of_heap hbx (i := 0) (x := .slice f.A f.n f.c) rfl
  have c1 := hk.c1
  have z1 := hk.fz 1
  rw [HS.out.1] at c1
  have hsub : IntKind.i64.wrap (n.size - (f.n : Int)) = n.size - (f.n : Int) := IntWalk.i64_in _ (by have := HG.out; omega)
  clear hk hfr hbx
  go_wp2_with fail
  go_still_tail 10, (by kernel_rfl)
  obtain ⟨w3, HW3⟩ : ∃ w3, Hid (w3 = w2.drewN 1) := ⟨_, Lib.hid rfl⟩
  have e3 : ({ heap := w2.heap, tape := w2.tape, drawn := w2.drawn + 1, os := w2.os, output := w2.output } : World) = w3 := HW3.out.symm
  have H3 : Hid (Dk w3 db mb K (gd n) F) := Lib.hid (by rw [HW3.out]; exact HK.out.drewN 1)
  have HFR3 : Hid (Fr w w3 (Mine db mb F)) := Lib.hid (by
    rw [HW3.out]
    exact ((Fr.of_below_then HB.out (Fr.of_below_then ((Below.refl _ _).alloc (Nat.le_refl _) _) HFR.out))).trans (Fr.drewN w2 _ 1) (fun b hb => .inl hb))
  rw [e3]
  have d1 := H3.out.c1
  have y1 := H3.out.fz 1
  have H4 : Hid (Dk (w3.setCell ⟨db, 1, none⟩ (.int .i64 (n.size - (f.n : Int)))) db mb K { gd n with size := n.size - (f.n : Int) } F) := Lib.hid (H3.out.setSize _)
  have d2 := H4.out.c2
  clear e3 HW3 x0 c1 z1 hsub
  go_wp2_with (first | (at_delete; refine wplK_del rfl (.tmp 31) (.tmp 32) rfl H4.out rfl rfl (by have := HG.out; omega) (by have := HG.out; omega) ?_; intro w5 hk5 hfr5))
  have HK5 := Lib.hid hk5
  have HFR5 : Hid (Fr w w5 (Mine db mb F)) := Lib.hid ((HFR3.out.trans (M' := Mine db mb F) (Fr.setCell w3 _ (.inl rfl) _) (fun b hb => .inl hb)).trans hfr5 (fun b hb => .inl hb))
  clear hk5 hfr5 d1 y1 d2
  go_wp2
  go_ret
  exact ⟨rfl, HK5.out, HFR5.out⟩
end
end Go.Proofs.Ytfpcfbolpnfacaa
