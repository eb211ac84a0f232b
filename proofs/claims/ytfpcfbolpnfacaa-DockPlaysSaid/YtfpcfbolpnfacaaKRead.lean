/-
  CONTRACTS of package dock, over this translation: Read, keep.
-/
import Derived.Test.YtfpcfbolpnfacaaKApp
namespace Go.Proofs.Ytfpcfbolpnfacaa
open Go.RowKit
open ByteP
set_option linter.unusedVariables false
set_option maxRecDepth 10000

theorem OwnY.empty (w : World) (base : Nat) (hb : base ≤ w.heap.size) : OwnY (w.alloc (.cells #[] 5)) base (.slice (some ⟨w.heap.size, 0, none⟩) 0 0) 0 [] := OwnY.lit w base [] hb (by simp)
theorem OwnY.take {w : World} {base n c : Nat} {A : Option Addr} {xs : List Int} (h : OwnY w base (.slice A n c) n xs) {k : Nat} (hk : k ≤ n) : OwnY w base (.slice A k c) k (xs.take k) := by
  have hl := h.len
  refine ⟨by simp; omega, ?_⟩
  rcases h.2 with ⟨hv, h0⟩ | ⟨g, cap, cur, hv, hb, hg, hnc, hcm, hcs, ht⟩
  · injection hv with h1 h2 h3
    subst h1 h3
    exact .inl ⟨by rw [show k = 0 by omega], by omega⟩
  · injection hv with h1 h2 h3
    subst h1 h3
    refine .inr ⟨g, c, cur, rfl, hb, hg, by omega, hcm, hcs, ?_⟩
    rw [Nat.mul_one] at ht
    rw [Nat.mul_one, List.map_take, ← ht, List.take_take, Nat.min_eq_left hk]
theorem bytes_take {xs : List Int} (h : Bytes xs) (k : Nat) : Bytes (xs.take k) := fun i => by
  by_cases hi : i < k
  · have e : ix (xs.take k) i = ix xs i := by unfold ix; simp [List.getD, hi]
    rw [e]; exact h i
  · have e : ix (xs.take k) i = 0 := by unfold ix; rw [List.getD_eq_getElem?_getD, List.getElem?_eq_none (by simp; omega)]; rfl
    rw [e]; omega

theorem clone_any {w : World} {B n c : Nat} {A : Option Addr} {xs : List Int} (hx : RdY w B A n xs) (hB : B ≤ w.heap.size) (hn : n ≤ 1099511627776) :
    Calls Try.prog 29 #[.slice A n c] w fun e w' => ∃ A' c', e = .returned (.slice A' n c') ∧ OwnY w' w.heap.size (.slice A' n c') n xs ∧ Below w.heap.size w w' := by
  have HX := Lib.hid hx
  clear hx
  cases A with
  | none =>
    have h0 : n = 0 := by
      rcases Nat.eq_zero_or_pos n with h | h
      · exact h
      · obtain ⟨b, off, e, _⟩ := HX.out.2 h; cases e
    subst h0
    have hxs : xs = [] := List.eq_nil_of_length_eq_zero HX.out.1
    subst hxs
    have he := fun w => Lib.run_eql_slice_nil (P := Try.prog) w 30 5 none 0 c 0 0 Try.underlying30
    go_enter Try.func29, Try.ntmps29
    go_wp2
    go_ret
    exact ⟨none, 0, rfl, OwnY.nil_ _ _, Below.refl _ _⟩
  | some ad =>
    have he := fun w => Lib.run_eql_slice_nil (P := Try.prog) w 30 5 (some ad) n c 0 0 Try.underlying30
    go_enter Try.func29, Try.ntmps29
    go_wp2_with (at_builtin; refine wplY_apps2 rfl (.tmp 5) (.tmp 6) rfl w.heap.size _ 0 [] rfl (OwnY.empty w _ (Nat.le_refl _)) B (some ad) n c xs rfl (HX.out.alloc hB _) (by omega) (by simp) ?_; intro A' c' w4 hown4 hgr4 hat4)
    have HO : Hid (OwnY w4 w.heap.size (.slice A' (0 + n) c') (0 + n) xs) := Lib.hid (by simpa using hown4)
    have HBL : Hid (Below w.heap.size w w4) := Lib.hid (((Below.refl _ _).alloc (Nat.le_refl _) _).grown hgr4 (by simp) (fun z hz => by have hz' : some w.heap.size = some z := hz; injection hz' with hz'; omega))
    rw [Nat.zero_add] at *
    clear hown4 hgr4 hat4
    go_wp2
    go_ret
    exact ⟨A', c', rfl, HO.out, HBL.out⟩

section
variable {w : World} {db mb K : Nat} {n : Nm} {F : Int → Option Fi}
theorem read_some (h : Dk w db mb K n F) (hd : n.down = false) {k : Int} {f : Fi} (hf : F k = some f) :
    Calls Try.prog 11 #[.pointer (some ⟨db, 0, none⟩), .int .i64 k] w fun e w' => ∃ A' c', e = .returned (.tuple #[.slice A' f.n c', .int .i64 0]) ∧ OwnY w' w.heap.size (.slice A' f.n c') f.n f.bs ∧ Below w.heap.size w w' := by
  have H := Lib.hid h
  have HD := Lib.hid hd
  have HF := Lib.hid hf
  have HG := Lib.hid (h.good k f hf)
  clear h hd hf
  go_enter Try.func11, Try.ntmps11
  go_wp2_with fail
  refine (find_some H.out HD.out (by have := HG.out; omega) (by have := HG.out; omega) HF.out).mono ?_
  rintro e w1 ⟨rfl, hb⟩
  have HB := Lib.hid hb
  have H1 := Lib.hid (H.out.below hb)
  have hsz := hb.size
  clear hb
  go_wp2_with fail
  have HRD : Hid (RdY (w1.alloc (.cells #[.slice f.A f.n f.c, .int .i64 (f.s : Int)] 57)) w1.heap.size f.A f.n f.bs) := Lib.hid (by
    obtain ⟨A9, c9, hv, hr⟩ := (H1.out.own k f HF.out).shape
    injection hv with e1 e2 e3
    subst e1
    exact hr.alloc (Nat.le_refl _) _)
  refine (clone_any HRD.out (by simp) (by have := HG.out; omega)).mono ?_
  rintro e w2 ⟨A', c', rfl, hown, hb⟩
  have HO := Lib.hid (OwnY.less hown (show w.heap.size ≤ _ by simp; omega))
  have HB2 : Hid (Below w.heap.size w w2) := Lib.hid (HB.out.trans (((Below.refl _ _).alloc hsz _).trans (hb.mono (by simp; omega))))
  clear hown hb
  go_wp2
  go_ret2
  exact ⟨A', c', rfl, HO.out, HB2.out⟩

/-- A file of which the first bytes are left, so many of them safe. -/
def cutTo (f : Fi) (k s : Nat) : Fi := ⟨f.A, k, f.c, f.bs.take k, s⟩
set_option maxHeartbeats 1000000 in
theorem keep_any (h : Dk w db mb K n F) (hK : K ≤ 1000000000) (hs0 : -4611686018427387904 ≤ n.size) (hs1 : n.size ≤ 4611686018427387904) {k : Int} {f : Fi} (hf : F k = some f) {p s : Nat} (hp : p ≤ f.n) (hs : s ≤ p) :
    Calls Try.prog 28 #[.pointer (some ⟨db, 0, none⟩), .int .i64 k, .int .i64 (p : Int), .int .i64 (s : Int)] w fun e w' => e = .returned (.tuple #[]) ∧ Dk w' db mb (K + 1) { n with size := n.size - ((f.n : Int) - p) } (putF F k (cutTo f p s)) ∧ Fr w w' (Mine db mb F) := by
  have H := Lib.hid h
  have HF := Lib.hid hf
  have HG := Lib.hid (h.good k f hf)
  have HAP := Lib.hid h.apart
  have hn1 : f.n ≤ 16777216 := HG.out.2.2.2.2
  have hA : (f.A = none ∧ f.n = 0 ∧ f.c = 0) ∨ ∃ g, f.A = some ⟨g, 0, none⟩ ∧ f.n ≤ f.c ∧ f.c ≤ maxLen := by
    rcases (h.own k f hf).2 with ⟨hv, h0⟩ | ⟨g, cap, cur, hv, hb, hg, hnc, hcm, hcs, ht⟩
    · injection hv with h1 h2 h3
      exact .inl ⟨h1, h0, h3⟩
    · injection hv with h1 h2 h3
      exact .inr ⟨g, h1, by rw [h3]; exact hnc, by rw [h3]; exact hcm⟩
  have c2 := h.c2
  have hlk := (h.look (k := k) (by have := HG.out; omega) (by have := HG.out; omega) hf).2
  have HOW := Lib.hid (h.own k f hf)
  obtain ⟨A, fn, fc, bs, fs⟩ := f
  simp only at hA hlk hn1 hp
  have hpc : (p : Int) ≤ (fc : Int) := by
    rcases hA with ⟨_, h1, h2⟩ | ⟨_, _, h1, _⟩
    · omega
    · omega
  have hfc : fc ≤ 9223372036854775807 := by
    rcases hA with ⟨_, h1, h2⟩ | ⟨_, _, h1, h2⟩
    · omega
    · unfold maxLen at h2; omega
  have hA2 : A = none ∨ ∃ g, A = some ⟨g, 0, none⟩ := by
    rcases hA with ⟨h1, _⟩ | ⟨g, h1, _⟩
    · exact .inl h1
    · exact .inr ⟨g, h1⟩
  have hsl : ∀ w, (Instr.slice 30 (.slice A fn fc) none (some (.int .i64 (p : Int))) none).run Try.prog w = .ok (.slice A p fc) w := fun w => by
    have hr := run_slice_h (P := Try.prog) w 30 A fn fc Try.underlying30 .i64 (p : Int) (by omega) hpc
    rw [hr]
    rcases hA2 with rfl | ⟨g, rfl⟩
    · simp [sizeOf, sliced, go_sem]
    · simp [sizeOf, sliced, go_sem]
  clear h hf hA
  have hsub1 : IntKind.i64.wrap ((fn : Int) - (p : Int)) = (fn : Int) - (p : Int) := IntWalk.i64_in _ (by omega)
  have hsub2 : IntKind.i64.wrap (n.size - ((fn : Int) - (p : Int))) = n.size - ((fn : Int) - (p : Int)) := IntWalk.i64_in _ (by omega)
  go_enter Try.func28, Try.ntmps28
  go_wp2_with fail
  have hkd := H.out.alloc (.cells #[.slice A fn fc, .int .i64 (fs : Int)] 57)
  have HKD := Lib.hid hkd
  have b1 := hkd.c1
  have bz := hkd.fz 1
  have hbx := heap_alloc_new w (.cells #[.slice A fn fc, .int .i64 (fs : Int)] 57)
  have x0 := cellK_of_heap hbx (i := 0) (x := .slice A fn fc) rfl
  have HBX := Lib.hid hbx
  clear hkd hbx c2 hlk
  obtain ⟨w1, HW1⟩ : ∃ w1, Hid (w1 = w.alloc (.cells #[.slice A fn fc, .int .i64 (fs : Int)] 57)) := ⟨_, Lib.hid rfl⟩
  rw [← HW1.out] at b1 bz x0 ⊢
  go_still_tail 12, (by kernel_rfl)
  obtain ⟨w2, HW2⟩ : ∃ w2, Hid (w2 = w1.drewN 1) := ⟨_, Lib.hid rfl⟩
  have e2 : ({ heap := w1.heap, tape := w1.tape, drawn := w1.drawn + 1, os := w1.os, output := w1.output } : World) = w2 := HW2.out.symm
  have H2 : Hid (Dk w2 db mb K n F) := Lib.hid (by rw [HW2.out, HW1.out]; exact HKD.out.drewN 1)
  have HBX2 : Hid (w2.heap[w.heap.size]? = some (.cells #[.slice A fn fc, .int .i64 (fs : Int)] 57 (0, 0))) := Lib.hid (by rw [HW2.out, HW1.out]; exact HBX.out)
  have HFR2 : Hid (Fr w w2 (Mine db mb F)) := Lib.hid (by
    rw [HW2.out, HW1.out]
    exact Fr.of_below_then ((Below.refl _ _).alloc (Nat.le_refl _) _) (Fr.drewN _ _ 1))
  rw [e2]
  have b12 := H2.out.c1
  have bz2 := H2.out.fz 1
  clear e2 b1 bz x0 HKD HBX
  go_wp2_with fail
  obtain ⟨w3, HW3⟩ : ∃ w3, Hid (w3 = w2.setCell ⟨db, 1, none⟩ (.int .i64 (n.size - ((fn : Int) - (p : Int))))) := ⟨_, Lib.hid rfl⟩
  have H3 : Hid (Dk w3 db mb K { n with size := n.size - ((fn : Int) - (p : Int)) } F) := Lib.hid (by rw [HW3.out]; exact H2.out.setSize _)
  have HBX3 : Hid (w3.heap[w.heap.size]? = some (.cells #[.slice A fn fc, .int .i64 (fs : Int)] 57 (0, 0))) := Lib.hid (by
    rw [HW3.out, heap_setCell_other w2 _ w.heap.size _ (fun e => by have := H.out.dlt; simp at e; omega)]
    exact HBX2.out)
  have HFR3 : Hid (Fr w w3 (Mine db mb F)) := Lib.hid (by
    rw [HW3.out]
    exact HFR2.out.trans (Fr.setCell w2 (Mine db mb F) (.inl rfl) _) (fun b hb => .inl hb))
  have x3 := cellK_of_heap HBX3.out (i := 0) (x := .slice A fn fc) rfl
  have c3 := H3.out.c2
  rw [← HW3.out]
  clear b12 bz2 HW3 HBX2 HFR2 H2
  go_still_tail 11, (by kernel_rfl)
  obtain ⟨w4, HW4⟩ : ∃ w4, Hid (w4 = w3.drewN 1) := ⟨_, Lib.hid rfl⟩
  have e4 : ({ heap := w3.heap, tape := w3.tape, drawn := w3.drawn + 1, os := w3.os, output := w3.output } : World) = w4 := HW4.out.symm
  have H4 : Hid (Dk w4 db mb K { n with size := n.size - ((fn : Int) - (p : Int)) } F) := Lib.hid (by rw [HW4.out]; exact H3.out.drewN 1)
  have HFR4 : Hid (Fr w w4 (Mine db mb F)) := Lib.hid (by rw [HW4.out]; exact HFR3.out.trans (Fr.drewN w3 _ 1) (fun b hb => .inl hb))
  rw [e4]
  clear e4 HW4 x3 c3 hsl hsub1 hsub2
  refine wplK_put rfl (.tmp 30) (.tmp 31) (.tmp 37) rfl (H4.out.x k) (by omega) rfl rfl HG.out.1 HG.out.2.1 (cutTo ⟨A, fn, fc, bs, fs⟩ p s) rfl (OwnY.take (H4.out.own k _ HF.out) hp) ⟨hs, bytes_take HG.out.2.2.2.1 p, by show p ≤ 16777216; omega⟩ (fun k' f' hne hf' g hg => HAP.out k k' _ f' (fun e => hne e.symm) HF.out hf' g (show (Value.slice A fn fc).ownBlock = some g by cases A with | none => cases hg | some x => exact hg)) ?_
  intro w5 hk5 hfr5
  have HK5 := Lib.hid hk5
  have HFR5 : Hid (Fr w w5 (Mine db mb F)) := Lib.hid (HFR4.out.trans hfr5 (fun b hb => .inl hb))
  clear hk5 hfr5
  go_wp2
  first
    | (go_end0; exact ⟨rfl, HK5.out, HFR5.out⟩)
    | (trace_state; done)
end
end Go.Proofs.Ytfpcfbolpnfacaa
