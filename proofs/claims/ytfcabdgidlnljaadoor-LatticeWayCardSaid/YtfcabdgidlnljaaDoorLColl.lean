/-
  CONTRACT: slices.AppendSeq and slices.Collect over the members of a set.
-/
import Derived.Test.YtfcabdgidlnljaaDoorLMemQ
import Derived.Test.YtfcabdgidlnljaaDoorDQue
import Derived.RangeFuncWrites
import Derived.RangeFuncBox
import Derived.OwnWalkIn
namespace Go.Proofs.YtfcabdgidlnljaaDoor
open Go.RowKit Go.Shelf
open DiP
set_option linter.unusedVariables false
set_option linter.unusedSimpArgs false
set_option maxRecDepth 100000
attribute [local go_sem] Oper.semAt_some
abbrev mints (l : List Nat) : List Value := l.map (fun (v : Nat) => Value.int .i64 (v : Int))
set_option maxHeartbeats 4000000 in
theorem appSeq_any {w : World} {s Bn : Nat} (hs : s < lim) (hb : w.cell? ⟨Bn, 0, none⟩ = some (.int .u64 (s : Int))) (hT : Tz w) (hBw : Bn < w.heap.size) (h0 : 0 < w.heap.size) :
    Calls Tryd.prog 45 #[.slice none 0 0, .func (.func 39) #[] #[.pointer (some ⟨Bn, 0, none⟩)]] w fun e w' => ∃ v, e = .returned v ∧ w'.ownsRow w.heap.size 3 1 v (memL s).length (mints (memL s)) ∧ Below w.heap.size w w' := by
  obtain ⟨p0, hp0⟩ : ∃ p0, w.heap.size = p0 := ⟨_, rfl⟩
  obtain ⟨W0, hW0⟩ : ∃ W0, w.alloc (.cells #[.slice none 0 0] 38) = W0 := ⟨_, rfl⟩
  have hz0 : W0.heap.size = p0 + 1 := by rw [← hW0, World.size_alloc, hp0]
  have hb0 : Below p0 w W0 := by rw [← hW0, ← hp0]; exact (Below.refl _ w).alloc (Nat.le_refl _) _
  have hbx : Go.Boxed W0 p0 38 (.slice none 0 0) := by rw [← hW0, ← hp0]; exact Go.Boxed.new w _ _
  have HS := Lib.hid hs
  have HZ0 := Lib.hid hz0
  have HB0 := Lib.hid hb0
  have HBX := Lib.hid hbx
  have HP0 := Lib.hid hp0
  have HW0 := Lib.hid hW0
  have HC0 : Hid (W0.cell? ⟨Bn, 0, none⟩ = some (.int .u64 (s : Int))) := Lib.hid ((hb0.cell (p := ⟨Bn, 0, none⟩) (by rw [← hp0]; exact hBw)).trans hb)
  have HT0 : Hid (Tz W0) := Lib.hid (hT.below hb0 (by omega))
  have HBN : Hid (Bn < p0) := Lib.hid (by omega)
  have H0 : Hid (0 < p0) := Lib.hid (by omega)
  clear hs hb hT hBw h0 hb0 hbx hW0 hz0
  refine (callsIn_wide (n := 9)).1 ?_
  refine callsIn_of_wp_marks Tryd.func45 rfl trivial ?_ rfl
  simp only [Tryd.ntmps45, List.size_toArray, List.length_cons, List.length_nil, Nat.reduceAdd, Nat.reduceSub, Array.replicate_succ, Array.replicate_zero, List.push_toArray, List.append_toArray, List.nil_append, List.cons_append]
  gi_wp2_with fail
  (try rw [HW0.out]); (try rw [HP0.out])
  refine wpIn_rangeFunc_ownG rfl (by omega) (gf := 39) (lb := #[.pointer (some ⟨Bn, 0, none⟩)]) rfl trivial (enters_of Tryd.func39 (by kernel_rfl) rfl)
    (members_stopsP (P := fun v => bt s v = true) 8 (by omega) Bn p0 s HS.out (fun v _ h => h) W0 H0.out (by rw [HZ0.out]; omega) HC0.out HT0.out (by rw [HZ0.out]; have := HBN.out; omega)) belowK_t (belowK_b (by rw [HZ0.out]; omega)) (Below.refl _ _) (fun _ => rfl)
    (fun pre W => (∃ v, Go.Boxed W p0 38 v ∧ W.ownsRow p0 3 1 v pre.length (mints (ndp pre)) ∧ True) ∧ Below p0 w W)
    (fun _ _ _ => False)
    (OwnFrom.and ((holdsRow_own p0 p0 38 3 1 (fun pre => pre.length) (fun pre => mints (ndp pre)) (fun _ _ => True)).from _) (ownFrom_below (by rw [HP0.out]; exact Nat.le_refl _) (by rw [HZ0.out]; omega)))
    (fun _ _ _ _ _ hs _ _ => hs)
    ⟨⟨_, HBX.out, ⟨rfl, .inl ⟨rfl, rfl⟩⟩, trivial⟩, HB0.out⟩
    (fun x => { tmps := #[.slice none 0 0, .func (.func 39) #[] #[.pointer (some ⟨Bn, 0, none⟩)], .pointer (some ⟨p0, 0, none⟩), undef, .slice none 0 0, .int .i64 (x.1 : Int), .func (.func 39) #[] #[.pointer (some ⟨Bn, 0, none⟩)], .int .i64 (x.1 : Int), undef, undef, undef, undef, undef], defers := [] }) ?assign ?body ?done ?stop
  case assign =>
    intro l x W K hK
    gi_wp2
    exact hK
  case body =>
    rintro l pre x W ⟨⟨v, hB, hrow, _⟩, hbl⟩ hlt
    obtain ⟨i0, hi, hz0, hz1, hz2⟩ := info_parts infoInt
    obtain ⟨A, c, hv, _⟩ : ∃ A c, v = .slice A pre.length c ∧ True := by
      rcases hrow.2 with ⟨h1, h2⟩ | ⟨g, cap, cur, h1, _⟩
      · exact ⟨none, 0, by rw [h1, h2], trivial⟩
      · exact ⟨_, _, h1, trivial⟩
    subst hv
    have hc1 := hB.cell
    have hpw : p0 ≤ W.heap.size := by have := hB.lt; omega
    have hlp : pre.length < 64 := hlt
    have HB := Lib.hid hB
    have HROW := Lib.hid hrow
    have HBL := Lib.hid hbl
    have HPW := Lib.hid hpw
    have HLP := Lib.hid hlp
    have hxl : ∀ (j : Nat) (u : Value), [Value.int IntKind.i64 (x.1 : Int)][j]? = some u → (W.alloc (.cells #[.int .i64 (x.1 : Int)] 3)).cell? (Addr.add ⟨W.heap.size, 0, none⟩ j) = some u := by
      intro j z hj
      match j, hj with
      | 0, hj => simp at hj; subst hj; simp [Addr.add]
    clear hB hrow hbl hpw hlp hlt
    gi_wp2_with (gi_at_builtin; refine wpListIn_append_own _ rfl _ _ 38 rfl p0 3 i0 (.int .i64 0) 1 8 Tryd.underlying38 hi hz0 hz1 hz2 rfl (by decide) _ _ _ rfl (HROW.out.alloc _) ⟨W.heap.size, 0, none⟩ 1 1 [.int .i64 (x.1 : Int)] rfl rfl hxl (by simp [Value.oneCell']) (by have := HLP.out; unfold maxLen; omega) (by have := HLP.out; omega) (by have := HPW.out; simp; omega) ?_; intro v' w3 hown' hg3 hnil3; obtain ⟨g', cap', rfl⟩ := ownsRow_succ hown'; obtain ⟨k1, k2, k3, k4, k5⟩ := Go.Boxed.appended HB.out (by decide) HROW.out HPW.out (Nat.le_refl _) hown' hg3; have hc3 := k1.cell; have hf3 := k1.frozen; clear hc1)
    refine ⟨k4.from _, k5, ⟨_, k2, ?_⟩, HBL.out.trans k5⟩
    have e1 : (pre ++ [x]).unattach = pre.unattach ++ [x.1] := ndp_snoc pre x
    have e2 : mints (pre ++ [x]).unattach = mints pre.unattach ++ [Value.int .i64 (x.1 : Int)] := by rw [e1]; simp [mints]
    rw [e2, List.length_append]
    exact k3
  case done =>
    rintro D' xs W hDD hS ⟨⟨v, hB, hrow, _⟩, hbl⟩ hK
    have hSl : xs.length = (memL s).length := by have := congrArg List.length hS; simpa [ndp] using this
    rw [hS, hSl] at hrow
    obtain ⟨A, c, hv, _⟩ : ∃ A c, v = .slice A (memL s).length c ∧ True := by
      rcases hrow.2 with ⟨h1, h2⟩ | ⟨g, cap, cur, h1, _⟩
      · exact ⟨none, 0, by rw [h1, h2], trivial⟩
      · exact ⟨_, _, h1, trivial⟩
    subst hv
    have hc1 := hB.cell
    have HK := Lib.hid hK
    have HROW := Lib.hid hrow
    have HBL := Lib.hid hbl
    have HDD : Hid (p0 + 1 ≤ D') := Lib.hid (by rw [← HZ0.out]; exact hDD)
    clear hB hrow hbl hK hDD hS hSl
    gi_wp2
    refine ⟨by simp, .inl ⟨_, _, rfl, run_takeDeferred HK.out, ?_⟩⟩
    refine ⟨_, results_tmp rfl _ _ _, _, rfl, ?_, ?_⟩
    · rw [HP0.out]; exact ownsRow_putObj HROW.out _ HK.out rfl
    · rw [HP0.out]; exact HBL.out.trans (belowK_b (w := W0) (by rw [HZ0.out]; omega) W D' _ _ (by rw [HZ0.out]; exact HDD.out) HK.out rfl rfl)
  case stop =>
    rintro D' cx pre W _ _ h _
    exact h.elim
set_option maxHeartbeats 1000000 in
theorem collect_any {w : World} {s Bn : Nat} (hs : s < lim) (hb : w.cell? ⟨Bn, 0, none⟩ = some (.int .u64 (s : Int))) (hT : Tz w) (hBw : Bn < w.heap.size) (h0 : 0 < w.heap.size) :
    Calls Tryd.prog 31 #[.func (.func 39) #[] #[.pointer (some ⟨Bn, 0, none⟩)]] w fun e w' => ∃ v, e = .returned v ∧ w'.ownsRow w.heap.size 3 1 v (memL s).length (mints (memL s)) ∧ Below w.heap.size w w' := by
  have HA := Lib.hid (appSeq_any hs hb hT hBw h0)
  clear hs hb hT hBw h0
  go_enter Tryd.func31, Tryd.ntmps31
  go_wp2_with fail
  refine HA.out.mono ?_
  rintro e w2 ⟨v, rfl, hrow, hb⟩
  have HR := Lib.hid hrow
  have HB := Lib.hid hb
  clear hrow hb
  go_wp2
  go_ret
  exact ⟨v, rfl, HR.out, HB.out⟩
end Go.Proofs.YtfcabdgidlnljaaDoor
