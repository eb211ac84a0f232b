/-
  CONTRACT: checkService.
-/
import Derived.Test.YtebflhlgcpbikaaGreatCSv
import Derived.Shelf.Abstract
namespace Go.Proofs.YtebflhlgcpbikaaGreat
open Go.RowKit
open SemP
set_option linter.unusedVariables false
set_option linter.unusedSimpArgs false
set_option maxRecDepth 10000
theorem enters_sameName : ∀ args w, (callFunc 49 args).run Tryz.prog w = .ok (.enter 49 args) w := enters_of Tryz.func49 (by kernel_rfl) rfl
set_option maxHeartbeats 4000000 in
theorem checkService_any {w : World} {B n c i : Nat} {A : Option Addr} {l : List Sv} (h : CatAt w B A n c l) (hi : i < n) :
    Calls Tryz.prog 29 #[.agg #[.slice A n c], .int .i64 (i : Int)] w fun e w' => e = .returned (.int .i64 (svcE l i)) ∧ Below w.heap.size w w' := by
  have HN : Hid (l.length = n) := Lib.hid h.rd.1
  have hn16 := h.n16
  obtain ⟨b1, o1, Aj, nj, cj, rfl, hb1, k0, k1, hcap, hrr⟩ := sv_at h.rd hi
  have hb1w : b1 < w.heap.size := by have := h.le; omega
  have hsm := h.sm.2 _ (svAt_mem (i := i) (by rw [HN.out]; exact hi))
  have HNJ : Hid ((svAt l i).2.length = nj) := Lib.hid hrr.1
  have hnj : nj ≤ 16 := by have := hsm.2.1; have := HNJ.out; omega
  have HSZ : Hid ((svAt l i).1.size ≤ 100) := Lib.hid hsm.1
  obtain ⟨nm, HNM⟩ : ∃ nm, Hid ((svAt l i).1 = nm) := ⟨_, Lib.hid rfl⟩
  rw [HNM.out] at k0 HSZ
  have HV : Hid (svcE l i = if nameB (bs nm) = false then 30 else if (l.take i).any (fun o => decide (o.1 = nm)) then 31 else if nj < 1 ∨ 12 < nj then 36 else 0) := Lib.hid (by unfold svcE; rw [HNM.out, HNJ.out])
  obtain ⟨W, HW⟩ : ∃ W, Hid (W = (w.alloc (.cells #[.slice (some ⟨b1, o1, none⟩) n c] 24)).alloc (.cells #[.string nm, .slice Aj nj cj] 70)) := ⟨_, Lib.hid rfl⟩
  have hbl : Below w.heap.size w W := by rw [HW.out]; exact ((Below.refl _ w).alloc (Nat.le_refl _) _).alloc (by simp) _
  have hz : W.heap.size = w.heap.size + 2 := by rw [HW.out]; simp
  have h0 : W.heap[w.heap.size]? = some (.cells #[.slice (some ⟨b1, o1, none⟩) n c] 24 (0, 0)) := by
    rw [HW.out, Below.heap_alloc _ _ _ (by simp)]; exact heap_new w _
  have h1 : W.heap[w.heap.size + 1]? = some (.cells #[.string nm, .slice Aj nj cj] 70 (0, 0)) := by
    rw [HW.out]
    have h := heap_new (w.alloc (.cells #[.slice (some ⟨b1, o1, none⟩) n c] 24)) (.cells #[.string nm, .slice Aj nj cj] 70)
    rw [World.size_alloc] at h; exact h
  have HA := Lib.hid (h.below hbl)
  have HBL := Lib.hid hbl
  have HCO : Hid (∀ c', Calls Tryz.prog 51 #[.slice (some ⟨b1, o1, none⟩) i c', .func (.func 49) #[] #[.pointer (some ⟨w.heap.size + 1, 0, none⟩)]] W fun e w' => e = .returned (.bool ((l.take i).any (fun o => decide (o.1 = nm)))) ∧ Below W.heap.size W w') := Lib.hid (fun c' => con_sv (fun o => decide (o.1 = nm)) _ _ (RdJ.take (k := i) HA.out.rd (by omega)) HA.out.le (by omega) enters_sameName (fun W2 vs x hx hb2 hl2 hit => by
    obtain ⟨A2, n2, c2, rfl, _, _⟩ := hit.parts
    exact sameName_any (Bx := 0) h1 hb2))
  have HSL := Lib.hid (fun w => slice_svc (q := i) h.cap (by omega) w)
  have HRN := Lib.hid (rightName_any nm W (by have := HSZ.out; omega))
  have H0 := Lib.hid h0
  have H1 := Lib.hid h1
  clear hbl h0 h1 h hrr hsm
  go_enter Tryz.func29, Tryz.ntmps29
  go_upto_region 2 with fail
  change Code.wp _ _ _ _ ((w.alloc (.cells #[.slice (some ⟨b1, o1, none⟩) n c] 24)).alloc (.cells #[.string nm, .slice Aj nj cj] 70))
  rw [← HW.out]
  clear k0 k1
  obtain ⟨y0, y1, _, _⟩ := row2 H1.out
  go_wp2_with fail
  refine HRN.out.mono ?_
  rintro e w' ⟨rfl, hw'⟩
  subst hw'
  cases hq : nameB (bs nm) with
  | false =>
    have HX : Hid (svcE l i = 30) := Lib.hid (by rw [HV.out, hq]; rfl)
    clear hq
    go_wp2_with fail
    refine bodyPost_ret (results_tmp rfl _ _ _) rfl ⟨?_, HBL.out⟩
    exact congrArg (fun b => Ending.returned (.int .i64 b)) HX.out.symm
  | true =>
    have HQ := Lib.hid hq
    obtain ⟨x0, _⟩ := row1f H0.out
    have hsl := HSL.out
    clear hq
    go_wp2_with fail
    refine (HCO.out _).mono ?_
    rintro e w2 ⟨rfl, hb2⟩
    have hB2 : Below w.heap.size w w2 := HBL.out.trans (hb2.mono (by omega))
    obtain ⟨z0, z1, _, _⟩ := row2 ((hb2.block (w.heap.size + 1) (by omega)).trans H1.out)
    have HB2 := Lib.hid hB2
    clear hb2 hB2 x0 hsl y0 y1
    cases hq : (l.take i).any (fun o => decide (o.1 = nm)) with
    | true =>
      have HX : Hid (svcE l i = 31) := Lib.hid (by rw [HV.out, HQ.out, hq]; rfl)
      clear hq
      go_wp2_with fail
      refine bodyPost_ret (results_tmp rfl _ _ _) rfl ⟨?_, HB2.out⟩
      exact congrArg (fun b => Ending.returned (.int .i64 b)) HX.out.symm
    | false =>
      have HQ2 := Lib.hid hq
      clear hq
      by_cases c1 : nj < 1
      · have HX : Hid (svcE l i = 36) := Lib.hid (by rw [HV.out, HQ.out, HQ2.out, if_neg (by decide), if_neg (by decide), if_pos (.inl c1)])
        have d1 : decide ((nj : Int) < 1) = true := by simp; omega
        clear c1
        go_wp2_with fail
        refine bodyPost_ret (results_tmp rfl _ _ _) rfl ⟨?_, HB2.out⟩
        exact congrArg (fun b => Ending.returned (.int .i64 b)) HX.out.symm
      · have d1 : decide ((nj : Int) < 1) = false := by simp; omega
        by_cases c2 : 12 < nj
        · have HX : Hid (svcE l i = 36) := Lib.hid (by rw [HV.out, HQ.out, HQ2.out, if_neg (by decide), if_neg (by decide), if_pos (.inr c2)])
          have d2 : decide ((12 : Int) < (nj : Int)) = true := by simp; omega
          clear c1 c2
          go_wp2_with fail
          refine bodyPost_ret (results_tmp rfl _ _ _) rfl ⟨?_, HB2.out⟩
          exact congrArg (fun b => Ending.returned (.int .i64 b)) HX.out.symm
        · have HX : Hid (svcE l i = 0) := Lib.hid (by rw [HV.out, HQ.out, HQ2.out, if_neg (by decide), if_neg (by decide), if_neg (by omega)])
          have d2 : decide ((12 : Int) < (nj : Int)) = false := by simp; omega
          clear c1 c2
          go_wp2_with fail
          refine bodyPost_ret (results_tmp rfl _ _ _) rfl ⟨?_, HB2.out⟩
          exact congrArg (fun b => Ending.returned (.int .i64 b)) HX.out.symm
end Go.Proofs.YtebflhlgcpbikaaGreat
