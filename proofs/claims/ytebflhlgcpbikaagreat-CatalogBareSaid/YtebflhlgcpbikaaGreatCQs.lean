/-
  CONTRACT of the document's service.
-/
import Derived.Test.YtebflhlgcpbikaaGreatCAs
namespace Go.Proofs.YtebflhlgcpbikaaGreat
open Go.RowKit
open SemP
set_option linter.unusedVariables false
set_option linter.unusedSimpArgs false
set_option maxRecDepth 10000
set_option maxHeartbeats 8000000 in
theorem serviceQ_any {w : World} {B n c i : Nat} {A : Option Addr} {l : List Sv} (h : CatAt w B A n c l) (hi : i < n) :
    Calls Tryz.prog 31 #[.agg #[.slice A n c], .int .i64 (i : Int)] w fun e w' => e = .returned (.int .i64 (svcE l i)) ∧ Below w.heap.size w w' := by
  have HN : Hid (l.length = n) := Lib.hid h.rd.1
  have hn16 := h.n16
  obtain ⟨b1, o1, Aj, nj, cj, rfl, hb1, k0, k1, hcap, hrr⟩ := sv_at h.rd hi
  have hb1w : b1 < w.heap.size := by have := h.le; omega
  have hii : (i : Int) < (n : Int) := by omega
  have hsm := h.sm.2 _ (svAt_mem (i := i) (by rw [HN.out]; exact hi))
  have HNJ : Hid ((svAt l i).2.length = nj) := Lib.hid hrr.1
  have hnj : nj ≤ 16 := by have := hsm.2.1; have := HNJ.out; omega
  have HSZ : Hid ((svAt l i).1.size ≤ 100) := Lib.hid hsm.1
  obtain ⟨nm, HNM⟩ : ∃ nm, Hid ((svAt l i).1 = nm) := ⟨_, Lib.hid rfl⟩
  rw [HNM.out] at k0 HSZ
  have HV : Hid (svcE l i = if nameB (bs nm) = false then 30 else if (l.take i).any (fun o => decide (o.1 = nm)) then 31 else if nj < 1 ∨ 12 < nj then 36 else 0) := Lib.hid (by unfold svcE; rw [HNM.out, HNJ.out])
  obtain ⟨W, HW⟩ : ∃ W, Hid (W = (w.alloc (.cells #[.slice (some ⟨b1, o1, none⟩) n c] 28)).alloc (.cells #[.string nm, .slice Aj nj cj] 52)) := ⟨_, Lib.hid rfl⟩
  have hbl : Below w.heap.size w W := by rw [HW.out]; exact ((Below.refl _ w).alloc (Nat.le_refl _) _).alloc (by simp) _
  have hz : W.heap.size = w.heap.size + 2 := by rw [HW.out]; simp
  have h0 : W.heap[w.heap.size]? = some (.cells #[.slice (some ⟨b1, o1, none⟩) n c] 28 (0, 0)) := by
    rw [HW.out, Below.heap_alloc _ _ _ (by simp)]; exact heap_new w _
  have h1 : W.heap[w.heap.size + 1]? = some (.cells #[.string nm, .slice Aj nj cj] 52 (0, 0)) := by
    rw [HW.out]
    have h := heap_new (w.alloc (.cells #[.slice (some ⟨b1, o1, none⟩) n c] 28)) (.cells #[.string nm, .slice Aj nj cj] 52)
    rw [World.size_alloc] at h; exact h
  have HA := Lib.hid (h.below hbl)
  have HBL := Lib.hid hbl
  have HRN := Lib.hid (nameQ_any nm W (by have := HSZ.out; omega))
  have H0 := Lib.hid h0
  have H1 := Lib.hid h1
  clear hbl h0 h1 h hrr hsm
  go_enter Tryz.func31, Tryz.ntmps31
  go_upto_region 2 with fail
  change Code.wp _ _ _ _ ((w.alloc (.cells #[.slice (some ⟨b1, o1, none⟩) n c] 28)).alloc (.cells #[.string nm, .slice Aj nj cj] 52))
  rw [← HW.out]
  clear k0 k1
  obtain ⟨y0, y1, _, _⟩ := row2 H1.out
  go_wp2_with fail
  refine HRN.out.mono ?_
  rintro e w' ⟨rfl, hw'⟩
  subst hw'
  cases hq : nameB (bs nm) with
  | false =>
    have HX : Hid (svcE l i = 30) := Lib.hid (by rw [HV.out, hq]; rfl)
    clear hq
    go_wp2_with fail
    refine bodyPost_ret (results_tmp rfl _ _ _) rfl ⟨?_, HBL.out⟩
    exact congrArg (fun b => Ending.returned (.int .i64 b)) HX.out.symm
  | true =>
    have HQ := Lib.hid hq
    clear hq
    go_wp2_with fail
    clear y0 y1
    obtain ⟨W1, hW1⟩ : ∃ W1 : World, W1 = w' := ⟨_, rfl⟩
    subst hW1
    go_loopw [6] (fun v wr => ∃ k : Nat, k ≤ i ∧ v = .int .i64 (k : Int) ∧ Hid (Below W1.heap.size W1 wr) ∧ Hid (∀ m, m < k → (svAt l m).1 ≠ nm)) (fun v _ => i - (intOf v).toNat)
    case atStart => exact ⟨0, Nat.zero_le _, rfl, Lib.hid (Below.refl _ _), Lib.hid (fun m h => absurd h (by omega))⟩
    case round =>
      obtain ⟨wo, hwo⟩ : ∃ x, x = wr := ⟨_, rfl⟩
      subst hwo
      obtain ⟨k, hk, rfl, HR, HOK⟩ := hrel
      have hzr := HR.out.size
      have HB : Hid (Below w.heap.size w wo) := Lib.hid (HBL.out.trans (HR.out.mono (by omega)))
      obtain ⟨x0, _⟩ := row1f ((HR.out.block w.heap.size (by omega)).trans H0.out)
      obtain ⟨y0, y1, _, _⟩ := row2 ((HR.out.block (w.heap.size + 1) (by omega)).trans H1.out)
      by_cases hki : k < i
      · have hd : decide ((k : Int) < (i : Int)) = true := by simp; omega
        have hkI : (k : Int) < (i : Int) := by omega
        have hkn : (k : Int) < (n : Int) := by omega
        have hadd : IntKind.i64.wrap ((k : Int) + 1) = ((k + 1 : Nat) : Int) := by rw [IntWalk.i64_in _ (by omega)]; omega
        obtain ⟨b2, o2, A2, n2, c2, he, hb2, k0, k1, _, _⟩ := sv_at (HA.out.below HR.out).rd (show k < n by omega)
        injection he with he
        injection he with e1 e2
        subst e1 e2
        have HKL : Hid (k < l.length) := Lib.hid (by rw [HN.out]; omega)
        by_cases hnm : (svAt l k).1 = nm
        · have HX : Hid (svcE l i = 31) := Lib.hid (by
            have hany : (l.take i).any (fun o => decide (o.1 = nm)) = true := by
              rw [List.any_eq_true]
              refine ⟨svAt l k, ?_, decide_eq_true hnm⟩
              have hkl := HKL.out
              rw [show svAt l k = l[k] by simp [svAt, List.getD, hkl]]
              exact List.mem_take_iff_getElem.2 ⟨k, by omega, rfl⟩
            rw [HV.out, HQ.out, hany]; rfl)
          rw [hnm] at k0
          clear hnm
          go_wp2_with fail
          go_quiet (fail)
          go_wp2_with fail
          refine bodyPost_ret (results_tmp rfl _ _ _) rfl ⟨?_, Below.drewN' HB.out _⟩
          exact congrArg (fun b => Ending.returned (.int .i64 b)) HX.out.symm
        · have HNE := Lib.hid hnm
          obtain ⟨t, HT⟩ : ∃ t, Hid ((svAt l k).1 = t) := ⟨_, Lib.hid rfl⟩
          rw [HT.out] at k0 hnm
          have h2 : ¬ t.toList = nm.toList := fun e => hnm (toL_inj e)
          have h3 : (t.toList == nm.toList) = false := by rw [beq_eq_false_iff_ne]; exact h2
          clear hnm
          go_wp2_with fail
          go_quiet (fail)
          clear x0 y0 y1 k0 k1
          go_wp2_with fail
          go_roundw
          case rel => exact ⟨k + 1, by omega, by go_num, Lib.hid (Below.drewN' HR.out _), Lib.hid (fun m hm => by
            by_cases e : m = k
            · subst e; exact HNE.out
            · exact HOK.out m (by omega))⟩
          case measure => simp [intOf]; omega
      · have hd : decide ((k : Int) < (i : Int)) = false := by simp; omega
        have hkI : ¬ (k : Int) < (i : Int) := by omega
        have HQ2 : Hid ((l.take i).any (fun o => decide (o.1 = nm)) = false) := Lib.hid (by
          refine List.any_eq_false.2 fun y hy => ?_
          obtain ⟨q, hq, rfl⟩ := List.mem_take_iff_getElem.1 hy
          have h := HOK.out q (by omega)
          rw [show svAt l q = l[q] by simp [svAt, List.getD, show q < l.length by omega]] at h
          rw [decide_eq_false h]; simp)
        by_cases c1 : nj < 1
        · have HX : Hid (svcE l i = 36) := Lib.hid (by rw [HV.out, HQ.out, HQ2.out, if_neg (by decide), if_neg (by decide), if_pos (.inl c1)])
          have d1 : decide ((nj : Int) < 1) = true := by simp; omega
          have p1 : (nj : Int) < 1 := by omega
          clear c1
          go_wp2_with fail
          refine bodyPost_ret (results_tmp rfl _ _ _) rfl ⟨?_, HB.out⟩
          exact congrArg (fun b => Ending.returned (.int .i64 b)) HX.out.symm
        · have d1 : decide ((nj : Int) < 1) = false := by simp; omega
          have p1 : ¬ (nj : Int) < 1 := by omega
          by_cases c2 : 12 < nj
          · have HX : Hid (svcE l i = 36) := Lib.hid (by rw [HV.out, HQ.out, HQ2.out, if_neg (by decide), if_neg (by decide), if_pos (.inr c2)])
            have d2 : decide ((12 : Int) < (nj : Int)) = true := by simp; omega
            have p2 : (12 : Int) < (nj : Int) := by omega
            clear c1 c2
            go_wp2_with fail
            refine bodyPost_ret (results_tmp rfl _ _ _) rfl ⟨?_, HB.out⟩
            exact congrArg (fun b => Ending.returned (.int .i64 b)) HX.out.symm
          · have HX : Hid (svcE l i = 0) := Lib.hid (by rw [HV.out, HQ.out, HQ2.out, if_neg (by decide), if_neg (by decide), if_neg (by omega)])
            have d2 : decide ((12 : Int) < (nj : Int)) = false := by simp; omega
            have p2 : ¬ (12 : Int) < (nj : Int) := by omega
            clear c1 c2
            go_wp2_with fail
            refine bodyPost_ret (results_tmp rfl _ _ _) rfl ⟨?_, HB.out⟩
            exact congrArg (fun b => Ending.returned (.int .i64 b)) HX.out.symm
end Go.Proofs.YtebflhlgcpbikaaGreat
