/-
  CONTRACT of the document's own package of layer 1: Compare (printed by genrefcmp.py).
-/
import Derived.Test.YtpnbbbhbbnemlaaGreatDoorSGa
import Derived.Test.YtpnbbbhbbnemlaaGreatDoorSGb
namespace Go.Proofs.YtpnbbbhbbnemlaaGreatDoor
open Go.RowKit
open SemP
set_option linter.unusedVariables false
set_option linter.unusedSimpArgs false
set_option maxRecDepth 100000

theorem toL_b (s t : ByteArray) (b : Bool) (h : decide (bs s = bs t) = b) : (s.toList == t.toList) = b := by
  rw [ByteArray.toList_eq, ByteArray.toList_eq, ← h]
  show (bs s == bs t) = _
  cases hd : decide (bs s = bs t) with
  | true => rw [of_decide_eq_true hd]; simp
  | false => rw [beq_eq_false_iff_ne]; exact of_decide_eq_false hd
theorem piece_le (c : UInt8) : ∀ (l m : Str), m ∈ pieces c l → m.length ≤ l.length := by
  intro l
  induction l with
  | nil => intro m h; simp [pieces] at h; subst h; simp
  | cons b l ih =>
    intro m h
    unfold pieces at h
    split at h
    · rcases List.mem_cons.1 h with h | h
      · subst h; simp
      · have := ih m h; simp; omega
    · split at h
      · next hp => exact absurd hp (pieces_ne c l)
      · next p ps hp =>
        rcases List.mem_cons.1 h with h | h
        · subst h
          have := ih p (by rw [hp]; simp)
          simp; omega
        · have := ih m (by rw [hp]; exact List.mem_cons_of_mem _ h)
          simp; omega
set_option maxHeartbeats 8000000 in
theorem RefCompare_any (a1 b1 c1 : Int) (s1 : ByteArray) (a2 b2 c2 : Int) (s2 : ByteArray) (w : World) (h1 : s1.size ≤ 1000000000000) (h2 : s2.size ≤ 1000000000000) :
    Calls Tryz.prog 80 #[verV a1 b1 c1 s1, verV a2 b2 c2 s2] w fun e w' => e = .returned (.int .i64 (refV ⟨a1, b1, c1, bs s1⟩ ⟨a2, b2, c2, bs s2⟩)) ∧ Below w.heap.size w w' := by
  obtain ⟨W0, hW0⟩ : ∃ W0, (w.alloc (refC a1 b1 c1 s1)).alloc (refC a2 b2 c2 s2) = W0 := ⟨_, rfl⟩
  have hz0 : W0.heap.size = w.heap.size + 2 := by rw [← hW0]; simp
  have hb0 : Below w.heap.size w W0 := by rw [← hW0]; exact ((Below.refl _ w).alloc (Nat.le_refl _) _).alloc (by simp) _
  have HX0 : Hid (W0.heap[w.heap.size]? = some (refC a1 b1 c1 s1)) := Lib.hid (by
    rw [← hW0, Below.heap_alloc _ _ _ (by simp)]; exact World.alloc_heap_new _ _)
  have HX1 : Hid (W0.heap[w.heap.size + 1]? = some (refC a2 b2 c2 s2)) := Lib.hid (by
    rw [← hW0]
    have := World.alloc_heap_new (w.alloc (refC a1 b1 c1 s1)) (refC a2 b2 c2 s2)
    rw [World.size_alloc] at this; exact this)
  have HW0 := Lib.hid hW0
  have HB0 := Lib.hid hb0
  have HZ0 := Lib.hid hz0
  obtain ⟨x0, x1, x2, x3⟩ := cells4 HX0.out
  obtain ⟨y0, y1, y2, y3⟩ := cells4 HX1.out
  rw [← hW0] at x0 x1 x2 x3 y0 y1 y2 y3
  simp only [refC] at x0 x1 x2 x3 y0 y1 y2 y3
  have HR := Lib.hid (show refV ⟨a1, b1, c1, bs s1⟩ ⟨a2, b2, c2, bs s2⟩ = orI (Lib.compareInt a1 a2) (orI (Lib.compareInt b1 b2) (orI (Lib.compareInt c1 c2) (refPre (bs s1) (bs s2)))) from rfl)
  obtain ⟨p, hp⟩ : ∃ p, Lib.compareInt a1 a2 = p := ⟨_, rfl⟩
  obtain ⟨q, hq⟩ : ∃ q, Lib.compareInt b1 b2 = q := ⟨_, rfl⟩
  obtain ⟨r, hr⟩ : ∃ r, Lib.compareInt c1 c2 = r := ⟨_, rfl⟩
  rw [hp, hq, hr] at HR
  have HP := Lib.hid hp
  have HQ := Lib.hid hq
  have HRR := Lib.hid hr
  clear hW0 hb0 hz0 hp hq hr
  go_enter Tryz.func80, Tryz.ntmps80
  go_wp2_with fail
  try rw [show (w.alloc (.cells #[.int .i64 a1, .int .i64 b1, .int .i64 c1, .string s1] 74)).alloc (.cells #[.int .i64 a2, .int .i64 b2, .int .i64 c2, .string s2] 74) = W0 from HW0.out]
  clear x0 x1 x2 x3 y0 y1 y2 y3
  obtain ⟨x0, x1, x2, x3⟩ := cells4 HX0.out
  obtain ⟨y0, y1, y2, y3⟩ := cells4 HX1.out
  refine (by_any a1 a2 W0).mono ?_
  rintro e w' ⟨rfl, hw⟩
  subst w'
  rw [HP.out]
  by_cases hp0 : p = 0
  · subst hp0
    have HR1 : Hid (refV ⟨a1, b1, c1, bs s1⟩ ⟨a2, b2, c2, bs s2⟩ = orI q (orI r (refPre (bs s1) (bs s2)))) := Lib.hid (by rw [HR.out, orI_zero])
    go_wp2_with fail
    refine (by_any b1 b2 W0).mono ?_
    rintro e w' ⟨rfl, hw⟩
    subst w'
    rw [HQ.out]
    by_cases hq0 : q = 0
    · subst hq0
      have HR2 : Hid (refV ⟨a1, b1, c1, bs s1⟩ ⟨a2, b2, c2, bs s2⟩ = orI r (refPre (bs s1) (bs s2))) := Lib.hid (by rw [HR1.out, orI_zero])
      go_wp2_with fail
      refine (by_any c1 c2 W0).mono ?_
      rintro e w' ⟨rfl, hw⟩
      subst w'
      rw [HRR.out]
      by_cases hr0 : r = 0
      · subst hr0
        have HR3 : Hid (refV ⟨a1, b1, c1, bs s1⟩ ⟨a2, b2, c2, bs s2⟩ = refPre (bs s1) (bs s2)) := Lib.hid (by rw [HR2.out, orI_zero])
        by_cases he : bs s1 = bs s2
        · have dse : (s1.toList == s2.toList) = true := toL_b _ _ _ (decide_eq_true he)
          have HV : Hid (refV ⟨a1, b1, c1, bs s1⟩ ⟨a2, b2, c2, bs s2⟩ = 0) := Lib.hid (by rw [HR3.out]; unfold refPre; rw [if_pos he])
          clear he
          go_wp2
          refine bodyPost_ret (results_tmp rfl _ _ _) rfl ⟨by rw [HV.out]; rfl, HB0.out⟩
        · have dse : (s1.toList == s2.toList) = false := toL_b _ _ _ (decide_eq_false he)
          have HR4 : Hid (refPre (bs s1) (bs s2) = if bs s1 = [] then 1 else if bs s2 = [] then -1 else rowC refMarks (pieces 46 (bs s1)) (pieces 46 (bs s2))) := Lib.hid (by unfold refPre; rw [if_neg he])
          clear he
          cases he1 : (bs s1).isEmpty with
          | true =>
            have ds1 : s1.toList.isEmpty = true := isE _ _ he1
            have HV : Hid (refV ⟨a1, b1, c1, bs s1⟩ ⟨a2, b2, c2, bs s2⟩ = 1) := Lib.hid (by rw [HR3.out, HR4.out, if_pos (List.isEmpty_iff.1 he1)])
            clear he1
            go_wp2
            refine bodyPost_ret (results_tmp rfl _ _ _) rfl ⟨by rw [HV.out]; rfl, HB0.out⟩
          | false =>
            have ds1 : s1.toList.isEmpty = false := isE _ _ he1
            have HN1 : Hid (bs s1 ≠ []) := Lib.hid (fun e => by rw [e] at he1; cases he1)
            clear he1
            cases he2 : (bs s2).isEmpty with
            | true =>
              have ds2 : s2.toList.isEmpty = true := isE _ _ he2
              have HV : Hid (refV ⟨a1, b1, c1, bs s1⟩ ⟨a2, b2, c2, bs s2⟩ = -1) := Lib.hid (by rw [HR3.out, HR4.out, if_neg HN1.out, if_pos (List.isEmpty_iff.1 he2)])
              clear he2
              go_wp2
              refine bodyPost_ret (results_tmp rfl _ _ _) rfl ⟨by rw [HV.out]; rfl, HB0.out⟩
            | false =>
              have ds2 : s2.toList.isEmpty = false := isE _ _ he2
              have HN2 : Hid (bs s2 ≠ []) := Lib.hid (fun e => by rw [e] at he2; cases he2)
              have HV : Hid (refV ⟨a1, b1, c1, bs s1⟩ ⟨a2, b2, c2, bs s2⟩ = rowC refMarks (pieces 46 (bs s1)) (pieces 46 (bs s2))) := Lib.hid (by rw [HR3.out, HR4.out, if_neg HN1.out, if_neg HN2.out])
              clear he2
              have HC1 := Lib.hid (Cut_any s1 46 W0 h1)
              go_wp2_with fail
              refine HC1.out.mono ?_
              rintro e1 W1 ⟨v1, rfl, ho1, hb1⟩
              have HO1 := Lib.hid ho1
              have HB1 := Lib.hid hb1
              clear ho1 hb1 HC1 x0 x1 x2 x3 y0 y1 y2 y3
              obtain ⟨y0, y1, y2, y3⟩ := cells4 ((HB1.out.block _ (show w.heap.size + 1 < W0.heap.size by have := HZ0.out; omega)).trans HX1.out)
              have HC2 := Lib.hid (Cut_any s2 46 W1 h2)
              go_wp2_with fail
              refine HC2.out.mono ?_
              rintro e1 W2 ⟨v2, rfl, ho2, hb2⟩
              have HO2 := Lib.hid ho2
              have HO1 := Lib.hid (HO1.out.kept hb2)
              have HB2 : Hid (Below w.heap.size w W2) := Lib.hid (HB0.out.trans ((HB1.out.mono HB0.out.size).trans (hb2.mono (Nat.le_trans HB0.out.size HB1.out.size))))
              clear ho2 hb2 HC2 y0 y1 y2 y3 HB1
              obtain ⟨g1, k1, rfl, _, hg1⟩ := HO1.out.form (List.length_pos_iff.2 (pieces_ne _ _))
              obtain ⟨g2, k2, rfl, _, hg2⟩ := HO2.out.form (List.length_pos_iff.2 (pieces_ne _ _))
              have HL1 : Hid ((pieces 46 (bs s1)).length ≤ 1000000000001) := Lib.hid (by have := pieces_len 46 (bs s1); rw [show (bs s1).length = s1.size from (Lib.size_eq s1).symm] at this; omega)
              have HL2 : Hid ((pieces 46 (bs s2)).length ≤ 1000000000001) := Lib.hid (by have := pieces_len 46 (bs s2); rw [show (bs s2).length = s2.size from (Lib.size_eq s2).symm] at this; omega)
              have HE1 : Hid (∀ i, i < (pieces 46 (bs s1)).length → ((pieces 46 (bs s1)).getD i []).length ≤ 1000000000000) := Lib.hid (fun i hi => by
                have := piece_le 46 (bs s1) _ (by simp [List.getD, hi] : (pieces 46 (bs s1)).getD i [] ∈ pieces 46 (bs s1))
                rw [show (bs s1).length = s1.size from (Lib.size_eq s1).symm] at this; omega)
              have HE2 : Hid (∀ i, i < (pieces 46 (bs s2)).length → ((pieces 46 (bs s2)).getD i []).length ≤ 1000000000000) := Lib.hid (fun i hi => by
                have := piece_le 46 (bs s2) _ (by simp [List.getD, hi] : (pieces 46 (bs s2)).getD i [] ∈ pieces 46 (bs s2))
                rw [show (bs s2).length = s2.size from (Lib.size_eq s2).symm] at this; omega)
              generalize pieces 46 (bs s1) = l1 at *
              generalize pieces 46 (bs s2) = l2 at *
              obtain ⟨n1, hn1⟩ : ∃ n1, l1.length = n1 := ⟨_, rfl⟩
              obtain ⟨n2, hn2⟩ : ∃ n2, l2.length = n2 := ⟨_, rfl⟩
              rw [hn1] at HO1 HL1 HE1
              rw [hn2] at HO2 HL2 HE2
              rw [hn1, hn2]
              have HN1 := Lib.hid hn1
              have HN2 := Lib.hid hn2
              clear hn1 hn2
              go_wp2
              go_loopw [5, 8] (fun v5 v8 wr => ∃ (i : Nat), v8 = .int .i64 (i : Int) ∧ Hid (RowAt refMarks l1 l2 i) ∧ Hid (∃ k, wr = W2.drewN k)) (fun _ v _ => n1 - (intOf v).toNat)
              case atStart => exact ⟨0, rfl, Lib.hid (RowAt.start _ _ _), Lib.hid ⟨0, rfl⟩⟩
              case round =>
                obtain ⟨i, rfl, HRA, HDR⟩ := hrel
                have HBR : Hid (Below w.heap.size w wr) := Lib.hid (by obtain ⟨k, h⟩ := HDR.out; rw [h]; exact HB2.out.trans (Below.drewN_ _ _ _))
                by_cases hi1 : i < n1
                · have d1 : decide ((i : Int) < (n1 : Int)) = true := by simp; omega
                  by_cases hi2 : i < n2
                  · have d2 : decide ((i : Int) < (n2 : Int)) = true := by simp; omega
                    have hadd : IntKind.i64.wrap ((i : Int) + 1) = ((i + 1 : Nat) : Int) := by rw [IntWalk.i64_in _ (by have := HL1.out; omega)]; omega
                    have hc1 : wr.cell? ⟨g1, i, none⟩ = some (strc (l1.getD i [])) := by obtain ⟨k, h⟩ := HDR.out; rw [h]; exact HO1.out.cell hi1
                    have hc2 : wr.cell? ⟨g2, i, none⟩ = some (strc (l2.getD i [])) := by obtain ⟨k, h⟩ := HDR.out; rw [h]; exact HO2.out.cell hi2
                    have HMK := Lib.hid (fun W => marks_any (mk (l1.getD i [])) (mk (l2.getD i [])) W (by rw [mk_size]; exact HE1.out i hi1) (by rw [mk_size]; exact HE2.out i hi2))
                    obtain ⟨cc, hcc⟩ : ∃ cc, refMarks (bs (mk (l1.getD i []))) (bs (mk (l2.getD i []))) = cc := ⟨_, rfl⟩
                    have HCC : Hid (refMarks (l1.getD i []) (l2.getD i []) = cc) := Lib.hid hcc
                    have HMK2 : Hid (∀ W, Calls Tryz.prog 114 #[strc (l1.getD i []), strc (l2.getD i [])] W fun e w' => e = .returned (.int .i64 cc) ∧ ∃ k, w' = W.drewN k) := Lib.hid (fun W => by rw [← hcc]; exact HMK.out W)
                    clear hcc HMK
                    by_cases hc0 : cc = 0
                    · subst hc0
                      have HRN : Hid (RowAt refMarks l1 l2 (i + 1)) := Lib.hid (HRA.out.next (by rw [HN1.out]; exact hi1) (by rw [HN2.out]; exact hi2) [] HCC.out)
                      go_wp2_with (first | go_quiet ((go_at_call 114; refine Calls.quiet_of (HMK2.out _))) | go_in)
                      exact ⟨⟨i + 1, by simp, HRN, Lib.hid (drew_more HDR.out _)⟩, by simp [intOf]; omega⟩
                    · have d0 : (cc == 0) = false := by rw [beq_eq_false_iff_ne]; exact hc0
                      have HV2 : Hid (refV ⟨a1, b1, c1, bs s1⟩ ⟨a2, b2, c2, bs s2⟩ = cc) := Lib.hid (by
                        rw [HV.out, HRA.out.stop (by rw [HN1.out]; exact hi1) (by rw [HN2.out]; exact hi2) [] (by rw [HCC.out]; exact hc0), HCC.out])
                      go_wp2_with (first | go_quiet ((go_at_call 114; refine Calls.quiet_of (HMK2.out _))) | go_in)
                      refine bodyPost_ret (results_tmp rfl _ _ _) rfl ⟨by rw [HV2.out]; rfl, HBR.out.trans (Below.drewN_ _ _ _)⟩
                  · have d2 : decide ((i : Int) < (n2 : Int)) = false := by simp; omega
                    have HV2 : Hid (refV ⟨a1, b1, c1, bs s1⟩ ⟨a2, b2, c2, bs s2⟩ = Lib.compareInt n1 n2) := Lib.hid (by
                      rw [HV.out, HRA.out.fin (by rw [HN1.out, HN2.out]; omega), HN1.out, HN2.out])
                    go_wp2_with fail
                    refine (by_any (n1 : Int) (n2 : Int) _).mono ?_
                    rintro e w' ⟨rfl, rfl⟩
                    go_wp2
                    refine bodyPost_ret (results_tmp rfl _ _ _) rfl ⟨by rw [HV2.out]; rfl, HBR.out⟩
                · have d1 : decide ((i : Int) < (n1 : Int)) = false := by simp; omega
                  have HV2 : Hid (refV ⟨a1, b1, c1, bs s1⟩ ⟨a2, b2, c2, bs s2⟩ = Lib.compareInt n1 n2) := Lib.hid (by
                    rw [HV.out, HRA.out.fin (by rw [HN1.out, HN2.out]; omega), HN1.out, HN2.out])
                  go_wp2_with fail
                  refine (by_any (n1 : Int) (n2 : Int) _).mono ?_
                  rintro e w' ⟨rfl, rfl⟩
                  go_wp2
                  refine bodyPost_ret (results_tmp rfl _ _ _) rfl ⟨by rw [HV2.out]; rfl, HBR.out⟩
      · have d0 : (r == 0) = false := by rw [beq_eq_false_iff_ne]; exact hr0
        have dn : (r != 0) = true := by rw [bne_iff_ne]; exact hr0
        have HV : Hid (refV ⟨a1, b1, c1, bs s1⟩ ⟨a2, b2, c2, bs s2⟩ = r) := Lib.hid (by rw [HR2.out, orI_ne hr0])
        clear hr0
        go_wp2
        refine bodyPost_ret (results_tmp rfl _ _ _) rfl ⟨by rw [HV.out]; rfl, HB0.out⟩
    · have d0 : (q == 0) = false := by rw [beq_eq_false_iff_ne]; exact hq0
      have dn : (q != 0) = true := by rw [bne_iff_ne]; exact hq0
      have HV : Hid (refV ⟨a1, b1, c1, bs s1⟩ ⟨a2, b2, c2, bs s2⟩ = q) := Lib.hid (by rw [HR1.out, orI_ne hq0])
      clear hq0
      go_wp2
      refine bodyPost_ret (results_tmp rfl _ _ _) rfl ⟨by rw [HV.out]; rfl, HB0.out⟩
  · have d0 : (p == 0) = false := by rw [beq_eq_false_iff_ne]; exact hp0
    have dn : (p != 0) = true := by rw [bne_iff_ne]; exact hp0
    have HV : Hid (refV ⟨a1, b1, c1, bs s1⟩ ⟨a2, b2, c2, bs s2⟩ = p) := Lib.hid (by rw [HR.out, orI_ne hp0])
    clear hp0
    go_wp2
    refine bodyPost_ret (results_tmp rfl _ _ _) rfl ⟨by rw [HV.out]; rfl, HB0.out⟩
end Go.Proofs.YtpnbbbhbbnemlaaGreatDoor
