/-
  MERGED: CRl CCk.
-/
import Derived.Test.YtlodledcglleiaaGreatCNa
import Derived.Test.YtlodledcglleiaaGreatCGb
import Derived.Test.YtlodledcglleiaaGreatDOrder
import Derived.Deep.RegionHeld3
namespace Go.Proofs.YtlodledcglleiaaGreat
open Go.RowKit
open SemP
set_option linter.unusedVariables false
set_option linter.unusedSimpArgs false
set_option maxRecDepth 10000
theorem SmRl.parts {r : Rl} (h : SmRl r) : r.2.2.length ≤ 12 ∧ r.1.2.2.2.size ≤ 100 ∧ ∀ p ∈ r.2.2, SmR p.2 := h
set_option maxHeartbeats 8000000 in
theorem checkRelease_any {w : World} {B n c i v : Nat} {A : Option Addr} {l : List Sv} (h : CatAt w B A n c l) (hi : i < n) (hv : v < (svAt l i).2.length) :
    Calls Tryz.prog 47 #[.agg #[.slice A n c], .int .i64 (i : Int), .int .i64 (v : Int)] w fun e w' => e = .returned (.int .i64 (relE n i (svAt l i).2 v)) ∧ Below w.heap.size w w' := by
  have HN : Hid (l.length = n) := Lib.hid h.rd.1
  have hn16 := h.n16
  have hle := h.le
  obtain ⟨b1, o1, Aj, nj, cj, rfl, hb1, k0, k1, hcap, hrr⟩ := sv_at h.rd hi
  have hb1w : b1 < w.heap.size := by omega
  have hsm := h.sm.2 _ (svAt_mem (i := i) (by rw [HN.out]; exact hi))
  obtain ⟨rls, HRL⟩ : ∃ x, Hid ((svAt l i).2 = x) := ⟨_, Lib.hid rfl⟩
  rw [HRL.out] at hrr hv
  rw [HRL.out]
  have hsm2 := hsm.2
  rw [HRL.out] at hsm2
  have HNJ : Hid (rls.length = nj) := Lib.hid hrr.1
  have hvj : v < nj := by rw [← HNJ.out]; exact hv
  have hnj : nj ≤ 16 := by have := hsm2.1; have := HNJ.out; omega
  have hvi : (v : Int) < (nj : Int) := by omega
  have hii : (i : Int) < (n : Int) := by omega
  obtain ⟨b2, o2, A3, n3, c3, rfl, hb2, q0, q1, q2, q3, q4, q5, hcap3, hnd⟩ := rl_at hrr hvj
  have hb2w : b2 < w.heap.size := by omega
  have hsmr := hsm2.2 _ (rlAt_mem (i := v) (by rw [HNJ.out]; exact hvj))
  obtain ⟨x, HX⟩ : ∃ x, Hid (rlAt rls v = x) := ⟨_, Lib.hid rfl⟩
  rw [HX.out] at q0 q1 q2 q3 q4 hnd hsmr
  obtain ⟨⟨va, vb, vc, vs⟩, lv, nds⟩ := x
  simp only at q0 q1 q2 q3 q4 hnd
  have HS100 : Hid (vs.size ≤ 100) := Lib.hid hsmr.2.1
  have HSN : Hid (∀ p ∈ nds, SmR p.2) := Lib.hid hsmr.2.2
  have HN3 : Hid (nds.length = n3) := Lib.hid hnd.1
  have hn3 : n3 ≤ 12 := by have := hsmr.1; have h9 : nds.length = n3 := HN3.out; have h8 : nds.length ≤ 12 := this; omega
  have HRLS := Lib.hid hrr
  have HND := Lib.hid hnd
  have HV : Hid (relE n i rls v = if Ver.right ⟨va, vb, vc, bs vs⟩ = false then 34 else if 0 < v ∧ 0 ≤ cmpV (vOf (rlAt rls (v - 1)).1) ⟨va, vb, vc, bs vs⟩ then 32 else if lv < (if 0 < v then (rlAt rls (v - 1)).2.1 else 0) ∨ 1000 < lv then 35 else if 8 < n3 then 36 else needsE n i nds) := Lib.hid (by unfold relE; rw [HX.out]; rw [HN3.out]; rfl)
  obtain ⟨W, HW⟩ : ∃ W, Hid (W = (w.alloc (.cells #[.slice (some ⟨b1, o1, none⟩) n c] 24)).alloc (.cells #[.int .i64 va, .int .i64 vb, .int .i64 vc, .string vs, .int .i64 lv, .slice A3 n3 c3] 91)) := ⟨_, Lib.hid rfl⟩
  have hbl : Below w.heap.size w W := by rw [HW.out]; exact ((Below.refl _ w).alloc (Nat.le_refl _) _).alloc (by simp) _
  have hz : W.heap.size = w.heap.size + 2 := by rw [HW.out]; simp
  have H0 : Hid (W.heap[w.heap.size]? = some (.cells #[.slice (some ⟨b1, o1, none⟩) n c] 24 (0, 0))) := Lib.hid (by
    rw [HW.out, Below.heap_alloc _ _ _ (by simp)]; exact heap_new w _)
  have H1 : Hid (W.heap[w.heap.size + 1]? = some (.cells #[.int .i64 va, .int .i64 vb, .int .i64 vc, .string vs, .int .i64 lv, .slice A3 n3 c3] 91 (0, 0))) := Lib.hid (by
    rw [HW.out]
    have h := heap_new (w.alloc (.cells #[.slice (some ⟨b1, o1, none⟩) n c] 24)) (.cells #[.int .i64 va, .int .i64 vb, .int .i64 vc, .string vs, .int .i64 lv, .slice A3 n3 c3] 91)
    rw [World.size_alloc] at h; exact h)
  have HA0 := Lib.hid h
  have HA := Lib.hid (h.below hbl)
  have HBL := Lib.hid hbl
  have HRT := Lib.hid (Right_any va vb vc vs W (by have := HS100.out; omega) HA.out.len HA.out.one)
  clear hbl h hrr hsm hsm2 hnd hsmr
  go_enter Tryz.func47, Tryz.ntmps47
  go_upto_region 3 with fail
  change Code.wp _ _ _ _ ((w.alloc (.cells #[.slice (some ⟨b1, o1, none⟩) n c] 24)).alloc (.cells #[.int .i64 va, .int .i64 vb, .int .i64 vc, .string vs, .int .i64 lv, .slice A3 n3 c3] 91))
  rw [← HW.out]
  clear k0 k1 q0 q1 q2 q3 q4 q5
  obtain ⟨y0, y1, y2, y3, y4, y5, yf⟩ := r6_cells H1.out
  go_wp2_with fail
  refine HRT.out.mono ?_
  rintro e w2 ⟨rfl, hb⟩
  have HB2 : Hid (Below w.heap.size w w2) := Lib.hid (HBL.out.trans (hb.mono HBL.out.size))
  have K2 : Hid (w2.heap[w.heap.size + 1]? = _) := Lib.hid ((hb.block (w.heap.size + 1) (heapE_lt H1.out)).trans H1.out)
  have K0 : Hid (w2.heap[w.heap.size]? = _) := Lib.hid ((hb.block w.heap.size (heapE_lt H0.out)).trans H0.out)
  have HA2 := Lib.hid (HA.out.below hb)
  clear hb y0 y1 y2 y3 y4 y5 yf HRT
  cases hq : Ver.right ⟨va, vb, vc, bs vs⟩ with
  | false =>
    have HE : Hid (relE n i rls v = 34) := Lib.hid (by rw [HV.out, hq]; rfl)
    clear hq
    go_wp2_with fail
    refine bodyPost_ret (results_tmp rfl _ _ _) rfl ⟨?_, HB2.out⟩
    exact congrArg (fun b => Ending.returned (.int .i64 b)) HE.out.symm
  | true =>
    have HQ := Lib.hid hq
    clear hq
    by_cases hv0 : v = 0
    · subst hv0
      have HV2 : Hid (relE n i rls 0 = if lv < 0 ∨ 1000 < lv then 35 else if 8 < n3 then 36 else needsE n i nds) := Lib.hid (by rw [HV.out, HQ.out, if_neg (by decide), if_neg (by omega), if_neg (show ¬ 0 < 0 by omega)])
      have hzv : decide ((0 : Int) < ((0 : Nat) : Int)) = false := by simp
      have HND2 : Hid (RdJ 2 pnI w2 (fun b => B ≤ b) A3 n3 nds) := Lib.hid (RdJ.below' pn_turns HND.out hle HB2.out)
      have HCN := Lib.hid (checkNeeds_any (i := i) HA2.out (by omega) HND2.out hcap3 hn3 HSN.out)
      obtain ⟨y0, y1, y2, y3, y4, y5, yf⟩ := r6_cells K2.out
      obtain ⟨x0, _⟩ := row1f K0.out
      by_cases hl : lv < 0 ∨ 1000 < lv
      · have HE : Hid (relE n i rls 0 = 35) := Lib.hid (by rw [HV2.out, if_pos hl])
        by_cases h1 : lv < 0
        · have d1 : decide (lv < 0) = true := decide_eq_true h1
          clear hl
          go_wp2_with fail
          refine bodyPost_ret (results_tmp rfl _ _ _) rfl ⟨?_, HB2.out⟩
          exact congrArg (fun b => Ending.returned (.int .i64 b)) HE.out.symm
        · have d1 : decide (lv < 0) = false := decide_eq_false h1
          have d2 : decide (1000 < lv) = true := decide_eq_true (by omega)
          have h2 : 1000 < lv := by omega
          clear hl
          go_wp2_with fail
          refine bodyPost_ret (results_tmp rfl _ _ _) rfl ⟨?_, HB2.out⟩
          exact congrArg (fun b => Ending.returned (.int .i64 b)) HE.out.symm
      · have d1 : decide (lv < 0) = false := decide_eq_false (by omega)
        have d2 : decide (1000 < lv) = false := decide_eq_false (by omega)
        have HV4 : Hid (relE n i rls 0 = if 8 < n3 then 36 else needsE n i nds) := Lib.hid (by rw [HV2.out, if_neg hl])
        have h1 : ¬ lv < 0 := by omega
        have h2 : ¬ 1000 < lv := by omega
        clear hl
        by_cases h8 : 8 < n3
        · have d3 : decide ((8 : Int) < (n3 : Int)) = true := by simp; omega
          have HE : Hid (relE n i rls 0 = 36) := Lib.hid (by rw [HV4.out, if_pos h8])
          clear h8
          go_wp2_with fail
          refine bodyPost_ret (results_tmp rfl _ _ _) rfl ⟨?_, HB2.out⟩
          exact congrArg (fun b => Ending.returned (.int .i64 b)) HE.out.symm
        · have d3 : decide ((8 : Int) < (n3 : Int)) = false := by simp; omega
          have HE : Hid (relE n i rls 0 = needsE n i nds) := Lib.hid (by rw [HV4.out, if_neg h8])
          clear h8
          go_wp2_with fail
          refine HCN.out.mono ?_
          rintro e w5 ⟨rfl, hb⟩
          have HB5 : Hid (Below w.heap.size w w5) := Lib.hid (HB2.out.trans (hb.mono HB2.out.size))
          clear hb
          go_wp2_with fail
          refine bodyPost_ret (results_tmp rfl _ _ _) rfl ⟨?_, HB5.out⟩
          exact congrArg (fun b => Ending.returned (.int .i64 b)) HE.out.symm
    · obtain ⟨u, rfl⟩ : ∃ u, v = u + 1 := ⟨v - 1, by omega⟩
      have hpos : decide ((0 : Int) < ((u + 1 : Nat) : Int)) = true := decide_eq_true (by omega)
      have hsub : IntKind.i64.wrap (((u + 1 : Nat) : Int) - 1) = (u : Int) := by rw [IntWalk.i64_in _ (by omega)]; omega
      have hsub2 : IntKind.i64.wrap ((u : Int) + 1 - 1) = (u : Int) := by rw [IntWalk.i64_in _ (by omega)]; omega
      have hsub3 : IntKind.i64.wrap (u : Int) = (u : Int) := by rw [IntWalk.i64_in _ (by omega)]
      have hu0 : (0 : Int) ≤ (u : Int) := by omega
      have HRL2 : Hid (RdJ 6 reI w2 (fun b => B ≤ b) (some ⟨b2, o2, none⟩) nj rls) := Lib.hid (RdJ.below' re_turns HRLS.out hle HB2.out)
      have huj : u < nj := by omega
      have hui : (u : Int) < (nj : Int) := by omega
      obtain ⟨b2', o2', A4, n4, c4, he, hb2', p0, p1, p2, p3, p4, p5, _, hnd4⟩ := rl_at HRL2.out huj
      injection he with he
      injection he with e1 e2
      subst e1 e2
      have hsp := (HA0.out.sm.2 _ (svAt_mem (i := i) (by rw [HN.out]; exact hi))).2.2
      rw [HRL.out] at hsp
      have hsp1 := (hsp _ (rlAt_mem (i := u) (by rw [HNJ.out]; exact huj))).2.1
      obtain ⟨y, HY⟩ : ∃ y, Hid (rlAt rls u = y) := ⟨_, Lib.hid rfl⟩
      rw [HY.out] at p0 p1 p2 p3 p4 hsp1
      obtain ⟨⟨pa, pb, pc, ps⟩, pl, pn⟩ := y
      simp only at p0 p1 p2 p3 p4 hsp1
      have HPS := Lib.hid hsp1
      have hb2w2 : b2 < w2.heap.size := by have := HB2.out.size; omega
      obtain ⟨cr, HCR⟩ : ∃ cr, Hid (cmpV ⟨pa, pb, pc, bs ps⟩ ⟨va, vb, vc, bs vs⟩ = cr) := ⟨_, Lib.hid rfl⟩
      have HV2 : Hid (relE n i rls (u + 1) = if 0 ≤ cr then 32 else if lv < pl ∨ 1000 < lv then 35 else if 8 < n3 then 36 else needsE n i nds) := Lib.hid (by
        rw [HV.out, HQ.out, if_neg (by decide), Nat.add_sub_cancel, HY.out]
        simp only [vOf, show 0 < u + 1 by omega, if_true, true_and]; rw [HCR.out])
      have HCM : Hid (Calls Tryz.prog 76 #[verV pa pb pc ps, verV va vb vc vs] (w2.drewN 1) fun e w' => e = .returned (.int .i64 cr) ∧ Below (w2.drewN 1).heap.size (w2.drewN 1) w') := Lib.hid (by rw [← HCR.out]; exact Compare_any pa pb pc ps va vb vc vs (w2.drewN 1) (by have := HPS.out; omega) (by have := HS100.out; omega) HA2.out.len HA2.out.one)
      obtain ⟨y0, y1, y2, y3, y4, y5, yf⟩ := r6_cells K2.out
      clear hnd4 hsp hsp1 hv hv0
      go_wp2_with fail
      go_region_held3 (fun W => W.cell? ⟨b2, o2 + u * 6, none⟩ = some (.int .i64 pa) ∧ W.cell? ⟨b2, o2 + u * 6 + 1, none⟩ = some (.int .i64 pb) ∧ W.cell? ⟨b2, o2 + u * 6 + 2, none⟩ = some (.int .i64 pc) ∧ W.cell? ⟨b2, o2 + u * 6 + 3, none⟩ = some (.string ps) ∧ W.cell? ⟨w.heap.size + 1, 0, none⟩ = some (.int .i64 va) ∧ W.cell? ⟨w.heap.size + 1, 1, none⟩ = some (.int .i64 vb) ∧ W.cell? ⟨w.heap.size + 1, 2, none⟩ = some (.int .i64 vc) ∧ W.cell? ⟨w.heap.size + 1, 3, none⟩ = some (.string vs)) ((first | exact ⟨p0, p1, p2, p3, y0, y1, y2, y3⟩ | exact ⟨z0, z1, z2, z3, z4, z5, z6, z7⟩ | go_keep)) (first
        | (go_at_call 76; refine HCM.out.mono ?_; rintro e w3 ⟨rfl, hb'⟩; (have hb : Below w2.heap.size w2 w3 := (Below.drewN' (Below.refl _ w2) 1).trans hb'); (have z0 := (hb.cell (p := ⟨b2, o2 + u * 6, none⟩) hb2w2).trans p0); (have z1 := (hb.cell (p := ⟨b2, o2 + u * 6 + 1, none⟩) hb2w2).trans p1); (have z2 := (hb.cell (p := ⟨b2, o2 + u * 6 + 2, none⟩) hb2w2).trans p2); (have z3 := (hb.cell (p := ⟨b2, o2 + u * 6 + 3, none⟩) hb2w2).trans p3); (have hkk := (hb.block (w.heap.size + 1) (heapE_lt K2.out)).trans K2.out); (obtain ⟨z4, z5, z6, z7, _⟩ := r6_cells hkk); (have HBW3 := Lib.hid hb); clear hb hb' hkk))
      have hb := HBW3.out
      have HB3 : Hid (Below w.heap.size w w3) := Lib.hid (HB2.out.trans (hb.mono HB2.out.size))
      have K3 : Hid (w3.heap[w.heap.size + 1]? = _) := Lib.hid ((hb.block (w.heap.size + 1) (heapE_lt K2.out)).trans K2.out)
      have K03 : Hid (w3.heap[w.heap.size]? = _) := Lib.hid ((hb.block w.heap.size (heapE_lt K0.out)).trans K0.out)
      have HA3 := Lib.hid (HA2.out.below hb)
      have p4' := (hb.cell (p := ⟨b2, o2 + u * 6 + 4, none⟩) (by show b2 < w2.heap.size; omega)).trans p4
      clear hb HBW3 y0 y1 y2 y3 y4 y5 yf HCM p0 p1 p2 p3 p4 p5 z0 z1 z2 z3 z4 z5 z6 z7
      by_cases hc : 0 ≤ cr
      · have HE : Hid (relE n i rls (u + 1) = 32) := Lib.hid (by rw [HV2.out, if_pos hc])
        have hd : decide (0 ≤ cr) = true := decide_eq_true hc
        go_wp2_with fail
        refine bodyPost_ret (results_tmp rfl _ _ _) rfl ⟨?_, HB3.out⟩
        exact congrArg (fun b => Ending.returned (.int .i64 b)) HE.out.symm
      · have HV3 : Hid (relE n i rls (u + 1) = if lv < pl ∨ 1000 < lv then 35 else if 8 < n3 then 36 else needsE n i nds) := Lib.hid (by rw [HV2.out, if_neg hc])
        have hd : decide (0 ≤ cr) = false := decide_eq_false hc
        have HND2 : Hid (RdJ 2 pnI w3 (fun b => B ≤ b) A3 n3 nds) := Lib.hid (RdJ.below' pn_turns HND.out hle HB3.out)
        have HCN := Lib.hid (checkNeeds_any (i := i) HA3.out (by omega) HND2.out hcap3 hn3 HSN.out)
        obtain ⟨y0, y1, y2, y3, y4, y5, yf⟩ := r6_cells K3.out
        obtain ⟨x0, _⟩ := row1f K03.out
        by_cases hl : lv < pl ∨ 1000 < lv
        · have HE : Hid (relE n i rls (u + 1) = 35) := Lib.hid (by rw [HV3.out, if_pos hl])
          by_cases h1 : lv < pl
          · have d1 : decide (lv < pl) = true := decide_eq_true h1
            clear hl
            go_wp2_with fail
            refine bodyPost_ret (results_tmp rfl _ _ _) rfl ⟨?_, HB3.out⟩
            exact congrArg (fun b => Ending.returned (.int .i64 b)) HE.out.symm
          · have d1 : decide (lv < pl) = false := decide_eq_false h1
            have d2 : decide (1000 < lv) = true := decide_eq_true (by omega)
            have h2 : 1000 < lv := by omega
            clear hl
            go_wp2_with fail
            refine bodyPost_ret (results_tmp rfl _ _ _) rfl ⟨?_, HB3.out⟩
            exact congrArg (fun b => Ending.returned (.int .i64 b)) HE.out.symm
        · have d1 : decide (lv < pl) = false := decide_eq_false (by omega)
          have d2 : decide (1000 < lv) = false := decide_eq_false (by omega)
          have HV4 : Hid (relE n i rls (u + 1) = if 8 < n3 then 36 else needsE n i nds) := Lib.hid (by rw [HV3.out, if_neg hl])
          have h1 : ¬ lv < pl := by omega
          have h2 : ¬ 1000 < lv := by omega
          clear hl
          by_cases h8 : 8 < n3
          · have d3 : decide ((8 : Int) < (n3 : Int)) = true := by simp; omega
            have HE : Hid (relE n i rls (u + 1) = 36) := Lib.hid (by rw [HV4.out, if_pos h8])
            clear h8
            go_wp2_with fail
            refine bodyPost_ret (results_tmp rfl _ _ _) rfl ⟨?_, HB3.out⟩
            exact congrArg (fun b => Ending.returned (.int .i64 b)) HE.out.symm
          · have d3 : decide ((8 : Int) < (n3 : Int)) = false := by simp; omega
            have HE : Hid (relE n i rls (u + 1) = needsE n i nds) := Lib.hid (by rw [HV4.out, if_neg h8])
            clear h8
            go_wp2_with fail
            refine HCN.out.mono ?_
            rintro e w5 ⟨rfl, hb⟩
            have HB5 : Hid (Below w.heap.size w w5) := Lib.hid (HB3.out.trans (hb.mono HB3.out.size))
            clear hb
            go_wp2_with fail
            refine bodyPost_ret (results_tmp rfl _ _ _) rfl ⟨?_, HB5.out⟩
            exact congrArg (fun b => Ending.returned (.int .i64 b)) HE.out.symm
end Go.Proofs.YtlodledcglleiaaGreat

namespace Go.Proofs.YtlodledcglleiaaGreat
open Go.RowKit
open SemP DiP
set_option linter.unusedVariables false
set_option linter.unusedSimpArgs false
set_option maxRecDepth 10000
def t3V (t : T3) : Value := .tuple #[.int .i64 t.1, .int .i64 t.2.1, .int .i64 t.2.2]
theorem chkC_hit {l : List Sv} {i : Nat} (h1 : ¬ (l.length < 1 ∨ 12 < l.length)) (hi : i < l.length) (h : ∀ j, j < i → bad3 (chkS l j) = false) {t : T3} (ht : chkS l i = t) (hb : t.2.2 ≠ 0) : chkC l = t := by
  have e : fst1 bad3 (0, 0, 0) (chkS l) l.length = t := by rw [fst1_hit rfl h (by rw [ht]; exact bad3_yes.2 hb) hi, ht]
  unfold chkC
  rw [if_neg h1, e, if_pos (bad3_yes.2 hb)]
theorem chkC_end {l : List Sv} (h1 : ¬ (l.length < 1 ∨ 12 < l.length)) (h : ∀ j, j < l.length → bad3 (chkS l j) = false) : chkC l = if Goes (befG (grE l)) l.length l.length then (0, 0, 0) else (0, 0, 21) := by
  have e : fst1 bad3 (0, 0, 0) (chkS l) l.length = (0, 0, 0) := fst1_ok rfl h
  unfold chkC
  rw [if_neg h1, e, if_neg (by decide)]
theorem chkS_svc {l : List Sv} {i : Nat} {e : Int} (h : svcE l i = e) (h0 : e ≠ 0) : chkS l i = ((i : Int), -1, e) := by
  unfold chkS; rw [h, if_pos h0]
theorem chkS_rel {l : List Sv} {i v : Nat} {e : Int} (h : svcE l i = 0) (hv : v < (svAt l i).2.length) (hj : ∀ j, j < v → bad3 (relT l i j) = false) (he : relE l.length i (svAt l i).2 v = e) (h0 : e ≠ 0) : chkS l i = ((i : Int), (v : Int), e) := by
  unfold chkS
  rw [h, if_neg (by decide), fst1_hit rfl hj (bad3_yes.2 (by show relE _ _ _ _ ≠ 0; rw [he]; exact h0)) hv]
  unfold relT; rw [he]
theorem chkS_ok {l : List Sv} {i : Nat} (h : svcE l i = 0) (hj : ∀ j, j < (svAt l i).2.length → bad3 (relT l i j) = false) : bad3 (chkS l i) = false := by
  unfold chkS
  rw [h, if_neg (by decide), fst1_ok rfl hj]; rfl
theorem grE_len {l : List Sv} {n : Nat} (h : l.length = n) (hn : n ≤ 16) : (grE l).length ≤ 256 := by
  have h1 := grK_len l l.length
  have h2 : l.length * l.length ≤ 16 * 16 := Nat.mul_le_mul (by omega) (by omega)
  unfold grE; omega
set_option maxHeartbeats 16000000 in
theorem check_any {w : World} {B n c : Nat} {A : Option Addr} {l : List Sv} (h : CatAt w B A n c l) :
    Calls Tryz.prog 22 #[.agg #[.slice A n c]] w fun e w' => e = .returned (t3V (chkC l)) ∧ Below w.heap.size w w' := by
  have HN : Hid (l.length = n) := Lib.hid h.rd.1
  have hn16 := h.n16
  have hbl : Below w.heap.size w (w.alloc (.cells #[.slice A n c] 24)) := (Below.refl _ w).alloc (Nat.le_refl _) _
  obtain ⟨W, HW⟩ : ∃ W, Hid (W = w.alloc (.cells #[.slice A n c] 24)) := ⟨_, Lib.hid rfl⟩
  rw [← HW.out] at hbl
  have H0 : Hid (W.heap[w.heap.size]? = some (.cells #[.slice A n c] 24 (0, 0))) := Lib.hid (by rw [HW.out]; exact heap_new w _)
  have HA0 := Lib.hid h
  have HBL := Lib.hid hbl
  have hzW : W.heap.size = w.heap.size + 1 := by rw [HW.out]; simp
  clear h hbl
  obtain ⟨x0, _⟩ := row1f H0.out
  go_enter Tryz.func22, Tryz.ntmps22
  go_upto_region 1 with fail
  change Code.wp _ _ _ _ (w.alloc (.cells #[.slice A n c] 24))
  rw [← HW.out]
  by_cases h1 : n < 1
  · have HV : Hid (chkC l = (0, 0, 36)) := Lib.hid (by unfold chkC; rw [if_pos (.inl (by rw [HN.out]; exact h1))])
    have d1 : decide ((n : Int) < 1) = true := by simp; omega
    have p1 : (n : Int) < 1 := by omega
    go_wp2_with fail
    refine bodyPost_ret (results_tmp3 rfl _ _ _) rfl ⟨?_, HBL.out⟩
    exact congrArg (fun b => Ending.returned (t3V b)) HV.out.symm
  have d1 : decide ((n : Int) < 1) = false := by simp; omega
  have p1 : ¬ (n : Int) < 1 := by omega
  by_cases h2 : 12 < n
  · have HV : Hid (chkC l = (0, 0, 36)) := Lib.hid (by unfold chkC; rw [if_pos (.inr (by rw [HN.out]; exact h2))])
    have d2 : decide ((12 : Int) < (n : Int)) = true := by simp; omega
    have p2 : (12 : Int) < (n : Int) := by omega
    go_wp2_with fail
    refine bodyPost_ret (results_tmp3 rfl _ _ _) rfl ⟨?_, HBL.out⟩
    exact congrArg (fun b => Ending.returned (t3V b)) HV.out.symm
  have d2 : decide ((12 : Int) < (n : Int)) = false := by simp; omega
  have p2 : ¬ (12 : Int) < (n : Int) := by omega
  have HNB : Hid (¬ (l.length < 1 ∨ 12 < l.length)) := Lib.hid (by rw [HN.out]; omega)
  go_wp2_with fail
  clear x0
  go_loopw [5, 6, 7, 8, 24] (fun _ _ _ _ v wr => ∃ i : Nat, i ≤ n ∧ v = .int .i64 (i : Int) ∧ Hid (Below W.heap.size W wr) ∧ Hid (∀ j, j < i → bad3 (chkS l j) = false)) (fun _ _ _ _ v _ => n - (intOf v).toNat)
  case atStart => exact ⟨0, Nat.zero_le _, rfl, Lib.hid (Below.refl _ _), Lib.hid (fun j h => absurd h (by omega))⟩
  case round =>
    obtain ⟨wo, hwo⟩ : ∃ x, x = wr := ⟨_, rfl⟩
    subst hwo
    obtain ⟨i, hi, rfl, HR, HOK⟩ := hrel
    have hzr := HR.out.size
    have HB : Hid (Below w.heap.size w wo) := Lib.hid (HBL.out.trans (HR.out.mono (by omega)))
    have K0 : Hid (wo.heap[w.heap.size]? = _) := Lib.hid ((HR.out.block w.heap.size (by omega)).trans H0.out)
    obtain ⟨x0, _⟩ := row1f K0.out
    by_cases hin : i < n
    · have hd : decide ((i : Int) < (n : Int)) = true := by simp; omega
      have hii : (i : Int) < (n : Int) := by omega
      have hadd : IntKind.i64.wrap ((i : Int) + 1) = ((i + 1 : Nat) : Int) := by rw [IntWalk.i64_in _ (by omega)]; omega
      have HA := Lib.hid (HA0.out.below HB.out)
      have HSV := Lib.hid (checkService_any HA.out hin)
      have HIL : Hid (i < l.length) := Lib.hid (by rw [HN.out]; exact hin)
      obtain ⟨sv, HE⟩ : ∃ sv, Hid (svcE l i = sv) := ⟨_, Lib.hid rfl⟩
      rw [HE.out] at HSV
      go_wp2_with fail
      refine HSV.out.mono ?_
      rintro e w1 ⟨rfl, hb⟩
      have HR1 : Hid (Below W.heap.size W w1) := Lib.hid (HR.out.trans (hb.mono hzr))
      have HB1 : Hid (Below w.heap.size w w1) := Lib.hid (HB.out.trans (hb.mono HB.out.size))
      have K1 : Hid (w1.heap[w.heap.size]? = _) := Lib.hid ((hb.block w.heap.size (heapE_lt K0.out)).trans K0.out)
      clear hb x0 HSV
      by_cases hs0 : sv = 0
      · subst hs0
        have HA1 := Lib.hid (HA0.out.below HB1.out)
        obtain ⟨b1, o1, Aj, nj, cj, hA, hb1, k0, k1, hcap, hrr⟩ := sv_at HA1.out.rd hin
        subst hA
        have HNJ : Hid ((svAt l i).2.length = nj) := Lib.hid hrr.1
        have hnj : nj ≤ 16 := by have := (HA0.out.sm.2 _ (svAt_mem HIL.out)).2.1; have := HNJ.out; omega
        obtain ⟨x0, _⟩ := row1f K1.out
        clear hrr
        go_wp2_with fail
        clear x0 k0 k1
        go_loopw [7, 8, 41] (fun _ _ v wr => ∃ k : Nat, k ≤ nj ∧ v = .int .i64 (k : Int) ∧ Hid (Below W.heap.size W wr) ∧ Hid (∀ j, j < k → bad3 (relT l i j) = false)) (fun _ _ v _ => nj - (intOf v).toNat)
        case atStart => exact ⟨0, Nat.zero_le _, rfl, HR1, Lib.hid (fun j h => absurd h (by omega))⟩
        case round =>
          obtain ⟨wi, hwi⟩ : ∃ x, x = wr := ⟨_, rfl⟩
          subst hwi
          obtain ⟨k, hk, rfl, HRi, HOKi⟩ := hrel
          have hzi := HRi.out.size
          have HBi : Hid (Below w.heap.size w wi) := Lib.hid (HBL.out.trans (HRi.out.mono (by omega)))
          have Ki : Hid (wi.heap[w.heap.size]? = _) := Lib.hid ((HRi.out.block w.heap.size (by omega)).trans H0.out)
          obtain ⟨x0, _⟩ := row1f Ki.out
          by_cases hkn : k < nj
          · have hd2 : decide ((k : Int) < (nj : Int)) = true := by simp; omega
            have hki : (k : Int) < (nj : Int) := by omega
            have hadd2 : IntKind.i64.wrap ((k : Int) + 1) = ((k + 1 : Nat) : Int) := by rw [IntWalk.i64_in _ (by omega)]; omega
            have HKL : Hid (k < (svAt l i).2.length) := Lib.hid (by rw [HNJ.out]; exact hkn)
            have HRE := Lib.hid (checkRelease_any (HA0.out.below HBi.out) hin HKL.out)
            obtain ⟨re, HRR⟩ : ∃ re, Hid (relE n i (svAt l i).2 k = re) := ⟨_, Lib.hid rfl⟩
            rw [HRR.out] at HRE
            go_wp2_with fail
            refine HRE.out.mono ?_
            rintro e w2 ⟨rfl, hb⟩
            have HR2 : Hid (Below W.heap.size W w2) := Lib.hid (HRi.out.trans (hb.mono hzi))
            have HB2 : Hid (Below w.heap.size w w2) := Lib.hid (HBi.out.trans (hb.mono HBi.out.size))
            clear hb x0 HRE
            by_cases hr0 : re = 0
            · subst hr0
              have HOKn : Hid (bad3 (relT l i k) = false) := Lib.hid (bad3_no.2 (by show relE _ _ _ _ = 0; rw [HN.out, HRR.out]))
              go_wp2_with fail
              go_roundw
              case rel => exact ⟨k + 1, by omega, by go_num, HR2, Lib.hid (fun j hj => by
                by_cases e : j = k
                · subst e; exact HOKn.out
                · exact HOKi.out j (by omega))⟩
              case measure => simp [intOf]; omega
            · have hne : (re != 0) = true := by rw [bne_iff_ne]; exact hr0
              have HV : Hid (chkC l = ((i : Int), (k : Int), re)) := Lib.hid (chkC_hit HNB.out HIL.out HOK.out (chkS_rel HE.out HKL.out HOKi.out (by rw [HN.out]; exact HRR.out) hr0) hr0)
              go_wp2_with fail
              refine bodyPost_ret (results_tmp3 rfl _ _ _) rfl ⟨?_, HB2.out⟩
              exact congrArg (fun b => Ending.returned (t3V b)) HV.out.symm
          · have hd2 : decide ((k : Int) < (nj : Int)) = false := by simp; omega
            obtain rfl : k = nj := by omega
            have HOKn : Hid (bad3 (chkS l i) = false) := Lib.hid (chkS_ok HE.out (by rw [HNJ.out]; exact HOKi.out))
            go_wp2_with fail
            go_roundw
            case rel => exact ⟨i + 1, by omega, by go_num, HRi, Lib.hid (fun j hj => by
              by_cases e : j = i
              · subst e; exact HOKn.out
              · exact HOK.out j (by omega))⟩
            case measure => simp [intOf]; omega
      · have hne : (sv != 0) = true := by rw [bne_iff_ne]; exact hs0
        have HV : Hid (chkC l = ((i : Int), -1, sv)) := Lib.hid (chkC_hit HNB.out HIL.out HOK.out (chkS_svc HE.out hs0) hs0)
        go_wp2_with fail
        refine bodyPost_ret (results_tmp3 rfl _ _ _) rfl ⟨?_, HB1.out⟩
        exact congrArg (fun b => Ending.returned (t3V b)) HV.out.symm
    · have hd : decide ((i : Int) < (n : Int)) = false := by simp; omega
      obtain rfl : i = n := by omega
      have HV : Hid (chkC l = if Goes (befG (grE l)) i i then (0, 0, 0) else (0, 0, 21)) := Lib.hid (by
        rw [chkC_end HNB.out (by rw [HN.out]; exact HOK.out), HN.out])
      have HGR := Lib.hid (graph_any (HA0.out.below HB.out))
      go_wp2_with fail
      refine HGR.out.mono ?_
      rintro e w1 ⟨A', c', rfl, hed, hb⟩
      have HB1 : Hid (Below w.heap.size w w1) := Lib.hid (HB.out.trans (hb.mono HB.out.size))
      have HOR := Lib.hid (order_any (c := c') hed (by have := grE_inN l; rw [HN.out] at this; exact this) (by omega) (by have := grE_len HN.out hn16; omega) (Nat.le_refl _))
      clear hb hed x0 HGR
      go_wp2_with fail
      refine HOR.out.mono ?_
      rintro e w2 ⟨hb, ho⟩
      have HB2 : Hid (Below w.heap.size w w2) := Lib.hid (HB1.out.trans (hb.mono HB1.out.size))
      clear hb HOR
      rcases ho with ⟨hg, A2, c2, rfl, _⟩ | ⟨hg, rfl⟩
      · have HX : Hid (chkC l = (0, 0, 0)) := Lib.hid (by rw [HV.out, if_pos hg])
        clear hg
        go_wp2_with fail
        refine bodyPost_ret (results_tmp3 rfl _ _ _) rfl ⟨?_, HB2.out⟩
        exact congrArg (fun b => Ending.returned (t3V b)) HX.out.symm
      · have HX : Hid (chkC l = (0, 0, 21)) := Lib.hid (by rw [HV.out, if_neg hg])
        clear hg
        go_wp2_with fail
        refine bodyPost_ret (results_tmp3 rfl _ _ _) rfl ⟨?_, HB2.out⟩
        exact congrArg (fun b => Ending.returned (t3V b)) HX.out.symm
end Go.Proofs.YtlodledcglleiaaGreat
