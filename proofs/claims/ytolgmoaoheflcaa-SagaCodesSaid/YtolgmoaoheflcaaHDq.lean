/-
  CONTRACT: the document's Decode (printed by genhdq.py).
-/
import Derived.Test.YtolgmoaoheflcaaHDe
namespace Go.Proofs.Ytolgmoaoheflcaa
open Go.RowKit
open ByteP CodeP
set_option linter.unusedVariables false
set_option linter.unusedSimpArgs false
set_option maxRecDepth 10000
theorem Rfr.kept {w w' : World} {rb B p : Nat} {bs : List Int} {e : Int} (h : Rfr w rb B bs p e) (h1 : w'.heap[rb]? = w.heap[rb]?) (h2 : Below B w w') : Rfr w' rb B bs p e := by
  obtain ⟨A, c, a, b, d⟩ := h.row
  exact ⟨⟨A, c, h1.trans a, b.below h2, d⟩, h.le, h.lt⟩
theorem StQ.kept {w w' : World} {rb B : Nat} {bs : List Int} {s : Sum Int (List Int)} (h : StQ w rb B bs s) (h1 : w'.heap[rb]? = w.heap[rb]?) (h2 : Below B w w') : StQ w' rb B bs s := by
  cases s with
  | inl e => exact ⟨h.1, h.2.choose, h.2.choose_spec.kept h1 h2⟩
  | inr r => exact ⟨h.choose, h.choose_spec.1.kept h1 h2, h.choose_spec.2⟩
theorem all_lst (r : List Int) : all r = match lst r with | .inl e => .inl e | .inr (l, r') => if r' = [] then .inr l else .inl 12 := rfl
def DecQ (bs : List Int) (kd sp : Int) (er : Int) : Prop := er = decE bs ∧ (er = 0 → kd = bs.headD 0 ∧ sp = decN kd bs.tail)
theorem DecQ.bad {bs : List Int} {kd sp er : Int} (h : decE bs = er) (h0 : er ≠ 0) : DecQ bs kd sp er := ⟨h.symm, fun e => absurd e h0⟩
set_option maxHeartbeats 16000000 in
theorem decodeQ_any {w : World} {B n c : Nat} {A : Option Addr} {bs : List Int} (hr : RdY w B A n bs) (hc : CapA A n c) (hB : B ≤ w.heap.size) (hb : Bytes bs) (hl : n ≤ 10000) :
    Calls Try.prog 21 #[.slice A n c] w fun en w' => ∃ kd sp A1 n1 c1 A2 n2 c2 A3 n3 c3 A4 n4 c4 er, en = .returned (.tuple #[.agg #[.int .i64 kd, .int .i64 sp, .slice A1 n1 c1, .slice A2 n2 c2, .slice A3 n3 c3, .slice A4 n4 c4], .int .i64 er]) ∧ Below w.heap.size w w' ∧ DecQ bs kd sp er := by
  have hlen := hr.len
  obtain rfl := hlen
  obtain ⟨V, HV0⟩ : ∃ V, Hid (V = w.alloc (.cells #[.int .i64 0, .int .i64 0, .slice none 0 0, .slice none 0 0, .slice none 0 0, .slice none 0 0] 55)) := ⟨_, Lib.hid rfl⟩
  have HBV : Hid (Below w.heap.size w V) := Lib.hid (by rw [HV0.out]; exact (Below.refl _ w).alloc (Nat.le_refl _) _)
  have HZV : Hid (V.heap.size = w.heap.size + 1) := Lib.hid (by rw [HV0.out]; simp)
  have G0 : Hid (V.heap[w.heap.size]? = some (.cells #[.int .i64 0, .int .i64 0, .slice none 0 0, .slice none 0 0, .slice none 0 0, .slice none 0 0] 55 (0, 0))) := Lib.hid (by rw [HV0.out]; exact heap_new w _)
  cases bs with
  | nil =>
    have HDE : Hid (decE [] = 13) := Lib.hid rfl
    have HNE : Hid ((13 : Int) ≠ 0) := Lib.hid (by decide)
    obtain ⟨y0, y1, y2, y3, y4, y5⟩ := Sa.row6 G0.out
    have yf := Sa.free_row G0.out
    have q0 := yf 0; have q1 := yf 1; have q2 := yf 2; have q3 := yf 3; have q4 := yf 4; have q5 := yf 5
    clear yf hr hc hb
    go_enter Try.func21, Try.ntmps21
    go_upto_region 1 with fail
    change Code.wp _ _ _ _ (w.alloc (.cells #[.int .i64 0, .int .i64 0, .slice none 0 0, .slice none 0 0, .slice none 0 0, .slice none 0 0] 55))
    rw [← HV0.out]
    go_wp2_with fail
    refine bodyPost_ret (v := .tuple #[.agg #[.int .i64 0, .int .i64 0, .slice none 0 0, .slice none 0 0, .slice none 0 0, .slice none 0 0], .int .i64 13]) ?_ rfl ⟨0, 0, none, 0, 0, none, 0, 0, none, 0, 0, none, 0, 0, 13, rfl, set6_below HBV.out (Nat.le_refl _) _ _ _ _ _ _, DecQ.bad HDE.out HNE.out⟩
    rw [results_cell_tmp rfl]; go_simp
  | cons k r =>
    have hln : (k :: r).length = r.length + 1 := rfl
    rw [hln] at hr hc hl ⊢
    have hz : (((r.length + 1 : Nat) : Int) == 0) = false := by rw [beq_eq_false_iff_ne]; omega
    have hz' : (((r.length : Int) + 1) == 0) = false := by rw [beq_eq_false_iff_ne]; omega
    have hk0 : 0 ≤ k := by have := (hb 0).1; simpa [ix] using this
    have hk1 : k ≤ 255 := by have := (hb 0).2; simpa [ix] using this
    have hbr : Bytes r := fun i => by have := hb (i + 1); simpa [ix] using this
    obtain ⟨D, hs2, hrd2, hcap2⟩ := hsrE hc (q := 1) (by omega) hr
    obtain ⟨b1, o1, rfl, hb1, hcell⟩ := hr.at_ (k := 0) (by omega)
    have hix : ix (k :: r) 0 = k := rfl
    rw [hix, Nat.add_zero] at hcell
    have e1 : r.length + 1 - 1 = r.length := by omega
    rw [e1] at hs2 hrd2 hcap2
    have hs2' : ∀ w, (Instr.slice 44 (.slice (some ⟨b1, o1, none⟩) (r.length + 1) c) (some (.int .i64 1)) none none).run Try.prog w = .ok (.slice D r.length (c - 1)) w := hs2
    have hcV : V.cell? ⟨b1, o1, none⟩ = some (.int .u8 k) := (HBV.out.cell (p := ⟨b1, o1, none⟩) (by show b1 < w.heap.size; omega)).trans hcell
    obtain ⟨X, HXD⟩ : ∃ X, Hid (X = V.alloc (.cells #[.int .i64 k, .int .i64 0, .slice none 0 0, .slice none 0 0, .slice none 0 0, .slice none 0 0] 55)) := ⟨_, Lib.hid rfl⟩
    have HZX : Hid (X.heap.size = w.heap.size + 2) := Lib.hid (by rw [HXD.out, World.size_alloc, HZV.out])
    obtain ⟨W, HW⟩ : ∃ W, Hid (W = X.alloc (.cells #[.slice D r.length (c - 1), .int .i64 0, .int .i64 0] 86)) := ⟨_, Lib.hid rfl⟩
    have HBX : Hid (Below w.heap.size w X) := Lib.hid (by rw [HXD.out]; exact HBV.out.alloc HBV.out.size _)
    have HBL : Hid (Below w.heap.size w W) := Lib.hid (by rw [HW.out]; exact HBX.out.alloc HBX.out.size _)
    have HZ : Hid (W.heap.size = w.heap.size + 3) := Lib.hid (by rw [HW.out, World.size_alloc, HZX.out])
    have HX0 : Hid (X.heap[w.heap.size]? = some (.cells #[.int .i64 0, .int .i64 0, .slice none 0 0, .slice none 0 0, .slice none 0 0, .slice none 0 0] 55 (0, 0))) := Lib.hid (by rw [HXD.out, Below.heap_alloc _ _ _ (heapE_lt G0.out)]; exact G0.out)
    have HX1 : Hid (X.heap[w.heap.size + 1]? = some (.cells #[.int .i64 k, .int .i64 0, .slice none 0 0, .slice none 0 0, .slice none 0 0, .slice none 0 0] 55 (0, 0))) := Lib.hid (by
      rw [HXD.out]
      have h := heap_new V (.cells #[.int .i64 k, .int .i64 0, .slice none 0 0, .slice none 0 0, .slice none 0 0, .slice none 0 0] 55)
      rw [HZV.out] at h; exact h)
    have H0 : Hid (W.heap[w.heap.size]? = some (.cells #[.int .i64 0, .int .i64 0, .slice none 0 0, .slice none 0 0, .slice none 0 0, .slice none 0 0] 55 (0, 0))) := Lib.hid (by rw [HW.out, Below.heap_alloc _ _ _ (heapE_lt HX0.out)]; exact HX0.out)
    have H1 : Hid (W.heap[w.heap.size + 1]? = some (.cells #[.int .i64 k, .int .i64 0, .slice none 0 0, .slice none 0 0, .slice none 0 0, .slice none 0 0] 55 (0, 0))) := Lib.hid (by rw [HW.out, Below.heap_alloc _ _ _ (heapE_lt HX1.out)]; exact HX1.out)
    have H2 : Hid (W.heap[w.heap.size + 2]? = some (.cells #[.slice D r.length (c - 1), .int .i64 0, .int .i64 0] 86 (0, 0))) := Lib.hid (by
      rw [HW.out]
      have h := heap_new X (.cells #[.slice D r.length (c - 1), .int .i64 0, .int .i64 0] 86)
      rw [HZX.out] at h; exact h)
    have HRF : Hid (Rfr W (w.heap.size + 2) B r 0 0) := Lib.hid (by
      have h : RdY w B D r.length r := hrd2
      exact ⟨⟨D, c - 1, H2.out, h.below (HBL.out.mono hB), hcap2⟩, Nat.zero_le _, by omega⟩)
    have HX : Hid (∀ Z, W.grownBy Z (some (w.heap.size + 2)) → Z.heap[w.heap.size]? = some (.cells #[.int .i64 0, .int .i64 0, .slice none 0 0, .slice none 0 0, .slice none 0 0, .slice none 0 0] 55 (0, 0)) ∧ Z.heap[w.heap.size + 1]? = some (.cells #[.int .i64 k, .int .i64 0, .slice none 0 0, .slice none 0 0, .slice none 0 0, .slice none 0 0] 55 (0, 0)) ∧ Below w.heap.size w Z) := Lib.hid (fun Z hZ => ⟨(hZ.block _ (heapE_lt H0.out) (fun e => by injection e with e; omega)).trans H0.out, (hZ.block _ (heapE_lt H1.out) (fun e => by injection e with e; omega)).trans H1.out, HBL.out.grown hZ HBL.out.size (fun g hg => by injection hg with hg; omega)⟩)
    have HBR := Lib.hid hbr
    clear hr hc hb hs2 hrd2 hcap2 hcell hbr e1 hix
    go_enter Try.func21, Try.ntmps21
    go_upto_region 1 with fail
    change Code.wp _ _ _ _ (w.alloc (.cells #[.int .i64 0, .int .i64 0, .slice none 0 0, .slice none 0 0, .slice none 0 0, .slice none 0 0] 55))
    rw [← HV0.out]
    go_upto_region 4 with fail
    rw [HZV.out]
    change Code.wp _ _ _ _ (V.alloc (.cells #[.int .i64 k, .int .i64 0, .slice none 0 0, .slice none 0 0, .slice none 0 0, .slice none 0 0] 55))
    rw [← HXD.out]
    go_upto_region 5 with fail
    rw [HZX.out]
    change Code.wp _ _ _ _ (X.alloc (.cells #[.slice D r.length (c - 1), .int .i64 0, .int .i64 0] 86))
    rw [← HW.out]
    clear hcV
    obtain ⟨x0, x1, x2, x3, x4, x5⟩ := Sa.row6 H1.out
    cases hrk : Sa.rkB k with
    | false =>
      have HDE : Hid (decE (k :: r) = 12) := Lib.hid (by rw [decE_cons, hrk]; rfl)
      have HNE : Hid ((12 : Int) ≠ 0) := Lib.hid (by decide)
      have hno : ¬ (1 ≤ k ∧ k ≤ 8) := of_decide_eq_false hrk
      have d1 : (k == 1) = false := by rw [beq_eq_false_iff_ne]; omega
      have d2 : (k == 2) = false := by rw [beq_eq_false_iff_ne]; omega
      have d3 : (k == 3) = false := by rw [beq_eq_false_iff_ne]; omega
      have d4 : (k == 4) = false := by rw [beq_eq_false_iff_ne]; omega
      have d5 : (k == 5) = false := by rw [beq_eq_false_iff_ne]; omega
      have d6 : (k == 6) = false := by rw [beq_eq_false_iff_ne]; omega
      have d7 : (k == 7) = false := by rw [beq_eq_false_iff_ne]; omega
      have d8 : (k == 8) = false := by rw [beq_eq_false_iff_ne]; omega
      obtain ⟨y0, y1, y2, y3, y4, y5⟩ := Sa.row6 H0.out
      have yf := Sa.free_row H0.out
      have q0 := yf 0; have q1 := yf 1; have q2 := yf 2; have q3 := yf 3; have q4 := yf 4; have q5 := yf 5
      clear yf hno hrk
      go_wp2_with fail
      refine bodyPost_ret (v := .tuple #[.agg #[.int .i64 0, .int .i64 0, .slice none 0 0, .slice none 0 0, .slice none 0 0, .slice none 0 0], .int .i64 12]) ?_ rfl ⟨0, 0, none, 0, 0, none, 0, 0, none, 0, 0, none, 0, 0, 12, rfl, set6_below HBL.out (Nat.le_refl _) _ _ _ _ _ _, DecQ.bad HDE.out HNE.out⟩
      rw [results_cell_tmp rfl]; go_simp
    | true =>
      have HT : Hid (decE (k :: r) = decT k r) := Lib.hid (by rw [decE_cons, hrk]; rfl)
      have HRKB := Lib.hid hrk
      have hk8 := rk_cases hrk
      have hk : k = 1 ∨ (k = 2 ∨ k = 3 ∨ k = 4 ∨ k = 6) ∨ (k = 5 ∨ k = 7 ∨ k = 8) := by omega
      clear hrk hk8
      rcases hk with rfl | hk | hk
      · have HT1 : Hid (decE (1 :: r) = endS (plS4 (.inr r))) := Lib.hid (by rw [HT.out]; unfold decT; rw [if_pos rfl])
        have hst : StQ W (w.heap.size + 2) B r (.inr r) := ⟨0, HRF.out, List.drop_zero⟩
        have HPR := Lib.hid (planR_any hst (heapE_lt H2.out) HBR.out (by omega))
        clear hst
        go_wp2_with fail
        refine HPR.out.mono ?_
        rintro e w2 ⟨⟨A1, n1, c1, A2, n2, c2, A3, n3, c3, A4, n4, c4, rfl⟩, hst, hg2⟩
        have HD2 := Lib.hid (HX.out w2 hg2)
        have HST2 := Lib.hid hst
        have hrb : w.heap.size + 2 < w2.heap.size := by have := hg2.size; have := HZ.out; omega
        clear x0 x1 x2 x3 x4 x5 hst hg2 HPR
        obtain ⟨er, HER⟩ : ∃ er, Hid (endS (plS4 (.inr r)) = er) := ⟨_, Lib.hid rfl⟩
        obtain ⟨U, HU⟩ : ∃ U, Hid (U = (((w2.setCell ⟨w.heap.size + 1, 2, none⟩ (.slice A1 n1 c1)).setCell ⟨w.heap.size + 1, 3, none⟩ (.slice A2 n2 c2)).setCell ⟨w.heap.size + 1, 4, none⟩ (.slice A3 n3 c3)).setCell ⟨w.heap.size + 1, 5, none⟩ (.slice A4 n4 c4)) := ⟨_, Lib.hid rfl⟩
        have HGU : Hid (w2.grownBy U (some (w.heap.size + 1))) := Lib.hid (by rw [HU.out]; exact set4p_grown _ _ _ _ _ _)
        have HBU : Hid (Below w.heap.size w U) := Lib.hid (HD2.out.2.2.grown HGU.out HD2.out.2.2.size (fun g hg => by injection hg with hg; omega))
        have HDU : Hid (U.heap[w.heap.size]? = some (.cells #[.int .i64 0, .int .i64 0, .slice none 0 0, .slice none 0 0, .slice none 0 0, .slice none 0 0] 55 (0, 0)) ∧ U.heap[w.heap.size + 1]? = some (.cells #[.int .i64 1, .int .i64 0, .slice A1 n1 c1, .slice A2 n2 c2, .slice A3 n3 c3, .slice A4 n4 c4] 55 (0, 0))) := Lib.hid ⟨(HGU.out.block w.heap.size (heapE_lt HD2.out.1) (fun e => by injection e with e; omega)).trans HD2.out.1, by rw [HU.out]; exact set4p_same HD2.out.2.1⟩
        have HSTU : Hid (StQ U (w.heap.size + 2) B r (plS4 (.inr r))) := Lib.hid (HST2.out.kept (HGU.out.block _ hrb (fun e => by injection e with e; omega)) ((Below.refl _ w2).grown HGU.out (by omega) (fun g hg => by injection hg with hg; omega)))
        have HEQ0 := Lib.hid (endQ_any (w := U.drewN 1) (HSTU.out.kept rfl ⟨rfl, rfl, rfl, Nat.le_refl _, fun _ _ => rfl⟩) (by omega))
        rw [HER.out] at HEQ0
        obtain ⟨x0, x1, x2, x3, x4, x5⟩ := Sa.row6 HD2.out.2.1
        have xf := Sa.free_row HD2.out.2.1
        have p2 := xf 2; have p3 := xf 3; have p4 := xf 4; have p5 := xf 5
        clear xf
        go_upto_region 8 with fail
        change Code.wp _ _ _ _ ((((w2.setCell ⟨w.heap.size + 1, 2, none⟩ (.slice A1 n1 c1)).setCell ⟨w.heap.size + 1, 3, none⟩ (.slice A2 n2 c2)).setCell ⟨w.heap.size + 1, 4, none⟩ (.slice A3 n3 c3)).setCell ⟨w.heap.size + 1, 5, none⟩ (.slice A4 n4 c4))
        rw [← HU.out]
        clear x0 x1 x2 x3 x4 x5 p2 p3 p4 p5 hrb
        obtain ⟨x0, x1, x2, x3, x4, x5⟩ := Sa.row6 HDU.out.2
        go_wp2_with fail
        go_region_law (first
          | (go_simp; go_at_call 35; refine HEQ0.out.mono ?_; rintro e w3 ⟨rfl, hg3, _⟩; (have hg3' : U.grownBy w3 (some (w.heap.size + 2)) := ⟨hg3.os, hg3.tape, hg3.output, hg3.size, hg3.block⟩); (have HD3 : Hid (w3.heap[w.heap.size]? = some (.cells #[.int .i64 0, .int .i64 0, .slice none 0 0, .slice none 0 0, .slice none 0 0, .slice none 0 0] 55 (0, 0)) ∧ w3.heap[w.heap.size + 1]? = some (.cells #[.int .i64 1, .int .i64 0, .slice A1 n1 c1, .slice A2 n2 c2, .slice A3 n3 c3, .slice A4 n4 c4] 55 (0, 0))) := Lib.hid ⟨(hg3'.block w.heap.size (heapE_lt HDU.out.1) (fun e => by injection e with e; omega)).trans HDU.out.1, (hg3'.block (w.heap.size + 1) (heapE_lt HDU.out.2) (fun e => by injection e with e; omega)).trans HDU.out.2⟩); (have HB3 : Hid (Below w.heap.size w w3) := Lib.hid (HBU.out.grown hg3' HBU.out.size (fun g hg => by injection hg with hg; omega))); clear hg3 hg3'; (obtain ⟨z0, z1, z2, z3, z4, z5⟩ := Sa.row6 HD3.out.2); (obtain ⟨y0, y1, y2, y3, y4, y5⟩ := Sa.row6 HD3.out.1); (have q0 := Sa.free_row HD3.out.1 0; have q1 := Sa.free_row HD3.out.1 1; have q2 := Sa.free_row HD3.out.1 2; have q3 := Sa.free_row HD3.out.1 3; have q4 := Sa.free_row HD3.out.1 4; have q5 := Sa.free_row HD3.out.1 5)))
        all_goals (go_wp2_with fail)
        all_goals (refine bodyPost_ret (v := .tuple #[.agg #[.int .i64 1, .int .i64 0, .slice A1 n1 c1, .slice A2 n2 c2, .slice A3 n3 c3, .slice A4 n4 c4], .int .i64 er]) ?_ rfl ⟨1, 0, A1, n1, c1, A2, n2, c2, A3, n3, c3, A4, n4, c4, er, rfl, set6_below HB3.out (Nat.le_refl _) _ _ _ _ _ _, (HT1.out.trans HER.out).symm, fun _ => ⟨rfl, rfl⟩⟩; rw [results_cell_tmp rfl]; go_simp)
      · have ks : Sa.ofStepB k = true := decide_eq_true hk
        have k1 : k ≠ 1 := by omega
        have HKS := Lib.hid ks
        have HT1 : Hid (decE (k :: r) = oneE r) := Lib.hid (by rw [HT.out]; unfold decT; rw [if_neg k1, if_pos ks])
        have HX2 : Hid (∀ Z, Below (w.heap.size + 2) W Z → Z.heap[w.heap.size]? = some (.cells #[.int .i64 0, .int .i64 0, .slice none 0 0, .slice none 0 0, .slice none 0 0, .slice none 0 0] 55 (0, 0)) ∧ Z.heap[w.heap.size + 1]? = some (.cells #[.int .i64 k, .int .i64 0, .slice none 0 0, .slice none 0 0, .slice none 0 0, .slice none 0 0] 55 (0, 0)) ∧ Below w.heap.size w Z) := Lib.hid (fun Z hZ => ⟨(hZ.block _ (by omega)).trans H0.out, (hZ.block _ (by omega)).trans H1.out, HBL.out.trans (hZ.mono (by omega))⟩)
        have HIA := Lib.hid (intsR_any HRF.out HBR.out (by omega))
        clear ks k1
        cases hlr : lst r with
        | inl er =>
          have he := lst_err HBR.out hlr
          have HDE : Hid (decE (k :: r) = er) := Lib.hid (by rw [HT1.out]; unfold oneE; rw [all_lst, hlr])
          have HNE : Hid (er ≠ 0) := Lib.hid (by omega)
          have hne : (er != 0) = true := by rw [bne_iff_ne]; exact HNE.out
          have HI : Hid (Calls Try.prog 47 #[.pointer (some ⟨w.heap.size + 2, 0, none⟩)] W fun en w' => ∃ A n c, en = .returned (.slice A n c) ∧ Below (w.heap.size + 2) W w' ∧ ∃ p, Rfr w' (w.heap.size + 2) B r p er) := Lib.hid (HIA.out.mono (by
            rintro en w' ⟨A, n, c, h1, h2⟩
            have h2' : LstQ W w' (w.heap.size + 2) B r (lst r) (.slice A n c) := h2
            rw [hlr] at h2'
            exact ⟨A, n, c, h1, h2'.1, h2'.2⟩))
          clear he hlr HIA HT1
          rcases hk with rfl | rfl | rfl | rfl
          all_goals (
            go_wp2_with fail
            refine HI.out.mono ?_
            rintro en w2 ⟨A1, n1, c1, rfl, hb2, p, hrf2⟩
            have HEN := Lib.hid (endR_any hrf2 (by omega))
            have hrb2 : w.heap.size + 2 ≤ w2.heap.size := by have := hb2.size; have := HZ.out; omega
            have HB2 := Lib.hid hb2
            clear hb2 hrf2 HI x0 x1 x2 x3 x4 x5
            go_wp2_with fail
            refine HEN.out.mono ?_
            rintro en w3 ⟨rfl, hg3⟩
            rw [endE_err HNE.out]
            have HD3 := Lib.hid (HX2.out w3 (HB2.out.grown hg3 hrb2 (fun g hg => by injection hg with hg; omega)))
            clear hg3 HEN hrb2
            obtain ⟨y0, y1, y2, y3, y4, y5⟩ := Sa.row6 HD3.out.1
            have q0 := Sa.free_row HD3.out.1 0; have q1 := Sa.free_row HD3.out.1 1; have q2 := Sa.free_row HD3.out.1 2; have q3 := Sa.free_row HD3.out.1 3; have q4 := Sa.free_row HD3.out.1 4; have q5 := Sa.free_row HD3.out.1 5
            go_wp2_with fail
            refine bodyPost_ret (v := .tuple #[.agg #[.int .i64 0, .int .i64 0, .slice none 0 0, .slice none 0 0, .slice none 0 0, .slice none 0 0], .int .i64 er]) ?_ rfl ⟨0, 0, none, 0, 0, none, 0, 0, none, 0, 0, none, 0, 0, er, rfl, set6_below HD3.out.2.2 (Nat.le_refl _) _ _ _ _ _ _, DecQ.bad HDE.out HNE.out⟩
            rw [results_cell_tmp rfl]; go_simp)
        | inr lr =>
          obtain ⟨l, r'⟩ := lr
          have HI : Hid (Calls Try.prog 47 #[.pointer (some ⟨w.heap.size + 2, 0, none⟩)] W fun en w' => ∃ A n c, en = .returned (.slice A n c) ∧ Below (w.heap.size + 2) W w' ∧ Own w' (w.heap.size + 3) (.slice A n c) l.length (casts l) ∧ ∃ p, Rfr w' (w.heap.size + 2) B r p 0 ∧ r.drop p = r') := Lib.hid (HIA.out.mono (by
            rintro en w' ⟨A, n, c, h1, h2⟩
            have h2' : LstQ W w' (w.heap.size + 2) B r (lst r) (.slice A n c) := h2
            rw [hlr] at h2'
            exact ⟨A, n, c, h1, h2'.1, h2'.2.1, h2'.2.2⟩))
          by_cases hr' : r' = []
          · subst hr'
            have hall : all r = .inr l := all_of_lst hlr
            by_cases h1 : l.length = 1
            · have HDE : Hid (decE (k :: r) = 0) := Lib.hid (by rw [HT1.out]; unfold oneE; rw [hall]; simp only; rw [if_pos h1])
              obtain ⟨sp, HSP⟩ : ∃ sp, Hid (ix (casts l) 0 = sp) := ⟨_, Lib.hid rfl⟩
              have HDN : Hid (sp = decN k r) := Lib.hid (by unfold decN oneN; rw [if_pos HKS.out, hall]; simp only; rw [if_pos h1]; exact HSP.out.symm)
              rw [h1] at HI
              clear hlr HIA HT1 hall h1
              rcases hk with rfl | rfl | rfl | rfl
              all_goals (
                go_wp2_with fail
                refine HI.out.mono ?_
                rintro en w2 ⟨A1, n1, c1, rfl, hb2, hown, p, hrf2, hdp⟩
                have HEN := Lib.hid (endR_any hrf2 (by omega))
                obtain ⟨A9, c9, e9, hrd⟩ := hown.shape
                injection e9 with e2 e3 e4
                subst e2 e3 e4
                have HOW := Lib.hid hown
                rw [hdp] at HEN
                clear hown hrd hdp
                have hrb2 : w.heap.size + 2 ≤ w2.heap.size := by have := hb2.size; have := HZ.out; omega
                have HB2 := Lib.hid hb2
                clear hb2 hrf2 HI x0 x1 x2 x3 x4 x5
                go_wp2_with fail
                refine HEN.out.mono ?_
                rintro en w3 ⟨rfl, hg3⟩
                rw [endE_nil]
                have HD3 := Lib.hid (HX2.out w3 (HB2.out.grown hg3 hrb2 (fun g hg => by injection hg with hg; omega)))
                have HO3 := Lib.hid (HOW.out.other hg3 (fun g hg e => by injection e with e; have := HOW.out.ge g hg; omega))
                obtain ⟨A9, c9, e9, hrd⟩ := HO3.out.shape
                injection e9 with e2 e3 e4
                clear e3
                subst e2 e4
                obtain ⟨b, off, rfl, _, hcell⟩ := hrd.at_ (k := 0) (by omega)
                rw [HSP.out, Nat.add_zero] at hcell
                clear hrd
                clear hg3 HEN hrb2
                obtain ⟨U, HU⟩ : ∃ U, Hid (U = w3.setCell ⟨w.heap.size + 1, 1, none⟩ (.int .i64 sp)) := ⟨_, Lib.hid rfl⟩
                have HGU : Hid (w3.grownBy U (some (w.heap.size + 1))) := Lib.hid (by rw [HU.out]; exact grown_set _ _ _ _)
                have HDU := Lib.hid (And.intro ((HGU.out.block w.heap.size (heapE_lt HD3.out.1) (fun e => by injection e with e; omega)).trans HD3.out.1) (And.intro (heap_setCell_same _ _ 1 _ _ (.int .i64 sp) HD3.out.2.1) (HD3.out.2.2.grown HGU.out HD3.out.2.2.size (fun g hg => by injection hg with hg; omega))))
                have p1 := Sa.free_row HD3.out.2.1 1
                obtain ⟨x0, x1, x2, x3, x4, x5⟩ := Sa.row6 HD3.out.2.1
                go_upto_region 20 with fail
                change Code.wp _ _ _ _ (w3.setCell ⟨w.heap.size + 1, 1, none⟩ (.int .i64 sp))
                rw [← HU.out] at HDU ⊢
                clear x0 x1 x2 x3 x4 x5 p1 hcell
                obtain ⟨x0, x1, x2, x3, x4, x5⟩ := Sa.row6 HDU.out.2.1
                obtain ⟨y0, y1, y2, y3, y4, y5⟩ := Sa.row6 HDU.out.1
                have q0 := Sa.free_row HDU.out.1 0; have q1 := Sa.free_row HDU.out.1 1; have q2 := Sa.free_row HDU.out.1 2; have q3 := Sa.free_row HDU.out.1 3; have q4 := Sa.free_row HDU.out.1 4; have q5 := Sa.free_row HDU.out.1 5
                go_wp2_with fail
                refine bodyPost_ret (v := .tuple #[.agg #[.int .i64 _, .int .i64 sp, .slice none 0 0, .slice none 0 0, .slice none 0 0, .slice none 0 0], .int .i64 0]) ?_ rfl ⟨_, sp, none, 0, 0, none, 0, 0, none, 0, 0, none, 0, 0, 0, rfl, set6_below HDU.out.2.2 (Nat.le_refl _) _ _ _ _ _ _, HDE.out.symm, fun _ => ⟨rfl, HDN.out⟩⟩
                rw [results_cell_tmp rfl]; go_simp)
            · have HDE : Hid (decE (k :: r) = 12) := Lib.hid (by rw [HT1.out]; unfold oneE; rw [hall]; simp only; rw [if_neg h1])
              have HNE : Hid ((12 : Int) ≠ 0) := Lib.hid (by decide)
              have hne : ((l.length : Int) != 1) = true := by rw [bne_iff_ne]; omega
              clear hlr HIA HT1 hall h1
              rcases hk with rfl | rfl | rfl | rfl
              all_goals (
                go_wp2_with fail
                refine HI.out.mono ?_
                rintro en w2 ⟨A1, n1, c1, rfl, hb2, hown, p, hrf2, hdp⟩
                have HEN := Lib.hid (endR_any hrf2 (by omega))
                obtain ⟨A9, c9, e9, hrd⟩ := hown.shape
                injection e9 with e2 e3 e4
                subst e2 e3 e4
                rw [hdp] at HEN
                clear hown hrd hdp
                have hrb2 : w.heap.size + 2 ≤ w2.heap.size := by have := hb2.size; have := HZ.out; omega
                have HB2 := Lib.hid hb2
                clear hb2 hrf2 HI x0 x1 x2 x3 x4 x5
                go_wp2_with fail
                refine HEN.out.mono ?_
                rintro en w3 ⟨rfl, hg3⟩
                rw [endE_nil]
                have HD3 := Lib.hid (HX2.out w3 (HB2.out.grown hg3 hrb2 (fun g hg => by injection hg with hg; omega)))
                clear hg3 HEN hrb2
                obtain ⟨y0, y1, y2, y3, y4, y5⟩ := Sa.row6 HD3.out.1
                have q0 := Sa.free_row HD3.out.1 0; have q1 := Sa.free_row HD3.out.1 1; have q2 := Sa.free_row HD3.out.1 2; have q3 := Sa.free_row HD3.out.1 3; have q4 := Sa.free_row HD3.out.1 4; have q5 := Sa.free_row HD3.out.1 5
                go_wp2_with fail
                refine bodyPost_ret (v := .tuple #[.agg #[.int .i64 0, .int .i64 0, .slice none 0 0, .slice none 0 0, .slice none 0 0, .slice none 0 0], .int .i64 12]) ?_ rfl ⟨0, 0, none, 0, 0, none, 0, 0, none, 0, 0, none, 0, 0, 12, rfl, set6_below HD3.out.2.2 (Nat.le_refl _) _ _ _ _ _ _, DecQ.bad HDE.out HNE.out⟩
                rw [results_cell_tmp rfl]; go_simp)
          · have hall : all r = .inl 12 := all_left hlr hr'
            have HDE : Hid (decE (k :: r) = 12) := Lib.hid (by rw [HT1.out]; unfold oneE; rw [hall])
            have HNE : Hid ((12 : Int) ≠ 0) := Lib.hid (by decide)
            have HEZ : Hid (endE 0 r' = 12) := Lib.hid (endE_zero hr')
            clear hlr HIA HT1 hall hr'
            rcases hk with rfl | rfl | rfl | rfl
            all_goals (
              go_wp2_with fail
              refine HI.out.mono ?_
              rintro en w2 ⟨A1, n1, c1, rfl, hb2, hown, p, hrf2, hdp⟩
              have HEN := Lib.hid (endR_any hrf2 (by omega))
              rw [hdp] at HEN
              clear hown hdp
              have hrb2 : w.heap.size + 2 ≤ w2.heap.size := by have := hb2.size; have := HZ.out; omega
              have HB2 := Lib.hid hb2
              clear hb2 hrf2 HI x0 x1 x2 x3 x4 x5
              go_wp2_with fail
              refine HEN.out.mono ?_
              rintro en w3 ⟨rfl, hg3⟩
              rw [HEZ.out]
              have HD3 := Lib.hid (HX2.out w3 (HB2.out.grown hg3 hrb2 (fun g hg => by injection hg with hg; omega)))
              clear hg3 HEN hrb2
              obtain ⟨y0, y1, y2, y3, y4, y5⟩ := Sa.row6 HD3.out.1
              have q0 := Sa.free_row HD3.out.1 0; have q1 := Sa.free_row HD3.out.1 1; have q2 := Sa.free_row HD3.out.1 2; have q3 := Sa.free_row HD3.out.1 3; have q4 := Sa.free_row HD3.out.1 4; have q5 := Sa.free_row HD3.out.1 5
              go_wp2_with fail
              refine bodyPost_ret (v := .tuple #[.agg #[.int .i64 0, .int .i64 0, .slice none 0 0, .slice none 0 0, .slice none 0 0, .slice none 0 0], .int .i64 12]) ?_ rfl ⟨0, 0, none, 0, 0, none, 0, 0, none, 0, 0, none, 0, 0, 12, rfl, set6_below HD3.out.2.2 (Nat.le_refl _) _ _ _ _ _ _, DecQ.bad HDE.out HNE.out⟩
              rw [results_cell_tmp rfl]; go_simp)
      · have ks : Sa.ofStepB k = false := decide_eq_false (by omega)
        have k1 : k ≠ 1 := by omega
        have HT1 : Hid (decE (k :: r) = if r = [] then 0 else 12) := Lib.hid (by rw [HT.out]; unfold decT; rw [if_neg k1, ks]; rfl)
        have HDN : Hid (0 = decN k r) := Lib.hid (by unfold decN; rw [ks]; rfl)
        have HD3 := Lib.hid (And.intro H0.out (And.intro H1.out HBL.out))
        clear ks k1 x0 x1 x2 x3 x4 x5
        by_cases hr0 : r = []
        · subst hr0
          have HDE : Hid (decE [k] = 0) := Lib.hid (by rw [HT1.out]; rfl)
          rcases hk with rfl | rfl | rfl
          all_goals (
            obtain ⟨x0, x1, x2, x3, x4, x5⟩ := Sa.row6 HD3.out.2.1
            obtain ⟨y0, y1, y2, y3, y4, y5⟩ := Sa.row6 HD3.out.1
            have q0 := Sa.free_row HD3.out.1 0; have q1 := Sa.free_row HD3.out.1 1; have q2 := Sa.free_row HD3.out.1 2; have q3 := Sa.free_row HD3.out.1 3; have q4 := Sa.free_row HD3.out.1 4; have q5 := Sa.free_row HD3.out.1 5
            go_wp2_with fail
            refine bodyPost_ret (v := .tuple #[.agg #[.int .i64 _, .int .i64 0, .slice none 0 0, .slice none 0 0, .slice none 0 0, .slice none 0 0], .int .i64 0]) ?_ rfl ⟨_, 0, none, 0, 0, none, 0, 0, none, 0, 0, none, 0, 0, 0, rfl, set6_below HD3.out.2.2 (Nat.le_refl _) _ _ _ _ _ _, HDE.out.symm, fun _ => ⟨rfl, HDN.out⟩⟩
            rw [results_cell_tmp rfl]; go_simp)
        · have HDE : Hid (decE (k :: r) = 12) := Lib.hid (by rw [HT1.out, if_neg hr0])
          have HNE : Hid ((12 : Int) ≠ 0) := Lib.hid (by decide)
          have hln3 : 0 < r.length := List.length_pos_iff.2 hr0
          have hln2 : (((r.length + 1 : Nat) : Int) == 1) = false := by rw [beq_eq_false_iff_ne]; omega
          have hln4 : (((r.length : Int) + 1) == 1) = false := by rw [beq_eq_false_iff_ne]; omega
          clear hr0
          rcases hk with rfl | rfl | rfl
          all_goals (
            obtain ⟨x0, x1, x2, x3, x4, x5⟩ := Sa.row6 HD3.out.2.1
            obtain ⟨y0, y1, y2, y3, y4, y5⟩ := Sa.row6 HD3.out.1
            have q0 := Sa.free_row HD3.out.1 0; have q1 := Sa.free_row HD3.out.1 1; have q2 := Sa.free_row HD3.out.1 2; have q3 := Sa.free_row HD3.out.1 3; have q4 := Sa.free_row HD3.out.1 4; have q5 := Sa.free_row HD3.out.1 5
            go_wp2_with fail
            refine bodyPost_ret (v := .tuple #[.agg #[.int .i64 0, .int .i64 0, .slice none 0 0, .slice none 0 0, .slice none 0 0, .slice none 0 0], .int .i64 12]) ?_ rfl ⟨0, 0, none, 0, 0, none, 0, 0, none, 0, 0, none, 0, 0, 12, rfl, set6_below HD3.out.2.2 (Nat.le_refl _) _ _ _ _ _ _, DecQ.bad HDE.out HNE.out⟩
            rw [results_cell_tmp rfl]; go_simp)
end Go.Proofs.Ytolgmoaoheflcaa
