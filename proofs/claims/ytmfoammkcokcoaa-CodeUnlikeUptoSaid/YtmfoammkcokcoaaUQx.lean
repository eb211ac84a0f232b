/-
  Sizes and texts that the document's reader reads, in whatever state.
  Versions that the document's reader reads, in whatever state.
  Loops of the document's reader.
-/
import Derived.Test.YtmfoammkcokcoaaULx
namespace Go.Proofs.Ytmfoammkcokcoaa
section
open Go.RowKit
open ByteP CodeP
set_option linter.unusedVariables false
set_option maxRecDepth 10000
/-- A size, and the reader behind it. -/
theorem sizeQ_any {w : World} {rb B : Nat} {bs : List Int} {s : Sum Int (List Int)} (h : StQ w rb B bs s) (hb : Bytes bs) (hl : bs.length ≤ 1000000000) :
    Calls Try.prog 43 #[.pointer (some ⟨rb, 0, none⟩)] w fun en w' => ∃ (m p : Nat) (e : Int), en = .returned (.int .i64 (m : Int)) ∧ p + m ≤ bs.length ∧ Rfr w' rb B bs p e ∧ w.grownBy w' (some rb) ∧
      ((e = 0 ∧ upS cnt s = .inr (m, bs.drop p)) ∨ ((e = 12 ∨ e = 13) ∧ m = 0 ∧ upS cnt s = .inl e)) := by
  cases s with
  | inl e =>
    obtain ⟨he, p, hr⟩ := h
    refine (sizeR_err hr (by omega)).mono ?_
    rintro en w1 ⟨rfl, hr, hg⟩
    exact ⟨0, p, e, rfl, hr.le, hr, hg, .inr ⟨he, rfl, rfl⟩⟩
  | inr r =>
    obtain ⟨p, hr, hp⟩ := h
    subst hp
    refine (sizeR_any hr hb hl).mono ?_
    rintro en w1 ⟨n, rfl, hg, hx⟩
    cases hres : cnt (bs.drop p) with
    | inl e =>
      rw [hres] at hx
      obtain ⟨rfl, q, hq⟩ := hx
      exact ⟨0, q, e, rfl, hq.le, hq, hg, .inr ⟨cnt_err hres, rfl, hres⟩⟩
    | inr pr =>
      obtain ⟨m, r0⟩ := pr
      rw [hres] at hx
      obtain ⟨rfl, q, hq, hd⟩ := hx
      have hm := (cnt_ok hres).2
      have h2 : r0.length = bs.length - q := by rw [← hd, List.length_drop]
      have h3 := hq.le
      exact ⟨m, q, 0, rfl, by omega, hq, hg, .inl ⟨rfl, by rw [hd]; exact hres⟩⟩
/-- s[l:h]. -/
theorem hlhE {A : Option Addr} {n c : Nat} (h : CapA A n c) {p m : Nat} (hq : p + m ≤ n) {w0 : World} {B : Nat} {xs : List Int} (hx : RdY w0 B A n xs) :
    ∃ D, (∀ w, (Instr.slice 32 (.slice A n c) (some (.int .i64 (p : Int))) (some (.int .i64 ((p : Int) + (m : Int)))) none).run Try.prog w = .ok (.slice D m (c - p)) w) ∧ RdY w0 B D m ((xs.drop p).take m) := by
  have hc : n ≤ c := by
    rcases h with ⟨_, h1, h2⟩ | ⟨_, _, h1, _⟩ <;> omega
  refine ⟨if c = p then A else A.map (·.add (p * 1)), fun w => ?_, ?_⟩
  · have hr := run_slice_lh (P := Try.prog) w 32 A n c Try.underlying32 .i64 .i64 (p : Int) ((p : Int) + (m : Int)) (by omega) (by omega) (by omega)
    rw [hr]
    obtain ⟨i0, hi, hz0, hz1, hz2⟩ := info_parts infoByte
    rw [show Try.prog.elem 32 = 5 by kernel_rfl, show (sizeOf 5).run Try.prog w = .ok i0.size w by simp [sizeOf, typeInfo, hi], hz1]
    have e1 : ((p : Int) + (m : Int)).toNat = p + m := by omega
    simp only [Result.andThen, sliced, Int.toNat_natCast, e1, Nat.add_sub_cancel_left]
  · refine ⟨by rw [List.length_take, List.length_drop, hx.len]; omega, fun hn => ?_⟩
    obtain ⟨b, off, e, hb, hcell⟩ := hx.2 (by omega)
    rw [if_neg (by omega), e]
    refine ⟨b, off + p, ?_, hb, fun j hj => ?_⟩
    · simp only [Option.map_some, Nat.mul_one]
      unfold Addr.add
      by_cases h0 : p = 0 <;> simp [h0]
    · have e2 : ix ((xs.drop p).take m) j = ix xs (p + j) := by
        unfold ix
        rw [List.getD_eq_getElem?_getD, List.getD_eq_getElem?_getD, List.getElem?_take, if_pos hj, List.getElem?_drop]
      rw [e2, Nat.add_assoc]
      exact hcell (p + j) (by omega)
set_option maxHeartbeats 2000000 in
theorem textQ_any {w : World} {rb B : Nat} {bs : List Int} {s : Sum Int (List Int)} (h : StQ w rb B bs s) (hb : Bytes bs) (hl : bs.length ≤ 1000000000) :
    Calls Try.prog 44 #[.pointer (some ⟨rb, 0, none⟩)] w fun en w' => ∃ t, en = .returned (.string t) ∧ StQ w' rb B bs (restS (upS txt s)) ∧ w.grownBy w' (some rb) ∧ (∀ x r, upS txt s = .inr (x, r) → t = strOfNums x) := by
  have HS := Lib.hid (sizeQ_any h hb hl)
  clear h
  go_enter Try.func44, Try.ntmps44
  go_wp2_with fail
  refine HS.out.mono ?_
  rintro en w1 ⟨m, p, e, rfl, hpm, hrf, hg, hres⟩
  obtain ⟨A, c, hrow, hrd, hcap⟩ := hrf.row
  obtain ⟨hc0, hc1, hc2, hf1, hf2⟩ := row3E hrow
  obtain ⟨D, hs1, hrd2⟩ := hlhE hcap hpm hrd
  have hst : ∀ k, (convert 32 9 (.slice D m (c - p))).run Try.prog (w1.drewN k) = .ok (.string (strOfNums ((bs.drop p).take m))) (w1.drewN k) := fun k => str_run (hrd2.drewN k)
  have hadd : IntKind.i64.wrap ((p : Int) + (m : Int)) = (p : Int) + (m : Int) := by rw [IntWalk.i64_in _ (by omega)]
  have HGR : Hid (∀ k, w.grownBy ((w1.drewN k).setCell ⟨rb, 1, none⟩ (.int .i64 ((p : Int) + (m : Int)))) (some rb)) := Lib.hid (fun k => grown_add (grown_drewN hg k) (grown_set _ rb 1 _))
  have HRF : Hid (∀ k, Rfr ((w1.drewN k).setCell ⟨rb, 1, none⟩ (.int .i64 ((p : Int) + (m : Int)))) rb B bs (p + m) e) := Lib.hid (fun k => by
    have h := (hrf.drewN k).at_ (q := p + m) hpm
    have e : ((p + m : Nat) : Int) = (p : Int) + (m : Int) := by omega
    rw [e] at h
    exact h)
  have HRES : Hid (∀ w' : World, Rfr w' rb B bs (p + m) e → StQ w' rb B bs (restS (upS txt s)) ∧ (∀ x r, upS txt s = .inr (x, r) → strOfNums ((bs.drop p).take m) = strOfNums x)) := Lib.hid (fun w' hr => by
    rcases hres with ⟨rfl, h1⟩ | ⟨he, rfl, h1⟩
    · have e1 : upS txt s = .inr ((bs.drop p).take m, (bs.drop p).drop m) := by
        cases s with
        | inl e => cases h1
        | inr r =>
          show txt r = _
          have h2 : cnt r = .inr (m, bs.drop p) := h1
          unfold txt; rw [h2]
      rw [e1]
      exact ⟨⟨p + m, hr, by rw [List.drop_drop]⟩, fun x r h => by injection h with h; injection h with h1 h2; rw [h1]⟩
    · have e1 : upS txt s = .inl e := by
        cases s with
        | inl e' =>
          have h2 : (Sum.inl e' : Sum Int (Nat × List Int)) = .inl e := h1
          injection h2 with h2
          rw [h2]; rfl
        | inr r =>
          show txt r = _
          have h2 : cnt r = .inl e := h1
          unfold txt; rw [h2]
      rw [e1]
      exact ⟨⟨he, p, hr⟩, fun x r h => by cases h⟩)
  clear hrf hg hres hrow hrd hcap hrd2 HS hpm
  go_wp2_with fail
  go_quiet (fail)
  rename_i nq
  go_wp2_with fail
  go_ret
  exact ⟨_, rfl, (HRES.out _ (HRF.out _)).1, HGR.out _, (HRES.out _ (HRF.out nq)).2⟩
theorem numQ3 {w : World} {rb B : Nat} {bs : List Int} {s : Sum Int (List Int)} (h : StQ w rb B bs s) (hb : Bytes bs) (hl : bs.length ≤ 1000000000) :
    Calls Try.prog 54 #[.pointer (some ⟨rb, 0, none⟩)] w fun en w' => ∃ n, en = .returned (.int .i64 n) ∧ StQ w' rb B bs (restS (numS s)) ∧ w.grownBy w' (some rb) ∧ (∀ x r, numS s = .inr (x, r) → n = (x : Int)) := by
  refine (numQ_any h hb hl).mono ?_
  rintro en w' ⟨n, rfl, h1, h2, h3, _⟩
  exact ⟨n, rfl, h1, h2, h3⟩
theorem textQ3 {w : World} {rb B : Nat} {bs : List Int} {s : Sum Int (List Int)} (h : StQ w rb B bs s) (hb : Bytes bs) (hl : bs.length ≤ 1000000000) :
    Calls Try.prog 44 #[.pointer (some ⟨rb, 0, none⟩)] w fun en w' => ∃ t, en = .returned (.string t) ∧ StQ w' rb B bs (restS (txtS s)) ∧ w.grownBy w' (some rb) ∧ (∀ x r, txtS s = .inr (x, r) → t = strOfNums x) := by
  have e : txtS s = upS txt s := by cases s <;> rfl
  rw [e]
  exact textQ_any h hb hl
end
section
open Go.RowKit
open ByteP CodeP
set_option linter.unusedVariables false
set_option maxRecDepth 10000
set_option maxHeartbeats 4000000 in
theorem versionQ_any {w : World} {rb B : Nat} {bs : List Int} {s : Sum Int (List Int)} (h : StQ w rb B bs s) (hrb : rb < w.heap.size) (hb : Bytes bs) (hl : bs.length ≤ 1000000000) :
    Calls Try.prog 74 #[.pointer (some ⟨rb, 0, none⟩)] w fun en w' => ∃ a b c t, en = .returned (.agg #[.int .i64 a, .int .i64 b, .int .i64 c, .string t]) ∧ StQ w' rb B bs (vs4 s) ∧ w.grownBy w' (some rb) ∧
      (∀ x r, numS s = .inr (x, r) → a = (x : Int)) ∧ (∀ x r, numS (vs1 s) = .inr (x, r) → b = (x : Int)) ∧ (∀ x r, numS (vs2 s) = .inr (x, r) → c = (x : Int)) ∧ (∀ x r, txtS (vs3 s) = .inr (x, r) → t = strOfNums x) := by
  obtain ⟨W, hW⟩ : ∃ W, W = (w.alloc (vcell 99 0 0 0 ⟨#[]⟩)).alloc (vcell 99 0 0 0 ⟨#[]⟩) := ⟨_, rfl⟩
  have hgw : w.grownBy W (some rb) := by rw [hW]; exact grown_add (grown_alloc1 w _ _) (grown_alloc1 _ _ _)
  have hz : W.heap.size = w.heap.size + 2 := by rw [hW]; simp
  have h0 : W.heap[w.heap.size]? = some (vcell 99 0 0 0 ⟨#[]⟩) := by
    rw [hW, Below.heap_alloc _ _ _ (by simp)]; exact heap_alloc_new w _
  have h2 : W.heap[w.heap.size + 1]? = some (vcell 99 0 0 0 ⟨#[]⟩) := by
    rw [hW]
    have h := heap_alloc_new (w.alloc (vcell 99 0 0 0 ⟨#[]⟩)) (vcell 99 0 0 0 ⟨#[]⟩)
    rw [World.size_alloc] at h; exact h
  have HST : Hid (StQ W rb B bs s) := Lib.hid (by rw [hW]; exact (h.grown (row := none) (grown_alloc1 w _ none) (fun g hg => by cases hg)).grown (row := none) (grown_alloc1 _ _ none) (fun g hg => by cases hg))
  have HG0 := Lib.hid hgw
  have H0 := Lib.hid h0
  have H2 := Lib.hid h2
  have HWE := Lib.hid hW
  have HBY := Lib.hid hb
  have HN1 := Lib.hid (numQ3 HST.out HBY.out hl)
  clear h hgw h0 h2 hW hb
  go_enter Try.func74, Try.ntmps74
  go_upto_region 2 with fail
  change Code.wp _ _ _ _ ((w.alloc (vcell 99 0 0 0 ⟨#[]⟩)).alloc (vcell 99 0 0 0 ⟨#[]⟩))
  rw [← HWE.out]
  clear HWE
  have hz0 : w.heap.size + 1 < W.heap.size := heapE_lt H2.out
  have HC0 := Lib.hid (numQ3 HST.out HBY.out hl)
  go_wp2_with fail
  refine HC0.out.mono ?_
  rintro en v0 ⟨n0, rfl, hs, hg, hv⟩
  have HV0 := Lib.hid hv
  have e0 := (hg.block w.heap.size (by omega) (fun e => by injection e with e; omega)).trans H0.out
  have e2 := (hg.block (w.heap.size + 1) hz0 (fun e => by injection e with e; omega)).trans H2.out
  have hzv0 := hg.size
  obtain ⟨x0, x1, x2, x3, xf⟩ := vc_cells e2
  have hfz := xf 0
  clear xf
  obtain ⟨W1, hW1⟩ : ∃ W1, W1 = v0.setCell ⟨w.heap.size + 1, 0, none⟩ (.int .i64 n0) := ⟨_, rfl⟩
  have hgs : v0.grownBy W1 (some (w.heap.size + 1)) := by rw [hW1]; exact grown_set _ _ _ _
  have ST1 := Lib.hid (hs.grown hgs (fun g hg => by injection hg with hg; omega))
  have E01 : Hid (W1.heap[w.heap.size]? = some (vcell 99 0 0 0 ⟨#[]⟩)) := Lib.hid ((hgs.block w.heap.size (by omega) (fun e => by injection e with e; omega)).trans e0)
  have E21 : Hid (W1.heap[w.heap.size + 1]? = some (vcell 99 n0 0 0 ⟨#[]⟩)) := Lib.hid (by rw [hW1]; exact heap_setCell_same v0 _ 0 _ _ _ e2)
  have HG1 : Hid (w.grownBy W1 (some rb)) := Lib.hid (grown_new (grown_add HG0.out hg) hgs (fun g hg => by injection hg with hg; omega))
  have hz1 : w.heap.size + 1 < W1.heap.size := heapE_lt E21.out
  have HWW1 := Lib.hid hW1
  clear hW1 hgs hs hg hv e0 e2 HC0
  go_upto_region 3 with fail
  rw [← HWW1.out]
  clear x0 x1 x2 x3 hfz HWW1
  have HC1 := Lib.hid (numQ3 ST1.out HBY.out hl)
  go_wp2_with fail
  refine HC1.out.mono ?_
  rintro en v1 ⟨n1, rfl, hs, hg, hv⟩
  have HV1 := Lib.hid hv
  have e0 := (hg.block w.heap.size (by omega) (fun e => by injection e with e; omega)).trans E01.out
  have e2 := (hg.block (w.heap.size + 1) hz1 (fun e => by injection e with e; omega)).trans E21.out
  have hzv1 := hg.size
  obtain ⟨x0, x1, x2, x3, xf⟩ := vc_cells e2
  have hfz := xf 1
  clear xf
  obtain ⟨W2, hW2⟩ : ∃ W2, W2 = v1.setCell ⟨w.heap.size + 1, 1, none⟩ (.int .i64 n1) := ⟨_, rfl⟩
  have hgs : v1.grownBy W2 (some (w.heap.size + 1)) := by rw [hW2]; exact grown_set _ _ _ _
  have ST2 := Lib.hid (hs.grown hgs (fun g hg => by injection hg with hg; omega))
  have E02 : Hid (W2.heap[w.heap.size]? = some (vcell 99 0 0 0 ⟨#[]⟩)) := Lib.hid ((hgs.block w.heap.size (by omega) (fun e => by injection e with e; omega)).trans e0)
  have E22 : Hid (W2.heap[w.heap.size + 1]? = some (vcell 99 n0 n1 0 ⟨#[]⟩)) := Lib.hid (by rw [hW2]; exact heap_setCell_same v1 _ 1 _ _ _ e2)
  have HG2 : Hid (w.grownBy W2 (some rb)) := Lib.hid (grown_new (grown_add HG1.out hg) hgs (fun g hg => by injection hg with hg; omega))
  have hz2 : w.heap.size + 1 < W2.heap.size := heapE_lt E22.out
  have HWW2 := Lib.hid hW2
  clear hW2 hgs hs hg hv e0 e2 HC1
  go_upto_region 4 with fail
  rw [← HWW2.out]
  clear x0 x1 x2 x3 hfz HWW2
  have HC2 := Lib.hid (numQ3 ST2.out HBY.out hl)
  go_wp2_with fail
  refine HC2.out.mono ?_
  rintro en v2 ⟨n2, rfl, hs, hg, hv⟩
  have HV2 := Lib.hid hv
  have e0 := (hg.block w.heap.size (by omega) (fun e => by injection e with e; omega)).trans E02.out
  have e2 := (hg.block (w.heap.size + 1) hz2 (fun e => by injection e with e; omega)).trans E22.out
  have hzv2 := hg.size
  obtain ⟨x0, x1, x2, x3, xf⟩ := vc_cells e2
  have hfz := xf 2
  clear xf
  obtain ⟨W3, hW3⟩ : ∃ W3, W3 = v2.setCell ⟨w.heap.size + 1, 2, none⟩ (.int .i64 n2) := ⟨_, rfl⟩
  have hgs : v2.grownBy W3 (some (w.heap.size + 1)) := by rw [hW3]; exact grown_set _ _ _ _
  have ST3 := Lib.hid (hs.grown hgs (fun g hg => by injection hg with hg; omega))
  have E03 : Hid (W3.heap[w.heap.size]? = some (vcell 99 0 0 0 ⟨#[]⟩)) := Lib.hid ((hgs.block w.heap.size (by omega) (fun e => by injection e with e; omega)).trans e0)
  have E23 : Hid (W3.heap[w.heap.size + 1]? = some (vcell 99 n0 n1 n2 ⟨#[]⟩)) := Lib.hid (by rw [hW3]; exact heap_setCell_same v2 _ 2 _ _ _ e2)
  have HG3 : Hid (w.grownBy W3 (some rb)) := Lib.hid (grown_new (grown_add HG2.out hg) hgs (fun g hg => by injection hg with hg; omega))
  have hz3 : w.heap.size + 1 < W3.heap.size := heapE_lt E23.out
  have HWW3 := Lib.hid hW3
  clear hW3 hgs hs hg hv e0 e2 HC2
  go_upto_region 5 with fail
  rw [← HWW3.out]
  clear x0 x1 x2 x3 hfz HWW3
  have HC3 := Lib.hid (textQ3 ST3.out HBY.out hl)
  go_wp2_with fail
  refine HC3.out.mono ?_
  rintro en v3 ⟨n3, rfl, hs, hg, hv⟩
  have HV3 := Lib.hid hv
  have e0 := (hg.block w.heap.size (by omega) (fun e => by injection e with e; omega)).trans E03.out
  have e2 := (hg.block (w.heap.size + 1) hz3 (fun e => by injection e with e; omega)).trans E23.out
  have hzv3 := hg.size
  obtain ⟨x0, x1, x2, x3, xf⟩ := vc_cells e2
  have hfz := xf 3
  clear xf
  obtain ⟨W4, hW4⟩ : ∃ W4, W4 = v3.setCell ⟨w.heap.size + 1, 3, none⟩ (.string n3) := ⟨_, rfl⟩
  have hgs : v3.grownBy W4 (some (w.heap.size + 1)) := by rw [hW4]; exact grown_set _ _ _ _
  have ST4 := Lib.hid (hs.grown hgs (fun g hg => by injection hg with hg; omega))
  have E04 : Hid (W4.heap[w.heap.size]? = some (vcell 99 0 0 0 ⟨#[]⟩)) := Lib.hid ((hgs.block w.heap.size (by omega) (fun e => by injection e with e; omega)).trans e0)
  have E24 : Hid (W4.heap[w.heap.size + 1]? = some (vcell 99 n0 n1 n2 n3)) := Lib.hid (by rw [hW4]; exact heap_setCell_same v3 _ 3 _ _ _ e2)
  have HG4 : Hid (w.grownBy W4 (some rb)) := Lib.hid (grown_new (grown_add HG3.out hg) hgs (fun g hg => by injection hg with hg; omega))
  have hz4 : w.heap.size + 1 < W4.heap.size := heapE_lt E24.out
  have HWW4 := Lib.hid hW4
  clear hW4 hgs hs hg hv e0 e2 HC3
  go_upto_region 6 with fail
  rw [← HWW4.out]
  clear x0 x1 x2 x3 hfz HWW4
  obtain ⟨x0, x1, x2, x3, xf⟩ := vc_cells E24.out
  obtain ⟨y0, y1, y2, y3, yf⟩ := vc_cells E04.out
  have q0 := yf 0
  have q1 := yf 1
  have q2 := yf 2
  have q3 := yf 3
  clear xf yf
  go_wp2_with fail
  refine bodyPost_ret (v := .agg #[.int .i64 n0, .int .i64 n1, .int .i64 n2, .string n3]) ?_ rfl ⟨n0, n1, n2, n3, rfl, ?_, ?_, HV0.out, HV1.out, HV2.out, HV3.out⟩
  · simp [results, Try.results74, go_sem, y0, y1, y2, y3]
  · exact ST4.out.grown (set4_grown _ _ _ _ _ _) (fun g hg => by injection hg with hg; omega)
  · exact grown_new HG4.out (set4_grown _ _ _ _ _ _) (fun g hg => by injection hg with hg; omega)
end
section
open Go.RowKit
open ByteP CodeP
set_option linter.unusedVariables false
set_option maxRecDepth 10000
/-- A slice of the call's own, whatever it holds. -/
def anyI : ItT Unit := fun _ _ _ _ => True
theorem any_turns : Turns anyI := ⟨fun _ _ _ => trivial⟩
/-- A loop's state: so many things are read, or one had an error. -/
def LsQ {α : Type} (p : Pr α) (w : World) (rb B : Nat) (bs : List Int) (res : Sum Int (List α × List Int)) (m j : Nat) : Prop :=
  (∃ l q, l.length = j ∧ Rfr w rb B bs q 0 ∧ contL l (rdL p (m - j) (bs.drop q)) = res) ∨ (∃ e q, (e = 12 ∨ e = 13) ∧ Rfr w rb B bs q e ∧ res = .inl e)
section
variable {α : Type} {p : Pr α} {w w' : World} {rb B m j : Nat} {bs : List Int} {res : Sum Int (List α × List Int)}
theorem LsQ.grown (h : LsQ p w rb B bs res m j) {row : Option Nat} (hg : w.grownBy w' row) (hr : ∀ g, row = some g → rb < g) : LsQ p w' rb B bs res m j := by
  rcases h with ⟨l, q, h1, h2, h3⟩ | ⟨e, q, h1, h2, h3⟩
  · exact .inl ⟨l, q, h1, h2.grown hg hr, h3⟩
  · exact .inr ⟨e, q, h1, h2.grown hg hr, h3⟩
theorem LsQ.done (h : LsQ p w rb B bs res m m) : StQ w rb B bs (restS res) := by
  rcases h with ⟨l, q, h1, h2, h3⟩ | ⟨e, q, h1, h2, h3⟩
  · rw [← h3, Nat.sub_self]
    simp only [rdL, contL]
    exact ⟨q, h2, rfl⟩
  · rw [h3]; exact ⟨h1, q, h2⟩
theorem LsQ.next {l : List α} {q : Nat} (hl : l.length = j) (hj : j < m) (hc : contL l (rdL p (m - j) (bs.drop q)) = res) (hs : StQ w' rb B bs (restS (p (bs.drop q)))) : LsQ p w' rb B bs res m (j + 1) := by
  rw [show m - j = (m - (j + 1)) + 1 by omega] at hc
  cases hp : p (bs.drop q) with
  | inl e =>
    rw [hp] at hs
    obtain ⟨he, q2, hr⟩ := hs
    rw [rdL_err hp] at hc
    exact .inr ⟨e, q2, he, hr, hc.symm⟩
  | inr a =>
    obtain ⟨x, r⟩ := a
    rw [hp] at hs
    obtain ⟨q2, hr, hd⟩ := hs
    rw [rdL_step hp, contL_contL] at hc
    exact .inl ⟨l ++ [x], q2, by rw [List.length_append, hl]; rfl, hr, by rw [hd]; exact hc⟩
theorem LsQ.start {s : Sum Int (List Int)} {e : Int} {q : Nat} (hr : Rfr w rb B bs q e) (h : (e = 0 ∧ upS cnt s = .inr (m, bs.drop q)) ∨ ((e = 12 ∨ e = 13) ∧ m = 0 ∧ upS cnt s = .inl e)) : LsQ p w rb B bs (upS (lsL p) s) m 0 := by
  rcases h with ⟨rfl, h⟩ | ⟨he, rfl, h⟩
  · refine .inl ⟨[], q, rfl, hr, ?_⟩
    rw [contL_nil]
    cases s with
    | inl e => cases h
    | inr r =>
      have h2 : cnt r = .inr (m, bs.drop q) := h
      show _ = lsL p r
      unfold lsL; rw [h2]; rfl
  · refine .inr ⟨e, q, he, hr, ?_⟩
    cases s with
    | inl e' =>
      have h2 : (Sum.inl e' : Sum Int (Nat × List Int)) = .inl e := h
      injection h2 with h2
      rw [h2]; rfl
    | inr r =>
      have h2 : cnt r = .inl e := h
      show lsL p r = _
      unfold lsL; rw [h2]
end
theorem compQ_zero {r : List Int} {n : Int} (h1 : ∀ x r1, num r = .inr (x, r1) → n = (x : Int)) (h0 : n = 0) : restS (compV r) = restS (num r) := by
  cases hn : num r with
  | inl e => rw [compV_err hn]; rfl
  | inr a =>
    obtain ⟨x, r1⟩ := a
    have hx := h1 x r1 hn
    obtain rfl : x = 0 := by omega
    rw [compV_zero hn]; rfl
theorem compQ_some {r : List Int} {n : Int} (h1 : ∀ x r1, num r = .inr (x, r1) → n = (x : Int)) (h2 : ∀ e, num r = .inl e → n = 0) (h0 : n ≠ 0) : restS (compV r) = vs4 (restS (num r)) := by
  cases hn : num r with
  | inl e => exact absurd (h2 e hn) h0
  | inr a =>
    obtain ⟨x, r1⟩ := a
    have hx := h1 x r1 hn
    have hv := vs4_verV r1
    show _ = vs4 (.inr r1)
    rw [hv]
    cases x with
    | zero => exact absurd (by omega : n = 0) h0
    | succ x =>
      cases hw : verV r1 with
      | inl e => rw [compV_err2 hn hw]; rfl
      | inr b => obtain ⟨⟨a, b, c, t⟩, r2⟩ := b; rw [compV_ver hn hw]; rfl
end
end Go.Proofs.Ytmfoammkcokcoaa
