/-
  Texts that the program reads.
  Numbers and versions that the program reads, in whatever state.
  Comparisons that the program reads, in whatever state.
  Comparisons that the program reads: the call.
  Comparisons that the program reads, in whatever state.
-/
import Derived.Test.YtmfoammkcokcoaaPPa
import Derived.Laws.BytesArg
import Derived.Laws.BytesString
import Derived.Test.YtmfoammkcokcoaaTWa
namespace Go.Proofs.Ytmfoammkcokcoaa
section
open Go.RowKit
open ByteP CodeP
set_option linter.unusedVariables false
set_option maxRecDepth 10000
theorem str_run {w : World} {B n c : Nat} {A : Option Addr} {xs : List Int} (h : RdY w B A n xs) : (convert 32 9 (.slice A n c)).run Try.prog w = .ok (.string (strOfNums xs)) w := by
  by_cases hn : 0 < n
  · obtain ⟨b, off, rfl, hb, hc⟩ := h.2 hn
    exact run_convert_bytes_arg w 32 5 Try.underlying32 Try.underlying5 b off n c xs h.1 (fun i hi => hc i hi) 9 Try.underlying9
  · obtain rfl : n = 0 := by omega
    have hx : xs = [] := List.eq_nil_of_length_eq_zero h.1
    subst hx
    cases A with
    | none => exact run_convert_bytes_nil w 32 5 Try.underlying32 Try.underlying5 0 c 9 Try.underlying9
    | some a =>
      rw [run_convert_bytes_string w 32 9 5 _ 0 c Try.underlying32 Try.underlying5 Try.underlying9, run_bytesToString w a 0 c [] (by simpa using run_loadCells_list (P := Try.prog) w a [] (fun j v hj => by simp at hj))]
      rfl
/-- A text's bytes, read. -/
def txt (r : List Int) : Sum Int (List Int × List Int) :=
  match cnt r with
  | .inl e => .inl e
  | .inr (n, r') => .inr (r'.take n, r'.drop n)
def txtS : Sum Int (List Int) → Sum Int (List Int × List Int)
  | .inl e => .inl e
  | .inr r => txt r
theorem RdY.head {w : World} {B n q : Nat} {A : Option Addr} {xs : List Int} (h : RdY w B A n xs) (hq : q ≤ n) : RdY w B A q (xs.take q) := by
  refine ⟨by rw [List.length_take, h.len]; omega, fun hn => ?_⟩
  obtain ⟨b, off, e, hb, hc⟩ := h.2 (by omega)
  refine ⟨b, off, e, hb, fun j hj => ?_⟩
  rw [hc j (by omega)]
  congr 2
  unfold ix
  rw [List.getD_eq_getElem?_getD, List.getD_eq_getElem?_getD, List.getElem?_take, if_pos hj]
set_option maxHeartbeats 1000000 in
theorem take_n {w : World} {rb B q : Nat} {rest : List Int} (h : Rdr w rb B rest 0) (hq : q ≤ rest.length) :
    Calls Try.prog 83 #[.pointer (some ⟨rb, 0, none⟩), .int .i64 (q : Int)] w fun en w' => ∃ A c, en = .returned (.slice A q c) ∧ RdY w' B A q (rest.take q) ∧ Rdr w' rb B (rest.drop q) 0 ∧ w.grownBy w' (some rb) := by
  obtain ⟨A, c, hrow, hrd, hcap⟩ := h.row
  obtain ⟨hc0, hc1, hf0, hf1⟩ := row2 hrow
  have hz : decide (((rest.length : Nat) : Int) < (q : Int)) = false := by simp; omega
  have hzn : decide (rest.length < q) = false := by simp; omega
  have hs1 := hslE hcap hq
  obtain ⟨D, hs2, hrd2, hcap2⟩ := hsrE hcap hq hrd
  have hdl : (rest.drop q).length = rest.length - q := List.length_drop
  have HFIN : Hid (Rdr (w.setCell ⟨rb, 0, none⟩ (.slice D (rest.length - q) (c - q))) rb B (rest.drop q) 0) := Lib.hid ⟨⟨D, c - q, by rw [hdl]; exact heap_setCell_same w rb 0 _ _ _ hrow, by rw [hdl]; exact hrd2.setCell (p := ⟨rb, 0, none⟩) h.lt _, by rw [hdl]; exact hcap2⟩, h.lt⟩
  have HRH : Hid (RdY (w.setCell ⟨rb, 0, none⟩ (.slice D (rest.length - q) (c - q))) B A q (rest.take q)) := Lib.hid ((hrd.head hq).setCell (p := ⟨rb, 0, none⟩) h.lt _)
  have HG := Lib.hid (grown_set w rb 0 (.slice D (rest.length - q) (c - q)))
  clear hrd2 hcap2 hdl h hrow hrd hcap hq
  go_enter Try.func83, Try.ntmps83
  go_wp2
  go_ret
  exact ⟨_, _, rfl, HRH.out, HFIN.out, HG.out⟩
theorem take_err {w : World} {rb B : Nat} {rest : List Int} {e : Int} (h : Rdr w rb B rest e) (he : e ≠ 0) :
    Calls Try.prog 83 #[.pointer (some ⟨rb, 0, none⟩), .int .i64 0] w fun en w' => en = .returned (.slice none 0 0) ∧ Rdr w' rb B rest e ∧ w.grownBy w' (some rb) := by
  obtain ⟨A, c, hrow, hrd, hcap⟩ := h.row
  obtain ⟨hc0, hc1, hf0, hf1⟩ := row2 hrow
  have hz : decide (((rest.length : Nat) : Int) < 0) = false := by simp
  have d1 : (e != 0) = true := by simp [he]
  have H := Lib.hid h
  clear h hrow hrd hcap he
  go_enter Try.func83, Try.ntmps83
  go_wp2
  go_ret
  exact ⟨rfl, H.out, World.grownBy.refl _ _⟩
set_option maxHeartbeats 1000000 in
/-- A text in whatever state. -/
theorem textS_any {w : World} {rb B : Nat} {s : Sum Int (List Int)} (h : StR w rb B s) :
    Calls Try.prog 70 #[.pointer (some ⟨rb, 0, none⟩)] w fun en w' => ∃ t, en = .returned (.string t) ∧ StR w' rb B (restS (txtS s)) ∧ w.grownBy w' (some rb) ∧ (∀ x r, txtS s = .inr (x, r) → t = strOfNums x) := by
  cases s with
  | inl e =>
    obtain ⟨he, r, hr⟩ := h
    have HC := Lib.hid (count_err hr (by omega))
    have HE := Lib.hid he
    clear hr he
    go_enter Try.func70, Try.ntmps70
    go_wp2_with fail
    refine HC.out.mono ?_
    rintro en w1 ⟨rfl, hr1, hg1⟩
    have HT := Lib.hid (take_err hr1 (by have := HE.out; omega))
    have HG1 := Lib.hid hg1
    clear hr1 hg1 HC
    go_wp2_with fail
    refine HT.out.mono ?_
    rintro en w2 ⟨rfl, hr2, hg2⟩
    have hst := str_run (c := 0) (RdY.nil_ (w := w2) (B := B) (A := none))
    have HF : Hid (StR w2 rb B (.inl e) ∧ w.grownBy w2 (some rb)) := Lib.hid ⟨⟨HE.out, r, hr2⟩, grown_add HG1.out hg2⟩
    clear hr2 hg2 HT
    go_wp2
    go_ret
    exact ⟨_, rfl, HF.out.1, HF.out.2, fun x r h => by cases h⟩
  | inr r =>
    obtain ⟨hr, hby, hl⟩ := h
    have HC := Lib.hid (count_any hr hby hl)
    have HBY := Lib.hid hby
    have HL := Lib.hid hl
    clear hr hby hl
    go_enter Try.func70, Try.ntmps70
    go_wp2_with fail
    refine HC.out.mono ?_
    rintro en w1 ⟨n, rfl, hg1, hn⟩
    have HG1 := Lib.hid hg1
    cases hres : cnt r with
    | inl e =>
      rw [hres] at hn
      obtain ⟨rfl, r1, hr1⟩ := hn
      have HE := Lib.hid (cnt_err hres)
      have HT := Lib.hid (take_err hr1 (by have := HE.out; omega))
      have HTX : Hid (txtS (.inr r) = .inl e) := Lib.hid (by show txt r = _; unfold txt; rw [hres])
      clear hr1 hg1 HC hres
      go_wp2_with fail
      refine HT.out.mono ?_
      rintro en w2 ⟨rfl, hr2, hg2⟩
      have hst := str_run (c := 0) (RdY.nil_ (w := w2) (B := B) (A := none))
      have HF : Hid (StR w2 rb B (.inl e) ∧ w.grownBy w2 (some rb)) := Lib.hid ⟨⟨HE.out, r1, hr2⟩, grown_add HG1.out hg2⟩
      clear hr2 hg2 HT
      go_wp2
      go_ret
      refine ⟨_, rfl, ?_, HF.out.2, fun x r h => ?_⟩
      · rw [HTX.out]; exact HF.out.1
      · rw [HTX.out] at h; cases h
    | inr p =>
      obtain ⟨m, r1⟩ := p
      rw [hres] at hn
      obtain ⟨rfl, hr1⟩ := hn
      obtain ⟨hnum, hml⟩ := cnt_ok hres
      have hb1 := num_bytes HBY.out hnum
      have hb2 := num_back HBY.out hnum
      have HTX : Hid (txtS (.inr r) = .inr (r1.take m, r1.drop m)) := Lib.hid (by show txt r = _; unfold txt; rw [hres])
      have HT := Lib.hid (take_n hr1 hml)
      have HB1 : Hid (Bytes (r1.drop m) ∧ (r1.drop m).length ≤ 1000000000) := Lib.hid ⟨by
        have h : Bytes (r1.take m ++ r1.drop m) := by rw [List.take_append_drop]; exact hb1
        exact bytes_right h, by
        have := HL.out
        rw [hb2.2, List.length_append] at this
        rw [List.length_drop]; omega⟩
      clear hr1 hg1 HC hres hnum hml hb1 hb2
      go_wp2_with fail
      refine HT.out.mono ?_
      rintro en w2 ⟨A2, c2, rfl, hx2, hr2, hg2⟩
      have hst := str_run (c := c2) hx2
      have HF : Hid (StR w2 rb B (.inr (r1.drop m)) ∧ w.grownBy w2 (some rb)) := Lib.hid ⟨⟨hr2, HB1.out⟩, grown_add HG1.out hg2⟩
      clear hr2 hg2 HT hx2
      go_wp2
      go_ret
      refine ⟨_, rfl, ?_, HF.out.2, fun x r h => ?_⟩
      · rw [HTX.out]; exact HF.out.1
      · rw [HTX.out] at h; injection h with h; injection h with h1 h2; rw [h1]
end
section
open Go.RowKit
open ByteP CodeP
set_option linter.unusedVariables false
set_option maxRecDepth 10000
def numS : Sum Int (List Int) → Sum Int (Nat × List Int)
  | .inl e => .inl e
  | .inr r => num r
theorem numS_any {w : World} {rb B : Nat} {s : Sum Int (List Int)} (h : StR w rb B s) :
    Calls Try.prog 77 #[.pointer (some ⟨rb, 0, none⟩)] w fun en w' => ∃ n, en = .returned (.int .i64 n) ∧ StR w' rb B (restS (numS s)) ∧ w.grownBy w' (some rb) ∧ (∀ x r, numS s = .inr (x, r) → n = (x : Int)) := by
  cases s with
  | inl e =>
    obtain ⟨he, r, hr⟩ := h
    refine (number_err hr (by omega)).mono ?_
    rintro en w' ⟨rfl, h1, h2⟩
    exact ⟨0, rfl, ⟨he, r, h1⟩, h2, fun x r h => by cases h⟩
  | inr r =>
    obtain ⟨hr, hb, hl⟩ := h
    refine (number_go hr hb).mono ?_
    rintro en w' ⟨n, rfl, hg, hn⟩
    have e0 : numS (.inr r) = num r := rfl
    rw [e0]
    cases hres : num r with
    | inl e =>
      rw [hres] at hn
      obtain ⟨rfl, r1, h1⟩ := hn
      exact ⟨0, rfl, ⟨num_err hres, r1, h1⟩, hg, fun x r h => by cases h⟩
    | inr p =>
      obtain ⟨m, r1⟩ := p
      rw [hres] at hn
      obtain ⟨rfl, h1⟩ := hn
      have hb2 := num_back hb hres
      refine ⟨(m : Int), rfl, ⟨h1, num_bytes hb hres, ?_⟩, hg, fun x r h => by injection h with h; injection h with h1 h2; rw [h1]⟩
      have := hl
      rw [hb2.2, List.length_append] at this
      omega
def vs1 (s : Sum Int (List Int)) := restS (numS s)
def vs2 (s : Sum Int (List Int)) := vs1 (vs1 s)
def vs3 (s : Sum Int (List Int)) := vs1 (vs2 s)
def vs4 (s : Sum Int (List Int)) := restS (txtS (vs3 s))
def vcell (T : TypeId) (a b c : Int) (t : ByteArray) : Obj := .cells #[.int .i64 a, .int .i64 b, .int .i64 c, .string t] T (0, 0)
theorem vc_cells {w : World} {g : Nat} {T : TypeId} {a b c : Int} {t : ByteArray} (h : w.heap[g]? = some (vcell T a b c t)) : w.cell? ⟨g, 0, none⟩ = some (.int .i64 a) ∧ w.cell? ⟨g, 1, none⟩ = some (.int .i64 b) ∧ w.cell? ⟨g, 2, none⟩ = some (.int .i64 c) ∧ w.cell? ⟨g, 3, none⟩ = some (.string t) ∧ (∀ i, w.frozen? ⟨g, i, none⟩ = false) := by
  refine ⟨?_, ?_, ?_, ?_, fun i => ?_⟩
  · simp [World.cell?, h, vcell]
  · simp [World.cell?, h, vcell]
  · simp [World.cell?, h, vcell]
  · simp [World.cell?, h, vcell]
  · simp [World.frozen?, h, vcell]
set_option maxHeartbeats 4000000 in
theorem versionS_any {w : World} {rb B : Nat} {s : Sum Int (List Int)} (h : StR w rb B s) (hrb : rb < w.heap.size) :
    Calls Try.prog 84 #[.pointer (some ⟨rb, 0, none⟩)] w fun en w' => ∃ a b c t, en = .returned (.agg #[.int .i64 a, .int .i64 b, .int .i64 c, .string t]) ∧ StR w' rb B (vs4 s) ∧ w.grownBy w' (some rb) ∧
      (∀ x r, numS s = .inr (x, r) → a = (x : Int)) ∧ (∀ x r, numS (vs1 s) = .inr (x, r) → b = (x : Int)) ∧ (∀ x r, numS (vs2 s) = .inr (x, r) → c = (x : Int)) ∧ (∀ x r, txtS (vs3 s) = .inr (x, r) → t = strOfNums x) := by
  obtain ⟨W, hW⟩ : ∃ W, W = (w.alloc (vcell 95 0 0 0 ⟨#[]⟩)).alloc (vcell 95 0 0 0 ⟨#[]⟩) := ⟨_, rfl⟩
  have hgw : w.grownBy W (some rb) := by rw [hW]; exact grown_add (grown_alloc1 w _ _) (grown_alloc1 _ _ _)
  have hz : W.heap.size = w.heap.size + 2 := by rw [hW]; simp
  have h0 : W.heap[w.heap.size]? = some (vcell 95 0 0 0 ⟨#[]⟩) := by
    rw [hW, Below.heap_alloc _ _ _ (by simp)]; exact heap_alloc_new w _
  have h2 : W.heap[w.heap.size + 1]? = some (vcell 95 0 0 0 ⟨#[]⟩) := by
    rw [hW]
    have h := heap_alloc_new (w.alloc (vcell 95 0 0 0 ⟨#[]⟩)) (vcell 95 0 0 0 ⟨#[]⟩)
    rw [World.size_alloc] at h; exact h
  have HST : Hid (StR W rb B s) := Lib.hid (by rw [hW]; exact (h.grown (row := none) (grown_alloc1 w _ none) (fun g hg => by cases hg)).grown (row := none) (grown_alloc1 _ _ none) (fun g hg => by cases hg))
  have HG0 := Lib.hid hgw
  have H0 := Lib.hid h0
  have H2 := Lib.hid h2
  have HWE := Lib.hid hW
  have HN1 := Lib.hid (numS_any HST.out)
  clear h hgw h0 h2 hW
  go_enter Try.func84, Try.ntmps84
  go_upto_region 2 with fail
  change Code.wp _ _ _ _ ((w.alloc (vcell 95 0 0 0 ⟨#[]⟩)).alloc (vcell 95 0 0 0 ⟨#[]⟩))
  rw [← HWE.out]
  clear HWE
  have hz0 : w.heap.size + 1 < W.heap.size := heapE_lt H2.out
  have HC0 := Lib.hid (numS_any HST.out)
  go_wp2_with fail
  refine HC0.out.mono ?_
  rintro en v0 ⟨n0, rfl, hs, hg, hv⟩
  have HV0 := Lib.hid hv
  have e0 := (hg.block w.heap.size (by omega) (fun e => by injection e with e; omega)).trans H0.out
  have e2 := (hg.block (w.heap.size + 1) hz0 (fun e => by injection e with e; omega)).trans H2.out
  have hzv0 := hg.size
  obtain ⟨x0, x1, x2, x3, xf⟩ := vc_cells e2
  have hfz := xf 0
  clear xf
  obtain ⟨W1, hW1⟩ : ∃ W1, W1 = v0.setCell ⟨w.heap.size + 1, 0, none⟩ (.int .i64 n0) := ⟨_, rfl⟩
  have hgs : v0.grownBy W1 (some (w.heap.size + 1)) := by rw [hW1]; exact grown_set _ _ _ _
  have ST1 := Lib.hid (hs.grown hgs (fun g hg => by injection hg with hg; omega))
  have E01 : Hid (W1.heap[w.heap.size]? = some (vcell 95 0 0 0 ⟨#[]⟩)) := Lib.hid ((hgs.block w.heap.size (by omega) (fun e => by injection e with e; omega)).trans e0)
  have E21 : Hid (W1.heap[w.heap.size + 1]? = some (vcell 95 n0 0 0 ⟨#[]⟩)) := Lib.hid (by rw [hW1]; exact heap_setCell_same v0 _ 0 _ _ _ e2)
  have HG1 : Hid (w.grownBy W1 (some rb)) := Lib.hid (grown_new (grown_add HG0.out hg) hgs (fun g hg => by injection hg with hg; omega))
  have hz1 : w.heap.size + 1 < W1.heap.size := heapE_lt E21.out
  have HWW1 := Lib.hid hW1
  clear hW1 hgs hs hg hv e0 e2 HC0
  go_upto_region 3 with fail
  rw [← HWW1.out]
  clear x0 x1 x2 x3 hfz HWW1
  have HC1 := Lib.hid (numS_any ST1.out)
  go_wp2_with fail
  refine HC1.out.mono ?_
  rintro en v1 ⟨n1, rfl, hs, hg, hv⟩
  have HV1 := Lib.hid hv
  have e0 := (hg.block w.heap.size (by omega) (fun e => by injection e with e; omega)).trans E01.out
  have e2 := (hg.block (w.heap.size + 1) hz1 (fun e => by injection e with e; omega)).trans E21.out
  have hzv1 := hg.size
  obtain ⟨x0, x1, x2, x3, xf⟩ := vc_cells e2
  have hfz := xf 1
  clear xf
  obtain ⟨W2, hW2⟩ : ∃ W2, W2 = v1.setCell ⟨w.heap.size + 1, 1, none⟩ (.int .i64 n1) := ⟨_, rfl⟩
  have hgs : v1.grownBy W2 (some (w.heap.size + 1)) := by rw [hW2]; exact grown_set _ _ _ _
  have ST2 := Lib.hid (hs.grown hgs (fun g hg => by injection hg with hg; omega))
  have E02 : Hid (W2.heap[w.heap.size]? = some (vcell 95 0 0 0 ⟨#[]⟩)) := Lib.hid ((hgs.block w.heap.size (by omega) (fun e => by injection e with e; omega)).trans e0)
  have E22 : Hid (W2.heap[w.heap.size + 1]? = some (vcell 95 n0 n1 0 ⟨#[]⟩)) := Lib.hid (by rw [hW2]; exact heap_setCell_same v1 _ 1 _ _ _ e2)
  have HG2 : Hid (w.grownBy W2 (some rb)) := Lib.hid (grown_new (grown_add HG1.out hg) hgs (fun g hg => by injection hg with hg; omega))
  have hz2 : w.heap.size + 1 < W2.heap.size := heapE_lt E22.out
  have HWW2 := Lib.hid hW2
  clear hW2 hgs hs hg hv e0 e2 HC1
  go_upto_region 4 with fail
  rw [← HWW2.out]
  clear x0 x1 x2 x3 hfz HWW2
  have HC2 := Lib.hid (numS_any ST2.out)
  go_wp2_with fail
  refine HC2.out.mono ?_
  rintro en v2 ⟨n2, rfl, hs, hg, hv⟩
  have HV2 := Lib.hid hv
  have e0 := (hg.block w.heap.size (by omega) (fun e => by injection e with e; omega)).trans E02.out
  have e2 := (hg.block (w.heap.size + 1) hz2 (fun e => by injection e with e; omega)).trans E22.out
  have hzv2 := hg.size
  obtain ⟨x0, x1, x2, x3, xf⟩ := vc_cells e2
  have hfz := xf 2
  clear xf
  obtain ⟨W3, hW3⟩ : ∃ W3, W3 = v2.setCell ⟨w.heap.size + 1, 2, none⟩ (.int .i64 n2) := ⟨_, rfl⟩
  have hgs : v2.grownBy W3 (some (w.heap.size + 1)) := by rw [hW3]; exact grown_set _ _ _ _
  have ST3 := Lib.hid (hs.grown hgs (fun g hg => by injection hg with hg; omega))
  have E03 : Hid (W3.heap[w.heap.size]? = some (vcell 95 0 0 0 ⟨#[]⟩)) := Lib.hid ((hgs.block w.heap.size (by omega) (fun e => by injection e with e; omega)).trans e0)
  have E23 : Hid (W3.heap[w.heap.size + 1]? = some (vcell 95 n0 n1 n2 ⟨#[]⟩)) := Lib.hid (by rw [hW3]; exact heap_setCell_same v2 _ 2 _ _ _ e2)
  have HG3 : Hid (w.grownBy W3 (some rb)) := Lib.hid (grown_new (grown_add HG2.out hg) hgs (fun g hg => by injection hg with hg; omega))
  have hz3 : w.heap.size + 1 < W3.heap.size := heapE_lt E23.out
  have HWW3 := Lib.hid hW3
  clear hW3 hgs hs hg hv e0 e2 HC2
  go_upto_region 5 with fail
  rw [← HWW3.out]
  clear x0 x1 x2 x3 hfz HWW3
  have HC3 := Lib.hid (textS_any ST3.out)
  go_wp2_with fail
  refine HC3.out.mono ?_
  rintro en v3 ⟨n3, rfl, hs, hg, hv⟩
  have HV3 := Lib.hid hv
  have e0 := (hg.block w.heap.size (by omega) (fun e => by injection e with e; omega)).trans E03.out
  have e2 := (hg.block (w.heap.size + 1) hz3 (fun e => by injection e with e; omega)).trans E23.out
  have hzv3 := hg.size
  obtain ⟨x0, x1, x2, x3, xf⟩ := vc_cells e2
  have hfz := xf 3
  clear xf
  obtain ⟨W4, hW4⟩ : ∃ W4, W4 = v3.setCell ⟨w.heap.size + 1, 3, none⟩ (.string n3) := ⟨_, rfl⟩
  have hgs : v3.grownBy W4 (some (w.heap.size + 1)) := by rw [hW4]; exact grown_set _ _ _ _
  have ST4 := Lib.hid (hs.grown hgs (fun g hg => by injection hg with hg; omega))
  have E04 : Hid (W4.heap[w.heap.size]? = some (vcell 95 0 0 0 ⟨#[]⟩)) := Lib.hid ((hgs.block w.heap.size (by omega) (fun e => by injection e with e; omega)).trans e0)
  have E24 : Hid (W4.heap[w.heap.size + 1]? = some (vcell 95 n0 n1 n2 n3)) := Lib.hid (by rw [hW4]; exact heap_setCell_same v3 _ 3 _ _ _ e2)
  have HG4 : Hid (w.grownBy W4 (some rb)) := Lib.hid (grown_new (grown_add HG3.out hg) hgs (fun g hg => by injection hg with hg; omega))
  have hz4 : w.heap.size + 1 < W4.heap.size := heapE_lt E24.out
  have HWW4 := Lib.hid hW4
  clear hW4 hgs hs hg hv e0 e2 HC3
  go_upto_region 6 with fail
  rw [← HWW4.out]
  clear x0 x1 x2 x3 hfz HWW4
  obtain ⟨x0, x1, x2, x3, xf⟩ := vc_cells E24.out
  obtain ⟨y0, y1, y2, y3, yf⟩ := vc_cells E04.out
  have q0 := yf 0
  have q1 := yf 1
  have q2 := yf 2
  have q3 := yf 3
  clear xf yf
  go_wp2_with fail
  refine bodyPost_ret (v := .agg #[.int .i64 n0, .int .i64 n1, .int .i64 n2, .string n3]) ?_ rfl ⟨n0, n1, n2, n3, rfl, ?_, ?_, HV0.out, HV1.out, HV2.out, HV3.out⟩
  · simp [results, Try.results84, go_sem, y0, y1, y2, y3]
  · exact ST4.out.grown (set4_grown _ _ _ _ _ _) (fun g hg => by injection hg with hg; omega)
  · exact grown_new HG4.out (set4_grown _ _ _ _ _ _) (fun g hg => by injection hg with hg; omega)
end
section
open Go.RowKit
open ByteP CodeP
set_option linter.unusedVariables false
set_option maxRecDepth 10000
/-- A version's parts, read. -/
def verV (r : List Int) : Sum Int ((Nat × Nat × Nat × List Int) × List Int) :=
  match num r with
  | .inl e => .inl e
  | .inr (a, r1) => match num r1 with
    | .inl e => .inl e
    | .inr (b, r2) => match num r2 with
      | .inl e => .inl e
      | .inr (c, r3) => match txt r3 with
        | .inl e => .inl e
        | .inr (t, r4) => .inr ((a, b, c, t), r4)
theorem vs4_verV (r : List Int) : vs4 (.inr r) = restS (verV r) := by
  unfold verV
  cases h1 : num r with
  | inl e =>
    have a1 : vs1 (.inr r) = .inl e := by show restS (num r) = _; rw [h1]; rfl
    show restS (txtS (vs1 (vs1 (vs1 (.inr r))))) = _
    rw [a1]; rfl
  | inr p =>
    obtain ⟨a, r1⟩ := p
    have a1 : vs1 (.inr r) = .inr r1 := by show restS (num r) = _; rw [h1]; rfl
    cases h2 : num r1 with
    | inl e =>
      have a2 : vs1 (.inr r1) = .inl e := by show restS (num r1) = _; rw [h2]; rfl
      show restS (txtS (vs1 (vs1 (vs1 (.inr r))))) = _
      rw [a1, a2]; simp only [h2]; rfl
    | inr p =>
      obtain ⟨b, r2⟩ := p
      have a2 : vs1 (.inr r1) = .inr r2 := by show restS (num r1) = _; rw [h2]; rfl
      cases h3 : num r2 with
      | inl e =>
        have a3 : vs1 (.inr r2) = .inl e := by show restS (num r2) = _; rw [h3]; rfl
        show restS (txtS (vs1 (vs1 (vs1 (.inr r))))) = _
        rw [a1, a2, a3]; simp only [h2, h3]; rfl
      | inr p =>
        obtain ⟨c, r3⟩ := p
        have a3 : vs1 (.inr r2) = .inr r3 := by show restS (num r2) = _; rw [h3]; rfl
        show restS (txtS (vs1 (vs1 (vs1 (.inr r))))) = _
        rw [a1, a2, a3]
        simp only [h2, h3]
        show restS (txt r3) = _
        cases h4 : txt r3 with
        | inl e => rfl
        | inr p => rfl
/-- A version read from what is right so far. -/
theorem versionV_any {w : World} {rb B : Nat} {r : List Int} (h : StR w rb B (.inr r)) (hrb : rb < w.heap.size) :
    Calls Try.prog 84 #[.pointer (some ⟨rb, 0, none⟩)] w fun en w' => ∃ a b c t, en = .returned (.agg #[.int .i64 a, .int .i64 b, .int .i64 c, .string t]) ∧ StR w' rb B (restS (verV r)) ∧ w.grownBy w' (some rb) ∧
      (∀ x y z u r', verV r = .inr ((x, y, z, u), r') → a = (x : Int) ∧ b = (y : Int) ∧ c = (z : Int) ∧ t = strOfNums u) := by
  refine (versionS_any h hrb).mono ?_
  rintro en w' ⟨a, b, c, t, rfl, hs, hg, k1, k2, k3, k4⟩
  rw [vs4_verV] at hs
  refine ⟨a, b, c, t, rfl, hs, hg, fun x y z u r' hv => ?_⟩
  unfold verV at hv
  split at hv
  · cases hv
  next a' r1 h1 =>
    split at hv
    · cases hv
    next b' r2 h2 =>
      split at hv
      · cases hv
      next c' r3 h3 =>
        split at hv
        · cases hv
        next t' r4 h4 =>
          injection hv with hv
          injection hv with hv hr
          injection hv with e1 hv
          injection hv with e2 hv
          injection hv with e3 e4
          subst e1 e2 e3 e4
          have a1 : vs1 (.inr r) = .inr r1 := by show restS (num r) = _; rw [h1]; rfl
          have a2 : vs2 (.inr r) = .inr r2 := by show vs1 (vs1 (.inr r)) = _; rw [a1]; show restS (num r1) = _; rw [h2]; rfl
          have a3 : vs3 (.inr r) = .inr r3 := by show vs1 (vs2 (.inr r)) = _; rw [a2]; show restS (num r2) = _; rw [h3]; rfl
          refine ⟨k1 _ r1 h1, k2 _ r2 (by rw [a1]; exact h2), k3 _ r3 (by rw [a2]; exact h3), k4 _ r4 (by rw [a3]; exact h4)⟩
/-- A comparison, read: as it is written. -/
def compV (r : List Int) : Sum Int (CV × List Int) :=
  match num r with
  | .inl e => .inl e
  | .inr (n, r1) => if n = 0 then .inr (⟨0, 0, 0, 0, ⟨#[]⟩⟩, r1) else match verV r1 with
    | .inl e => .inl e
    | .inr ((a, b, c, t), r2) => .inr (⟨n, a, b, c, strOfNums t⟩, r2)
end
section
open Go.RowKit
open ByteP CodeP
set_option linter.unusedVariables false
set_option maxRecDepth 10000
def ccell (T : TypeId) (op a b c : Int) (t : ByteArray) : Obj := .cells #[.int .i64 op, .int .i64 a, .int .i64 b, .int .i64 c, .string t] T (0, 0)
theorem cc_cells {w : World} {g : Nat} {T : TypeId} {op a b c : Int} {t : ByteArray} (h : w.heap[g]? = some (ccell T op a b c t)) : w.cell? ⟨g, 0, none⟩ = some (.int .i64 op) ∧ w.cell? ⟨g, 1, none⟩ = some (.int .i64 a) ∧ w.cell? ⟨g, 2, none⟩ = some (.int .i64 b) ∧ w.cell? ⟨g, 3, none⟩ = some (.int .i64 c) ∧ w.cell? ⟨g, 4, none⟩ = some (.string t) ∧ (∀ i, w.frozen? ⟨g, i, none⟩ = false) := by
  refine ⟨?_, ?_, ?_, ?_, ?_, fun i => ?_⟩
  · simp [World.cell?, h, ccell]
  · simp [World.cell?, h, ccell]
  · simp [World.cell?, h, ccell]
  · simp [World.cell?, h, ccell]
  · simp [World.cell?, h, ccell]
  · simp [World.frozen?, h, ccell]
theorem set5_grown (w : World) (g : Nat) (a b c d e : Value) : w.grownBy (((((w.setCell ⟨g, 0, none⟩ a).setCell ⟨g, 1, none⟩ b).setCell ⟨g, 2, none⟩ c).setCell ⟨g, 3, none⟩ d).setCell ⟨g, 4, none⟩ e) (some g) :=
  grown_add (grown_add (grown_add (grown_add (grown_set w g 0 a) (grown_set _ g 1 b)) (grown_set _ g 2 c)) (grown_set _ g 3 d)) (grown_set _ g 4 e)
set_option maxHeartbeats 4000000 in
theorem comp_zero {w : World} {rb B : Nat} {s1 : Sum Int (List Int)} (hrb : rb < w.heap.size)
    (hn : Calls Try.prog 77 #[.pointer (some ⟨rb, 0, none⟩)] (w.alloc (ccell 155 0 0 0 0 ⟨#[]⟩)) fun en w' => en = .returned (.int .i64 0) ∧ StR w' rb B s1 ∧ (w.alloc (ccell 155 0 0 0 0 ⟨#[]⟩)).grownBy w' (some rb)) :
    Calls Try.prog 94 #[.pointer (some ⟨rb, 0, none⟩)] w fun en w' => en = .returned (.agg #[.int .i64 0, .int .i64 0, .int .i64 0, .int .i64 0, .string ⟨#[]⟩]) ∧ StR w' rb B s1 ∧ w.grownBy w' (some rb) := by
  have HN := Lib.hid hn
  have H0 := Lib.hid (heap_new w (ccell 155 0 0 0 0 ⟨#[]⟩))
  clear hn
  go_enter Try.func94, Try.ntmps94
  go_wp2_with fail
  refine HN.out.mono ?_
  rintro en v0 ⟨rfl, hs, hg⟩
  have hzv := hg.size
  rw [World.size_alloc] at hzv
  have e0 := (hg.block w.heap.size (by simp) (fun e => by injection e with e; omega)).trans H0.out
  obtain ⟨X, HX⟩ : ∃ X, Hid (X = v0.alloc (ccell 155 0 0 0 0 ⟨#[]⟩)) := ⟨_, Lib.hid rfl⟩
  have hX : X.heap[v0.heap.size]? = some (ccell 155 0 0 0 0 ⟨#[]⟩) := by rw [HX.out]; exact heap_new v0 _
  have hY : X.heap[w.heap.size]? = some (ccell 155 0 0 0 0 ⟨#[]⟩) := by rw [HX.out, Below.heap_alloc _ _ _ (by omega)]; exact e0
  have HSX : Hid (StR X rb B s1) := Lib.hid (by rw [HX.out]; exact hs.grown (row := none) (grown_alloc1 v0 _ none) (fun g hg => by cases hg))
  have HGX : Hid (w.grownBy X (some rb)) := Lib.hid (by rw [HX.out]; exact grown_add (grown_add (grown_alloc1 w _ _) hg) (grown_alloc1 v0 _ _))
  obtain ⟨x0, x1, x2, x3, x4, xf⟩ := cc_cells hX
  obtain ⟨y0, y1, y2, y3, y4, yf⟩ := cc_cells hY
  have q0 := yf 0
  have q1 := yf 1
  have q2 := yf 2
  have q3 := yf 3
  have q4 := yf 4
  clear xf yf hX hY e0 hs hg HN
  go_upto_region 2 with fail
  change Code.wp _ _ _ _ (v0.alloc (ccell 155 0 0 0 0 ⟨#[]⟩))
  rw [← HX.out]
  go_wp2_with fail
  refine bodyPost_ret (v := .agg #[.int .i64 0, .int .i64 0, .int .i64 0, .int .i64 0, .string ⟨#[]⟩]) ?_ rfl ⟨rfl, ?_, ?_⟩
  · simp [results, Try.results94, go_sem, y0, y1, y2, y3, y4]
  · exact HSX.out.grown (set5_grown _ _ _ _ _ _ _) (fun g hg => by injection hg with hg; omega)
  · exact grown_new HGX.out (set5_grown _ _ _ _ _ _ _) (fun g hg => by injection hg with hg; omega)
set_option maxHeartbeats 4000000 in
theorem comp_some {w : World} {rb B n : Nat} {r1 : List Int} (hrb : rb < w.heap.size) (hn0 : n ≠ 0)
    (hn : Calls Try.prog 77 #[.pointer (some ⟨rb, 0, none⟩)] (w.alloc (ccell 155 0 0 0 0 ⟨#[]⟩)) fun en w' => en = .returned (.int .i64 (n : Int)) ∧ StR w' rb B (.inr r1) ∧ (w.alloc (ccell 155 0 0 0 0 ⟨#[]⟩)).grownBy w' (some rb)) :
    Calls Try.prog 94 #[.pointer (some ⟨rb, 0, none⟩)] w fun en w' => ∃ a b c t, en = .returned (.agg #[.int .i64 (n : Int), .int .i64 a, .int .i64 b, .int .i64 c, .string t]) ∧ StR w' rb B (restS (verV r1)) ∧ w.grownBy w' (some rb) ∧
      (∀ x y z u r', verV r1 = .inr ((x, y, z, u), r') → a = (x : Int) ∧ b = (y : Int) ∧ c = (z : Int) ∧ t = strOfNums u) := by
  have HN := Lib.hid hn
  have H0 := Lib.hid (heap_new w (ccell 155 0 0 0 0 ⟨#[]⟩))
  have hne : ((n : Int) != 0) = true := by simp; omega
  obtain ⟨m, HM⟩ : ∃ m : Int, Hid ((n : Int) = m) := ⟨_, Lib.hid rfl⟩
  rw [HM.out] at HN hne ⊢
  clear hn hn0
  go_enter Try.func94, Try.ntmps94
  go_wp2_with fail
  refine HN.out.mono ?_
  rintro en v0 ⟨rfl, hs, hg⟩
  have hzv := hg.size
  rw [World.size_alloc] at hzv
  have e0 := (hg.block w.heap.size (by simp) (fun e => by injection e with e; omega)).trans H0.out
  obtain ⟨X, HX⟩ : ∃ X, Hid (X = v0.alloc (ccell 155 m 0 0 0 ⟨#[]⟩)) := ⟨_, Lib.hid rfl⟩
  have hXs : X.heap.size = v0.heap.size + 1 := by rw [HX.out]; simp
  have hX : X.heap[v0.heap.size]? = some (ccell 155 m 0 0 0 ⟨#[]⟩) := by rw [HX.out]; exact heap_new v0 _
  have hY : X.heap[w.heap.size]? = some (ccell 155 0 0 0 0 ⟨#[]⟩) := by rw [HX.out, Below.heap_alloc _ _ _ (by omega)]; exact e0
  have HSX : Hid (StR X rb B (.inr r1)) := Lib.hid (by rw [HX.out]; exact hs.grown (row := none) (grown_alloc1 v0 _ none) (fun g hg => by cases hg))
  have HGX : Hid (w.grownBy X (some rb)) := Lib.hid (by rw [HX.out]; exact grown_add (grown_add (grown_alloc1 w _ _) hg) (grown_alloc1 v0 _ _))
  obtain ⟨x0, x1, x2, x3, x4, xf⟩ := cc_cells hX
  have HXX := Lib.hid hX
  have HYY := Lib.hid hY
  have HV := Lib.hid (versionV_any HSX.out (by omega))
  have hlx : w.heap.size < X.heap.size ∧ v0.heap.size < X.heap.size := ⟨by omega, by omega⟩
  clear xf hX hY e0 hs hg HN hXs
  go_upto_region 2 with fail
  change Code.wp _ _ _ _ (v0.alloc (ccell 155 m 0 0 0 ⟨#[]⟩))
  rw [← HX.out]
  go_wp2_with fail
  refine HV.out.mono ?_
  rintro en v2 ⟨a, b, c, t, rfl, hs2, hg2, hval⟩
  have HVAL := Lib.hid hval
  have f1 := (hg2.block v0.heap.size hlx.2 (fun e => by injection e with e; omega)).trans HXX.out
  have f0 := (hg2.block w.heap.size hlx.1 (fun e => by injection e with e; omega)).trans HYY.out
  clear x0 x1 x2 x3 x4
  obtain ⟨x0, x1, x2, x3, x4, xf⟩ := cc_cells f1
  have p1 := xf 1
  have p2 := xf 2
  have p3 := xf 3
  have p4 := xf 4
  obtain ⟨Y, HY⟩ : ∃ Y, Hid (Y = (((v2.setCell ⟨v0.heap.size, 1, none⟩ (.int .i64 a)).setCell ⟨v0.heap.size, 2, none⟩ (.int .i64 b)).setCell ⟨v0.heap.size, 3, none⟩ (.int .i64 c)).setCell ⟨v0.heap.size, 4, none⟩ (.string t)) := ⟨_, Lib.hid rfl⟩
  have hgY : v2.grownBy Y (some v0.heap.size) := by rw [HY.out]; exact grown_add (grown_add (grown_add (grown_set _ _ _ _) (grown_set _ _ _ _)) (grown_set _ _ _ _)) (grown_set _ _ _ _)
  have g1 : Y.heap[v0.heap.size]? = some (ccell 155 m a b c t) := by
    rw [HY.out]
    have k1 := heap_setCell_same v2 v0.heap.size 1 _ _ (.int .i64 a) f1
    have k2 := heap_setCell_same _ v0.heap.size 2 _ _ (.int .i64 b) k1
    have k3 := heap_setCell_same _ v0.heap.size 3 _ _ (.int .i64 c) k2
    exact heap_setCell_same _ v0.heap.size 4 _ _ (.string t) k3
  have g0 : Y.heap[w.heap.size]? = some (ccell 155 0 0 0 0 ⟨#[]⟩) := (hgY.block w.heap.size (by have := hg2.size; omega) (fun e => by injection e with e; omega)).trans f0
  have HSY : Hid (StR Y rb B (restS (verV r1))) := Lib.hid (hs2.grown hgY (fun g hg => by injection hg with hg; omega))
  have HGY : Hid (w.grownBy Y (some rb)) := Lib.hid (grown_new (grown_add HGX.out hg2) hgY (fun g hg => by injection hg with hg; omega))
  have HG01 := Lib.hid (And.intro g0 g1)
  clear hs2 hg2 f0 f1 hval xf hgY g0 g1 HV
  go_upto_region 4 with fail
  rw [← HY.out]
  clear x0 x1 x2 x3 x4 p1 p2 p3 p4
  obtain ⟨x0, x1, x2, x3, x4, xf⟩ := cc_cells HG01.out.2
  obtain ⟨y0, y1, y2, y3, y4, yf⟩ := cc_cells HG01.out.1
  have q0 := yf 0
  have q1 := yf 1
  have q2 := yf 2
  have q3 := yf 3
  have q4 := yf 4
  clear xf yf
  go_wp2_with fail
  refine bodyPost_ret (v := .agg #[.int .i64 m, .int .i64 a, .int .i64 b, .int .i64 c, .string t]) ?_ rfl ⟨a, b, c, t, rfl, ?_, ?_, HVAL.out⟩
  · simp [results, Try.results94, go_sem, y0, y1, y2, y3, y4]
  · exact HSY.out.grown (set5_grown _ _ _ _ _ _ _) (fun g hg => by injection hg with hg; omega)
  · exact grown_new HGY.out (set5_grown _ _ _ _ _ _ _) (fun g hg => by injection hg with hg; omega)
end
section
open Go.RowKit
open ByteP CodeP
set_option linter.unusedVariables false
set_option maxRecDepth 10000
def cpS : Sum Int (List Int) → Sum Int (CV × List Int)
  | .inl e => .inl e
  | .inr r => compV r
theorem compS_any {w : World} {rb B : Nat} {s : Sum Int (List Int)} (h : StR w rb B s) (hrb : rb < w.heap.size) :
    Calls Try.prog 94 #[.pointer (some ⟨rb, 0, none⟩)] w fun en w' => ∃ op a b c t, en = .returned (.agg #[.int .i64 op, .int .i64 a, .int .i64 b, .int .i64 c, .string t]) ∧ StR w' rb B (restS (cpS s)) ∧ w.grownBy w' (some rb) ∧ (∀ x r, cpS s = .inr (x, r) → x = ⟨op, a, b, c, t⟩) := by
  have h1 : StR (w.alloc (ccell 155 0 0 0 0 ⟨#[]⟩)) rb B s := h.grown (row := none) (grown_alloc1 w _ none) (fun g hg => by cases hg)
  cases s with
  | inl e =>
    obtain ⟨he, r, hr⟩ := h1
    refine (comp_zero (B := B) (s1 := .inl e) hrb ((number_err hr (by omega)).mono ?_)).mono ?_
    · rintro en w' ⟨rfl, k1, k2⟩
      exact ⟨rfl, ⟨he, r, k1⟩, k2⟩
    · rintro en w' ⟨rfl, k1, k2⟩
      exact ⟨0, 0, 0, 0, _, rfl, k1, k2, fun x r h => by cases h⟩
  | inr r =>
    obtain ⟨hr, hb, hl⟩ := h1
    cases hres : num r with
    | inl e =>
      have e1 : cpS (.inr r) = .inl e := by show compV r = _; unfold compV; rw [hres]
      rw [e1]
      refine (comp_zero (B := B) (s1 := .inl e) hrb ((number_go hr hb).mono ?_)).mono ?_
      · rintro en w' ⟨n, rfl, hg, hn⟩
        rw [hres] at hn
        obtain ⟨rfl, r1, k1⟩ := hn
        exact ⟨rfl, ⟨num_err hres, r1, k1⟩, hg⟩
      · rintro en w' ⟨rfl, k1, k2⟩
        exact ⟨0, 0, 0, 0, _, rfl, k1, k2, fun x r h => by cases h⟩
    | inr p =>
      obtain ⟨n, r1⟩ := p
      have hb2 := num_back hb hres
      have hl1 : r1.length ≤ 1000000000 := by
        have := hl
        rw [hb2.2, List.length_append] at this
        omega
      by_cases h0 : n = 0
      · subst h0
        have e1 : cpS (.inr r) = .inr (⟨0, 0, 0, 0, ⟨#[]⟩⟩, r1) := by show compV r = _; unfold compV; rw [hres]; simp
        rw [e1]
        refine (comp_zero (B := B) (s1 := .inr r1) hrb ((number_go hr hb).mono ?_)).mono ?_
        · rintro en w' ⟨n, rfl, hg, hn⟩
          rw [hres] at hn
          obtain ⟨rfl, k1⟩ := hn
          exact ⟨rfl, ⟨k1, num_bytes hb hres, hl1⟩, hg⟩
        · rintro en w' ⟨rfl, k1, k2⟩
          exact ⟨0, 0, 0, 0, _, rfl, k1, k2, fun x r h => by injection h with h; injection h with h1 h2; exact h1.symm⟩
      · refine (comp_some (B := B) (r1 := r1) hrb h0 ((number_go hr hb).mono ?_)).mono ?_
        · rintro en w' ⟨m, rfl, hg, hn⟩
          rw [hres] at hn
          obtain ⟨rfl, k1⟩ := hn
          exact ⟨rfl, ⟨k1, num_bytes hb hres, hl1⟩, hg⟩
        · rintro en w' ⟨a, b, c, t, rfl, k1, k2, k3⟩
          cases hv : verV r1 with
          | inl e =>
            have e1 : cpS (.inr r) = .inl e := by show compV r = _; unfold compV; rw [hres]; simp only [if_neg h0]; rw [hv]
            rw [hv] at k1
            rw [e1]
            exact ⟨n, a, b, c, t, rfl, k1, k2, fun x r h => by cases h⟩
          | inr p =>
            obtain ⟨⟨x, y, z, u⟩, r2⟩ := p
            have e1 : cpS (.inr r) = .inr (⟨n, x, y, z, strOfNums u⟩, r2) := by show compV r = _; unfold compV; rw [hres]; simp only [if_neg h0]; rw [hv]
            obtain ⟨i1, i2, i3, i4⟩ := k3 x y z u r2 hv
            rw [hv] at k1
            rw [e1]
            refine ⟨n, a, b, c, t, rfl, k1, k2, fun x' r' h => ?_⟩
            injection h with h
            injection h with h1 h2
            rw [← h1, i1, i2, i3, i4]
end
end Go.Proofs.Ytmfoammkcokcoaa
