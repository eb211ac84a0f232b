/-
  CONTRACT of the program's GetPlan.
-/
import Derived.Test.YtolgmoaoheflcaaPList
namespace Go.Proofs.Ytolgmoaoheflcaa
open Go.RowKit
open ByteP CodeP
set_option linter.unusedVariables false
set_option maxRecDepth 10000
theorem ListI.grown {w w' : World} {base : Nat} {v : Value} {x : Sum Int (List Nat × List Int)} (h : ListI w base v x) {row : Option Nat} (hg : w.grownBy w' row) (hr : ∀ g, row = some g → g < base) : ListI w' base v x := by
  cases x with
  | inl e => exact h
  | inr p =>
    obtain ⟨l, r⟩ := p
    exact Own.other h hg (fun g hv e => by have := Own.ge h g hv; have := hr g e; omega)
theorem ListP.grown {E : TypeId} {w w' : World} {base : Nat} {v : Value} {x : Sum Int (List (Nat × Nat) × List Int)} (h : ListP E w base v x) {row : Option Nat} (hg : w.grownBy w' row) (hr : ∀ g, row = some g → g < base) : ListP E w' base v x := by
  cases x with
  | inl e => exact h
  | inr p =>
    obtain ⟨l, r⟩ := p
    exact OwnP.kept h hg (fun g hv e => by have := OwnP.ge h g hv; have := hr g e; omega)
theorem ListI.less {w : World} {base base' : Nat} {v : Value} {x : Sum Int (List Nat × List Int)} (h : ListI w base v x) (hb : base' ≤ base) : ListI w base' v x := by
  cases x with
  | inl e => exact h
  | inr p => obtain ⟨l, r⟩ := p; exact Own.less h hb
theorem ListP.less {E : TypeId} {w : World} {base base' : Nat} {v : Value} {x : Sum Int (List (Nat × Nat) × List Int)} (h : ListP E w base v x) (hb : base' ≤ base) : ListP E w base' v x := by
  cases x with
  | inl e => exact h
  | inr p =>
    obtain ⟨l, r⟩ := p
    refine ⟨h.1, ?_⟩
    rcases h.2 with h | ⟨g, cap, cur, hv, hg, r⟩
    · exact .inl h
    · exact .inr ⟨g, cap, cur, hv, by omega, r⟩
def endS : Sum Int (List Int) → Int
  | .inl e => e
  | .inr r => if r = [] then 0 else 12
theorem endS_any {w : World} {rb B : Nat} {s : Sum Int (List Int)} (h : StR w rb B s) :
    Calls Try.prog 65 #[.pointer (some ⟨rb, 0, none⟩)] w fun en w' => en = .returned (.int .i64 (endS s)) ∧ w.grownBy w' (some rb) := by
  cases s with
  | inl e =>
    obtain ⟨he, r, hr⟩ := h
    refine (ended_any hr).mono ?_
    rintro en w' ⟨rfl, hg⟩
    exact ⟨by rw [endE_err (by omega)]; rfl, hg⟩
  | inr r =>
    refine (ended_any h.1).mono ?_
    rintro en w' ⟨rfl, hg⟩
    refine ⟨?_, hg⟩
    show _ = Ending.returned (.int .i64 (if r = [] then 0 else 12))
    by_cases e : r = []
    · subst e; rw [endE_nil]; rfl
    · rw [endE_zero e, if_neg e]
/-- The reader's state behind each part of a plan. -/
def plS1 (s : Sum Int (List Int)) := restS (lstS s)
def plS2 (s : Sum Int (List Int)) := restS (lstS (plS1 s))
def plS3 (s : Sum Int (List Int)) := restS (lstPS (plS2 s))
def plS4 (s : Sum Int (List Int)) := restS (lstPS (plS3 s))
def pcell (v1 v2 v3 v4 : Value) : Obj := .cells #[v1, v2, v3, v4] 29 (0, 0)
theorem pc_cells {w : World} {g : Nat} {v1 v2 v3 v4 : Value} (h : w.heap[g]? = some (pcell v1 v2 v3 v4)) : w.cell? ⟨g, 0, none⟩ = some v1 ∧ w.cell? ⟨g, 1, none⟩ = some v2 ∧ w.cell? ⟨g, 2, none⟩ = some v3 ∧ w.cell? ⟨g, 3, none⟩ = some v4 ∧ (∀ i, w.frozen? ⟨g, i, none⟩ = false) := by
  refine ⟨?_, ?_, ?_, ?_, fun i => ?_⟩
  · simp [World.cell?, h, pcell]
  · simp [World.cell?, h, pcell]
  · simp [World.cell?, h, pcell]
  · simp [World.cell?, h, pcell]
  · simp [World.frozen?, h, pcell]
theorem set4_grown (w : World) (g : Nat) (a b c d : Value) : w.grownBy ((((w.setCell ⟨g, 0, none⟩ a).setCell ⟨g, 1, none⟩ b).setCell ⟨g, 2, none⟩ c).setCell ⟨g, 3, none⟩ d) (some g) :=
  grown_add (grown_add (grown_add (grown_set w g 0 a) (grown_set _ g 1 b)) (grown_set _ g 2 c)) (grown_set _ g 3 d)
set_option maxHeartbeats 8000000 in
theorem getPlan_any {w : World} {B n c : Nat} {A : Option Addr} {bs : List Int} (hr : RdY w B A n bs) (hc : CapA A n c) (hB : B ≤ w.heap.size) (hb : Bytes bs) (hl : n ≤ 1000000000) :
    Calls Try.prog 33 #[.slice A n c] w fun en w' => ∃ A1 n1 c1 A2 n2 c2 A3 n3 c3 A4 n4 c4, en = .returned (.tuple #[.agg #[.slice A1 n1 c1, .slice A2 n2 c2, .slice A3 n3 c3, .slice A4 n4 c4], .int .i64 (endS (plS4 (.inr bs)))]) ∧ Below w.heap.size w w' ∧
      (endS (plS4 (.inr bs)) ≠ 0 → n1 = 0 ∧ n3 = 0) ∧
      (endS (plS4 (.inr bs)) = 0 → ListI w' w.heap.size (.slice A1 n1 c1) (lstS (.inr bs)) ∧ ListI w' w.heap.size (.slice A2 n2 c2) (lstS (plS1 (.inr bs))) ∧ ListP 71 w' w.heap.size (.slice A3 n3 c3) (lstPS (plS2 (.inr bs))) ∧ ListP 90 w' w.heap.size (.slice A4 n4 c4) (lstPS (plS3 (.inr bs)))) := by
  have hlen := hr.len
  obtain rfl := hlen
  obtain ⟨W, hW⟩ : ∃ W, W = ((w.alloc (pcell (.slice none 0 0) (.slice none 0 0) (.slice none 0 0) (.slice none 0 0))).alloc (.cells #[.slice A bs.length c, .int .i64 0] 116)).alloc (pcell (.slice none 0 0) (.slice none 0 0) (.slice none 0 0) (.slice none 0 0)) := ⟨_, rfl⟩
  have hbl : Below w.heap.size w W := by rw [hW]; exact (((Below.refl _ w).alloc (Nat.le_refl _) _).alloc (by simp) _).alloc (by simp; omega) _
  have hz : W.heap.size = w.heap.size + 3 := by rw [hW]; simp
  have h0 : W.heap[w.heap.size]? = some (pcell (.slice none 0 0) (.slice none 0 0) (.slice none 0 0) (.slice none 0 0)) := by
    rw [hW, Below.heap_alloc _ _ _ (by simp; omega), Below.heap_alloc _ _ _ (by simp)]; exact heap_alloc_new w _
  have h1 : W.heap[w.heap.size + 1]? = some (.cells #[.slice A bs.length c, .int .i64 0] 116 (0, 0)) := by
    rw [hW, Below.heap_alloc _ _ _ (by simp)]
    have h := heap_alloc_new (w.alloc (pcell (.slice none 0 0) (.slice none 0 0) (.slice none 0 0) (.slice none 0 0))) (.cells #[.slice A bs.length c, .int .i64 0] 116)
    rw [World.size_alloc] at h; exact h
  have h2 : W.heap[w.heap.size + 1 + 1]? = some (pcell (.slice none 0 0) (.slice none 0 0) (.slice none 0 0) (.slice none 0 0)) := by
    rw [hW]
    have h := heap_alloc_new ((w.alloc (pcell (.slice none 0 0) (.slice none 0 0) (.slice none 0 0) (.slice none 0 0))).alloc (.cells #[.slice A bs.length c, .int .i64 0] 116)) (pcell (.slice none 0 0) (.slice none 0 0) (.slice none 0 0) (.slice none 0 0))
    rw [World.size_alloc, World.size_alloc] at h; exact h
  have hst : StR W (w.heap.size + 1) B (.inr bs) := ⟨⟨⟨A, c, h1, hr.below (hbl.mono hB), hc⟩, by omega⟩, hb, hl⟩
  have HST := Lib.hid hst
  have HBL := Lib.hid hbl
  have H0 := Lib.hid h0
  have H2 := Lib.hid h2
  have HW := Lib.hid hW
  clear hst hbl h0 h1 h2 hr hc hb
  go_enter Try.func33, Try.ntmps33
  go_upto_region 3 with fail
  change Code.wp _ _ _ _ (((w.alloc (pcell (.slice none 0 0) (.slice none 0 0) (.slice none 0 0) (.slice none 0 0))).alloc (.cells #[.slice A bs.length c, .int .i64 0] 116)).alloc (pcell (.slice none 0 0) (.slice none 0 0) (.slice none 0 0) (.slice none 0 0)))
  rw [← HW.out]
  clear hW HW
  have HZ := Lib.hid hz
  clear hz
  have hz0 : w.heap.size + 1 + 1 < W.heap.size := heapE_lt H2.out
  obtain ⟨x0, x1, x2, x3, xf⟩ := pc_cells H2.out
  clear x0 x1 x2 x3 xf
  have HC1 := Lib.hid (numbersS_any HST.out (by omega))
  go_wp2_with fail
  refine HC1.out.mono ?_
  rintro en v1 ⟨A1, n1, c1, rfl, hl1, hs1, hg1⟩
  have e01 := (hg1.block w.heap.size (by omega) (fun e => by injection e with e; omega)).trans H0.out
  have e21 := (hg1.block (w.heap.size + 1 + 1) hz0 (fun e => by injection e with e; omega)).trans H2.out
  obtain ⟨x0, x1, x2, x3, xf⟩ := pc_cells e21
  have hzv1 := hg1.size
  have hfz1 := xf 0
  clear xf
  obtain ⟨W1, hW1⟩ : ∃ W1, W1 = v1.setCell ⟨w.heap.size + 1 + 1, 0, none⟩ (.slice A1 n1 c1) := ⟨_, rfl⟩
  have hgs1 : v1.grownBy W1 (some (w.heap.size + 1 + 1)) := by rw [hW1]; exact grown_set _ _ _ _
  have ST1 := Lib.hid (hs1.grown hgs1 (fun g hg => by injection hg with hg; omega))
  have E01 : Hid (W1.heap[w.heap.size]? = _) := Lib.hid ((hgs1.block w.heap.size (by omega) (fun e => by injection e with e; omega)).trans e01)
  have E21 : Hid (W1.heap[w.heap.size + 1 + 1]? = some (pcell (.slice A1 n1 c1) (.slice none 0 0) (.slice none 0 0) (.slice none 0 0))) := Lib.hid (by rw [hW1]; exact heap_setCell_same v1 _ 0 _ _ _ e21)
  have L1_1 := Lib.hid ((ListI.less hl1 (show w.heap.size + 1 + 1 + 1 ≤ _ by omega)).grown hgs1 (fun g hg => by injection hg with hg; omega))
  have HB1 : Hid (Below w.heap.size w W1) := Lib.hid (((HBL.out).grown hg1 (by omega) (fun g hg => by injection hg with hg; omega)).grown hgs1 (by omega) (fun g hg => by injection hg with hg; omega))
  have HWW1 := Lib.hid hW1
  clear hW1 hgs1 hs1 hl1 hg1 e01 HC1 HST
  go_upto_region 4 with fail
  change Code.wp _ _ _ _ (v1.setCell ⟨w.heap.size + 1 + 1, 0, none⟩ (.slice A1 n1 c1))
  rw [← HWW1.out]
  clear x0 x1 x2 x3 hfz1 e21
  have hz1 : w.heap.size + 1 + 1 < W1.heap.size := heapE_lt E21.out
  obtain ⟨x0, x1, x2, x3, xf⟩ := pc_cells E21.out
  clear x0 x1 x2 x3 xf
  have HC2 := Lib.hid (numbersS_any ST1.out (by omega))
  go_wp2_with fail
  refine HC2.out.mono ?_
  rintro en v2 ⟨A2, n2, c2, rfl, hl2, hs2, hg2⟩
  have e02 := (hg2.block w.heap.size (by omega) (fun e => by injection e with e; omega)).trans E01.out
  have e22 := (hg2.block (w.heap.size + 1 + 1) hz1 (fun e => by injection e with e; omega)).trans E21.out
  obtain ⟨x0, x1, x2, x3, xf⟩ := pc_cells e22
  have hzv2 := hg2.size
  have hfz2 := xf 1
  clear xf
  obtain ⟨W2, hW2⟩ : ∃ W2, W2 = v2.setCell ⟨w.heap.size + 1 + 1, 1, none⟩ (.slice A2 n2 c2) := ⟨_, rfl⟩
  have hgs2 : v2.grownBy W2 (some (w.heap.size + 1 + 1)) := by rw [hW2]; exact grown_set _ _ _ _
  have ST2 := Lib.hid (hs2.grown hgs2 (fun g hg => by injection hg with hg; omega))
  have E02 : Hid (W2.heap[w.heap.size]? = _) := Lib.hid ((hgs2.block w.heap.size (by omega) (fun e => by injection e with e; omega)).trans e02)
  have E22 : Hid (W2.heap[w.heap.size + 1 + 1]? = some (pcell (.slice A1 n1 c1) (.slice A2 n2 c2) (.slice none 0 0) (.slice none 0 0))) := Lib.hid (by rw [hW2]; exact heap_setCell_same v2 _ 1 _ _ _ e22)
  have L2_2 := Lib.hid ((ListI.less hl2 (show w.heap.size + 1 + 1 + 1 ≤ _ by omega)).grown hgs2 (fun g hg => by injection hg with hg; omega))
  have L1_2 := Lib.hid ((ListI.grown (L1_1.out) hg2 (fun g hg => by injection hg with hg; omega)).grown hgs2 (fun g hg => by injection hg with hg; omega))
  have HB2 : Hid (Below w.heap.size w W2) := Lib.hid (((HB1.out).grown hg2 (by omega) (fun g hg => by injection hg with hg; omega)).grown hgs2 (by omega) (fun g hg => by injection hg with hg; omega))
  have HWW2 := Lib.hid hW2
  clear hW2 hgs2 hs2 hl2 hg2 e02 HC2 ST1 HWW1
  go_upto_region 5 with fail
  change Code.wp _ _ _ _ (v2.setCell ⟨w.heap.size + 1 + 1, 1, none⟩ (.slice A2 n2 c2))
  rw [← HWW2.out]
  clear x0 x1 x2 x3 hfz2 e22
  have hz2 : w.heap.size + 1 + 1 < W2.heap.size := heapE_lt E22.out
  obtain ⟨x0, x1, x2, x3, xf⟩ := pc_cells E22.out
  clear x0 x1 x2 x3 xf
  have HC3 := Lib.hid (listS_any ST2.out (by omega))
  go_wp2_with fail
  refine HC3.out.mono ?_
  rintro en v3 ⟨A3, n3, c3, rfl, hl3, hs3, hg3⟩
  have e03 := (hg3.block w.heap.size (by omega) (fun e => by injection e with e; omega)).trans E02.out
  have e23 := (hg3.block (w.heap.size + 1 + 1) hz2 (fun e => by injection e with e; omega)).trans E22.out
  obtain ⟨x0, x1, x2, x3, xf⟩ := pc_cells e23
  have hzv3 := hg3.size
  have hfz3 := xf 2
  clear xf
  obtain ⟨W3, hW3⟩ : ∃ W3, W3 = v3.setCell ⟨w.heap.size + 1 + 1, 2, none⟩ (.slice A3 n3 c3) := ⟨_, rfl⟩
  have hgs3 : v3.grownBy W3 (some (w.heap.size + 1 + 1)) := by rw [hW3]; exact grown_set _ _ _ _
  have ST3 := Lib.hid (hs3.grown hgs3 (fun g hg => by injection hg with hg; omega))
  have E03 : Hid (W3.heap[w.heap.size]? = _) := Lib.hid ((hgs3.block w.heap.size (by omega) (fun e => by injection e with e; omega)).trans e03)
  have E23 : Hid (W3.heap[w.heap.size + 1 + 1]? = some (pcell (.slice A1 n1 c1) (.slice A2 n2 c2) (.slice A3 n3 c3) (.slice none 0 0))) := Lib.hid (by rw [hW3]; exact heap_setCell_same v3 _ 2 _ _ _ e23)
  have L3_3 := Lib.hid ((ListP.less hl3 (show w.heap.size + 1 + 1 + 1 ≤ _ by omega)).grown hgs3 (fun g hg => by injection hg with hg; omega))
  have L1_3 := Lib.hid ((ListI.grown (L1_2.out) hg3 (fun g hg => by injection hg with hg; omega)).grown hgs3 (fun g hg => by injection hg with hg; omega))
  have L2_3 := Lib.hid ((ListI.grown (L2_2.out) hg3 (fun g hg => by injection hg with hg; omega)).grown hgs3 (fun g hg => by injection hg with hg; omega))
  have HB3 : Hid (Below w.heap.size w W3) := Lib.hid (((HB2.out).grown hg3 (by omega) (fun g hg => by injection hg with hg; omega)).grown hgs3 (by omega) (fun g hg => by injection hg with hg; omega))
  have HWW3 := Lib.hid hW3
  clear hW3 hgs3 hs3 hl3 hg3 e03 HC3 ST2 HWW2
  go_upto_region 6 with fail
  change Code.wp _ _ _ _ (v3.setCell ⟨w.heap.size + 1 + 1, 2, none⟩ (.slice A3 n3 c3))
  rw [← HWW3.out]
  clear x0 x1 x2 x3 hfz3 e23
  have hz3 : w.heap.size + 1 + 1 < W3.heap.size := heapE_lt E23.out
  obtain ⟨x0, x1, x2, x3, xf⟩ := pc_cells E23.out
  clear x0 x1 x2 x3 xf
  have HC4 := Lib.hid (listE_any ST3.out (by omega))
  go_wp2_with fail
  refine HC4.out.mono ?_
  rintro en v4 ⟨A4, n4, c4, rfl, hl4, hs4, hg4⟩
  have e04 := (hg4.block w.heap.size (by omega) (fun e => by injection e with e; omega)).trans E03.out
  have e24 := (hg4.block (w.heap.size + 1 + 1) hz3 (fun e => by injection e with e; omega)).trans E23.out
  obtain ⟨x0, x1, x2, x3, xf⟩ := pc_cells e24
  have hzv4 := hg4.size
  have hfz4 := xf 3
  clear xf
  obtain ⟨W4, hW4⟩ : ∃ W4, W4 = v4.setCell ⟨w.heap.size + 1 + 1, 3, none⟩ (.slice A4 n4 c4) := ⟨_, rfl⟩
  have hgs4 : v4.grownBy W4 (some (w.heap.size + 1 + 1)) := by rw [hW4]; exact grown_set _ _ _ _
  have ST4 := Lib.hid (hs4.grown hgs4 (fun g hg => by injection hg with hg; omega))
  have E04 : Hid (W4.heap[w.heap.size]? = _) := Lib.hid ((hgs4.block w.heap.size (by omega) (fun e => by injection e with e; omega)).trans e04)
  have E24 : Hid (W4.heap[w.heap.size + 1 + 1]? = some (pcell (.slice A1 n1 c1) (.slice A2 n2 c2) (.slice A3 n3 c3) (.slice A4 n4 c4))) := Lib.hid (by rw [hW4]; exact heap_setCell_same v4 _ 3 _ _ _ e24)
  have L4_4 := Lib.hid ((ListP.less hl4 (show w.heap.size + 1 + 1 + 1 ≤ _ by omega)).grown hgs4 (fun g hg => by injection hg with hg; omega))
  have L1_4 := Lib.hid ((ListI.grown (L1_3.out) hg4 (fun g hg => by injection hg with hg; omega)).grown hgs4 (fun g hg => by injection hg with hg; omega))
  have L2_4 := Lib.hid ((ListI.grown (L2_3.out) hg4 (fun g hg => by injection hg with hg; omega)).grown hgs4 (fun g hg => by injection hg with hg; omega))
  have L3_4 := Lib.hid ((ListP.grown (L3_3.out) hg4 (fun g hg => by injection hg with hg; omega)).grown hgs4 (fun g hg => by injection hg with hg; omega))
  have HB4 : Hid (Below w.heap.size w W4) := Lib.hid (((HB3.out).grown hg4 (by omega) (fun g hg => by injection hg with hg; omega)).grown hgs4 (by omega) (fun g hg => by injection hg with hg; omega))
  have HWW4 := Lib.hid hW4
  clear hW4 hgs4 hs4 hl4 hg4 e04 HC4 ST3 HWW3
  go_upto_region 7 with fail
  change Code.wp _ _ _ _ (v4.setCell ⟨w.heap.size + 1 + 1, 3, none⟩ (.slice A4 n4 c4))
  rw [← HWW4.out]
  clear x0 x1 x2 x3 hfz4 e24
  have hz4 : w.heap.size + 1 + 1 < W4.heap.size := heapE_lt E24.out
  obtain ⟨er, her⟩ : ∃ er, er = endS (plS4 (.inr bs)) := ⟨_, rfl⟩
  have HE : Hid (Calls Try.prog 65 #[.pointer (some ⟨w.heap.size + 1, 0, none⟩)] W4 fun en w' => en = .returned (.int .i64 er) ∧ W4.grownBy w' (some (w.heap.size + 1))) := Lib.hid (by rw [her]; exact endS_any ST4.out)
  have HER := Lib.hid her
  clear her
  go_wp2_with fail
  refine HE.out.mono ?_
  rintro en v5 ⟨rfl, hg5⟩
  have e0 := (hg5.block w.heap.size (by omega) (fun e => by injection e with e; omega)).trans E04.out
  have e2 := (hg5.block (w.heap.size + 1 + 1) hz4 (fun e => by injection e with e; omega)).trans E24.out
  have HB5 : Hid (Below w.heap.size w v5) := Lib.hid ((HB4.out).grown hg5 (by omega) (fun g hg => by injection hg with hg; omega))
  have L1_5 := Lib.hid (ListI.grown (L1_4.out) hg5 (fun g hg => by injection hg with hg; omega))
  have L2_5 := Lib.hid (ListI.grown (L2_4.out) hg5 (fun g hg => by injection hg with hg; omega))
  have L3_5 := Lib.hid (ListP.grown (L3_4.out) hg5 (fun g hg => by injection hg with hg; omega))
  have L4_5 := Lib.hid (ListP.grown (L4_4.out) hg5 (fun g hg => by injection hg with hg; omega))
  clear hg5 HE ST4
  show _
  obtain ⟨y0, y1, y2, y3, yf⟩ := pc_cells e0
  obtain ⟨x0, x1, x2, x3, xf⟩ := pc_cells e2
  have q0 := yf 0
  have q1 := yf 1
  have q2 := yf 2
  have q3 := yf 3
  clear yf xf
  have hz5 := HB5.out.size
  by_cases hE : er = 0
  · subst hE
    go_wp2_with fail
    refine bodyPost_ret (v := .tuple #[.agg #[.slice A1 n1 c1, .slice A2 n2 c2, .slice A3 n3 c3, .slice A4 n4 c4], .int .i64 0]) ?_ rfl ⟨A1, n1, c1, A2, n2, c2, A3, n3, c3, A4, n4, c4, by rw [← HER.out], ?_, fun h => absurd HER.out.symm h, fun _ => ?_⟩
    · rw [results_cell_tmp rfl]; go_simp
    · exact HB5.out.grown (set4_grown _ _ _ _ _ _) hz5 (fun g hg => by injection hg with hg; omega)
    · exact ⟨((L1_5.out).grown (set4_grown _ _ _ _ _ _) (fun g hg => by injection hg with hg; omega)).less (by omega), ((L2_5.out).grown (set4_grown _ _ _ _ _ _) (fun g hg => by injection hg with hg; omega)).less (by omega), ((L3_5.out).grown (set4_grown _ _ _ _ _ _) (fun g hg => by injection hg with hg; omega)).less (by omega), ((L4_5.out).grown (set4_grown _ _ _ _ _ _) (fun g hg => by injection hg with hg; omega)).less (by omega)⟩
  · have hne : (er != 0) = true := by simp [hE]
    go_wp2_with fail
    refine bodyPost_ret (v := .tuple #[.agg #[.slice none 0 0, .slice none 0 0, .slice none 0 0, .slice none 0 0], .int .i64 er]) ?_ rfl ⟨none, 0, 0, none, 0, 0, none, 0, 0, none, 0, 0, by rw [← HER.out], ?_, fun _ => ⟨rfl, rfl⟩, fun h => absurd (HER.out.trans h) hE⟩
    · rw [results_cell_tmp rfl]; go_simp
    · exact HB5.out.grown (set4_grown _ _ _ _ _ _) hz5 (fun g hg => by injection hg with hg; omega)
end Go.Proofs.Ytolgmoaoheflcaa
