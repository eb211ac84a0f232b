/-
  Requests that the program reads.
-/
import Derived.Test.YtmfoammkcokcoaaULx
namespace Go.Proofs.Ytmfoammkcokcoaa
open Go.RowKit
open ByteP CodeP
set_option linter.unusedVariables false
set_option maxRecDepth 10000
def isI : ItT (List Int) := SlI 1 inI
theorem is_turns : Turns isI := SlI.turns in_turns
def psI : ItT (List (Int × List (List CV))) := SlI 2 pnI
theorem ps_turns : Turns psI := SlI.turns pn_turns
def rqI : ItT (List (Int × List (List CV)) × List Int) := TwI psI isI
theorem rq_turns : Turns rqI := TwI.turns ps_turns is_turns
theorem rdN_eq (n : Nat) : ∀ r, mapP casts (rdN n) r = rdL numI n r := by
  induction n with
  | zero => intro r; rfl
  | succ n ih =>
    intro r
    cases h : num r with
    | inl e =>
      rw [rdL_err (show numI r = .inl e from mapP_err h)]
      exact mapP_err (rdN_err h)
    | inr p =>
      obtain ⟨x, r1⟩ := p
      rw [rdL_step (show numI r = .inr ((x : Int), r1) from mapP_ok h), ← ih r1]
      have e : rdN (n + 1) r = cont [x] (rdN n r1) := rdN_step h
      unfold mapP
      rw [e]
      cases rdN n r1 with
      | inl e => rfl
      | inr q => rfl
theorem lst_eq (r : List Int) : mapP casts lst r = intsP r := by
  unfold intsP lsL
  cases hc : cnt r with
  | inl e => exact mapP_err (by unfold lst; rw [hc])
  | inr p =>
    obtain ⟨n, r1⟩ := p
    have e : lst r = rdN n r1 := by unfold lst; rw [hc]
    simp only
    rw [← rdN_eq]
    unfold mapP
    rw [e]
theorem Own.g {w : World} {base : Nat} {v : Value} {n : Nat} {xs : List Int} (h : Own w base v n xs) : OwnG 3 1 inI w base v xs := by
  have hl := h.len
  subst hl
  refine ⟨xs.map (Value.int .i64), h, fun j hj => ⟨[.int .i64 (xs.getD j default)], rfl, fun i u hu => ?_, rfl⟩⟩
  match i, hu with
  | 0, hu =>
    simp at hu
    subst hu
    rw [Nat.mul_one, Nat.add_zero, ix_map xs j hj]
    rfl
theorem numbersG_any {w : World} {rb B : Nat} {s : Sum Int (List Int)} (h : StR w rb B s) (hrb : rb < w.heap.size) :
    Calls Try.prog 53 #[.pointer (some ⟨rb, 0, none⟩)] w fun en w' => ∃ A n c, en = .returned (.slice A n c) ∧ StR w' rb B (restS (upS intsP s)) ∧ w.grownBy w' (some rb) ∧ ∀ x r, upS intsP s = .inr (x, r) → isI w' (fun b => b < w.heap.size) [.slice A n c] x := by
  refine (numbersS_any h hrb).mono ?_
  rintro en w' ⟨A, n, c, rfl, h1, h2, h3⟩
  have e1 : intsP = mapP casts lst := (funext lst_eq).symm
  have e2 : lstS s = upS lst s := by cases s <;> rfl
  rw [e1, upS_map]
  rw [e2] at h1 h2
  refine ⟨A, n, c, rfl, h2, h3, fun x r hx => ?_⟩
  cases s with
  | inl e => cases hx
  | inr r0 =>
    obtain ⟨l, hl, rfl⟩ := mapP_inr (show mapP casts lst r0 = _ from hx)
    have e3 : upS lst (.inr r0) = .inr (l, r) := hl
    rw [e3] at h1
    exact (Own.g h1).item in_turns (fun b hb => .inl hb)
set_option maxHeartbeats 8000000 in
theorem getRq_any {w : World} {B n c : Nat} {A : Option Addr} {bs : List Int} (hr : RdY w B A n bs) (hc : CapA A n c) (hB : B ≤ w.heap.size) (hb : Bytes bs) (hl : n ≤ 1000000000) :
    Calls Try.prog 21 #[.slice A n c] w fun en w' => ∃ A1 n1 c1 A2 n2 c2, en = .returned (.tuple #[.agg #[.slice A1 n1 c1, .slice A2 n2 c2], .int .i64 (endP rqP bs)]) ∧ Below w.heap.size w w' ∧
      (endP rqP bs ≠ 0 → n1 = 0 ∧ n2 = 0) ∧ (∀ x r, endP rqP bs = 0 → rqP bs = .inr (x, r) → rqI w' (fun b => b < w.heap.size) [.slice A1 n1 c1, .slice A2 n2 c2] x) := by
  have hlen := hr.len
  obtain rfl := hlen
  obtain ⟨W, hW⟩ : ∃ W, W = ((w.alloc (.cells #[.slice none 0 0, .slice none 0 0] 53)).alloc (.cells #[.slice A bs.length c, .int .i64 0] 126)).alloc (.cells #[.slice none 0 0, .slice none 0 0] 53) := ⟨_, rfl⟩
  have hbl : Below w.heap.size w W := by rw [hW]; exact (((Below.refl _ w).alloc (Nat.le_refl _) _).alloc (by simp) _).alloc (by simp; omega) _
  have hz : W.heap.size = w.heap.size + 3 := by rw [hW]; simp
  have h0 : W.heap[w.heap.size]? = some (.cells #[.slice none 0 0, .slice none 0 0] 53 (0, 0)) := by
    rw [hW, Below.heap_alloc _ _ _ (by simp; omega), Below.heap_alloc _ _ _ (by simp)]; exact heap_alloc_new w _
  have h1 : W.heap[w.heap.size + 1]? = some (.cells #[.slice A bs.length c, .int .i64 0] 126 (0, 0)) := by
    rw [hW, Below.heap_alloc _ _ _ (by simp)]
    have h := heap_alloc_new (w.alloc (.cells #[.slice none 0 0, .slice none 0 0] 53)) (.cells #[.slice A bs.length c, .int .i64 0] 126)
    rw [World.size_alloc] at h; exact h
  have h2 : W.heap[w.heap.size + 1 + 1]? = some (.cells #[.slice none 0 0, .slice none 0 0] 53 (0, 0)) := by
    rw [hW]
    have h := heap_alloc_new ((w.alloc (.cells #[.slice none 0 0, .slice none 0 0] 53)).alloc (.cells #[.slice A bs.length c, .int .i64 0] 126)) (.cells #[.slice none 0 0, .slice none 0 0] 53)
    rw [World.size_alloc, World.size_alloc] at h; exact h
  have hst : StR W (w.heap.size + 1) B (.inr bs) := ⟨⟨⟨A, c, h1, hr.below (hbl.mono hB), hc⟩, by omega⟩, hb, hl⟩
  have HST := Lib.hid hst
  have HBL := Lib.hid hbl
  have H0 := Lib.hid h0
  have H2 := Lib.hid h2
  have HW := Lib.hid hW
  clear hst hbl h0 h1 h2 hr hc hb
  go_enter Try.func21, Try.ntmps21
  go_upto_region 3 with fail
  change Code.wp _ _ _ _ (((w.alloc (.cells #[.slice none 0 0, .slice none 0 0] 53)).alloc (.cells #[.slice A bs.length c, .int .i64 0] 126)).alloc (.cells #[.slice none 0 0, .slice none 0 0] 53))
  rw [← HW.out]
  clear hW HW
  have HZ := Lib.hid hz
  clear hz
  have hz0 : w.heap.size + 1 + 1 < W.heap.size := heapE_lt H2.out
  have HC1 := Lib.hid (getPins_any HST.out (by omega))
  go_wp2_with fail
  refine HC1.out.mono ?_
  rintro en v1 ⟨A1, n1, c1, rfl, hs1, hg1, hl1⟩
  have e01 := (hg1.block w.heap.size (by omega) (fun e => by injection e with e; omega)).trans H0.out
  have e21 := (hg1.block (w.heap.size + 1 + 1) hz0 (fun e => by injection e with e; omega)).trans H2.out
  obtain ⟨x0, x1, hfz1, _⟩ := row2 e21
  have hzv1 := hg1.size
  obtain ⟨W1, hW1⟩ : ∃ W1, W1 = v1.setCell ⟨w.heap.size + 1 + 1, 0, none⟩ (.slice A1 n1 c1) := ⟨_, rfl⟩
  have hgs1 : v1.grownBy W1 (some (w.heap.size + 1 + 1)) := by rw [hW1]; exact grown_set _ _ _ _
  have ST1 := Lib.hid (hs1.grown hgs1 (fun g hg => by injection hg with hg; omega))
  have E01 : Hid (W1.heap[w.heap.size]? = _) := Lib.hid ((hgs1.block w.heap.size (by omega) (fun e => by injection e with e; omega)).trans e01)
  have E21 : Hid (W1.heap[w.heap.size + 1 + 1]? = some (.cells #[.slice A1 n1 c1, .slice none 0 0] 53 (0, 0))) := Lib.hid (by rw [hW1]; exact heap_setCell_same v1 _ 0 _ _ _ e21)
  have L1 : Hid (∀ x r, upS (lsL pinP) (.inr bs) = .inr (x, r) → psI W1 (fun b => b < W.heap.size) [.slice A1 n1 c1] x) := Lib.hid (fun x r hx => ps_turns.go (hl1 x r hx) (FrM.of_grown hgs1 (fun g hg => by injection hg with hg; subst hg; exact hz0)) (fun b hb => .inl hb))
  have HB1 : Hid (Below w.heap.size w W1) := Lib.hid (((HBL.out).grown hg1 (by omega) (fun g hg => by injection hg with hg; omega)).grown hgs1 (by omega) (fun g hg => by injection hg with hg; omega))
  have HWW1 := Lib.hid hW1
  clear hW1 hgs1 hs1 hl1 hg1 e01 HC1 HST
  go_upto_region 4 with fail
  change Code.wp _ _ _ _ (v1.setCell ⟨w.heap.size + 1 + 1, 0, none⟩ (.slice A1 n1 c1))
  rw [← HWW1.out]
  clear x0 x1 hfz1 e21
  have hz1 : w.heap.size + 1 + 1 < W1.heap.size := heapE_lt E21.out
  have HC2 := Lib.hid (numbersG_any ST1.out (by omega))
  go_wp2_with fail
  refine HC2.out.mono ?_
  rintro en v2 ⟨A2, n2, c2, rfl, hs2, hg2, hl2⟩
  have e02 := (hg2.block w.heap.size (by omega) (fun e => by injection e with e; omega)).trans E01.out
  have e22 := (hg2.block (w.heap.size + 1 + 1) hz1 (fun e => by injection e with e; omega)).trans E21.out
  obtain ⟨x0, x1, _, hfz2⟩ := row2 e22
  have hzv2 := hg2.size
  obtain ⟨W2, hW2⟩ : ∃ W2, W2 = v2.setCell ⟨w.heap.size + 1 + 1, 1, none⟩ (.slice A2 n2 c2) := ⟨_, rfl⟩
  have hgs2 : v2.grownBy W2 (some (w.heap.size + 1 + 1)) := by rw [hW2]; exact grown_set _ _ _ _
  have ST2 : Hid (StR W2 (w.heap.size + 1) B (restS (upS rqP (.inr bs)))) := Lib.hid (by
    unfold rqP
    rw [upS_pair]
    exact hs2.grown hgs2 (fun g hg => by injection hg with hg; omega))
  have E02 : Hid (W2.heap[w.heap.size]? = _) := Lib.hid ((hgs2.block w.heap.size (by omega) (fun e => by injection e with e; omega)).trans e02)
  have E22 : Hid (W2.heap[w.heap.size + 1 + 1]? = some (.cells #[.slice A1 n1 c1, .slice A2 n2 c2] 53 (0, 0))) := Lib.hid (by rw [hW2]; exact heap_setCell_same v2 _ 1 _ _ _ e22)
  have L2 : Hid (∀ x r, upS rqP (.inr bs) = .inr (x, r) → rqI W2 (fun b => b < w.heap.size + 3) [.slice A1 n1 c1, .slice A2 n2 c2] x) := Lib.hid (fun x r hx => by
    obtain ⟨⟨r1, h1⟩, h2⟩ := upS_pair_inr (show upS (pairP (lsL pinP) intsP) _ = _ from hx)
    have a1 := ps_turns.go (L1.out _ _ h1) (FrM.of_grown hg2 (fun g hg => by injection hg with hg; subst hg; show _ < _; omega)) (M' := fun b => b < W.heap.size) (fun b hb => .inl hb)
    have a2 := ps_turns.go a1 (FrM.of_grown hgs2 (fun g hg => by injection hg with hg; subst hg; exact hz0)) (M' := fun b => b < w.heap.size + 3) (fun b hb => .inl (by have := HZ.out; show b < _; omega))
    have b1 := is_turns.go (hl2 _ _ h2) (FrM.of_grown hgs2 (fun g hg => by injection hg with hg; subst hg; exact hz1)) (M' := fun b => b < w.heap.size + 3) (fun b hb => .inl (by have := E21.out; show b < _; omega))
    exact ⟨[.slice A1 n1 c1], [.slice A2 n2 c2], rfl, a2, b1⟩)
  have HB2 : Hid (Below w.heap.size w W2) := Lib.hid (((HB1.out).grown hg2 (by omega) (fun g hg => by injection hg with hg; omega)).grown hgs2 (by omega) (fun g hg => by injection hg with hg; omega))
  have HWW2 := Lib.hid hW2
  clear hW2 hgs2 hs2 hl2 hg2 e02 HC2 ST1 HWW1
  go_upto_region 5 with fail
  change Code.wp _ _ _ _ (v2.setCell ⟨w.heap.size + 1 + 1, 1, none⟩ (.slice A2 n2 c2))
  rw [← HWW2.out]
  clear x0 x1 hfz2 e22
  have hz2 : w.heap.size + 1 + 1 < W2.heap.size := heapE_lt E22.out
  obtain ⟨er, her⟩ : ∃ er, er = endP rqP bs := ⟨_, rfl⟩
  have HE : Hid (Calls Try.prog 41 #[.pointer (some ⟨w.heap.size + 1, 0, none⟩)] W2 fun en w' => en = .returned (.int .i64 er) ∧ W2.grownBy w' (some (w.heap.size + 1))) := Lib.hid (by rw [her]; exact endS_any ST2.out)
  have HER := Lib.hid her
  clear her
  go_wp2_with fail
  refine HE.out.mono ?_
  rintro en v5 ⟨rfl, hg5⟩
  have e0 := (hg5.block w.heap.size (by omega) (fun e => by injection e with e; omega)).trans E02.out
  have e2 := (hg5.block (w.heap.size + 1 + 1) hz2 (fun e => by injection e with e; omega)).trans E22.out
  have HB5 : Hid (Below w.heap.size w v5) := Lib.hid ((HB2.out).grown hg5 (by omega) (fun g hg => by injection hg with hg; omega))
  have L5 : Hid (∀ x r, rqP bs = .inr (x, r) → rqI v5 (fun b => b < w.heap.size + 3) [.slice A1 n1 c1, .slice A2 n2 c2] x) := Lib.hid (fun x r hx => rq_turns.go (L2.out x r hx) (FrM.of_grown hg5 (fun g hg => by injection hg with hg; subst hg; show _ < _; omega)) (fun b hb => .inl hb))
  clear hg5 HE ST2 HWW2
  show _
  obtain ⟨y0, y1, q0, q1⟩ := row2 e0
  obtain ⟨x0, x1, _, _⟩ := row2 e2
  have hz5 := HB5.out.size
  have HGS := Lib.hid (fun (a b : Value) => (grown_add (grown_set v5 w.heap.size 0 a) (grown_set _ w.heap.size 1 b)))
  have HBF : Hid (∀ a b : Value, Below w.heap.size w ((v5.setCell ⟨w.heap.size, 0, none⟩ a).setCell ⟨w.heap.size, 1, none⟩ b)) := Lib.hid (fun a b => HB5.out.grown (HGS.out a b) (by omega) (fun g hg => by injection hg with hg; omega))
  by_cases hE : er = 0
  · subst hE
    have L6 : Hid (∀ x r, rqP bs = .inr (x, r) → rqI ((v5.setCell ⟨w.heap.size, 0, none⟩ (.slice A1 n1 c1)).setCell ⟨w.heap.size, 1, none⟩ (.slice A2 n2 c2)) (fun b => b < w.heap.size) [.slice A1 n1 c1, .slice A2 n2 c2] x) := Lib.hid (fun x r hx => rq_turns.go (L5.out x r hx) (FrM.of_grown (HGS.out _ _) (fun g hg => by injection hg with hg; subst hg; show _ < _; omega)) (fun b hb => .inl (by show b < _; omega)))
    go_wp2_with fail
    refine bodyPost_ret (v := .tuple #[.agg #[.slice A1 n1 c1, .slice A2 n2 c2], .int .i64 0]) ?_ rfl ⟨A1, n1, c1, A2, n2, c2, by rw [← HER.out], HBF.out _ _, (fun h => absurd HER.out.symm h), fun x r _ hx => L6.out x r hx⟩
    rw [results_cell_tmp rfl]; go_simp
  · have hne : (er != 0) = true := by simp [hE]
    have HE0 := Lib.hid hE
    clear hE
    go_wp2_with fail
    refine bodyPost_ret (v := .tuple #[.agg #[.slice none 0 0, .slice none 0 0], .int .i64 er]) ?_ rfl ⟨none, 0, 0, none, 0, 0, by rw [← HER.out], HBF.out _ _, (fun h => ⟨rfl, rfl⟩), fun x r h _ => absurd (HER.out.trans h) HE0.out⟩
    rw [results_cell_tmp rfl]; go_simp
end Go.Proofs.Ytmfoammkcokcoaa
