/-
  A catalogue that the program reads.
-/
import Derived.Test.YtmfoammkcokcoaaUCr
namespace Go.Proofs.Ytmfoammkcokcoaa
open Go.RowKit
open ByteP CodeP
set_option linter.unusedVariables false
set_option maxRecDepth 10000
set_option maxHeartbeats 8000000 in
theorem getCat_any {w : World} {B n c : Nat} {A : Option Addr} {bs : List Int} (hr : RdY w B A n bs) (hc : CapA A n c) (hB : B ≤ w.heap.size) (hb : Bytes bs) (hl : n ≤ 1000000000) :
    Calls Try.prog 13 #[.slice A n c] w fun en w' => ∃ A1 n1 c1, en = .returned (.tuple #[.agg #[.slice A1 n1 c1], .int .i64 (endP catP bs)]) ∧ Below w.heap.size w w' ∧
      (endP catP bs ≠ 0 → n1 = 0) ∧ (∀ x r, endP catP bs = 0 → catP bs = .inr (x, r) → ssI w' (fun b => b < w.heap.size) [.slice A1 n1 c1] x) := by
  have hlen := hr.len
  obtain rfl := hlen
  obtain ⟨W, hW⟩ : ∃ W, W = (w.alloc (.cells #[.slice none 0 0] 24)).alloc (.cells #[.slice A bs.length c, .int .i64 0] 126) := ⟨_, rfl⟩
  have hbl : Below w.heap.size w W := by rw [hW]; exact ((Below.refl _ w).alloc (Nat.le_refl _) _).alloc (by simp) _
  have hz : W.heap.size = w.heap.size + 2 := by rw [hW]; simp
  have h0 : W.heap[w.heap.size]? = some (.cells #[.slice none 0 0] 24 (0, 0)) := by
    rw [hW, Below.heap_alloc _ _ _ (by simp)]; exact heap_alloc_new w _
  have h1 : W.heap[w.heap.size + 1]? = some (.cells #[.slice A bs.length c, .int .i64 0] 126 (0, 0)) := by
    rw [hW]
    have h := heap_alloc_new (w.alloc (.cells #[.slice none 0 0] 24)) (.cells #[.slice A bs.length c, .int .i64 0] 126)
    rw [World.size_alloc] at h; exact h
  have hst : StR W (w.heap.size + 1) B (.inr bs) := ⟨⟨⟨A, c, h1, hr.below (hbl.mono hB), hc⟩, by omega⟩, hb, hl⟩
  have HST := Lib.hid hst
  have HBL := Lib.hid hbl
  have H0 := Lib.hid h0
  have HW := Lib.hid hW
  clear hst hbl h0 h1 hr hc hb
  go_enter Try.func13, Try.ntmps13
  go_upto_region 2 with fail
  change Code.wp _ _ _ _ ((w.alloc (.cells #[.slice none 0 0] 24)).alloc (.cells #[.slice A bs.length c, .int .i64 0] 126))
  rw [← HW.out]
  clear hW HW
  have HZ := Lib.hid hz
  clear hz
  have HC1 := Lib.hid (getServices_any HST.out (by have := HZ.out; omega))
  go_wp2_with fail
  refine HC1.out.mono ?_
  rintro en v1 ⟨A1, n1, c1, rfl, hs1, hg1, hl1⟩
  have e01 := (hg1.block w.heap.size (by have := HZ.out; omega) (fun e => by injection e with e; omega)).trans H0.out
  have hzv1 := hg1.size
  obtain ⟨W2, hW2⟩ : ∃ W2, W2 = v1.alloc (.cells #[.slice A1 n1 c1] 24) := ⟨_, rfl⟩
  have hgs2 : v1.grownBy W2 none := by rw [hW2]; exact grown_alloc1 v1 _ _
  have ST2 : Hid (StR W2 (w.heap.size + 1) B (restS (upS catP (.inr bs)))) := Lib.hid (hs1.grown hgs2 (fun g hg => by cases hg))
  have E02 : Hid (W2.heap[w.heap.size]? = _) := Lib.hid ((hgs2.block w.heap.size (by have := HZ.out; omega) (fun e => by cases e)).trans e01)
  have E22 : Hid (W2.heap[v1.heap.size]? = some (.cells #[.slice A1 n1 c1] 24 (0, 0))) := Lib.hid (by rw [hW2]; exact heap_new v1 _)
  have L2 : Hid (∀ x r, upS catP (.inr bs) = .inr (x, r) → ssI W2 (fun b => b < w.heap.size + 2) [.slice A1 n1 c1] x) := Lib.hid (fun x r hx => ss_turns.go (hl1 x r hx) (FrM.of_grown hgs2 (fun g hg => by cases hg)) (fun b hb => .inl (by have := HZ.out; show b < _; omega)))
  have HB2 : Hid (Below w.heap.size w W2) := Lib.hid (((HBL.out).grown hg1 (by have := HZ.out; omega) (fun g hg => by injection hg with hg; omega)).grown hgs2 (by have := HZ.out; omega) (fun g hg => by cases hg))
  have hv1 : w.heap.size + 2 ≤ v1.heap.size := by have := HZ.out; omega
  have HWW2 := Lib.hid hW2
  clear hW2 hgs2 hs1 hl1 hg1 e01 HC1 HST hzv1
  go_upto_region 3 with fail
  change Code.wp _ _ _ _ (v1.alloc (.cells #[.slice A1 n1 c1] 24))
  rw [← HWW2.out]
  have hz2 : v1.heap.size < W2.heap.size := heapE_lt E22.out
  obtain ⟨er, her⟩ : ∃ er, er = endP catP bs := ⟨_, rfl⟩
  have HE : Hid (Calls Try.prog 41 #[.pointer (some ⟨w.heap.size + 1, 0, none⟩)] W2 fun en w' => en = .returned (.int .i64 er) ∧ W2.grownBy w' (some (w.heap.size + 1))) := Lib.hid (by rw [her]; exact endS_any ST2.out)
  have HER := Lib.hid her
  clear her
  go_wp2_with fail
  refine HE.out.mono ?_
  rintro en v5 ⟨rfl, hg5⟩
  have e0 := (hg5.block w.heap.size (by omega) (fun e => by injection e with e; omega)).trans E02.out
  have e2 := (hg5.block v1.heap.size hz2 (fun e => by injection e with e; omega)).trans E22.out
  have HB5 : Hid (Below w.heap.size w v5) := Lib.hid ((HB2.out).grown hg5 (by omega) (fun g hg => by injection hg with hg; omega))
  have L5 : Hid (∀ x r, catP bs = .inr (x, r) → ssI v5 (fun b => b < w.heap.size + 2) [.slice A1 n1 c1] x) := Lib.hid (fun x r hx => ss_turns.go (L2.out x r hx) (FrM.of_grown hg5 (fun g hg => by injection hg with hg; subst hg; show _ < _; omega)) (fun b hb => .inl hb))
  clear hg5 HE ST2 HWW2
  show _
  obtain ⟨y0, q0⟩ := row1f e0
  obtain ⟨x0, _⟩ := row1f e2
  have hz5 := HB5.out.size
  have HGS := Lib.hid (fun (a : Value) => (grown_set v5 w.heap.size 0 a))
  have HBF : Hid (∀ a : Value, Below w.heap.size w (v5.setCell ⟨w.heap.size, 0, none⟩ a)) := Lib.hid (fun a => HB5.out.grown (HGS.out a) (by omega) (fun g hg => by injection hg with hg; omega))
  by_cases hE : er = 0
  · subst hE
    have L6 : Hid (∀ x r, catP bs = .inr (x, r) → ssI (v5.setCell ⟨w.heap.size, 0, none⟩ (.slice A1 n1 c1)) (fun b => b < w.heap.size) [.slice A1 n1 c1] x) := Lib.hid (fun x r hx => ss_turns.go (L5.out x r hx) (FrM.of_grown (HGS.out _) (fun g hg => by injection hg with hg; subst hg; show _ < _; omega)) (fun b hb => .inl (by show b < _; omega)))
    go_wp2_with fail
    refine bodyPost_ret (v := .tuple #[.agg #[.slice A1 n1 c1], .int .i64 0]) ?_ rfl ⟨A1, n1, c1, by rw [← HER.out], HBF.out _, (fun h => absurd HER.out.symm h), fun x r _ hx => L6.out x r hx⟩
    rw [results_cell_tmp rfl]; go_simp
  · have hne : (er != 0) = true := by simp [hE]
    have HE0 := Lib.hid hE
    clear hE
    go_wp2_with fail
    refine bodyPost_ret (v := .tuple #[.agg #[.slice none 0 0], .int .i64 er]) ?_ rfl ⟨none, 0, 0, by rw [← HER.out], HBF.out _, (fun h => rfl), fun x r h _ => absurd (HER.out.trans h) HE0.out⟩
    rw [results_cell_tmp rfl]; go_simp
end Go.Proofs.Ytmfoammkcokcoaa
