/-
  CONTRACTS of package wal, over this translation: opened.
-/
import Derived.Test.YticklaophgekeaaWLay
namespace Go.Proofs.Yticklaophgekeaa
open Go.RowKit
open ByteP
set_option linter.unusedVariables false
set_option linter.unusedSimpArgs false
set_option maxRecDepth 10000
/-- The bytes begin with a frame of that mark. -/
def okP (mk : Int) (xs : List Int) : Prop := openN xs = 0 ∧ payT xs ≠ [] ∧ ix (payT xs) 0 = mk
theorem OwnY.cap {w : World} {base n c : Nat} {A : Option Addr} {xs : List Int} (h : OwnY w base (.slice A n c) n xs) (hn : 0 < n) : n ≤ c := by
  rcases h.2 with ⟨hv, h0⟩ | ⟨g, cap, cur, hv, _, _, hc, _⟩
  · omega
  · injection hv with e1 e2 e3
    omega
theorem RdK.tail {w : World} {M : Nat → Prop} {base n c g : Nat} {xs : List Int} (h : OwnY w base (.slice (some ⟨g, 0, none⟩) n c) n xs) (hn : 0 < n) (hM : ∀ b, base ≤ b → ¬ M b) (A' : Option Addr) (hA : 1 < n → A' = some ⟨g, 1, none⟩) : RdK w M A' (n - 1) xs.tail := by
  refine ⟨by rw [List.length_tail, h.len], fun hn1 => ?_⟩
  obtain ⟨g', c', hv, hg, hlt⟩ := h.form hn
  injection hv with e1 e2 e3
  injection e1 with e1
  injection e1 with e1
  subst e1
  refine ⟨g, 1, hA (by omega), hlt, hM g hg, fun j hj => ?_⟩
  rw [show 1 + j = j + 1 by omega, h.cell (j := j + 1) (by omega)]
  congr 2
  unfold ix
  simp [List.getD, List.getElem?_tail]
set_option maxHeartbeats 2000000 in
theorem opened_any {w : World} {B n c : Nat} {A : Option Addr} {xs : List Int} (mk : Int) (hx : RdY w B A n xs) (hb : Bytes xs) (hnc : n ≤ c) (hn : n ≤ 1099511627776) (hB : B ≤ w.heap.size) :
    Calls Try.prog 60 #[.slice A n c, .int .u8 mk] w fun e w' => Below w.heap.size w w' ∧
      ((okP mk xs ∧ ∃ A' m' c', e = .returned (.tuple #[.agg #[.slice A' m' c', .int .i64 (sizeN xs : Nat)], .bool true]) ∧ RdK w' (fun b => b < w.heap.size) A' m' (payT xs).tail) ∨
       (¬ okP mk xs ∧ e = .returned (.tuple #[.agg #[.slice none 0 0, .int .i64 0], .bool false]))) := by
  have HOP := Lib.hid (open_any (w := w.alloc (.cells #[.slice none 0 0, .int .i64 0] 105)) (c := c) (hx.alloc hB _) hb hnc hn (by simp; omega))
  have hc40 : ((w.alloc (.cells #[.slice none 0 0, .int .i64 0] 105)).heap[w.heap.size]?) = some (.cells #[.slice none 0 0, .int .i64 0] 105 (0, 0)) := heap_alloc_new w _
  have HC40 := Lib.hid hc40
  have HKN : Hid ((payT xs).length ≤ n) := Lib.hid (by have := payT_length_le xs; rw [hx.1] at this; exact this)
  clear hc40 hx
  go_enter Try.func60, Try.ntmps60
  go_wp2_with fail
  refine HOP.out.mono ?_
  rintro e w1 ⟨v1, hsay, ho1, hb1⟩
  unfold OpenSays at hsay
  subst hsay
  obtain ⟨A1, c1, rfl, _⟩ := ho1.shape
  have HB1 : Hid (Below w.heap.size w w1) := Lib.hid (((Below.refl _ _).alloc (Nat.le_refl _) _).trans (hb1.mono (by simp)))
  have hbx : w1.heap[w.heap.size]? = some (.cells #[.slice none 0 0, .int .i64 0] 105 (0, 0)) := (hb1.block w.heap.size (by simp)).trans HC40.out
  have HBX := Lib.hid hbx
  have x0 := cellK_of_heap hbx (i := 0) (x := .slice none 0 0) rfl
  have x1 := cellK_of_heap hbx (i := 1) (x := .int .i64 0) rfl
  have f0 := freeK_of_heap (i := 0) hbx
  have f1 := freeK_of_heap (i := 1) hbx
  have HO1 : Hid (OwnY w1 (w.heap.size + 1) (.slice A1 (payT xs).length c1) (payT xs).length (payT xs)) := Lib.hid (ho1.less (by simp))
  clear HOP hb1 hbx ho1
  have HEND : Hid (∀ u0 u1, Below w.heap.size w ((w1.setCell ⟨w.heap.size, 0, none⟩ u0).setCell ⟨w.heap.size, 1, none⟩ u1)) := Lib.hid (fun u0 u1 => (HB1.out.setCell (p := ⟨w.heap.size, 0, none⟩) (Nat.le_refl _) _).setCell (p := ⟨w.heap.size, 1, none⟩) (Nat.le_refl _) _)
  by_cases hz : openN xs = 0
  · obtain ⟨k, hk⟩ : ∃ k, (payT xs).length = k := ⟨_, rfl⟩
    rw [hk] at HO1 HKN ⊢
    by_cases hk0 : k = 0
    · subst hk0
      have HNO : Hid (¬ okP mk xs) := Lib.hid (fun h => h.2.1 (List.eq_nil_of_length_eq_zero hk))
      clear hk
      rw [hz]
      go_wp2
      refine bodyPost_ret (v := .tuple #[.agg #[.slice none 0 0, .int .i64 0], .bool false]) (by simp [results, Try.results60, go_sem, x0, x1, f0, f1]) rfl ⟨HEND.out _ _, .inr ⟨HNO.out, rfl⟩⟩
    · obtain ⟨g, c2, hv, hg, hlt⟩ := HO1.out.form (by omega)
      injection hv with e1 e2 e3
      subst e1
      clear e2 e3
      have hck := HO1.out.cap (by omega)
      have y0 := HO1.out.cell (j := 0) (by omega)
      have hkp : (0 : Int) < (k : Int) := by omega
      have hkz : ((k : Int) == 0) = false := beq_eq_false_iff_ne.2 (by omega)
      obtain ⟨q, hq⟩ : ∃ q, ix (payT xs) 0 = q := ⟨_, rfl⟩
      rw [hq] at y0
      by_cases hmk : q = mk
      · subst hmk
        have HYES : Hid (okP q xs) := Lib.hid ⟨hz, fun h => by rw [h] at hk; exact hk0 hk.symm, hq⟩
        have hqq : (q != q) = false := by simp
        have hsub : IntKind.i64.wrap ((k : Int) - 1) = ((k - 1 : Nat) : Int) := by rw [IntWalk.i64_in _ (by have := HKN.out; omega)]; omega
        have h1k : (1 : Int) ≤ (k : Int) := by omega
        have h1c : (1 : Int) ≤ (c1 : Int) := by omega
        clear hk hq
        rw [hz]
        by_cases hc1 : c1 = 1
        · subst hc1
          have hk1 : k = 1 := by omega
          subst hk1
          go_wp2
          refine bodyPost_ret (v := .tuple #[.agg #[.slice (some ⟨g, 0, none⟩) 0 0, .int .i64 (sizeN xs : Nat)], .bool true]) (by simp [results, Try.results60, go_sem, x0, x1, f0, f1]) rfl ⟨HEND.out _ _, .inl ⟨HYES.out, _, _, _, rfl, ?_⟩⟩
          have hF : Fr w1 ((w1.setCell ⟨w.heap.size, 0, none⟩ (.slice (some ⟨g, 0, none⟩) 0 0)).setCell ⟨w.heap.size, 1, none⟩ (.int .i64 (sizeN xs : Nat))) (fun b => b ≤ w.heap.size) := (Fr.setCell w1 (fun b => b ≤ w.heap.size) (p := ⟨w.heap.size, 0, none⟩) (Nat.le_refl _) _).trans (Fr.setCell _ (fun b => b ≤ w.heap.size) (p := ⟨w.heap.size, 1, none⟩) (Nat.le_refl _) _) (fun b hb => .inl hb)
          exact ((RdK.tail (M := fun b => b ≤ w.heap.size) HO1.out (by omega) (fun b hb h2 => by omega) _ (fun h => by omega)).fr hF).weak (fun b hb => .inl (Nat.le_of_lt hb))
        · go_wp2
          refine bodyPost_ret (v := .tuple #[.agg #[.slice (some ⟨g, 1, none⟩) (k - 1) (c1 - 1), .int .i64 (sizeN xs : Nat)], .bool true]) (by simp [results, Try.results60, go_sem, x0, x1, f0, f1]) rfl ⟨HEND.out _ _, .inl ⟨HYES.out, _, _, _, rfl, ?_⟩⟩
          have hF : Fr w1 ((w1.setCell ⟨w.heap.size, 0, none⟩ (.slice (some ⟨g, 1, none⟩) (k - 1) (c1 - 1))).setCell ⟨w.heap.size, 1, none⟩ (.int .i64 (sizeN xs : Nat))) (fun b => b ≤ w.heap.size) := (Fr.setCell w1 (fun b => b ≤ w.heap.size) (p := ⟨w.heap.size, 0, none⟩) (Nat.le_refl _) _).trans (Fr.setCell _ (fun b => b ≤ w.heap.size) (p := ⟨w.heap.size, 1, none⟩) (Nat.le_refl _) _) (fun b hb => .inl hb)
          exact ((RdK.tail (M := fun b => b ≤ w.heap.size) HO1.out (by omega) (fun b hb h2 => by omega) _ (fun h => rfl)).fr hF).weak (fun b hb => .inl (Nat.le_of_lt hb))
      · have HNO : Hid (¬ okP mk xs) := Lib.hid (fun h => hmk (hq.symm.trans h.2.2))
        have hqq : (q != mk) = true := by simpa using hmk
        clear hk hq
        rw [hz]
        go_wp2
        refine bodyPost_ret (v := .tuple #[.agg #[.slice none 0 0, .int .i64 0], .bool false]) (by simp [results, Try.results60, go_sem, x0, x1, f0, f1]) rfl ⟨HEND.out _ _, .inr ⟨HNO.out, rfl⟩⟩
  · have HNO : Hid (¬ okP mk xs) := Lib.hid (fun h => hz h.1)
    have hnz : ((openN xs : Int) != 0) = true := by rw [bne_iff_ne]; omega
    go_wp2
    refine bodyPost_ret (v := .tuple #[.agg #[.slice none 0 0, .int .i64 0], .bool false]) (by simp [results, Try.results60, go_sem, x0, x1, f0, f1]) rfl ⟨HEND.out _ _, .inr ⟨HNO.out, rfl⟩⟩
end Go.Proofs.Yticklaophgekeaa
