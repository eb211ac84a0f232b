/-
  CONTRACTS of package wal, over this translation: read.
-/
import Derived.Test.YtadajkgiijpakaaWLay
import Derived.WalkMore
import Derived.ScopeJumps
namespace Go.Proofs.Ytadajkgiijpakaa
open Go.RowKit
open ByteP
set_option linter.unusedVariables false
set_option linter.unusedSimpArgs false
set_option maxRecDepth 10000
/-- The bytes begin with a frame of that mark. -/
def okP (mk : Int) (xs : List Int) : Prop := openN xs = 0 ∧ payT xs ≠ [] ∧ ix (payT xs) 0 = mk
theorem OwnY.cap {w : World} {base n c : Nat} {A : Option Addr} {xs : List Int} (h : OwnY w base (.slice A n c) n xs) (hn : 0 < n) : n ≤ c := by
  rcases h.2 with ⟨hv, h0⟩ | ⟨g, cap, cur, hv, _, _, hc, _⟩
  · omega
  · injection hv with e1 e2 e3
    omega
theorem RdK.tail {w : World} {M : Nat → Prop} {base n c g : Nat} {xs : List Int} (h : OwnY w base (.slice (some ⟨g, 0, none⟩) n c) n xs) (hn : 0 < n) (hM : ∀ b, base ≤ b → ¬ M b) (A' : Option Addr) (hA : 1 < n → A' = some ⟨g, 1, none⟩) : RdK w M A' (n - 1) xs.tail := by
  refine ⟨by rw [List.length_tail, h.len], fun hn1 => ?_⟩
  obtain ⟨g', c', hv, hg, hlt⟩ := h.form hn
  injection hv with e1 e2 e3
  injection e1 with e1
  injection e1 with e1
  subst e1
  refine ⟨g, 1, hA (by omega), hlt, hM g hg, fun j hj => ?_⟩
  rw [show 1 + j = j + 1 by omega, h.cell (j := j + 1) (by omega)]
  congr 2
  unfold ix
  simp [List.getD, List.getElem?_tail]
set_option maxHeartbeats 2000000 in
theorem opened_any {w : World} {B n c : Nat} {A : Option Addr} {xs : List Int} (mk : Int) (hx : RdY w B A n xs) (hb : Bytes xs) (hnc : n ≤ c) (hn : n ≤ 1099511627776) (hB : B ≤ w.heap.size) :
    Calls Try.prog 60 #[.slice A n c, .int .u8 mk] w fun e w' => Below w.heap.size w w' ∧
      ((okP mk xs ∧ ∃ A' m' c', e = .returned (.tuple #[.agg #[.slice A' m' c', .int .i64 (sizeN xs : Nat)], .bool true]) ∧ RdK w' (fun b => b < w.heap.size) A' m' (payT xs).tail) ∨
       (¬ okP mk xs ∧ e = .returned (.tuple #[.agg #[.slice none 0 0, .int .i64 0], .bool false]))) := by
  have HOP := Lib.hid (open_any (w := w.alloc (.cells #[.slice none 0 0, .int .i64 0] 105)) (c := c) (hx.alloc hB _) hb hnc hn (by simp; omega))
  have hc40 : ((w.alloc (.cells #[.slice none 0 0, .int .i64 0] 105)).heap[w.heap.size]?) = some (.cells #[.slice none 0 0, .int .i64 0] 105 (0, 0)) := heap_alloc_new w _
  have HC40 := Lib.hid hc40
  have HKN : Hid ((payT xs).length ≤ n) := Lib.hid (by have := payT_length_le xs; rw [hx.1] at this; exact this)
  clear hc40 hx
  go_enter Try.func60, Try.ntmps60
  go_wp2_with fail
  refine HOP.out.mono ?_
  rintro e w1 ⟨v1, hsay, ho1, hb1⟩
  unfold OpenSays at hsay
  subst hsay
  obtain ⟨A1, c1, rfl, _⟩ := ho1.shape
  have HB1 : Hid (Below w.heap.size w w1) := Lib.hid (((Below.refl _ _).alloc (Nat.le_refl _) _).trans (hb1.mono (by simp)))
  have hbx : w1.heap[w.heap.size]? = some (.cells #[.slice none 0 0, .int .i64 0] 105 (0, 0)) := (hb1.block w.heap.size (by simp)).trans HC40.out
  have HBX := Lib.hid hbx
  have x0 := cellK_of_heap hbx (i := 0) (x := .slice none 0 0) rfl
  have x1 := cellK_of_heap hbx (i := 1) (x := .int .i64 0) rfl
  have f0 := freeK_of_heap (i := 0) hbx
  have f1 := freeK_of_heap (i := 1) hbx
  have HO1 : Hid (OwnY w1 (w.heap.size + 1) (.slice A1 (payT xs).length c1) (payT xs).length (payT xs)) := Lib.hid (ho1.less (by simp))
  clear HOP hb1 hbx ho1
  have HEND : Hid (∀ u0 u1, Below w.heap.size w ((w1.setCell ⟨w.heap.size, 0, none⟩ u0).setCell ⟨w.heap.size, 1, none⟩ u1)) := Lib.hid (fun u0 u1 => (HB1.out.setCell (p := ⟨w.heap.size, 0, none⟩) (Nat.le_refl _) _).setCell (p := ⟨w.heap.size, 1, none⟩) (Nat.le_refl _) _)
  by_cases hz : openN xs = 0
  · obtain ⟨k, hk⟩ : ∃ k, (payT xs).length = k := ⟨_, rfl⟩
    rw [hk] at HO1 HKN ⊢
    by_cases hk0 : k = 0
    · subst hk0
      have HNO : Hid (¬ okP mk xs) := Lib.hid (fun h => h.2.1 (List.eq_nil_of_length_eq_zero hk))
      clear hk
      rw [hz]
      go_wp2
      refine bodyPost_ret (v := .tuple #[.agg #[.slice none 0 0, .int .i64 0], .bool false]) (by simp [results, Try.results60, go_sem, x0, x1, f0, f1]) rfl ⟨HEND.out _ _, .inr ⟨HNO.out, rfl⟩⟩
    · obtain ⟨g, c2, hv, hg, hlt⟩ := HO1.out.form (by omega)
      injection hv with e1 e2 e3
      subst e1
      clear e2 e3
      have hck := HO1.out.cap (by omega)
      have y0 := HO1.out.cell (j := 0) (by omega)
      have hkp : (0 : Int) < (k : Int) := by omega
      have hkz : ((k : Int) == 0) = false := beq_eq_false_iff_ne.2 (by omega)
      obtain ⟨q, hq⟩ : ∃ q, ix (payT xs) 0 = q := ⟨_, rfl⟩
      rw [hq] at y0
      by_cases hmk : q = mk
      · subst hmk
        have HYES : Hid (okP q xs) := Lib.hid ⟨hz, fun h => by rw [h] at hk; exact hk0 hk.symm, hq⟩
        have hqq : (q != q) = false := by simp
        have hsub : IntKind.i64.wrap ((k : Int) - 1) = ((k - 1 : Nat) : Int) := by rw [IntWalk.i64_in _ (by have := HKN.out; omega)]; omega
        have h1k : (1 : Int) ≤ (k : Int) := by omega
        have h1c : (1 : Int) ≤ (c1 : Int) := by omega
        clear hk hq
        rw [hz]
        by_cases hc1 : c1 = 1
        · subst hc1
          have hk1 : k = 1 := by omega
          subst hk1
          go_wp2
          refine bodyPost_ret (v := .tuple #[.agg #[.slice (some ⟨g, 0, none⟩) 0 0, .int .i64 (sizeN xs : Nat)], .bool true]) (by simp [results, Try.results60, go_sem, x0, x1, f0, f1]) rfl ⟨HEND.out _ _, .inl ⟨HYES.out, _, _, _, rfl, ?_⟩⟩
          have hF : Fr w1 ((w1.setCell ⟨w.heap.size, 0, none⟩ (.slice (some ⟨g, 0, none⟩) 0 0)).setCell ⟨w.heap.size, 1, none⟩ (.int .i64 (sizeN xs : Nat))) (fun b => b ≤ w.heap.size) := (Fr.setCell w1 (fun b => b ≤ w.heap.size) (p := ⟨w.heap.size, 0, none⟩) (Nat.le_refl _) _).trans (Fr.setCell _ (fun b => b ≤ w.heap.size) (p := ⟨w.heap.size, 1, none⟩) (Nat.le_refl _) _) (fun b hb => .inl hb)
          exact ((RdK.tail (M := fun b => b ≤ w.heap.size) HO1.out (by omega) (fun b hb h2 => by omega) _ (fun h => by omega)).fr hF).weak (fun b hb => .inl (Nat.le_of_lt hb))
        · go_wp2
          refine bodyPost_ret (v := .tuple #[.agg #[.slice (some ⟨g, 1, none⟩) (k - 1) (c1 - 1), .int .i64 (sizeN xs : Nat)], .bool true]) (by simp [results, Try.results60, go_sem, x0, x1, f0, f1]) rfl ⟨HEND.out _ _, .inl ⟨HYES.out, _, _, _, rfl, ?_⟩⟩
          have hF : Fr w1 ((w1.setCell ⟨w.heap.size, 0, none⟩ (.slice (some ⟨g, 1, none⟩) (k - 1) (c1 - 1))).setCell ⟨w.heap.size, 1, none⟩ (.int .i64 (sizeN xs : Nat))) (fun b => b ≤ w.heap.size) := (Fr.setCell w1 (fun b => b ≤ w.heap.size) (p := ⟨w.heap.size, 0, none⟩) (Nat.le_refl _) _).trans (Fr.setCell _ (fun b => b ≤ w.heap.size) (p := ⟨w.heap.size, 1, none⟩) (Nat.le_refl _) _) (fun b hb => .inl hb)
          exact ((RdK.tail (M := fun b => b ≤ w.heap.size) HO1.out (by omega) (fun b hb h2 => by omega) _ (fun h => rfl)).fr hF).weak (fun b hb => .inl (Nat.le_of_lt hb))
      · have HNO : Hid (¬ okP mk xs) := Lib.hid (fun h => hmk (hq.symm.trans h.2.2))
        have hqq : (q != mk) = true := by simpa using hmk
        clear hk hq
        rw [hz]
        go_wp2
        refine bodyPost_ret (v := .tuple #[.agg #[.slice none 0 0, .int .i64 0], .bool false]) (by simp [results, Try.results60, go_sem, x0, x1, f0, f1]) rfl ⟨HEND.out _ _, .inr ⟨HNO.out, rfl⟩⟩
  · have HNO : Hid (¬ okP mk xs) := Lib.hid (fun h => hz h.1)
    have hnz : ((openN xs : Int) != 0) = true := by rw [bne_iff_ne]; omega
    go_wp2
    refine bodyPost_ret (v := .tuple #[.agg #[.slice none 0 0, .int .i64 0], .bool false]) (by simp [results, Try.results60, go_sem, x0, x1, f0, f1]) rfl ⟨HEND.out _ _, .inr ⟨HNO.out, rfl⟩⟩
set_option linter.unusedSimpArgs false
set_option maxRecDepth 10000
theorem scope_pass {P : Program} {c rest : Code} {Q : Exit → Act → World → Prop} {a : Act} {w : World} (l : Nat) (J : Act → World → Prop) (μ : Act → World → Nat) (hf : findLabel c l = some (.seq .skip rest))
    (pass : ∀ a w, J a w → rest.wp P (Exit.jump l (fun a' w' => J a' w' ∧ μ a' w' < μ a w) Q) a w) (first : (∀ a w, J a w → rest.wp P (Exit.jump l J Q) a w) → c.wp P (Exit.jump l J Q) a w) : (Code.scope c).wp P Q a w :=
  wp_scope_jumps l J μ hf (first (fun a w h => Code.wp_mono (fun e a' w' h2 => by
    cases e with
    | goto l' => exact ⟨h2.1, h2.2.1⟩
    | normal => exact h2
    | exit id => exact h2
    | ret => exact h2
    | panic ch => exact h2
    | outgrown => exact h2) (pass a w h))) (fun a w h => wp_seq (wp_skip (pass a w h)))
def mkN (r : Nat) : Int := if r = 0 then 0 else 1
/-- The i-th frame is the base's, or a record's. -/
def okF (xs : List Int) (i : Nat) : Prop := okP (mkN i) (xs.drop (atN xs i))
/-- r frames are a log's, and what stands behind is none. -/
def Reads (xs : List Int) (r : Nat) : Prop := (∀ j, j < r → okF xs j) ∧ ¬ okF xs r
theorem Reads.uniq {xs : List Int} {k m : Nat} (h : Reads xs k) (h2 : Reads xs m) : k = m := by
  rcases Nat.lt_trichotomy k m with h3 | h3 | h3
  · exact absurd (h2.1 k h3) h.2
  · exact h3
  · exact absurd (h.1 m h3) h2.2
def bsOf (xs : List Int) (r : Nat) : List Int := if r = 0 then [] else (pT xs 0).tail
def rsOf (xs : List Int) (r : Nat) : List (List Int) := (List.range (r - 1)).map (fun j => (pT xs (j + 1)).tail)
theorem rsOf_len (xs : List Int) (r : Nat) : (rsOf xs r).length = r - 1 := by simp [rsOf]
theorem rsOf_succ (xs : List Int) {r : Nat} (h : 0 < r) : rsOf xs (r + 1) = rsOf xs r ++ [(pT xs r).tail] := by
  unfold rsOf
  rw [show r + 1 - 1 = (r - 1) + 1 by omega, List.range_succ, List.map_append]
  simp [show r - 1 + 1 = r by omega]
theorem okF_open {xs : List Int} {j : Nat} (h : okF xs j) : openN (xs.drop (atN xs j)) = 0 := h.1
structure RdAt (wr w : World) (n : Nat) (xs : List Int) (r q : Nat) (bA : Option Addr) (bn bc : Nat) (rv : Value) : Prop where
  bel : Below w.heap.size w wr
  size : w.heap.size + 2 ≤ wr.heap.size
  res : wr.heap[w.heap.size]? = some (.cells #[.slice none 0 0, .slice none 0 0, .int .i64 0] 81 (0, 0))
  held : wr.heap[w.heap.size + 1]? = some (.cells #[.slice bA bn bc, rv, .int .i64 (q : Int)] 81 (0, 0))
  at_ : q = atN xs r
  qn : q ≤ n
  r8 : 8 * r ≤ q
  oks : ∀ j, j < r → okF xs j
  base : RdK wr (fun b => b < w.heap.size + 2 ∨ rv.ownBlock = some b) bA bn (bsOf xs r)
  row : Row wr (fun b => b < w.heap.size + 2) w.heap.size rv (rsOf xs r)
theorem rsOf_one (xs : List Int) : rsOf xs 1 = [] := rfl
theorem RdAt.step0 {wr w w3 : World} {n : Nat} {xs : List Int} {q : Nat} {bA : Option Addr} {bn bc : Nat} {rv : Value} (h : RdAt wr w n xs 0 q bA bn bc rv) (hb3 : Below wr.heap.size wr w3) {A2 : Option Addr} {m2 c2 : Nat} (hx : RdK w3 (fun b => b < wr.heap.size) A2 m2 (pT xs 0).tail) {q' : Nat} (hq' : q' = atN xs 1) (hqn : q' ≤ n) (hok : okF xs 0) (h8 : 8 ≤ q') :
    RdAt ((w3.setCell ⟨w.heap.size + 1, 0, none⟩ (.slice A2 m2 c2)).setCell ⟨w.heap.size + 1, 2, none⟩ (.int .i64 (q' : Int))) w n xs 1 q' A2 m2 c2 rv := by
  obtain ⟨W, hW⟩ : ∃ W, (w3.setCell ⟨w.heap.size + 1, 0, none⟩ (.slice A2 m2 c2)).setCell ⟨w.heap.size + 1, 2, none⟩ (.int .i64 (q' : Int)) = W := ⟨_, rfl⟩
  have hF : Fr w3 W (fun b => b = w.heap.size + 1) := by
    rw [← hW]
    exact (Fr.setCell w3 (fun b => b = w.heap.size + 1) (p := ⟨w.heap.size + 1, 0, none⟩) rfl _).trans (Fr.setCell _ (fun b => b = w.heap.size + 1) (p := ⟨w.heap.size + 1, 2, none⟩) rfl _) (fun b hb => .inl hb)
  have hs := h.size
  have hs3 := hb3.size
  have hsW := hF.size
  have hcW : W.heap[w.heap.size + 1]? = some (.cells #[.slice A2 m2 c2, rv, .int .i64 (q' : Int)] 81 (0, 0)) := by
    rw [← hW]
    have h0 := (hb3.block (w.heap.size + 1) (by omega)).trans h.held
    have h1 := heap_setCell_same w3 (w.heap.size + 1) 0 _ _ (.slice A2 m2 c2) h0
    exact heap_setCell_same _ (w.heap.size + 1) 2 _ _ (.int .i64 (q' : Int)) h1
  rw [hW]
  have hFM : Fr w3 W (fun b => b < w.heap.size + 2) := hF.less (fun b hb => by omega)
  refine ⟨?_, by omega, ?_, hcW, hq', hqn, by omega, fun j hj => ?_, ?_, ?_⟩
  · have h1 : Below w.heap.size w w3 := h.bel.trans (hb3.mono (by omega))
    exact h1.trans ⟨hF.os, hF.tape, hF.output, hF.size, fun b hb => hF.block b (by omega) (by omega)⟩
  · rw [hF.block w.heap.size (by omega) (by omega)]
    exact (hb3.block w.heap.size (by omega)).trans h.res
  · have : j = 0 := by omega
    subst this; exact hok
  · have h1 : RdK w3 (fun b => b < w.heap.size + 2 ∨ rv.ownBlock = some b) A2 m2 (bsOf xs 1) := hx.weak (fun b hb => by
      rcases hb with h2 | h2
      · left; omega
      · left; exact h.row.block_lt b h2)
    exact h1.turn ⟨hF.os, hF.tape, hF.output, hF.size, fun b hb hn => hF.block b hb (fun e => hn (.inl (by omega)))⟩ (fun b hb => .inl hb)
  · exact ((h.row.below hb3).turn hFM (fun b hb => .inl hb))
theorem RdAt.stepR {wr w w3 w4 : World} {n : Nat} {xs : List Int} {r q g k cap : Nat} {bA : Option Addr} {bn bc : Nat} {rv : Value} {o : Obj} (h : RdAt wr w n xs r q bA bn bc rv) (hr : 0 < r) (hb3 : Below wr.heap.size wr w3) (hg4 : (w3.alloc o).grownBy w4 rv.ownBlock) (hat : rv.ownBlock = some g ∨ g = w3.heap.size + 1)
    (hrow : Row w4 (fun b => b < w.heap.size + 2) w.heap.size (.slice (some ⟨g, 0, none⟩) k cap) (rsOf xs r ++ [(pT xs r).tail])) {q' : Nat} (hq' : q' = atN xs (r + 1)) (hqn : q' ≤ n) (hok : okF xs r) (h8 : q + 8 ≤ q') :
    RdAt ((w4.setCell ⟨w.heap.size + 1, 1, none⟩ (.slice (some ⟨g, 0, none⟩) k cap)).setCell ⟨w.heap.size + 1, 2, none⟩ (.int .i64 (q' : Int))) w n xs (r + 1) q' bA bn bc (.slice (some ⟨g, 0, none⟩) k cap) := by
  obtain ⟨W, hW⟩ : ∃ W, (w4.setCell ⟨w.heap.size + 1, 1, none⟩ (.slice (some ⟨g, 0, none⟩) k cap)).setCell ⟨w.heap.size + 1, 2, none⟩ (.int .i64 (q' : Int)) = W := ⟨_, rfl⟩
  have hF : Fr w4 W (fun b => b = w.heap.size + 1) := by
    rw [← hW]
    exact (Fr.setCell w4 (fun b => b = w.heap.size + 1) (p := ⟨w.heap.size + 1, 1, none⟩) rfl _).trans (Fr.setCell _ (fun b => b = w.heap.size + 1) (p := ⟨w.heap.size + 1, 2, none⟩) rfl _) (fun b hb => .inl hb)
  have hs := h.size
  have hs3 := hb3.size
  have hs4 := hg4.size
  rw [World.size_alloc] at hs4
  have hsW := hF.size
  have hbl : ∀ b, b < wr.heap.size → rv.ownBlock ≠ some b → w4.heap[b]? = wr.heap[b]? := fun b hb hne => by
    rw [hg4.block b (by simp; omega) (fun e => hne e.symm), Below.heap_alloc _ _ _ (by omega)]
    exact hb3.block b hb
  have hnr : ∀ b, b < w.heap.size + 2 → rv.ownBlock ≠ some b := fun b hb e => h.row.nd b e hb
  have hcW : W.heap[w.heap.size + 1]? = some (.cells #[.slice bA bn bc, .slice (some ⟨g, 0, none⟩) k cap, .int .i64 (q' : Int)] 81 (0, 0)) := by
    rw [← hW]
    have h0 := (hbl (w.heap.size + 1) (by omega) (hnr _ (by omega))).trans h.held
    have h1 := heap_setCell_same w4 (w.heap.size + 1) 1 _ _ (.slice (some ⟨g, 0, none⟩) k cap) h0
    exact heap_setCell_same _ (w.heap.size + 1) 2 _ _ (.int .i64 (q' : Int)) h1
  rw [hW]
  have hFM : Fr w4 W (fun b => b < w.heap.size + 2) := hF.less (fun b hb => by omega)
  have hFr4 : Fr wr w4 (fun b => rv.ownBlock = some b) := ⟨hg4.os.trans hb3.os, hg4.tape.trans hb3.tape, hg4.output.trans hb3.output, by omega, hbl⟩
  refine ⟨?_, by omega, ?_, hcW, hq', hqn, by have := h.r8; omega, fun j hj => ?_, ?_, ?_⟩
  · have h1 : Below w.heap.size w w4 := h.bel.trans ⟨hFr4.os, hFr4.tape, hFr4.output, hFr4.size, fun b hb => hFr4.block b (by omega) (hnr b (by omega))⟩
    exact h1.trans ⟨hF.os, hF.tape, hF.output, hF.size, fun b hb => hF.block b (by omega) (by omega)⟩
  · rw [hF.block w.heap.size (by omega) (by omega)]
    exact (hbl w.heap.size (by omega) (hnr _ (by omega))).trans h.res
  · by_cases e : j < r
    · exact h.oks j e
    · have : j = r := by omega
      subst this; exact hok
  · have e : bsOf xs (r + 1) = bsOf xs r := by
      unfold bsOf
      rw [if_neg (by omega), if_neg (by omega)]
    rw [e]
    have h1 : RdK w4 (fun b => b < w.heap.size + 2 ∨ (Value.slice (some ⟨g, 0, none⟩) k cap).ownBlock = some b) bA bn (bsOf xs r) := h.base.turn ⟨hFr4.os, hFr4.tape, hFr4.output, hFr4.size, fun b hb hn => hFr4.block b hb (fun e => hn (.inr e))⟩ (fun b hb => by
      rcases hb with h2 | h2
      · exact .inl (.inl h2)
      · have e2 : some g = some b := h2
        injection e2 with e2
        subst e2
        rcases hat with h3 | h3
        · exact .inl (.inr h3)
        · right; omega)
    exact h1.turn ⟨hF.os, hF.tape, hF.output, hF.size, fun b hb hn => hF.block b hb (fun e => hn (.inl (by omega)))⟩ (fun b hb => .inl hb)
  · rw [rsOf_succ xs hr]
    exact hrow.turn hFM (fun b hb => .inl hb)
theorem RdAt.fin {wr w w3 : World} {n : Nat} {xs : List Int} {r q : Nat} {bA : Option Addr} {bn bc : Nat} {rv u0 u1 u2 : Value} (h : RdAt wr w n xs r q bA bn bc rv) (hb3 : Below wr.heap.size wr w3) :
    RdK (((w3.setCell ⟨w.heap.size, 0, none⟩ u0).setCell ⟨w.heap.size, 1, none⟩ u1).setCell ⟨w.heap.size, 2, none⟩ u2) (fun b => b < w.heap.size ∨ rv.ownBlock = some b) bA bn (bsOf xs r) ∧
      Row (((w3.setCell ⟨w.heap.size, 0, none⟩ u0).setCell ⟨w.heap.size, 1, none⟩ u1).setCell ⟨w.heap.size, 2, none⟩ u2) (fun b => b < w.heap.size) w.heap.size rv (rsOf xs r) ∧
      Below w.heap.size w (((w3.setCell ⟨w.heap.size, 0, none⟩ u0).setCell ⟨w.heap.size, 1, none⟩ u1).setCell ⟨w.heap.size, 2, none⟩ u2) := by
  have hF : Fr w3 (((w3.setCell ⟨w.heap.size, 0, none⟩ u0).setCell ⟨w.heap.size, 1, none⟩ u1).setCell ⟨w.heap.size, 2, none⟩ u2) (fun b => b = w.heap.size) :=
    ((Fr.setCell w3 (fun b => b = w.heap.size) (p := ⟨w.heap.size, 0, none⟩) rfl _).trans (Fr.setCell _ (fun b => b = w.heap.size) (p := ⟨w.heap.size, 1, none⟩) rfl _) (fun b hb => .inl hb)).trans (Fr.setCell _ (fun b => b = w.heap.size) (p := ⟨w.heap.size, 2, none⟩) rfl _) (fun b hb => .inl hb)
  generalize (((w3.setCell ⟨w.heap.size, 0, none⟩ u0).setCell ⟨w.heap.size, 1, none⟩ u1).setCell ⟨w.heap.size, 2, none⟩ u2) = W at *
  have hs := h.size
  refine ⟨?_, ?_, ?_⟩
  · exact (h.base.below hb3).turn ⟨hF.os, hF.tape, hF.output, hF.size, fun b hb hn => hF.block b hb (fun e => hn (.inl (by omega)))⟩ (fun b hb => by
      rcases hb with h2 | h2
      · left; left; omega
      · exact .inl (.inr h2))
  · exact (h.row.below hb3).turn (hF.less (fun b hb => by omega)) (fun b hb => by left; omega)
  · exact (h.bel.trans (hb3.mono (by omega))).trans ⟨hF.os, hF.tape, hF.output, hF.size, fun b hb => hF.block b (by have := h.bel.size; have := hb3.size; omega) (by omega)⟩
def rdMu (n h : Nat) (wr : World) : Nat := match wr.cell? ⟨h, 2, none⟩ with
  | some (.int _ q) => n - q.toNat
  | _ => 0
theorem RdAt.mu {wr w : World} {n : Nat} {xs : List Int} {r q : Nat} {bA : Option Addr} {bn bc : Nat} {rv : Value} (h : RdAt wr w n xs r q bA bn bc rv) : rdMu n (w.heap.size + 1) wr = n - q := by
  unfold rdMu
  rw [cellK_of_heap h.held (i := 2) (x := .int .i64 (q : Int)) rfl]
  simp
inductive RdJ (w : World) (A : Option Addr) (n c : Nat) (xs : List Int) : Act → World → Prop
  | mk (wr : World) (r q : Nat) (bA : Option Addr) (bn bc : Nat) (rv : Value) (u1 u6 u7 u8 u9 u10 u11 u12 u13 u14 u15 u16 u17 u18 u19 u20 u21 u22 u23 u24 u25 u26 u27 u28 u29 u30 u31 u32 u33 u34 u35 u36 u37 u38 : Value) :
      RdAt wr w n xs r q bA bn bc rv → RdJ w A n c xs { tmps := #[.slice A n c, u1, .pointer (some ⟨w.heap.size, 0, none⟩), .bool false, .pointer (some ⟨w.heap.size + 1, 0, none⟩), .int .u8 (mkN r), u6, u7, u8, u9, u10, u11, u12, u13, u14, u15, u16, u17, u18, u19, u20, u21, u22, u23, u24, u25, u26, u27, u28, u29, u30, u31, u32, u33, u34, u35, u36, u37, u38], defers := [] } wr
set_option maxHeartbeats 4000000 in
theorem read_any {w : World} {B n c : Nat} {A : Option Addr} {xs : List Int} (hx : RdY w B A n xs) (hb : Bytes xs) (hnc : n ≤ c) (hn : n ≤ 1000000000) (hB : B ≤ w.heap.size) :
    Calls Try.prog 51 #[.slice A n c] w fun e w' => ∃ (r : Nat) (bA : Option Addr) (bn bc : Nat) (rv : Value), e = .returned (.tuple #[.agg #[.slice bA bn bc, rv, .int .i64 (atN xs r : Nat)], .bool (decide (0 < r))]) ∧ Reads xs r ∧
      RdK w' (fun b => b < w.heap.size ∨ rv.ownBlock = some b) bA bn (bsOf xs r) ∧ Row w' (fun b => b < w.heap.size) w.heap.size rv (rsOf xs r) ∧ Below w.heap.size w w' ∧ atN xs r ≤ n ∧ 8 * r ≤ n := by
  have HX := Lib.hid hx
  have HBX := Lib.hid hb
  have HL : Hid (xs.length = n) := Lib.hid hx.1
  clear hx hb
  go_enter Try.func51, Try.ntmps51
  go_wp2
  refine scope_pass 0 (RdJ w A n c xs) (fun _ wr => rdMu n (w.heap.size + 1) wr) rfl ?pass ?first
  case first =>
    intro hp
    go_wp2
    go_step3
    rename_i hK
    refine hK _ _ (hp _ _ (.mk _ 0 0 none 0 0 (.slice none 0 0) _ _ _ _ _ _ _ _ _ _ _ _ _ _ _ _ _ _ _ _ _ _ _ _ _ _ _ _ _ _ _ _ _ _ ⟨((Below.refl _ w).alloc (Nat.le_refl _) _).alloc (by simp) _, by simp, ?_, ?_, rfl, Nat.zero_le _, Nat.le_refl _, fun j hj => absurd hj (Nat.not_lt_zero j), ⟨rfl, fun h => absurd h (Nat.lt_irrefl _)⟩, Row.nil_ _ _ _⟩))
    · rw [Below.heap_alloc _ _ _ (by simp)]; exact heap_alloc_new w _
    · have h1 := heap_alloc_new (w.alloc (.cells #[.slice none 0 0, .slice none 0 0, .int .i64 0] 81)) (.cells #[.slice none 0 0, .slice none 0 0, .int .i64 0] 81)
      rw [World.size_alloc] at h1
      exact h1
  case pass =>
    rintro a wr ⟨_, r, q, bA, bn, bc, rv, u1, u6, u7, u8, u9, u10, u11, u12, u13, u14, u15, u16, u17, u18, u19, u20, u21, u22, u23, u24, u25, u26, u27, u28, u29, u30, u31, u32, u33, u34, u35, u36, u37, u38, HS0⟩
    have HS := Lib.hid HS0
    clear HS0
    have hsr : w.heap.size + 2 ≤ wr.heap.size := HS.out.size
    have x2 := cellK_of_heap HS.out.held (i := 2) (x := .int .i64 (q : Int)) rfl
    have hqn := HS.out.qn
    have hq0 : (0 : Int) ≤ (q : Int) := by omega
    have hqnI : (q : Int) ≤ (n : Int) := by omega
    have hncI : (n : Int) ≤ (c : Int) := by omega
    have hqcI : (q : Int) ≤ (c : Int) := by omega
    have HXr : Hid (RdY wr wr.heap.size A n xs) := Lib.hid ((HX.out.below (HS.out.bel.mono hB)).more (by omega))
    have HBD : Hid (Bytes (xs.drop q)) := Lib.hid (bytes_drop HBX.out q)
    have HDR : Hid (RdY wr wr.heap.size (subA A c q) (n - q) (xs.drop q)) := Lib.hid (HXr.out.from hqn hnc)
    have hsub : IntKind.i64.wrap ((n : Int) - (q : Int)) = ((n - q : Nat) : Int) := by rw [IntWalk.i64_in _ (by omega)]; omega
    have HDX : Hid (xs.drop q = xs.drop (atN xs r)) := Lib.hid (by rw [← HS.out.at_])
    by_cases hok : okF xs r
    · have HOK := Lib.hid hok
      have hoq : openN (xs.drop q) = 0 := by rw [HDX.out]; exact hok.1
      have hol := open_len hoq
      have hll : (xs.drop q).length = n - q := by rw [List.length_drop, HL.out]
      rw [hll] at hol
      obtain ⟨z, hz⟩ : ∃ z, sizeN (xs.drop q) = z := ⟨_, rfl⟩
      rw [hz] at hol
      have HQ' : Hid (q + z = atN xs (r + 1)) := Lib.hid (by
        show _ = atN xs r + sizeN (xs.drop (atN xs r))
        rw [← HDX.out, hz, HS.out.at_])
      have HPT : Hid (payT (xs.drop q) = pT xs r) := Lib.hid (by unfold pT; rw [← HDX.out])
      have HBP : Hid (Bytes (pT xs r).tail) := Lib.hid (by
        have h1 := pT_bytes HBX.out r
        intro i
        have h2 : ix (pT xs r).tail i = ix (pT xs r) (i + 1) := by unfold ix; simp [List.getD, List.getElem?_tail]
        rw [h2]; exact h1 _)
      have hcq : ¬ c = q := by omega
      have HD : Hid (RdY wr wr.heap.size (A.map (fun x => x.add q)) (n - q) (xs.drop q)) := Lib.hid (by have := HDR.out; rwa [subA, if_neg hcq] at this)
      have HOPN := Lib.hid (opened_any (c := c - q) (mkN r) HD.out HBD.out (by omega) (by omega) (Nat.le_refl _))
      rw [hz] at HOPN
      have HOKP : Hid (okP (mkN r) (xs.drop q)) := Lib.hid (by rw [HDX.out]; exact hok)
      clear hok hoq hll hz
      go_wp2_with fail
      refine HOPN.out.mono ?_
      rintro e w2 ⟨hb2, h2⟩
      obtain ⟨A2, m2, c2, rfl, hr2⟩ := h2.elim (fun h => h.2) (fun h => absurd HOKP.out h.1)
      have HB2 := Lib.hid hb2
      have HR2 : Hid (RdK w2 (fun b => b < wr.heap.size) A2 m2 (pT xs r).tail) := Lib.hid (by rw [← HPT.out]; exact hr2)
      have HM2 : Hid (m2 ≤ 1099511627776) := Lib.hid (by
        have h1 := HR2.out.1
        have h2 := payT_length_le (xs.drop q)
        rw [HPT.out, List.length_drop, HL.out] at h2
        rw [List.length_tail] at h1
        omega)
      have hh2 := (Below.heap_alloc w2 (.cells #[.slice A2 m2 c2, .int .i64 (z : Int)] 105) (w.heap.size + 1) (by have := hb2.size; omega)).trans ((hb2.block (w.heap.size + 1) (by omega)).trans HS.out.held)
      have y0 := cellK_of_heap hh2 (i := 0) (x := .slice bA bn bc) rfl
      have y1 := cellK_of_heap hh2 (i := 1) (x := rv) rfl
      have y2 := cellK_of_heap hh2 (i := 2) (x := .int .i64 (q : Int)) rfl
      have g0 := freeK_of_heap (i := 0) hh2
      have g1 := freeK_of_heap (i := 1) hh2
      have g2 := freeK_of_heap (i := 2) hh2
      have hh3 := heap_alloc_new w2 (.cells #[.slice A2 m2 c2, .int .i64 (z : Int)] 105)
      have p0 := cellK_of_heap hh3 (i := 0) (x := .slice A2 m2 c2) rfl
      have p1 := cellK_of_heap hh3 (i := 1) (x := .int .i64 (z : Int)) rfl
      have z2 := cellK_of_heap ((hb2.block (w.heap.size + 1) (by omega)).trans HS.out.held) (i := 2) (x := .int .i64 (q : Int)) rfl
      have hs2 := hb2.size
      have hnw : ¬ w2.heap.size = w.heap.size + 1 := by omega
      have hqz : IntKind.i64.wrap ((q : Int) + (z : Int)) = ((q + z : Nat) : Int) := by rw [IntWalk.i64_in _ (by omega)]; omega
      clear HOPN hb2 h2 hr2 hh2 hh3 x2
      rcases Nat.eq_zero_or_pos r with hr0 | hr0
      · subst hr0
        have hmk : mkN 0 = 0 := rfl
        rw [hmk]
        have HB3 : Hid (Below wr.heap.size wr (w2.alloc (.cells #[.slice A2 m2 c2, .int .i64 (z : Int)] 105))) := Lib.hid (HB2.out.alloc hs2 _)
        have HNX := Lib.hid (HS.out.step0 HB3.out (c2 := c2) (HR2.out.below ((Below.refl _ _).alloc (Nat.le_refl _) _)) HQ'.out (by omega) HOK.out (by omega))
        go_wp2
        go_step3
        rw [show (q : Int) + (z : Int) = ((q + z : Nat) : Int) by omega]
        refine ⟨rfl, .mk _ 1 (q + z) A2 m2 c2 rv _ _ _ _ _ _ _ _ _ _ _ _ _ _ _ _ _ _ _ _ _ _ _ _ _ _ _ _ _ _ _ _ _ _ HNX.out, ?_⟩
        rw [HNX.out.mu, HS.out.mu]
        omega
      · have hmk : mkN r = 1 := if_neg (by omega)
        rw [hmk]
        have hrl : (rsOf xs r).length ≤ 1000000000 := by rw [rsOf_len]; have := HS.out.r8; omega
        have HB3 : Hid (Below wr.heap.size wr (w2.alloc (.cells #[.slice A2 m2 c2, .int .i64 (z : Int)] 105))) := Lib.hid (HB2.out.alloc hs2 _)
        have HR3 : Hid (RdK (w2.alloc (.cells #[.slice A2 m2 c2, .int .i64 (z : Int)] 105)) (fun b => b < wr.heap.size) A2 m2 (pT xs r).tail) := Lib.hid (HR2.out.below ((Below.refl _ _).alloc (Nat.le_refl _) _))
        have HROW3 := Lib.hid ((HS.out.row.below HB3.out).below ((Below.refl _ _).alloc (Nat.le_refl _) (.cells #[.slice A2 m2 c2] 26)))
        have HRK3 : Hid (RdK ((w2.alloc (.cells #[.slice A2 m2 c2, .int .i64 (z : Int)] 105)).alloc (.cells #[.slice A2 m2 c2] 26)) (fun b => b < w.heap.size + 2 ∨ rv.ownBlock = some b) A2 m2 (pT xs r).tail) := Lib.hid ((HR3.out.below ((Below.refl _ _).alloc (Nat.le_refl _) _)).weak (fun b hb => by
          rcases hb with h2 | h2
          · left; omega
          · left; exact HS.out.row.block_lt b h2))
        have hs3 := HB3.out.size
        have hcn : ((w2.alloc (.cells #[.slice A2 m2 c2, .int .i64 (z : Int)] 105)).alloc (.cells #[.slice A2 m2 c2] 26)).cell? ⟨w2.heap.size + 1, 0, none⟩ = some (.slice A2 m2 c2) := by
          have h1 := heap_alloc_new (w2.alloc (.cells #[.slice A2 m2 c2, .int .i64 (z : Int)] 105)) (.cells #[.slice A2 m2 c2] 26)
          rw [World.size_alloc] at h1
          exact cellK_of_heap h1 (i := 0) (x := .slice A2 m2 c2) rfl
        have HL2 : Hid ((rsOf xs r).length = r - 1) := Lib.hid (rsOf_len xs r)
        go_wp2_with (at_builtin; refine wplR_app rfl _ _ rfl (fun b => b < w.heap.size + 2) w.heap.size rv (rsOf xs r) rfl HROW3.out (fun b hb => by simp; omega) (w2.heap.size + 1) A2 m2 c2 (pT xs r).tail rfl hcn hrl (by simp; omega) HRK3.out HBP.out HM2.out ?_; intro g cap w5 hrow5 hg5 hat5; (have hh5 : w5.heap[w.heap.size + 1]? = some (.cells #[.slice bA bn bc, rv, .int .i64 (q : Int)] 81 (0, 0)) := by (rw [hg5.block (w.heap.size + 1) (by simp; omega) (fun e => HS.out.row.nd (w.heap.size + 1) e.symm (by omega)), Below.heap_alloc _ _ _ (by simp; omega)]; exact (HB3.out.block (w.heap.size + 1) (by omega)).trans HS.out.held)); (have hp5 : w5.heap[w2.heap.size]? = some (.cells #[.slice A2 m2 c2, .int .i64 (z : Int)] 105 (0, 0)) := by (rw [hg5.block w2.heap.size (by simp; omega) (fun e => by have := HS.out.row.block_lt w2.heap.size e.symm; omega), Below.heap_alloc _ _ _ (by simp)]; exact heap_alloc_new w2 _)); (have k1 := cellK_of_heap hh5 (i := 1) (x := rv) rfl); (have k2 := cellK_of_heap hh5 (i := 2) (x := .int .i64 (q : Int)) rfl); (have l1 := freeK_of_heap (i := 1) hh5); (have l2 := freeK_of_heap (i := 2) hh5); (have m1 := cellK_of_heap hp5 (i := 1) (x := .int .i64 (z : Int)) rfl); (have HNX := Lib.hid (HS.out.stepR (r := r) hr0 HB3.out (o := (.cells #[.slice A2 m2 c2] 26)) hg5 (by simpa using hat5) hrow5 HQ'.out (by omega) HOK.out (by omega))); clear hh5 hp5 hrow5 hg5 hat5)
        go_step3
        rw [show (q : Int) + (z : Int) = ((q + z : Nat) : Int) by omega]
        have hm1 : mkN (r + 1) = 1 := if_neg (by omega)
        have e : (Value.int IntKind.u8 1) = .int .u8 (mkN (r + 1)) := by rw [hm1]
        refine ⟨rfl, ?_, ?_⟩
        · rw [e]
          exact .mk _ (r + 1) (q + z) bA bn bc _ _ _ _ _ _ _ _ _ _ _ _ _ _ _ _ _ _ _ _ _ _ _ _ _ _ _ _ _ _ _ _ _ _ _ HNX.out
        · rw [HNX.out.mu, HS.out.mu]
          omega
    · obtain ⟨rA, rc, hrv⟩ := HS.out.row.shape
      subst hrv
      have HNO : Hid (¬ okP (mkN r) (xs.drop q)) := Lib.hid (by rw [HDX.out]; exact hok)
      have HRS : Hid (Reads xs r) := Lib.hid ⟨HS.out.oks, hok⟩
      have hmk : (mkN r == 1) = decide (0 < r) := by
        unfold mkN
        by_cases h0 : r = 0
        · subst h0; rfl
        · rw [if_neg h0, decide_eq_true (by omega)]; rfl
      obtain ⟨mv, hmv⟩ : ∃ mv, mkN r = mv := ⟨_, rfl⟩
      rw [hmv] at hmk HNO ⊢
      have HMK := Lib.hid hmk
      obtain ⟨bq, hbq⟩ : ∃ bq, decide (0 < r) = bq := ⟨_, rfl⟩
      rw [hbq] at hmk
      have HBQ := Lib.hid hbq
      clear hok hmv hbq HMK
      have key : ∀ (A' : Option Addr), subA A c q = A' → Calls Try.prog 60 #[.slice A' (n - q) (c - q), .int .u8 mv] wr fun e w' => Below wr.heap.size wr w' ∧ e = .returned (.tuple #[.agg #[.slice none 0 0, .int .i64 0], .bool false]) := by
        intro A' hA'
        have h1 := HDR.out
        rw [hA'] at h1
        refine (opened_any (c := c - q) mv h1 HBD.out (by omega) (by omega) (Nat.le_refl _)).mono ?_
        rintro e w2 ⟨hb2, h2⟩
        exact ⟨hb2, h2.elim (fun h => absurd h.1 HNO.out) (fun h => h.2)⟩
      have KEY := Lib.hid key
      clear key
      by_cases hcq : c = q
      · have HK2 := Lib.hid (KEY.out A (by rw [subA, if_pos hcq]))
        have hnq : n = q := by omega
        subst hcq
        subst hnq
        rw [Nat.sub_self] at HK2
        clear hsub hqnI hqcI hncI hqn hnc
        go_wp2_with fail
        refine HK2.out.mono ?_
        rintro e w2 ⟨hb2, rfl⟩
        have hh2 := (Below.heap_alloc w2 (.cells #[.slice none 0 0, .int .i64 0] 105) (w.heap.size + 1) (by have := hb2.size; omega)).trans ((hb2.block (w.heap.size + 1) (by omega)).trans HS.out.held)
        have hr2 := (Below.heap_alloc w2 (.cells #[.slice none 0 0, .int .i64 0] 105) w.heap.size (by have := hb2.size; omega)).trans ((hb2.block w.heap.size (by omega)).trans HS.out.res)
        have y0 := cellK_of_heap hh2 (i := 0) (x := .slice bA bn bc) rfl
        have y1 := cellK_of_heap hh2 (i := 1) (x := .slice rA (rsOf xs r).length rc) rfl
        have y2 := cellK_of_heap hh2 (i := 2) (x := .int .i64 (n : Int)) rfl
        have z0 := cellK_of_heap hr2 (i := 0) (x := .slice none 0 0) rfl
        have z1 := cellK_of_heap hr2 (i := 1) (x := .slice none 0 0) rfl
        have z2 := cellK_of_heap hr2 (i := 2) (x := .int .i64 0) rfl
        have g0 := freeK_of_heap (i := 0) hr2
        have g1 := freeK_of_heap (i := 1) hr2
        have g2 := freeK_of_heap (i := 2) hr2
        have HB2 := Lib.hid hb2
        clear hb2 hh2 hr2
        go_wp2
        simp only [Exit.jump]
        have HFI := Lib.hid (HS.out.fin (u0 := .slice bA bn bc) (u1 := .slice rA (rsOf xs r).length rc) (u2 := .int .i64 (n : Int)) (HB2.out.alloc HB2.out.size (.cells #[.slice none 0 0, .int .i64 0] 105)))
        refine bodyPost_ret (v := .tuple #[.agg #[.slice bA bn bc, .slice rA (rsOf xs r).length rc, .int .i64 (n : Int)], .bool bq]) (by simp [results, Try.results51, go_sem, z0, z1, z2, g0, g1, g2]) rfl ?_
        refine ⟨r, bA, bn, bc, .slice rA (rsOf xs r).length rc, ?_, HRS.out, HFI.out.1, HFI.out.2.1, HFI.out.2.2, by rw [← HS.out.at_]; exact Nat.le_refl _, by have := HS.out.r8; omega⟩
        rw [HBQ.out, ← HS.out.at_]
      · have HK2 := Lib.hid (KEY.out (A.map (fun x => x.add q)) (by rw [subA, if_neg hcq]))
        go_wp2_with fail
        refine HK2.out.mono ?_
        rintro e w2 ⟨hb2, rfl⟩
        have hh2 := (Below.heap_alloc w2 (.cells #[.slice none 0 0, .int .i64 0] 105) (w.heap.size + 1) (by have := hb2.size; omega)).trans ((hb2.block (w.heap.size + 1) (by omega)).trans HS.out.held)
        have hr2 := (Below.heap_alloc w2 (.cells #[.slice none 0 0, .int .i64 0] 105) w.heap.size (by have := hb2.size; omega)).trans ((hb2.block w.heap.size (by omega)).trans HS.out.res)
        have y0 := cellK_of_heap hh2 (i := 0) (x := .slice bA bn bc) rfl
        have y1 := cellK_of_heap hh2 (i := 1) (x := .slice rA (rsOf xs r).length rc) rfl
        have y2 := cellK_of_heap hh2 (i := 2) (x := .int .i64 (q : Int)) rfl
        have z0 := cellK_of_heap hr2 (i := 0) (x := .slice none 0 0) rfl
        have z1 := cellK_of_heap hr2 (i := 1) (x := .slice none 0 0) rfl
        have z2 := cellK_of_heap hr2 (i := 2) (x := .int .i64 0) rfl
        have g0 := freeK_of_heap (i := 0) hr2
        have g1 := freeK_of_heap (i := 1) hr2
        have g2 := freeK_of_heap (i := 2) hr2
        have HB2 := Lib.hid hb2
        clear hb2 hh2 hr2
        go_wp2
        simp only [Exit.jump]
        have HFI := Lib.hid (HS.out.fin (u0 := .slice bA bn bc) (u1 := .slice rA (rsOf xs r).length rc) (u2 := .int .i64 (q : Int)) (HB2.out.alloc HB2.out.size (.cells #[.slice none 0 0, .int .i64 0] 105)))
        refine bodyPost_ret (v := .tuple #[.agg #[.slice bA bn bc, .slice rA (rsOf xs r).length rc, .int .i64 (q : Int)], .bool bq]) (by simp [results, Try.results51, go_sem, z0, z1, z2, g0, g1, g2]) rfl ?_
        refine ⟨r, bA, bn, bc, .slice rA (rsOf xs r).length rc, ?_, HRS.out, HFI.out.1, HFI.out.2.1, HFI.out.2.2, by rw [← HS.out.at_]; exact hqn, by have := HS.out.r8; omega⟩
        rw [HBQ.out, ← HS.out.at_]
end Go.Proofs.Ytadajkgiijpakaa
