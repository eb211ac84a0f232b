/-
  The document's writer whose first bytes lie ahead of it.
-/
import Derived.Test.YtolgmoaoheflcaaPPp
namespace Go.Proofs.Ytolgmoaoheflcaa
open Go.RowKit
open ByteP CodeP
set_option linter.unusedVariables false
set_option linter.unusedSimpArgs false
set_option maxRecDepth 10000
/-- A writer at block wb whose row lies anywhere from bb on. -/
structure Wq (w : World) (bb wb : Nat) (xs : List Int) (f : Bool) : Prop where
  row : ∃ A c, w.heap[wb]? = some (.cells #[.slice A xs.length c, .bool f] 79 (0, 0)) ∧ OwnY w bb (.slice A xs.length c) xs.length xs ∧ (∀ g, (Value.slice A xs.length c).ownBlock = some g → g ≠ wb)
  le : bb ≤ wb
theorem Wq.lt {w : World} {bb wb : Nat} {xs : List Int} {f : Bool} (h : Wq w bb wb xs f) : wb < w.heap.size := by
  obtain ⟨A, c, h1, _⟩ := h.row
  exact heapE_lt h1
theorem Wq.kept {w w' : World} {bb wb : Nat} {xs : List Int} {f : Bool} (h : Wq w bb wb xs f) (hb : Below w.heap.size w w') : Wq w' bb wb xs f := by
  obtain ⟨A, c, h1, h2, h3⟩ := h.row
  exact ⟨⟨A, c, (hb.block wb (heapE_lt h1)).trans h1, h2.kept hb, h3⟩, h.le⟩
theorem Wq.alloc {w : World} {bb wb : Nat} {xs : List Int} {f : Bool} (h : Wq w bb wb xs f) (o : Obj) : Wq (w.alloc o) bb wb xs f := h.kept ((Below.refl _ w).alloc (Nat.le_refl _) _)
theorem ownWq_new {w : World} {bb wb : Nat} {xs : List Int} {f : Bool} (h : Wq w bb wb xs f) {b : Nat} (hb : w.heap.size ≤ b) {w' : World} (hk : w'.heap[wb]? = w.heap[wb]?) : ¬ OwnW w' wb b := fun ho => by
  obtain ⟨A, c, h1, h2, _⟩ := h.row
  have h3 := OwnW.of (hk.trans h1) ho
  rcases h2.2 with ⟨h, _⟩ | ⟨g', cap, cur, hv, _, hh, _⟩
  · rw [h] at h3; cases h3
  · rw [hv] at h3
    have : g' = b := by simpa [Value.ownBlock] using h3
    subst this
    have := heapE_lt hh
    omega
theorem wq_row {T : TypeId} {wr w2 : World} {wb k c : Nat} {A : Option Addr} {f : Bool} (hrow : wr.heap[wb]? = some (.cells #[.slice A k c, .bool f] T (0, 0))) (hnw : ∀ g, (Value.slice A k c).ownBlock = some g → g ≠ wb) (o : Obj) (hgr : (wr.alloc o).grownBy w2 (Value.slice A k c).ownBlock) :
    w2.heap[wb]? = some (.cells #[.slice A k c, .bool f] T (0, 0)) :=
  (hgr.block wb (by have := heapE_lt hrow; simp; omega) (fun e => hnw wb e.symm rfl)).trans ((Below.heap_alloc wr o wb (heapE_lt hrow)).trans hrow)
theorem KeepW.pushQ {T : TypeId} {wr w2 : World} {wb k c g c2 : Nat} {A : Option Addr} {f : Bool} (hrow : wr.heap[wb]? = some (.cells #[.slice A k c, .bool f] T (0, 0))) (hnw : ∀ g, (Value.slice A k c).ownBlock = some g → g ≠ wb) (o : Obj)
    (hgr : (wr.alloc o).grownBy w2 (Value.slice A k c).ownBlock) (hat : (Value.slice A k c).ownBlock = some g ∨ g = (wr.alloc o).heap.size) : KeepW wr (w2.setCell ⟨wb, 0, none⟩ (.slice (some ⟨g, 0, none⟩) (k + 1) c2)) wb := by
  have hr2 := wq_row hrow hnw o hgr
  have hs := heap_setCell_same w2 wb 0 _ _ (.slice (some ⟨g, 0, none⟩) (k + 1) c2) hr2
  refine ⟨fun b hb hne ho => ?_, fun b ho => ?_, by have := hgr.size; simp at this ⊢; omega⟩
  · rw [heap_setCell_other w2 ⟨wb, 0, none⟩ b _ hne]
    exact (hgr.block b (by simp; omega) (fun e => ho ⟨_, _, _, hrow, e.symm⟩)).trans (Below.heap_alloc wr o b hb)
  · have h3 := OwnW.of hs ho
    have h4 : g = b := by simpa [Value.ownBlock] using h3
    subst h4
    rcases hat with h | h
    · exact .inl ⟨_, _, _, hrow, h⟩
    · right; rw [h]; simp
theorem Wq.push {wr w2 : World} {bb wb k c g c2 : Nat} {A : Option Addr} {f : Bool} {ys zs : List Int} (hrow : wr.heap[wb]? = some (.cells #[.slice A k c, .bool f] 79 (0, 0))) (hown : OwnY wr bb (.slice A k c) k ys) (hnw : ∀ g, (Value.slice A k c).ownBlock = some g → g ≠ wb) (hle : bb ≤ wb) (o : Obj)
    (hgr : (wr.alloc o).grownBy w2 (Value.slice A k c).ownBlock) (hz : zs.length = k + 1) (hown2 : OwnY w2 bb (.slice (some ⟨g, 0, none⟩) (k + 1) c2) (k + 1) zs) (hge : bb ≤ g) (hat : (Value.slice A k c).ownBlock = some g ∨ g = (wr.alloc o).heap.size) :
    Wq (w2.setCell ⟨wb, 0, none⟩ (.slice (some ⟨g, 0, none⟩) (k + 1) c2)) bb wb zs f ∧ Below bb wr (w2.setCell ⟨wb, 0, none⟩ (.slice (some ⟨g, 0, none⟩) (k + 1) c2)) := by
  have hr2 := wq_row hrow hnw o hgr
  have hlt := heapE_lt hrow
  have hgn : g ≠ wb := by
    rcases hat with h | h
    · exact hnw g h
    · rw [h, World.size_alloc]; omega
  refine ⟨⟨⟨some ⟨g, 0, none⟩, c2, ?_, ?_, ?_⟩, hle⟩, ?_⟩
  · rw [hz]
    exact heap_setCell_same w2 wb 0 _ _ _ hr2
  · rw [hz]
    refine hown2.other (row := some wb) ⟨rfl, rfl, rfl, by simp, fun i hi hne => Below.heap_setCell w2 _ _ i (fun e => hne (by rw [e]))⟩ (fun g' hg' e => ?_)
    have h1 : g = g' := by simpa [Value.ownBlock] using hg'
    injection e with e
    omega
  · intro g' hg'
    have h1 : g = g' := by simpa [Value.ownBlock] using hg'
    omega
  · have h1 : Below bb wr w2 := ((Below.refl _ wr).alloc (by omega) o).grown hgr (by simp; omega) (fun g' hg' => hown.ge g' hg')
    exact h1.setCell hle _
set_option maxHeartbeats 1000000 in
theorem numV_ok {w : World} {bb wb : Nat} {xs : List Int} {f : Bool} (h : Wq w bb wb xs f) {n : Nat} (hn : n ≤ 1099511627776) (hl : xs.length + 6 ≤ 1000000000) :
    Calls Try.prog 53 #[.pointer (some ⟨wb, 0, none⟩), .int .i64 (n : Int)] w fun e w' => e = .returned (.tuple #[]) ∧ Wq w' bb wb (xs ++ enc n) f ∧ Below bb w w' ∧ KeepW w w' wb := by
  have H := Lib.hid h
  have d0 : decide ((n : Int) < 0) = false := decide_eq_false (by omega)
  have d1 : decide ((1099511627776 : Int) < (n : Int)) = false := decide_eq_false (by omega)
  clear h
  go_enter Try.func53, Try.ntmps53
  go_wp2
  go_loopw [1] (fun v wr => ∃ (m : Nat) (ys : List Int), v = .int .i64 (m : Int) ∧ m ≤ n ∧ Hid (Wq wr bb wb ys f) ∧ Hid (ys ++ enc m = xs ++ enc n) ∧ Hid (Below bb w wr) ∧ Hid (KeepW w wr wb)) (fun v _ => (intOf v).toNat)
  case atStart => exact ⟨n, xs, rfl, Nat.le_refl _, H, Lib.hid rfl, Lib.hid (Below.refl _ _), Lib.hid (KeepW.refl _ _)⟩
  case round =>
    obtain ⟨m, ys, rfl, hm, HW, HE, HB, HK⟩ := hrel
    obtain ⟨A, c, hrow, hown, hnw⟩ := HW.out.row
    have HNW := Lib.hid hnw
    have hle := HW.out.le
    have hlen : ys.length ≤ 1000000000 := by
      have h1 := congrArg List.length HE.out
      rw [List.length_append, List.length_append] at h1
      have h2 := enc_six hn
      have h3 := enc_pos m
      omega
    have hwl := heapE_lt hrow
    have HR := Lib.hid hrow
    have HO := Lib.hid hown
    obtain ⟨hc0, hc1, hf0, hf1⟩ := row2 hrow
    clear hrow hown
    by_cases hge : 128 ≤ m
    · have hd : decide ((127 : Int) < (m : Int)) = true := by simp; omega
      have HU : Hid ((m : Int) % 128 + 128 = ((m % 128 + 128 : Nat) : Int)) := Lib.hid (by omega)
      have hal := heap_alloc_new wr (.cells #[.int .u8 ((m : Int) % 128 + 128)] 5)
      have HCL : Hid ((wr.alloc (.cells #[.int .u8 ((m : Int) % 128 + 128)] 5)).cell? ⟨wr.heap.size, 0, none⟩ = some (.int .u8 ((m % 128 + 128 : Nat) : Int))) := Lib.hid (by simp only [World.cell?, hal]; rw [← HU.out]; rfl)
      clear hal
      go_wp2_with (at_builtin; refine wplY_app rfl (.tmp 19) (.tmp 24) rfl bb (.slice A ys.length c) ys.length ys rfl (HO.out.alloc _) wr.heap.size _ rfl HCL.out (by omega) (by simp; omega) ?_; intro g c2 w2 hown2 hge2 hgr2 hat2; obtain ⟨hz0, hz1, hzf0, hzf1⟩ := row2 (wq_row HR.out HNW.out _ hgr2))
      have hp := Wq.push (zs := ys ++ [((m % 128 + 128 : Nat) : Int)]) HR.out HO.out HNW.out hle _ hgr2 (by simp) hown2 hge2 hat2
      have hk := KeepW.pushQ (c2 := c2) HR.out HNW.out _ hgr2 hat2
      have HKP := Lib.hid (HK.out.trans hk)
      have HP := Lib.hid hp
      clear hk hp hown2 hgr2 hat2 hz0 hz1 hzf0 hzf1
      go_roundw
      case rel =>
        refine ⟨m / 128, _, by rw [show ((m / 128 : Nat) : Int) = (m : Int) / 128 by omega], by omega, Lib.hid HP.out.1, Lib.hid ?_, Lib.hid (HB.out.trans HP.out.2), HKP⟩
        rw [← HE.out, enc_ge hge, List.append_assoc]; rfl
      case measure => simp [intOf]; omega
    · have hd : decide ((127 : Int) < (m : Int)) = false := by simp; omega
      have hal := heap_alloc_new wr (.cells #[.int .u8 (m : Int)] 5)
      have HCL : Hid ((wr.alloc (.cells #[.int .u8 (m : Int)] 5)).cell? ⟨wr.heap.size, 0, none⟩ = some (.int .u8 (m : Int))) := Lib.hid (by simp only [World.cell?, hal]; rfl)
      clear hal
      go_wp2_with (at_builtin; refine wplY_app rfl (.tmp 34) (.tmp 37) rfl bb (.slice A ys.length c) ys.length ys rfl (HO.out.alloc _) wr.heap.size _ rfl HCL.out (by omega) (by simp; omega) ?_; intro g c2 w2 hown2 hge2 hgr2 hat2; obtain ⟨hz0, hz1, hzf0, hzf1⟩ := row2 (wq_row HR.out HNW.out _ hgr2))
      have hp := Wq.push (zs := ys ++ [(m : Int)]) HR.out HO.out HNW.out hle _ hgr2 (by simp) hown2 hge2 hat2
      have hk := KeepW.pushQ (c2 := c2) HR.out HNW.out _ hgr2 hat2
      have HKP := Lib.hid (HK.out.trans hk)
      have HP := Lib.hid hp
      clear hk hp hown2 hgr2 hat2 hz0 hz1 hzf0 hzf1
      go_end0
      refine ⟨rfl, ?_, HB.out.trans HP.out.2, HKP.out⟩
      rw [← HE.out, enc_lt (by omega)]
      exact HP.out.1
theorem numV_bad {w : World} {bb wb : Nat} {xs : List Int} {f : Bool} (h : Wq w bb wb xs f) {n : Int} (hn : n < 0 ∨ 1099511627776 < n) :
    Calls Try.prog 53 #[.pointer (some ⟨wb, 0, none⟩), .int .i64 n] w fun e w' => e = .returned (.tuple #[]) ∧ Wq w' bb wb xs true ∧ Below bb w w' ∧ KeepW w w' wb := by
  obtain ⟨A, c, hrow, hown, hnw⟩ := h.row
  have hle := h.le
  have hr2 : (w.setCell ⟨wb, 1, none⟩ (.bool true)).heap[wb]? = some (.cells #[.slice A xs.length c, .bool true] 79 (0, 0)) := heap_setCell_same w wb 1 _ _ _ hrow
  have HKB : Hid (KeepW w (w.setCell ⟨wb, 1, none⟩ (.bool true)) wb) := Lib.hid ⟨fun b hb hne _ => heap_setCell_other w ⟨wb, 1, none⟩ b _ hne, fun b ho => .inl ⟨_, _, _, hrow, OwnW.of hr2 ho⟩, by simp⟩
  have HF : Hid (Wq (w.setCell ⟨wb, 1, none⟩ (.bool true)) bb wb xs true ∧ Below bb w (w.setCell ⟨wb, 1, none⟩ (.bool true))) := Lib.hid ⟨⟨⟨A, c, hr2, hown.other (row := some wb) ⟨rfl, rfl, rfl, by simp, fun i hi hne => Below.heap_setCell w _ _ i (fun e => hne (by rw [e]))⟩ (fun g' hg' e => by have := hnw g' hg'; injection e with e; omega), hnw⟩, hle⟩, (Below.refl bb w).setCell (p := ⟨wb, 1, none⟩) hle _⟩
  obtain ⟨hc0, hc1, hf0, hf1⟩ := row2 hrow
  clear h hrow hown hr2 hnw hle
  by_cases h0 : n < 0
  · have d0 : decide (n < 0) = true := decide_eq_true h0
    go_enter Try.func53, Try.ntmps53
    go_wp2
    refine bodyPost_ret (results_none rfl _ _ _) rfl ?_
    exact ⟨rfl, HF.out.1, HF.out.2, HKB.out⟩
  · have d0 : decide (n < 0) = false := decide_eq_false h0
    have d1 : decide (1099511627776 < n) = true := decide_eq_true (by omega)
    go_enter Try.func53, Try.ntmps53
    go_wp2
    refine bodyPost_ret (results_none rfl _ _ _) rfl ?_
    exact ⟨rfl, HF.out.1, HF.out.2, HKB.out⟩
theorem numV_any {w : World} {bb wb : Nat} {xs : List Int} {f : Bool} (h : Wq w bb wb xs f) (n : Int) (hl : xs.length + 6 ≤ 1000000000) :
    Calls Try.prog 53 #[.pointer (some ⟨wb, 0, none⟩), .int .i64 n] w fun e w' => e = .returned (.tuple #[]) ∧ Wq w' bb wb (xs ++ outI n) (f || !okI n) ∧ Below bb w w' ∧ KeepW w w' wb := by
  by_cases hok : 0 ≤ n ∧ n ≤ 1099511627776
  · have e : okI n = true := decide_eq_true hok
    have e2 : outI n = enc n.toNat := by unfold outI; rw [if_pos e]
    have e3 : ((n.toNat : Nat) : Int) = n := by omega
    have := numV_ok h (n := n.toNat) (by omega) hl
    rw [e3] at this
    rw [e, e2]
    refine this.mono ?_
    rintro e w' ⟨h1, h2, h3, h4⟩
    exact ⟨h1, by simpa using h2, h3, h4⟩
  · have e : okI n = false := decide_eq_false hok
    have e2 : outI n = [] := by unfold outI; rw [if_neg (by rw [e]; simp)]
    rw [e, e2, List.append_nil]
    refine (numV_bad h (n := n) (by omega)).mono ?_
    rintro e w' ⟨h1, h2, h3, h4⟩
    exact ⟨h1, by simpa using h2, h3, h4⟩
set_option maxHeartbeats 1000000 in
theorem intsV_any {w : World} {bb wb B n c : Nat} {xs l : List Int} {f : Bool} {A : Option Addr} (h : Wq w bb wb xs f) (hr : Rd w B A n l) (hB : B ≤ bb) (hn : n ≤ 2000000) (hl : xs.length + 6 * (n + 2) ≤ 1000000000) :
    Calls Try.prog 44 #[.pointer (some ⟨wb, 0, none⟩), .slice A n c] w fun e w' => e = .returned (.tuple #[]) ∧ Wq w' bb wb (xs ++ enc n ++ outs l) (f || bads l) ∧ Below bb w w' ∧ KeepW w w' wb := by
  have H := Lib.hid h
  have HR := Lib.hid hr
  have hll := hr.len
  have HLL := Lib.hid hll
  clear h hr hll
  go_enter Try.func44, Try.ntmps44
  go_wp2_with fail
  refine (numV_any H.out (n : Int) (by omega)).mono ?_
  rintro e w1 ⟨rfl, h1, hb1, hk1⟩
  have HK1 := Lib.hid hk1
  clear hk1
  rw [outI_nat (by omega), okI_nat (by omega)] at h1
  have H1 : Hid (Wq w1 bb wb (xs ++ enc n) f) := Lib.hid (by simpa using h1)
  have HB1 := Lib.hid hb1
  have HE : Hid ((enc n).length ≤ 6) := Lib.hid (enc_six (by omega))
  clear h1 hb1
  go_wp2
  go_loopw [4] (fun v wr => ∃ j : Nat, j ≤ n ∧ v = .int .i64 (j : Int) ∧ Hid (Wq wr bb wb (xs ++ enc n ++ outs (l.take j)) (f || bads (l.take j))) ∧ Hid (Below bb w wr) ∧ Hid (KeepW w wr wb)) (fun v _ => n - (intOf v).toNat)
  case atStart => exact ⟨0, Nat.zero_le _, rfl, Lib.hid (by simpa [outs, bads] using H1.out), HB1, HK1⟩
  case round =>
    obtain ⟨j, hj, rfl, HW, HB, HK⟩ := hrel
    by_cases hjn : j < n
    · have hd : decide ((j : Int) < (n : Int)) = true := by simp; omega
      have hi : (j : Int) < (n : Int) := by omega
      have hadd : IntKind.i64.wrap ((j : Int) + 1) = ((j + 1 : Nat) : Int) := by rw [IntWalk.i64_in _ (by omega)]; omega
      obtain ⟨b1, o1, rfl, _, hcell⟩ := (HR.out.below (HB.out.mono hB)).at_ hjn
      obtain ⟨x, HX⟩ : ∃ x, Hid (ix l j = x) := ⟨_, Lib.hid rfl⟩
      rw [HX.out] at hcell
      have HC := Lib.hid (numV_any HW.out x (by
        have h2 := outs_len (l.take j)
        have h3 := HE.out
        have h4 := HLL.out
        rw [List.length_append, List.length_append]
        rw [List.length_take] at h2
        omega))
      go_wp2_with fail
      refine HC.out.mono ?_
      rintro e w2 ⟨rfl, h2, hb2, hk2⟩
      have HK2 := Lib.hid (HK.out.trans hk2)
      clear hk2
      have H2 : Hid (Wq w2 bb wb (xs ++ enc n ++ outs (l.take (j + 1))) (f || bads (l.take (j + 1)))) := Lib.hid (by
        rw [take_ix l j (by rw [HLL.out]; exact hjn), outs_snoc, bads_snoc, HX.out, ← List.append_assoc, ← Bool.or_assoc]
        exact h2)
      have HB2 : Hid (Below bb w w2) := Lib.hid (HB.out.trans hb2)
      clear h2 hb2 HC
      go_wp2
      go_roundw
      case rel => exact ⟨j + 1, by omega, rfl, H2, HB2, HK2⟩
      case measure => simp [intOf]; omega
    · have hd : decide ((j : Int) < (n : Int)) = false := by simp; omega
      obtain rfl : j = n := by omega
      go_wp2
      go_end0
      refine ⟨rfl, ?_, HB.out, HK.out⟩
      have := HW.out
      rw [List.take_of_length_le (by rw [HLL.out]; omega)] at this
      exact this
set_option maxHeartbeats 1000000 in
theorem intsK_any {w : World} {bb wb B n c : Nat} {xs l : List Int} {f : Bool} {A : Option Addr} (h : Wq w bb wb xs f) (hr : ∀ w', KeepW w w' wb → Rd w' B A n l) (hn : n ≤ 2000000) (hl : xs.length + 6 * (n + 2) ≤ 1000000000) :
    Calls Try.prog 44 #[.pointer (some ⟨wb, 0, none⟩), .slice A n c] w fun e w' => e = .returned (.tuple #[]) ∧ Wq w' bb wb (xs ++ enc n ++ outs l) (f || bads l) ∧ Below bb w w' ∧ KeepW w w' wb := by
  have H := Lib.hid h
  have HR := Lib.hid hr
  have hll := (hr w (KeepW.refl _ _)).len
  have HLL := Lib.hid hll
  clear h hr hll
  go_enter Try.func44, Try.ntmps44
  go_wp2_with fail
  refine (numV_any H.out (n : Int) (by omega)).mono ?_
  rintro e w1 ⟨rfl, h1, hb1, hk1⟩
  have HK1 := Lib.hid hk1
  clear hk1
  rw [outI_nat (by omega), okI_nat (by omega)] at h1
  have H1 : Hid (Wq w1 bb wb (xs ++ enc n) f) := Lib.hid (by simpa using h1)
  have HB1 := Lib.hid hb1
  have HE : Hid ((enc n).length ≤ 6) := Lib.hid (enc_six (by omega))
  clear h1 hb1
  go_wp2
  go_loopw [4] (fun v wr => ∃ j : Nat, j ≤ n ∧ v = .int .i64 (j : Int) ∧ Hid (Wq wr bb wb (xs ++ enc n ++ outs (l.take j)) (f || bads (l.take j))) ∧ Hid (Below bb w wr) ∧ Hid (KeepW w wr wb)) (fun v _ => n - (intOf v).toNat)
  case atStart => exact ⟨0, Nat.zero_le _, rfl, Lib.hid (by simpa [outs, bads] using H1.out), HB1, HK1⟩
  case round =>
    obtain ⟨j, hj, rfl, HW, HB, HK⟩ := hrel
    by_cases hjn : j < n
    · have hd : decide ((j : Int) < (n : Int)) = true := by simp; omega
      have hi : (j : Int) < (n : Int) := by omega
      have hadd : IntKind.i64.wrap ((j : Int) + 1) = ((j + 1 : Nat) : Int) := by rw [IntWalk.i64_in _ (by omega)]; omega
      obtain ⟨b1, o1, rfl, _, hcell⟩ := (HR.out _ HK.out).at_ hjn
      obtain ⟨x, HX⟩ : ∃ x, Hid (ix l j = x) := ⟨_, Lib.hid rfl⟩
      rw [HX.out] at hcell
      have HC := Lib.hid (numV_any HW.out x (by
        have h2 := outs_len (l.take j)
        have h3 := HE.out
        have h4 := HLL.out
        rw [List.length_append, List.length_append]
        rw [List.length_take] at h2
        omega))
      go_wp2_with fail
      refine HC.out.mono ?_
      rintro e w2 ⟨rfl, h2, hb2, hk2⟩
      have HK2 := Lib.hid (HK.out.trans hk2)
      clear hk2
      have H2 : Hid (Wq w2 bb wb (xs ++ enc n ++ outs (l.take (j + 1))) (f || bads (l.take (j + 1)))) := Lib.hid (by
        rw [take_ix l j (by rw [HLL.out]; exact hjn), outs_snoc, bads_snoc, HX.out, ← List.append_assoc, ← Bool.or_assoc]
        exact h2)
      have HB2 : Hid (Below bb w w2) := Lib.hid (HB.out.trans hb2)
      clear h2 hb2 HC
      go_wp2
      go_roundw
      case rel => exact ⟨j + 1, by omega, rfl, H2, HB2, HK2⟩
      case measure => simp [intOf]; omega
    · have hd : decide ((j : Int) < (n : Int)) = false := by simp; omega
      obtain rfl : j = n := by omega
      go_wp2
      go_end0
      refine ⟨rfl, ?_, HB.out, HK.out⟩
      have := HW.out
      rw [List.take_of_length_le (by rw [HLL.out]; omega)] at this
      exact this
set_option maxHeartbeats 16000000 in
theorem planV_any {w : World} {bb wb c1 c2 c3 c4 : Nat} {A1 A2 A3 A4 : Option Addr} {xs fs ts : List Int} {ps qs : List (Int × Int)} (hw : Wq w bb wb xs false) (hx0 : xs.length ≤ 10) (h : RdPl w bb A1 A2 A3 A4 fs ts ps qs) :
    Calls Try.prog 31 #[.pointer (some ⟨wb, 0, none⟩), .agg #[.slice A1 fs.length c1, .slice A2 ts.length c2, .slice A3 ps.length c3, .slice A4 qs.length c4]] w fun e w' => e = .returned (.tuple #[]) ∧ Wq w' bb wb (xs ++ plO fs ts ps qs) (plB fs ts ps qs) ∧ Below bb w w' ∧ KeepW w w' wb := by
  have hl1 := h.l1
  have hl2 := h.l2
  have hl3 := h.l3
  have hl4 := h.l4
  have he1 := enc_small (n := fs.length) (by omega)
  have he2 := enc_small (n := ts.length) (by omega)
  have he3 := enc_small (n := ps.length) (by omega)
  have he4 := enc_small (n := qs.length) (by omega)
  have ho1 := outs_len fs
  have ho2 := outs_len ts
  have ho3 := outP_len ps
  have hlt := hw.lt
  have hle := hw.le
  obtain ⟨W, hW⟩ : ∃ W, W = w.alloc (.cells #[.slice A1 fs.length c1, .slice A2 ts.length c2, .slice A3 ps.length c3, .slice A4 qs.length c4] 47) := ⟨_, rfl⟩
  have h0 : W.heap[w.heap.size]? = some (.cells #[.slice A1 fs.length c1, .slice A2 ts.length c2, .slice A3 ps.length c3, .slice A4 qs.length c4] 47 (0, 0)) := by rw [hW]; exact heap_alloc_new w _
  have hno : ¬ OwnW W wb w.heap.size := by rw [hW]; exact ownWq_new hw (Nat.le_refl _) (Below.heap_alloc w _ wb hlt)
  have HNO := Lib.hid hno
  have H0 := Lib.hid h0
  have HW0 : Hid (Wq W bb wb xs false) := Lib.hid (by rw [hW]; exact hw.alloc _)
  have HB0 : Hid (Below bb W W) := Lib.hid (Below.refl _ _)
  have HK0 : Hid (KeepW W W wb) := Lib.hid (KeepW.refl _ _)
  have HR0 : Hid (RdPl W bb A1 A2 A3 A4 fs ts ps qs) := Lib.hid (h.below (by rw [hW]; exact ((Below.refl _ w).alloc (Nat.le_refl _) _).mono (by omega)))
  have HBW : Hid (Below bb w W) := Lib.hid (by rw [hW]; exact ((Below.refl _ w).alloc (Nat.le_refl _) _).mono (by omega))
  have HKW : Hid (KeepW w W wb) := Lib.hid (by rw [hW]; exact KeepW.alloc hlt _)
  have hobl : w.heap.size < W.heap.size := heapE_lt h0
  have HBX : Hid (∀ w', KeepW W w' wb → w'.heap[w.heap.size]? = some (.cells #[.slice A1 fs.length c1, .slice A2 ts.length c2, .slice A3 ps.length c3, .slice A4 qs.length c4] 47 (0, 0))) := Lib.hid (fun w' hk => (hk.block w.heap.size hobl (by omega) HNO.out).trans H0.out)
  have HWE := Lib.hid hW
  clear h h0 hno hw hW
  go_enter Try.func31, Try.ntmps31
  go_upto_region 1 with fail
  change Code.wp _ _ _ _ (w.alloc (.cells #[.slice A1 fs.length c1, .slice A2 ts.length c2, .slice A3 ps.length c3, .slice A4 qs.length c4] 47))
  rw [← HWE.out]
  clear HWE H0
  obtain ⟨x0, x1, x2, x3, xf⟩ := rc_cells (HBX.out _ HK0.out)
  clear xf
  have HC1 := Lib.hid (intsV_any (c := c1) HW0.out HR0.out.r1 (Nat.le_refl _) (by omega) (by omega))
  go_wp2_with fail
  refine HC1.out.mono ?_
  rintro e w1 ⟨rfl, hw, hb, hk⟩
  have HW1 := Lib.hid hw
  have HB1 : Hid (Below bb W w1) := Lib.hid (HB0.out.trans hb)
  have HK1 : Hid (KeepW W w1 wb) := Lib.hid (HK0.out.trans hk)
  have HR1 := Lib.hid (HR0.out.below hb)
  clear hw hb hk HC1 x0 x1 x2 x3 HW0
  obtain ⟨x0, x1, x2, x3, xf⟩ := rc_cells (HBX.out _ HK1.out)
  clear xf
  have HC2 := Lib.hid (intsV_any (c := c2) HW1.out HR1.out.r2 (Nat.le_refl _) (by omega) (by simp only [List.length_append, Nat.add_zero]; omega))
  go_wp2_with fail
  refine HC2.out.mono ?_
  rintro e w2 ⟨rfl, hw, hb, hk⟩
  have HW2 := Lib.hid hw
  have HB2 : Hid (Below bb W w2) := Lib.hid (HB1.out.trans hb)
  have HK2 : Hid (KeepW W w2 wb) := Lib.hid (HK1.out.trans hk)
  have HR2 := Lib.hid (HR1.out.below hb)
  clear hw hb hk HC2 x0 x1 x2 x3 HW1
  obtain ⟨x0, x1, x2, x3, xf⟩ := rc_cells (HBX.out _ HK2.out)
  clear xf
  have HC3 := Lib.hid (numV_any HW2.out (ps.length : Int) (by simp only [List.length_append, Nat.add_zero]; omega))
  go_wp2_with fail
  refine HC3.out.mono ?_
  rintro e w3 ⟨rfl, hw, hb, hk⟩
  have HW3 := Lib.hid hw
  have HB3 : Hid (Below bb W w3) := Lib.hid (HB2.out.trans hb)
  have HK3 : Hid (KeepW W w3 wb) := Lib.hid (HK2.out.trans hk)
  have HR3 := Lib.hid (HR2.out.below hb)
  clear hw hb hk HC3 x0 x1 x2 x3 HW2
  rw [outI_nat (n := ps.length) (by omega), okI_nat (n := ps.length) (by omega)] at HW3
  simp only [Bool.not_true, Bool.or_false] at HW3
  obtain ⟨X3, hX3⟩ : ∃ X, X = xs ++ enc fs.length ++ outs fs ++ enc ts.length ++ outs ts ++ enc ps.length := ⟨_, rfl⟩
  obtain ⟨F3, hF3⟩ : ∃ F, F = (false || bads fs || bads ts) := ⟨_, rfl⟩
  have HXX3 := Lib.hid hX3
  have HFF3 := Lib.hid hF3
  have hxl3 : X3.length ≤ 200000 := by rw [hX3]; simp only [List.length_append, Nat.add_zero]; omega
  rw [← hX3, ← hF3] at HW3
  clear hX3 hF3
  obtain ⟨x0, x1, x2, x3, xf⟩ := rc_cells (HBX.out _ HK3.out)
  clear xf
  go_upto_region 4 with fail
  iterate 7 (first | go_skip | go_guarded | go_step | go_upon | go_back)
  go_cut [4] (fun v w' => Hid (Wq w' bb wb (X3 ++ outP ps) (F3 || badP ps)) ∧ Hid (Below bb W w') ∧ Hid (KeepW W w' wb) ∧ Hid (RdPl w' bb A1 A2 A3 A4 fs ts ps qs))
  case first =>
    go_wp2_with fail
    go_loopw [4] (fun v wr => ∃ j : Nat, j ≤ ps.length ∧ v = .int .i64 (j : Int) ∧ Hid (Wq wr bb wb (X3 ++ outP (ps.take j)) (F3 || badP (ps.take j))) ∧ Hid (Below bb W wr) ∧ Hid (KeepW W wr wb) ∧ Hid (RdPl wr bb A1 A2 A3 A4 fs ts ps qs)) (fun v _ => ps.length - (intOf v).toNat)
    case atStart => exact ⟨0, Nat.zero_le _, rfl, Lib.hid (by simpa [outP, badP] using HW3.out), HB3, HK3, HR3⟩
    case round =>
      clear x0 x1 x2 x3
      obtain ⟨j, hj, rfl, HWr, HBr, HKr, HRr⟩ := hrel
      obtain ⟨wo, hwo⟩ : ∃ x, x = wr := ⟨_, rfl⟩
      subst hwo
      obtain ⟨x0, x1, x2, x3, xf⟩ := rc_cells (HBX.out _ HKr.out)
      clear xf
      by_cases hlt2 : j < ps.length
      · have hji : (j : Int) < (ps.length : Int) := by omega
        have hol := outP_len (ps.take j)
        rw [List.length_take] at hol
        obtain ⟨b, off, hAe, hbb, y0, y1⟩ := HRr.out.r3.at_ hlt2
        rw [hAe] at x2
        have HAE := Lib.hid hAe
        clear hAe
        have HC := Lib.hid (numV_any HWr.out (px ps j) (by rw [List.length_append]; omega))
        go_wp2_with fail
        refine HC.out.mono ?_
        rintro e wx1 ⟨rfl, hw, hb, hk⟩
        have HV1 := Lib.hid hw
        have HVB1 : Hid (Below bb W wx1) := Lib.hid (HBr.out.trans hb)
        have HVK1 : Hid (KeepW W wx1 wb) := Lib.hid (HKr.out.trans hk)
        have HVR1 := Lib.hid (HRr.out.below hb)
        have hoi := outI_len (px ps j)
        have z1 := (hb.cell (p := ⟨b, off + j * 2 + 1, none⟩) hbb).trans y1
        clear hw hb hk HC x0 x1 x2 x3 y0 y1
        obtain ⟨x0, x1, x2, x3, xf⟩ := rc_cells (HBX.out _ HVK1.out)
        clear xf
        rw [HAE.out] at x2
        have HC := Lib.hid (numV_any HV1.out (py ps j) (by rw [List.length_append, List.length_append]; omega))
        go_wp2_with fail
        refine HC.out.mono ?_
        rintro e wx2 ⟨rfl, hw, hb, hk⟩
        have HV2 : Hid (Wq wx2 bb wb (X3 ++ outP (ps.take (j + 1))) (F3 || badP (ps.take (j + 1)))) := Lib.hid (by
          rw [take_px _ _ hlt2, outP_snoc, badP_snoc]
          have h := hw
          simp only [List.append_assoc, Bool.or_assoc] at h ⊢
          exact h)
        have HVB2 : Hid (Below bb W wx2) := Lib.hid (HVB1.out.trans hb)
        have HVK2 : Hid (KeepW W wx2 wb) := Lib.hid (HVK1.out.trans hk)
        have HVR2 := Lib.hid (HVR1.out.below hb)
        clear hw hb hk HC x0 x1 x2 x3 z1
        go_wp2_with fail
        go_roundw
        case rel => exact ⟨j + 1, by omega, by go_num, HV2, HVB2, HVK2, HVR2⟩
        case measure => simp [intOf]; omega
      · have hji : ¬ (j : Int) < (ps.length : Int) := by omega
        have hjd : decide ((j : Int) < (ps.length : Int)) = false := by simp; omega
        have hje : ps.take j = ps := List.take_of_length_le (by omega)
        rw [hje] at HWr
        go_wp2_with fail
        go_meet
        exact ⟨HWr, HBr, HKr, HRr⟩
  case rest =>
  clear x0 x1 x2 x3
  obtain ⟨HW4, HB4, HK4, HR4⟩ := hcut
  obtain ⟨w4, hwe⟩ : ∃ w4 : World, w4 = wc := ⟨_, rfl⟩
  subst hwe
  obtain ⟨x0, x1, x2, x3, xf⟩ := rc_cells (HBX.out _ HK4.out)
  clear xf
  have HC5 := Lib.hid (numV_any HW4.out (qs.length : Int) (by rw [List.length_append]; omega))
  go_wp2_with fail
  refine HC5.out.mono ?_
  rintro e w5 ⟨rfl, hw, hb, hk⟩
  have HW5 := Lib.hid hw
  have HB5 : Hid (Below bb W w5) := Lib.hid (HB4.out.trans hb)
  have HK5 : Hid (KeepW W w5 wb) := Lib.hid (HK4.out.trans hk)
  have HR5 := Lib.hid (HR4.out.below hb)
  clear hw hb hk HC5 x0 x1 x2 x3 HW4
  rw [outI_nat (n := qs.length) (by omega), okI_nat (n := qs.length) (by omega)] at HW5
  simp only [Bool.not_true, Bool.or_false] at HW5
  obtain ⟨X5, hX5⟩ : ∃ X, X = X3 ++ outP ps ++ enc qs.length := ⟨_, rfl⟩
  obtain ⟨F5, hF5⟩ : ∃ F, F = (F3 || badP ps) := ⟨_, rfl⟩
  have HXX5 := Lib.hid hX5
  have HFF5 := Lib.hid hF5
  have hxl5 : X5.length ≤ 400000 := by rw [hX5]; simp only [List.length_append]; omega
  rw [← hX5, ← hF5] at HW5
  clear hX5 hF5
  obtain ⟨x0, x1, x2, x3, xf⟩ := rc_cells (HBX.out _ HK5.out)
  clear xf
  go_wp2_with fail
  go_loopw [5] (fun v wr => ∃ j : Nat, j ≤ qs.length ∧ v = .int .i64 (j : Int) ∧ Hid (Wq wr bb wb (X5 ++ outP (qs.take j)) (F5 || badP (qs.take j))) ∧ Hid (Below bb W wr) ∧ Hid (KeepW W wr wb) ∧ Hid (RdPl wr bb A1 A2 A3 A4 fs ts ps qs)) (fun v _ => qs.length - (intOf v).toNat)
  case atStart => exact ⟨0, Nat.zero_le _, rfl, Lib.hid (by simpa [outP, badP] using HW5.out), HB5, HK5, HR5⟩
  case round =>
    clear x0 x1 x2 x3
    obtain ⟨j, hj, rfl, HWr, HBr, HKr, HRr⟩ := hrel
    obtain ⟨wo, hwo⟩ : ∃ x, x = wr := ⟨_, rfl⟩
    subst hwo
    obtain ⟨x0, x1, x2, x3, xf⟩ := rc_cells (HBX.out _ HKr.out)
    clear xf
    by_cases hlt2 : j < qs.length
    · have hji : (j : Int) < (qs.length : Int) := by omega
      have hol := outP_len (qs.take j)
      rw [List.length_take] at hol
      obtain ⟨b, off, hAe, hbb, y0, y1⟩ := HRr.out.r4.at_ hlt2
      rw [hAe] at x3
      have HAE := Lib.hid hAe
      clear hAe
      have HC := Lib.hid (numV_any HWr.out (px qs j) (by rw [List.length_append]; omega))
      go_wp2_with fail
      refine HC.out.mono ?_
      rintro e wx1 ⟨rfl, hw, hb, hk⟩
      have HV1 := Lib.hid hw
      have HVB1 : Hid (Below bb W wx1) := Lib.hid (HBr.out.trans hb)
      have HVK1 : Hid (KeepW W wx1 wb) := Lib.hid (HKr.out.trans hk)
      have HVR1 := Lib.hid (HRr.out.below hb)
      have hoi := outI_len (px qs j)
      have z1 := (hb.cell (p := ⟨b, off + j * 2 + 1, none⟩) hbb).trans y1
      clear hw hb hk HC x0 x1 x2 x3 y0 y1
      obtain ⟨x0, x1, x2, x3, xf⟩ := rc_cells (HBX.out _ HVK1.out)
      clear xf
      rw [HAE.out] at x3
      have HC := Lib.hid (numV_any HV1.out (py qs j) (by rw [List.length_append, List.length_append]; omega))
      go_wp2_with fail
      refine HC.out.mono ?_
      rintro e wx2 ⟨rfl, hw, hb, hk⟩
      have HV2 : Hid (Wq wx2 bb wb (X5 ++ outP (qs.take (j + 1))) (F5 || badP (qs.take (j + 1)))) := Lib.hid (by
        rw [take_px _ _ hlt2, outP_snoc, badP_snoc]
        have h := hw
        simp only [List.append_assoc, Bool.or_assoc] at h ⊢
        exact h)
      have HVB2 : Hid (Below bb W wx2) := Lib.hid (HVB1.out.trans hb)
      have HVK2 : Hid (KeepW W wx2 wb) := Lib.hid (HVK1.out.trans hk)
      have HVR2 := Lib.hid (HVR1.out.below hb)
      clear hw hb hk HC x0 x1 x2 x3 z1
      go_wp2_with fail
      go_roundw
      case rel => exact ⟨j + 1, by omega, by go_num, HV2, HVB2, HVK2, HVR2⟩
      case measure => simp [intOf]; omega
    · have hji : ¬ (j : Int) < (qs.length : Int) := by omega
      have hjd : decide ((j : Int) < (qs.length : Int)) = false := by simp; omega
      have hje : qs.take j = qs := List.take_of_length_le (by omega)
      rw [hje] at HWr
      go_wp2_with fail
      go_end0
      refine ⟨rfl, ?_, HBW.out.trans HBr.out, HKW.out.trans HKr.out⟩
      have h := HWr.out
      rw [HXX5.out, HFF5.out, HXX3.out, HFF3.out] at h
      simp only [List.append_assoc, Bool.false_or] at h
      unfold plO plB
      simp only [List.append_assoc]
      exact h
end Go.Proofs.Ytolgmoaoheflcaa
