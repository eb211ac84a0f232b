/-
  CONTRACTS of the writers of layer 12, the program's and the document's: a number.
-/
import Derived.Test.YtolgmoaoheflcaaEPure
import Derived.Test.YtolgmoaoheflcaaEInts
import Derived.IntWalk
namespace Go.Proofs.Ytolgmoaoheflcaa
open Go.RowKit
open ByteP CodeP
set_option linter.unusedVariables false
set_option maxRecDepth 10000

/-- A writer at block wb: the slice of its bytes, and whether something had no form. -/
structure Wr (T : TypeId) (w : World) (wb : Nat) (xs : List Int) (f : Bool) : Prop where
  row : ∃ A c, w.heap[wb]? = some (.cells #[.slice A xs.length c, .bool f] T (0, 0)) ∧ OwnY w (wb + 1) (.slice A xs.length c) xs.length xs
section
variable {T : TypeId} {w w' : World} {wb : Nat} {xs : List Int} {f : Bool}
theorem heapE_lt {w : World} {g : Nat} {o : Obj} (h : w.heap[g]? = some o) : g < w.heap.size := by
  rcases Nat.lt_or_ge g w.heap.size with hlt | hge
  · exact hlt
  · rw [Array.getElem?_eq_none hge] at h; cases h
theorem Wr.lt (h : Wr T w wb xs f) : wb < w.heap.size := by
  obtain ⟨A, c, h1, _⟩ := h.row
  exact heapE_lt h1
theorem Wr.kept (h : Wr T w wb xs f) (hb : Below w.heap.size w w') : Wr T w' wb xs f := by
  obtain ⟨A, c, h1, h2⟩ := h.row
  exact ⟨A, c, (hb.block wb (heapE_lt h1)).trans h1, h2.kept hb⟩
theorem row2 {w : World} {g : Nat} {x y : Value} {t : TypeId} (h : w.heap[g]? = some (.cells #[x, y] t (0, 0))) : w.cell? ⟨g, 0, none⟩ = some x ∧ w.cell? ⟨g, 1, none⟩ = some y ∧ w.frozen? ⟨g, 0, none⟩ = false ∧ w.frozen? ⟨g, 1, none⟩ = false :=
  ⟨by rw [cell_of_row w g 0 _ _ _ h]; rfl, by rw [cell_of_row w g 1 _ _ _ h]; rfl, frozen_of_row w g 0 _ _ h, frozen_of_row w g 1 _ _ h⟩
end
theorem or_fin : ∀ r : Fin 256, bits BinOp.or IntKind.u8 ((r.val : Nat) : Int) 128 = ((r.val % 128 + 128 : Nat) : Int) := by decide
theorem or_more (m : Nat) : bits BinOp.or IntKind.u8 ((m : Int) % 256) 128 = ((m % 128 + 128 : Nat) : Int) := by
  have h := or_fin ⟨m % 256, by omega⟩
  simp only at h
  rw [show ((m : Int) % 256) = ((m % 256 : Nat) : Int) by omega, h]
  omega

/-- A writer's own row. -/
def OwnW (w : World) (wb b : Nat) : Prop := ∃ v f T, w.heap[wb]? = some (.cells #[v, .bool f] T (0, 0)) ∧ v.ownBlock = some b
/-- Only a writer, its row, and new blocks have turned. -/
structure KeepW (w w' : World) (wb : Nat) : Prop where
  block : ∀ b, b < w.heap.size → b ≠ wb → ¬ OwnW w wb b → w'.heap[b]? = w.heap[b]?
  own : ∀ b, OwnW w' wb b → OwnW w wb b ∨ w.heap.size ≤ b
  size : w.heap.size ≤ w'.heap.size
theorem KeepW.refl (w : World) (wb : Nat) : KeepW w w wb := ⟨fun _ _ _ _ => rfl, fun _ h => .inl h, Nat.le_refl _⟩
theorem KeepW.trans {w w1 w2 : World} {wb : Nat} (h : KeepW w w1 wb) (k : KeepW w1 w2 wb) : KeepW w w2 wb :=
  ⟨fun b hb hne ho => (k.block b (Nat.lt_of_lt_of_le hb h.size) hne (fun h1 => by
      rcases h.own b h1 with h2 | h2
      · exact ho h2
      · omega)).trans (h.block b hb hne ho), fun b hb => by
      rcases k.own b hb with h1 | h1
      · exact h.own b h1
      · exact .inr (Nat.le_trans h.size h1), Nat.le_trans h.size k.size⟩
theorem KeepW.alloc {w : World} {wb : Nat} (hlt : wb < w.heap.size) (o : Obj) : KeepW w (w.alloc o) wb :=
  ⟨fun b hb _ _ => Below.heap_alloc w o b hb, fun b ⟨v, f, T, h1, h2⟩ => .inl ⟨v, f, T, (Below.heap_alloc w o wb hlt).symm.trans h1, h2⟩, by simp⟩
theorem KeepW.cell {w w' : World} {wb : Nat} (h : KeepW w w' wb) {p : Addr} (hb : p.block < w.heap.size) (hne : p.block ≠ wb) (ho : ¬ OwnW w wb p.block) : w'.cell? p = w.cell? p := World.cell?_of_block (h.block p.block hb hne ho)
theorem OwnW.of {w : World} {wb b : Nat} {v : Value} {f : Bool} {T : TypeId} (hr : w.heap[wb]? = some (.cells #[v, .bool f] T (0, 0))) (h : OwnW w wb b) : v.ownBlock = some b := by
  obtain ⟨v', f', T', h1, h2⟩ := h
  rw [hr] at h1
  simp at h1
  rw [h1.1.1]
  exact h2
/-- A block that is new to a writer is none of its own. -/
theorem ownW_new {T : TypeId} {w : World} {wb : Nat} {xs : List Int} {f : Bool} (h : Wr T w wb xs f) {b : Nat} (hb : w.heap.size ≤ b) {w' : World} (hk : w'.heap[wb]? = w.heap[wb]?) : ¬ OwnW w' wb b := fun ho => by
  obtain ⟨A, c, h1, h2⟩ := h.row
  have h3 := OwnW.of (hk.trans h1) ho
  rcases h2.2 with ⟨h, _⟩ | ⟨g', cap, cur, hv, _, hh, _⟩
  · rw [h] at h3; cases h3
  · rw [hv] at h3
    have : g' = b := by simpa [Value.ownBlock] using h3
    subst this
    have := heapE_lt hh
    omega
/-- What an append and a store leave of a writer. -/
theorem wr_row {T : TypeId} {wr w2 : World} {wb k c : Nat} {A : Option Addr} {f : Bool} {zs : List Int} (hrow : wr.heap[wb]? = some (.cells #[.slice A k c, .bool f] T (0, 0))) (hown : OwnY wr (wb + 1) (.slice A k c) k zs) (o : Obj) (hgr : (wr.alloc o).grownBy w2 (Value.slice A k c).ownBlock) :
    w2.heap[wb]? = some (.cells #[.slice A k c, .bool f] T (0, 0)) :=
  (hgr.block wb (by have := heapE_lt hrow; simp; omega) (fun e => by have := hown.ge wb e.symm; omega)).trans ((Below.heap_alloc wr o wb (heapE_lt hrow)).trans hrow)
theorem KeepW.push {T : TypeId} {wr w2 : World} {wb k c g c2 : Nat} {A : Option Addr} {f : Bool} {ys : List Int} (hrow : wr.heap[wb]? = some (.cells #[.slice A k c, .bool f] T (0, 0))) (hown : OwnY wr (wb + 1) (.slice A k c) k ys) (o : Obj)
    (hgr : (wr.alloc o).grownBy w2 (Value.slice A k c).ownBlock) (hat : (Value.slice A k c).ownBlock = some g ∨ g = (wr.alloc o).heap.size) : KeepW wr (w2.setCell ⟨wb, 0, none⟩ (.slice (some ⟨g, 0, none⟩) (k + 1) c2)) wb := by
  have hr2 := wr_row hrow hown o hgr
  have hs := heap_setCell_same w2 wb 0 _ _ (.slice (some ⟨g, 0, none⟩) (k + 1) c2) hr2
  refine ⟨fun b hb hne ho => ?_, fun b ho => ?_, by have := hgr.size; simp at this ⊢; omega⟩
  · rw [heap_setCell_other w2 ⟨wb, 0, none⟩ b _ hne]
    exact (hgr.block b (by simp; omega) (fun e => ho ⟨_, _, _, hrow, e.symm⟩)).trans (Below.heap_alloc wr o b hb)
  · have h3 := OwnW.of hs ho
    have h4 : g = b := by simpa [Value.ownBlock] using h3
    subst h4
    rcases hat with h | h
    · exact .inl ⟨_, _, _, hrow, h⟩
    · right; rw [h]; simp
theorem Wr.push {T : TypeId} {wr w2 : World} {wb k c g c2 : Nat} {A : Option Addr} {f : Bool} {ys zs : List Int} (hrow : wr.heap[wb]? = some (.cells #[.slice A k c, .bool f] T (0, 0))) (hown : OwnY wr (wb + 1) (.slice A k c) k ys) (o : Obj)
    (hgr : (wr.alloc o).grownBy w2 (Value.slice A k c).ownBlock) (hz : zs.length = k + 1) (hown2 : OwnY w2 (wb + 1) (.slice (some ⟨g, 0, none⟩) (k + 1) c2) (k + 1) zs) (hge : wb + 1 ≤ g) :
    Wr T (w2.setCell ⟨wb, 0, none⟩ (.slice (some ⟨g, 0, none⟩) (k + 1) c2)) wb zs f ∧ Below wb wr (w2.setCell ⟨wb, 0, none⟩ (.slice (some ⟨g, 0, none⟩) (k + 1) c2)) := by
  have hr2 := wr_row hrow hown o hgr
  refine ⟨⟨some ⟨g, 0, none⟩, c2, ?_, ?_⟩, ?_⟩
  · rw [hz]
    exact heap_setCell_same w2 wb 0 _ _ _ hr2
  · rw [hz]
    refine hown2.other (row := some wb) ⟨rfl, rfl, rfl, by simp, fun i hi hne => Below.heap_setCell w2 _ _ i (fun e => hne (by rw [e]))⟩ (fun g' hg' e => ?_)
    have h1 : g = g' := by simpa [Value.ownBlock] using hg'
    injection e with e
    omega
  · have hlt := heapE_lt hrow
    have h1 : Below wb wr w2 := ((Below.refl _ wr).alloc (by omega) o).grown hgr (by simp; omega) (fun g' hg' => by have := hown.ge g' hg'; omega)
    exact h1.setCell (Nat.le_refl _) _

set_option maxHeartbeats 1000000 in
theorem number_ok {w : World} {wb : Nat} {xs : List Int} {f : Bool} (h : Wr 108 w wb xs f) {n : Nat} (hn : n ≤ 1099511627776) (hl : xs.length + 6 ≤ 1000000000) :
    Calls Try.prog 77 #[.pointer (some ⟨wb, 0, none⟩), .int .i64 (n : Int)] w fun e w' => e = .returned (.tuple #[]) ∧ Wr 108 w' wb (xs ++ enc n) f ∧ Below wb w w' ∧ KeepW w w' wb := by
  have H := Lib.hid h
  have d0 : decide ((n : Int) < 0) = false := decide_eq_false (by omega)
  have d1 : decide ((1099511627776 : Int) < (n : Int)) = false := decide_eq_false (by omega)
  clear h
  go_enter Try.func77, Try.ntmps77
  go_wp2
  go_loopw [1] (fun v wr => ∃ (m : Nat) (ys : List Int), v = .int .i64 (m : Int) ∧ m ≤ n ∧ Hid (Wr 108 wr wb ys f) ∧ Hid (ys ++ enc m = xs ++ enc n) ∧ Hid (Below wb w wr) ∧ Hid (KeepW w wr wb)) (fun v _ => (intOf v).toNat)
  case atStart => exact ⟨n, xs, rfl, Nat.le_refl _, H, Lib.hid rfl, Lib.hid (Below.refl _ _), Lib.hid (KeepW.refl _ _)⟩
  case round =>
    obtain ⟨m, ys, rfl, hm, HW, HE, HB, HK⟩ := hrel
    obtain ⟨A, c, hrow, hown⟩ := HW.out.row
    have hlen : ys.length ≤ 1000000000 := by
      have h1 := congrArg List.length HE.out
      rw [List.length_append, List.length_append] at h1
      have h2 := enc_six hn
      have h3 := enc_pos m
      omega
    have hwl := heapE_lt hrow
    have HR := Lib.hid hrow
    have HO := Lib.hid hown
    obtain ⟨hc0, hc1, hf0, hf1⟩ := row2 hrow
    clear hrow hown
    by_cases hge : 128 ≤ m
    · have hd : decide ((128 : Int) ≤ (m : Int)) = true := by simp; omega
      have HU := Lib.hid (or_more m)
      have hal := heap_alloc_new wr (.cells #[.int .u8 (bits BinOp.or IntKind.u8 ((m : Int) % 256) 128)] 5)
      have HCL : Hid ((wr.alloc (.cells #[.int .u8 (bits BinOp.or IntKind.u8 ((m : Int) % 256) 128)] 5)).cell? ⟨wr.heap.size, 0, none⟩ = some (.int .u8 ((m % 128 + 128 : Nat) : Int))) := Lib.hid (by simp only [World.cell?, hal]; rw [← HU.out]; rfl)
      clear hal
      go_wp2_with (at_builtin; refine wplY_app rfl (.tmp 19) (.tmp 23) rfl (wb + 1) (.slice A ys.length c) ys.length ys rfl (HO.out.alloc _) wr.heap.size _ rfl HCL.out (by omega) (by simp; omega) ?_; intro g c2 w2 hown2 hge2 hgr2 hat2; obtain ⟨hz0, hz1, hzf0, hzf1⟩ := row2 (wr_row HR.out HO.out _ hgr2))
      have hp := Wr.push (zs := ys ++ [((m % 128 + 128 : Nat) : Int)]) HR.out HO.out _ hgr2 (by simp) hown2 hge2
      have hk := KeepW.push (c2 := c2) HR.out HO.out _ hgr2 hat2
      have HKP := Lib.hid (HK.out.trans hk)
      have HP := Lib.hid hp
      clear hk hp hown2 hgr2 hat2 hz0 hz1 hzf0 hzf1
      go_roundw
      case rel =>
        refine ⟨m / 128, _, by rw [show ((m / 128 : Nat) : Int) = (m : Int) / 128 by omega], by omega, Lib.hid HP.out.1, Lib.hid ?_, Lib.hid (HB.out.trans HP.out.2), HKP⟩
        rw [← HE.out, enc_ge hge, List.append_assoc]; rfl
      case measure => simp [intOf]; omega
    · have hd : decide ((128 : Int) ≤ (m : Int)) = false := by simp; omega
      have hal := heap_alloc_new wr (.cells #[.int .u8 (m : Int)] 5)
      have HCL : Hid ((wr.alloc (.cells #[.int .u8 (m : Int)] 5)).cell? ⟨wr.heap.size, 0, none⟩ = some (.int .u8 (m : Int))) := Lib.hid (by simp only [World.cell?, hal]; rfl)
      clear hal
      go_wp2_with (at_builtin; refine wplY_app rfl (.tmp 33) (.tmp 36) rfl (wb + 1) (.slice A ys.length c) ys.length ys rfl (HO.out.alloc _) wr.heap.size _ rfl HCL.out (by omega) (by simp; omega) ?_; intro g c2 w2 hown2 hge2 hgr2 hat2; obtain ⟨hz0, hz1, hzf0, hzf1⟩ := row2 (wr_row HR.out HO.out _ hgr2))
      have hp := Wr.push (zs := ys ++ [(m : Int)]) HR.out HO.out _ hgr2 (by simp) hown2 hge2
      have hk := KeepW.push (c2 := c2) HR.out HO.out _ hgr2 hat2
      have HKP := Lib.hid (HK.out.trans hk)
      have HP := Lib.hid hp
      clear hk hp hown2 hgr2 hat2 hz0 hz1 hzf0 hzf1
      go_end0
      refine ⟨rfl, ?_, HB.out.trans HP.out.2, HKP.out⟩
      rw [← HE.out, enc_lt (by omega)]
      exact HP.out.1
set_option maxHeartbeats 1000000 in
theorem numW_ok {w : World} {wb : Nat} {xs : List Int} {f : Bool} (h : Wr 79 w wb xs f) {n : Nat} (hn : n ≤ 1099511627776) (hl : xs.length + 6 ≤ 1000000000) :
    Calls Try.prog 53 #[.pointer (some ⟨wb, 0, none⟩), .int .i64 (n : Int)] w fun e w' => e = .returned (.tuple #[]) ∧ Wr 79 w' wb (xs ++ enc n) f ∧ Below wb w w' ∧ KeepW w w' wb := by
  have H := Lib.hid h
  have d0 : decide ((n : Int) < 0) = false := decide_eq_false (by omega)
  have d1 : decide ((1099511627776 : Int) < (n : Int)) = false := decide_eq_false (by omega)
  clear h
  go_enter Try.func53, Try.ntmps53
  go_wp2
  go_loopw [1] (fun v wr => ∃ (m : Nat) (ys : List Int), v = .int .i64 (m : Int) ∧ m ≤ n ∧ Hid (Wr 79 wr wb ys f) ∧ Hid (ys ++ enc m = xs ++ enc n) ∧ Hid (Below wb w wr) ∧ Hid (KeepW w wr wb)) (fun v _ => (intOf v).toNat)
  case atStart => exact ⟨n, xs, rfl, Nat.le_refl _, H, Lib.hid rfl, Lib.hid (Below.refl _ _), Lib.hid (KeepW.refl _ _)⟩
  case round =>
    obtain ⟨m, ys, rfl, hm, HW, HE, HB, HK⟩ := hrel
    obtain ⟨A, c, hrow, hown⟩ := HW.out.row
    have hlen : ys.length ≤ 1000000000 := by
      have h1 := congrArg List.length HE.out
      rw [List.length_append, List.length_append] at h1
      have h2 := enc_six hn
      have h3 := enc_pos m
      omega
    have hwl := heapE_lt hrow
    have HR := Lib.hid hrow
    have HO := Lib.hid hown
    obtain ⟨hc0, hc1, hf0, hf1⟩ := row2 hrow
    clear hrow hown
    by_cases hge : 128 ≤ m
    · have hd : decide ((127 : Int) < (m : Int)) = true := by simp; omega
      have HU : Hid ((m : Int) % 128 + 128 = ((m % 128 + 128 : Nat) : Int)) := Lib.hid (by omega)
      have hal := heap_alloc_new wr (.cells #[.int .u8 ((m : Int) % 128 + 128)] 5)
      have HCL : Hid ((wr.alloc (.cells #[.int .u8 ((m : Int) % 128 + 128)] 5)).cell? ⟨wr.heap.size, 0, none⟩ = some (.int .u8 ((m % 128 + 128 : Nat) : Int))) := Lib.hid (by simp only [World.cell?, hal]; rw [← HU.out]; rfl)
      clear hal
      go_wp2_with (at_builtin; refine wplY_app rfl (.tmp 19) (.tmp 24) rfl (wb + 1) (.slice A ys.length c) ys.length ys rfl (HO.out.alloc _) wr.heap.size _ rfl HCL.out (by omega) (by simp; omega) ?_; intro g c2 w2 hown2 hge2 hgr2 hat2; obtain ⟨hz0, hz1, hzf0, hzf1⟩ := row2 (wr_row HR.out HO.out _ hgr2))
      have hp := Wr.push (zs := ys ++ [((m % 128 + 128 : Nat) : Int)]) HR.out HO.out _ hgr2 (by simp) hown2 hge2
      have hk := KeepW.push (c2 := c2) HR.out HO.out _ hgr2 hat2
      have HKP := Lib.hid (HK.out.trans hk)
      have HP := Lib.hid hp
      clear hk hp hown2 hgr2 hat2 hz0 hz1 hzf0 hzf1
      go_roundw
      case rel =>
        refine ⟨m / 128, _, by rw [show ((m / 128 : Nat) : Int) = (m : Int) / 128 by omega], by omega, Lib.hid HP.out.1, Lib.hid ?_, Lib.hid (HB.out.trans HP.out.2), HKP⟩
        rw [← HE.out, enc_ge hge, List.append_assoc]; rfl
      case measure => simp [intOf]; omega
    · have hd : decide ((127 : Int) < (m : Int)) = false := by simp; omega
      have hal := heap_alloc_new wr (.cells #[.int .u8 (m : Int)] 5)
      have HCL : Hid ((wr.alloc (.cells #[.int .u8 (m : Int)] 5)).cell? ⟨wr.heap.size, 0, none⟩ = some (.int .u8 (m : Int))) := Lib.hid (by simp only [World.cell?, hal]; rfl)
      clear hal
      go_wp2_with (at_builtin; refine wplY_app rfl (.tmp 34) (.tmp 37) rfl (wb + 1) (.slice A ys.length c) ys.length ys rfl (HO.out.alloc _) wr.heap.size _ rfl HCL.out (by omega) (by simp; omega) ?_; intro g c2 w2 hown2 hge2 hgr2 hat2; obtain ⟨hz0, hz1, hzf0, hzf1⟩ := row2 (wr_row HR.out HO.out _ hgr2))
      have hp := Wr.push (zs := ys ++ [(m : Int)]) HR.out HO.out _ hgr2 (by simp) hown2 hge2
      have hk := KeepW.push (c2 := c2) HR.out HO.out _ hgr2 hat2
      have HKP := Lib.hid (HK.out.trans hk)
      have HP := Lib.hid hp
      clear hk hp hown2 hgr2 hat2 hz0 hz1 hzf0 hzf1
      go_end0
      refine ⟨rfl, ?_, HB.out.trans HP.out.2, HKP.out⟩
      rw [← HE.out, enc_lt (by omega)]
      exact HP.out.1
theorem number_bad {w : World} {wb : Nat} {xs : List Int} {f : Bool} (h : Wr 108 w wb xs f) {n : Int} (hn : n < 0 ∨ 1099511627776 < n) :
    Calls Try.prog 77 #[.pointer (some ⟨wb, 0, none⟩), .int .i64 n] w fun e w' => e = .returned (.tuple #[]) ∧ Wr 108 w' wb xs true ∧ Below wb w w' ∧ KeepW w w' wb := by
  obtain ⟨A, c, hrow, hown⟩ := h.row
  have hr2 : (w.setCell ⟨wb, 1, none⟩ (.bool true)).heap[wb]? = some (.cells #[.slice A xs.length c, .bool true] 108 (0, 0)) := heap_setCell_same w wb 1 _ _ _ hrow
  have HKB : Hid (KeepW w (w.setCell ⟨wb, 1, none⟩ (.bool true)) wb) := Lib.hid ⟨fun b hb hne _ => heap_setCell_other w ⟨wb, 1, none⟩ b _ hne, fun b ho => .inl ⟨_, _, _, hrow, OwnW.of hr2 ho⟩, by simp⟩
  have HF : Hid (Wr 108 (w.setCell ⟨wb, 1, none⟩ (.bool true)) wb xs true ∧ Below wb w (w.setCell ⟨wb, 1, none⟩ (.bool true))) := Lib.hid ⟨⟨A, c, hr2, hown.other (row := some wb) ⟨rfl, rfl, rfl, by simp, fun i hi hne => Below.heap_setCell w _ _ i (fun e => hne (by rw [e]))⟩ (fun g' hg' e => by have := hown.ge g' hg'; injection e with e; omega)⟩, (Below.refl wb w).setCell (p := ⟨wb, 1, none⟩) (Nat.le_refl wb) _⟩
  obtain ⟨hc0, hc1, hf0, hf1⟩ := row2 hrow
  clear h hrow hown hr2
  by_cases h0 : n < 0
  · have d0 : decide (n < 0) = true := decide_eq_true h0
    go_enter Try.func77, Try.ntmps77
    go_wp2
    refine bodyPost_ret (results_none rfl _ _ _) rfl ?_
    exact ⟨rfl, HF.out.1, HF.out.2, HKB.out⟩
  · have d0 : decide (n < 0) = false := decide_eq_false h0
    have d1 : decide (1099511627776 < n) = true := decide_eq_true (by omega)
    go_enter Try.func77, Try.ntmps77
    go_wp2
    refine bodyPost_ret (results_none rfl _ _ _) rfl ?_
    exact ⟨rfl, HF.out.1, HF.out.2, HKB.out⟩
theorem numW_bad {w : World} {wb : Nat} {xs : List Int} {f : Bool} (h : Wr 79 w wb xs f) {n : Int} (hn : n < 0 ∨ 1099511627776 < n) :
    Calls Try.prog 53 #[.pointer (some ⟨wb, 0, none⟩), .int .i64 n] w fun e w' => e = .returned (.tuple #[]) ∧ Wr 79 w' wb xs true ∧ Below wb w w' ∧ KeepW w w' wb := by
  obtain ⟨A, c, hrow, hown⟩ := h.row
  have hr2 : (w.setCell ⟨wb, 1, none⟩ (.bool true)).heap[wb]? = some (.cells #[.slice A xs.length c, .bool true] 79 (0, 0)) := heap_setCell_same w wb 1 _ _ _ hrow
  have HKB : Hid (KeepW w (w.setCell ⟨wb, 1, none⟩ (.bool true)) wb) := Lib.hid ⟨fun b hb hne _ => heap_setCell_other w ⟨wb, 1, none⟩ b _ hne, fun b ho => .inl ⟨_, _, _, hrow, OwnW.of hr2 ho⟩, by simp⟩
  have HF : Hid (Wr 79 (w.setCell ⟨wb, 1, none⟩ (.bool true)) wb xs true ∧ Below wb w (w.setCell ⟨wb, 1, none⟩ (.bool true))) := Lib.hid ⟨⟨A, c, hr2, hown.other (row := some wb) ⟨rfl, rfl, rfl, by simp, fun i hi hne => Below.heap_setCell w _ _ i (fun e => hne (by rw [e]))⟩ (fun g' hg' e => by have := hown.ge g' hg'; injection e with e; omega)⟩, (Below.refl wb w).setCell (p := ⟨wb, 1, none⟩) (Nat.le_refl wb) _⟩
  obtain ⟨hc0, hc1, hf0, hf1⟩ := row2 hrow
  clear h hrow hown hr2
  by_cases h0 : n < 0
  · have d0 : decide (n < 0) = true := decide_eq_true h0
    go_enter Try.func53, Try.ntmps53
    go_wp2
    refine bodyPost_ret (results_none rfl _ _ _) rfl ?_
    exact ⟨rfl, HF.out.1, HF.out.2, HKB.out⟩
  · have d0 : decide (n < 0) = false := decide_eq_false h0
    have d1 : decide (1099511627776 < n) = true := decide_eq_true (by omega)
    go_enter Try.func53, Try.ntmps53
    go_wp2
    refine bodyPost_ret (results_none rfl _ _ _) rfl ?_
    exact ⟨rfl, HF.out.1, HF.out.2, HKB.out⟩
/-- What a number is written as: nothing, if it has no form. -/
def okI (n : Int) : Bool := decide (0 ≤ n ∧ n ≤ 1099511627776)
def outI (n : Int) : List Int := if okI n then enc n.toNat else []
theorem outI_len (n : Int) : (outI n).length ≤ 6 := by
  unfold outI okI
  split
  · next h => have := of_decide_eq_true h; exact enc_six (by omega)
  · simp
theorem number_any {w : World} {wb : Nat} {xs : List Int} {f : Bool} (h : Wr 108 w wb xs f) (n : Int) (hl : xs.length + 6 ≤ 1000000000) :
    Calls Try.prog 77 #[.pointer (some ⟨wb, 0, none⟩), .int .i64 n] w fun e w' => e = .returned (.tuple #[]) ∧ Wr 108 w' wb (xs ++ outI n) (f || !okI n) ∧ Below wb w w' ∧ KeepW w w' wb := by
  by_cases hok : 0 ≤ n ∧ n ≤ 1099511627776
  · have e : okI n = true := decide_eq_true hok
    have e2 : outI n = enc n.toNat := by unfold outI; rw [if_pos e]
    have e3 : ((n.toNat : Nat) : Int) = n := by omega
    have := number_ok h (n := n.toNat) (by omega) hl
    rw [e3] at this
    rw [e, e2]
    refine this.mono ?_
    rintro e w' ⟨h1, h2, h3, h4⟩
    exact ⟨h1, by simpa using h2, h3, h4⟩
  · have e : okI n = false := decide_eq_false hok
    have e2 : outI n = [] := by unfold outI; rw [if_neg (by rw [e]; simp)]
    rw [e, e2, List.append_nil]
    refine (number_bad h (n := n) (by omega)).mono ?_
    rintro e w' ⟨h1, h2, h3, h4⟩
    exact ⟨h1, by simpa using h2, h3, h4⟩
theorem numW_any {w : World} {wb : Nat} {xs : List Int} {f : Bool} (h : Wr 79 w wb xs f) (n : Int) (hl : xs.length + 6 ≤ 1000000000) :
    Calls Try.prog 53 #[.pointer (some ⟨wb, 0, none⟩), .int .i64 n] w fun e w' => e = .returned (.tuple #[]) ∧ Wr 79 w' wb (xs ++ outI n) (f || !okI n) ∧ Below wb w w' ∧ KeepW w w' wb := by
  by_cases hok : 0 ≤ n ∧ n ≤ 1099511627776
  · have e : okI n = true := decide_eq_true hok
    have e2 : outI n = enc n.toNat := by unfold outI; rw [if_pos e]
    have e3 : ((n.toNat : Nat) : Int) = n := by omega
    have := numW_ok h (n := n.toNat) (by omega) hl
    rw [e3] at this
    rw [e, e2]
    refine this.mono ?_
    rintro e w' ⟨h1, h2, h3, h4⟩
    exact ⟨h1, by simpa using h2, h3, h4⟩
  · have e : okI n = false := decide_eq_false hok
    have e2 : outI n = [] := by unfold outI; rw [if_neg (by rw [e]; simp)]
    rw [e, e2, List.append_nil]
    refine (numW_bad h (n := n) (by omega)).mono ?_
    rintro e w' ⟨h1, h2, h3, h4⟩
    exact ⟨h1, by simpa using h2, h3, h4⟩
end Go.Proofs.Ytolgmoaoheflcaa
