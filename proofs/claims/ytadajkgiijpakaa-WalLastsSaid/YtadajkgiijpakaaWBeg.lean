/-
  CONTRACTS of package wal, over this translation: begin, where all goes well.
-/
import Derived.Test.YtadajkgiijpakaaWLay
import Derived.Test.YtadajkgiijpakaaWPsh
namespace Go.Proofs.Ytadajkgiijpakaa
open Go.RowKit
open ByteP
set_option linter.unusedVariables false
set_option maxRecDepth 10000
def lgNew (db : Nat) (z : Int) : LgV := ⟨db, 0, none, 0, 0, .slice none 0 0, z, false⟩
theorem lg_new {w : World} {D : Nat → Prop} {B0 lb db : Nat} {z : Int} (h : w.heap[lb]? = some (.cells (cellsL (lgNew db z)) 83 (0, 0))) (hB : B0 ≤ lb) (hD : ¬ D lb) : Lg w D B0 lb (lgNew db z) [] [] :=
  ⟨heapK_lt h, hB, hD, h, ⟨rfl, fun h => absurd h (Nat.lt_irrefl _)⟩, bytes_nil, by simp, Row.nil_ _ _ _, fun x h => by cases h⟩
section
variable {w : World} {B0 db mb K : Nat} {n : Nm} {F : Int → Option Fi}
set_option maxHeartbeats 2000000 in
theorem begin_ok (h : Dk w db mb K n F) (hK : K ≤ 999999990) (hd : n.down = false) (hl : n.left = -1) (hs0 : 0 ≤ n.size) (hc : n.cap ≤ 16777216) (hF0 : F 0 = none) (hfit : n.size + 9 ≤ n.cap) (hB0 : B0 ≤ w.heap.size) :
    Calls Try.prog 40 #[.pointer (some ⟨db, 0, none⟩)] w fun e w' => ∃ lb f', e = .returned (.tuple #[.pointer (some ⟨lb, 0, none⟩), .int .i64 0]) ∧ w.heap.size ≤ lb ∧
      f'.bs = frmP 0 [] ∧ f'.n = 9 ∧ f'.s = 9 ∧ Dk w' db mb (K + 2) { n with size := n.size + 9 } (putF F 0 f') ∧ Lg w' (Mine db mb (putF F 0 f')) B0 lb (lgNew db 9) [] [] ∧ Fr w w' (Mine db mb F) ∧ (∀ b, Mine db mb (putF F 0 f') b → Mine db mb F b ∨ w.heap.size ≤ b) := by
  obtain ⟨w1, hw1⟩ : ∃ w1, w.alloc (.cells (cellsL (lgNew db 0)) 83) = w1 := ⟨_, rfl⟩
  have hnm : ¬ Mine db mb F w.heap.size := h.notMine (Nat.le_refl _)
  have hbl : Below w.heap.size w w1 := by rw [← hw1]; exact (Below.refl _ _).alloc (Nat.le_refl _) _
  have hL1 : Lg w1 (Mine db mb F) B0 w.heap.size (lgNew db 0) [] [] := lg_new (by rw [← hw1]; exact heap_alloc_new w _) hB0 hnm
  have hD1 : Dk w1 db mb K n F := h.below hbl
  have hfa : fileAt F 0 = noFi := by unfold fileAt; rw [hF0]; rfl
  have HLY := Lib.hid (lay_ok (k := 0) (c := 0) (A := none) (m := 0) (B := w1.heap.size) (xs := []) hD1 hL1 rfl hK hd hl hs0 hc (by omega) (by omega) RdY.nil_ (Nat.le_refl _) bytes_nil (by omega) (by simpa using hfit) (by rw [hfa]; simp [noFi]))
  have HW1 := Lib.hid hw1
  have HBL := Lib.hid hbl
  have HL1 := Lib.hid hL1
  have HFA := Lib.hid hfa
  have hwe : w.alloc (.cells #[.pointer (some ⟨db, 0, none⟩), .int .i64 0, .slice none 0 0, .slice none 0 0, .int .i64 0, .bool false] 83) = w1 := hw1
  have HWE := Lib.hid hwe
  clear hw1 hbl hL1 hD1 hfa hwe h
  go_enter Try.func40, Try.ntmps40
  go_wp2_with fail
  rw [HWE.out]
  refine HLY.out.mono ?_
  rintro e w2 ⟨rfl, f', hbs, hfn, hfs, hk2, hfr2, hmi2⟩
  have H2 := Lib.hid hk2
  have HP := Lib.hid (And.intro hbs (And.intro hfn hfs))
  have HF2 := Lib.hid hfr2
  have HM2 := Lib.hid hmi2
  have HL2 := Lib.hid (HL1.out.turn hfr2 hmi2)
  clear HLY hbs hfn hfs hk2 hfr2 hmi2
  go_wp2_with (go_at_call 43; refine (framed_any (mk := 0) (w := w2) (A := none) (n := 0) (c := 0) (xs := []) (B := w2.heap.size) RdY.nil_ bytes_nil (by omega) (by omega) (by omega) (Nat.le_refl _)).mono ?_; rintro e w3 ⟨A3, c3, rfl, ho3, hb3⟩; (have HL3 := Lib.hid (HL2.out.below hb3)); (have H3 := Lib.hid (H2.out.below hb3)); (have HF3 := Lib.hid (HF2.out.then_below hb3)); clear ho3 hb3; (have y0 := HL3.out.c2); (have y1 := HL3.out.c3); (have y2 := HL3.out.c4); (have f0 := HL3.out.fz 2); (have f1 := HL3.out.fz 3); (have f2 := HL3.out.fz 4))
  go_ret2
  have HAN := Lib.hid (HL3.out.anew (A := none) (m := 0) (c := 0) (xs := []) ⟨rfl, fun h => absurd h (Nat.lt_irrefl _)⟩ bytes_nil (by simp) 9)
  refine ⟨w.heap.size, f', rfl, Nat.le_refl _, ?_, HP.out.2.1.trans (by rw [HFA.out]; rfl), HP.out.2.2.trans (HP.out.2.1.trans (by rw [HFA.out]; rfl)), H3.out.fr HAN.out.2 (fun b hb e => HL3.out.nd (e ▸ hb)), HAN.out.1, ?_, ?_⟩
  · rw [HP.out.1, HFA.out]; rfl
  · exact (Fr.of_below HBL.out).trans ((HF3.out.less (M := fun b => Mine db mb F b ∨ w.heap.size ≤ b) (fun b hb => .inl hb)).trans HAN.out.2 (fun b hb => .inl (.inr (by rw [hb]; exact Nat.le_refl _)))) (fun b hb => hb)
  · exact fun b hb => (HM2.out b hb).imp id (fun h => Nat.le_trans HBL.out.size h)
end
end Go.Proofs.Ytadajkgiijpakaa
