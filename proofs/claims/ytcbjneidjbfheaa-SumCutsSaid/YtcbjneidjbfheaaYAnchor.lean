/-
  CONTRACT of the statements' anchor (the document's examples of layer 11), over this translation.
-/
import Derived.Test.YtcbjneidjbfheaaYFrame
import Derived.Lib.SlBytesConst
namespace Go.Proofs.Ytcbjneidjbfheaa
open Go.RowKit
open ByteP
set_option linter.unusedVariables false

theorem below_drewN {B : Nat} {a w : World} (h : Below B a w) (k : Nat) : Below B a (w.drewN k) := ⟨h.os, h.tape, h.output, h.size, h.block⟩
theorem bytes_nil : Bytes [] := by intro i; simp [ix]
def nineL : List Int := [49, 50, 51, 52, 53, 54, 55, 56, 57]
def emptyFrame : List Int := [0, 0, 0, 0, 199, 75, 103, 72]
theorem nine_sum : moreN 0 nineL = 3808858755 := by decide +kernel
theorem empty_frame : frameL 0 [] = emptyFrame := by decide +kernel
theorem nine_bytes : Bytes nineL := by
  intro i
  unfold ix nineL
  match i with
  | 0 | 1 | 2 | 3 | 4 | 5 | 6 | 7 | 8 => simp
  | k + 9 => simp
def nineC : Array Value := #[.int .u8 49, .int .u8 50, .int .u8 51, .int .u8 52, .int .u8 53, .int .u8 54, .int .u8 55, .int .u8 56, .int .u8 57]
theorem rdY_nine (w : World) (fr : Nat × Nat) : RdY (w.alloc (.cells nineC 5 fr)) (w.heap.size + 1) (some ⟨w.heap.size, 0, none⟩) 9 nineL := by
  refine ⟨rfl, fun _ => ⟨w.heap.size, 0, rfl, by omega, fun j hj => ?_⟩⟩
  rw [World.cell?_alloc_mark]
  match j, hj with
  | 0, _ | 1, _ | 2, _ | 3, _ | 4, _ | 5, _ | 6, _ | 7, _ | 8, _ => rfl
theorem rdY_eight (w : World) : RdY (w.alloc (.cells #[.int .u8 0, .int .u8 0, .int .u8 0, .int .u8 0, .int .u8 199, .int .u8 75, .int .u8 103, .int .u8 72] 5)) (w.heap.size + 1) (some ⟨w.heap.size, 0, none⟩) 8 emptyFrame := by
  have h := (OwnY.lit w w.heap.size emptyFrame (Nat.le_refl _) (by simp [emptyFrame])).shape
  obtain ⟨A, c, e, hr⟩ := h
  injection e with e1 e2 e3
  subst e1
  rw [World.size_alloc] at hr
  exact hr

set_option maxRecDepth 100000 in
set_option maxHeartbeats 1600000 in
theorem anchor_any (w : World) : Calls Try.prog 7 #[] w fun e w' => e = .returned (.bool true) ∧ Below w.heap.size w w' := by
  go_enter Try.func7, Try.ntmps7
  go_wp2_with fail
  refine (frame_any (w := w) (B := w.heap.size) (A := none) (n := 0) (c := 0) (xs := []) RdY.nil_ bytes_nil (by omega) (Nat.le_refl _)).mono ?_
  rintro e w1 ⟨v1, rfl, hown1, hbel1⟩
  rw [empty_frame] at hown1
  obtain ⟨A1, c1, rfl, hr1⟩ := hown1.shape
  have HR1 := Lib.hid hr1
  have HB1 := Lib.hid hbel1
  have hs1 := hbel1.size
  clear hown1 hbel1 hr1
  have kc := fun (w : World) (C : Array Value) (n c : Nat) => Lib.run_convert_bytes_const (P := Try.prog) w 24 5 C n c Try.underlying24 Try.underlying5
  go_wp2_with fail
  clear kc
  have HN : Hid (Rd2 ((w1.alloc (.cells nineC 5 (9, 10))).alloc (.cells #[.slice (some ⟨w1.heap.size, 0, none⟩) 9 9] 24)) (w1.heap.size + 2) (some ⟨w1.heap.size + 1, 0, none⟩) 1 (fun _ => some ⟨w1.heap.size, 0, none⟩) (fun _ => 9) (fun _ => 9) (fun _ => nineL)) := Lib.hid (by
    have h := Rd2.lit1 (c0 := 9) (rdY_nine w1 (9, 10)) nine_bytes (by simp) (by omega)
    rw [World.size_alloc] at h
    exact h)
  refine (of_any HN.out (by omega)).mono ?_
  rintro e w2 ⟨rfl, rfl⟩
  have e2 : ofN (fun _ => nineL) 1 = 3808858755 := nine_sum
  rw [e2]
  have hb11 : Below w1.heap.size w1 ((w1.alloc (.cells nineC 5 (9, 10))).alloc (.cells #[.slice (some ⟨w1.heap.size, 0, none⟩) 9 9] 24)) := ((Below.refl _ w1).alloc (Nat.le_refl _) _).alloc (by simp) _
  have HB3 : Hid (Below w.heap.size w ((w1.alloc (.cells nineC 5 (9, 10))).alloc (.cells #[.slice (some ⟨w1.heap.size, 0, none⟩) 9 9] 24))) := Lib.hid (HB1.out.trans (hb11.mono hs1))
  have HR3 : Hid (RdY ((w1.alloc (.cells nineC 5 (9, 10))).alloc (.cells #[.slice (some ⟨w1.heap.size, 0, none⟩) 9 9] 24)) w1.heap.size A1 8 emptyFrame) := Lib.hid (HR1.out.below hb11)
  have hs3 := hb11.size
  clear HN hb11 e2
  generalize ((w1.alloc (.cells nineC 5 (9, 10))).alloc (.cells #[.slice (some ⟨w1.heap.size, 0, none⟩) 9 9] 24)) = w3 at HB3 HR3 hs3 ⊢
  go_wp2_with fail
  refine (sameY_any (((HR3.out.more hs3).alloc (Nat.le_refl _) _).more (Nat.le_succ _)) (rdY_eight w3) (by omega) (by omega)).mono ?_
  rintro e w4 ⟨rfl, q, rfl⟩
  rw [sameY_refl]
  have HB4 := Lib.hid (HB3.out.alloc HB3.out.size (.cells #[.int .u8 0, .int .u8 0, .int .u8 0, .int .u8 0, .int .u8 199, .int .u8 75, .int .u8 103, .int .u8 72] 5))
  go_wp2
  go_ret
  exact ⟨rfl, below_drewN HB4.out _⟩
end Go.Proofs.Ytcbjneidjbfheaa
