/-
  CONTRACTS of package wal, over this translation: framed.
-/
import Derived.Test.YtadajkgiijpakaaWPure
namespace Go.Proofs.Ytadajkgiijpakaa
open Go.RowKit
open ByteP
set_option linter.unusedVariables false
set_option maxRecDepth 10000
theorem rdY_one (w : World) (x : Int) : RdY (w.alloc (.cells #[.int .u8 x] 5)) (w.heap.size + 1) (some ⟨w.heap.size, 0, none⟩) 1 [x] := by
  obtain ⟨A, c, e, hr⟩ := (OwnY.lit w w.heap.size [x] (Nat.le_refl _) (by simp)).shape
  injection e with e1 e2 e3
  subst e1
  rw [World.size_alloc] at hr
  exact hr
theorem bytes_one {x : Int} (h0 : 0 ≤ x) (h1 : x ≤ 255) : Bytes [x] := bytes_cons h0 h1 bytes_nil
set_option maxHeartbeats 1000000 in
theorem framed_any {w : World} {B n c : Nat} {A : Option Addr} {xs : List Int} {mk : Int} (hx : RdY w B A n xs) (hb : Bytes xs) (h0 : 0 ≤ mk) (h1 : mk ≤ 255) (hn : n ≤ 65535) (hB : B ≤ w.heap.size) :
    Calls Try.prog 43 #[.int .u8 mk, .slice A n c] w fun e w' => ∃ A' c', e = .returned (.slice A' (n + 9) c') ∧ OwnY w' w.heap.size (.slice A' (n + 9) c') (n + 9) (frmP mk xs) ∧ Below w.heap.size w w' := by
  have HL : Hid (xs.length = n) := Lib.hid hx.len
  have HBO := Lib.hid (bytes_one h0 h1)
  have HBX := Lib.hid hb
  have HX1 : Hid (RdY (w.alloc (.cells #[.int .u8 mk] 5)) (w.alloc (.cells #[.int .u8 mk] 5)).heap.size A n xs) := Lib.hid ((hx.alloc hB _).more (by simp; omega))
  have HR1 : Hid (RdY (w.alloc (.cells #[.int .u8 mk] 5)) (w.alloc (.cells #[.int .u8 mk] 5)).heap.size (some ⟨w.heap.size, 0, none⟩) 1 [mk]) := Lib.hid (by rw [World.size_alloc]; exact rdY_one w mk)
  obtain ⟨w1, hw1⟩ : ∃ w1, w.alloc (.cells #[.int .u8 mk] 5) = w1 := ⟨_, rfl⟩
  have HW1 := Lib.hid hw1
  have HB1 : Hid (Below w.heap.size w w1) := Lib.hid (by rw [← hw1]; exact (Below.refl _ _).alloc (Nat.le_refl _) _)
  have hs1 : w1.heap.size = w.heap.size + 1 := by rw [← hw1]; simp
  rw [hw1] at HX1 HR1
  clear hw1 hx hb
  have R2 : Hid (Rd2 (w1.alloc (.cells #[.slice (some ⟨w.heap.size, 0, none⟩) 1 1, .slice A n c] 26)) (w1.alloc (.cells #[.slice (some ⟨w.heap.size, 0, none⟩) 1 1, .slice A n c] 26)).heap.size (some ⟨w1.heap.size, 0, none⟩) 2 (sel2 (some ⟨w.heap.size, 0, none⟩) A) (sel2 1 n) (sel2 1 c) (sel2 [mk] xs)) := Lib.hid
    (by rw [World.size_alloc]; exact Rd2.lit2 HR1.out HX1.out HBO.out HBX.out (Nat.le_refl _) (by omega) (by omega))
  rw [hs1] at R2
  have hlen : lenTo (sel2 1 n) 2 = n + 1 := by show 0 + 1 + n = n + 1; omega
  have HCAT : Hid (catTo (sel2 [mk] xs) 2 = mk :: xs) := Lib.hid (by show [] ++ [mk] ++ xs = _; simp)
  go_enter Try.func43, Try.ntmps43
  go_wp2_with fail
  rw [HW1.out]
  refine (concat_any R2.out (by omega) (by rw [hlen]; omega)).mono ?_
  rintro e w2 ⟨v2, rfl, hown2, hb2⟩
  rw [hlen, HCAT.out] at hown2
  obtain ⟨A2, c2, rfl, hr2⟩ := hown2.shape
  have HR2 := Lib.hid hr2
  have HB2 : Hid (Below w.heap.size w w2) := Lib.hid ((HB1.out.alloc (by omega) _).trans (hb2.mono (by simp; omega)))
  have hs2 := HB2.out.size
  clear hown2 hb2 hr2 hlen
  go_wp2_with fail
  refine (frame_any (w := w2) (B := w2.heap.size) (n := n + 1) (xs := mk :: xs) HR2.out (bytes_cons h0 h1 HBX.out) (by omega) (Nat.le_refl _)).mono ?_
  rintro e w3 ⟨v3, rfl, hown3, hb3⟩
  obtain ⟨A3, c3, rfl, _⟩ := hown3.shape
  have HO3 : Hid (OwnY w3 w.heap.size (.slice A3 (n + 1 + 8) c3) (n + 1 + 8) (frmP mk xs)) := Lib.hid (by
    have := hown3.less hs2
    unfold frmP
    rw [HL.out]
    exact this)
  have HB3 : Hid (Below w.heap.size w w3) := Lib.hid (HB2.out.trans (hb3.mono hs2))
  clear hown3 hb3
  go_wp2
  go_ret
  exact ⟨A3, c3, rfl, HO3.out, HB3.out⟩
end Go.Proofs.Ytadajkgiijpakaa
