/-
  CONTRACT of Frame of package sum, and the document's examples, over this translation.
-/
import Derived.Test.YtadajkgiijpakaaYCat
namespace Go.Proofs.Ytadajkgiijpakaa
open Go.RowKit
open ByteP
set_option linter.unusedVariables false

def sel2 {α : Type} (a b : α) (j : Nat) : α := if j = 0 then a else b
def sel3 {α : Type} (a b c : α) (j : Nat) : α := if j = 0 then a else if j = 1 then b else c

section
variable {w w' : World} {base n c g : Nat} {v : Value} {A : Option Addr} {xs : List Int}
theorem OwnY.rd (h : OwnY w base (.slice A n c) n xs) (hb : Below w.heap.size w w') : RdY w' w.heap.size A n xs := by
  obtain ⟨A', c', e, hr⟩ := h.shape
  cases e
  exact hr.below hb
end

theorem Rd2.lit1 {w : World} {B n0 c0 : Nat} {A0 : Option Addr} {x0 : List Int} (h0 : RdY w B A0 n0 x0) (b0 : Bytes x0) (hB : B ≤ w.heap.size) (l0 : n0 ≤ 9223372036854775807) :
    Rd2 (w.alloc (.cells #[.slice A0 n0 c0] 26)) (w.heap.size + 1) (some ⟨w.heap.size, 0, none⟩) 1 (fun _ => A0) (fun _ => n0) (fun _ => c0) (fun _ => x0) := by
  refine ⟨fun _ => ⟨w.heap.size, 0, rfl, by omega, fun j hj => ?_⟩, fun j hj => ⟨(h0.alloc hB _).more (by omega), b0, l0⟩⟩
  obtain rfl : j = 0 := by omega
  simp
theorem Rd2.lit2 {w : World} {B n0 n1 c0 c1 : Nat} {A0 A1 : Option Addr} {x0 x1 : List Int} (h0 : RdY w B A0 n0 x0) (h1 : RdY w B A1 n1 x1) (b0 : Bytes x0) (b1 : Bytes x1) (hB : B ≤ w.heap.size)
    (l0 : n0 ≤ 9223372036854775807) (l1 : n1 ≤ 9223372036854775807) :
    Rd2 (w.alloc (.cells #[.slice A0 n0 c0, .slice A1 n1 c1] 26)) (w.heap.size + 1) (some ⟨w.heap.size, 0, none⟩) 2 (sel2 A0 A1) (sel2 n0 n1) (sel2 c0 c1) (sel2 x0 x1) := by
  refine ⟨fun _ => ⟨w.heap.size, 0, rfl, by omega, fun j hj => ?_⟩, fun j hj => ?_⟩
  · have : j = 0 ∨ j = 1 := by omega
    rcases this with rfl | rfl
    · simp [sel2]
    · simp [sel2]
  · have : j = 0 ∨ j = 1 := by omega
    rcases this with rfl | rfl
    · exact ⟨(h0.alloc hB _).more (by omega), b0, l0⟩
    · exact ⟨(h1.alloc hB _).more (by omega), b1, l1⟩
theorem Rd2.lit3 {w : World} {B n0 n1 n2 c0 c1 c2 : Nat} {A0 A1 A2 : Option Addr} {x0 x1 x2 : List Int} (h0 : RdY w B A0 n0 x0) (h1 : RdY w B A1 n1 x1) (h2 : RdY w B A2 n2 x2) (b0 : Bytes x0) (b1 : Bytes x1) (b2 : Bytes x2) (hB : B ≤ w.heap.size)
    (l0 : n0 ≤ 9223372036854775807) (l1 : n1 ≤ 9223372036854775807) (l2 : n2 ≤ 9223372036854775807) :
    Rd2 (w.alloc (.cells #[.slice A0 n0 c0, .slice A1 n1 c1, .slice A2 n2 c2] 26)) (w.heap.size + 1) (some ⟨w.heap.size, 0, none⟩) 3 (sel3 A0 A1 A2) (sel3 n0 n1 n2) (sel3 c0 c1 c2) (sel3 x0 x1 x2) := by
  refine ⟨fun _ => ⟨w.heap.size, 0, rfl, by omega, fun j hj => ?_⟩, fun j hj => ?_⟩
  · have : j = 0 ∨ j = 1 ∨ j = 2 := by omega
    rcases this with rfl | rfl | rfl
    · simp [sel3]
    · simp [sel3]
    · simp [sel3]
  · have : j = 0 ∨ j = 1 ∨ j = 2 := by omega
    rcases this with rfl | rfl | rfl
    · exact ⟨(h0.alloc hB _).more (by omega), b0, l0⟩
    · exact ⟨(h1.alloc hB _).more (by omega), b1, l1⟩
    · exact ⟨(h2.alloc hB _).more (by omega), b2, l2⟩

/-- The sum of two texts, one behind the other. -/
def sum2 (x y : List Int) : Nat := moreN (moreN 0 x) y
def frameL (n : Nat) (xs : List Int) : List Int := fourL n ++ xs ++ fourL (sum2 (fourL n) xs)

set_option maxHeartbeats 1600000 in
theorem frame_any {w : World} {B n c : Nat} {A : Option Addr} {xs : List Int} (hx : RdY w B A n xs) (hb : Bytes xs) (hn : n ≤ 65536) (hB : B ≤ w.heap.size) :
    Calls Try.prog 52 #[.slice A n c] w fun e w' => ∃ v, e = .returned (.tuple #[v, .int .i64 0]) ∧ OwnY w' w.heap.size v (n + 8) (frameL n xs) ∧ Below w.heap.size w w' := by
  have HX := Lib.hid hx
  clear hx
  go_enter Try.func52, Try.ntmps52
  go_wp2_with fail
  refine (four_any w n (by omega)).mono ?_
  rintro e w1 ⟨v1, rfl, hown1, hbel1⟩
  obtain ⟨A1, c1, rfl, hr1⟩ := hown1.shape
  have HR1 := Lib.hid hr1
  have HB1 := Lib.hid hbel1
  have hs1 := hbel1.size
  have HX1 : Hid (RdY w1 w1.heap.size A n xs) := Lib.hid ((HX.out.below (hbel1.mono hB)).more (by omega))
  clear hown1 hbel1 hr1
  have R2 : Hid (Rd2 (w1.alloc (.cells #[.slice A1 4 c1, .slice A n c] 26)) (w1.heap.size + 1) (some ⟨w1.heap.size, 0, none⟩) 2 (sel2 A1 A) (sel2 4 n) (sel2 c1 c) (sel2 (fourL n) xs)) := Lib.hid
    (Rd2.lit2 HR1.out HX1.out (fourL_bytes n (by omega)) hb (Nat.le_refl _) (by omega) (by omega))
  go_wp2_with fail
  refine (of_any R2.out (by omega)).mono ?_
  rintro e w2 ⟨rfl, rfl⟩
  have hs2 : sum2 (fourL n) xs < 4294967296 := moreN_lt _ (moreN_lt 0 (by omega) (fourL_bytes n (by omega))) hb
  have e2 : ofN (sel2 (fourL n) xs) 2 = sum2 (fourL n) xs := rfl
  rw [e2]
  have HL : Hid (frameL n xs = fourL n ++ xs ++ fourL (sum2 (fourL n) xs)) := Lib.hid rfl
  obtain ⟨s, hs⟩ : ∃ s, s = sum2 (fourL n) xs := ⟨_, rfl⟩
  rw [← hs] at hs2 HL ⊢
  clear hs e2 R2
  go_wp2_with fail
  refine (four_any _ s hs2).mono ?_
  rintro e w3 ⟨v3, rfl, hown3, hbel3⟩
  obtain ⟨A3, c3, rfl, hr3⟩ := hown3.shape
  have hb13 : Below w1.heap.size w1 w3 := ((Below.refl _ w1).alloc (Nat.le_refl _) _).trans (hbel3.mono (by simp))
  have HR3 := Lib.hid hr3
  have hs3 := hb13.size
  have HB3 : Hid (Below w.heap.size w w3) := Lib.hid (HB1.out.trans (hb13.mono hs1))
  have HR1' : Hid (RdY w3 w3.heap.size A1 4 (fourL n)) := Lib.hid ((HR1.out.below hb13).more hs3)
  have HX3 : Hid (RdY w3 w3.heap.size A n xs) := Lib.hid ((HX1.out.below hb13).more hs3)
  clear hown3 hbel3 hr3 hb13
  have R3 : Hid (Rd2 (w3.alloc (.cells #[.slice A1 4 c1, .slice A n c, .slice A3 4 c3] 26)) (w3.alloc (.cells #[.slice A1 4 c1, .slice A n c, .slice A3 4 c3] 26)).heap.size (some ⟨w3.heap.size, 0, none⟩) 3 (sel3 A1 A A3) (sel3 4 n 4) (sel3 c1 c c3) (sel3 (fourL n) xs (fourL s))) := Lib.hid
    (by rw [World.size_alloc]; exact Rd2.lit3 HR1'.out HX3.out HR3.out (fourL_bytes n (by omega)) hb (fourL_bytes s hs2) (Nat.le_refl _) (by omega) (by omega) (by omega))
  have hlen : lenTo (sel3 4 n 4) 3 = n + 8 := by show 0 + 4 + n + 4 = n + 8; omega
  go_wp2_with fail
  refine (concat_any R3.out (by omega) (by rw [hlen]; omega)).mono ?_
  rintro e w4 ⟨v4, rfl, hown4, hbel4⟩
  have HO4 : Hid (OwnY w4 w.heap.size v4 (n + 8) (frameL n xs)) := Lib.hid (by
    rw [hlen] at hown4
    rw [HL.out]
    have e4 : catTo (sel3 (fourL n) xs (fourL s)) 3 = fourL n ++ xs ++ fourL s := by show [] ++ fourL n ++ xs ++ fourL s = _; rw [List.nil_append]
    rw [e4] at hown4
    exact hown4.less (by simp; have := HB3.out.size; omega))
  have HB4 : Hid (Below w.heap.size w w4) := Lib.hid ((HB3.out.alloc HB3.out.size _).trans (hbel4.mono (by simp; have := HB3.out.size; omega)))
  clear hown4 hbel4 hlen
  go_wp2
  go_ret2
  exact ⟨_, rfl, HO4.out, HB4.out⟩
end Go.Proofs.Ytadajkgiijpakaa
