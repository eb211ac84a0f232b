/-
  CONTRACTS: the statements' own helpers (the document's examples, limits), slices.Clone and Next, over this translation.
-/
import Derived.Test.YtocmflnieagfcacWalks4
namespace Go.Proofs.Ytocmflnieagfcac
open Go.RowKit
open RankP
set_option linter.unusedVariables false

theorem Own.rd {w w' : World} {base n c : Nat} {A : Option Addr} {xs : List Int} (h : Own w base (.slice A n c) n xs) (hb : Below w.heap.size w w') : Rd w' w.heap.size A n xs := by
  obtain ⟨A', c', e, hr⟩ := h.shape
  cases e
  exact hr.below hb

theorem Rd.lit (w : World) (xs : List Int) (hl : xs.length ≤ 1099511627776) :
    Rd (w.alloc (.cells (xs.map (Value.int .i64)).toArray 3)) (w.heap.size + 1) (some ⟨w.heap.size, 0, none⟩) xs.length xs := by
  have h := ((Own.lit w w.heap.size xs (Nat.le_refl _) hl).rd (Below.refl _ _))
  rw [World.size_alloc] at h
  exact h

set_option maxHeartbeats 800000 in
theorem anchor_any (w : World) : Calls Try.prog 18 #[] w fun e w' => e = .returned (.bool true) ∧ Below w.heap.size w w' := by
  have l1 : limB [2, 3] = true := by decide
  have l2 : (4 : Int) < cnt [2, 3] := by decide
  have L3 : Hid (nthL [2, 3] 4 = [1, 1]) := Lib.hid (by decide)
  have L4 : Hid (orderL 3 5 2 = [2, 3, 1, 4, 0]) := Lib.hid (by decide)
  go_enter Try.func18, Try.ntmps18
  go_wp2_with fail
  refine (order_yes w 3 5 2 (by omega) (by omega) (by omega) (by omega)).mono ?_
  rintro e w1 ⟨v1, rfl, hown1, hbel1⟩
  obtain ⟨A1, c1, rfl, hr1⟩ := hown1.shape
  have HO1 : Hid (Own w1 w.heap.size (.slice A1 5 c1) 5 [2, 3, 1, 4, 0]) := Lib.hid (by rw [← L4.out]; exact hown1)
  have HB1 := Lib.hid hbel1
  have hs1 := hbel1.size
  clear hown1 hbel1 hr1
  go_wp2_with fail
  have R0 : Hid (Rd (w1.alloc (.cells #[.int .i64 2, .int .i64 3] 3)) (w1.heap.size + 1) (some ⟨w1.heap.size, 0, none⟩) 2 [2, 3]) := Lib.hid (Rd.lit w1 [2, 3] (by simp))
  refine (nth_yes R0.out (by omega) l1 (by omega) l2 (by simp)).mono ?_
  rintro e w2 ⟨v2, rfl, hown2, hbel2⟩
  obtain ⟨A2, c2, rfl, hr2⟩ := hown2.shape
  simp only [World.size_alloc] at hown2 hbel2
  have HO2 : Hid (Own w2 (w1.heap.size + 1) (.slice A2 2 c2) 2 [1, 1]) := Lib.hid (by rw [← L3.out]; exact hown2)
  have hs2 := hbel2.size
  simp only [World.size_alloc] at hs2
  have HB2 : Hid (Below w1.heap.size w1 w2) := Lib.hid (((Below.refl _ w1).alloc (Nat.le_refl _) _).trans (hbel2.mono (by omega)))
  have R1 : Hid (Rd (w2.alloc (.cells #[.int .i64 2, .int .i64 3, .int .i64 1, .int .i64 4, .int .i64 0] 3)) (w2.heap.size + 1) A1 5 [2, 3, 1, 4, 0]) := Lib.hid ((HO1.out.rd (HB2.out.alloc (by omega) _)).more (by omega))
  have R2 : Hid (Rd (w2.alloc (.cells #[.int .i64 2, .int .i64 3, .int .i64 1, .int .i64 4, .int .i64 0] 3)) (w2.heap.size + 1) (some ⟨w2.heap.size, 0, none⟩) 5 [2, 3, 1, 4, 0]) := Lib.hid (Rd.lit w2 [2, 3, 1, 4, 0] (by simp))
  have R3 : Hid (Rd ((w2.alloc (.cells #[.int .i64 2, .int .i64 3, .int .i64 1, .int .i64 4, .int .i64 0] 3)).alloc (.cells #[.int .i64 1, .int .i64 1] 3)) (w2.heap.size + 2) A2 2 [1, 1]) := Lib.hid ((HO2.out.rd (((Below.refl _ w2).alloc (Nat.le_refl _) _).alloc (by simp) _)).more (by omega))
  have R4 : Hid (Rd ((w2.alloc (.cells #[.int .i64 2, .int .i64 3, .int .i64 1, .int .i64 4, .int .i64 0] 3)).alloc (.cells #[.int .i64 1, .int .i64 1] 3)) (w2.heap.size + 2) (some ⟨w2.heap.size + 1, 0, none⟩) 2 [1, 1]) := Lib.hid (by
    have h := Rd.lit (w2.alloc (.cells #[.int .i64 2, .int .i64 3, .int .i64 1, .int .i64 4, .int .i64 0] 3)) [1, 1] (by simp)
    rw [World.size_alloc] at h
    exact h)
  have HBF : Hid (Below w.heap.size w ((w2.alloc (.cells #[.int .i64 2, .int .i64 3, .int .i64 1, .int .i64 4, .int .i64 0] 3)).alloc (.cells #[.int .i64 1, .int .i64 1] 3))) := Lib.hid (((HB1.out.trans (HB2.out.mono hs1)).alloc (by omega) _).alloc (by simp; omega) _)
  clear hown2 hbel2 hr2
  go_wp2_with fail
  refine (same_any R1.out R2.out (by omega) (by omega)).mono ?_
  rintro e w3 ⟨rfl, rfl⟩
  rw [sameB_refl]
  go_wp2_with fail
  refine (same_any R3.out R4.out (by omega) (by omega)).mono ?_
  rintro e w4 ⟨rfl, rfl⟩
  rw [sameB_refl]
  go_wp2
  go_ret
  exact ⟨rfl, HBF.out⟩

end Go.Proofs.Ytocmflnieagfcac
