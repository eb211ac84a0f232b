/-
  THE WALK of the statement SumOpens: whatever the bytes and the payload, the call returns true and writes nothing that was there.
-/
import Derived.Test.YtcbjneidjbfheaaYOpens
namespace Go.Proofs.Ytcbjneidjbfheaa
open Go.RowKit
open ByteP
set_option linter.unusedVariables false

theorem OwnY.cap_le {w : World} {base n c : Nat} {A : Option Addr} {xs : List Int} (h : OwnY w base (.slice A n c) n xs) : n ≤ c := by
  rcases h.2 with ⟨hv, rfl⟩ | ⟨g, cap, cur, hv, _, _, hnc, _⟩
  · omega
  · injection hv with h1 h2 h3
    subst h3
    exact hnc

theorem OwnY.shape3 {w : World} {base n : Nat} {v : Value} {xs : List Int} (h : OwnY w base v n xs) : ∃ A c, v = .slice A n c ∧ RdY w w.heap.size A n xs ∧ n ≤ c := by
  obtain ⟨A, c, rfl, hr⟩ := h.shape
  exact ⟨A, c, rfl, hr, h.cap_le⟩

set_option maxHeartbeats 3200000 in
theorem law_opens {w : World} {n m c d : Nat} {A D : Option Addr} {xs ys : List Int} (hx : RdY w w.heap.size A n xs) (hy : RdY w w.heap.size D m ys) (bx : Bytes xs) (by_ : Bytes ys)
    (hnc : n ≤ c) (hn : n ≤ 9223372036854775807) (hm : m ≤ 9223372036854775807) :
    Calls Try.prog 4 #[.slice A n c, .slice D m d] w fun e w' => e = .returned (.bool true) ∧ Below w.heap.size w w' := by
  have HX := Lib.hid hx
  have HY := Lib.hid hy
  have HBX := Lib.hid bx
  have HBY := Lib.hid by_
  clear hx hy bx by_
  by_cases h1 : 3000 < n
  · go_enter Try.func4, Try.ntmps4
    go_wp2_with (go_at_call 7; refine (anchor_any _).mono ?_; rintro e w1 ⟨rfl, hbel⟩; (have HB := Lib.hid hbel); clear hbel)
    go_ret
    exact ⟨rfl, HB.out⟩
  · by_cases h2 : 3000 < m
    · go_enter Try.func4, Try.ntmps4
      go_wp2_with (go_at_call 7; refine (anchor_any _).mono ?_; rintro e w1 ⟨rfl, hbel⟩; (have HB := Lib.hid hbel); clear hbel)
      go_ret
      exact ⟨rfl, HB.out⟩
    · go_enter Try.func4, Try.ntmps4
      go_wp2_with (go_at_call 7; refine (anchor_any _).mono ?_; rintro e w1 ⟨rfl, hbel⟩; (have HB := Lib.hid hbel); clear hbel)
      have hs1 := HB.out.size
      have HX1 := Lib.hid (HX.out.below HB.out)
      refine (open_any HX1.out HBX.out hnc (by omega) hs1).mono ?_
      rintro e w2 ⟨v2, rfl, hown2, hbel2⟩
      obtain ⟨A2, c2, rfl, hr2⟩ := hown2.shape
      have HB2 : Hid (Below w.heap.size w w2) := Lib.hid (HB.out.trans (hbel2.mono hs1))
      have HR2 := Lib.hid hr2
      have hs2 := HB2.out.size
      have HX2 := Lib.hid (HX.out.below HB2.out)
      clear hown2 hr2 hbel2
      go_wp2_with fail
      refine (refOpen_any HX2.out HBX.out hnc (by omega) hs2).mono ?_
      rintro e w3 ⟨A3, c3, rfl, hr3, hbel3⟩
      have HB3 : Hid (Below w.heap.size w w3) := Lib.hid (HB2.out.trans (hbel3.mono hs2))
      have HR3 := Lib.hid hr3
      have hs3 := HB3.out.size
      have HR2' : Hid (RdY w3 w3.heap.size A2 (payT xs).length (payT xs)) := Lib.hid ((HR2.out.below hbel3).more hbel3.size)
      have HY3 := Lib.hid (HY.out.below HB3.out)
      clear hr3 hbel3 HR2
      go_wp2_with fail
      refine (frame_any HY3.out HBY.out (by omega) hs3).mono ?_
      rintro e w4 ⟨v4, rfl, hown4, hbel4⟩
      obtain ⟨A4, c4, rfl, hr4⟩ := hown4.shape
      have HB4 : Hid (Below w.heap.size w w4) := Lib.hid (HB3.out.trans (hbel4.mono hs3))
      have HR4 := Lib.hid hr4
      have hs4 := HB4.out.size
      have HR2'' : Hid (RdY w4 w3.heap.size A2 (payT xs).length (payT xs)) := Lib.hid (HR2'.out.below hbel4)
      have HR3' : Hid (RdY w4 w.heap.size A3 (payT xs).length (payT xs)) := Lib.hid (HR3.out.below (hbel4.mono hs3))
      have HX4 := Lib.hid (HX.out.below HB4.out)
      have hs34 := hbel4.size
      clear hown4 hr4 hbel4 HR2' HR3
      go_wp2_with fail
      refine (refJoin_any HR4.out (HX4.out.more hs4) (Nat.le_refl _) (by omega)).mono ?_
      rintro e w5 ⟨v5, rfl, hown5, hbel5⟩
      obtain ⟨A5, c5, rfl, hr5, hc5⟩ := hown5.shape3
      have HB5 : Hid (Below w.heap.size w w5) := Lib.hid (HB4.out.trans (hbel5.mono hs4))
      have HR5 := Lib.hid hr5
      have HR4' : Hid (RdY w5 w4.heap.size A4 (m + 8) (frameL m ys)) := Lib.hid (HR4.out.below hbel5)
      have HR2' : Hid (RdY w5 w3.heap.size A2 (payT xs).length (payT xs)) := Lib.hid (HR2''.out.below (hbel5.mono hs34))
      have HR3 : Hid (RdY w5 w.heap.size A3 (payT xs).length (payT xs)) := Lib.hid (HR3'.out.below (hbel5.mono hs4))
      have hs45 := hbel5.size
      have hs5 := HB5.out.size
      clear hown5 hr5 hbel5 HR4 HR2'' HR3'
      have HFB : Hid (Bytes (frameL m ys ++ xs)) := Lib.hid (bytes_append (frameL_bytes (by omega) HBY.out) HBX.out)
      go_wp2_with fail
      refine (open_any HR5.out HFB.out hc5 (by omega) (Nat.le_refl _)).mono ?_
      rintro e w6 ⟨v6, he6, hown6, hbel6⟩
      have hfo := frame_opens (xs := ys) (ys := xs) HBY.out (by rw [HY.out.1]; omega)
      rw [HY.out.1] at hfo
      have hT : payT (frameL m ys ++ xs) = ys := by rw [payT_yes hfo.2.2, hfo.2.1]
      have hZ : sizeN (frameL m ys ++ xs) = m + 8 := by rw [sizeN_yes hfo.2.2, hfo.1]
      unfold OpenSays at he6
      rw [hZ, hfo.2.2] at he6
      subst he6
      rw [hT, HY.out.1] at hown6
      obtain ⟨A6, c6, rfl, hr6⟩ := hown6.shape
      have HB6 : Hid (Below w.heap.size w w6) := Lib.hid (HB5.out.trans (hbel6.mono hs5))
      have HR6 := Lib.hid hr6
      have HR4 : Hid (RdY w6 w6.heap.size A4 (m + 8) (frameL m ys)) := Lib.hid ((HR4'.out.below (hbel6.mono hs45)).more (Nat.le_trans hs45 hbel6.size))
      have HR2 : Hid (RdY w6 w6.heap.size A2 (payT xs).length (payT xs)) := Lib.hid ((HR2'.out.below (hbel6.mono (Nat.le_trans hs34 hs45))).more (Nat.le_trans (Nat.le_trans hs34 hs45) hbel6.size))
      have HR3' : Hid (RdY w6 w6.heap.size A3 (payT xs).length (payT xs)) := Lib.hid ((HR3.out.below (hbel6.mono hs5)).more (Nat.le_trans hs5 hbel6.size))
      have hs6 := HB6.out.size
      have HY6 : Hid (RdY w6 w6.heap.size D m ys) := Lib.hid ((HY.out.below HB6.out).more hs6)
      have hTl : (payT xs).length ≤ 9223372036854775807 := by have h1 := payT_length_le xs; rw [HX.out.1] at h1; omega
      clear hfo hT hZ hown6 hr6 hbel6 HR4' HR2' HR3
      have hb1 : ((sizeN xs : Int) == (sizeN xs : Int)) = true := by simp
      have hb2 : ((openN xs : Int) == (openN xs : Int)) = true := by simp
      have hb3 : (((m + 8 : Nat) : Int) == ((m + 8 : Nat) : Int)) = true := by simp
      go_wp2_with fail
      refine (sameY_any HR2.out HR3'.out hTl hTl).mono ?_
      rintro e w7 ⟨rfl, q7, rfl⟩
      rw [sameY_refl]
      have HB7 : Hid (Below w.heap.size w (w6.drewN q7)) := Lib.hid (below_drewN HB6.out q7)
      have HR4b : Hid (RdY (w6.drewN q7) w6.heap.size A4 (m + 8) (frameL m ys)) := Lib.hid (HR4.out.drewN q7)
      have HR6b : Hid (RdY (w6.drewN q7) w6.heap.size A6 m ys) := Lib.hid (HR6.out.drewN q7)
      have HY7 : Hid (RdY (w6.drewN q7) w6.heap.size D m ys) := Lib.hid (HY6.out.drewN q7)
      have hs7 : w6.heap.size ≤ (w6.drewN q7).heap.size := Nat.le_refl _
      obtain ⟨w7, hw7⟩ : ∃ w7, w7 = w6.drewN q7 := ⟨_, rfl⟩
      rw [← hw7] at HB7 HR4b HR6b HY7 hs7 ⊢
      clear hw7 HR4 HR6 HY6 HR2 HR3'
      go_wp2_with fail
      refine (refFrame_any HY7.out HBY.out (by omega) hs7).mono ?_
      rintro e w8 ⟨v8, rfl, hown8, hbel8⟩
      obtain ⟨A8, c8, rfl, hr8⟩ := hown8.shape
      have HR8 := Lib.hid hr8
      have HB8 : Hid (Below w.heap.size w w8) := Lib.hid (HB7.out.trans (hbel8.mono (Nat.le_trans hs6 hs7)))
      have hs8 : w6.heap.size ≤ w8.heap.size := Nat.le_trans hs7 hbel8.size
      have HR4 : Hid (RdY w8 w8.heap.size A4 (m + 8) (frameL m ys)) := Lib.hid ((HR4b.out.below (hbel8.mono hs7)).more hs8)
      have HR6 : Hid (RdY w8 w8.heap.size A6 m ys) := Lib.hid ((HR6b.out.below (hbel8.mono hs7)).more hs8)
      have HY8 : Hid (RdY w8 w8.heap.size D m ys) := Lib.hid ((HY7.out.below (hbel8.mono hs7)).more hs8)
      clear hown8 hr8 hbel8 HR4b HR6b HY7
      go_wp2_with fail
      refine (sameY_any HR4.out HR8.out (by omega) (by omega)).mono ?_
      rintro e w9 ⟨rfl, q9, rfl⟩
      rw [sameY_refl]
      have HR6c : Hid (RdY (w8.drewN q9) w8.heap.size A6 m ys) := Lib.hid (HR6.out.drewN q9)
      have HY9 : Hid (RdY (w8.drewN q9) w8.heap.size D m ys) := Lib.hid (HY8.out.drewN q9)
      go_wp2_with fail
      refine (sameY_any HR6c.out HY9.out hm hm).mono ?_
      rintro e w10 ⟨rfl, q10, rfl⟩
      rw [sameY_refl]
      go_wp2
      go_ret
      exact ⟨rfl, below_drewN HB8.out _⟩
end Go.Proofs.Ytcbjneidjbfheaa
