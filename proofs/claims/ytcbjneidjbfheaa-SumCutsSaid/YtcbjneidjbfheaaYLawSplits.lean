/-
  THE WALK of the statement SumSplits: whatever the bytes, the call returns true and writes nothing that was there.
-/
import Derived.Test.YtcbjneidjbfheaaYSplit
namespace Go.Proofs.Ytcbjneidjbfheaa
open Go.RowKit
open ByteP
set_option linter.unusedVariables false

theorem Held.at_ {w : World} {base k c j : Nat} {A : Option Addr} {PX : Nat → List Int} (h : Held w base (.slice A k c) k PX) (hj : j < k) :
    ∃ b P n d, A = some ⟨b, 0, none⟩ ∧ w.cell? ⟨b, j, none⟩ = some (.slice P n d) ∧ RdY w w.heap.size P n (PX j) ∧ n ≤ 9223372036854775807 := by
  obtain ⟨vals, ho, hv⟩ := h
  obtain ⟨P, n, d, e, hr, _, hn, _⟩ := hv j hj
  obtain ⟨g, cap, hg, _, _⟩ := World.ownsRow.form ho (by omega)
  injection hg with h1 h2 h3
  subst h1 h3
  exact ⟨g, P, n, d, rfl, by rw [ho.cellAt j (by omega)]; exact e, hr, hn⟩

set_option maxHeartbeats 3200000 in
theorem law_splits {w : World} {n c : Nat} {A : Option Addr} {xs : List Int} (hx : RdY w w.heap.size A n xs) (bx : Bytes xs) (hnc : n ≤ c) (hn : n ≤ 9223372036854775807) :
    Calls Try.prog 5 #[.slice A n c] w fun e w' => e = .returned (.bool true) ∧ Below w.heap.size w w' := by
  have HX := Lib.hid hx
  have HBX := Lib.hid bx
  clear hx bx
  by_cases h1 : 3000 < n
  · go_enter Try.func5, Try.ntmps5
    go_wp2_with (go_at_call 7; refine (anchor_any _).mono ?_; rintro e w1 ⟨rfl, hbel⟩; (have HB := Lib.hid hbel); clear hbel)
    go_ret
    exact ⟨rfl, HB.out⟩
  · go_enter Try.func5, Try.ntmps5
    go_wp2_with (go_at_call 7; refine (anchor_any _).mono ?_; rintro e w1 ⟨rfl, hbel⟩; (have HB := Lib.hid hbel); clear hbel)
    have hs1 := HB.out.size
    have HX1 := Lib.hid (HX.out.below HB.out)
    refine (split_any HX1.out HBX.out hnc (by omega) hs1).mono ?_
    rintro e w2 ⟨k, v2, hsp, rfl, held2, hbel2⟩
    obtain ⟨A2, c2, rfl⟩ := held2.shape
    have HS := Lib.hid hsp
    have HH2 := Lib.hid held2
    have HB2 : Hid (Below w.heap.size w w2) := Lib.hid (HB.out.trans (hbel2.mono hs1))
    have HX2 := Lib.hid (HX.out.below HB2.out)
    have hs2 := HB2.out.size
    clear hsp held2 hbel2
    go_wp2_with fail
    refine (refSplit_any HX2.out HBX.out hnc (by omega) hs2).mono ?_
    rintro e w3 ⟨k', v3, hsp, rfl, held3, hbel3⟩
    obtain rfl : k = k' := HS.out.uniq hsp
    obtain ⟨A3, c3, rfl⟩ := held3.shape
    have HH3 := Lib.hid held3
    have HB3 : Hid (Below w.heap.size w w3) := Lib.hid (HB2.out.trans (hbel3.mono hs2))
    have HH2' := Lib.hid (HH2.out.kept hbel3)
    have hk : k ≤ 9223372036854775807 := by
      have h1 := atN_le k HS.out.1
      have h2 := atN_ge k HS.out.1
      have h3 := HX.out.1
      omega
    have hb1 : ((atN xs k : Int) != (atN xs k : Int)) = false := by simp
    have hb2 : ((k : Int) != (k : Int)) = false := by simp
    clear hsp held3 hbel3 HH2
    go_wp2
    go_loopw [36] (fun i wr => ∃ (j q : Nat), j ≤ k ∧ i = .int .i64 (j : Int) ∧ wr = w3.drewN q) (fun i _ => k - (intOf i).toNat)
    case atStart => exact ⟨0, 0, by omega, rfl, rfl⟩
    case round =>
      obtain ⟨j, q, hj, rfl, rfl⟩ := hrel
      by_cases hlt : j < k
      · obtain ⟨b2, P2, n2, d2, rfl, hc2, hr2, hn2⟩ := HH2'.out.at_ hlt
        obtain ⟨b3, P3, n3, d3, rfl, hc3, hr3, hn3⟩ := HH3.out.at_ hlt
        have HR2 : Hid (RdY (w3.drewN q) w3.heap.size P2 n2 (pT xs j)) := Lib.hid (hr2.drewN q)
        have HR3 : Hid (RdY (w3.drewN q) w3.heap.size P3 n3 (pT xs j)) := Lib.hid (hr3.drewN q)
        clear hr2 hr3
        go_wp2_with fail
        refine (sameY_any HR2.out HR3.out hn2 hn3).mono ?_
        rintro e w4 ⟨rfl, q4, rfl⟩
        rw [sameY_refl]
        go_wp2
        go_roundw
        case rel => exact ⟨j + 1, q + q4, by omega, by go_num, rfl⟩
        case measure => simp [intOf]; omega
      · go_wp2
        go_ret
        exact ⟨rfl, below_drewN HB3.out q⟩
end Go.Proofs.Ytcbjneidjbfheaa
