/-
  Two lists of bytes, two lists of numbers: the document's comparisons, over this translation.
-/
import Derived.Test.YtmfoammkcokcoaaERefs
import Derived.RegionTactic
namespace Go.Proofs.Ytmfoammkcokcoaa
open Go.RowKit
open ByteP
set_option linter.unusedVariables false
set_option maxRecDepth 10000

def sameY (xs ys : List Int) : Bool := decide (xs = ys)
theorem sameY_len {xs ys : List Int} (h : xs.length ≠ ys.length) : sameY xs ys = false := by
  unfold sameY; rw [decide_eq_false_iff_not]; rintro rfl; exact h rfl
theorem sameY_at {xs ys : List Int} {k : Nat} (h : ix xs k ≠ ix ys k) : sameY xs ys = false := by
  unfold sameY; rw [decide_eq_false_iff_not]; rintro rfl; exact h rfl
theorem sameY_all {xs ys : List Int} (hl : xs.length = ys.length) (h : ∀ j < xs.length, ix xs j = ix ys j) : sameY xs ys = true := by
  unfold sameY; rw [decide_eq_true_eq]; exact list_ext_ix hl h
theorem sameY_refl (xs : List Int) : sameY xs xs = true := by unfold sameY; simp

set_option maxHeartbeats 800000 in
theorem sameY_any {w : World} {B n m c d : Nat} {A D : Option Addr} {xs ys : List Int} (hx : RdY w B A n xs) (hy : RdY w B D m ys) (hn : n ≤ 9223372036854775807) (hm : m ≤ 9223372036854775807) :
    Calls Try.prog 14 #[.slice A n c, .slice D m d] w fun e w' => e = .returned (.bool (sameY xs ys)) ∧ ∃ q, w' = w.drewN q := by
  have HX := Lib.hid hx
  have HY := Lib.hid hy
  have HXL := Lib.hid hx.1
  have HYL := Lib.hid hy.1
  clear hx hy
  by_cases hnm : n = m
  · obtain rfl := hnm
    have HL : Hid (xs.length = ys.length) := Lib.hid (by rw [HXL.out, HYL.out])
    go_enter Try.func14, Try.ntmps14
    go_wp2
    go_loopw [5] (fun i wr => ∃ k q : Nat, k ≤ n ∧ i = .int .i64 k ∧ wr = w.drewN q ∧ Hid (∀ j < k, ix xs j = ix ys j)) (fun i _ => n - (intOf i).toNat)
    case atStart => exact ⟨0, 0, Nat.zero_le _, rfl, rfl, Lib.hid (fun j hj => absurd hj (by omega))⟩
    case round =>
      obtain ⟨k, q, hk, rfl, rfl, HA⟩ := hrel
      by_cases hlt : k < n
      · obtain ⟨b, off, rfl, hb, hc⟩ := HX.out.at_ hlt
        obtain ⟨b2, off2, rfl, hb2, hc2⟩ := HY.out.at_ hlt
        by_cases h : ix xs k = ix ys k
        · have hb : (ix xs k != ix ys k) = false := by simp [h]
          have hb' : (ix xs k == ix ys k) = true := by simp [h]
          have H := Lib.hid h
          clear h
          go_wp2
          go_region
          go_wp2
          go_roundw
          case rel => exact ⟨k + 1, q + 1, by omega, by go_num, rfl, Lib.hid (fun j hj => by
            by_cases hjk : j < k
            · exact HA.out j hjk
            · obtain rfl : j = k := by omega
              exact H.out)⟩
          case measure => simp [intOf]; omega
        · have hb : (ix xs k != ix ys k) = true := by simp [h]
          have hb' : (ix xs k == ix ys k) = false := by simp [h]
          have E := Lib.hid (sameY_at h)
          clear h
          go_wp2
          go_region
          go_wp2
          go_ret
          exact ⟨by rw [E.out]; rfl, q + 1, rfl⟩
      · have E := Lib.hid (sameY_all HL.out (fun j hj => HA.out j (by rw [HXL.out] at hj; omega)))
        go_wp2
        go_ret
        exact ⟨by rw [E.out]; rfl, q, rfl⟩
  · have E := Lib.hid (sameY_len (xs := xs) (ys := ys) (by rw [HXL.out, HYL.out]; exact hnm))
    have hb : ((n : Int) != (m : Int)) = true := by simp; omega
    have hb' : ((n : Int) == (m : Int)) = false := by simp; omega
    go_enter Try.func14, Try.ntmps14
    go_wp2
    go_ret
    exact ⟨by rw [E.out]; rfl, 0, rfl⟩
/-- The document's Ints: two slices of the same numbers. -/
theorem ints_yes {w : World} {B1 B2 n c1 c2 : Nat} {A1 A2 : Option Addr} {xs : List Int} (h1 : Rd w B1 A1 n xs) (h2 : Rd w B2 A2 n xs) (hn : n ≤ 1099511627776) :
    Calls Try.prog 22 #[.slice A1 n c1, .slice A2 n c2] w fun e w' => e = .returned (.bool true) ∧ w = w' := by
  have H1 := Lib.hid h1
  have H2 := Lib.hid h2
  clear h1 h2
  go_enter Try.func22, Try.ntmps22
  go_wp2
  obtain ⟨wo, HWO⟩ : ∃ wo : World, Hid (wo = w) := ⟨w, Lib.hid rfl⟩
  go_loopw [14] (fun i wr => ∃ j : Nat, j ≤ n ∧ i = .int .i64 (j : Int) ∧ Hid (wo = wr)) (fun i _ => n - (intOf i).toNat)
  case atStart => exact ⟨0, by omega, rfl, HWO⟩
  case round =>
    obtain ⟨j, hj, rfl, hw⟩ := hrel
    obtain rfl : w = wr := HWO.out.symm.trans hw.out
    by_cases hjn : j < n
    · have hd : decide ((j : Int) < (n : Int)) = true := by simp; omega
      obtain ⟨b1, o1, rfl, _, hc1⟩ := H1.out.at_ hjn
      obtain ⟨b2, o2, rfl, _, hc2⟩ := H2.out.at_ hjn
      have hi : (j : Int) < (n : Int) := by omega
      have hadd : IntKind.i64.wrap ((j : Int) + 1) = ((j + 1 : Nat) : Int) := by rw [IntWalk.i64_in _ (by omega)]; omega
      go_wp2
      go_roundw
      case rel => exact ⟨j + 1, by omega, rfl, hw⟩
      case measure => simp [intOf]; omega
    · have hd : decide ((j : Int) < (n : Int)) = false := by simp; omega
      go_wp2
      go_ret
      exact ⟨rfl, rfl⟩

end Go.Proofs.Ytmfoammkcokcoaa
