/-
  THE WALK of the statement RankCompares: whatever the two choices, the call returns true and writes nothing that was there.
-/
import Derived.Test.YtocmflnieagfcacWalks5
namespace Go.Proofs.Ytocmflnieagfcac
open Go.RowKit
open RankP
set_option linter.unusedVariables false

set_option maxHeartbeats 3200000 in
theorem law_compares {w : World} {n m c d : Nat} {A D : Option Addr} {xs ys : List Int} (hx : Rd w w.heap.size A n xs) (hy : Rd w w.heap.size D m ys) (hn : n ≤ 9223372036854775807) (hm : m ≤ 9223372036854775807) :
    Calls Try.prog 8 #[.slice A n c, .slice D m d] w fun e w' => e = .returned (.bool true) ∧ Below w.heap.size w w' := by
  have HX := Lib.hid hx
  have HY := Lib.hid hy
  have HXL := Lib.hid hx.1
  have HYL := Lib.hid hy.1
  clear hx hy
  by_cases hn2 : 200 < n
  · go_enter Try.func8, Try.ntmps8
    go_wp2_with (go_at_call 18; refine (anchor_any _).mono ?_; rintro e w1 ⟨rfl, hbel⟩; (have HB := Lib.hid hbel); clear hbel)
    go_ret
    exact ⟨rfl, HB.out⟩
  · by_cases hm2 : 200 < m
    · go_enter Try.func8, Try.ntmps8
      go_wp2_with (go_at_call 18; refine (anchor_any _).mono ?_; rintro e w1 ⟨rfl, hbel⟩; (have HB := Lib.hid hbel); clear hbel)
      go_ret
      exact ⟨rfl, HB.out⟩
    · go_enter Try.func8, Try.ntmps8
      go_wp2_with (go_at_call 18; refine (anchor_any _).mono ?_; rintro e w1 ⟨rfl, hbel⟩; (have HB := Lib.hid hbel); clear hbel)
      go_loopw [5, 6] (fun v i wr => ∃ (k : Nat) (z : Int), i = .int .i64 (k : Int) ∧ v = .int .i64 z ∧ k ≤ n + 1 ∧ Hid ((z = 0 ∧ k ≤ n ∧ k ≤ m ∧ lcmp (xs.drop k) (ys.drop k) = lcmp xs ys) ∨ (z = lcmp xs ys ∧ (z = 1 ∨ z = -1))) ∧ Hid (Below w.heap.size w wr))
        (fun v i _ => if intOf v = 0 then n - (intOf i).toNat + 1 else 0)
      case atStart => exact ⟨0, 0, rfl, rfl, by omega, Lib.hid (.inl ⟨rfl, Nat.zero_le _, Nat.zero_le _, rfl⟩), HB⟩
      case round =>
        clear HB
        obtain ⟨k, z, rfl, rfl, hkn1, HZ, HB⟩ := hrel
        have HXr : Hid (Rd wr w.heap.size A n xs) := Lib.hid (HX.out.below HB.out)
        have HYr : Hid (Rd wr w.heap.size D m ys) := Lib.hid (HY.out.below HB.out)
        rcases HZ.out with ⟨rfl, hkn, hkm, hl⟩ | ⟨hz, hz1⟩
        · have HL := Lib.hid hl
          clear hl HZ
          by_cases h1 : k = n
          · by_cases h2 : k = m
            · have hb1 : ((k : Int) == (n : Int)) = true := by simp; omega
              have hb2 : ((k : Int) == (m : Int)) = true := by simp; omega
              have E1 : Hid (lcmp xs ys = 0) := Lib.hid (by rw [← HL.out]; exact lcmp_end0 xs ys k (by rw [HXL.out]; exact h1) (by rw [HYL.out]; exact h2))
              have E2 : Hid (lcmp ys xs = 0) := Lib.hid (by rw [lcmp_swap xs ys, E1.out]; rfl)
              clear h1 h2
              go_wp2_with fail
              refine (rcmp_any HXr.out HYr.out hn hm).mono ?_
              rintro e w2 ⟨rfl, rfl⟩
              rw [E1.out]
              go_wp2_with fail
              refine (rcmp_any HYr.out HXr.out hm hn).mono ?_
              rintro e w2 ⟨rfl, rfl⟩
              rw [E2.out]
              go_wp2
              go_ret
              exact ⟨rfl, HB.out⟩
            · have hb1 : ((k : Int) == (n : Int)) = true := by simp; omega
              have hb2 : ((k : Int) == (m : Int)) = false := by simp; omega
              have E1 : Hid (lcmp xs ys = -1) := Lib.hid (by rw [← HL.out]; exact lcmp_end1 xs ys k (by rw [HXL.out]; exact h1) (by rw [HYL.out]; omega))
              have HK := Lib.hid h1
              clear h1 h2
              go_wp2
              go_roundw
              case rel => exact ⟨k + 1, -1, by go_num, rfl, by omega, Lib.hid (.inr ⟨E1.out.symm, .inr rfl⟩), HB⟩
              case measure => simp [intOf]
          · by_cases h2 : k = m
            · have hb1 : ((k : Int) == (n : Int)) = false := by simp; omega
              have hb2 : ((k : Int) == (m : Int)) = true := by simp; omega
              have E1 : Hid (lcmp xs ys = 1) := Lib.hid (by rw [← HL.out]; exact lcmp_end2 xs ys k (by rw [HXL.out]; omega) (by rw [HYL.out]; exact h2))
              have hkn' : k < n := by omega
              clear h1 h2
              go_wp2
              go_roundw
              case rel => exact ⟨k + 1, 1, by go_num, rfl, by omega, Lib.hid (.inr ⟨E1.out.symm, .inl rfl⟩), HB⟩
              case measure => simp [intOf]
            · have hb1 : ((k : Int) == (n : Int)) = false := by simp; omega
              have hb2 : ((k : Int) == (m : Int)) = false := by simp; omega
              have hkn' : k < n := by omega
              have hkm' : k < m := by omega
              obtain ⟨b, off, rfl, hbb, hc1⟩ := HXr.out.at_ hkn'
              obtain ⟨b2, off2, rfl, hbb2, hc2⟩ := HYr.out.at_ hkm'
              clear h1 h2
              rcases Int.lt_trichotomy (ix xs k) (ix ys k) with h | h | h
              · have E1 : Hid (lcmp xs ys = -1) := Lib.hid (by rw [← HL.out]; exact lcmp_lt xs ys k (by rw [HXL.out]; exact hkn') (by rw [HYL.out]; exact hkm') h)
                go_wp2
                go_region
                go_wp2
                go_roundw
                case rel => exact ⟨k + 1, -1, by go_num, rfl, by omega, Lib.hid (.inr ⟨E1.out.symm, .inr rfl⟩), Lib.hid HB.out.drew⟩
                case measure => simp [intOf]
              · have E1 : Hid (lcmp (xs.drop (k + 1)) (ys.drop (k + 1)) = lcmp xs ys) := Lib.hid (by rw [← HL.out]; exact (lcmp_eq xs ys k (by rw [HXL.out]; exact hkn') (by rw [HYL.out]; exact hkm') h).symm)
                have hlt1 : ¬ ix xs k < ix ys k := by omega
                have hlt2 : ¬ ix ys k < ix xs k := by omega
                clear h
                go_wp2
                go_region
                go_wp2
                go_region
                go_wp2
                go_roundw
                case rel => exact ⟨k + 1, 0, by go_num, rfl, by omega, Lib.hid (.inl ⟨rfl, by omega, by omega, E1.out⟩), Lib.hid HB.out.drew.drew⟩
                case measure => simp [intOf]; omega
              · have E1 : Hid (lcmp xs ys = 1) := Lib.hid (by rw [← HL.out]; exact lcmp_gt xs ys k (by rw [HXL.out]; exact hkn') (by rw [HYL.out]; exact hkm') h)
                have hlt1 : ¬ ix xs k < ix ys k := by omega
                go_wp2
                go_region
                go_wp2
                go_region
                go_wp2
                go_roundw
                case rel => exact ⟨k + 1, 1, by go_num, rfl, by omega, Lib.hid (.inr ⟨E1.out.symm, .inl rfl⟩), Lib.hid HB.out.drew.drew⟩
                case measure => simp [intOf]
        · clear HZ
          have E1 := Lib.hid hz.symm
          have E2 : Hid (lcmp ys xs = -z) := Lib.hid (by rw [lcmp_swap xs ys, ← hz])
          clear hz
          rcases hz1 with rfl | rfl
          · go_wp2_with fail
            refine (rcmp_any HXr.out HYr.out hn hm).mono ?_
            rintro e w2 ⟨rfl, rfl⟩
            rw [E1.out]
            go_wp2_with fail
            refine (rcmp_any HYr.out HXr.out hm hn).mono ?_
            rintro e w2 ⟨rfl, rfl⟩
            rw [E2.out]
            go_wp2
            go_ret
            exact ⟨rfl, HB.out⟩
          · go_wp2_with fail
            refine (rcmp_any HXr.out HYr.out hn hm).mono ?_
            rintro e w2 ⟨rfl, rfl⟩
            rw [E1.out]
            go_wp2_with fail
            refine (rcmp_any HYr.out HXr.out hm hn).mono ?_
            rintro e w2 ⟨rfl, rfl⟩
            rw [E2.out]
            go_wp2
            go_ret
            exact ⟨rfl, HB.out⟩
end Go.Proofs.Ytocmflnieagfcac
