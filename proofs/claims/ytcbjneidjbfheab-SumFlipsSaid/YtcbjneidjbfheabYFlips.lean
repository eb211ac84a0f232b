/-
  THE WALK of the statement SumFlips: whatever the bytes, the place and the bits, the call returns true and writes nothing that was there.
-/
import Derived.Test.YtcbjneidjbfheabYAnchor
import Derived.Test.YtcbjneidjbfheabYFlip
import Derived.Test.YtcbjneidjbfheabYOne
import Derived.BigRegion
namespace Go.Proofs.Ytcbjneidjbfheab
open Go.RowKit
open ByteP
set_option linter.unusedVariables false

theorem ofInt_i64 (a : Nat) (ha : a < 4294967296) : (BitVec.ofInt 64 (a : Int)).toNat = a := by
  rw [BitVec.ofInt_natCast, BitVec.toNat_ofNat]; exact Nat.mod_eq_of_lt (by omega)
theorem and_one_i64 (bt k : Nat) (h : bt < 4294967296) : bits .and .i64 ((bt : Int) / 2 ^ k) 1 = ((bt / 2 ^ k % 2 : Nat) : Int) := by
  have hle : bt / 2 ^ k ≤ bt := Nat.div_le_self _ _
  have e : ((bt : Int) / 2 ^ k) = ((bt / 2 ^ k : Nat) : Int) := by simp
  rw [e]
  obtain ⟨z, hz⟩ : ∃ z, z = bt / 2 ^ k := ⟨_, rfl⟩
  rw [← hz] at hle ⊢
  show IntKind.i64.wrap ((BitVec.ofInt 64 (z : Int) &&& BitVec.ofInt 64 ((1 : Nat) : Int)).toNat : Int) = _
  rw [BitVec.toNat_and, ofInt_i64 z (by omega), ofInt_i64 1 (by omega), Nat.and_one_is_mod]
  have : z % 2 < 2 := Nat.mod_lt _ (by omega)
  simp only [IntKind.wrap, IntKind.bits, IntKind.signed]
  simp
  omega

theorem flip_u8 {y : Int} {j : Nat} (h0 : 0 ≤ y) (h1 : y ≤ 255) (hj : j < 8) : bits .xor .u8 y (2 ^ j % 256) = ((y.toNat ^^^ 2 ^ j : Nat) : Int) := by
  have hp : (2 : Nat) ^ j < 256 := Nat.pow_lt_pow_right (n := 8) (by omega) hj
  have e : ((2 : Int) ^ j % 256) = ((2 ^ j : Nat) : Int) := by
    have : ((2 ^ j : Nat) : Int) = (2 : Int) ^ j := by simp
    rw [← this]
    generalize 2 ^ j = z at hp
    omega
  rw [e]
  generalize 2 ^ j = z at hp
  rw [u8_xor y _ h0 (by omega) (by omega) (by omega), Int.toNat_natCast]

set_option maxHeartbeats 3200000 in
theorem law_flips {w : World} {n c : Nat} {A : Option Addr} {xs : List Int} (p q : Int) (hx : RdY w w.heap.size A n xs) (bx : Bytes xs) (hn : n ≤ 9223372036854775807)
    (hp : -9223372036854775808 ≤ p ∧ p ≤ 9223372036854775807) (hq : -9223372036854775808 ≤ q ∧ q ≤ 9223372036854775807) :
    Calls Try.prog 3 #[.slice A n c, .int .i64 p, .int .i64 q] w fun e w' => e = .returned (.bool true) ∧ Below w.heap.size w w' := by
  have HX := Lib.hid hx
  have HBX := Lib.hid bx
  clear hx bx
  by_cases h1 : 3000 < n
  · go_enter Try.func3, Try.ntmps3
    go_wp2_with (go_at_call 11; refine (anchor_any _).mono ?_; rintro e w1 ⟨rfl, hbel⟩; (have HB := Lib.hid hbel); clear hbel)
    go_ret
    exact ⟨rfl, HB.out⟩
  · by_cases h2 : p < 0
    · go_enter Try.func3, Try.ntmps3
      go_wp2_with (go_at_call 11; refine (anchor_any _).mono ?_; rintro e w1 ⟨rfl, hbel⟩; (have HB := Lib.hid hbel); clear hbel)
      go_ret
      exact ⟨rfl, HB.out⟩
    · by_cases h3 : 8 * (n : Int) ≤ p
      · go_enter Try.func3, Try.ntmps3
        go_wp2_with (go_at_call 11; refine (anchor_any _).mono ?_; rintro e w1 ⟨rfl, hbel⟩; (have HB := Lib.hid hbel); clear hbel)
        go_ret
        exact ⟨rfl, HB.out⟩
      · by_cases h4 : q < 1
        · go_enter Try.func3, Try.ntmps3
          go_wp2_with (go_at_call 11; refine (anchor_any _).mono ?_; rintro e w1 ⟨rfl, hbel⟩; (have HB := Lib.hid hbel); clear hbel)
          go_ret
          exact ⟨rfl, HB.out⟩
        · by_cases h5 : 4294967296 ≤ q
          · go_enter Try.func3, Try.ntmps3
            go_wp2_with (go_at_call 11; refine (anchor_any _).mono ?_; rintro e w1 ⟨rfl, hbel⟩; (have HB := Lib.hid hbel); clear hbel)
            go_ret
            exact ⟨rfl, HB.out⟩
          · obtain ⟨at_, rfl⟩ := Int.eq_ofNat_of_zero_le (show 0 ≤ p by omega)
            obtain ⟨bt, rfl⟩ := Int.eq_ofNat_of_zero_le (show 0 ≤ q by omega)
            have hat : at_ < 8 * n := by omega
            have hb1 : 1 ≤ bt := by omega
            have hb2 : bt < 4294967296 := by omega
            clear h2 h3 h4 h5 hp hq
            go_enter Try.func3, Try.ntmps3
            go_wp2_with (first
              | (go_at_call 11; refine (anchor_any _).mono ?_; rintro e w1 ⟨rfl, hbel⟩; (have HB := Lib.hid hbel); (have hs1 : w.heap.size ≤ w1.heap.size := hbel.size); clear hbel)
              | (at_builtin; refine wplY_apps rfl _ _ rfl w1.heap.size _ 0 _ rfl (OwnY.empty w1 w1.heap.size (Nat.le_refl _)) w.heap.size A n c xs rfl (((HX.out.below HB.out).alloc hs1 _)) (by omega) (by simp) ?_; intro v2 w2 hown2 hg2 hat2))
            rw [Nat.zero_add, List.nil_append] at hown2
            obtain ⟨g, d, rfl, hgw, hgl⟩ := hown2.form (by omega)
            have HO := Lib.hid hown2
            have HB2 : Hid (Below w.heap.size w w2) := Lib.hid ((HB.out.alloc hs1 _).grown hg2 (by simp; omega) (by rintro g' e; cases e; exact hs1))
            clear hown2 hg2 hat2 HB
            have hgw2 : w.heap.size ≤ g := by omega
            clear hgw hs1 hgl
            go_wp2
            go_loopw [8] (fun i wr => ∃ (k : Nat) (ys : List Int), k ≤ 32 ∧ i = .int .i64 k ∧ Hid (FlipTo xs ys at_ bt k) ∧ Hid (OwnY wr w1.heap.size (.slice (some ⟨g, 0, none⟩) n d) n ys) ∧ Hid (Below w.heap.size w wr))
              (fun i _ => (32 - intOf i).toNat)
            case atStart => exact ⟨0, _, by omega, rfl, Lib.hid (FlipTo.start HBX.out _ _), HO, HB2⟩
            case round =>
              clear HO HB2
              obtain ⟨k, ys, hk, rfl, HF, HO, HB⟩ := hrel
              by_cases hlt : k < 32
              · by_cases hbit : bt / 2 ^ k % 2 = 1
                · have hbv : (bits .and .i64 ((bt : Int) / 2 ^ k) 1 == 1) = true := by rw [and_one_i64 bt k hb2, hbit]; rfl
                  by_cases hlen : 8 * n ≤ at_ + k
                  · go_wp2
                    go_ret
                    exact ⟨rfl, HB.out⟩
                  · obtain ⟨i, j, hij, hj⟩ : ∃ i j : Nat, at_ + k = 8 * i + j ∧ j < 8 := ⟨(at_ + k) / 8, (at_ + k) % 8, by omega, by omega⟩
                    have hin : i < n := by omega
                    have c1 := HO.out.cell hin
                    have f1 := HO.out.free i
                    have hq1 : ((at_ : Int) + k) / 8 = (i : Int) := by omega
                    have hq2 : ((at_ : Int) + k) % 8 = (j : Int) := by omega
                    have HS := Lib.hid ((HO.out.store i (bits .xor .u8 (ix ys i) (2 ^ j % 256))).drew)
                    have HV : Hid (bits .xor .u8 (ix ys i) (2 ^ j % 256) = (((ix ys i).toNat ^^^ 2 ^ j : Nat) : Int)) := Lib.hid (flip_u8 (HF.out.2.1 i).1 (HF.out.2.1 i).2 hj)
                    have HL : Hid (i < xs.length) := Lib.hid (by rw [HX.out.1]; exact hin)
                    go_wp2
                    go_region
                    go_wp2
                    go_roundw
                    case rel => exact ⟨k + 1, _, by omega, by go_num, Lib.hid (by rw [HV.out]; exact HF.out.flip (by omega) hij hj HL.out), HS, Lib.hid (HB.out.setCell hgw2 _).drew⟩
                    case measure => simp [intOf]; omega
                · have hbv : (bits .and .i64 ((bt : Int) / 2 ^ k) 1 == 1) = false := by
                    rw [and_one_i64 bt k hb2, show bt / 2 ^ k % 2 = 0 by omega]; rfl
                  go_wp2
                  go_roundw
                  case rel => exact ⟨k + 1, ys, by omega, by go_num, Lib.hid (HF.out.skip hbit), HO, HB⟩
                  case measure => simp [intOf]; omega
              · have hk32 : k = 32 := by omega
                have HF2 : Hid (moreN 0 xs ≠ moreN 0 ys) := Lib.hid (FlipTo.done (by rw [← hk32]; exact HF.out) hb1 hb2)
                have hsr := HB.out.size
                have HX3 := Lib.hid (HX.out.below HB.out)
                have HR := Lib.hid (OwnY.rd HO.out (Below.refl _ _))
                have HBY0 : Hid (Bytes ys) := Lib.hid HF.out.2.1
                have hne : ((moreN 0 xs : Int) != (moreN 0 ys : Int)) = true := by
                  have := HF2.out
                  simp; omega
                go_wp2_with fail
                refine (of_one HX3.out HBX.out hsr hn).mono ?_
                rintro e w3 ⟨rfl, rfl⟩
                have HB3 := Lib.hid (HB.out.alloc hsr (.cells #[.slice A n c] 22))
                have HR3 := Lib.hid (HR.out.alloc (Nat.le_refl _) (.cells #[.slice A n c] 22))
                have hs3 : wr.heap.size ≤ (wr.alloc (.cells #[.slice A n c] 22)).heap.size := by simp
                generalize (wr.alloc (.cells #[.slice A n c] 22)) = w3 at HB3 HR3 hs3 ⊢
                go_wp2_with fail
                refine (of_one HR3.out HBY0.out hs3 hn).mono ?_
                rintro e w4 ⟨rfl, rfl⟩
                have HB4 := Lib.hid (HB3.out.alloc HB3.out.size (.cells #[.slice (some ⟨g, 0, none⟩) n d] 22))
                go_wp2
                go_ret
                exact ⟨rfl, HB4.out⟩
end Go.Proofs.Ytcbjneidjbfheab
