/-
  CONTRACT of More of package sum, over this translation.
-/
import Derived.Test.YtadajkgiijpakaaYMem
import Derived.Laws.BitsAllLaws
import Derived.IntWalk
namespace Go.Proofs.Ytadajkgiijpakaa
open Go.RowKit
open ByteP
set_option linter.unusedVariables false

theorem ret_int {k : IntKind} {a b : Int} (h : a = b) : Ending.returned (.int k a) = .returned (.int k b) := by rw [h]

theorem step_int (p : Nat) (hp : p < 4294967296) : bits .xor .u32 ((p : Int) / 2) (bits .and .u32 (p : Int) 1 * 2197175160 % 4294967296) = ((stp p : Nat) : Int) := by
  have h1 : bits .and .u32 (p : Int) 1 = ((p % 2 : Nat) : Int) := by
    have := u32_and_nat p 1 hp (by omega)
    rw [Nat.and_one_is_mod] at this
    exact this
  have h2 : ((p % 2 : Nat) : Int) * 2197175160 % 4294967296 = (((p % 2) * 2197175160 : Nat) : Int) := by omega
  have h3 : (p : Int) / 2 = ((p / 2 : Nat) : Int) := by omega
  rw [h1, h2, h3, u32_xor_nat _ _ (by omega) (by omega)]
  rfl
theorem byte_int (q : Nat) (x : Int) (hq : q < 4294967296) (h0 : 0 ≤ x) (h1 : x ≤ 255) : bits .xor .u32 (q : Int) x = ((q ^^^ x.toNat : Nat) : Int) := by
  have := u32_xor_nat q x.toNat hq (by omega)
  rw [show ((x.toNat : Nat) : Int) = x by omega] at this
  exact this

set_option maxHeartbeats 1600000 in
theorem more_any {w : World} {B n c : Nat} {A : Option Addr} {xs : List Int} (hx : RdY w B A n xs) (hb : Bytes xs) (hn : n ≤ 9223372036854775807) (s : Nat) (hs : s < 4294967296) :
    Calls Try.prog 76 #[.int .i64 (s : Int), .slice A n c] w fun e w' => e = .returned (.int .i64 (moreN s xs)) ∧ w = w' := by
  have HX := Lib.hid hx
  have HXL := Lib.hid hx.1
  clear hx
  go_enter Try.func76, Try.ntmps76
  go_wp2
  go_loop [5, 13] (fun r i => ∃ k q : Nat, k ≤ n ∧ i = .int .i64 (k : Int) ∧ r = .int .u32 (q : Int) ∧ q < 4294967296 ∧ Hid (q = ByteP.run (s ^^^ allOnes) (xs.take k))) (fun _ i => n - (intOf i).toNat)
  case atStart => exact ⟨0, s ^^^ allOnes, by omega, rfl, congrArg (Value.int .u32) (u32_xor_nat s 4294967295 hs (by omega)), Nat.xor_lt_two_pow (n := 32) hs (by decide), Lib.hid rfl⟩
  case round =>
    obtain ⟨k, q, hk, rfl, rfl, hq, HQ⟩ := hrel
    by_cases hlt : k < n
    · obtain ⟨b, off, rfl, hbb, hc⟩ := HX.out.at_ hlt
      obtain ⟨hx0, hx1⟩ := hb k
      go_wp2
      go_loop [5, 21] (fun r i => ∃ j p : Nat, j ≤ 8 ∧ i = .int .i64 (j : Int) ∧ r = .int .u32 (p : Int) ∧ p < 4294967296 ∧ Hid (p = stps j (q ^^^ (ix xs k).toNat))) (fun _ i => 8 - (intOf i).toNat)
      case atStart => exact ⟨0, q ^^^ (ix xs k).toNat, by omega, rfl, congrArg (Value.int .u32) (byte_int q _ hq hx0 hx1), Nat.xor_lt_two_pow (n := 32) hq (by omega), Lib.hid rfl⟩
      case round =>
        obtain ⟨j, p, hj, rfl, rfl, hp, HP⟩ := hrel
        by_cases hlt2 : j < 8
        · go_wp2
          go_round
          case rel => exact ⟨j + 1, stp p, by omega, by go_num, congrArg (Value.int .u32) (step_int p hp), stp_lt hp, Lib.hid (by rw [HP.out]; rfl)⟩
          case measure => simp [intOf]; omega
        · go_wp2
          go_round
          case rel => exact ⟨k + 1, p, by omega, by go_num, rfl, hp, Lib.hid (by
            have hj8 : j = 8 := by omega
            rw [take_ix xs k (by rw [HXL.out]; exact hlt), run_snoc, ← HQ.out, HP.out, hj8]; rfl)⟩
          case measure => simp [intOf]; omega
    · have hk2 : k = n := by omega
      have HF : Hid (((q ^^^ allOnes : Nat) : Int) = moreN s xs) := Lib.hid (by
        unfold moreN
        rw [HQ.out, hk2, List.take_of_length_le (by rw [HXL.out]; exact Nat.le_refl _)])
      have HX2 : Hid (bits .xor .u32 (q : Int) 4294967295 = ((q ^^^ allOnes : Nat) : Int)) := Lib.hid (u32_xor_nat q 4294967295 hq (by omega))
      have hlt3 : q ^^^ allOnes < 4294967296 := Nat.xor_lt_two_pow (n := 32) hq (by decide)
      clear hk2
      go_wp2
      go_ret
      exact ⟨ret_int (by rw [HX2.out, ← HF.out]; unfold wrap64; omega), rfl⟩

theorem moreN_lt (s : Nat) (hs : s < 4294967296) {xs : List Int} (hb : Bytes xs) : moreN s xs < 4294967296 := by
  unfold moreN
  refine Nat.xor_lt_two_pow (n := 32) ?_ (by decide)
  have := run_lt (Nat.xor_lt_two_pow (n := 32) hs (by decide) : s ^^^ allOnes < 2 ^ 32) hb xs.length (Nat.le_refl _)
  rwa [List.take_of_length_le (Nat.le_refl _)] at this
end Go.Proofs.Ytadajkgiijpakaa
