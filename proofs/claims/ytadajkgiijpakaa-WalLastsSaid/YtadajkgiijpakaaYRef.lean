/-
  CONTRACTS of the document's own answer for layer 11 (Of, Join, Four, Number, Frame) and of number of package sum, over this translation.
-/
import Derived.Test.YtadajkgiijpakaaYAnchor
import Derived.BigRegion
namespace Go.Proofs.Ytadajkgiijpakaa
open Go.RowKit
open ByteP
set_option linter.unusedVariables false

theorem wrap_i64s {n : Int} (h0 : 0 ≤ n) (h1 : n ≤ 9223372036854775807) : IntKind.i64.wrap n = n := by
  simp only [IntKind.wrap, IntKind.bits, IntKind.signed]
  simp
  omega
theorem ofInt_i64n (a : Nat) (ha : a < 4294967296) : (BitVec.ofInt 64 (a : Int)).toNat = a := by
  rw [BitVec.ofInt_natCast, BitVec.toNat_ofNat]; exact Nat.mod_eq_of_lt (by omega)
theorem xor_i64n (x y : Nat) (hx : x < 4294967296) (hy : y < 4294967296) : bits .xor .i64 (x : Int) (y : Int) = ((x ^^^ y : Nat) : Int) := by
  have hl : x ^^^ y < 2 ^ 32 := Nat.xor_lt_two_pow (by omega) (by omega)
  show IntKind.i64.wrap ((BitVec.ofInt 64 (x : Int) ^^^ BitVec.ofInt 64 (y : Int)).toNat : Int) = _
  rw [BitVec.toNat_xor, ofInt_i64n x hx, ofInt_i64n y hy]
  exact wrap_i64s (by omega) (by omega)
theorem or_i64n (x y : Nat) (hx : x < 4294967296) (hy : y < 4294967296) : bits .or .i64 (x : Int) (y : Int) = ((x ||| y : Nat) : Int) := by
  have hl : x ||| y < 2 ^ 32 := Nat.or_lt_two_pow (by omega) (by omega)
  show IntKind.i64.wrap ((BitVec.ofInt 64 (x : Int) ||| BitVec.ofInt 64 (y : Int)).toNat : Int) = _
  rw [BitVec.toNat_or, ofInt_i64n x hx, ofInt_i64n y hy]
  exact wrap_i64s (by omega) (by omega)
theorem or_add_i64 (x y : Int) (i : Nat) (h0 : 0 ≤ x) (h1 : x < 2 ^ i) (h2 : 0 ≤ y) (h3 : y * 2 ^ i < 4294967296) (h4 : (2 : Int) ^ i ≤ 4294967296) : bits .or .i64 x (y * 2 ^ i) = x + y * 2 ^ i := by
  obtain ⟨X, rfl⟩ := Int.eq_ofNat_of_zero_le h0
  obtain ⟨Y, rfl⟩ := Int.eq_ofNat_of_zero_le h2
  have e : ((Y : Int) * (2 : Int) ^ i) = ((2 ^ i * Y : Nat) : Int) := by simp [Int.mul_comm]
  have e2 : ((2 : Int) ^ i) = ((2 ^ i : Nat) : Int) := by simp
  rw [e] at h3 ⊢
  rw [e2] at h1 h4
  have hX : X < 2 ^ i := by omega
  rw [or_i64n X _ (by omega) (by omega), Nat.or_comm, ← Nat.two_pow_add_eq_or_of_lt hX]
  omega
theorem or4 (x0 x1 x2 x3 : Int) (b0 : 0 ≤ x0 ∧ x0 ≤ 255) (b1 : 0 ≤ x1 ∧ x1 ≤ 255) (b2 : 0 ≤ x2 ∧ x2 ≤ 255) (b3 : 0 ≤ x3 ∧ x3 ≤ 255) :
    bits .or .i64 (bits .or .i64 (bits .or .i64 x0 (x1 * 256)) (x2 * 65536)) (x3 * 16777216) = x0 + 256 * x1 + 65536 * x2 + 16777216 * x3 := by
  have e1 := or_add_i64 x0 x1 8 (by omega) (by omega) (by omega) (by omega) (by omega)
  have e2 := or_add_i64 (x0 + x1 * 256) x2 16 (by omega) (by omega) (by omega) (by omega) (by omega)
  have e3 := or_add_i64 (x0 + x1 * 256 + x2 * 65536) x3 24 (by omega) (by omega) (by omega) (by omega) (by omega)
  have p1 : (2 : Int) ^ 8 = 256 := by decide
  have p2 : (2 : Int) ^ 16 = 65536 := by decide
  have p3 : (2 : Int) ^ 24 = 16777216 := by decide
  rw [p1] at e1
  rw [p2] at e2
  rw [p3] at e3
  rw [e1, e2, e3]
  omega

theorem bytes_append {xs ys : List Int} (hx : Bytes xs) (hy : Bytes ys) : Bytes (xs ++ ys) := by
  intro i
  by_cases hi : i < xs.length
  · have e : ix (xs ++ ys) i = ix xs i := ix_append_lt hi
    rw [e]; exact hx i
  · have e : ix (xs ++ ys) i = ix ys (i - xs.length) := by
      unfold ix; simp only [List.getD]; rw [List.getElem?_append_right (by omega)]
    rw [e]; exact hy _

/-- What four bytes say. -/
def numL (xs : List Int) : Int := ix xs 0 + 256 * ix xs 1 + 65536 * ix xs 2 + 16777216 * ix xs 3
theorem numL_bd {xs : List Int} (h : Bytes xs) : 0 ≤ numL xs ∧ numL xs < 4294967296 := by
  have h0 := h 0
  have h1 := h 1
  have h2 := h 2
  have h3 := h 3
  unfold numL
  omega

set_option maxHeartbeats 800000 in
theorem number_any {w : World} {B n c : Nat} {A : Option Addr} {xs : List Int} (hx : RdY w B A n xs) (hb : Bytes xs) (hn4 : 4 ≤ n) (hn : n ≤ 9223372036854775807) :
    Calls Try.prog 83 #[.slice A n c] w fun e w' => e = .returned (.int .i64 (numL xs)) ∧ w' = w.drew := by
  obtain ⟨b, off, rfl, _, hc⟩ := hx.2 (by omega)
  have c0 := hc 0 (by omega)
  have c1 := hc 1 (by omega)
  have c2 := hc 2 (by omega)
  have c3 := hc 3 (by omega)
  rw [Nat.add_zero] at c0
  have b0 := hb 0
  have b1 := hb 1
  have b2 := hb 2
  have b3 := hb 3
  have HN : Hid (numL xs = ix xs 0 + 256 * ix xs 1 + 65536 * ix xs 2 + 16777216 * ix xs 3) := Lib.hid rfl
  obtain ⟨x0, e0⟩ : ∃ x, x = ix xs 0 := ⟨_, rfl⟩
  obtain ⟨x1, e1⟩ : ∃ x, x = ix xs 1 := ⟨_, rfl⟩
  obtain ⟨x2, e2⟩ : ∃ x, x = ix xs 2 := ⟨_, rfl⟩
  obtain ⟨x3, e3⟩ : ∃ x, x = ix xs 3 := ⟨_, rfl⟩
  rw [← e0] at c0 b0 HN
  rw [← e1] at c1 b1 HN
  rw [← e2] at c2 b2 HN
  rw [← e3] at c3 b3 HN
  clear e0 e1 e2 e3 hx hb hc
  go_enter Try.func83, Try.ntmps83
  go_wp2
  go_region
  go_wp2
  go_ret
  exact ⟨ret_int (by rw [HN.out]; exact or4 x0 x1 x2 x3 b0 b1 b2 b3), rfl⟩

/-- What Number has gathered after k rounds, from the last byte down. -/
def numTo (xs : List Int) : Nat → Int
  | 0 => 0
  | k + 1 => 256 * numTo xs k + ix xs (3 - k)
theorem numTo_four (xs : List Int) : numTo xs 4 = numL xs := by
  show 256 * (256 * (256 * (256 * 0 + ix xs 3) + ix xs 2) + ix xs 1) + ix xs 0 = _
  unfold numL
  omega
theorem numTo_bd {xs : List Int} (h : Bytes xs) : ∀ k, 0 ≤ numTo xs k ∧ numTo xs k < 256 ^ k := by
  intro k
  induction k with
  | zero => exact ⟨by show (0 : Int) ≤ 0; omega, by show (0 : Int) < 1; omega⟩
  | succ k ih =>
    have := h (3 - k)
    refine ⟨by show 0 ≤ 256 * numTo xs k + ix xs (3 - k); omega, ?_⟩
    show 256 * numTo xs k + ix xs (3 - k) < _
    rw [Int.pow_succ]
    omega

set_option maxHeartbeats 800000 in
theorem refNumber_any {w : World} {B n c : Nat} {A : Option Addr} {xs : List Int} (hx : RdY w B A n xs) (hb : Bytes xs) (hn4 : 4 ≤ n) (hn : n ≤ 9223372036854775807) :
    Calls Try.prog 58 #[.slice A n c] w fun e w' => e = .returned (.int .i64 (numL xs)) ∧ w = w' := by
  have HX := Lib.hid hx
  have HB := Lib.hid hb
  clear hx hb
  go_enter Try.func58, Try.ntmps58
  go_wp2
  go_loop [3, 4] (fun r i => ∃ (k : Nat) (z y : Int), k ≤ 4 ∧ i = .int .i64 z ∧ z = 3 - k ∧ r = .int .i64 y ∧ 0 ≤ y ∧ y < 4294967296 ∧ Hid (y = numTo xs k)) (fun _ i => (intOf i + 1).toNat)
  case atStart => exact ⟨0, 3, 0, by omega, rfl, by omega, rfl, by omega, by omega, Lib.hid rfl⟩
  case round =>
    obtain ⟨k, z, y, hk, rfl, hz, rfl, hy0, hy1, HY⟩ := hrel
    by_cases hlt : 0 ≤ z
    · obtain ⟨m, rfl⟩ := Int.eq_ofNat_of_zero_le hlt
      have hmn : m < n := by omega
      have HM : Hid (m = 3 - k ∧ k < 4) := Lib.hid (by omega)
      obtain ⟨b, off, rfl, _, hc⟩ := HX.out.at_ hmn
      have hbd := HB.out m
      have hy2 : 0 ≤ 256 * y + ix xs m ∧ 256 * y + ix xs m < 4294967296 := by
        have h1 := numTo_bd HB.out (k + 1)
        have h2 : numTo xs (k + 1) = 256 * y + ix xs m := by rw [HY.out, HM.out.1]; rfl
        have h3 : k = 0 ∨ k = 1 ∨ k = 2 ∨ k = 3 := by omega
        rw [h2] at h1
        rcases h3 with rfl | rfl | rfl | rfl <;> omega
      have hy3 : 256 * y < 4294967296 := by omega
      clear hz
      go_wp2
      go_round
      case rel => exact ⟨k + 1, (m : Int) - 1, 256 * y + ix xs m, by have := HM.out.2; omega, by go_num, by have := HM.out; omega, by go_num, hy2.1, hy2.2, Lib.hid (by rw [HY.out, HM.out.1]; rfl)⟩
      case measure => simp [intOf]
    · have hk4 : k = 4 := by omega
      have HE : Hid (y = numL xs) := Lib.hid (by rw [HY.out, hk4, numTo_four])
      go_wp2
      go_ret
      exact ⟨ret_int HE.out, rfl⟩

/-- What Four has written after k rounds. -/
def FourTo (n : Nat) (ys : List Int) (k : Nat) : Prop := ys.length = 4 ∧ ∀ j < k, ix ys j = ix (fourL n) j
theorem ix_fourL (n k : Nat) (hk : k < 4) (hn : n < 4294967296) : ix (fourL n) k = ((n / 256 ^ k : Nat) : Int) % 256 := by
  have h : k = 0 ∨ k = 1 ∨ k = 2 ∨ k = 3 := by omega
  rcases h with rfl | rfl | rfl | rfl
  · show (n : Int) % 256 = _; simp
  · show (n : Int) / 256 % 256 = _; simp
  · show (n : Int) / 65536 % 256 = _; simp
  · show (n : Int) / 16777216 = _; simp; omega

set_option maxHeartbeats 1600000 in
theorem refFour_any (w : World) (n : Nat) (hn : n < 4294967296) :
    Calls Try.prog 54 #[.int .i64 (n : Int)] w fun e w' => ∃ v, e = .returned v ∧ OwnY w' w.heap.size v 4 (fourL n) ∧ Below w.heap.size w w' := by
  go_enter Try.func54, Try.ntmps54
  go_wp2_with (at_make; refine wplY_make rfl _ _ rfl w.heap.size 4 rfl rfl (by omega) (Nat.le_refl _) ?_; intro w1 hown hg)
  have HO := Lib.hid hown
  have HB := Lib.hid ((Below.refl w.heap.size w).grown hg (Nat.le_refl _) (fun _ h => by cases h))
  clear hown hg
  go_loopw [0, 4] (fun y i wr => ∃ (k z : Nat) (ys : List Int), k ≤ 4 ∧ i = .int .i64 (k : Int) ∧ y = .int .i64 (z : Int) ∧ z < 4294967296 ∧ Hid (z = n / 256 ^ k) ∧ Hid (FourTo n ys k) ∧
      Hid (OwnY wr w.heap.size (.slice (some ⟨w.heap.size, 0, none⟩) 4 4) 4 ys) ∧ Hid (Below w.heap.size w wr)) (fun _ i _ => (4 - intOf i).toNat)
  case atStart => exact ⟨0, n, _, by omega, rfl, rfl, hn, Lib.hid (by simp), Lib.hid ⟨by simp, fun j hj => absurd hj (by omega)⟩, HO, HB⟩
  case round =>
    clear HO HB
    obtain ⟨k, z, ys, hk, rfl, rfl, hz, HZ, HF, HO, HB⟩ := hrel
    by_cases hlt : k < 4
    · have c1 := HO.out.cell hlt
      have f1 := HO.out.free k
      have HS := Lib.hid (HO.out.store k ((z : Int) % 256))
      have HV : Hid ((z : Int) % 256 = ix (fourL n) k) := Lib.hid (by rw [ix_fourL n k hlt hn, HZ.out])
      go_wp2
      go_roundw
      case rel =>
        refine ⟨k + 1, z / 256, _, by omega, by go_num, by go_num, by omega, Lib.hid ?_, Lib.hid ⟨?_, fun j hj => ?_⟩, HS, Lib.hid (HB.out.setCell (Nat.le_refl _) _)⟩
        · rw [HZ.out, Nat.div_div_eq_div_mul, Nat.pow_succ]
        · rw [List.length_set]; exact HF.out.1
        · rw [ix_set _ _ _ _ (by rw [HF.out.1]; exact hlt)]
          by_cases hjk : k = j
          · subst hjk; rw [if_pos rfl]; exact HV.out
          · rw [if_neg hjk]; exact HF.out.2 j (by omega)
      case measure => simp [intOf]; omega
    · have hk4 : k = 4 := by omega
      have HE : Hid (ys = fourL n) := Lib.hid (list_ext_ix (by rw [HF.out.1]; rfl) (fun i hi => HF.out.2 i (by rw [HF.out.1] at hi; omega)))
      clear hk4
      go_wp2
      go_ret
      exact ⟨_, rfl, by rw [← HE.out]; exact HO.out, HB.out⟩

set_option maxHeartbeats 1600000 in
theorem refOf_any {w : World} {B n c : Nat} {A : Option Addr} {xs : List Int} (hx : RdY w B A n xs) (hb : Bytes xs) (hn : n ≤ 9223372036854775807) :
    Calls Try.prog 55 #[.slice A n c] w fun e w' => e = .returned (.int .i64 (moreN 0 xs)) ∧ w = w' := by
  have HX := Lib.hid hx
  have HXL := Lib.hid hx.1
  clear hx
  go_enter Try.func55, Try.ntmps55
  go_wp2
  go_loop [3, 4] (fun r i => ∃ k q : Nat, k ≤ n ∧ i = .int .i64 (k : Int) ∧ r = .int .i64 (q : Int) ∧ q < 4294967296 ∧ Hid (q = ByteP.run (0 ^^^ allOnes) (xs.take k))) (fun _ i => n - (intOf i).toNat)
  case atStart => exact ⟨0, 4294967295, by omega, rfl, rfl, by omega, Lib.hid (by simp [ByteP.run, allOnes])⟩
  case round =>
    obtain ⟨k, q, hk, rfl, rfl, hq, HQ⟩ := hrel
    by_cases hlt : k < n
    · obtain ⟨b, off, rfl, hbb, hc⟩ := HX.out.at_ hlt
      obtain ⟨hx0, hx1⟩ := hb k
      have hq0 : q ^^^ (ix xs k).toNat < 4294967296 := Nat.xor_lt_two_pow (n := 32) hq (by omega)
      have HE : Hid (bits .xor .i64 (q : Int) (ix xs k) = ((q ^^^ (ix xs k).toNat : Nat) : Int)) := Lib.hid (by
        have := xor_i64n q (ix xs k).toNat hq (by omega)
        rw [show (((ix xs k).toNat : Nat) : Int) = ix xs k by omega] at this
        exact this)
      go_wp2
      go_loop [3, 5] (fun r i => ∃ j p : Nat, j ≤ 8 ∧ i = .int .i64 (j : Int) ∧ r = .int .i64 (p : Int) ∧ p < 4294967296 ∧ Hid (p = stps j (q ^^^ (ix xs k).toNat))) (fun _ i => 8 - (intOf i).toNat)
      case atStart => exact ⟨0, q ^^^ (ix xs k).toNat, by omega, rfl, congrArg (Value.int .i64) HE.out, hq0, Lib.hid rfl⟩
      case round =>
        obtain ⟨j, p, hj, rfl, rfl, hp, HP⟩ := hrel
        by_cases hlt2 : j < 8
        · by_cases hodd : (p : Int) % 2 = 1
          · have HO2 : Hid (bits .xor .i64 ((p : Int) / 2) 2197175160 = ((stp p : Nat) : Int)) := Lib.hid (by
              have := xor_i64n (p / 2) 2197175160 (by omega) (by omega)
              unfold stp
              rw [show p % 2 = 1 by omega, Nat.one_mul, ← this]
              simp)
            have hl2 := stp_lt hp
            go_wp2
            go_round
            case rel => exact ⟨j + 1, stp p, by omega, by go_num, congrArg (Value.int .i64) HO2.out, hl2, Lib.hid (by rw [HP.out]; rfl)⟩
            case measure => simp [intOf]; omega
          · have HO2 : Hid (stp p = p / 2) := Lib.hid (by unfold stp; rw [show p % 2 = 0 by omega]; simp)
            go_wp2
            go_round
            case rel => exact ⟨j + 1, p / 2, by omega, by go_num, by go_num, by omega, Lib.hid (by rw [← HO2.out, HP.out]; rfl)⟩
            case measure => simp [intOf]; omega
        · have hj8 : j = 8 := by omega
          have HR : Hid (p = ByteP.run (0 ^^^ allOnes) (xs.take (k + 1))) := Lib.hid (by
            rw [take_ix xs k (by rw [HXL.out]; exact hlt), run_snoc, ← HQ.out, HP.out, hj8]; rfl)
          clear hj8
          go_wp2
          go_round
          case rel => exact ⟨k + 1, p, by omega, by go_num, rfl, hp, HR⟩
          case measure => simp [intOf]; omega
    · have hk2 : k = n := by omega
      have HF : Hid (bits .xor .i64 (q : Int) 4294967295 = moreN 0 xs) := Lib.hid (by
        have := xor_i64n q 4294967295 hq (by omega)
        unfold moreN
        rw [HQ.out, hk2, List.take_of_length_le (by rw [HXL.out]; exact Nat.le_refl _)] at this
        rw [HQ.out, hk2, List.take_of_length_le (by rw [HXL.out]; exact Nat.le_refl _)]
        exact this)
      clear hk2
      go_wp2
      go_ret
      exact ⟨ret_int HF.out, rfl⟩

set_option maxHeartbeats 1600000 in
theorem refJoin_any {w : World} {B n m c d : Nat} {A D : Option Addr} {xs ys : List Int} (hx : RdY w B A n xs) (hy : RdY w B D m ys) (hB : B ≤ w.heap.size) (hnm : n + m ≤ 1099511627776) :
    Calls Try.prog 32 #[.slice A n c, .slice D m d] w fun e w' => ∃ v, e = .returned v ∧ OwnY w' w.heap.size v (n + m) (xs ++ ys) ∧ Below w.heap.size w w' := by
  have HX := Lib.hid hx
  have HY := Lib.hid hy
  clear hx hy
  go_enter Try.func32, Try.ntmps32
  have HA : Hid (RdY (w.alloc (.cells #[] 5)) B A n xs) := Lib.hid (HX.out.alloc hB _)
  have HO := Lib.hid (OwnY.empty w w.heap.size (Nat.le_refl _))
  go_wp2_with (first
    | (at_builtin; refine wplY_apps rfl _ _ rfl w.heap.size _ 0 _ rfl HO.out B A n c xs rfl HA.out (by omega) (by simp) ?_; intro v1 w1 hown1 hg1 hat1;
        rw [Nat.zero_add, List.nil_append] at hown1; obtain ⟨A1, c1, rfl, _⟩ := hown1.shape; (have HO1 := Lib.hid hown1);
        (have HB1 : Hid (Below w.heap.size w w1) := Lib.hid (((Below.refl _ w).alloc (Nat.le_refl _) _).grown hg1 (by simp) (fun k h => by have h' : some w.heap.size = some k := h; cases h'; exact Nat.le_refl _)));
        (have HY1 : Hid (RdY w1 B D m ys) := Lib.hid (HY.out.below (HB1.out.mono hB))); (have hs1 : w.heap.size ≤ w1.heap.size := HB1.out.size); clear hown1 hg1 hat1)
    | (at_builtin; refine wplY_apps rfl _ _ rfl w.heap.size _ n _ rfl HO1.out B D m d ys rfl HY1.out hnm hs1 ?_; intro v2 w2 hown2 hg2 hat2; (have HO2 := Lib.hid hown2);
        (have HB2 : Hid (Below w.heap.size w w2) := Lib.hid (HB1.out.grown hg2 hs1 HO1.out.ge)); clear hown2 hg2 hat2))
  go_ret
  exact ⟨_, rfl, HO2.out, HB2.out⟩
end Go.Proofs.Ytadajkgiijpakaa
