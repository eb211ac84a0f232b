/-
  CONTRACTS of Of and fourBytes of package sum and of the statements' comparison of bytes, over this translation.
-/
import Derived.Test.YtadajkgiijpakaaYMore
import Derived.RegionTactic
namespace Go.Proofs.Ytadajkgiijpakaa
open Go.RowKit
open ByteP
set_option linter.unusedVariables false

/-- A list of m slices of bytes reads so: the j-th is the slice value (PA j, PN j, PC j), and that reads as PX j. -/
def Rd2 (w : World) (B : Nat) (A : Option Addr) (m : Nat) (PA : Nat → Option Addr) (PN PC : Nat → Nat) (PX : Nat → List Int) : Prop :=
  (0 < m → ∃ b off, A = some ⟨b, off, none⟩ ∧ b < B ∧ ∀ j, j < m → w.cell? ⟨b, off + j, none⟩ = some (.slice (PA j) (PN j) (PC j))) ∧
    ∀ j, j < m → RdY w B (PA j) (PN j) (PX j) ∧ Bytes (PX j) ∧ PN j ≤ 9223372036854775807
theorem Rd2.at_ {w : World} {B m : Nat} {A : Option Addr} {PA : Nat → Option Addr} {PN PC : Nat → Nat} {PX : Nat → List Int} (h : Rd2 w B A m PA PN PC PX) {k : Nat} (hk : k < m) :
    ∃ b off, A = some ⟨b, off, none⟩ ∧ b < B ∧ w.cell? ⟨b, off + k, none⟩ = some (.slice (PA k) (PN k) (PC k)) := by
  obtain ⟨b, off, e, hb, hc⟩ := h.1 (by omega)
  exact ⟨b, off, e, hb, hc k hk⟩

def ofN (PX : Nat → List Int) : Nat → Nat
  | 0 => 0
  | k + 1 => moreN (ofN PX k) (PX k)
theorem moreN_append (s : Nat) (xs ys : List Int) : moreN (moreN s xs) ys = moreN s (xs ++ ys) := by
  unfold moreN; rw [Nat.xor_assoc, Nat.xor_self, Nat.xor_zero, run_append]
theorem moreN_nil (s : Nat) : moreN s [] = s := by unfold moreN ByteP.run; rw [List.foldl_nil, Nat.xor_assoc, Nat.xor_self, Nat.xor_zero]

set_option maxHeartbeats 800000 in
theorem of_any {w : World} {B m c : Nat} {A : Option Addr} {PA : Nat → Option Addr} {PN PC : Nat → Nat} {PX : Nat → List Int} (hx : Rd2 w B A m PA PN PC PX) (hm : m ≤ 9223372036854775807) :
    Calls Try.prog 62 #[.slice A m c] w fun e w' => e = .returned (.int .i64 (ofN PX m)) ∧ w = w' := by
  have HX := Lib.hid hx
  clear hx
  go_enter Try.func62, Try.ntmps62
  go_wp2
  go_loop [3, 8] (fun s i => ∃ k q : Nat, k ≤ m ∧ i = .int .i64 (k : Int) ∧ s = .int .i64 (q : Int) ∧ q < 4294967296 ∧ Hid (q = ofN PX k)) (fun _ i => m - (intOf i).toNat)
  case atStart => exact ⟨0, 0, by omega, rfl, rfl, by omega, Lib.hid rfl⟩
  case round =>
    obtain ⟨k, q, hk, rfl, rfl, hq, HQ⟩ := hrel
    by_cases hlt : k < m
    · obtain ⟨b, off, rfl, hbb, hc⟩ := HX.out.at_ hlt
      have HP := Lib.hid (HX.out.2 k hlt)
      have hql := moreN_lt q hq HP.out.2.1
      go_wp2_with (go_at_call 76; refine (more_any HP.out.1 HP.out.2.1 HP.out.2.2 q hq).mono ?_; rintro e w' ⟨rfl, rfl⟩)
      go_round
      case rel => exact ⟨k + 1, moreN q (PX k), by omega, by go_num, rfl, hql, Lib.hid (by rw [HQ.out]; rfl)⟩
      case measure => simp [intOf]; omega
    · have hkm : k = m := by omega
      have HE : Hid ((q : Int) = ofN PX m) := Lib.hid (by rw [HQ.out, hkm])
      clear hkm
      go_wp2
      go_ret
      exact ⟨ret_int HE.out, rfl⟩

def fourL (n : Nat) : List Int := [(n : Int) % 256, (n : Int) / 256 % 256, (n : Int) / 65536 % 256, (n : Int) / 16777216]
theorem fourL_bytes (n : Nat) (hn : n < 4294967296) : Bytes (fourL n) := by
  intro i
  unfold ix fourL
  match i with
  | 0 => simp; omega
  | 1 => simp; omega
  | 2 => simp; omega
  | 3 => simp; omega
  | k + 4 => simp
theorem four_any (w : World) (n : Nat) (hn : n < 4294967296) :
    Calls Try.prog 61 #[.int .i64 (n : Int)] w fun e w' => ∃ v, e = .returned v ∧ OwnY w' w.heap.size v 4 (fourL n) ∧ Below w.heap.size w w' := by
  go_enter Try.func61, Try.ntmps61
  go_wp2
  go_ret
  exact ⟨_, rfl, OwnY.lit w w.heap.size (fourL n) (Nat.le_refl _) (by simp [fourL]), (Below.refl _ w).alloc (Nat.le_refl _) _⟩

def sameY (xs ys : List Int) : Bool := decide (xs = ys)
theorem sameY_len {xs ys : List Int} (h : xs.length ≠ ys.length) : sameY xs ys = false := by
  unfold sameY; rw [decide_eq_false_iff_not]; rintro rfl; exact h rfl
theorem sameY_at {xs ys : List Int} {k : Nat} (h : ix xs k ≠ ix ys k) : sameY xs ys = false := by
  unfold sameY; rw [decide_eq_false_iff_not]; rintro rfl; exact h rfl
theorem sameY_all {xs ys : List Int} (hl : xs.length = ys.length) (h : ∀ j < xs.length, ix xs j = ix ys j) : sameY xs ys = true := by
  unfold sameY; rw [decide_eq_true_eq]; exact list_ext_ix hl h
theorem sameY_refl (xs : List Int) : sameY xs xs = true := by unfold sameY; simp

set_option maxHeartbeats 800000 in
theorem sameY_any {w : World} {B n m c d : Nat} {A D : Option Addr} {xs ys : List Int} (hx : RdY w B A n xs) (hy : RdY w B D m ys) (hn : n ≤ 9223372036854775807) (hm : m ≤ 9223372036854775807) :
    Calls Try.prog 18 #[.slice A n c, .slice D m d] w fun e w' => e = .returned (.bool (sameY xs ys)) ∧ ∃ q, w' = w.drewN q := by
  have HX := Lib.hid hx
  have HY := Lib.hid hy
  have HXL := Lib.hid hx.1
  have HYL := Lib.hid hy.1
  clear hx hy
  by_cases hnm : n = m
  · obtain rfl := hnm
    have HL : Hid (xs.length = ys.length) := Lib.hid (by rw [HXL.out, HYL.out])
    go_enter Try.func18, Try.ntmps18
    go_wp2
    go_loopw [5] (fun i wr => ∃ k q : Nat, k ≤ n ∧ i = .int .i64 k ∧ wr = w.drewN q ∧ Hid (∀ j < k, ix xs j = ix ys j)) (fun i _ => n - (intOf i).toNat)
    case atStart => exact ⟨0, 0, Nat.zero_le _, rfl, rfl, Lib.hid (fun j hj => absurd hj (by omega))⟩
    case round =>
      obtain ⟨k, q, hk, rfl, rfl, HA⟩ := hrel
      by_cases hlt : k < n
      · obtain ⟨b, off, rfl, hb, hc⟩ := HX.out.at_ hlt
        obtain ⟨b2, off2, rfl, hb2, hc2⟩ := HY.out.at_ hlt
        by_cases h : ix xs k = ix ys k
        · have hb : (ix xs k != ix ys k) = false := by simp [h]
          have hb' : (ix xs k == ix ys k) = true := by simp [h]
          have H := Lib.hid h
          clear h
          go_wp2
          go_region
          go_wp2
          go_roundw
          case rel => exact ⟨k + 1, q + 1, by omega, by go_num, rfl, Lib.hid (fun j hj => by
            by_cases hjk : j < k
            · exact HA.out j hjk
            · obtain rfl : j = k := by omega
              exact H.out)⟩
          case measure => simp [intOf]; omega
        · have hb : (ix xs k != ix ys k) = true := by simp [h]
          have hb' : (ix xs k == ix ys k) = false := by simp [h]
          have E := Lib.hid (sameY_at h)
          clear h
          go_wp2
          go_region
          go_wp2
          go_ret
          exact ⟨by rw [E.out]; rfl, q + 1, rfl⟩
      · have E := Lib.hid (sameY_all HL.out (fun j hj => HA.out j (by rw [HXL.out] at hj; omega)))
        go_wp2
        go_ret
        exact ⟨by rw [E.out]; rfl, q, rfl⟩
  · have E := Lib.hid (sameY_len (xs := xs) (ys := ys) (by rw [HXL.out, HYL.out]; exact hnm))
    have hb : ((n : Int) != (m : Int)) = true := by simp; omega
    have hb' : ((n : Int) == (m : Int)) = false := by simp; omega
    go_enter Try.func18, Try.ntmps18
    go_wp2
    go_ret
    exact ⟨by rw [E.out]; rfl, 0, rfl⟩
end Go.Proofs.Ytadajkgiijpakaa
