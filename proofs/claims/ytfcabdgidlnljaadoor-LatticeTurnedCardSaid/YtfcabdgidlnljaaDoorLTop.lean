/-
  CONTRACTS of package lattice: checkSet, All, Ways, Down.
-/
import Derived.Test.YtfcabdgidlnljaaDoorLClimb
namespace Go.Proofs.YtfcabdgidlnljaaDoor
open Go.RowKit
open DiP
set_option linter.unusedVariables false
set_option linter.unusedSimpArgs false
set_option maxRecDepth 100000
set_option maxHeartbeats 1000000 in
theorem lcheck_bad {w : World} {B m c : Nat} {n z : Int} {A : Option Addr} {es : List (Int × Int)} (hx : RdE w B A m es) (hr : ¬ GraphR n es) (hm0 : m ≤ 9223372036854775807) (hB : B ≤ w.heap.size) :
    Calls Tryd.prog 26 #[.agg #[.int .i64 n, .slice A m c], .int .u64 z] w fun e w' => e = .returned (.int .i64 20) ∧ Below w.heap.size w w' := by
  have HX := Lib.hid hx
  have HR := Lib.hid hr
  clear hx hr
  go_enter Tryd.func26, Tryd.ntmps26
  go_wp2_with fail
  refine (check_no (HX.out.alloc hB _) HR.out hm0 (by simp; omega)).mono ?_
  rintro e w2 ⟨rfl, hb⟩
  have HB := Lib.hid hb
  clear hb
  go_wp2
  go_ret
  exact ⟨rfl, ((Below.refl _ _).alloc (Nat.le_refl _) _).trans (HB.out.mono (by simp))⟩

set_option maxHeartbeats 1000000 in
theorem lcheck_any {w : World} {B m c n s : Nat} {A : Option Addr} {g : List (Nat × Nat)} (hx : RdG w B A m g) (hi : InN n g) (hn : n ≤ 64) (hm : m ≤ 4096) (hB : B ≤ w.heap.size) :
    Calls Tryd.prog 26 #[.agg #[.int .i64 (n : Int), .slice A m c], .int .u64 (s : Int)] w fun e w' => e = .returned (.int .i64 (if fitsB s n then 0 else 20)) ∧ Below w.heap.size w w' := by
  have HX := Lib.hid hx
  have HR := Lib.hid (graphR_cast hi hn (by rw [hx.len]; exact hm))
  clear hx hi
  cases hft : fitsB s n
  all_goals
    have HQ := Lib.hid (fits_neq (s := s) (n := n))
    rw [hft] at HQ
    have hq := HQ.out
    clear HQ hft
    go_enter Tryd.func26, Tryd.ntmps26
    go_wp2_with fail
    refine (check_yes (RdE.alloc HX.out hB _) HR.out (by simp; omega)).mono ?_
    rintro e w2 ⟨rfl, hb⟩
    obtain ⟨hcn, hcs⟩ := (boxed_alloc w (n : Int) A m c 24).below hb (by simp)
    have HB := Lib.hid hb
    clear hb
    go_wp2
    go_ret
    exact ⟨rfl, ((Below.refl _ _).alloc (Nat.le_refl _) _).trans (HB.out.mono (by simp))⟩

theorem wayN_small {g : List (Nat × Nat)} {n s : Nat} (hn : n ≤ 10) : wayN (befG g) n s ≤ 10000000000 := by
  unfold wayN
  cases h : lvF (befG g) n (cnt s n) s with
  | none => simp
  | some x =>
    have h1 := lv_le _ _ _ _ _ h
    have h2 : n ^ cnt s n ≤ 10 ^ cnt s n := Nat.pow_le_pow_left hn _
    have h3 : (10 : Nat) ^ cnt s n ≤ 10 ^ 10 := Nat.pow_le_pow_right (by omega) (Nat.le_trans (cnt_le s n) hn)
    simp
    omega
set_option maxHeartbeats 2000000 in
theorem all_any {L : Nat} (hS : SortOK L) {w : World} {B m c n : Nat} {A : Option Addr} {g : List (Nat × Nat)} (hx : RdG w B A m g) (hi : InN n g) (hn : n ≤ 10) (hm : m ≤ 4096) (hB : B ≤ w.heap.size) (hT : Tz w) (h0 : 0 < w.heap.size) (hG : Goes (befG g) n n) (hL : (clN n (closedB g)).length ≤ L) :
    Calls Tryd.prog 13 #[.agg #[.int .i64 (n : Int), .slice A m c]] w fun e w' => (∃ blk cap, e = .returned (.tuple #[.slice (some ⟨blk, 0, none⟩) (clN n (closedB g)).length cap, .int .i64 0]) ∧ w.heap.size ≤ blk ∧ ∀ j, j < (clN n (closedB g)).length → w'.cell? ⟨blk, j, none⟩ = some (.int .u64 (((clN n (closedB g)).getD j 0 : Nat) : Int))) ∧ Below w.heap.size w w' := by
  have hb0 : Below w.heap.size w (w.alloc (.cells #[.int .i64 (n : Int), .slice A m c] 24)) := (Below.refl _ w).alloc (Nat.le_refl _) _
  have HC := Lib.hid (climb_any hS (w := w.alloc (.cells #[.int .i64 (n : Int), .slice A m c] 24)) (c := c) (RdE.alloc hx hB _) hi hn hm (by simp; omega) (hT.below hb0 h0) (by simp) hG hL)
  have HB0 := Lib.hid hb0
  clear hx hT hS hL hB hG hb0 hi
  obtain ⟨LN, hLN⟩ : ∃ LN, (clN n (closedB g)).length = LN := ⟨_, rfl⟩
  rw [hLN] at HC ⊢
  clear hLN
  go_enter Tryd.func13, Tryd.ntmps13
  go_wp2_with fail
  refine HC.out.mono ?_
  rintro e W1 ⟨⟨blk, cap, rfl, hle, hc⟩, hb⟩
  have HB := Lib.hid hb
  have HCL := Lib.hid hc
  have HLE : Hid (w.heap.size ≤ blk) := Lib.hid (by simp at hle; omega)
  clear HC hb hc hle
  go_wp2
  go_ret2
  exact ⟨⟨blk, cap, rfl, HLE.out, HCL.out⟩, HB0.out.trans (HB.out.mono (by simp))⟩
set_option maxHeartbeats 2000000 in
theorem ways_any {L : Nat} (hS : SortOK L) {w : World} {B m c n : Nat} {A : Option Addr} {g : List (Nat × Nat)} (hx : RdG w B A m g) (hi : InN n g) (hn : n ≤ 10) (hm : m ≤ 4096) (hB : B ≤ w.heap.size) (hT : Tz w) (h0 : 0 < w.heap.size) (hG : Goes (befG g) n n) (hL : (clN n (closedB g)).length ≤ L) :
    Calls Tryd.prog 14 #[.agg #[.int .i64 (n : Int), .slice A m c]] w fun e w' => e = .returned (.tuple #[.int .i64 (wayN (befG g) n (2 ^ n - 1) : Int), .int .i64 0]) ∧ Below w.heap.size w w' := by
  have hb0 : Below w.heap.size w (w.alloc (.cells #[.int .i64 (n : Int), .slice A m c] 24)) := (Below.refl _ w).alloc (Nat.le_refl _) _
  have HC := Lib.hid (climb_any hS (w := w.alloc (.cells #[.int .i64 (n : Int), .slice A m c] 24)) (c := c) (RdE.alloc hx hB _) hi hn hm (by simp; omega) (hT.below hb0 h0) (by simp) hG hL)
  have hws := wayN_small (g := g) (n := n) (s := 2 ^ n - 1) hn
  have HB0 := Lib.hid hb0
  clear hx hT hS hL hB hG hb0 hi
  obtain ⟨LN, hLN⟩ : ∃ LN, (clN n (closedB g)).length = LN := ⟨_, rfl⟩
  obtain ⟨ws, hw⟩ : ∃ ws, wayN (befG g) n (2 ^ n - 1) = ws := ⟨_, rfl⟩
  rw [hLN, hw] at HC
  rw [hw] at hws ⊢
  clear hLN hw
  have hd : decide ((1152921504606846976 : Int) < (ws : Int)) = false := decide_eq_false (by omega)
  go_enter Tryd.func14, Tryd.ntmps14
  go_wp2_with fail
  refine HC.out.mono ?_
  rintro e W1 ⟨⟨blk, cap, rfl, hle, hc⟩, hb⟩
  have HB := Lib.hid hb
  clear HC hb hc hle
  go_wp2
  go_ret2
  exact ⟨rfl, HB0.out.trans (HB.out.mono (by simp))⟩
/-- Down, node by node. -/
def dwnK (r : Nat → Nat) (s : Nat) : Nat → Nat
  | 0 => s
  | k + 1 => if r k &&& s = 0 then dwnK r s k else add (dwnK r s k) k
theorem dwnK_lt {r : Nat → Nat} {s : Nat} (hs : s < lim) : ∀ k, k ≤ 64 → dwnK r s k < lim
  | 0, _ => hs
  | k + 1, h => by
    unfold dwnK
    split
    · exact dwnK_lt hs k (by omega)
    · exact add_lt (dwnK_lt hs k (by omega)) (by omega)
theorem bt_dwnK (r : Nat → Nat) (s u : Nat) : ∀ k, bt (dwnK r s k) u = (bt s u || (decide (u < k) && !decide (r u &&& s = 0)))
  | 0 => by simp [dwnK]
  | k + 1 => by
    have ih := bt_dwnK r s u k
    unfold dwnK
    by_cases h : r k &&& s = 0
    · rw [if_pos h, ih]
      by_cases e : u = k
      · subst e; simp [h]
      · have : decide (u < k + 1) = decide (u < k) := decide_eq_decide.2 (by omega)
        rw [this]
    · rw [if_neg h, bt_add, ih]
      by_cases e : k = u
      · subst e; simp [h]
      · have : decide (u < k + 1) = decide (u < k) := decide_eq_decide.2 (by omega)
        rw [this, decide_eq_false e, Bool.or_false]
def dwnG (n : Nat) (g : List (Nat × Nat)) (s : Nat) : Nat := dwnK (rchG n g) s n
set_option maxHeartbeats 1000000 in
theorem down_bad {w : World} {B m c : Nat} {n z : Int} {A : Option Addr} {es : List (Int × Int)} (hx : RdE w B A m es) (hr : ¬ GraphR n es) (hm0 : m ≤ 9223372036854775807) (hB : B ≤ w.heap.size) :
    Calls Tryd.prog 19 #[.agg #[.int .i64 n, .slice A m c], .int .u64 z] w fun e w' => e = .returned (.tuple #[.int .u64 0, .int .i64 20]) ∧ Below w.heap.size w w' := by
  have HX := Lib.hid hx
  have HR := Lib.hid hr
  clear hx hr
  go_enter Tryd.func19, Tryd.ntmps19
  go_wp2_with fail
  refine (lcheck_bad (HX.out.alloc hB _) HR.out hm0 (by simp; omega)).mono ?_
  rintro e w2 ⟨rfl, hb⟩
  have HB := Lib.hid hb
  clear hb
  go_wp2
  go_ret2
  exact ⟨rfl, ((Below.refl _ _).alloc (Nat.le_refl _) _).trans (HB.out.mono (by simp))⟩
set_option maxHeartbeats 1000000 in
theorem down_out {w : World} {B m c n s : Nat} {A : Option Addr} {g : List (Nat × Nat)} (hx : RdG w B A m g) (hi : InN n g) (hn : n ≤ 64) (hm : m ≤ 4096) (hB : B ≤ w.heap.size) (hf : fitsB s n = false) :
    Calls Tryd.prog 19 #[.agg #[.int .i64 (n : Int), .slice A m c], .int .u64 (s : Int)] w fun e w' => e = .returned (.tuple #[.int .u64 0, .int .i64 20]) ∧ Below w.heap.size w w' := by
  have HC := Lib.hid (lcheck_any (w := w.alloc (.cells #[.int .i64 (n : Int), .slice A m c] 24)) (c := c) (s := s) (RdE.alloc hx hB _) hi hn hm (by simp; omega))
  rw [hf] at HC
  clear hx hi hf
  go_enter Tryd.func19, Tryd.ntmps19
  go_wp2_with fail
  refine HC.out.mono ?_
  rintro e w2 ⟨rfl, hb⟩
  have HB := Lib.hid hb
  clear hb HC
  go_wp2
  go_ret2
  exact ⟨rfl, ((Below.refl _ _).alloc (Nat.le_refl _) _).trans (HB.out.mono (by simp))⟩
set_option maxHeartbeats 2000000 in
theorem down_any {w : World} {B m c n s : Nat} {A : Option Addr} {g : List (Nat × Nat)} (hx : RdG w B A m g) (hi : InN n g) (hn : n ≤ 64) (hm : m ≤ 4096) (hB : B ≤ w.heap.size) (hs : s < lim) (hf : fitsB s n = true) :
    Calls Tryd.prog 19 #[.agg #[.int .i64 (n : Int), .slice A m c], .int .u64 (s : Int)] w fun e w' => e = .returned (.tuple #[.int .u64 (dwnG n g s : Int), .int .i64 0]) ∧ Below w.heap.size w w' := by
  have HX := Lib.hid hx
  have HI := Lib.hid hi
  have HS := Lib.hid hs
  have HRS := Lib.hid (rchK_small hi hn n)
  have HC := Lib.hid (lcheck_any (w := w.alloc (.cells #[.int .i64 (n : Int), .slice A m c] 24)) (c := c) (s := s) (RdE.alloc hx hB _) hi hn hm (by simp; omega))
  rw [hf] at HC
  clear hx hi hf hs
  go_enter Tryd.func19, Tryd.ntmps19
  go_wp2_with fail
  refine HC.out.mono ?_
  rintro e w2 ⟨rfl, hb⟩
  clear HC
  obtain ⟨hcn, hcs⟩ := (boxed_alloc w (n : Int) A m c 24).below hb (by simp)
  have HB2 : Hid (Below w.heap.size w w2) := Lib.hid (((Below.refl _ _).alloc (Nat.le_refl _) _).trans (hb.mono (by simp)))
  have hsz2 : w.heap.size < w2.heap.size := by have := hb.size; simp at this; omega
  clear hb
  go_wp2_with fail
  refine (reachM_any (HX.out.below (HB2.out.mono hB)) HI.out hn hm (by omega)).mono ?_
  rintro e w3 ⟨A', c', rfl, hrd, hb3⟩
  have HB3 : Hid (Below w.heap.size w w3) := Lib.hid (HB2.out.trans (hb3.mono (by omega)))
  have HRD := Lib.hid hrd
  clear hb3 hrd hcn hcs hsz2
  go_wp2_with fail
  go_loop [9, 29] (fun d i => ∃ k : Nat, k ≤ n ∧ i = .int .i64 (k : Int) ∧ d = .int .u64 ((dwnK (rchG n g) s k : Nat) : Int)) (fun _ i => n - (intOf i).toNat)
  case atStart => exact ⟨0, by omega, rfl, rfl⟩
  case round =>
    obtain ⟨k, hk, rfl, rfl⟩ := hrel
    by_cases hlt : k < n
    · have hk64 : k < 64 := by omega
      have hk65 : (k : Int) < 64 := by omega
      have hdk : decide ((k : Int) < (n : Int)) = true := decide_eq_true (by omega)
      obtain ⟨b, off, rfl, hbl, hcell⟩ := HRD.out (by omega)
      have hck := hcell k hlt
      have hadd : IntKind.i64.wrap ((k : Int) + 1) = ((k + 1 : Nat) : Int) := by rw [IntWalk.i64_in _ (by omega)]; omega
      have hand : bits BinOp.and IntKind.u64 ((rchG n g k : Nat) : Int) (s : Int) = ((rchG n g k &&& s : Nat) : Int) := bits_and_u64_nat _ _ (HRS.out k) HS.out
      have HO := Lib.hid (or_spell2 (dwnK_lt (r := rchG n g) HS.out k (by omega)) hk64)
      have HN : Hid (dwnK (rchG n g) s (k + 1) = if rchG n g k &&& s = 0 then dwnK (rchG n g) s k else add (dwnK (rchG n g) s k) k) := Lib.hid rfl
      clear hcell
      by_cases hz : rchG n g k &&& s = 0
      · have hzz : (((rchG n g k &&& s : Nat) : Int) != 0) = false := by rw [hz]; rfl
        have HN2 : Hid (dwnK (rchG n g) s (k + 1) = dwnK (rchG n g) s k) := Lib.hid (by rw [HN.out, if_pos hz])
        clear hz
        go_wp2
        go_round
        case rel => exact ⟨k + 1, by omega, by go_num, by rw [HN2.out]⟩
        case measure => simp [intOf]; omega
      · have hzz : (((rchG n g k &&& s : Nat) : Int) != 0) = true := by rw [bne_iff_ne]; omega
        have HN2 : Hid (dwnK (rchG n g) s (k + 1) = add (dwnK (rchG n g) s k) k) := Lib.hid (by rw [HN.out, if_neg hz])
        have ho := HO.out
        clear hz
        go_wp2
        go_round
        case rel => exact ⟨k + 1, by omega, by go_num, by rw [HN2.out]⟩
        case measure => simp [intOf]; omega
    · have hdk : decide ((k : Int) < (n : Int)) = false := decide_eq_false (by omega)
      have hkn : k = n := by omega
      have HD : Hid (dwnK (rchG n g) s k = dwnG n g s) := Lib.hid (by rw [hkn]; rfl)
      rw [HD.out]
      clear hkn
      go_wp2
      go_ret2
      exact ⟨rfl, HB3.out⟩
end Go.Proofs.YtfcabdgidlnljaaDoor
