/-
  CONTRACTS of ready, checkSet, Closed and Ready of package digraph, over this translation.
-/
import Derived.Test.YtfcabdgidlnljaaDoorDRowB
import Derived.Deep.QuietTactic
import Derived.BigQuiet
import Derived.Deep.RegionWith
namespace Go.Proofs.YtfcabdgidlnljaaDoor
open Go.RowKit
open DiP
set_option linter.unusedVariables false

theorem andn_spell {s t : Nat} (hs : s < lim) (ht : t < lim) : bits BinOp.andNot IntKind.u64 (s : Int) (t : Int) = ((andn s t : Nat) : Int) := u64_andNot_nat s t hs ht
theorem or_spell2 {s v : Nat} (hs : s < lim) (hv : v < 64) : bits BinOp.or IntKind.u64 (s : Int) (IntKind.u64.wrap (2 ^ v)) = ((add s v : Nat) : Int) := by
  have := or_spell hs hv
  rwa [Nat.min_eq_left (by omega)] at this
theorem andn_bool {s t : Nat} (hs : s < lim) (ht : t < lim) : (bits BinOp.andNot IntKind.u64 (s : Int) (t : Int) == 0) = decide (andn s t = 0) := by
  rw [andn_spell hs ht]
  by_cases h : andn s t = 0
  · rw [h]; rfl
  · rw [decide_eq_false h]
    simp [h]

set_option maxRecDepth 100000 in
set_option maxHeartbeats 1000000 in
theorem ready_any {w : World} {m c n s : Nat} {A : Option Addr} {f : Nat → Nat} (hf : Small f) (hs : s < lim) (hn : n ≤ 64) :
    Calls Tryd.prog 44 #[.agg #[.int .i64 n, .slice A m c], .agg (cellsU f), .int .u64 (s : Int)] w fun e w' => e = .returned (.int .u64 ((rdyK f s n : Nat) : Int)) ∧ Below w.heap.size w w' := by
  have HF := Lib.hid hf
  clear hf
  have HS := Lib.hid hs
  clear hs
  go_enter Tryd.func44, Tryd.ntmps44
  go_wp2_with fail
  obtain ⟨W0, hW⟩ : ∃ W0 : World, W0 = ((w.alloc (.cells #[.int .i64 (n : Int), .slice A m c] 24)).alloc (.cells (cellsU f) 72)) := ⟨_, rfl⟩
  have HR : Hid (RowU W0 (w.heap.size + 1) f) := Lib.hid (by
    rw [hW]
    have := rowU_new (w.alloc (.cells #[.int .i64 (n : Int), .slice A m c] 24)) f
    simpa using this)
  have HBW : Hid (Below w.heap.size w W0) := Lib.hid (by
    rw [hW]
    exact ((Below.refl _ _).alloc (Nat.le_refl _) _).alloc (by simp) _)
  rw [← hW]
  clear hW
  go_loop [7, 11] (fun r i => ∃ k : Nat, k ≤ n ∧ i = .int .i64 (k : Int) ∧ r = .int .u64 ((rdyK f s k : Nat) : Int)) (fun _ i => n - (intOf i).toNat)
  case atStart => exact ⟨0, by omega, rfl, rfl⟩
  case round =>
    obtain ⟨k, hk, rfl, rfl⟩ := hrel
    by_cases hlt : k < n
    · have hk64 : k < 64 := by omega
      have hk65 : (k : Int) < 64 := by omega
      have hcell := HR.out.cell hk64
      have HA := Lib.hid (andn_bool (HF.out k) HS.out)
      have HO := Lib.hid (or_spell2 (rdyK_lt f s k (by omega)) hk64)
      have HN : Hid (rdyK f s (k + 1) = if rdy f s k then add (rdyK f s k) k else rdyK f s k) := Lib.hid rfl
      cases hb : bt s k with
      | true =>
        have HQ : Hid (rdy f s k = false) := Lib.hid (by unfold rdy; rw [hb]; rfl)
        have HB := Lib.hid hb
        clear hb
        go_wp2_with (go_at_call 42; refine (has_any HS.out hk64).mono ?_; rintro e w' ⟨rfl, rfl⟩; rw [HB.out])
        go_round
        case rel => exact ⟨k + 1, by omega, by go_num, by rw [HN.out, HQ.out]; rfl⟩
        case measure => simp [intOf]; omega
      | false =>
        have HB := Lib.hid hb
        clear hb
        by_cases hz : andn (f k) s = 0
        · have HQ : Hid (rdy f s k = true) := Lib.hid (by unfold rdy; rw [HB.out, hz]; rfl)
          have hq : (bits BinOp.andNot IntKind.u64 (f k : Int) (s : Int) == 0) = true := by rw [HA.out, hz]; rfl
          clear hz
          go_wp2_with (go_at_call 42; refine (has_any HS.out hk64).mono ?_; rintro e w' ⟨rfl, rfl⟩; rw [HB.out])
          go_round
          case rel => exact ⟨k + 1, by omega, by go_num, by rw [HN.out, HQ.out, HO.out]; rfl⟩
          case measure => simp [intOf]; omega
        · have HQ : Hid (rdy f s k = false) := Lib.hid (by unfold rdy; rw [HB.out, decide_eq_false hz]; rfl)
          have hq : (bits BinOp.andNot IntKind.u64 (f k : Int) (s : Int) == 0) = false := by rw [HA.out, decide_eq_false hz]
          clear hz
          go_wp2_with (go_at_call 42; refine (has_any HS.out hk64).mono ?_; rintro e w' ⟨rfl, rfl⟩; rw [HB.out])
          go_round
          case rel => exact ⟨k + 1, by omega, by go_num, by rw [HN.out, HQ.out]; rfl⟩
          case measure => simp [intOf]; omega
    · obtain rfl : k = n := by omega
      go_wp2
      go_ret
      exact ⟨rfl, HBW.out⟩

/-- Has a set only nodes below n? -/
def fitsB (s n : Nat) : Bool := decide (s / 2 ^ n = 0)
theorem fits_neq {s n : Nat} : ((s : Int) / 2 ^ n != 0) = !fitsB s n := by
  have e : ((s : Int) / 2 ^ n) = ((s / 2 ^ n : Nat) : Int) := by simp
  rw [e]
  unfold fitsB
  by_cases h : s / 2 ^ n = 0
  · rw [h]; rfl
  · simp only [h, decide_false, Bool.not_false, bne_iff_ne, ne_eq]
    omega

set_option maxHeartbeats 1000000 in
theorem checkSet_bad {w : World} {B m c : Nat} {n z : Int} {A : Option Addr} {es : List (Int × Int)} (hx : RdE w B A m es) (hr : ¬ GraphR n es) (hm0 : m ≤ 9223372036854775807) (hB : B ≤ w.heap.size) :
    Calls Tryd.prog 43 #[.agg #[.int .i64 n, .slice A m c], .int .u64 z] w fun e w' => e = .returned (.int .i64 20) ∧ Below w.heap.size w w' := by
  have HX := Lib.hid hx
  have HR := Lib.hid hr
  clear hx hr
  go_enter Tryd.func43, Tryd.ntmps43
  go_wp2_with fail
  refine (check_no (HX.out.alloc hB _) HR.out hm0 (by simp; omega)).mono ?_
  rintro e w2 ⟨rfl, hb⟩
  have HB := Lib.hid hb
  clear hb
  go_wp2
  go_ret
  exact ⟨rfl, ((Below.refl _ _).alloc (Nat.le_refl _) _).trans (HB.out.mono (by simp))⟩

theorem graphR_cast {n : Nat} {g : List (Nat × Nat)} (hi : InN n g) (hn : n ≤ 64) (hm : g.length ≤ 4096) : GraphR (n : Int) (castE g) := by
  refine ⟨by omega, by omega, by rw [castE_len]; exact hm, fun k hk => ?_⟩
  rw [castE_len] at hk
  obtain ⟨h1, h2⟩ := hi k hk
  rw [ea_cast, eb_cast]
  unfold node
  simp; omega

set_option maxHeartbeats 1000000 in
theorem checkSet_any {w : World} {B m c n s : Nat} {A : Option Addr} {g : List (Nat × Nat)} (hx : RdG w B A m g) (hi : InN n g) (hn : n ≤ 64) (hm : m ≤ 4096) (hB : B ≤ w.heap.size) :
    Calls Tryd.prog 43 #[.agg #[.int .i64 (n : Int), .slice A m c], .int .u64 (s : Int)] w fun e w' => e = .returned (.int .i64 (if fitsB s n then 0 else 20)) ∧ Below w.heap.size w w' := by
  have HX := Lib.hid hx
  have HR := Lib.hid (graphR_cast hi hn (by rw [hx.len]; exact hm))
  clear hx hi
  cases hft : fitsB s n
  all_goals
    have HQ := Lib.hid (fits_neq (s := s) (n := n))
    rw [hft] at HQ
    have hq := HQ.out
    clear HQ hft
    go_enter Tryd.func43, Tryd.ntmps43
    go_wp2_with fail
    refine (check_yes (RdE.alloc HX.out hB _) HR.out (by simp; omega)).mono ?_
    rintro e w2 ⟨rfl, hb⟩
    obtain ⟨hcn, hcs⟩ := (boxed_alloc w (n : Int) A m c 24).below hb (by simp)
    have HB := Lib.hid hb
    clear hb
    go_wp2
    go_ret
    exact ⟨rfl, ((Below.refl _ _).alloc (Nat.le_refl _) _).trans (HB.out.mono (by simp))⟩

/-- Is a set closed, as far as the first k edges tell? -/
def clB (g : List (Nat × Nat)) (s : Nat) : Nat → Bool
  | 0 => true
  | k + 1 => clB g s k && (!bt s (fb g k) || bt s (fa g k))
theorem clB_later {g : List (Nat × Nat)} {s k : Nat} (h : clB g s k = false) : ∀ m, clB g s (k + m) = false := by
  intro m
  induction m with
  | zero => exact h
  | succ m ih => show (clB g s (k + m) && _) = false; rw [ih]; rfl
theorem clB_iff (g : List (Nat × Nat)) (s : Nat) : ∀ k, clB g s k = true ↔ ∀ j, j < k → bt s (fb g j) = true → bt s (fa g j) = true := by
  intro k
  induction k with
  | zero => simp [clB]
  | succ k ih =>
    unfold clB
    rw [Bool.and_eq_true, ih]
    constructor
    · rintro ⟨h1, h2⟩ j hj hb
      by_cases e : j = k
      · subst e; rw [hb] at h2; simpa using h2
      · exact h1 j (by omega) hb
    · intro h
      refine ⟨fun j hj => h j (by omega), ?_⟩
      cases hb : bt s (fb g k) with
      | false => rfl
      | true => rw [h k (by omega) hb]; rfl
def closedB (g : List (Nat × Nat)) (s : Nat) : Bool := clB g s g.length
theorem closedB_iff (g : List (Nat × Nat)) (s : Nat) : closedB g s = true ↔ Cl g s := clB_iff g s _

end Go.Proofs.YtfcabdgidlnljaaDoor
