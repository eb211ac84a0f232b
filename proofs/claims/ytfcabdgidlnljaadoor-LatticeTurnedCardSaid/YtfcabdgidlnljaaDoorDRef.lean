/-
  CONTRACTS of the document's Closed and Ready, over this translation.
-/
import Derived.Test.YtfcabdgidlnljaaDoorDReady
import Derived.Test.YtfcabdgidlnljaaDoorDRight
namespace Go.Proofs.YtfcabdgidlnljaaDoor
open Go.RowKit
open DiP
set_option linter.unusedVariables false

theorem rdy_of {g : List (Nat × Nat)} {n s v : Nat} (hi : InN n g) (hn : n ≤ 64) (hs : s < lim) (h0 : bt s v = false) (h : ∀ j, j < g.length → fb g j = v → bt s (fa g j) = true) : rdy (befG g) s v = true := by
  unfold rdy
  rw [h0]
  have : andn (befG g v) s = 0 := by
    rw [andn_zero (befG_small hi hn v) hs]
    intro u hu
    obtain ⟨j, hj, rfl, hb⟩ := (bt_befG g u v).1 hu
    exact h j hj hb
  rw [this]; rfl
theorem rdy_not {g : List (Nat × Nat)} {n s v j : Nat} (hi : InN n g) (hn : n ≤ 64) (hs : s < lim) (hj : j < g.length) (hb : fb g j = v) (ha : bt s (fa g j) = false) : rdy (befG g) s v = false := by
  unfold rdy
  have : ¬ andn (befG g v) s = 0 := by
    rw [andn_zero (befG_small hi hn v) hs]
    intro h
    have := h (fa g j) ((bt_befG g _ _).2 ⟨j, hj, rfl, hb⟩)
    rw [ha] at this; cases this
  rw [decide_eq_false this]; simp

set_option maxHeartbeats 1000000 in
theorem refClosed_any {w : World} {B m c n s : Nat} {A : Option Addr} {g : List (Nat × Nat)} (hx : RdG w B A m g) (hi : InN n g) (hn : n ≤ 64) (hm : m ≤ 4096) (hB : B ≤ w.heap.size) (hs : s < lim) :
    Calls Tryd.prog 17 #[.agg #[.int .i64 (n : Int), .slice A m c], .int .u64 (s : Int)] w fun e w' => e = .returned (.bool (closedB g s)) ∧ Below w.heap.size w w' := by
  have HX := Lib.hid hx
  have HI := Lib.hid hi
  have HL := Lib.hid hx.len
  have HS := Lib.hid hs
  clear hx hi hs
  go_enter Tryd.func17, Tryd.ntmps17
  go_wp2_with fail
  have HW : Hid (Boxed (w.alloc (.cells #[.int .i64 (n : Int), .slice A m c] 26)) w.heap.size n A m c ∧ Below w.heap.size w (w.alloc (.cells #[.int .i64 (n : Int), .slice A m c] 26))) := Lib.hid ⟨boxed_alloc _ _ _ _ _ _, (Below.refl _ _).alloc (Nat.le_refl _) _⟩
  generalize (w.alloc (.cells #[.int .i64 (n : Int), .slice A m c] 26)) = W0 at HW ⊢
  obtain ⟨hcn, hcs⟩ := HW.out.1
  go_loop [5] (fun i => ∃ k : Nat, k ≤ m ∧ i = .int .i64 (k : Int) ∧ Hid (clB g s k = true)) (fun i => m - (intOf i).toNat)
  case atStart => exact ⟨0, by omega, rfl, Lib.hid rfl⟩
  case round =>
    obtain ⟨k, hk, rfl, HV⟩ := hrel
    by_cases hlt : k < m
    · obtain ⟨b, off, rfl, hbb, hca, hcb⟩ := (HX.out.below (HW.out.2.mono hB)).at_ hlt
      obtain ⟨hfa, hfb⟩ := HI.out k (by rw [HL.out]; exact hlt)
      have HK : Hid (clB g s (k + 1) = (!bt s (fb g k) || bt s (fa g k))) := Lib.hid (by show (clB g s k && _) = _; rw [HV.out]; rfl)
      have HC : Hid (closedB g s = clB g s m) := Lib.hid (by unfold closedB; rw [HL.out])
      have HE : Hid (clB g s (k + 1) = false → clB g s m = false) := Lib.hid (fun h => by have := clB_later h (m - (k + 1)); rwa [show k + 1 + (m - (k + 1)) = m by omega] at this)
      cases hb : bt s (fb g k) with
      | false =>
        have HH := Lib.hid hb
        clear hb
        go_wp2_with (go_at_call 21; refine (in_any HS.out (by omega)).mono ?_; rintro e w' ⟨rfl, rfl⟩; rw [HH.out])
        go_round
        case rel => exact ⟨k + 1, by omega, by go_num, Lib.hid (by rw [HK.out, HH.out]; rfl)⟩
        case measure => simp [intOf]; omega
      | true =>
        cases ha : bt s (fa g k) with
        | false =>
          have HH := Lib.hid hb
          have HA := Lib.hid ha
          clear hb ha
          go_wp2_with fail
          refine (in_any HS.out (by omega)).mono ?_; rintro e w' ⟨rfl, rfl⟩; rw [HH.out]
          go_wp2_with fail
          refine (in_any HS.out (by omega)).mono ?_; rintro e w' ⟨rfl, rfl⟩; rw [HA.out]
          go_wp2
          go_ret
          exact ⟨by rw [HC.out, HE.out (by rw [HK.out, HH.out, HA.out]; rfl)]; rfl, HW.out.2⟩
        | true =>
          have HH := Lib.hid hb
          have HA := Lib.hid ha
          clear hb ha
          go_wp2_with fail
          refine (in_any HS.out (by omega)).mono ?_; rintro e w' ⟨rfl, rfl⟩; rw [HH.out]
          go_wp2_with fail
          refine (in_any HS.out (by omega)).mono ?_; rintro e w' ⟨rfl, rfl⟩; rw [HA.out]
          go_wp2
          go_round
          case rel => exact ⟨k + 1, by omega, by go_num, Lib.hid (by rw [HK.out, HH.out, HA.out]; rfl)⟩
          case measure => simp [intOf]; omega
    · have e : k = m := by omega
      have HC : Hid (closedB g s = true) := Lib.hid (by unfold closedB; rw [HL.out, ← e]; exact HV.out)
      clear e
      go_wp2
      go_ret
      exact ⟨by rw [HC.out]; rfl, HW.out.2⟩

set_option maxHeartbeats 1000000 in
theorem refReady_any {w : World} {B m c n s v : Nat} {A : Option Addr} {g : List (Nat × Nat)} (hx : RdG w B A m g) (hi : InN n g) (hn : n ≤ 64) (hm : m ≤ 4096) (hB : B ≤ w.heap.size) (hs : s < lim) (hv : v < 64) :
    Calls Tryd.prog 18 #[.agg #[.int .i64 (n : Int), .slice A m c], .int .u64 (s : Int), .int .i64 (v : Int)] w fun e w' => e = .returned (.bool (rdy (befG g) s v)) ∧ Below w.heap.size w w' := by
  have HX := Lib.hid hx
  have HI := Lib.hid hi
  have HL := Lib.hid hx.len
  have HS := Lib.hid hs
  clear hx hi hs
  cases h0 : bt s v with
  | true =>
    have H0 := Lib.hid h0
    have HQ : Hid (rdy (befG g) s v = false) := Lib.hid (by unfold rdy; rw [h0]; rfl)
    clear h0
    go_enter Tryd.func18, Tryd.ntmps18
    go_wp2_with (go_at_call 21; refine (in_any HS.out hv).mono ?_; rintro e w' ⟨rfl, rfl⟩; rw [H0.out])
    go_ret
    exact ⟨by rw [HQ.out]; rfl, (Below.refl _ _).alloc (Nat.le_refl _) _⟩
  | false =>
    have H0 := Lib.hid h0
    clear h0
    go_enter Tryd.func18, Tryd.ntmps18
    go_wp2_with fail
    refine (in_any HS.out hv).mono ?_; rintro e w' ⟨rfl, rfl⟩; rw [H0.out]
    go_wp2_with fail
    have HW : Hid (Boxed (w.alloc (.cells #[.int .i64 (n : Int), .slice A m c] 26)) w.heap.size n A m c ∧ Below w.heap.size w (w.alloc (.cells #[.int .i64 (n : Int), .slice A m c] 26))) := Lib.hid ⟨boxed_alloc _ _ _ _ _ _, (Below.refl _ _).alloc (Nat.le_refl _) _⟩
    generalize (w.alloc (.cells #[.int .i64 (n : Int), .slice A m c] 26)) = W0 at HW ⊢
    obtain ⟨hcn, hcs⟩ := HW.out.1
    go_loop [7] (fun i => ∃ k : Nat, k ≤ m ∧ i = .int .i64 (k : Int) ∧ Hid (∀ j, j < k → fb g j = v → bt s (fa g j) = true)) (fun i => m - (intOf i).toNat)
    case atStart => exact ⟨0, by omega, rfl, Lib.hid (fun j hj => absurd hj (by omega))⟩
    case round =>
      obtain ⟨k, hk, rfl, HV⟩ := hrel
      by_cases hlt : k < m
      · obtain ⟨b, off, rfl, hbb, hca, hcb⟩ := (HX.out.below (HW.out.2.mono hB)).at_ hlt
        obtain ⟨hfa, hfb⟩ := HI.out k (by rw [HL.out]; exact hlt)
        by_cases hbv : fb g k = v
        · have hq : ((fb g k : Int) == (v : Int)) = true := by rw [hbv]; simp
          have HBV := Lib.hid hbv
          clear hbv
          cases ha : bt s (fa g k) with
          | true =>
            have HA := Lib.hid ha
            clear ha
            go_wp2_with (go_at_call 21; refine (in_any HS.out (by omega)).mono ?_; rintro e w' ⟨rfl, rfl⟩; rw [HA.out])
            go_round
            case rel => exact ⟨k + 1, by omega, by go_num, Lib.hid (fun j hj hb => by
              by_cases hjk : j = k
              · rw [hjk]; exact HA.out
              · exact HV.out j (by omega) hb)⟩
            case measure => simp [intOf]; omega
          | false =>
            have HA := Lib.hid ha
            have HQ := Lib.hid (rdy_not HI.out hn HS.out (by rw [HL.out]; exact hlt) HBV.out ha)
            clear ha
            go_wp2_with (go_at_call 21; refine (in_any HS.out (by omega)).mono ?_; rintro e w' ⟨rfl, rfl⟩; rw [HA.out])
            go_ret
            exact ⟨by rw [HQ.out]; rfl, HW.out.2⟩
        · have hq : ((fb g k : Int) == (v : Int)) = false := by simp; omega
          have HBV := Lib.hid hbv
          clear hbv
          go_wp2
          go_round
          case rel => exact ⟨k + 1, by omega, by go_num, Lib.hid (fun j hj hb => by
            by_cases hjk : j = k
            · rw [hjk] at hb; exact absurd hb HBV.out
            · exact HV.out j (by omega) hb)⟩
          case measure => simp [intOf]; omega
      · have HQ : Hid (rdy (befG g) s v = true) := Lib.hid (rdy_of HI.out hn HS.out H0.out (fun j hj => HV.out j (by rw [HL.out] at hj; omega)))
        go_wp2
        go_ret
        exact ⟨by rw [HQ.out]; rfl, HW.out.2⟩
end Go.Proofs.YtfcabdgidlnljaaDoor
