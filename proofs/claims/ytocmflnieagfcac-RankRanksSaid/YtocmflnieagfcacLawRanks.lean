/-
  THE WALK of the statement RankRanks: whatever the order, the call returns true and writes nothing that was there.
-/
import Derived.Test.YtocmflnieagfcacRanks
namespace Go.Proofs.Ytocmflnieagfcac
open Go.RowKit
open RankP
set_option linter.unusedVariables false

theorem cap_of_row {w : World} {a : Option Addr} {len cap : Nat} {zs : List Int}
    (h : (a = none ∧ len = 0 ∧ cap = 0 ∧ zs = []) ∨ ∃ x, a = some x ∧ len ≤ cap ∧ cap ≤ maxLen ∧ zs.length = cap ∧ (∀ i, i < zs.length → w.cell? (x.add i) = some (.int .i64 (zs.getD i 0))) ∧ ∀ n ∈ zs, (Lit.int .i64 n).wf = true) : len ≤ cap := by
  rcases h with ⟨_, rfl, rfl, _⟩ | ⟨_, _, hl, _⟩
  · exact Nat.le_refl _
  · exact hl

/-- Is xs right as far as k? As far as k and, at k, against the first t? -/
def RTo (xs : List Int) (k : Nat) : Prop := (∀ i < k, 0 ≤ ix xs i ∧ ix xs i < xs.length) ∧ ∀ i < k, ∀ j < i, ix xs i ≠ ix xs j
def RIn (xs : List Int) (k t : Nat) : Prop := RTo xs k ∧ (0 ≤ ix xs k ∧ ix xs k < xs.length) ∧ ∀ j < t, ix xs k ≠ ix xs j
theorem RIn.step {xs : List Int} {k : Nat} : RIn xs k k ↔ RTo xs (k + 1) := by
  constructor
  · rintro ⟨h1, h2, h3⟩
    refine ⟨fun i hi => ?_, fun i hi j hj => ?_⟩
    · by_cases e : i = k
      · subst e; exact h2
      · exact h1.1 i (by omega)
    · by_cases e : i = k
      · subst e; exact h3 j hj
      · exact h1.2 i (by omega) j hj
  · rintro ⟨h1, h2⟩
    exact ⟨⟨fun i hi => h1 i (by omega), fun i hi j hj => h2 i (by omega) j hj⟩, h1 k (by omega), fun j hj => h2 k (by omega) j hj⟩

set_option maxRecDepth 100000 in
set_option maxHeartbeats 3200000 in
theorem law_ranks {w : World} {n c : Nat} {A : Option Addr} {xs : List Int} (hx : Rd w w.heap.size A n xs) (hn : n ≤ 9223372036854775807) (hcap : n ≤ c) :
    Calls Try.prog 7 #[.slice A n c] w fun e w' => e = .returned (.bool true) ∧ Below w.heap.size w w' := by
  have HX := Lib.hid hx
  have HXL := Lib.hid hx.1
  clear hx
  by_cases h200 : 200 < n
  · go_enter Try.func7, Try.ntmps7
    go_wp2_with (go_at_call 18; refine (anchor_any _).mono ?_; rintro e w1 ⟨rfl, hbel⟩; (have HB := Lib.hid hbel); clear hbel)
    go_ret
    exact ⟨rfl, HB.out⟩
  · go_enter Try.func7, Try.ntmps7
    go_wp2_with (go_at_call 18; refine (anchor_any _).mono ?_; rintro e w1 ⟨rfl, hbel⟩; (have HB := Lib.hid hbel); (have hs1 : w.heap.size ≤ w1.heap.size := hbel.size); (have HX1 : Hid (Rd w1 w.heap.size A n xs) := Lib.hid (HX.out.below hbel)); clear hbel)
    go_loop [3, 21] (fun r i => ∃ (k : Nat) (b : Bool), k ≤ n ∧ i = .int .i64 (k : Int) ∧ r = .bool b ∧ Hid (b = true ↔ RTo xs k)) (fun _ i => n - (intOf i).toNat)
    case atStart => exact ⟨0, true, by omega, rfl, rfl, Lib.hid ⟨fun _ => ⟨fun i hi => absurd hi (by omega), fun i hi => absurd hi (by omega)⟩, fun _ => rfl⟩⟩
    case round =>
      obtain ⟨k, b, hk, rfl, rfl, HR⟩ := hrel
      by_cases hlt : k < n
      · obtain ⟨b1, off, rfl, hb1, hc⟩ := HX1.out.at_ hlt
        have hkc : k ≤ c := by omega
        cases b with
        | false =>
          have HI : Hid ((false : Bool) = true ↔ RIn xs k 0) := Lib.hid ⟨fun h => (by cases h), fun h => HR.out.2 h.1⟩
          go_wp2
          go_loop [3, 41] (fun r j => ∃ (t : Nat) (d : Bool), t ≤ k ∧ j = .int .i64 (t : Int) ∧ r = .bool d ∧ Hid (d = true ↔ RIn xs k t)) (fun _ j => k - (intOf j).toNat)
          case atStart => exact ⟨0, false, by omega, rfl, rfl, HI⟩
          case round =>
            obtain ⟨t, d, ht, rfl, rfl, HD⟩ := hrel
            by_cases hlt2 : t < k
            · obtain ⟨b2, off2, e2, _, hc2⟩ := HX1.out.at_ (show t < n by omega)
              cases e2
              cases d with
              | false =>
                have HD2 : Hid ((false : Bool) = true ↔ RIn xs k (t + 1)) := Lib.hid ⟨fun h => (by cases h), fun h => HD.out.2 ⟨h.1, h.2.1, fun j hj => h.2.2 j (by omega)⟩⟩
                go_wp2
                go_round
                case rel => exact ⟨t + 1, false, by omega, by go_num, rfl, HD2⟩
                case measure => simp [intOf]; omega
              | true =>
                by_cases he : ix xs k = ix xs t
                · have hq : (ix xs k != ix xs t) = false := by simp [he]
                  have HD2 : Hid ((false : Bool) = true ↔ RIn xs k (t + 1)) := Lib.hid ⟨fun h => (by cases h), fun h => absurd he (h.2.2 t (by omega))⟩
                  clear he
                  go_wp2
                  go_round
                  case rel => exact ⟨t + 1, false, by omega, by go_num, rfl, HD2⟩
                  case measure => simp [intOf]; omega
                · have hq : (ix xs k != ix xs t) = true := by simp [he]
                  have HD2 : Hid ((true : Bool) = true ↔ RIn xs k (t + 1)) := Lib.hid ⟨fun _ => (by
                    have h := HD.out.1 rfl
                    refine ⟨h.1, h.2.1, fun j hj => ?_⟩
                    by_cases e : j = t
                    · subst e; exact he
                    · exact h.2.2 j (by omega)), fun _ => rfl⟩
                  clear he
                  go_wp2
                  go_round
                  case rel => exact ⟨t + 1, true, by omega, by go_num, rfl, HD2⟩
                  case measure => simp [intOf]; omega
            · obtain rfl : t = k := by omega
              have HD2 : Hid (d = true ↔ RTo xs (t + 1)) := Lib.hid (HD.out.trans RIn.step)
              go_wp2
              go_round
              case rel => exact ⟨t + 1, d, by omega, by go_num, rfl, HD2⟩
              case measure => simp [intOf]; omega
        | true =>
          by_cases hx0 : 0 ≤ ix xs k
          · by_cases hxn : ix xs k < n
            · have HI : Hid ((true : Bool) = true ↔ RIn xs k 0) := Lib.hid ⟨fun _ => ⟨HR.out.1 rfl, ⟨hx0, (by rw [HXL.out]; exact hxn)⟩, fun j hj => absurd hj (by omega)⟩, fun _ => rfl⟩
              go_wp2
              go_loop [3, 41] (fun r j => ∃ (t : Nat) (d : Bool), t ≤ k ∧ j = .int .i64 (t : Int) ∧ r = .bool d ∧ Hid (d = true ↔ RIn xs k t)) (fun _ j => k - (intOf j).toNat)
              case atStart => exact ⟨0, true, by omega, rfl, rfl, Lib.hid ⟨fun _ => HI.out.1 (by simp), fun _ => rfl⟩⟩
              case round =>
                obtain ⟨t, d, ht, rfl, rfl, HD⟩ := hrel
                by_cases hlt2 : t < k
                · obtain ⟨b2, off2, e2, _, hc2⟩ := HX1.out.at_ (show t < n by omega)
                  cases e2
                  cases d with
                  | false =>
                    have HD2 : Hid ((false : Bool) = true ↔ RIn xs k (t + 1)) := Lib.hid ⟨fun h => (by cases h), fun h => HD.out.2 ⟨h.1, h.2.1, fun j hj => h.2.2 j (by omega)⟩⟩
                    go_wp2
                    go_round
                    case rel => exact ⟨t + 1, false, by omega, by go_num, rfl, HD2⟩
                    case measure => simp [intOf]; omega
                  | true =>
                    by_cases he : ix xs k = ix xs t
                    · have hq : (ix xs k != ix xs t) = false := by simp [he]
                      have HD2 : Hid ((false : Bool) = true ↔ RIn xs k (t + 1)) := Lib.hid ⟨fun h => (by cases h), fun h => absurd he (h.2.2 t (by omega))⟩
                      clear he
                      go_wp2
                      go_round
                      case rel => exact ⟨t + 1, false, by omega, by go_num, rfl, HD2⟩
                      case measure => simp [intOf]; omega
                    · have hq : (ix xs k != ix xs t) = true := by simp [he]
                      have HD2 : Hid ((true : Bool) = true ↔ RIn xs k (t + 1)) := Lib.hid ⟨fun _ => (by
                        have h := HD.out.1 rfl
                        refine ⟨h.1, h.2.1, fun j hj => ?_⟩
                        by_cases e : j = t
                        · subst e; exact he
                        · exact h.2.2 j (by omega)), fun _ => rfl⟩
                      clear he
                      go_wp2
                      go_round
                      case rel => exact ⟨t + 1, true, by omega, by go_num, rfl, HD2⟩
                      case measure => simp [intOf]; omega
                · obtain rfl : t = k := by omega
                  have HD2 : Hid (d = true ↔ RTo xs (t + 1)) := Lib.hid (HD.out.trans RIn.step)
                  go_wp2
                  go_round
                  case rel => exact ⟨t + 1, d, by omega, by go_num, rfl, HD2⟩
                  case measure => simp [intOf]; omega
            · have hxn2 : (n : Int) ≤ ix xs k := by omega
              have HI : Hid ((false : Bool) = true ↔ RIn xs k 0) := Lib.hid ⟨fun h => (by cases h), fun h => absurd h.2.1.2 (by rw [HXL.out]; exact hxn)⟩
              go_wp2
              go_loop [3, 41] (fun r j => ∃ (t : Nat) (d : Bool), t ≤ k ∧ j = .int .i64 (t : Int) ∧ r = .bool d ∧ Hid (d = true ↔ RIn xs k t)) (fun _ j => k - (intOf j).toNat)
              case atStart => exact ⟨0, false, by omega, rfl, rfl, HI⟩
              case round =>
                obtain ⟨t, d, ht, rfl, rfl, HD⟩ := hrel
                by_cases hlt2 : t < k
                · obtain ⟨b2, off2, e2, _, hc2⟩ := HX1.out.at_ (show t < n by omega)
                  cases e2
                  cases d with
                  | false =>
                    have HD2 : Hid ((false : Bool) = true ↔ RIn xs k (t + 1)) := Lib.hid ⟨fun h => (by cases h), fun h => HD.out.2 ⟨h.1, h.2.1, fun j hj => h.2.2 j (by omega)⟩⟩
                    go_wp2
                    go_round
                    case rel => exact ⟨t + 1, false, by omega, by go_num, rfl, HD2⟩
                    case measure => simp [intOf]; omega
                  | true =>
                    by_cases he : ix xs k = ix xs t
                    · have hq : (ix xs k != ix xs t) = false := by simp [he]
                      have HD2 : Hid ((false : Bool) = true ↔ RIn xs k (t + 1)) := Lib.hid ⟨fun h => (by cases h), fun h => absurd he (h.2.2 t (by omega))⟩
                      clear he
                      go_wp2
                      go_round
                      case rel => exact ⟨t + 1, false, by omega, by go_num, rfl, HD2⟩
                      case measure => simp [intOf]; omega
                    · have hq : (ix xs k != ix xs t) = true := by simp [he]
                      have HD2 : Hid ((true : Bool) = true ↔ RIn xs k (t + 1)) := Lib.hid ⟨fun _ => (by
                        have h := HD.out.1 rfl
                        refine ⟨h.1, h.2.1, fun j hj => ?_⟩
                        by_cases e : j = t
                        · subst e; exact he
                        · exact h.2.2 j (by omega)), fun _ => rfl⟩
                      clear he
                      go_wp2
                      go_round
                      case rel => exact ⟨t + 1, true, by omega, by go_num, rfl, HD2⟩
                      case measure => simp [intOf]; omega
                · obtain rfl : t = k := by omega
                  have HD2 : Hid (d = true ↔ RTo xs (t + 1)) := Lib.hid (HD.out.trans RIn.step)
                  go_wp2
                  go_round
                  case rel => exact ⟨t + 1, d, by omega, by go_num, rfl, HD2⟩
                  case measure => simp [intOf]; omega
          · have hx02 : ix xs k < 0 := by omega
            have HI : Hid ((false : Bool) = true ↔ RIn xs k 0) := Lib.hid ⟨fun h => (by cases h), fun h => absurd h.2.1.1 hx0⟩
            go_wp2
            go_loop [3, 41] (fun r j => ∃ (t : Nat) (d : Bool), t ≤ k ∧ j = .int .i64 (t : Int) ∧ r = .bool d ∧ Hid (d = true ↔ RIn xs k t)) (fun _ j => k - (intOf j).toNat)
            case atStart => exact ⟨0, false, by omega, rfl, rfl, HI⟩
            case round =>
              obtain ⟨t, d, ht, rfl, rfl, HD⟩ := hrel
              by_cases hlt2 : t < k
              · obtain ⟨b2, off2, e2, _, hc2⟩ := HX1.out.at_ (show t < n by omega)
                cases e2
                cases d with
                | false =>
                  have HD2 : Hid ((false : Bool) = true ↔ RIn xs k (t + 1)) := Lib.hid ⟨fun h => (by cases h), fun h => HD.out.2 ⟨h.1, h.2.1, fun j hj => h.2.2 j (by omega)⟩⟩
                  go_wp2
                  go_round
                  case rel => exact ⟨t + 1, false, by omega, by go_num, rfl, HD2⟩
                  case measure => simp [intOf]; omega
                | true =>
                  by_cases he : ix xs k = ix xs t
                  · have hq : (ix xs k != ix xs t) = false := by simp [he]
                    have HD2 : Hid ((false : Bool) = true ↔ RIn xs k (t + 1)) := Lib.hid ⟨fun h => (by cases h), fun h => absurd he (h.2.2 t (by omega))⟩
                    clear he
                    go_wp2
                    go_round
                    case rel => exact ⟨t + 1, false, by omega, by go_num, rfl, HD2⟩
                    case measure => simp [intOf]; omega
                  · have hq : (ix xs k != ix xs t) = true := by simp [he]
                    have HD2 : Hid ((true : Bool) = true ↔ RIn xs k (t + 1)) := Lib.hid ⟨fun _ => (by
                      have h := HD.out.1 rfl
                      refine ⟨h.1, h.2.1, fun j hj => ?_⟩
                      by_cases e : j = t
                      · subst e; exact he
                      · exact h.2.2 j (by omega)), fun _ => rfl⟩
                    clear he
                    go_wp2
                    go_round
                    case rel => exact ⟨t + 1, true, by omega, by go_num, rfl, HD2⟩
                    case measure => simp [intOf]; omega
              · obtain rfl : t = k := by omega
                have HD2 : Hid (d = true ↔ RTo xs (t + 1)) := Lib.hid (HD.out.trans RIn.step)
                go_wp2
                go_round
                case rel => exact ⟨t + 1, d, by omega, by go_num, rfl, HD2⟩
                case measure => simp [intOf]; omega
      · obtain rfl : k = n := by omega
        have HR2 : Hid (b = true ↔ Right xs) := Lib.hid (by
          have h := HR.out
          rw [← HXL.out] at h
          exact h)
        have hk2 : k ≤ 1000000 := by omega
        clear HR
        go_wp2_with fail
        refine (ranks_any HX1.out hk2 hs1).mono ?_
        rintro e w2 ⟨hpost, hbel2⟩
        have HB2 : Hid (Below w.heap.size w w2) := Lib.hid (HB.out.trans (hbel2.mono hs1))
        have HX2 : Hid (Rd w2 w.heap.size A k xs) := Lib.hid (HX1.out.below (hbel2.mono hs1))
        have hs2 : w.heap.size ≤ w2.heap.size := HB2.out.size
        clear hbel2
        rcases hpost with ⟨v, rs, rfl, hown, hright, hrk⟩ | ⟨rfl, hno⟩
        · obtain rfl : b = true := HR2.out.2 hright
          obtain ⟨D, d, rfl, hrd⟩ := hown.shape
          have HD := Lib.hid hrd
          have HRI := Lib.hid hright
          have HRK := Lib.hid hrk
          have hbk : ((k : Int) != (k : Int)) = false := by simp
          clear hown hrd hright hrk
          go_wp2
          go_loop [78] (fun i => ∃ t : Nat, t ≤ k ∧ i = .int .i64 (t : Int)) (fun i => k - (intOf i).toNat)
          case atStart => exact ⟨0, by omega, rfl⟩
          case round =>
            obtain ⟨t, ht, rfl⟩ := hrel
            by_cases hlt2 : t < k
            · obtain ⟨b1, off, rfl, hb1, hc⟩ := HX2.out.at_ hlt2
              obtain ⟨q, hq⟩ := Int.eq_ofNat_of_zero_le (HRI.out.1 t (by rw [HXL.out]; exact hlt2)).1
              have hqn : q < k := by
                have := (HRI.out.1 t (by rw [HXL.out]; exact hlt2)).2
                rw [hq, HXL.out] at this
                omega
              obtain ⟨b3, off3, rfl, hb3, hc3⟩ := HD.out.at_ hqn
              have hv : (ix rs q != (t : Int)) = false := by
                have := HRK.out.2 t (by rw [HXL.out]; exact hlt2)
                rw [hq] at this
                simp only [Int.toNat_natCast] at this
                rw [this]; simp
              rw [hq] at hc
              clear hq
              go_wp2
              go_round
              case rel => exact ⟨t + 1, by omega, by go_num⟩
              case measure => simp [intOf]; omega
            · go_wp2_with fail
              refine (ranks_any HD.out hk2 (Nat.le_refl _)).mono ?_
              rintro e w3 ⟨hpost, hbel3⟩
              have HB3 : Hid (Below w.heap.size w w3) := Lib.hid (HB2.out.trans (hbel3.mono hs2))
              have HX3 : Hid (Rd w3 w.heap.size A k xs) := Lib.hid (HX2.out.below (hbel3.mono hs2))
              have hs3 : w.heap.size ≤ w3.heap.size := HB3.out.size
              clear hbel3
              rcases hpost with ⟨v, bs, rfl, hown, _, hrk2⟩ | ⟨rfl, hno⟩
              · obtain ⟨E, e2, rfl, hrd⟩ := hown.shape
                have HE := Lib.hid hrd
                have HBX : Hid (bs = xs) := Lib.hid (HRK.out.back HRI.out hrk2)
                clear hown hrd hrk2
                go_wp2_with (go_at_call 22; refine (same_any HE.out (HX3.out.more hs3) hn hn).mono ?_; rintro e w5 ⟨rfl, rfl⟩; rw [HBX.out, sameB_refl])
                go_ret
                exact ⟨rfl, HB3.out⟩
              · exact absurd (HRK.out.right HRI.out) hno
        · have hbf : b = false := by
            cases b with
            | false => rfl
            | true => exact absurd (HR2.out.1 rfl) hno
          subst hbf
          go_wp2
          go_ret
          exact ⟨rfl, HB2.out⟩
end Go.Proofs.Ytocmflnieagfcac
