/-
  The document's timeOf, over this translation.
-/
import Derived.Test.YtinphdphloddmabCMore
namespace Go.Proofs.Ytinphdphloddmab
open Go.RowKit
open ByteP
set_option linter.unusedVariables false
set_option maxRecDepth 10000

/-- The document's two lists say what the map of alarms says. -/
structure LiD (G : Int → Option Int) (ids ats : List Int) (n : Nat) : Prop where
  li : ids.length = n
  la : ats.length = n
  nodup : ids.Nodup
  at_ : ∀ i, i < n → G (ix ids i) = some (ix ats i)
  mem : ∀ x t, G x = some t → ∃ i, i < n ∧ ix ids i = x
theorem time_of {w : World} {B1 B2 n c1 c2 : Nat} {A1 A2 : Option Addr} {ids ats : List Int} {G : Int → Option Int} {x : Int} (h1 : Rd w B1 A1 n ids) (h2 : Rd w B2 A2 n ats) (hn : n ≤ 1099511627776) (hL : LiD G ids ats n) :
    Calls Try.prog 53 #[.slice A1 n c1, .slice A2 n c2, .int .i64 x] w fun e w' => e = .returned (.int .i64 (tOf G x)) ∧ w' = w := by
  have H1 := Lib.hid h1
  have H2 := Lib.hid h2
  have HL := Lib.hid hL
  clear h1 h2 hL
  go_enter Try.func53, Try.ntmps53
  go_wp2
  obtain ⟨wo, HWO⟩ : ∃ wo : World, Hid (wo = w) := ⟨w, Lib.hid rfl⟩
  go_loopw [11] (fun i wr => ∃ j : Nat, j ≤ n ∧ i = .int .i64 (j : Int) ∧ Hid (∀ i, i < j → ix ids i ≠ x) ∧ Hid (wo = wr)) (fun i _ => n - (intOf i).toNat)
  case atStart => exact ⟨0, by omega, rfl, Lib.hid (fun i hi => absurd hi (by omega)), HWO⟩
  case round =>
    obtain ⟨j, hj, rfl, hno, hw⟩ := hrel
    obtain rfl : w = wr := HWO.out.symm.trans hw.out
    by_cases hjn : j < n
    · have hd : decide ((j : Int) < (n : Int)) = true := by simp; omega
      obtain ⟨b1, o1, rfl, _, hc1⟩ := H1.out.at_ hjn
      obtain ⟨b2, o2, rfl, _, hc2⟩ := H2.out.at_ hjn
      have hi : (j : Int) < (n : Int) := by omega
      have hadd : IntKind.i64.wrap ((j : Int) + 1) = ((j + 1 : Nat) : Int) := by rw [IntWalk.i64_in _ (by omega)]; omega
      by_cases hx : ix ids j = x
      · have hq : (ix ids j == x) = true := by simp [hx]
        have ht : tOf G x = ix ats j := by unfold tOf; rw [← hx, HL.out.at_ j hjn]; rfl
        have HT := Lib.hid ht
        clear ht hx
        go_wp2
        go_ret
        exact ⟨by rw [HT.out]; rfl, rfl⟩
      · have hq : (ix ids j == x) = false := by simp [hx]
        have HN : Hid (∀ i, i < j + 1 → ix ids i ≠ x) := Lib.hid (fun i hi => by
          by_cases e : i = j
          · subst e; exact hx
          · exact hno.out i (by omega))
        clear hx
        go_wp2
        go_roundw
        case rel => exact ⟨j + 1, by omega, rfl, HN, hw⟩
        case measure => simp [intOf]; omega
    · have hd : decide ((j : Int) < (n : Int)) = false := by simp; omega
      have HT : Hid (tOf G x = 0) := Lib.hid (by
        unfold tOf
        cases hg : G x with
        | none => rfl
        | some t =>
          obtain ⟨i, hi, e⟩ := HL.out.mem x t hg
          exact absurd e (hno.out i (by omega)))
      go_wp2
      go_ret
      exact ⟨by rw [HT.out]; rfl, rfl⟩
end Go.Proofs.Ytinphdphloddmab
