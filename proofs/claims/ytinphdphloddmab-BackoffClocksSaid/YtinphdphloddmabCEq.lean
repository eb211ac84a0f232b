/-
  The document's Ints, over this translation.
-/
import Derived.Test.YtinphdphloddmabCActs
namespace Go.Proofs.Ytinphdphloddmab
open Go.RowKit
open ByteP
set_option linter.unusedVariables false
set_option maxRecDepth 10000

/-- The document's Ints: two slices of the same numbers. -/
theorem ints_yes {w : World} {B1 B2 n c1 c2 : Nat} {A1 A2 : Option Addr} {xs : List Int} (h1 : Rd w B1 A1 n xs) (h2 : Rd w B2 A2 n xs) (hn : n ≤ 1099511627776) :
    Calls Try.prog 17 #[.slice A1 n c1, .slice A2 n c2] w fun e w' => e = .returned (.bool true) ∧ w = w' := by
  have H1 := Lib.hid h1
  have H2 := Lib.hid h2
  clear h1 h2
  go_enter Try.func17, Try.ntmps17
  go_wp2
  obtain ⟨wo, HWO⟩ : ∃ wo : World, Hid (wo = w) := ⟨w, Lib.hid rfl⟩
  go_loopw [14] (fun i wr => ∃ j : Nat, j ≤ n ∧ i = .int .i64 (j : Int) ∧ Hid (wo = wr)) (fun i _ => n - (intOf i).toNat)
  case atStart => exact ⟨0, by omega, rfl, HWO⟩
  case round =>
    obtain ⟨j, hj, rfl, hw⟩ := hrel
    obtain rfl : w = wr := HWO.out.symm.trans hw.out
    by_cases hjn : j < n
    · have hd : decide ((j : Int) < (n : Int)) = true := by simp; omega
      obtain ⟨b1, o1, rfl, _, hc1⟩ := H1.out.at_ hjn
      obtain ⟨b2, o2, rfl, _, hc2⟩ := H2.out.at_ hjn
      have hi : (j : Int) < (n : Int) := by omega
      have hadd : IntKind.i64.wrap ((j : Int) + 1) = ((j + 1 : Nat) : Int) := by rw [IntWalk.i64_in _ (by omega)]; omega
      go_wp2
      go_roundw
      case rel => exact ⟨j + 1, by omega, rfl, hw⟩
      case measure => simp [intOf]; omega
    · have hd : decide ((j : Int) < (n : Int)) = false := by simp; omega
      go_wp2
      go_ret
      exact ⟨rfl, rfl⟩

end Go.Proofs.Ytinphdphloddmab
