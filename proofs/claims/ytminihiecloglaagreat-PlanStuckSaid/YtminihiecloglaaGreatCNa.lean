/-
 MERGED: CNd CNs.
-/
import Derived.Test.YtminihiecloglaaGreatCSx
import Derived.Laws.EntriesVeiled
set_option linter.unusedVariables false
set_option linter.unusedSimpArgs false
namespace Go.Proofs.YtminihiecloglaaGreat
open Go.RowKit
open SemP
set_option maxRecDepth 10000
theorem isService_any {w : World} {n c : Nat} {x : Int} {A : Option Addr} :
  Calls Tryz.prog 85 #[.agg #[.slice A n c], .int .i64 x] w fun e w' => e = .returned (.bool (decide (0 ≤ x) && decide (x < (n : Int)))) ∧ Below w.heap.size w w' := by
 have HB : Hid (Below w.heap.size w (w.alloc (.cells #[.slice A n c] 24))) := Lib.hid ((Below.refl _ w).alloc (Nat.le_refl _) _)
 by_cases h : 0 ≤ x
 ·have d1 : decide (0 ≤ x) = true := decide_eq_true h
  have HD : Hid ((decide (0 ≤ x) && decide (x < (n : Int))) = decide (x < (n : Int))) := Lib.hid (by rw [d1]; rfl)
  rw [HD.out]
  go_enter Tryz.func85, Tryz.ntmps85
  go_wp2
  refine bodyPost_ret (results_tmp rfl _ _ _) rfl ⟨rfl, HB.out⟩
 ·have d1 : decide (0 ≤ x) = false := decide_eq_false h
  have HD : Hid ((decide (0 ≤ x) && decide (x < (n : Int))) = false) := Lib.hid (by rw [d1]; rfl)
  rw [HD.out]
  go_enter Tryz.func85, Tryz.ntmps85
  go_wp2
  refine bodyPost_ret (results_tmp rfl _ _ _) rfl ⟨rfl, HB.out⟩
theorem RdJ.below' {α : Type} [Inhabited α] {z : Nat} {I : ItT α} (hI : Turns I) {w w' : World} {B : Nat} {A : Option Addr} {n : Nat} {l : List α} (h : RdJ z I w (fun b => B ≤ b) A n l) (hB : B ≤ w.heap.size) (hb : Below w.heap.size w w') : RdJ z I w' (fun b => B ≤ b) A n l := RdJ.below hI h (hb.mono hB)
end Go.Proofs.YtminihiecloglaaGreat
namespace Go.Proofs.YtminihiecloglaaGreat
open Go.RowKit
open SemP
set_option maxRecDepth 10000
end Go.Proofs.YtminihiecloglaaGreat
