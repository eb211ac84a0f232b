/-
  CONTRACT of package dock's Grow, over this translation.
-/
import Derived.Test.YtfpcfbolpnfacaaKMore
namespace Go.Proofs.Ytfpcfbolpnfacaa
open Go.RowKit
open ByteP
set_option linter.unusedVariables false
set_option maxRecDepth 10000
section
variable {w : World} {db mb K : Nat} {n : Nm} {F : Int → Option Fi}
theorem grow_any (h : Dk w db mb K n F) (x : Int) : Calls Try.prog 20 #[.pointer (some ⟨db, 0, none⟩), .int .i64 x] w fun e w' => e = .returned (.tuple #[]) ∧ Dk w' db mb K { n with cap := min (max x 0) 16777216 } F ∧ Fr w w' (Mine db mb F) := by
  have H := Lib.hid h
  have c0 := h.c0
  have f0 := h.fz 0
  clear h
  go_enter Try.func20, Try.ntmps20
  go_wp2
  all_goals (go_end0; refine ⟨rfl, ?_, Fr.setCell _ _ (.inl rfl) _⟩; first | (rw [show min (max x 0) 16777216 = 0 by omega]; exact H.out.setCap _) | (rw [show min (max x 0) 16777216 = x by omega]; exact H.out.setCap _) | (rw [show min (max x 0) 16777216 = 16777216 by omega]; exact H.out.setCap _))
end
end Go.Proofs.Ytfpcfbolpnfacaa
