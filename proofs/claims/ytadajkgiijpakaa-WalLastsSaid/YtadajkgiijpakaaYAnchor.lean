/-
  SMALL WORDS for the contracts of package sum.
-/
import Derived.Test.YtadajkgiijpakaaYFrame
import Derived.Lib.SlBytesConst
namespace Go.Proofs.Ytadajkgiijpakaa
open Go.RowKit
open ByteP
set_option linter.unusedVariables false

theorem below_drewN {B : Nat} {a w : World} (h : Below B a w) (k : Nat) : Below B a (w.drewN k) := ⟨h.os, h.tape, h.output, h.size, h.block⟩
theorem bytes_nil : Bytes [] := by intro i; simp [ix]
end Go.Proofs.Ytadajkgiijpakaa
