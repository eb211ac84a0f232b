/-
  CONTRACT of Of of package sum at one text, over this translation.
-/
import Derived.Test.YticklaophgekeaaYFrame
namespace Go.Proofs.Yticklaophgekeaa
open Go.RowKit
open ByteP
set_option linter.unusedVariables false

theorem of_one {w : World} {B n c : Nat} {A : Option Addr} {xs : List Int} (h0 : RdY w B A n xs) (b0 : Bytes xs) (hB : B ≤ w.heap.size) (l0 : n ≤ 9223372036854775807) :
    Calls Try.prog 62 #[.slice (some ⟨w.heap.size, 0, none⟩) 1 1] (w.alloc (.cells #[.slice A n c] 26)) fun e w' => e = .returned (.int .i64 (moreN 0 xs)) ∧ w.alloc (.cells #[.slice A n c] 26) = w' :=
  of_any (Rd2.lit1 h0 b0 hB l0) (by omega)

end Go.Proofs.Yticklaophgekeaa
