/-
  Two pairs of ints, compared, over this translation.
-/
import Derived.Test.YtinphdphloddmaaDEdgesE
namespace Go.Proofs.Ytinphdphloddmaa
open Go.RowKit
open DiP
set_option linter.unusedVariables false
set_option maxRecDepth 10000
theorem eqPair_d (w : World) (d : Nat) (a b : Int) : (Op.equalIn (d + 2) 52 (.agg #[.int .i64 a, .int .i64 b]) (.agg #[.int .i64 a, .int .i64 b])).run Try.prog w = .ok true w := by
  obtain ⟨i0, hi, hz0, hz1, hz2⟩ := info_parts infoPair
  have ht := Try.underlying52
  have hi3 := Try.underlying3
  obtain ⟨i1, hj, hj0, hj1, hj2⟩ := info_parts infoInt
  have q := fun x => run_equalIn_int (P := Try.prog) w d 3 .i64 .i64 x x hi3
  unfold Op.equalIn
  simp [run_underlying ht, sizeOf, typeInfo, hj, hj1, List.range', part, q]
theorem eqPair (w : World) (a b : Int) : (Op.equalIn 10000 52 (.agg #[.int .i64 a, .int .i64 b]) (.agg #[.int .i64 a, .int .i64 b])).run Try.prog w = .ok true w := eqPair_d w 9998 a b
end Go.Proofs.Ytinphdphloddmaa
