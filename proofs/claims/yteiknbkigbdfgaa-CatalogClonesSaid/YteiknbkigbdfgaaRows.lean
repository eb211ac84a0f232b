/-
  No cell of these rows narrows 'for every input' (looked for: loops, veiled, ifaces, maps, wideKeys, modest, calm, conditions, laid).
  DERIVED. THE GIVEN ROWS OF THIS SEAT. 6 by the template 'for every input the law returns true; each argument reads behind the call as it read before'; 0 by the template 'total and deterministic' (their statements: YteiknbkigbdfgaaTotals.lean).
  GIVEN WITH THE SEED: the statements are not yours to turn. If you find one false, say at which input.
  Laid BY PROGRAM, IN A SANDBOX (cutbox-rows.mjs): the forced cells as the released guide's own fill.sh prints them over the translation 13a688aa66e22dd5… (all of the seat's roots in one cut). By AI agents, Wed Nov 11 2026. No macro, syntax, notation, axiom, sorry.
-/
import Derived.Test.YteiknbkigbdfgaaChecked
import GoSem.Claim
import GoSem.ClaimJoined
import GoSem.ClaimMapViews
import Derived.JoinedTies
import Derived.KernelRfl
namespace Go.Proofs.Yteiknbkigbdfgaa
/- THE CELL 'sum', in the pinned program and in every row, IS THE sha256 OF THE DUMP (.gsa) THAT YteiknbkigbdfgaaProg.lean LOADS. Nothing in Lean hashes anything: it is a label: what it is worth is what the hold of that sum in a sandbox is worth. -/
noncomputable def Try.pinned : Pinned := { name := "yteiknbkigbdfgaa", sum := "13a688aa66e22dd5cf80640ba23bd845363329f14c23d7e55e68a2bbad35035a", checked := Try.checked }
namespace Rows
def none {H : Type} : Left H := { results := [], args := [] }

/-- 'slipwaylaw06.CatalogClones': WHATEVER THE INPUT: true; the input reads as it did. -/
def catalogClonesSpec : ChangeSpec := { name := "catalogClones", fn := fun _ => fun
  | [d] => { results := [.lit (.bool true)], args := [d] }
  | _ => none }
def catalogClonesRow : OpenClaim := { program := "yteiknbkigbdfgaa", sum := "13a688aa66e22dd5cf80640ba23bd845363329f14c23d7e55e68a2bbad35035a", func := "slipway/slipwaylaw06.CatalogClones", spec := "catalogClones", inPlace := ["internal/bytealg.IndexByteString", "internal/bytealg.IndexString", "internal/bytealg.abigen_runtime_cmpstring", "math.archTrunc", "math.Float64bits", "math.Float64frombits"], unfollowed := true, recurses := true, named := ["internal/bytealg.MaxLen"], apart := false }
def CatalogClonesSaid : Prop := catalogClonesRow.holds Try.pinned (OpenSpec.ofChange catalogClonesSpec)

/-- ITS FALSE NEIGHBOUR: 'it returns false'. Refute it at one input. -/
def catalogClonesWrong : ChangeSpec := { name := "catalogClones", fn := fun _ => fun
  | [d] => { results := [.lit (.bool false)], args := [d] }
  | _ => none }
def CatalogClonesWrongFalsely : Prop := catalogClonesRow.holds Try.pinned (OpenSpec.ofChange catalogClonesWrong)

/-- 'slipwaylaw07.SolveChecks': WHATEVER THE INPUT: true; the input reads as it did. -/
def solveChecksSpec : ChangeSpec := { name := "solveChecks", fn := fun _ => fun
  | [d1, d2, d3] => { results := [.lit (.bool true)], args := [d1, d2, d3] }
  | _ => none }
def solveChecksRow : OpenClaim := { program := "yteiknbkigbdfgaa", sum := "13a688aa66e22dd5cf80640ba23bd845363329f14c23d7e55e68a2bbad35035a", func := "slipway/slipwaylaw07.SolveChecks", spec := "solveChecks", inPlace := ["internal/bytealg.IndexByteString", "internal/bytealg.IndexString", "internal/bytealg.abigen_runtime_cmpstring"], unfollowed := true, recurses := true, named := ["internal/bytealg.MaxLen"], apart := false }
def SolveChecksSaid : Prop := solveChecksRow.holds Try.pinned (OpenSpec.ofChange solveChecksSpec)

/-- ITS FALSE NEIGHBOUR: 'it returns false'. Refute it at one input. -/
def solveChecksWrong : ChangeSpec := { name := "solveChecks", fn := fun _ => fun
  | [d1, d2, d3] => { results := [.lit (.bool false)], args := [d1, d2, d3] }
  | _ => none }
def SolveChecksWrongFalsely : Prop := solveChecksRow.holds Try.pinned (OpenSpec.ofChange solveChecksWrong)

/-- 'slipwaylaw07.SolveMeets': WHATEVER THE INPUT: true; the input reads as it did. -/
def solveMeetsSpec : ChangeSpec := { name := "solveMeets", fn := fun _ => fun
  | [d1, d2, d3] => { results := [.lit (.bool true)], args := [d1, d2, d3] }
  | _ => none }
def solveMeetsRow : OpenClaim := { program := "yteiknbkigbdfgaa", sum := "13a688aa66e22dd5cf80640ba23bd845363329f14c23d7e55e68a2bbad35035a", func := "slipway/slipwaylaw07.SolveMeets", spec := "solveMeets", inPlace := ["internal/bytealg.IndexByteString", "internal/bytealg.IndexString", "internal/bytealg.abigen_runtime_cmpstring"], unfollowed := true, recurses := true, named := ["internal/bytealg.MaxLen"], apart := false }
def SolveMeetsSaid : Prop := solveMeetsRow.holds Try.pinned (OpenSpec.ofChange solveMeetsSpec)

/-- ITS FALSE NEIGHBOUR: 'it returns false'. Refute it at one input. -/
def solveMeetsWrong : ChangeSpec := { name := "solveMeets", fn := fun _ => fun
  | [d1, d2, d3] => { results := [.lit (.bool false)], args := [d1, d2, d3] }
  | _ => none }
def SolveMeetsWrongFalsely : Prop := solveMeetsRow.holds Try.pinned (OpenSpec.ofChange solveMeetsWrong)

/-- 'slipwaylaw07.SolveTargets': WHATEVER THE INPUT: true; the input reads as it did. -/
def solveTargetsSpec : ChangeSpec := { name := "solveTargets", fn := fun _ => fun
  | [d1, d2, d3] => { results := [.lit (.bool true)], args := [d1, d2, d3] }
  | _ => none }
def solveTargetsRow : OpenClaim := { program := "yteiknbkigbdfgaa", sum := "13a688aa66e22dd5cf80640ba23bd845363329f14c23d7e55e68a2bbad35035a", func := "slipway/slipwaylaw07.SolveTargets", spec := "solveTargets", inPlace := ["internal/bytealg.IndexByteString", "internal/bytealg.IndexString", "internal/bytealg.abigen_runtime_cmpstring"], unfollowed := true, recurses := true, named := ["internal/bytealg.MaxLen"], apart := false }
def SolveTargetsSaid : Prop := solveTargetsRow.holds Try.pinned (OpenSpec.ofChange solveTargetsSpec)

/-- ITS FALSE NEIGHBOUR: 'it returns false'. Refute it at one input. -/
def solveTargetsWrong : ChangeSpec := { name := "solveTargets", fn := fun _ => fun
  | [d1, d2, d3] => { results := [.lit (.bool false)], args := [d1, d2, d3] }
  | _ => none }
def SolveTargetsWrongFalsely : Prop := solveTargetsRow.holds Try.pinned (OpenSpec.ofChange solveTargetsWrong)

/-- 'slipwaylaw07.SolvePins': WHATEVER THE INPUT: true; the input reads as it did. -/
def solvePinsSpec : ChangeSpec := { name := "solvePins", fn := fun _ => fun
  | [d1, d2, d3, d4] => { results := [.lit (.bool true)], args := [d1, d2, d3, d4] }
  | _ => none }
def solvePinsRow : OpenClaim := { program := "yteiknbkigbdfgaa", sum := "13a688aa66e22dd5cf80640ba23bd845363329f14c23d7e55e68a2bbad35035a", func := "slipway/slipwaylaw07.SolvePins", spec := "solvePins", inPlace := ["internal/bytealg.IndexByteString", "internal/bytealg.IndexString", "internal/bytealg.abigen_runtime_cmpstring"], unfollowed := true, recurses := true, named := ["internal/bytealg.MaxLen"], apart := false }
def SolvePinsSaid : Prop := solvePinsRow.holds Try.pinned (OpenSpec.ofChange solvePinsSpec)

/-- ITS FALSE NEIGHBOUR: 'it returns false'. Refute it at one input. -/
def solvePinsWrong : ChangeSpec := { name := "solvePins", fn := fun _ => fun
  | [d1, d2, d3, d4] => { results := [.lit (.bool false)], args := [d1, d2, d3, d4] }
  | _ => none }
def SolvePinsWrongFalsely : Prop := solvePinsRow.holds Try.pinned (OpenSpec.ofChange solvePinsWrong)

/-- 'slipwaylaw07.SolveFree': WHATEVER THE INPUT: true; the input reads as it did. -/
def solveFreeSpec : ChangeSpec := { name := "solveFree", fn := fun _ => fun
  | [d1, d2, d3] => { results := [.lit (.bool true)], args := [d1, d2, d3] }
  | _ => none }
def solveFreeRow : OpenClaim := { program := "yteiknbkigbdfgaa", sum := "13a688aa66e22dd5cf80640ba23bd845363329f14c23d7e55e68a2bbad35035a", func := "slipway/slipwaylaw07.SolveFree", spec := "solveFree", inPlace := ["internal/bytealg.IndexByteString", "internal/bytealg.IndexString", "internal/bytealg.abigen_runtime_cmpstring"], unfollowed := true, recurses := true, named := ["internal/bytealg.MaxLen"], apart := false }
def SolveFreeSaid : Prop := solveFreeRow.holds Try.pinned (OpenSpec.ofChange solveFreeSpec)

/-- ITS FALSE NEIGHBOUR: 'it returns false'. Refute it at one input. -/
def solveFreeWrong : ChangeSpec := { name := "solveFree", fn := fun _ => fun
  | [d1, d2, d3] => { results := [.lit (.bool false)], args := [d1, d2, d3] }
  | _ => none }
def SolveFreeWrongFalsely : Prop := solveFreeRow.holds Try.pinned (OpenSpec.ofChange solveFreeWrong)

/- THE SECOND FORM. 'bulk': how many values and letters a reading holds, each counted each time it is reached (what is shared counts as often as it is met; a slice's spare places count too). A statement '..UptoSaid' is the law's where the arguments, and the package variables that the reading takes, are together of bulk at most 1048576: NARROWER than '..Said'. Prove '..Said' where nothing that the law and all that it calls make is longer than what came in: it says more and counts as full. Else prove '..UptoSaid'. A law counts once. -/
mutual
def uptoBulk {H : Type} : DataW H → Nat
  | .lit (.string bytes) => bytes.length + 1
  | .lit _ => 1
  | .nil => 1
  | .ptr d => uptoBulk d + 1
  | .slice elems spare => uptoBulkAll elems + uptoBulkAll spare + 1
  | .agg parts => uptoBulkAll parts + 1
  | .iface _ d => uptoBulk d + 1
  | .map entries => uptoBulkEntries entries + 1
  | .held _ => 1
def uptoBulkAll {H : Type} : List (DataW H) → Nat
  | [] => 0
  | d :: r => uptoBulk d + uptoBulkAll r
def uptoBulkEntries {H : Type} : List (Lit × DataW H) → Nat
  | [] => 0
  | x :: r => uptoBulkEntry x + uptoBulkEntries r
def uptoBulkEntry {H : Type} : Lit × DataW H → Nat
  | (.string bytes, d) => bytes.length + uptoBulk d + 1
  | (_, d) => uptoBulk d + 1
 end
def uptoSmall : (H : Type) → List (DataW H) → Bool := fun _ ds => decide (uptoBulkAll ds ≤ 1048576)
def OpenSpec.upto (s : _root_.Go.ChangeSpec) : _root_.Go.OpenSpec := { _root_.Go.OpenSpec.ofChange s with cond := some uptoSmall }

/-- 'slipwaylaw06.CatalogClones', WHERE WHAT IT READS IS OF BULK AT MOST 1048576: true; the input reads as it did. -/
def catalogClonesUptoRow : OpenClaim := { program := "yteiknbkigbdfgaa", sum := "13a688aa66e22dd5cf80640ba23bd845363329f14c23d7e55e68a2bbad35035a", func := "slipway/slipwaylaw06.CatalogClones", spec := "catalogClones", inPlace := ["internal/bytealg.IndexByteString", "internal/bytealg.IndexString", "internal/bytealg.abigen_runtime_cmpstring", "math.archTrunc", "math.Float64bits", "math.Float64frombits"], unfollowed := true, recurses := true, named := ["internal/bytealg.MaxLen"], apart := false, narrowed := true }
def CatalogClonesUptoSaid : Prop := catalogClonesUptoRow.holds Try.pinned (OpenSpec.upto catalogClonesSpec)

/-- 'slipwaylaw07.SolveChecks', WHERE WHAT IT READS IS OF BULK AT MOST 1048576: true; the input reads as it did. -/
def solveChecksUptoRow : OpenClaim := { program := "yteiknbkigbdfgaa", sum := "13a688aa66e22dd5cf80640ba23bd845363329f14c23d7e55e68a2bbad35035a", func := "slipway/slipwaylaw07.SolveChecks", spec := "solveChecks", inPlace := ["internal/bytealg.IndexByteString", "internal/bytealg.IndexString", "internal/bytealg.abigen_runtime_cmpstring"], unfollowed := true, recurses := true, named := ["internal/bytealg.MaxLen"], apart := false, narrowed := true }
def SolveChecksUptoSaid : Prop := solveChecksUptoRow.holds Try.pinned (OpenSpec.upto solveChecksSpec)

/-- 'slipwaylaw07.SolveMeets', WHERE WHAT IT READS IS OF BULK AT MOST 1048576: true; the input reads as it did. -/
def solveMeetsUptoRow : OpenClaim := { program := "yteiknbkigbdfgaa", sum := "13a688aa66e22dd5cf80640ba23bd845363329f14c23d7e55e68a2bbad35035a", func := "slipway/slipwaylaw07.SolveMeets", spec := "solveMeets", inPlace := ["internal/bytealg.IndexByteString", "internal/bytealg.IndexString", "internal/bytealg.abigen_runtime_cmpstring"], unfollowed := true, recurses := true, named := ["internal/bytealg.MaxLen"], apart := false, narrowed := true }
def SolveMeetsUptoSaid : Prop := solveMeetsUptoRow.holds Try.pinned (OpenSpec.upto solveMeetsSpec)

/-- 'slipwaylaw07.SolveTargets', WHERE WHAT IT READS IS OF BULK AT MOST 1048576: true; the input reads as it did. -/
def solveTargetsUptoRow : OpenClaim := { program := "yteiknbkigbdfgaa", sum := "13a688aa66e22dd5cf80640ba23bd845363329f14c23d7e55e68a2bbad35035a", func := "slipway/slipwaylaw07.SolveTargets", spec := "solveTargets", inPlace := ["internal/bytealg.IndexByteString", "internal/bytealg.IndexString", "internal/bytealg.abigen_runtime_cmpstring"], unfollowed := true, recurses := true, named := ["internal/bytealg.MaxLen"], apart := false, narrowed := true }
def SolveTargetsUptoSaid : Prop := solveTargetsUptoRow.holds Try.pinned (OpenSpec.upto solveTargetsSpec)

/-- 'slipwaylaw07.SolvePins', WHERE WHAT IT READS IS OF BULK AT MOST 1048576: true; the input reads as it did. -/
def solvePinsUptoRow : OpenClaim := { program := "yteiknbkigbdfgaa", sum := "13a688aa66e22dd5cf80640ba23bd845363329f14c23d7e55e68a2bbad35035a", func := "slipway/slipwaylaw07.SolvePins", spec := "solvePins", inPlace := ["internal/bytealg.IndexByteString", "internal/bytealg.IndexString", "internal/bytealg.abigen_runtime_cmpstring"], unfollowed := true, recurses := true, named := ["internal/bytealg.MaxLen"], apart := false, narrowed := true }
def SolvePinsUptoSaid : Prop := solvePinsUptoRow.holds Try.pinned (OpenSpec.upto solvePinsSpec)

/-- 'slipwaylaw07.SolveFree', WHERE WHAT IT READS IS OF BULK AT MOST 1048576: true; the input reads as it did. -/
def solveFreeUptoRow : OpenClaim := { program := "yteiknbkigbdfgaa", sum := "13a688aa66e22dd5cf80640ba23bd845363329f14c23d7e55e68a2bbad35035a", func := "slipway/slipwaylaw07.SolveFree", spec := "solveFree", inPlace := ["internal/bytealg.IndexByteString", "internal/bytealg.IndexString", "internal/bytealg.abigen_runtime_cmpstring"], unfollowed := true, recurses := true, named := ["internal/bytealg.MaxLen"], apart := false, narrowed := true }
def SolveFreeUptoSaid : Prop := solveFreeUptoRow.holds Try.pinned (OpenSpec.upto solveFreeSpec)

end Rows
end Go.Proofs.Yteiknbkigbdfgaa
