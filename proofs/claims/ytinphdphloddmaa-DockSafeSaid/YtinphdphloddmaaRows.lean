/-
  No cell of these rows narrows 'for every input' (looked for: loops, veiled, ifaces, maps, wideKeys, modest, calm, conditions, laid).
  DERIVED. THE GIVEN ROWS OF THIS SEAT. 12 by the template 'for every input the law returns true; each argument reads behind the call as it read before'; 0 by the template 'total and deterministic' (their statements: YtinphdphloddmaaTotals.lean).
  GIVEN WITH THE SEED: the statements are not yours to turn. If you find one false, say at which input.
  Laid BY PROGRAM, IN A SANDBOX (cutbox-rows.mjs): the forced cells as the released guide's own fill.sh prints them over the translation d0b263d215a07b31… (all of the seat's roots in one cut). By AI agents, Wed Nov 11 2026. No macro, syntax, notation, axiom, sorry.
-/
import Derived.Test.YtinphdphloddmaaChecked
import GoSem.Claim
import GoSem.ClaimJoined
import GoSem.ClaimMapViews
import Derived.JoinedTies
import Derived.KernelRfl
namespace Go.Proofs.Ytinphdphloddmaa
/- THE CELL 'sum', in the pinned program and in every row, IS THE sha256 OF THE DUMP (.gsa) THAT YtinphdphloddmaaProg.lean LOADS. Nothing in Lean hashes anything: it is a label: what it is worth is what the hold of that sum in a sandbox is worth. -/
noncomputable def Try.pinned : Pinned := { name := "ytinphdphloddmaa", sum := "d0b263d215a07b3138259fd311da5390d61e1bdfe9f7ddcab63fcea99bd985e7", checked := Try.checked }
namespace Rows
def none {H : Type} : Left H := { results := [], args := [] }

/-- 'slipwaylaw03.DigraphOrder': WHATEVER THE INPUT: true; the input reads as it did. -/
def digraphOrderSpec : ChangeSpec := { name := "digraphOrder", fn := fun _ => fun
  | [d] => { results := [.lit (.bool true)], args := [d] }
  | _ => none }
def digraphOrderRow : OpenClaim := { program := "ytinphdphloddmaa", sum := "d0b263d215a07b3138259fd311da5390d61e1bdfe9f7ddcab63fcea99bd985e7", func := "slipway/slipwaylaw03.DigraphOrder", spec := "digraphOrder", apart := false }
def DigraphOrderSaid : Prop := digraphOrderRow.holds Try.pinned (OpenSpec.ofChange digraphOrderSpec)

/-- ITS FALSE NEIGHBOUR: 'it returns false'. Refute it at one input. -/
def digraphOrderWrong : ChangeSpec := { name := "digraphOrder", fn := fun _ => fun
  | [d] => { results := [.lit (.bool false)], args := [d] }
  | _ => none }
def DigraphOrderWrongFalsely : Prop := digraphOrderRow.holds Try.pinned (OpenSpec.ofChange digraphOrderWrong)

/-- 'slipwaylaw03.DigraphReach': WHATEVER THE INPUT: true; the input reads as it did. -/
def digraphReachSpec : ChangeSpec := { name := "digraphReach", fn := fun _ => fun
  | [d] => { results := [.lit (.bool true)], args := [d] }
  | _ => none }
def digraphReachRow : OpenClaim := { program := "ytinphdphloddmaa", sum := "d0b263d215a07b3138259fd311da5390d61e1bdfe9f7ddcab63fcea99bd985e7", func := "slipway/slipwaylaw03.DigraphReach", spec := "digraphReach", apart := false }
def DigraphReachSaid : Prop := digraphReachRow.holds Try.pinned (OpenSpec.ofChange digraphReachSpec)

/-- ITS FALSE NEIGHBOUR: 'it returns false'. Refute it at one input. -/
def digraphReachWrong : ChangeSpec := { name := "digraphReach", fn := fun _ => fun
  | [d] => { results := [.lit (.bool false)], args := [d] }
  | _ => none }
def DigraphReachWrongFalsely : Prop := digraphReachRow.holds Try.pinned (OpenSpec.ofChange digraphReachWrong)

/-- 'slipwaylaw03.DigraphSets': WHATEVER THE INPUT: true; the input reads as it did. -/
def digraphSetsSpec : ChangeSpec := { name := "digraphSets", fn := fun _ => fun
  | [d1, d2] => { results := [.lit (.bool true)], args := [d1, d2] }
  | _ => none }
def digraphSetsRow : OpenClaim := { program := "ytinphdphloddmaa", sum := "d0b263d215a07b3138259fd311da5390d61e1bdfe9f7ddcab63fcea99bd985e7", func := "slipway/slipwaylaw03.DigraphSets", spec := "digraphSets", apart := false }
def DigraphSetsSaid : Prop := digraphSetsRow.holds Try.pinned (OpenSpec.ofChange digraphSetsSpec)

/-- ITS FALSE NEIGHBOUR: 'it returns false'. Refute it at one input. -/
def digraphSetsWrong : ChangeSpec := { name := "digraphSets", fn := fun _ => fun
  | [d1, d2] => { results := [.lit (.bool false)], args := [d1, d2] }
  | _ => none }
def DigraphSetsWrongFalsely : Prop := digraphSetsRow.holds Try.pinned (OpenSpec.ofChange digraphSetsWrong)

/-- 'slipwaylaw03.DigraphThin': WHATEVER THE INPUT: true; the input reads as it did. -/
def digraphThinSpec : ChangeSpec := { name := "digraphThin", fn := fun _ => fun
  | [d] => { results := [.lit (.bool true)], args := [d] }
  | _ => none }
def digraphThinRow : OpenClaim := { program := "ytinphdphloddmaa", sum := "d0b263d215a07b3138259fd311da5390d61e1bdfe9f7ddcab63fcea99bd985e7", func := "slipway/slipwaylaw03.DigraphThin", spec := "digraphThin", apart := false }
def DigraphThinSaid : Prop := digraphThinRow.holds Try.pinned (OpenSpec.ofChange digraphThinSpec)

/-- ITS FALSE NEIGHBOUR: 'it returns false'. Refute it at one input. -/
def digraphThinWrong : ChangeSpec := { name := "digraphThin", fn := fun _ => fun
  | [d] => { results := [.lit (.bool false)], args := [d] }
  | _ => none }
def DigraphThinWrongFalsely : Prop := digraphThinRow.holds Try.pinned (OpenSpec.ofChange digraphThinWrong)

/-- 'slipwaylaw03.DigraphPrefixes': WHATEVER THE INPUT: true; the input reads as it did. -/
def digraphPrefixesSpec : ChangeSpec := { name := "digraphPrefixes", fn := fun _ => fun
  | [d] => { results := [.lit (.bool true)], args := [d] }
  | _ => none }
def digraphPrefixesRow : OpenClaim := { program := "ytinphdphloddmaa", sum := "d0b263d215a07b3138259fd311da5390d61e1bdfe9f7ddcab63fcea99bd985e7", func := "slipway/slipwaylaw03.DigraphPrefixes", spec := "digraphPrefixes", apart := false }
def DigraphPrefixesSaid : Prop := digraphPrefixesRow.holds Try.pinned (OpenSpec.ofChange digraphPrefixesSpec)

/-- ITS FALSE NEIGHBOUR: 'it returns false'. Refute it at one input. -/
def digraphPrefixesWrong : ChangeSpec := { name := "digraphPrefixes", fn := fun _ => fun
  | [d] => { results := [.lit (.bool false)], args := [d] }
  | _ => none }
def DigraphPrefixesWrongFalsely : Prop := digraphPrefixesRow.holds Try.pinned (OpenSpec.ofChange digraphPrefixesWrong)

/-- 'slipwaylaw03.DigraphTurned': WHATEVER THE INPUT: true; the input reads as it did. -/
def digraphTurnedSpec : ChangeSpec := { name := "digraphTurned", fn := fun _ => fun
  | [d] => { results := [.lit (.bool true)], args := [d] }
  | _ => none }
def digraphTurnedRow : OpenClaim := { program := "ytinphdphloddmaa", sum := "d0b263d215a07b3138259fd311da5390d61e1bdfe9f7ddcab63fcea99bd985e7", func := "slipway/slipwaylaw03.DigraphTurned", spec := "digraphTurned", apart := false }
def DigraphTurnedSaid : Prop := digraphTurnedRow.holds Try.pinned (OpenSpec.ofChange digraphTurnedSpec)

/-- ITS FALSE NEIGHBOUR: 'it returns false'. Refute it at one input. -/
def digraphTurnedWrong : ChangeSpec := { name := "digraphTurned", fn := fun _ => fun
  | [d] => { results := [.lit (.bool false)], args := [d] }
  | _ => none }
def DigraphTurnedWrongFalsely : Prop := digraphTurnedRow.holds Try.pinned (OpenSpec.ofChange digraphTurnedWrong)

/-- 'slipwaylaw03.DigraphEdges': WHATEVER THE INPUT: true; the input reads as it did. -/
def digraphEdgesSpec : ChangeSpec := { name := "digraphEdges", fn := fun _ => fun
  | [d1, d2, d3] => { results := [.lit (.bool true)], args := [d1, d2, d3] }
  | _ => none }
def digraphEdgesRow : OpenClaim := { program := "ytinphdphloddmaa", sum := "d0b263d215a07b3138259fd311da5390d61e1bdfe9f7ddcab63fcea99bd985e7", func := "slipway/slipwaylaw03.DigraphEdges", spec := "digraphEdges", apart := false }
def DigraphEdgesSaid : Prop := digraphEdgesRow.holds Try.pinned (OpenSpec.ofChange digraphEdgesSpec)

/-- ITS FALSE NEIGHBOUR: 'it returns false'. Refute it at one input. -/
def digraphEdgesWrong : ChangeSpec := { name := "digraphEdges", fn := fun _ => fun
  | [d1, d2, d3] => { results := [.lit (.bool false)], args := [d1, d2, d3] }
  | _ => none }
def DigraphEdgesWrongFalsely : Prop := digraphEdgesRow.holds Try.pinned (OpenSpec.ofChange digraphEdgesWrong)

/-- 'slipwaylaw03.DigraphLevels': WHATEVER THE INPUT: true; the input reads as it did. -/
def digraphLevelsSpec : ChangeSpec := { name := "digraphLevels", fn := fun _ => fun
  | [d] => { results := [.lit (.bool true)], args := [d] }
  | _ => none }
def digraphLevelsRow : OpenClaim := { program := "ytinphdphloddmaa", sum := "d0b263d215a07b3138259fd311da5390d61e1bdfe9f7ddcab63fcea99bd985e7", func := "slipway/slipwaylaw03.DigraphLevels", spec := "digraphLevels", apart := false }
def DigraphLevelsSaid : Prop := digraphLevelsRow.holds Try.pinned (OpenSpec.ofChange digraphLevelsSpec)

/-- ITS FALSE NEIGHBOUR: 'it returns false'. Refute it at one input. -/
def digraphLevelsWrong : ChangeSpec := { name := "digraphLevels", fn := fun _ => fun
  | [d] => { results := [.lit (.bool false)], args := [d] }
  | _ => none }
def DigraphLevelsWrongFalsely : Prop := digraphLevelsRow.holds Try.pinned (OpenSpec.ofChange digraphLevelsWrong)

/-- 'slipwaylaw04.GaussSteps': WHATEVER THE INPUT: true; the input reads as it did. -/
def gaussStepsSpec : ChangeSpec := { name := "gaussSteps", fn := fun _ => fun
  | [d1, d2, d3] => { results := [.lit (.bool true)], args := [d1, d2, d3] }
  | _ => none }
def gaussStepsRow : OpenClaim := { program := "ytinphdphloddmaa", sum := "d0b263d215a07b3138259fd311da5390d61e1bdfe9f7ddcab63fcea99bd985e7", func := "slipway/slipwaylaw04.GaussSteps", spec := "gaussSteps", inPlace := ["math.archTrunc", "math.Float64bits", "math.Float64frombits"], apart := false }
def GaussStepsSaid : Prop := gaussStepsRow.holds Try.pinned (OpenSpec.ofChange gaussStepsSpec)

/-- ITS FALSE NEIGHBOUR: 'it returns false'. Refute it at one input. -/
def gaussStepsWrong : ChangeSpec := { name := "gaussSteps", fn := fun _ => fun
  | [d1, d2, d3] => { results := [.lit (.bool false)], args := [d1, d2, d3] }
  | _ => none }
def GaussStepsWrongFalsely : Prop := gaussStepsRow.holds Try.pinned (OpenSpec.ofChange gaussStepsWrong)

/-- 'slipwaylaw04.GaussThere': WHATEVER THE INPUT: true; the input reads as it did. -/
def gaussThereSpec : ChangeSpec := { name := "gaussThere", fn := fun _ => fun
  | [d1, d2, d3, d4] => { results := [.lit (.bool true)], args := [d1, d2, d3, d4] }
  | _ => none }
def gaussThereRow : OpenClaim := { program := "ytinphdphloddmaa", sum := "d0b263d215a07b3138259fd311da5390d61e1bdfe9f7ddcab63fcea99bd985e7", func := "slipway/slipwaylaw04.GaussThere", spec := "gaussThere", inPlace := ["math.archTrunc", "math.Float64bits", "math.Float64frombits"], apart := false }
def GaussThereSaid : Prop := gaussThereRow.holds Try.pinned (OpenSpec.ofChange gaussThereSpec)

/-- ITS FALSE NEIGHBOUR: 'it returns false'. Refute it at one input. -/
def gaussThereWrong : ChangeSpec := { name := "gaussThere", fn := fun _ => fun
  | [d1, d2, d3, d4] => { results := [.lit (.bool false)], args := [d1, d2, d3, d4] }
  | _ => none }
def GaussThereWrongFalsely : Prop := gaussThereRow.holds Try.pinned (OpenSpec.ofChange gaussThereWrong)

/-- 'slipwaylaw13.DockPlays': WHATEVER THE INPUT: true; the input reads as it did. -/
def dockPlaysSpec : ChangeSpec := { name := "dockPlays", fn := fun _ => fun
  | [d1, d2] => { results := [.lit (.bool true)], args := [d1, d2] }
  | _ => none }
def dockPlaysRow : OpenClaim := { program := "ytinphdphloddmaa", sum := "d0b263d215a07b3138259fd311da5390d61e1bdfe9f7ddcab63fcea99bd985e7", func := "slipway/slipwaylaw13.DockPlays", spec := "dockPlays", recurses := true, apart := false }
def DockPlaysSaid : Prop := dockPlaysRow.holds Try.pinned (OpenSpec.ofChange dockPlaysSpec)

/-- ITS FALSE NEIGHBOUR: 'it returns false'. Refute it at one input. -/
def dockPlaysWrong : ChangeSpec := { name := "dockPlays", fn := fun _ => fun
  | [d1, d2] => { results := [.lit (.bool false)], args := [d1, d2] }
  | _ => none }
def DockPlaysWrongFalsely : Prop := dockPlaysRow.holds Try.pinned (OpenSpec.ofChange dockPlaysWrong)

/-- 'slipwaylaw13.DockSafe': WHATEVER THE INPUT: true; the input reads as it did. -/
def dockSafeSpec : ChangeSpec := { name := "dockSafe", fn := fun _ => fun
  | [d1, d2, d3] => { results := [.lit (.bool true)], args := [d1, d2, d3] }
  | _ => none }
def dockSafeRow : OpenClaim := { program := "ytinphdphloddmaa", sum := "d0b263d215a07b3138259fd311da5390d61e1bdfe9f7ddcab63fcea99bd985e7", func := "slipway/slipwaylaw13.DockSafe", spec := "dockSafe", recurses := true, apart := false }
def DockSafeSaid : Prop := dockSafeRow.holds Try.pinned (OpenSpec.ofChange dockSafeSpec)

/-- ITS FALSE NEIGHBOUR: 'it returns false'. Refute it at one input. -/
def dockSafeWrong : ChangeSpec := { name := "dockSafe", fn := fun _ => fun
  | [d1, d2, d3] => { results := [.lit (.bool false)], args := [d1, d2, d3] }
  | _ => none }
def DockSafeWrongFalsely : Prop := dockSafeRow.holds Try.pinned (OpenSpec.ofChange dockSafeWrong)

/- THE SECOND FORM. 'bulk': how many values and letters a reading holds, each counted each time it is reached (what is shared counts as often as it is met; a slice's spare places count too). A statement '..UptoSaid' is the law's where the arguments, and the package variables that the reading takes, are together of bulk at most 1048576: NARROWER than '..Said'. Prove '..Said' where nothing that the law and all that it calls make is longer than what came in: it says more and counts as full. Else prove '..UptoSaid'. A law counts once. -/
mutual
def uptoBulk {H : Type} : DataW H → Nat
  | .lit (.string bytes) => bytes.length + 1
  | .lit _ => 1
  | .nil => 1
  | .ptr d => uptoBulk d + 1
  | .slice elems spare => uptoBulkAll elems + uptoBulkAll spare + 1
  | .agg parts => uptoBulkAll parts + 1
  | .iface _ d => uptoBulk d + 1
  | .map entries => uptoBulkEntries entries + 1
  | .held _ => 1
def uptoBulkAll {H : Type} : List (DataW H) → Nat
  | [] => 0
  | d :: r => uptoBulk d + uptoBulkAll r
def uptoBulkEntries {H : Type} : List (Lit × DataW H) → Nat
  | [] => 0
  | x :: r => uptoBulkEntry x + uptoBulkEntries r
def uptoBulkEntry {H : Type} : Lit × DataW H → Nat
  | (.string bytes, d) => bytes.length + uptoBulk d + 1
  | (_, d) => uptoBulk d + 1
 end
def uptoSmall : (H : Type) → List (DataW H) → Bool := fun _ ds => decide (uptoBulkAll ds ≤ 1048576)
def OpenSpec.upto (s : _root_.Go.ChangeSpec) : _root_.Go.OpenSpec := { _root_.Go.OpenSpec.ofChange s with cond := some uptoSmall }

/-- 'slipwaylaw03.DigraphOrder', WHERE WHAT IT READS IS OF BULK AT MOST 1048576: true; the input reads as it did. -/
def digraphOrderUptoRow : OpenClaim := { program := "ytinphdphloddmaa", sum := "d0b263d215a07b3138259fd311da5390d61e1bdfe9f7ddcab63fcea99bd985e7", func := "slipway/slipwaylaw03.DigraphOrder", spec := "digraphOrder", apart := false, narrowed := true }
def DigraphOrderUptoSaid : Prop := digraphOrderUptoRow.holds Try.pinned (OpenSpec.upto digraphOrderSpec)

/-- 'slipwaylaw03.DigraphReach', WHERE WHAT IT READS IS OF BULK AT MOST 1048576: true; the input reads as it did. -/
def digraphReachUptoRow : OpenClaim := { program := "ytinphdphloddmaa", sum := "d0b263d215a07b3138259fd311da5390d61e1bdfe9f7ddcab63fcea99bd985e7", func := "slipway/slipwaylaw03.DigraphReach", spec := "digraphReach", apart := false, narrowed := true }
def DigraphReachUptoSaid : Prop := digraphReachUptoRow.holds Try.pinned (OpenSpec.upto digraphReachSpec)

/-- 'slipwaylaw03.DigraphSets', WHERE WHAT IT READS IS OF BULK AT MOST 1048576: true; the input reads as it did. -/
def digraphSetsUptoRow : OpenClaim := { program := "ytinphdphloddmaa", sum := "d0b263d215a07b3138259fd311da5390d61e1bdfe9f7ddcab63fcea99bd985e7", func := "slipway/slipwaylaw03.DigraphSets", spec := "digraphSets", apart := false, narrowed := true }
def DigraphSetsUptoSaid : Prop := digraphSetsUptoRow.holds Try.pinned (OpenSpec.upto digraphSetsSpec)

/-- 'slipwaylaw03.DigraphThin', WHERE WHAT IT READS IS OF BULK AT MOST 1048576: true; the input reads as it did. -/
def digraphThinUptoRow : OpenClaim := { program := "ytinphdphloddmaa", sum := "d0b263d215a07b3138259fd311da5390d61e1bdfe9f7ddcab63fcea99bd985e7", func := "slipway/slipwaylaw03.DigraphThin", spec := "digraphThin", apart := false, narrowed := true }
def DigraphThinUptoSaid : Prop := digraphThinUptoRow.holds Try.pinned (OpenSpec.upto digraphThinSpec)

/-- 'slipwaylaw03.DigraphPrefixes', WHERE WHAT IT READS IS OF BULK AT MOST 1048576: true; the input reads as it did. -/
def digraphPrefixesUptoRow : OpenClaim := { program := "ytinphdphloddmaa", sum := "d0b263d215a07b3138259fd311da5390d61e1bdfe9f7ddcab63fcea99bd985e7", func := "slipway/slipwaylaw03.DigraphPrefixes", spec := "digraphPrefixes", apart := false, narrowed := true }
def DigraphPrefixesUptoSaid : Prop := digraphPrefixesUptoRow.holds Try.pinned (OpenSpec.upto digraphPrefixesSpec)

/-- 'slipwaylaw03.DigraphTurned', WHERE WHAT IT READS IS OF BULK AT MOST 1048576: true; the input reads as it did. -/
def digraphTurnedUptoRow : OpenClaim := { program := "ytinphdphloddmaa", sum := "d0b263d215a07b3138259fd311da5390d61e1bdfe9f7ddcab63fcea99bd985e7", func := "slipway/slipwaylaw03.DigraphTurned", spec := "digraphTurned", apart := false, narrowed := true }
def DigraphTurnedUptoSaid : Prop := digraphTurnedUptoRow.holds Try.pinned (OpenSpec.upto digraphTurnedSpec)

/-- 'slipwaylaw03.DigraphEdges', WHERE WHAT IT READS IS OF BULK AT MOST 1048576: true; the input reads as it did. -/
def digraphEdgesUptoRow : OpenClaim := { program := "ytinphdphloddmaa", sum := "d0b263d215a07b3138259fd311da5390d61e1bdfe9f7ddcab63fcea99bd985e7", func := "slipway/slipwaylaw03.DigraphEdges", spec := "digraphEdges", apart := false, narrowed := true }
def DigraphEdgesUptoSaid : Prop := digraphEdgesUptoRow.holds Try.pinned (OpenSpec.upto digraphEdgesSpec)

/-- 'slipwaylaw03.DigraphLevels', WHERE WHAT IT READS IS OF BULK AT MOST 1048576: true; the input reads as it did. -/
def digraphLevelsUptoRow : OpenClaim := { program := "ytinphdphloddmaa", sum := "d0b263d215a07b3138259fd311da5390d61e1bdfe9f7ddcab63fcea99bd985e7", func := "slipway/slipwaylaw03.DigraphLevels", spec := "digraphLevels", apart := false, narrowed := true }
def DigraphLevelsUptoSaid : Prop := digraphLevelsUptoRow.holds Try.pinned (OpenSpec.upto digraphLevelsSpec)

/-- 'slipwaylaw04.GaussSteps', WHERE WHAT IT READS IS OF BULK AT MOST 1048576: true; the input reads as it did. -/
def gaussStepsUptoRow : OpenClaim := { program := "ytinphdphloddmaa", sum := "d0b263d215a07b3138259fd311da5390d61e1bdfe9f7ddcab63fcea99bd985e7", func := "slipway/slipwaylaw04.GaussSteps", spec := "gaussSteps", inPlace := ["math.archTrunc", "math.Float64bits", "math.Float64frombits"], apart := false, narrowed := true }
def GaussStepsUptoSaid : Prop := gaussStepsUptoRow.holds Try.pinned (OpenSpec.upto gaussStepsSpec)

/-- 'slipwaylaw04.GaussThere', WHERE WHAT IT READS IS OF BULK AT MOST 1048576: true; the input reads as it did. -/
def gaussThereUptoRow : OpenClaim := { program := "ytinphdphloddmaa", sum := "d0b263d215a07b3138259fd311da5390d61e1bdfe9f7ddcab63fcea99bd985e7", func := "slipway/slipwaylaw04.GaussThere", spec := "gaussThere", inPlace := ["math.archTrunc", "math.Float64bits", "math.Float64frombits"], apart := false, narrowed := true }
def GaussThereUptoSaid : Prop := gaussThereUptoRow.holds Try.pinned (OpenSpec.upto gaussThereSpec)

/-- 'slipwaylaw13.DockPlays', WHERE WHAT IT READS IS OF BULK AT MOST 1048576: true; the input reads as it did. -/
def dockPlaysUptoRow : OpenClaim := { program := "ytinphdphloddmaa", sum := "d0b263d215a07b3138259fd311da5390d61e1bdfe9f7ddcab63fcea99bd985e7", func := "slipway/slipwaylaw13.DockPlays", spec := "dockPlays", recurses := true, apart := false, narrowed := true }
def DockPlaysUptoSaid : Prop := dockPlaysUptoRow.holds Try.pinned (OpenSpec.upto dockPlaysSpec)

/-- 'slipwaylaw13.DockSafe', WHERE WHAT IT READS IS OF BULK AT MOST 1048576: true; the input reads as it did. -/
def dockSafeUptoRow : OpenClaim := { program := "ytinphdphloddmaa", sum := "d0b263d215a07b3138259fd311da5390d61e1bdfe9f7ddcab63fcea99bd985e7", func := "slipway/slipwaylaw13.DockSafe", spec := "dockSafe", recurses := true, apart := false, narrowed := true }
def DockSafeUptoSaid : Prop := dockSafeUptoRow.holds Try.pinned (OpenSpec.upto dockSafeSpec)

end Rows
end Go.Proofs.Ytinphdphloddmaa
