/-
  No cell of these rows narrows 'for every input' (looked for: loops, veiled, ifaces, maps, wideKeys, modest, calm, conditions, laid).
  DERIVED. THE GIVEN ROWS OF THIS SEAT. 6 by the template 'for every input the law returns true; each argument reads behind the call as it read before'; 0 by the template 'total and deterministic' (their statements: YtocmflnieagfcacTotals.lean).
  GIVEN WITH THE SEED: the statements are not yours to turn. If you find one false, say at which input.
  Laid BY PROGRAM, IN A SANDBOX (cutbox-rows.mjs): the forced cells as the released guide's own fill.sh prints them over the translation 064ebcae1fc41a73… (all of the seat's roots in one cut). By AI agents, Wed Nov 11 2026. No macro, syntax, notation, axiom, sorry.
-/
import Derived.Test.YtocmflnieagfcacChecked
import GoSem.Claim
import GoSem.ClaimJoined
import GoSem.ClaimMapViews
import Derived.JoinedTies
import Derived.KernelRfl
namespace Go.Proofs.Ytocmflnieagfcac
/- THE CELL 'sum', in the pinned program and in every row, IS THE sha256 OF THE DUMP (.gsa) THAT YtocmflnieagfcacProg.lean LOADS. Nothing in Lean hashes anything: it is a label: what it is worth is what the hold of that sum in a sandbox is worth. -/
noncomputable def Try.pinned : Pinned := { name := "ytocmflnieagfcac", sum := "064ebcae1fc41a7363a1ee364e1fc1dc4e96722f492790b21d90bba30fe6402a", checked := Try.checked }
namespace Rows
def none {H : Type} : Left H := { results := [], args := [] }

/-- 'slipwaylaw03.DigraphLevels': WHATEVER THE INPUT: true; the input reads as it did. -/
def digraphLevelsSpec : ChangeSpec := { name := "digraphLevels", fn := fun _ => fun
  | [d] => { results := [.lit (.bool true)], args := [d] }
  | _ => none }
def digraphLevelsRow : OpenClaim := { program := "ytocmflnieagfcac", sum := "064ebcae1fc41a7363a1ee364e1fc1dc4e96722f492790b21d90bba30fe6402a", func := "slipway/slipwaylaw03.DigraphLevels", spec := "digraphLevels", apart := false }
def DigraphLevelsSaid : Prop := digraphLevelsRow.holds Try.pinned (OpenSpec.ofChange digraphLevelsSpec)

/-- ITS FALSE NEIGHBOUR: 'it returns false'. Refute it at one input. -/
def digraphLevelsWrong : ChangeSpec := { name := "digraphLevels", fn := fun _ => fun
  | [d] => { results := [.lit (.bool false)], args := [d] }
  | _ => none }
def DigraphLevelsWrongFalsely : Prop := digraphLevelsRow.holds Try.pinned (OpenSpec.ofChange digraphLevelsWrong)

/-- 'slipwaylaw04.GaussSteps': WHATEVER THE INPUT: true; the input reads as it did. -/
def gaussStepsSpec : ChangeSpec := { name := "gaussSteps", fn := fun _ => fun
  | [d1, d2, d3] => { results := [.lit (.bool true)], args := [d1, d2, d3] }
  | _ => none }
def gaussStepsRow : OpenClaim := { program := "ytocmflnieagfcac", sum := "064ebcae1fc41a7363a1ee364e1fc1dc4e96722f492790b21d90bba30fe6402a", func := "slipway/slipwaylaw04.GaussSteps", spec := "gaussSteps", inPlace := ["math.archTrunc", "math.Float64bits", "math.Float64frombits"], apart := false }
def GaussStepsSaid : Prop := gaussStepsRow.holds Try.pinned (OpenSpec.ofChange gaussStepsSpec)

/-- ITS FALSE NEIGHBOUR: 'it returns false'. Refute it at one input. -/
def gaussStepsWrong : ChangeSpec := { name := "gaussSteps", fn := fun _ => fun
  | [d1, d2, d3] => { results := [.lit (.bool false)], args := [d1, d2, d3] }
  | _ => none }
def GaussStepsWrongFalsely : Prop := gaussStepsRow.holds Try.pinned (OpenSpec.ofChange gaussStepsWrong)

/-- 'slipwaylaw04.GaussThere': WHATEVER THE INPUT: true; the input reads as it did. -/
def gaussThereSpec : ChangeSpec := { name := "gaussThere", fn := fun _ => fun
  | [d1, d2, d3, d4] => { results := [.lit (.bool true)], args := [d1, d2, d3, d4] }
  | _ => none }
def gaussThereRow : OpenClaim := { program := "ytocmflnieagfcac", sum := "064ebcae1fc41a7363a1ee364e1fc1dc4e96722f492790b21d90bba30fe6402a", func := "slipway/slipwaylaw04.GaussThere", spec := "gaussThere", inPlace := ["math.archTrunc", "math.Float64bits", "math.Float64frombits"], apart := false }
def GaussThereSaid : Prop := gaussThereRow.holds Try.pinned (OpenSpec.ofChange gaussThereSpec)

/-- ITS FALSE NEIGHBOUR: 'it returns false'. Refute it at one input. -/
def gaussThereWrong : ChangeSpec := { name := "gaussThere", fn := fun _ => fun
  | [d1, d2, d3, d4] => { results := [.lit (.bool false)], args := [d1, d2, d3, d4] }
  | _ => none }
def GaussThereWrongFalsely : Prop := gaussThereRow.holds Try.pinned (OpenSpec.ofChange gaussThereWrong)

/-- 'slipwaylaw05.RankOrders': WHATEVER THE INPUT: true; the input reads as it did. -/
def rankOrdersSpec : ChangeSpec := { name := "rankOrders", fn := fun _ => fun
  | [d1, d2, d3] => { results := [.lit (.bool true)], args := [d1, d2, d3] }
  | _ => none }
def rankOrdersRow : OpenClaim := { program := "ytocmflnieagfcac", sum := "064ebcae1fc41a7363a1ee364e1fc1dc4e96722f492790b21d90bba30fe6402a", func := "slipway/slipwaylaw05.RankOrders", spec := "rankOrders", apart := false }
def RankOrdersSaid : Prop := rankOrdersRow.holds Try.pinned (OpenSpec.ofChange rankOrdersSpec)

/-- ITS FALSE NEIGHBOUR: 'it returns false'. Refute it at one input. -/
def rankOrdersWrong : ChangeSpec := { name := "rankOrders", fn := fun _ => fun
  | [d1, d2, d3] => { results := [.lit (.bool false)], args := [d1, d2, d3] }
  | _ => none }
def RankOrdersWrongFalsely : Prop := rankOrdersRow.holds Try.pinned (OpenSpec.ofChange rankOrdersWrong)

/-- 'slipwaylaw05.RankRanks': WHATEVER THE INPUT: true; the input reads as it did. -/
def rankRanksSpec : ChangeSpec := { name := "rankRanks", fn := fun _ => fun
  | [d] => { results := [.lit (.bool true)], args := [d] }
  | _ => none }
def rankRanksRow : OpenClaim := { program := "ytocmflnieagfcac", sum := "064ebcae1fc41a7363a1ee364e1fc1dc4e96722f492790b21d90bba30fe6402a", func := "slipway/slipwaylaw05.RankRanks", spec := "rankRanks", apart := false }
def RankRanksSaid : Prop := rankRanksRow.holds Try.pinned (OpenSpec.ofChange rankRanksSpec)

/-- ITS FALSE NEIGHBOUR: 'it returns false'. Refute it at one input. -/
def rankRanksWrong : ChangeSpec := { name := "rankRanks", fn := fun _ => fun
  | [d] => { results := [.lit (.bool false)], args := [d] }
  | _ => none }
def RankRanksWrongFalsely : Prop := rankRanksRow.holds Try.pinned (OpenSpec.ofChange rankRanksWrong)

/-- 'slipwaylaw05.RankCompares': WHATEVER THE INPUT: true; the input reads as it did. -/
def rankComparesSpec : ChangeSpec := { name := "rankCompares", fn := fun _ => fun
  | [d1, d2] => { results := [.lit (.bool true)], args := [d1, d2] }
  | _ => none }
def rankComparesRow : OpenClaim := { program := "ytocmflnieagfcac", sum := "064ebcae1fc41a7363a1ee364e1fc1dc4e96722f492790b21d90bba30fe6402a", func := "slipway/slipwaylaw05.RankCompares", spec := "rankCompares", apart := false }
def RankComparesSaid : Prop := rankComparesRow.holds Try.pinned (OpenSpec.ofChange rankComparesSpec)

/-- ITS FALSE NEIGHBOUR: 'it returns false'. Refute it at one input. -/
def rankComparesWrong : ChangeSpec := { name := "rankCompares", fn := fun _ => fun
  | [d1, d2] => { results := [.lit (.bool false)], args := [d1, d2] }
  | _ => none }
def RankComparesWrongFalsely : Prop := rankComparesRow.holds Try.pinned (OpenSpec.ofChange rankComparesWrong)

/- THE SECOND FORM. 'bulk': how many values and letters a reading holds, each counted each time it is reached (what is shared counts as often as it is met; a slice's spare places count too). A statement '..UptoSaid' is the law's where the arguments, and the package variables that the reading takes, are together of bulk at most 1048576: NARROWER than '..Said'. Prove '..Said' where nothing that the law and all that it calls make is longer than what came in: it says more and counts as full. Else prove '..UptoSaid'. A law counts once. -/
mutual
def uptoBulk {H : Type} : DataW H → Nat
  | .lit (.string bytes) => bytes.length + 1
  | .lit _ => 1
  | .nil => 1
  | .ptr d => uptoBulk d + 1
  | .slice elems spare => uptoBulkAll elems + uptoBulkAll spare + 1
  | .agg parts => uptoBulkAll parts + 1
  | .iface _ d => uptoBulk d + 1
  | .map entries => uptoBulkEntries entries + 1
  | .held _ => 1
def uptoBulkAll {H : Type} : List (DataW H) → Nat
  | [] => 0
  | d :: r => uptoBulk d + uptoBulkAll r
def uptoBulkEntries {H : Type} : List (Lit × DataW H) → Nat
  | [] => 0
  | x :: r => uptoBulkEntry x + uptoBulkEntries r
def uptoBulkEntry {H : Type} : Lit × DataW H → Nat
  | (.string bytes, d) => bytes.length + uptoBulk d + 1
  | (_, d) => uptoBulk d + 1
 end
def uptoSmall : (H : Type) → List (DataW H) → Bool := fun _ ds => decide (uptoBulkAll ds ≤ 1048576)
def OpenSpec.upto (s : _root_.Go.ChangeSpec) : _root_.Go.OpenSpec := { _root_.Go.OpenSpec.ofChange s with cond := some uptoSmall }

/-- 'slipwaylaw03.DigraphLevels', WHERE WHAT IT READS IS OF BULK AT MOST 1048576: true; the input reads as it did. -/
def digraphLevelsUptoRow : OpenClaim := { program := "ytocmflnieagfcac", sum := "064ebcae1fc41a7363a1ee364e1fc1dc4e96722f492790b21d90bba30fe6402a", func := "slipway/slipwaylaw03.DigraphLevels", spec := "digraphLevels", apart := false, narrowed := true }
def DigraphLevelsUptoSaid : Prop := digraphLevelsUptoRow.holds Try.pinned (OpenSpec.upto digraphLevelsSpec)

/-- 'slipwaylaw04.GaussSteps', WHERE WHAT IT READS IS OF BULK AT MOST 1048576: true; the input reads as it did. -/
def gaussStepsUptoRow : OpenClaim := { program := "ytocmflnieagfcac", sum := "064ebcae1fc41a7363a1ee364e1fc1dc4e96722f492790b21d90bba30fe6402a", func := "slipway/slipwaylaw04.GaussSteps", spec := "gaussSteps", inPlace := ["math.archTrunc", "math.Float64bits", "math.Float64frombits"], apart := false, narrowed := true }
def GaussStepsUptoSaid : Prop := gaussStepsUptoRow.holds Try.pinned (OpenSpec.upto gaussStepsSpec)

/-- 'slipwaylaw04.GaussThere', WHERE WHAT IT READS IS OF BULK AT MOST 1048576: true; the input reads as it did. -/
def gaussThereUptoRow : OpenClaim := { program := "ytocmflnieagfcac", sum := "064ebcae1fc41a7363a1ee364e1fc1dc4e96722f492790b21d90bba30fe6402a", func := "slipway/slipwaylaw04.GaussThere", spec := "gaussThere", inPlace := ["math.archTrunc", "math.Float64bits", "math.Float64frombits"], apart := false, narrowed := true }
def GaussThereUptoSaid : Prop := gaussThereUptoRow.holds Try.pinned (OpenSpec.upto gaussThereSpec)

/-- 'slipwaylaw05.RankOrders', WHERE WHAT IT READS IS OF BULK AT MOST 1048576: true; the input reads as it did. -/
def rankOrdersUptoRow : OpenClaim := { program := "ytocmflnieagfcac", sum := "064ebcae1fc41a7363a1ee364e1fc1dc4e96722f492790b21d90bba30fe6402a", func := "slipway/slipwaylaw05.RankOrders", spec := "rankOrders", apart := false, narrowed := true }
def RankOrdersUptoSaid : Prop := rankOrdersUptoRow.holds Try.pinned (OpenSpec.upto rankOrdersSpec)

/-- 'slipwaylaw05.RankRanks', WHERE WHAT IT READS IS OF BULK AT MOST 1048576: true; the input reads as it did. -/
def rankRanksUptoRow : OpenClaim := { program := "ytocmflnieagfcac", sum := "064ebcae1fc41a7363a1ee364e1fc1dc4e96722f492790b21d90bba30fe6402a", func := "slipway/slipwaylaw05.RankRanks", spec := "rankRanks", apart := false, narrowed := true }
def RankRanksUptoSaid : Prop := rankRanksUptoRow.holds Try.pinned (OpenSpec.upto rankRanksSpec)

/-- 'slipwaylaw05.RankCompares', WHERE WHAT IT READS IS OF BULK AT MOST 1048576: true; the input reads as it did. -/
def rankComparesUptoRow : OpenClaim := { program := "ytocmflnieagfcac", sum := "064ebcae1fc41a7363a1ee364e1fc1dc4e96722f492790b21d90bba30fe6402a", func := "slipway/slipwaylaw05.RankCompares", spec := "rankCompares", apart := false, narrowed := true }
def RankComparesUptoSaid : Prop := rankComparesUptoRow.holds Try.pinned (OpenSpec.upto rankComparesSpec)

end Rows
end Go.Proofs.Ytocmflnieagfcac
