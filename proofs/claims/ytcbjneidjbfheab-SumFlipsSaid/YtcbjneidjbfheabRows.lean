/-
  No cell of these rows narrows 'for every input' (looked for: loops, veiled, ifaces, maps, wideKeys, modest, calm, conditions, laid).
  DERIVED. THE GIVEN ROWS OF THIS SEAT. 8 by the template 'for every input the law returns true; each argument reads behind the call as it read before'; 0 by the template 'total and deterministic' (their statements: YtcbjneidjbfheabTotals.lean).
  GIVEN WITH THE SEED: the statements are not yours to turn. If you find one false, say at which input.
  Laid BY PROGRAM, IN A SANDBOX (cutbox-rows.mjs): the forced cells as the released guide's own fill.sh prints them over the translation b408089ab93c7ae8… (all of the seat's roots in one cut). By AI agents, Wed Nov 11 2026. No macro, syntax, notation, axiom, sorry.
-/
import Derived.Test.YtcbjneidjbfheabChecked
import GoSem.Claim
import GoSem.ClaimJoined
import GoSem.ClaimMapViews
import Derived.JoinedTies
import Derived.KernelRfl
namespace Go.Proofs.Ytcbjneidjbfheab
/- THE CELL 'sum', in the pinned program and in every row, IS THE sha256 OF THE DUMP (.gsa) THAT YtcbjneidjbfheabProg.lean LOADS. Nothing in Lean hashes anything: it is a label: what it is worth is what the hold of that sum in a sandbox is worth. -/
noncomputable def Try.pinned : Pinned := { name := "ytcbjneidjbfheab", sum := "b408089ab93c7ae8de495b60dc1068704005349b155df85ef3088484a73ca8a0", checked := Try.checked }
namespace Rows
def none {H : Type} : Left H := { results := [], args := [] }

/-- 'slipwaylaw11.SumFlips': WHATEVER THE INPUT: true; the input reads as it did. -/
def sumFlipsSpec : ChangeSpec := { name := "sumFlips", fn := fun _ => fun
  | [d1, d2, d3] => { results := [.lit (.bool true)], args := [d1, d2, d3] }
  | _ => none }
def sumFlipsRow : OpenClaim := { program := "ytcbjneidjbfheab", sum := "b408089ab93c7ae8de495b60dc1068704005349b155df85ef3088484a73ca8a0", func := "slipway/slipwaylaw11.SumFlips", spec := "sumFlips", apart := false }
def SumFlipsSaid : Prop := sumFlipsRow.holds Try.pinned (OpenSpec.ofChange sumFlipsSpec)

/-- ITS FALSE NEIGHBOUR: 'it returns false'. Refute it at one input. -/
def sumFlipsWrong : ChangeSpec := { name := "sumFlips", fn := fun _ => fun
  | [d1, d2, d3] => { results := [.lit (.bool false)], args := [d1, d2, d3] }
  | _ => none }
def SumFlipsWrongFalsely : Prop := sumFlipsRow.holds Try.pinned (OpenSpec.ofChange sumFlipsWrong)

/-- 'slipwaylaw11.SumLinear': WHATEVER THE INPUT: true; the input reads as it did. -/
def sumLinearSpec : ChangeSpec := { name := "sumLinear", fn := fun _ => fun
  | [d1, d2, d3] => { results := [.lit (.bool true)], args := [d1, d2, d3] }
  | _ => none }
def sumLinearRow : OpenClaim := { program := "ytcbjneidjbfheab", sum := "b408089ab93c7ae8de495b60dc1068704005349b155df85ef3088484a73ca8a0", func := "slipway/slipwaylaw11.SumLinear", spec := "sumLinear", apart := false }
def SumLinearSaid : Prop := sumLinearRow.holds Try.pinned (OpenSpec.ofChange sumLinearSpec)

/-- ITS FALSE NEIGHBOUR: 'it returns false'. Refute it at one input. -/
def sumLinearWrong : ChangeSpec := { name := "sumLinear", fn := fun _ => fun
  | [d1, d2, d3] => { results := [.lit (.bool false)], args := [d1, d2, d3] }
  | _ => none }
def SumLinearWrongFalsely : Prop := sumLinearRow.holds Try.pinned (OpenSpec.ofChange sumLinearWrong)

/-- 'slipwaylaw13.DockPlays': WHATEVER THE INPUT: true; the input reads as it did. -/
def dockPlaysSpec : ChangeSpec := { name := "dockPlays", fn := fun _ => fun
  | [d1, d2] => { results := [.lit (.bool true)], args := [d1, d2] }
  | _ => none }
def dockPlaysRow : OpenClaim := { program := "ytcbjneidjbfheab", sum := "b408089ab93c7ae8de495b60dc1068704005349b155df85ef3088484a73ca8a0", func := "slipway/slipwaylaw13.DockPlays", spec := "dockPlays", recurses := true, apart := false }
def DockPlaysSaid : Prop := dockPlaysRow.holds Try.pinned (OpenSpec.ofChange dockPlaysSpec)

/-- ITS FALSE NEIGHBOUR: 'it returns false'. Refute it at one input. -/
def dockPlaysWrong : ChangeSpec := { name := "dockPlays", fn := fun _ => fun
  | [d1, d2] => { results := [.lit (.bool false)], args := [d1, d2] }
  | _ => none }
def DockPlaysWrongFalsely : Prop := dockPlaysRow.holds Try.pinned (OpenSpec.ofChange dockPlaysWrong)

/-- 'slipwaylaw13.DockSafe': WHATEVER THE INPUT: true; the input reads as it did. -/
def dockSafeSpec : ChangeSpec := { name := "dockSafe", fn := fun _ => fun
  | [d1, d2, d3] => { results := [.lit (.bool true)], args := [d1, d2, d3] }
  | _ => none }
def dockSafeRow : OpenClaim := { program := "ytcbjneidjbfheab", sum := "b408089ab93c7ae8de495b60dc1068704005349b155df85ef3088484a73ca8a0", func := "slipway/slipwaylaw13.DockSafe", spec := "dockSafe", recurses := true, apart := false }
def DockSafeSaid : Prop := dockSafeRow.holds Try.pinned (OpenSpec.ofChange dockSafeSpec)

/-- ITS FALSE NEIGHBOUR: 'it returns false'. Refute it at one input. -/
def dockSafeWrong : ChangeSpec := { name := "dockSafe", fn := fun _ => fun
  | [d1, d2, d3] => { results := [.lit (.bool false)], args := [d1, d2, d3] }
  | _ => none }
def DockSafeWrongFalsely : Prop := dockSafeRow.holds Try.pinned (OpenSpec.ofChange dockSafeWrong)

/-- 'slipwaylaw13.DockArms': WHATEVER THE INPUT: true; the input reads as it did. -/
def dockArmsSpec : ChangeSpec := { name := "dockArms", fn := fun _ => fun
  | [d1, d2] => { results := [.lit (.bool true)], args := [d1, d2] }
  | _ => none }
def dockArmsRow : OpenClaim := { program := "ytcbjneidjbfheab", sum := "b408089ab93c7ae8de495b60dc1068704005349b155df85ef3088484a73ca8a0", func := "slipway/slipwaylaw13.DockArms", spec := "dockArms", recurses := true, apart := false }
def DockArmsSaid : Prop := dockArmsRow.holds Try.pinned (OpenSpec.ofChange dockArmsSpec)

/-- ITS FALSE NEIGHBOUR: 'it returns false'. Refute it at one input. -/
def dockArmsWrong : ChangeSpec := { name := "dockArms", fn := fun _ => fun
  | [d1, d2] => { results := [.lit (.bool false)], args := [d1, d2] }
  | _ => none }
def DockArmsWrongFalsely : Prop := dockArmsRow.holds Try.pinned (OpenSpec.ofChange dockArmsWrong)

/-- 'slipwaylaw13.DockApart': WHATEVER THE INPUT: true; the input reads as it did. -/
def dockApartSpec : ChangeSpec := { name := "dockApart", fn := fun _ => fun
  | [d1, d2] => { results := [.lit (.bool true)], args := [d1, d2] }
  | _ => none }
def dockApartRow : OpenClaim := { program := "ytcbjneidjbfheab", sum := "b408089ab93c7ae8de495b60dc1068704005349b155df85ef3088484a73ca8a0", func := "slipway/slipwaylaw13.DockApart", spec := "dockApart", recurses := true, apart := false }
def DockApartSaid : Prop := dockApartRow.holds Try.pinned (OpenSpec.ofChange dockApartSpec)

/-- ITS FALSE NEIGHBOUR: 'it returns false'. Refute it at one input. -/
def dockApartWrong : ChangeSpec := { name := "dockApart", fn := fun _ => fun
  | [d1, d2] => { results := [.lit (.bool false)], args := [d1, d2] }
  | _ => none }
def DockApartWrongFalsely : Prop := dockApartRow.holds Try.pinned (OpenSpec.ofChange dockApartWrong)

/-- 'slipwaylaw13.DockCuts': WHATEVER THE INPUT: true; the input reads as it did. -/
def dockCutsSpec : ChangeSpec := { name := "dockCuts", fn := fun _ => fun
  | [d1, d2, d3, d4] => { results := [.lit (.bool true)], args := [d1, d2, d3, d4] }
  | _ => none }
def dockCutsRow : OpenClaim := { program := "ytcbjneidjbfheab", sum := "b408089ab93c7ae8de495b60dc1068704005349b155df85ef3088484a73ca8a0", func := "slipway/slipwaylaw13.DockCuts", spec := "dockCuts", recurses := true, apart := false }
def DockCutsSaid : Prop := dockCutsRow.holds Try.pinned (OpenSpec.ofChange dockCutsSpec)

/-- ITS FALSE NEIGHBOUR: 'it returns false'. Refute it at one input. -/
def dockCutsWrong : ChangeSpec := { name := "dockCuts", fn := fun _ => fun
  | [d1, d2, d3, d4] => { results := [.lit (.bool false)], args := [d1, d2, d3, d4] }
  | _ => none }
def DockCutsWrongFalsely : Prop := dockCutsRow.holds Try.pinned (OpenSpec.ofChange dockCutsWrong)

/-- 'slipwaylaw15.AgentOnce': WHATEVER THE INPUT: true; the input reads as it did. -/
def agentOnceSpec : ChangeSpec := { name := "agentOnce", fn := fun _ => fun
  | [d1, d2, d3] => { results := [.lit (.bool true)], args := [d1, d2, d3] }
  | _ => none }
def agentOnceRow : OpenClaim := { program := "ytcbjneidjbfheab", sum := "b408089ab93c7ae8de495b60dc1068704005349b155df85ef3088484a73ca8a0", func := "slipway/slipwaylaw15.AgentOnce", spec := "agentOnce", inPlace := ["math.archTrunc", "math.Float64bits", "math.Float64frombits"], apart := false }
def AgentOnceSaid : Prop := agentOnceRow.holds Try.pinned (OpenSpec.ofChange agentOnceSpec)

/-- ITS FALSE NEIGHBOUR: 'it returns false'. Refute it at one input. -/
def agentOnceWrong : ChangeSpec := { name := "agentOnce", fn := fun _ => fun
  | [d1, d2, d3] => { results := [.lit (.bool false)], args := [d1, d2, d3] }
  | _ => none }
def AgentOnceWrongFalsely : Prop := agentOnceRow.holds Try.pinned (OpenSpec.ofChange agentOnceWrong)

/- THE SECOND FORM. 'bulk': how many values and letters a reading holds, each counted each time it is reached (what is shared counts as often as it is met; a slice's spare places count too). A statement '..UptoSaid' is the law's where the arguments, and the package variables that the reading takes, are together of bulk at most 1048576: NARROWER than '..Said'. Prove '..Said' where nothing that the law and all that it calls make is longer than what came in: it says more and counts as full. Else prove '..UptoSaid'. A law counts once. -/
mutual
def uptoBulk {H : Type} : DataW H → Nat
  | .lit (.string bytes) => bytes.length + 1
  | .lit _ => 1
  | .nil => 1
  | .ptr d => uptoBulk d + 1
  | .slice elems spare => uptoBulkAll elems + uptoBulkAll spare + 1
  | .agg parts => uptoBulkAll parts + 1
  | .iface _ d => uptoBulk d + 1
  | .map entries => uptoBulkEntries entries + 1
  | .held _ => 1
def uptoBulkAll {H : Type} : List (DataW H) → Nat
  | [] => 0
  | d :: r => uptoBulk d + uptoBulkAll r
def uptoBulkEntries {H : Type} : List (Lit × DataW H) → Nat
  | [] => 0
  | x :: r => uptoBulkEntry x + uptoBulkEntries r
def uptoBulkEntry {H : Type} : Lit × DataW H → Nat
  | (.string bytes, d) => bytes.length + uptoBulk d + 1
  | (_, d) => uptoBulk d + 1
 end
def uptoSmall : (H : Type) → List (DataW H) → Bool := fun _ ds => decide (uptoBulkAll ds ≤ 1048576)
def OpenSpec.upto (s : _root_.Go.ChangeSpec) : _root_.Go.OpenSpec := { _root_.Go.OpenSpec.ofChange s with cond := some uptoSmall }

/-- 'slipwaylaw11.SumFlips', WHERE WHAT IT READS IS OF BULK AT MOST 1048576: true; the input reads as it did. -/
def sumFlipsUptoRow : OpenClaim := { program := "ytcbjneidjbfheab", sum := "b408089ab93c7ae8de495b60dc1068704005349b155df85ef3088484a73ca8a0", func := "slipway/slipwaylaw11.SumFlips", spec := "sumFlips", apart := false, narrowed := true }
def SumFlipsUptoSaid : Prop := sumFlipsUptoRow.holds Try.pinned (OpenSpec.upto sumFlipsSpec)

/-- 'slipwaylaw11.SumLinear', WHERE WHAT IT READS IS OF BULK AT MOST 1048576: true; the input reads as it did. -/
def sumLinearUptoRow : OpenClaim := { program := "ytcbjneidjbfheab", sum := "b408089ab93c7ae8de495b60dc1068704005349b155df85ef3088484a73ca8a0", func := "slipway/slipwaylaw11.SumLinear", spec := "sumLinear", apart := false, narrowed := true }
def SumLinearUptoSaid : Prop := sumLinearUptoRow.holds Try.pinned (OpenSpec.upto sumLinearSpec)

/-- 'slipwaylaw13.DockPlays', WHERE WHAT IT READS IS OF BULK AT MOST 1048576: true; the input reads as it did. -/
def dockPlaysUptoRow : OpenClaim := { program := "ytcbjneidjbfheab", sum := "b408089ab93c7ae8de495b60dc1068704005349b155df85ef3088484a73ca8a0", func := "slipway/slipwaylaw13.DockPlays", spec := "dockPlays", recurses := true, apart := false, narrowed := true }
def DockPlaysUptoSaid : Prop := dockPlaysUptoRow.holds Try.pinned (OpenSpec.upto dockPlaysSpec)

/-- 'slipwaylaw13.DockSafe', WHERE WHAT IT READS IS OF BULK AT MOST 1048576: true; the input reads as it did. -/
def dockSafeUptoRow : OpenClaim := { program := "ytcbjneidjbfheab", sum := "b408089ab93c7ae8de495b60dc1068704005349b155df85ef3088484a73ca8a0", func := "slipway/slipwaylaw13.DockSafe", spec := "dockSafe", recurses := true, apart := false, narrowed := true }
def DockSafeUptoSaid : Prop := dockSafeUptoRow.holds Try.pinned (OpenSpec.upto dockSafeSpec)

/-- 'slipwaylaw13.DockArms', WHERE WHAT IT READS IS OF BULK AT MOST 1048576: true; the input reads as it did. -/
def dockArmsUptoRow : OpenClaim := { program := "ytcbjneidjbfheab", sum := "b408089ab93c7ae8de495b60dc1068704005349b155df85ef3088484a73ca8a0", func := "slipway/slipwaylaw13.DockArms", spec := "dockArms", recurses := true, apart := false, narrowed := true }
def DockArmsUptoSaid : Prop := dockArmsUptoRow.holds Try.pinned (OpenSpec.upto dockArmsSpec)

/-- 'slipwaylaw13.DockApart', WHERE WHAT IT READS IS OF BULK AT MOST 1048576: true; the input reads as it did. -/
def dockApartUptoRow : OpenClaim := { program := "ytcbjneidjbfheab", sum := "b408089ab93c7ae8de495b60dc1068704005349b155df85ef3088484a73ca8a0", func := "slipway/slipwaylaw13.DockApart", spec := "dockApart", recurses := true, apart := false, narrowed := true }
def DockApartUptoSaid : Prop := dockApartUptoRow.holds Try.pinned (OpenSpec.upto dockApartSpec)

/-- 'slipwaylaw13.DockCuts', WHERE WHAT IT READS IS OF BULK AT MOST 1048576: true; the input reads as it did. -/
def dockCutsUptoRow : OpenClaim := { program := "ytcbjneidjbfheab", sum := "b408089ab93c7ae8de495b60dc1068704005349b155df85ef3088484a73ca8a0", func := "slipway/slipwaylaw13.DockCuts", spec := "dockCuts", recurses := true, apart := false, narrowed := true }
def DockCutsUptoSaid : Prop := dockCutsUptoRow.holds Try.pinned (OpenSpec.upto dockCutsSpec)

/-- 'slipwaylaw15.AgentOnce', WHERE WHAT IT READS IS OF BULK AT MOST 1048576: true; the input reads as it did. -/
def agentOnceUptoRow : OpenClaim := { program := "ytcbjneidjbfheab", sum := "b408089ab93c7ae8de495b60dc1068704005349b155df85ef3088484a73ca8a0", func := "slipway/slipwaylaw15.AgentOnce", spec := "agentOnce", inPlace := ["math.archTrunc", "math.Float64bits", "math.Float64frombits"], apart := false, narrowed := true }
def AgentOnceUptoSaid : Prop := agentOnceUptoRow.holds Try.pinned (OpenSpec.upto agentOnceSpec)

end Rows
end Go.Proofs.Ytcbjneidjbfheab
