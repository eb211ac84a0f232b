/-
  No cell of these rows narrows 'for every input' (looked for: loops, veiled, ifaces, maps, wideKeys, modest, calm, conditions, laid).
  DERIVED. THE GIVEN ROWS OF THIS SEAT. 6 by the template 'for every input the law returns true; each argument reads behind the call as it read before'; 0 by the template 'total and deterministic' (their statements: YtinphdphloddmabTotals.lean).
  GIVEN WITH THE SEED: the statements are not yours to turn. If you find one false, say at which input.
  Laid BY PROGRAM, IN A SANDBOX (cutbox-rows.mjs): the forced cells as the released guide's own fill.sh prints them over the translation df88a4ba2d70d741… (all of the seat's roots in one cut). By AI agents, Wed Nov 11 2026. No macro, syntax, notation, axiom, sorry.
-/
import Derived.Test.YtinphdphloddmabChecked
import GoSem.Claim
import GoSem.ClaimJoined
import GoSem.ClaimMapViews
import Derived.JoinedTies
import Derived.KernelRfl
namespace Go.Proofs.Ytinphdphloddmab
/- THE CELL 'sum', in the pinned program and in every row, IS THE sha256 OF THE DUMP (.gsa) THAT YtinphdphloddmabProg.lean LOADS. Nothing in Lean hashes anything: it is a label: what it is worth is what the hold of that sum in a sandbox is worth. -/
noncomputable def Try.pinned : Pinned := { name := "ytinphdphloddmab", sum := "df88a4ba2d70d7414e39a1ccd107ad2928421014e17fd7b559de49f3ab22de44", checked := Try.checked }
namespace Rows
def none {H : Type} : Left H := { results := [], args := [] }

/-- 'slipwaylaw13.DockArms': WHATEVER THE INPUT: true; the input reads as it did. -/
def dockArmsSpec : ChangeSpec := { name := "dockArms", fn := fun _ => fun
  | [d1, d2] => { results := [.lit (.bool true)], args := [d1, d2] }
  | _ => none }
def dockArmsRow : OpenClaim := { program := "ytinphdphloddmab", sum := "df88a4ba2d70d7414e39a1ccd107ad2928421014e17fd7b559de49f3ab22de44", func := "slipway/slipwaylaw13.DockArms", spec := "dockArms", recurses := true, apart := false }
def DockArmsSaid : Prop := dockArmsRow.holds Try.pinned (OpenSpec.ofChange dockArmsSpec)

/-- ITS FALSE NEIGHBOUR: 'it returns false'. Refute it at one input. -/
def dockArmsWrong : ChangeSpec := { name := "dockArms", fn := fun _ => fun
  | [d1, d2] => { results := [.lit (.bool false)], args := [d1, d2] }
  | _ => none }
def DockArmsWrongFalsely : Prop := dockArmsRow.holds Try.pinned (OpenSpec.ofChange dockArmsWrong)

/-- 'slipwaylaw13.DockApart': WHATEVER THE INPUT: true; the input reads as it did. -/
def dockApartSpec : ChangeSpec := { name := "dockApart", fn := fun _ => fun
  | [d1, d2] => { results := [.lit (.bool true)], args := [d1, d2] }
  | _ => none }
def dockApartRow : OpenClaim := { program := "ytinphdphloddmab", sum := "df88a4ba2d70d7414e39a1ccd107ad2928421014e17fd7b559de49f3ab22de44", func := "slipway/slipwaylaw13.DockApart", spec := "dockApart", recurses := true, apart := false }
def DockApartSaid : Prop := dockApartRow.holds Try.pinned (OpenSpec.ofChange dockApartSpec)

/-- ITS FALSE NEIGHBOUR: 'it returns false'. Refute it at one input. -/
def dockApartWrong : ChangeSpec := { name := "dockApart", fn := fun _ => fun
  | [d1, d2] => { results := [.lit (.bool false)], args := [d1, d2] }
  | _ => none }
def DockApartWrongFalsely : Prop := dockApartRow.holds Try.pinned (OpenSpec.ofChange dockApartWrong)

/-- 'slipwaylaw13.DockCuts': WHATEVER THE INPUT: true; the input reads as it did. -/
def dockCutsSpec : ChangeSpec := { name := "dockCuts", fn := fun _ => fun
  | [d1, d2, d3, d4] => { results := [.lit (.bool true)], args := [d1, d2, d3, d4] }
  | _ => none }
def dockCutsRow : OpenClaim := { program := "ytinphdphloddmab", sum := "df88a4ba2d70d7414e39a1ccd107ad2928421014e17fd7b559de49f3ab22de44", func := "slipway/slipwaylaw13.DockCuts", spec := "dockCuts", recurses := true, apart := false }
def DockCutsSaid : Prop := dockCutsRow.holds Try.pinned (OpenSpec.ofChange dockCutsSpec)

/-- ITS FALSE NEIGHBOUR: 'it returns false'. Refute it at one input. -/
def dockCutsWrong : ChangeSpec := { name := "dockCuts", fn := fun _ => fun
  | [d1, d2, d3, d4] => { results := [.lit (.bool false)], args := [d1, d2, d3, d4] }
  | _ => none }
def DockCutsWrongFalsely : Prop := dockCutsRow.holds Try.pinned (OpenSpec.ofChange dockCutsWrong)

/-- 'slipwaylaw15.AgentOnce': WHATEVER THE INPUT: true; the input reads as it did. -/
def agentOnceSpec : ChangeSpec := { name := "agentOnce", fn := fun _ => fun
  | [d1, d2, d3] => { results := [.lit (.bool true)], args := [d1, d2, d3] }
  | _ => none }
def agentOnceRow : OpenClaim := { program := "ytinphdphloddmab", sum := "df88a4ba2d70d7414e39a1ccd107ad2928421014e17fd7b559de49f3ab22de44", func := "slipway/slipwaylaw15.AgentOnce", spec := "agentOnce", inPlace := ["math.archTrunc", "math.Float64bits", "math.Float64frombits"], apart := false }
def AgentOnceSaid : Prop := agentOnceRow.holds Try.pinned (OpenSpec.ofChange agentOnceSpec)

/-- ITS FALSE NEIGHBOUR: 'it returns false'. Refute it at one input. -/
def agentOnceWrong : ChangeSpec := { name := "agentOnce", fn := fun _ => fun
  | [d1, d2, d3] => { results := [.lit (.bool false)], args := [d1, d2, d3] }
  | _ => none }
def AgentOnceWrongFalsely : Prop := agentOnceRow.holds Try.pinned (OpenSpec.ofChange agentOnceWrong)

/-- 'slipwaylaw16.BackoffClocks': WHATEVER THE INPUT: true; the input reads as it did. -/
def backoffClocksSpec : ChangeSpec := { name := "backoffClocks", fn := fun _ => fun
  | [d1, d2] => { results := [.lit (.bool true)], args := [d1, d2] }
  | _ => none }
def backoffClocksRow : OpenClaim := { program := "ytinphdphloddmab", sum := "df88a4ba2d70d7414e39a1ccd107ad2928421014e17fd7b559de49f3ab22de44", func := "slipway/slipwaylaw16.BackoffClocks", spec := "backoffClocks", unfollowed := true, recurses := true, apart := false }
def BackoffClocksSaid : Prop := backoffClocksRow.holds Try.pinned (OpenSpec.ofChange backoffClocksSpec)

/-- ITS FALSE NEIGHBOUR: 'it returns false'. Refute it at one input. -/
def backoffClocksWrong : ChangeSpec := { name := "backoffClocks", fn := fun _ => fun
  | [d1, d2] => { results := [.lit (.bool false)], args := [d1, d2] }
  | _ => none }
def BackoffClocksWrongFalsely : Prop := backoffClocksRow.holds Try.pinned (OpenSpec.ofChange backoffClocksWrong)

/-- 'slipwaylaw16.BackoffReaches': WHATEVER THE INPUT: true; the input reads as it did. -/
def backoffReachesSpec : ChangeSpec := { name := "backoffReaches", fn := fun _ => fun
  | [d] => { results := [.lit (.bool true)], args := [d] }
  | _ => none }
def backoffReachesRow : OpenClaim := { program := "ytinphdphloddmab", sum := "df88a4ba2d70d7414e39a1ccd107ad2928421014e17fd7b559de49f3ab22de44", func := "slipway/slipwaylaw16.BackoffReaches", spec := "backoffReaches", unfollowed := true, recurses := true, apart := false }
def BackoffReachesSaid : Prop := backoffReachesRow.holds Try.pinned (OpenSpec.ofChange backoffReachesSpec)

/-- ITS FALSE NEIGHBOUR: 'it returns false'. Refute it at one input. -/
def backoffReachesWrong : ChangeSpec := { name := "backoffReaches", fn := fun _ => fun
  | [d] => { results := [.lit (.bool false)], args := [d] }
  | _ => none }
def BackoffReachesWrongFalsely : Prop := backoffReachesRow.holds Try.pinned (OpenSpec.ofChange backoffReachesWrong)

/- THE SECOND FORM. 'bulk': how many values and letters a reading holds, each counted each time it is reached (what is shared counts as often as it is met; a slice's spare places count too). A statement '..UptoSaid' is the law's where the arguments, and the package variables that the reading takes, are together of bulk at most 1048576: NARROWER than '..Said'. Prove '..Said' where nothing that the law and all that it calls make is longer than what came in: it says more and counts as full. Else prove '..UptoSaid'. A law counts once. -/
mutual
def uptoBulk {H : Type} : DataW H → Nat
  | .lit (.string bytes) => bytes.length + 1
  | .lit _ => 1
  | .nil => 1
  | .ptr d => uptoBulk d + 1
  | .slice elems spare => uptoBulkAll elems + uptoBulkAll spare + 1
  | .agg parts => uptoBulkAll parts + 1
  | .iface _ d => uptoBulk d + 1
  | .map entries => uptoBulkEntries entries + 1
  | .held _ => 1
def uptoBulkAll {H : Type} : List (DataW H) → Nat
  | [] => 0
  | d :: r => uptoBulk d + uptoBulkAll r
def uptoBulkEntries {H : Type} : List (Lit × DataW H) → Nat
  | [] => 0
  | x :: r => uptoBulkEntry x + uptoBulkEntries r
def uptoBulkEntry {H : Type} : Lit × DataW H → Nat
  | (.string bytes, d) => bytes.length + uptoBulk d + 1
  | (_, d) => uptoBulk d + 1
 end
def uptoSmall : (H : Type) → List (DataW H) → Bool := fun _ ds => decide (uptoBulkAll ds ≤ 1048576)
def OpenSpec.upto (s : _root_.Go.ChangeSpec) : _root_.Go.OpenSpec := { _root_.Go.OpenSpec.ofChange s with cond := some uptoSmall }

/-- 'slipwaylaw13.DockArms', WHERE WHAT IT READS IS OF BULK AT MOST 1048576: true; the input reads as it did. -/
def dockArmsUptoRow : OpenClaim := { program := "ytinphdphloddmab", sum := "df88a4ba2d70d7414e39a1ccd107ad2928421014e17fd7b559de49f3ab22de44", func := "slipway/slipwaylaw13.DockArms", spec := "dockArms", recurses := true, apart := false, narrowed := true }
def DockArmsUptoSaid : Prop := dockArmsUptoRow.holds Try.pinned (OpenSpec.upto dockArmsSpec)

/-- 'slipwaylaw13.DockApart', WHERE WHAT IT READS IS OF BULK AT MOST 1048576: true; the input reads as it did. -/
def dockApartUptoRow : OpenClaim := { program := "ytinphdphloddmab", sum := "df88a4ba2d70d7414e39a1ccd107ad2928421014e17fd7b559de49f3ab22de44", func := "slipway/slipwaylaw13.DockApart", spec := "dockApart", recurses := true, apart := false, narrowed := true }
def DockApartUptoSaid : Prop := dockApartUptoRow.holds Try.pinned (OpenSpec.upto dockApartSpec)

/-- 'slipwaylaw13.DockCuts', WHERE WHAT IT READS IS OF BULK AT MOST 1048576: true; the input reads as it did. -/
def dockCutsUptoRow : OpenClaim := { program := "ytinphdphloddmab", sum := "df88a4ba2d70d7414e39a1ccd107ad2928421014e17fd7b559de49f3ab22de44", func := "slipway/slipwaylaw13.DockCuts", spec := "dockCuts", recurses := true, apart := false, narrowed := true }
def DockCutsUptoSaid : Prop := dockCutsUptoRow.holds Try.pinned (OpenSpec.upto dockCutsSpec)

/-- 'slipwaylaw15.AgentOnce', WHERE WHAT IT READS IS OF BULK AT MOST 1048576: true; the input reads as it did. -/
def agentOnceUptoRow : OpenClaim := { program := "ytinphdphloddmab", sum := "df88a4ba2d70d7414e39a1ccd107ad2928421014e17fd7b559de49f3ab22de44", func := "slipway/slipwaylaw15.AgentOnce", spec := "agentOnce", inPlace := ["math.archTrunc", "math.Float64bits", "math.Float64frombits"], apart := false, narrowed := true }
def AgentOnceUptoSaid : Prop := agentOnceUptoRow.holds Try.pinned (OpenSpec.upto agentOnceSpec)

/-- 'slipwaylaw16.BackoffClocks', WHERE WHAT IT READS IS OF BULK AT MOST 1048576: true; the input reads as it did. -/
def backoffClocksUptoRow : OpenClaim := { program := "ytinphdphloddmab", sum := "df88a4ba2d70d7414e39a1ccd107ad2928421014e17fd7b559de49f3ab22de44", func := "slipway/slipwaylaw16.BackoffClocks", spec := "backoffClocks", unfollowed := true, recurses := true, apart := false, narrowed := true }
def BackoffClocksUptoSaid : Prop := backoffClocksUptoRow.holds Try.pinned (OpenSpec.upto backoffClocksSpec)

/-- 'slipwaylaw16.BackoffReaches', WHERE WHAT IT READS IS OF BULK AT MOST 1048576: true; the input reads as it did. -/
def backoffReachesUptoRow : OpenClaim := { program := "ytinphdphloddmab", sum := "df88a4ba2d70d7414e39a1ccd107ad2928421014e17fd7b559de49f3ab22de44", func := "slipway/slipwaylaw16.BackoffReaches", spec := "backoffReaches", unfollowed := true, recurses := true, apart := false, narrowed := true }
def BackoffReachesUptoSaid : Prop := backoffReachesUptoRow.holds Try.pinned (OpenSpec.upto backoffReachesSpec)

end Rows
end Go.Proofs.Ytinphdphloddmab
