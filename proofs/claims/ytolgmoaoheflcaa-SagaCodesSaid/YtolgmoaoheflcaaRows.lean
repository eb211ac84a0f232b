/-
  No cell of these rows narrows 'for every input' (looked for: loops, veiled, ifaces, maps, wideKeys, modest, calm, conditions, laid).
  DERIVED. THE GIVEN ROWS OF THIS SEAT. 6 by the template 'for every input the law returns true; each argument reads behind the call as it read before'; 0 by the template 'total and deterministic' (their statements: YtolgmoaoheflcaaTotals.lean).
  GIVEN WITH THE SEED: the statements are not yours to turn. If you find one false, say at which input.
  Laid BY PROGRAM, IN A SANDBOX (cutbox-rows.mjs): the forced cells as the released guide's own fill.sh prints them over the translation df437dc17fc51d96… (all of the seat's roots in one cut). By AI agents, Wed Nov 11 2026. No macro, syntax, notation, axiom, sorry.
-/
import Derived.Test.YtolgmoaoheflcaaChecked
import GoSem.Claim
import GoSem.ClaimJoined
import GoSem.ClaimMapViews
import Derived.JoinedTies
import Derived.KernelRfl
namespace Go.Proofs.Ytolgmoaoheflcaa
/- THE CELL 'sum', in the pinned program and in every row, IS THE sha256 OF THE DUMP (.gsa) THAT YtolgmoaoheflcaaProg.lean LOADS. Nothing in Lean hashes anything: it is a label: what it is worth is what the hold of that sum in a sandbox is worth. -/
noncomputable def Try.pinned : Pinned := { name := "ytolgmoaoheflcaa", sum := "df437dc17fc51d96d31f400385fb2bcfefd59fa2e56173f9130119e43c42a501", checked := Try.checked }
namespace Rows
def none {H : Type} : Left H := { results := [], args := [] }

/-- 'slipwaylaw17.SagaClosed': WHATEVER THE INPUT: true; the input reads as it did. -/
def sagaClosedSpec : ChangeSpec := { name := "sagaClosed", fn := fun _ => fun
  | [d] => { results := [.lit (.bool true)], args := [d] }
  | _ => none }
def sagaClosedRow : OpenClaim := { program := "ytolgmoaoheflcaa", sum := "df437dc17fc51d96d31f400385fb2bcfefd59fa2e56173f9130119e43c42a501", func := "slipway/slipwaylaw17.SagaClosed", spec := "sagaClosed", unfollowed := true, recurses := true, apart := false }
def SagaClosedSaid : Prop := sagaClosedRow.holds Try.pinned (OpenSpec.ofChange sagaClosedSpec)

/-- ITS FALSE NEIGHBOUR: 'it returns false'. Refute it at one input. -/
def sagaClosedWrong : ChangeSpec := { name := "sagaClosed", fn := fun _ => fun
  | [d] => { results := [.lit (.bool false)], args := [d] }
  | _ => none }
def SagaClosedWrongFalsely : Prop := sagaClosedRow.holds Try.pinned (OpenSpec.ofChange sagaClosedWrong)

/-- 'slipwaylaw17.SagaCodes': WHATEVER THE INPUT: true; the input reads as it did. -/
def sagaCodesSpec : ChangeSpec := { name := "sagaCodes", fn := fun _ => fun
  | [d1, d2] => { results := [.lit (.bool true)], args := [d1, d2] }
  | _ => none }
def sagaCodesRow : OpenClaim := { program := "ytolgmoaoheflcaa", sum := "df437dc17fc51d96d31f400385fb2bcfefd59fa2e56173f9130119e43c42a501", func := "slipway/slipwaylaw17.SagaCodes", spec := "sagaCodes", unfollowed := true, recurses := true, apart := false }
def SagaCodesSaid : Prop := sagaCodesRow.holds Try.pinned (OpenSpec.ofChange sagaCodesSpec)

/-- ITS FALSE NEIGHBOUR: 'it returns false'. Refute it at one input. -/
def sagaCodesWrong : ChangeSpec := { name := "sagaCodes", fn := fun _ => fun
  | [d1, d2] => { results := [.lit (.bool false)], args := [d1, d2] }
  | _ => none }
def SagaCodesWrongFalsely : Prop := sagaCodesRow.holds Try.pinned (OpenSpec.ofChange sagaCodesWrong)

/-- 'slipwaylaw17.SagaThrough': WHATEVER THE INPUT: true; the input reads as it did. -/
def sagaThroughSpec : ChangeSpec := { name := "sagaThrough", fn := fun _ => fun
  | [d1, d2, d3] => { results := [.lit (.bool true)], args := [d1, d2, d3] }
  | _ => none }
def sagaThroughRow : OpenClaim := { program := "ytolgmoaoheflcaa", sum := "df437dc17fc51d96d31f400385fb2bcfefd59fa2e56173f9130119e43c42a501", func := "slipway/slipwaylaw17.SagaThrough", spec := "sagaThrough", unfollowed := true, recurses := true, apart := false }
def SagaThroughSaid : Prop := sagaThroughRow.holds Try.pinned (OpenSpec.ofChange sagaThroughSpec)

/-- ITS FALSE NEIGHBOUR: 'it returns false'. Refute it at one input. -/
def sagaThroughWrong : ChangeSpec := { name := "sagaThrough", fn := fun _ => fun
  | [d1, d2, d3] => { results := [.lit (.bool false)], args := [d1, d2, d3] }
  | _ => none }
def SagaThroughWrongFalsely : Prop := sagaThroughRow.holds Try.pinned (OpenSpec.ofChange sagaThroughWrong)

/-- 'slipwaylaw17.SagaOwn': WHATEVER THE INPUT: true; the input reads as it did. -/
def sagaOwnSpec : ChangeSpec := { name := "sagaOwn", fn := fun _ => fun
  | [d] => { results := [.lit (.bool true)], args := [d] }
  | _ => none }
def sagaOwnRow : OpenClaim := { program := "ytolgmoaoheflcaa", sum := "df437dc17fc51d96d31f400385fb2bcfefd59fa2e56173f9130119e43c42a501", func := "slipway/slipwaylaw17.SagaOwn", spec := "sagaOwn", unfollowed := true, recurses := true, apart := false }
def SagaOwnSaid : Prop := sagaOwnRow.holds Try.pinned (OpenSpec.ofChange sagaOwnSpec)

/-- ITS FALSE NEIGHBOUR: 'it returns false'. Refute it at one input. -/
def sagaOwnWrong : ChangeSpec := { name := "sagaOwn", fn := fun _ => fun
  | [d] => { results := [.lit (.bool false)], args := [d] }
  | _ => none }
def SagaOwnWrongFalsely : Prop := sagaOwnRow.holds Try.pinned (OpenSpec.ofChange sagaOwnWrong)

/-- 'slipwaylaw17.SagaMirrors': WHATEVER THE INPUT: true; the input reads as it did. -/
def sagaMirrorsSpec : ChangeSpec := { name := "sagaMirrors", fn := fun _ => fun
  | [d1, d2] => { results := [.lit (.bool true)], args := [d1, d2] }
  | _ => none }
def sagaMirrorsRow : OpenClaim := { program := "ytolgmoaoheflcaa", sum := "df437dc17fc51d96d31f400385fb2bcfefd59fa2e56173f9130119e43c42a501", func := "slipway/slipwaylaw17.SagaMirrors", spec := "sagaMirrors", unfollowed := true, recurses := true, apart := false }
def SagaMirrorsSaid : Prop := sagaMirrorsRow.holds Try.pinned (OpenSpec.ofChange sagaMirrorsSpec)

/-- ITS FALSE NEIGHBOUR: 'it returns false'. Refute it at one input. -/
def sagaMirrorsWrong : ChangeSpec := { name := "sagaMirrors", fn := fun _ => fun
  | [d1, d2] => { results := [.lit (.bool false)], args := [d1, d2] }
  | _ => none }
def SagaMirrorsWrongFalsely : Prop := sagaMirrorsRow.holds Try.pinned (OpenSpec.ofChange sagaMirrorsWrong)

/-- 'slipwaylaw12.CodePlans': WHATEVER THE INPUT: true; the input reads as it did. -/
def codePlansSpec : ChangeSpec := { name := "codePlans", fn := fun _ => fun
  | [d1, d2] => { results := [.lit (.bool true)], args := [d1, d2] }
  | _ => none }
def codePlansRow : OpenClaim := { program := "ytolgmoaoheflcaa", sum := "df437dc17fc51d96d31f400385fb2bcfefd59fa2e56173f9130119e43c42a501", func := "slipway/slipwaylaw12.CodePlans", spec := "codePlans", unfollowed := true, recurses := true, apart := false }
def CodePlansSaid : Prop := codePlansRow.holds Try.pinned (OpenSpec.ofChange codePlansSpec)

/-- ITS FALSE NEIGHBOUR: 'it returns false'. Refute it at one input. -/
def codePlansWrong : ChangeSpec := { name := "codePlans", fn := fun _ => fun
  | [d1, d2] => { results := [.lit (.bool false)], args := [d1, d2] }
  | _ => none }
def CodePlansWrongFalsely : Prop := codePlansRow.holds Try.pinned (OpenSpec.ofChange codePlansWrong)

/- THE SECOND FORM. 'bulk': how many values and letters a reading holds, each counted each time it is reached (what is shared counts as often as it is met; a slice's spare places count too). A statement '..UptoSaid' is the law's where the arguments, and the package variables that the reading takes, are together of bulk at most 1048576: NARROWER than '..Said'. Prove '..Said' where nothing that the law and all that it calls make is longer than what came in: it says more and counts as full. Else prove '..UptoSaid'. A law counts once. -/
mutual
def uptoBulk {H : Type} : DataW H → Nat
  | .lit (.string bytes) => bytes.length + 1
  | .lit _ => 1
  | .nil => 1
  | .ptr d => uptoBulk d + 1
  | .slice elems spare => uptoBulkAll elems + uptoBulkAll spare + 1
  | .agg parts => uptoBulkAll parts + 1
  | .iface _ d => uptoBulk d + 1
  | .map entries => uptoBulkEntries entries + 1
  | .held _ => 1
def uptoBulkAll {H : Type} : List (DataW H) → Nat
  | [] => 0
  | d :: r => uptoBulk d + uptoBulkAll r
def uptoBulkEntries {H : Type} : List (Lit × DataW H) → Nat
  | [] => 0
  | x :: r => uptoBulkEntry x + uptoBulkEntries r
def uptoBulkEntry {H : Type} : Lit × DataW H → Nat
  | (.string bytes, d) => bytes.length + uptoBulk d + 1
  | (_, d) => uptoBulk d + 1
 end
def uptoSmall : (H : Type) → List (DataW H) → Bool := fun _ ds => decide (uptoBulkAll ds ≤ 1048576)
def OpenSpec.upto (s : _root_.Go.ChangeSpec) : _root_.Go.OpenSpec := { _root_.Go.OpenSpec.ofChange s with cond := some uptoSmall }

/-- 'slipwaylaw17.SagaClosed', WHERE WHAT IT READS IS OF BULK AT MOST 1048576: true; the input reads as it did. -/
def sagaClosedUptoRow : OpenClaim := { program := "ytolgmoaoheflcaa", sum := "df437dc17fc51d96d31f400385fb2bcfefd59fa2e56173f9130119e43c42a501", func := "slipway/slipwaylaw17.SagaClosed", spec := "sagaClosed", unfollowed := true, recurses := true, apart := false, narrowed := true }
def SagaClosedUptoSaid : Prop := sagaClosedUptoRow.holds Try.pinned (OpenSpec.upto sagaClosedSpec)

/-- 'slipwaylaw17.SagaCodes', WHERE WHAT IT READS IS OF BULK AT MOST 1048576: true; the input reads as it did. -/
def sagaCodesUptoRow : OpenClaim := { program := "ytolgmoaoheflcaa", sum := "df437dc17fc51d96d31f400385fb2bcfefd59fa2e56173f9130119e43c42a501", func := "slipway/slipwaylaw17.SagaCodes", spec := "sagaCodes", unfollowed := true, recurses := true, apart := false, narrowed := true }
def SagaCodesUptoSaid : Prop := sagaCodesUptoRow.holds Try.pinned (OpenSpec.upto sagaCodesSpec)

/-- 'slipwaylaw17.SagaThrough', WHERE WHAT IT READS IS OF BULK AT MOST 1048576: true; the input reads as it did. -/
def sagaThroughUptoRow : OpenClaim := { program := "ytolgmoaoheflcaa", sum := "df437dc17fc51d96d31f400385fb2bcfefd59fa2e56173f9130119e43c42a501", func := "slipway/slipwaylaw17.SagaThrough", spec := "sagaThrough", unfollowed := true, recurses := true, apart := false, narrowed := true }
def SagaThroughUptoSaid : Prop := sagaThroughUptoRow.holds Try.pinned (OpenSpec.upto sagaThroughSpec)

/-- 'slipwaylaw17.SagaOwn', WHERE WHAT IT READS IS OF BULK AT MOST 1048576: true; the input reads as it did. -/
def sagaOwnUptoRow : OpenClaim := { program := "ytolgmoaoheflcaa", sum := "df437dc17fc51d96d31f400385fb2bcfefd59fa2e56173f9130119e43c42a501", func := "slipway/slipwaylaw17.SagaOwn", spec := "sagaOwn", unfollowed := true, recurses := true, apart := false, narrowed := true }
def SagaOwnUptoSaid : Prop := sagaOwnUptoRow.holds Try.pinned (OpenSpec.upto sagaOwnSpec)

/-- 'slipwaylaw17.SagaMirrors', WHERE WHAT IT READS IS OF BULK AT MOST 1048576: true; the input reads as it did. -/
def sagaMirrorsUptoRow : OpenClaim := { program := "ytolgmoaoheflcaa", sum := "df437dc17fc51d96d31f400385fb2bcfefd59fa2e56173f9130119e43c42a501", func := "slipway/slipwaylaw17.SagaMirrors", spec := "sagaMirrors", unfollowed := true, recurses := true, apart := false, narrowed := true }
def SagaMirrorsUptoSaid : Prop := sagaMirrorsUptoRow.holds Try.pinned (OpenSpec.upto sagaMirrorsSpec)

/-- 'slipwaylaw12.CodePlans', WHERE WHAT IT READS IS OF BULK AT MOST 1048576: true; the input reads as it did. -/
def codePlansUptoRow : OpenClaim := { program := "ytolgmoaoheflcaa", sum := "df437dc17fc51d96d31f400385fb2bcfefd59fa2e56173f9130119e43c42a501", func := "slipway/slipwaylaw12.CodePlans", spec := "codePlans", unfollowed := true, recurses := true, apart := false, narrowed := true }
def CodePlansUptoSaid : Prop := codePlansUptoRow.holds Try.pinned (OpenSpec.upto codePlansSpec)

end Rows
end Go.Proofs.Ytolgmoaoheflcaa
