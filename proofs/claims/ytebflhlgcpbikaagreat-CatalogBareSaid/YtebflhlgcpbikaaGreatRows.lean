/-
  No cell of these rows narrows 'for every input' (looked for: loops, veiled, ifaces, maps, wideKeys, modest, calm, conditions, laid).
  DERIVED. THE GIVEN ROWS OF THIS SEAT. 6 by the template 'for every input the law returns true; each argument reads behind the call as it read before'; 0 by the template 'total and deterministic' (their statements: YtebflhlgcpbikaaGreatTotals.lean).
  GIVEN WITH THE SEED: the statements are not yours to turn. If you find one false, say at which input.
  Laid BY PROGRAM, IN A SANDBOX (cutbox-rows.mjs): the forced cells as the released guide's own fill.sh prints them over the translation 6caa4af54d0835e1… (all of the seat's roots in one cut). By AI agents, Wed Nov 11 2026. No macro, syntax, notation, axiom, sorry.
-/
import Derived.Test.YtebflhlgcpbikaaGreatChecked
import GoSem.Claim
import GoSem.ClaimJoined
import GoSem.ClaimMapViews
import Derived.JoinedTies
import Derived.KernelRfl
namespace Go.Proofs.YtebflhlgcpbikaaGreat
/- THE CELL 'sum', in the pinned program and in every row, IS THE sha256 OF THE DUMP (.gsa) THAT YtebflhlgcpbikaaGreatProg.lean LOADS. Nothing in Lean hashes anything: it is a label: what it is worth is what the hold of that sum in a sandbox is worth. -/
noncomputable def Tryz.pinned : Pinned := { name := "ytebflhlgcpbikaagreat", sum := "6caa4af54d0835e137fd3d0a9ed31f206908811ac7420b58d9ae832165a7c8a4", checked := Tryz.checked }
namespace Rows
def none {H : Type} : Left H := { results := [], args := [] }

/-- 'slipwaylaw06.CatalogChecks': WHATEVER THE INPUT: true; the input reads as it did. -/
def catalogChecksSpec : ChangeSpec := { name := "catalogChecks", fn := fun _ => fun
  | [d] => { results := [.lit (.bool true)], args := [d] }
  | _ => none }
def catalogChecksRow : OpenClaim := { program := "ytebflhlgcpbikaagreat", sum := "6caa4af54d0835e137fd3d0a9ed31f206908811ac7420b58d9ae832165a7c8a4", func := "slipway/slipwaylaw06.CatalogChecks", spec := "catalogChecks", inPlace := ["internal/bytealg.IndexByteString", "internal/bytealg.IndexString", "internal/bytealg.abigen_runtime_cmpstring", "math.archTrunc", "math.Float64bits", "math.Float64frombits"], unfollowed := true, recurses := true, named := ["internal/bytealg.MaxLen"], apart := false }
def CatalogChecksSaid : Prop := catalogChecksRow.holds Tryz.pinned (OpenSpec.ofChange catalogChecksSpec)

/-- ITS FALSE NEIGHBOUR: 'it returns false'. Refute it at one input. -/
def catalogChecksWrong : ChangeSpec := { name := "catalogChecks", fn := fun _ => fun
  | [d] => { results := [.lit (.bool false)], args := [d] }
  | _ => none }
def CatalogChecksWrongFalsely : Prop := catalogChecksRow.holds Tryz.pinned (OpenSpec.ofChange catalogChecksWrong)

/-- 'slipwaylaw06.CatalogGraphs': WHATEVER THE INPUT: true; the input reads as it did. -/
def catalogGraphsSpec : ChangeSpec := { name := "catalogGraphs", fn := fun _ => fun
  | [d1, d2, d3] => { results := [.lit (.bool true)], args := [d1, d2, d3] }
  | _ => none }
def catalogGraphsRow : OpenClaim := { program := "ytebflhlgcpbikaagreat", sum := "6caa4af54d0835e137fd3d0a9ed31f206908811ac7420b58d9ae832165a7c8a4", func := "slipway/slipwaylaw06.CatalogGraphs", spec := "catalogGraphs", inPlace := ["internal/bytealg.IndexByteString", "internal/bytealg.IndexString", "internal/bytealg.abigen_runtime_cmpstring", "math.archTrunc", "math.Float64bits", "math.Float64frombits"], unfollowed := true, recurses := true, named := ["internal/bytealg.MaxLen"], apart := false }
def CatalogGraphsSaid : Prop := catalogGraphsRow.holds Tryz.pinned (OpenSpec.ofChange catalogGraphsSpec)

/-- ITS FALSE NEIGHBOUR: 'it returns false'. Refute it at one input. -/
def catalogGraphsWrong : ChangeSpec := { name := "catalogGraphs", fn := fun _ => fun
  | [d1, d2, d3] => { results := [.lit (.bool false)], args := [d1, d2, d3] }
  | _ => none }
def CatalogGraphsWrongFalsely : Prop := catalogGraphsRow.holds Tryz.pinned (OpenSpec.ofChange catalogGraphsWrong)

/-- 'slipwaylaw06.CatalogFits': WHATEVER THE INPUT: true; the input reads as it did. -/
def catalogFitsSpec : ChangeSpec := { name := "catalogFits", fn := fun _ => fun
  | [d1, d2, d3, d4, d5] => { results := [.lit (.bool true)], args := [d1, d2, d3, d4, d5] }
  | _ => none }
def catalogFitsRow : OpenClaim := { program := "ytebflhlgcpbikaagreat", sum := "6caa4af54d0835e137fd3d0a9ed31f206908811ac7420b58d9ae832165a7c8a4", func := "slipway/slipwaylaw06.CatalogFits", spec := "catalogFits", inPlace := ["internal/bytealg.IndexByteString", "internal/bytealg.IndexString", "internal/bytealg.abigen_runtime_cmpstring", "math.archTrunc", "math.Float64bits", "math.Float64frombits"], unfollowed := true, recurses := true, named := ["internal/bytealg.MaxLen"], apart := false }
def CatalogFitsSaid : Prop := catalogFitsRow.holds Tryz.pinned (OpenSpec.ofChange catalogFitsSpec)

/-- ITS FALSE NEIGHBOUR: 'it returns false'. Refute it at one input. -/
def catalogFitsWrong : ChangeSpec := { name := "catalogFits", fn := fun _ => fun
  | [d1, d2, d3, d4, d5] => { results := [.lit (.bool false)], args := [d1, d2, d3, d4, d5] }
  | _ => none }
def CatalogFitsWrongFalsely : Prop := catalogFitsRow.holds Tryz.pinned (OpenSpec.ofChange catalogFitsWrong)

/-- 'slipwaylaw06.CatalogSettled': WHATEVER THE INPUT: true; the input reads as it did. -/
def catalogSettledSpec : ChangeSpec := { name := "catalogSettled", fn := fun _ => fun
  | [d1, d2] => { results := [.lit (.bool true)], args := [d1, d2] }
  | _ => none }
def catalogSettledRow : OpenClaim := { program := "ytebflhlgcpbikaagreat", sum := "6caa4af54d0835e137fd3d0a9ed31f206908811ac7420b58d9ae832165a7c8a4", func := "slipway/slipwaylaw06.CatalogSettled", spec := "catalogSettled", inPlace := ["internal/bytealg.IndexByteString", "internal/bytealg.IndexString", "internal/bytealg.abigen_runtime_cmpstring", "math.archTrunc", "math.Float64bits", "math.Float64frombits"], unfollowed := true, recurses := true, named := ["internal/bytealg.MaxLen"], apart := false }
def CatalogSettledSaid : Prop := catalogSettledRow.holds Tryz.pinned (OpenSpec.ofChange catalogSettledSpec)

/-- ITS FALSE NEIGHBOUR: 'it returns false'. Refute it at one input. -/
def catalogSettledWrong : ChangeSpec := { name := "catalogSettled", fn := fun _ => fun
  | [d1, d2] => { results := [.lit (.bool false)], args := [d1, d2] }
  | _ => none }
def CatalogSettledWrongFalsely : Prop := catalogSettledRow.holds Tryz.pinned (OpenSpec.ofChange catalogSettledWrong)

/-- 'slipwaylaw06.CatalogMoves': WHATEVER THE INPUT: true; the input reads as it did. -/
def catalogMovesSpec : ChangeSpec := { name := "catalogMoves", fn := fun _ => fun
  | [d1, d2, d3, d4] => { results := [.lit (.bool true)], args := [d1, d2, d3, d4] }
  | _ => none }
def catalogMovesRow : OpenClaim := { program := "ytebflhlgcpbikaagreat", sum := "6caa4af54d0835e137fd3d0a9ed31f206908811ac7420b58d9ae832165a7c8a4", func := "slipway/slipwaylaw06.CatalogMoves", spec := "catalogMoves", inPlace := ["internal/bytealg.IndexByteString", "internal/bytealg.IndexString", "internal/bytealg.abigen_runtime_cmpstring", "math.archTrunc", "math.Float64bits", "math.Float64frombits"], unfollowed := true, recurses := true, named := ["internal/bytealg.MaxLen"], apart := false }
def CatalogMovesSaid : Prop := catalogMovesRow.holds Tryz.pinned (OpenSpec.ofChange catalogMovesSpec)

/-- ITS FALSE NEIGHBOUR: 'it returns false'. Refute it at one input. -/
def catalogMovesWrong : ChangeSpec := { name := "catalogMoves", fn := fun _ => fun
  | [d1, d2, d3, d4] => { results := [.lit (.bool false)], args := [d1, d2, d3, d4] }
  | _ => none }
def CatalogMovesWrongFalsely : Prop := catalogMovesRow.holds Tryz.pinned (OpenSpec.ofChange catalogMovesWrong)

/-- 'slipwaylaw06.CatalogBare': WHATEVER THE INPUT: true; the input reads as it did. -/
def catalogBareSpec : ChangeSpec := { name := "catalogBare", fn := fun _ => fun
  | [d1, d2, d3, d4] => { results := [.lit (.bool true)], args := [d1, d2, d3, d4] }
  | _ => none }
def catalogBareRow : OpenClaim := { program := "ytebflhlgcpbikaagreat", sum := "6caa4af54d0835e137fd3d0a9ed31f206908811ac7420b58d9ae832165a7c8a4", func := "slipway/slipwaylaw06.CatalogBare", spec := "catalogBare", inPlace := ["internal/bytealg.IndexByteString", "internal/bytealg.IndexString", "internal/bytealg.abigen_runtime_cmpstring", "math.archTrunc", "math.Float64bits", "math.Float64frombits"], unfollowed := true, recurses := true, named := ["internal/bytealg.MaxLen"], apart := false }
def CatalogBareSaid : Prop := catalogBareRow.holds Tryz.pinned (OpenSpec.ofChange catalogBareSpec)

/-- ITS FALSE NEIGHBOUR: 'it returns false'. Refute it at one input. -/
def catalogBareWrong : ChangeSpec := { name := "catalogBare", fn := fun _ => fun
  | [d1, d2, d3, d4] => { results := [.lit (.bool false)], args := [d1, d2, d3, d4] }
  | _ => none }
def CatalogBareWrongFalsely : Prop := catalogBareRow.holds Tryz.pinned (OpenSpec.ofChange catalogBareWrong)

/- THE SECOND FORM. 'bulk': how many values and letters a reading holds, each counted each time it is reached (what is shared counts as often as it is met; a slice's spare places count too). A statement '..UptoSaid' is the law's where the arguments, and the package variables that the reading takes, are together of bulk at most 1048576: NARROWER than '..Said'. Prove '..Said' where nothing that the law and all that it calls make is longer than what came in: it says more and counts as full. Else prove '..UptoSaid'. A law counts once. -/
mutual
def uptoBulk {H : Type} : DataW H → Nat
  | .lit (.string bytes) => bytes.length + 1
  | .lit _ => 1
  | .nil => 1
  | .ptr d => uptoBulk d + 1
  | .slice elems spare => uptoBulkAll elems + uptoBulkAll spare + 1
  | .agg parts => uptoBulkAll parts + 1
  | .iface _ d => uptoBulk d + 1
  | .map entries => uptoBulkEntries entries + 1
  | .held _ => 1
def uptoBulkAll {H : Type} : List (DataW H) → Nat
  | [] => 0
  | d :: r => uptoBulk d + uptoBulkAll r
def uptoBulkEntries {H : Type} : List (Lit × DataW H) → Nat
  | [] => 0
  | x :: r => uptoBulkEntry x + uptoBulkEntries r
def uptoBulkEntry {H : Type} : Lit × DataW H → Nat
  | (.string bytes, d) => bytes.length + uptoBulk d + 1
  | (_, d) => uptoBulk d + 1
 end
def uptoSmall : (H : Type) → List (DataW H) → Bool := fun _ ds => decide (uptoBulkAll ds ≤ 1048576)
def OpenSpec.upto (s : _root_.Go.ChangeSpec) : _root_.Go.OpenSpec := { _root_.Go.OpenSpec.ofChange s with cond := some uptoSmall }

/-- 'slipwaylaw06.CatalogChecks', WHERE WHAT IT READS IS OF BULK AT MOST 1048576: true; the input reads as it did. -/
def catalogChecksUptoRow : OpenClaim := { program := "ytebflhlgcpbikaagreat", sum := "6caa4af54d0835e137fd3d0a9ed31f206908811ac7420b58d9ae832165a7c8a4", func := "slipway/slipwaylaw06.CatalogChecks", spec := "catalogChecks", inPlace := ["internal/bytealg.IndexByteString", "internal/bytealg.IndexString", "internal/bytealg.abigen_runtime_cmpstring", "math.archTrunc", "math.Float64bits", "math.Float64frombits"], unfollowed := true, recurses := true, named := ["internal/bytealg.MaxLen"], apart := false, narrowed := true }
def CatalogChecksUptoSaid : Prop := catalogChecksUptoRow.holds Tryz.pinned (OpenSpec.upto catalogChecksSpec)

/-- 'slipwaylaw06.CatalogGraphs', WHERE WHAT IT READS IS OF BULK AT MOST 1048576: true; the input reads as it did. -/
def catalogGraphsUptoRow : OpenClaim := { program := "ytebflhlgcpbikaagreat", sum := "6caa4af54d0835e137fd3d0a9ed31f206908811ac7420b58d9ae832165a7c8a4", func := "slipway/slipwaylaw06.CatalogGraphs", spec := "catalogGraphs", inPlace := ["internal/bytealg.IndexByteString", "internal/bytealg.IndexString", "internal/bytealg.abigen_runtime_cmpstring", "math.archTrunc", "math.Float64bits", "math.Float64frombits"], unfollowed := true, recurses := true, named := ["internal/bytealg.MaxLen"], apart := false, narrowed := true }
def CatalogGraphsUptoSaid : Prop := catalogGraphsUptoRow.holds Tryz.pinned (OpenSpec.upto catalogGraphsSpec)

/-- 'slipwaylaw06.CatalogFits', WHERE WHAT IT READS IS OF BULK AT MOST 1048576: true; the input reads as it did. -/
def catalogFitsUptoRow : OpenClaim := { program := "ytebflhlgcpbikaagreat", sum := "6caa4af54d0835e137fd3d0a9ed31f206908811ac7420b58d9ae832165a7c8a4", func := "slipway/slipwaylaw06.CatalogFits", spec := "catalogFits", inPlace := ["internal/bytealg.IndexByteString", "internal/bytealg.IndexString", "internal/bytealg.abigen_runtime_cmpstring", "math.archTrunc", "math.Float64bits", "math.Float64frombits"], unfollowed := true, recurses := true, named := ["internal/bytealg.MaxLen"], apart := false, narrowed := true }
def CatalogFitsUptoSaid : Prop := catalogFitsUptoRow.holds Tryz.pinned (OpenSpec.upto catalogFitsSpec)

/-- 'slipwaylaw06.CatalogSettled', WHERE WHAT IT READS IS OF BULK AT MOST 1048576: true; the input reads as it did. -/
def catalogSettledUptoRow : OpenClaim := { program := "ytebflhlgcpbikaagreat", sum := "6caa4af54d0835e137fd3d0a9ed31f206908811ac7420b58d9ae832165a7c8a4", func := "slipway/slipwaylaw06.CatalogSettled", spec := "catalogSettled", inPlace := ["internal/bytealg.IndexByteString", "internal/bytealg.IndexString", "internal/bytealg.abigen_runtime_cmpstring", "math.archTrunc", "math.Float64bits", "math.Float64frombits"], unfollowed := true, recurses := true, named := ["internal/bytealg.MaxLen"], apart := false, narrowed := true }
def CatalogSettledUptoSaid : Prop := catalogSettledUptoRow.holds Tryz.pinned (OpenSpec.upto catalogSettledSpec)

/-- 'slipwaylaw06.CatalogMoves', WHERE WHAT IT READS IS OF BULK AT MOST 1048576: true; the input reads as it did. -/
def catalogMovesUptoRow : OpenClaim := { program := "ytebflhlgcpbikaagreat", sum := "6caa4af54d0835e137fd3d0a9ed31f206908811ac7420b58d9ae832165a7c8a4", func := "slipway/slipwaylaw06.CatalogMoves", spec := "catalogMoves", inPlace := ["internal/bytealg.IndexByteString", "internal/bytealg.IndexString", "internal/bytealg.abigen_runtime_cmpstring", "math.archTrunc", "math.Float64bits", "math.Float64frombits"], unfollowed := true, recurses := true, named := ["internal/bytealg.MaxLen"], apart := false, narrowed := true }
def CatalogMovesUptoSaid : Prop := catalogMovesUptoRow.holds Tryz.pinned (OpenSpec.upto catalogMovesSpec)

/-- 'slipwaylaw06.CatalogBare', WHERE WHAT IT READS IS OF BULK AT MOST 1048576: true; the input reads as it did. -/
def catalogBareUptoRow : OpenClaim := { program := "ytebflhlgcpbikaagreat", sum := "6caa4af54d0835e137fd3d0a9ed31f206908811ac7420b58d9ae832165a7c8a4", func := "slipway/slipwaylaw06.CatalogBare", spec := "catalogBare", inPlace := ["internal/bytealg.IndexByteString", "internal/bytealg.IndexString", "internal/bytealg.abigen_runtime_cmpstring", "math.archTrunc", "math.Float64bits", "math.Float64frombits"], unfollowed := true, recurses := true, named := ["internal/bytealg.MaxLen"], apart := false, narrowed := true }
def CatalogBareUptoSaid : Prop := catalogBareUptoRow.holds Tryz.pinned (OpenSpec.upto catalogBareSpec)

end Rows
end Go.Proofs.YtebflhlgcpbikaaGreat
