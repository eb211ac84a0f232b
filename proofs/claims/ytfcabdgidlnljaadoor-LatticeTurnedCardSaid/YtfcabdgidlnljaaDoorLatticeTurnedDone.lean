/-
  THE STATEMENT 'LatticeTurned' IS PROVED, as its tied card: whatever its arguments, the call returns true, and each argument reads behind it as it did before; the listed variables read as the program's own text lays them.
  (The walk itself is in the imported texts.)
-/
import Derived.Test.YtfcabdgidlnljaaDoorRows
import Derived.Test.YtfcabdgidlnljaaDoorTie
import Derived.Test.YtfcabdgidlnljaaDoorCards
import Derived.Test.YtfcabdgidlnljaaDoorDOpen
import Derived.Test.YtfcabdgidlnljaaDoorLLawT
import Derived.Test.YtfcabdgidlnljaaDoorLSrt4
import Derived.Test.YtfcabdgidlnljaaDoorTied
import Derived.Test.YtfcabdgidlnljaaDoorLDoor
import Derived.WalkKit
import Derived.ProofKit
import Derived.OpenShut
import Derived.ShutString
import Derived.ChangeOld
import Derived.Below
import Derived.LaidMore
import Derived.Stop.Joined
import Derived.SevenTiedAt
namespace Go.Proofs.YtfcabdgidlnljaaDoor.latticeTurned
open Go.ChangeShapes Go.WideShapes Go.ChangeAt Go.RowKit
open Go.ChangeMaps (open_string shut_string)
open DiP
set_option linter.unusedVariables false

theorem own : ownKnob Tryd.prog.godebug = none := by kernel_rfl
theorem laidOut : laidOutB Tryd.prog = true := by kernel_rfl

theorem walk (n0 : Int) (a0 : Option Addr) (m0 c0 : Nat) (es0 : List (Int × Int)) (w : World) (w0 : (Lit.int .i64 n0).wf = true ∧ RdE w w.heap.size a0 m0 es0 ∧ m0 ≤ 9223372036854775807) (hl : laidMetH Tryd.prog Rows.latticeTurnedRow.laid w) :
    Calls Tryd.prog 10 #[.agg #[.int .i64 n0, .slice a0 m0 c0]] w fun e w' => e = .returned (.bool true) ∧ Below w.heap.size w w' := by
  exact law_turned sort_ok1024 w0.2.1 w0.2.2 (lat_tz hl).1 (lat_tz hl).2

/-- The door's own heap meets the condition (lat: once for all rows with this list). -/
theorem door_met (os : Os) (args : Array Value) : laidMetH Tryd.prog Rows.latticeTurnedRow.laid ((World.laidAll Tryd.prog os Rows.latticeDownRow.laid).forCall (fun _ _ => 0) ⟨#[], args, []⟩).memory := lat_door_met os args

set_option maxRecDepth 100000 in
theorem lifted (os : Os) (started : os.Started) (H : Type) (enc : TypeId × Value → H) :
    ReturnsInHanded {} Tryd.checked os 10 .any (fun w args => (Rows.latticeTurnedSpec.pre enc Tryd.prog Tryd.f10 [] false w args ∧ laidMetH Tryd.prog Rows.latticeTurnedRow.laid w) ∧ sizedMet enc Tryd.prog Tryd.f10 (OpenSpec.ofChange Rows.latticeTurnedSpec) false w args)
      (Rows.latticeTurnedSpec.post enc Tryd.prog Tryd.f10 false true false false) := by
  refine returnsInHanded_of_change_and_shaped (C := Tryd.checked) (X := fun w _ => laidMetH Tryd.prog Rows.latticeTurnedRow.laid w) (fun _ _ _ hh h => h.of_heap hh) own started (by kernel_rfl) Tryd.func10
    (ChangeSpec.witness_shaped (enc := enc) (C := Tryd.checked) (os := os) (X := fun w _ => laidMetH Tryd.prog Rows.latticeTurnedRow.laid w) false (World.laidAll Tryd.prog os Rows.latticeDownRow.laid) #[.agg #[.int .i64 0, .slice none 0 0]] 8 (World.laidAll_os _ _ _) (lat_door_shaped os _) (by kernel_rfl) (by kernel_rfl) (by kernel_rfl) (door_met os _)) ?_
  intro W base args ds gs before hval0 hW hcnd _ hL hsh _
  have hval : ∀ (j : Nat) t v, Tryd.f10.params[j]? = some t → args[j]? = some v → Value.okWide Tryd.prog W .any base t v := hval0
  have hW' := hW
  obtain ⟨p, q, hA0, hV, rfl, hfz, hnd⟩ := hW
  have hA : DataW.TrodAll enc Tryd.prog W 0 (fun _ => true) true Tryd.f10.params.toList args.toList ds p := hA0
  rw [Tryd.params10] at hA hval
  obtain ⟨v0, vs0, d0, ds0, p0, q0, hargs, rfl, rfl, h0, r0⟩ := trodAll_cons hA
  obtain ⟨rfl, rfl, rfl⟩ := trodAll_nil r0
  obtain rfl : args = #[v0] := by cases args; simp_all
  obtain ⟨rfl, rfl⟩ := trodVars_none hV
  have k0 := h0
  have lt0 : ∀ x ∈ p0, x.block < W.heap.size := by obtain ⟨m, hm⟩ := k0; exact DataW.trod_lt m _ _ _ hm
  obtain ⟨n0, a0, m0, c0, es0, rfl, w0⟩ := open_graph (hval 0 24 v0 rfl rfl) h0
  clear hA0 hval0
  refine (walk n0 a0 m0 c0 es0 W w0 hL).mono fun e W' ⟨he, bel⟩ => ?_
  subst he
  exact ⟨_, rfl, _, _, _, [], _, [], hW', trodAll_mk1 (shut_bool Tryd.underlying4 _), (trodAll_cons_mk (Below.trod laidOut (by kernel_rfl) (of_decide_eq_true (by kernel_rfl)) k0 bel lt0) trodAll_mk0), rfl, bel.frame _, fun h => by cases h⟩

theorem over : Rows.latticeTurnedRow.holds Tryd.pinned (OpenSpec.ofChange Rows.latticeTurnedSpec) :=
  OpenClaim.holds_of_wide 10 Tryd.f10 rfl rfl rfl rfl rfl rfl rfl ⟨rfl, rfl, rfl, rfl, rfl⟩ rfl rfl rfl rfl rfl (by kernel_rfl) Tryd.func10 (by kernel_rfl)
    (of_decide_eq_true (by kernel_rfl)) (by unfold Func.isWrapper; first | (rw [if_pos (by decide +kernel)]; kernel_rfl) | (rw [if_neg (by decide +kernel)]; exact ⟨rfl, rfl⟩))
    (fun os started H enc _ => lifted os started H enc)

/-- The card. -/
theorem proved : Rows.LatticeTurnedCardSaid :=
  Claim7.holds_tied_plain_at .later [] [.data] true (true, "be1ef8811a330192dec12a63d2d12f143e74e136db5eced129cdeb6b594da583") false
    over (fun _ h => by cases h) (by kernel_rfl) (fun _ h => by cases h) latticeTurned_row_tie rfl ⟨rfl, rfl⟩ (by kernel_rfl) rfl
    (fun f fn hf hfn => by
      obtain rfl : f = 10 := Option.some.inj ((show Tryd.prog.funcNamed "slipway/slipwaylaw09.LatticeTurned" = some 10 by kernel_rfl).symm.trans hf) |>.symm
      obtain rfl : fn = Tryd.f10 := (Option.some.inj (Tryd.func10.symm.trans hfn)).symm
      exact ⟨by kernel_rfl, fun j t ht => by
        rw [Tryd.params10] at ht
        have hm : t ∈ [24] := by simpa using Array.mem_of_getElem? ht
        have hall : ([24].all fun u => !Tryd.prog.wantsStandIn u) = true := by kernel_rfl
        exact (show Tryd.prog.wantsStandIn t = false by simpa using List.all_eq_true.1 hall t hm)⟩)
    (by kernel_rfl)
end Go.Proofs.YtfcabdgidlnljaaDoor.latticeTurned
namespace Go.Proofs.YtfcabdgidlnljaaDoor
theorem latticeTurned_card : Rows.LatticeTurnedCardSaid := latticeTurned.proved
#print axioms latticeTurned_card
end Go.Proofs.YtfcabdgidlnljaaDoor
