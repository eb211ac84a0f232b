/-
  THE STATEMENT 'RangesParses' IS PROVED, as its tied card: whatever its arguments, the call returns true, and each argument reads behind it as it did before; the listed variables read as the program's own text lays them.
  (The walk itself is in the imported texts.)
-/
import Derived.Test.YtbmhjmdbolnbaaaDoorRows
import Derived.Test.YtbmhjmdbolnbaaaDoorTie
import Derived.Test.YtbmhjmdbolnbaaaDoorCards
import Derived.Test.YtbmhjmdbolnbaaaDoorSOpen
import Derived.Test.YtbmhjmdbolnbaaaDoorRLawS
import Derived.Test.YtbmhjmdbolnbaaaDoorTied
import Derived.Test.YtbmhjmdbolnbaaaDoorRDoor
import Derived.WalkKit
import Derived.ProofKit
import Derived.OpenShut
import Derived.ShutString
import Derived.ChangeOld
import Derived.Below
import Derived.LaidMore
import Derived.Stop.Joined
import Derived.SevenTiedAt
namespace Go.Proofs.YtbmhjmdbolnbaaaDoor.rangesParses
open Go.ChangeShapes Go.WideShapes Go.ChangeAt Go.RowKit
open Go.ChangeMaps (open_string shut_string)
open SemP
set_option linter.unusedVariables false

theorem own : ownKnob Tryd.prog.godebug = none := by kernel_rfl
theorem laidOut : laidOutB Tryd.prog = true := by kernel_rfl

theorem walk (s0 : ByteArray) (w : World) (w0 : s0.size ≤ maxLen) (hm : LenAt w) (h1 : 1 < w.heap.size) (hl : laidMetH Tryd.prog Rows.rangesParsesRow.laid w) :
    Calls Tryd.prog 11 #[.string s0] w fun e w' => e = .returned (.bool true) ∧ Below w.heap.size w w' := by
  exact law_parsesR s0 w (ran_signs hl) hm h1

/-- The door's own heap meets the condition (ran: once for all rows with this list). -/
theorem door_met (os : Os) (args : Array Value) : laidMetH Tryd.prog Rows.rangesParsesRow.laid ((World.laidAll Tryd.prog os Rows.rangesTildeRow.laid).forCall (fun _ _ => 0) ⟨#[], args, []⟩).memory := ran_door_met os args

set_option maxRecDepth 100000 in
theorem lifted (os : Os) (started : os.Started) (H : Type) (enc : TypeId × Value → H) :
    ReturnsInHanded {} Tryd.checked os 11 .any (fun w args => (Rows.rangesParsesSpec.pre enc Tryd.prog Tryd.f11 [] false w args ∧ laidMetH Tryd.prog Rows.rangesParsesRow.laid w) ∧ sizedMet enc Tryd.prog Tryd.f11 (OpenSpec.ofChange Rows.rangesParsesSpec) false w args)
      (Rows.rangesParsesSpec.post enc Tryd.prog Tryd.f11 false true false false) := by
  refine returnsInHanded_of_change_and_shaped (C := Tryd.checked) (X := fun w _ => laidMetH Tryd.prog Rows.rangesParsesRow.laid w) (fun _ _ _ hh h => h.of_heap hh) own started (by kernel_rfl) Tryd.func11
    (ChangeSpec.witness_shaped (enc := enc) (C := Tryd.checked) (os := os) (X := fun w _ => laidMetH Tryd.prog Rows.rangesParsesRow.laid w) false (World.laidAll Tryd.prog os Rows.rangesTildeRow.laid) #[.string ⟨#[]⟩] 8 (World.laidAll_os _ _ _) (ran_door_shaped os _) (by kernel_rfl) (by kernel_rfl) (by kernel_rfl) (door_met os _)) ?_
  intro W base args ds gs before hval0 hW hcnd _ hL hsh _
  have hval : ∀ (j : Nat) t v, Tryd.f11.params[j]? = some t → args[j]? = some v → Value.okWide Tryd.prog W .any base t v := hval0
  have hmL : LenAt W := Tryd.laysM145.s1_3 W hsh
  have hs1 : 1 < W.heap.size := by obtain ⟨m, hm⟩ := hmL; exact block_lt_of_cell hm
  have hW' := hW
  obtain ⟨p, q, hA0, hV, rfl, hfz, hnd⟩ := hW
  have hA : DataW.TrodAll enc Tryd.prog W 0 (fun _ => true) true Tryd.f11.params.toList args.toList ds p := hA0
  rw [Tryd.params11] at hA hval
  obtain ⟨v0, vs0, d0, ds0, p0, q0, hargs, rfl, rfl, h0, r0⟩ := trodAll_cons hA
  obtain ⟨rfl, rfl, rfl⟩ := trodAll_nil r0
  obtain rfl : args = #[v0] := by cases args; simp_all
  obtain ⟨rfl, rfl⟩ := trodVars_none hV
  obtain ⟨s0, rfl, rfl, rfl, w0⟩ := open_string Tryd.underlying9 (hval 0 9 v0 rfl rfl) h0
  clear hA0 hval0
  refine (walk s0 W w0 hmL hs1 hL).mono fun e W' ⟨he, bel⟩ => ?_
  subst he
  exact ⟨_, rfl, _, _, _, [], _, [], hW', trodAll_mk1 (shut_bool Tryd.underlying4 _), (trodAll_cons_mk (shut_string Tryd.underlying9 w0) trodAll_mk0), rfl, bel.frame _, fun h => by cases h⟩

theorem over : Rows.rangesParsesRow.holds Tryd.pinned (OpenSpec.ofChange Rows.rangesParsesSpec) :=
  OpenClaim.holds_of_wide 11 Tryd.f11 rfl rfl rfl rfl rfl rfl rfl ⟨rfl, rfl, rfl, rfl, rfl⟩ rfl rfl rfl rfl rfl (by kernel_rfl) Tryd.func11 (by kernel_rfl)
    (of_decide_eq_true (by kernel_rfl)) (by unfold Func.isWrapper; first | (rw [if_pos (by decide +kernel)]; kernel_rfl) | (rw [if_neg (by decide +kernel)]; exact ⟨rfl, rfl⟩))
    (fun os started H enc _ => lifted os started H enc)

/-- The card. -/
theorem proved : Rows.RangesParsesCardSaid :=
  Claim7.holds_tied_plain_at .later [] [.data, .data, .data, .data, .sentinel, .sentinel, .data, .pinned] true (true, "63c91b99c6cf1405f323eac13b02d561ea6996b229b1bf2aa3a4926a247b0680") true
    over (fun _ h => by cases h) (by kernel_rfl) (fun _ h => by cases h) rangesParses_row_tie rfl ⟨rfl, rfl⟩ (by kernel_rfl) rfl
    (fun f fn hf hfn => by
      obtain rfl : f = 11 := Option.some.inj ((show Tryd.prog.funcNamed "slipway/slipwaylaw02.RangesParses" = some 11 by kernel_rfl).symm.trans hf) |>.symm
      obtain rfl : fn = Tryd.f11 := (Option.some.inj (Tryd.func11.symm.trans hfn)).symm
      exact ⟨by kernel_rfl, fun j t ht => by
        rw [Tryd.params11] at ht
        have hm : t ∈ [9] := by simpa using Array.mem_of_getElem? ht
        have hall : ([9].all fun u => !Tryd.prog.wantsStandIn u) = true := by kernel_rfl
        exact (show Tryd.prog.wantsStandIn t = false by simpa using List.all_eq_true.1 hall t hm)⟩)
    (by kernel_rfl)
end Go.Proofs.YtbmhjmdbolnbaaaDoor.rangesParses
namespace Go.Proofs.YtbmhjmdbolnbaaaDoor
theorem rangesParses_card : Rows.RangesParsesCardSaid := rangesParses.proved
#print axioms rangesParses_card
end Go.Proofs.YtbmhjmdbolnbaaaDoor
