/-
  THE STATEMENT 'RangesBack' IS PROVED, as its tied card: whatever its arguments, the call returns true, and each argument reads behind it as it did before; the listed variables read as the program's own text lays them.
  (The walk itself is in the imported texts.)
-/
import Derived.Test.YtpnbbbhbbnemlaaGreatDoorRows
import Derived.Test.YtpnbbbhbbnemlaaGreatDoorTie
import Derived.Test.YtpnbbbhbbnemlaaGreatDoorCards
import Derived.Test.YtpnbbbhbbnemlaaGreatDoorROpen
import Derived.Test.YtpnbbbhbbnemlaaGreatDoorSOpen
import Derived.Test.YtpnbbbhbbnemlaaGreatDoorMLK
import Derived.Test.YtpnbbbhbbnemlaaGreatDoorTied
import Derived.Test.YtpnbbbhbbnemlaaGreatDoorMDoor
import Derived.WalkKit
import Derived.ProofKit
import Derived.OpenShut
import Derived.ShutString
import Derived.ChangeOld
import Derived.Below
import Derived.LaidMore
import Derived.Stop.Joined
import Derived.SevenTiedAt
namespace Go.Proofs.YtpnbbbhbbnemlaaGreatDoor.rangesBack
open Go.ChangeShapes Go.WideShapes Go.ChangeAt Go.RowKit
open Go.ChangeMaps (open_string shut_string)
open SemP
set_option linter.unusedVariables false

theorem own : ownKnob Tryz.prog.godebug = none := by kernel_rfl
theorem laidOut : laidOutB Tryz.prog = true := by kernel_rfl

theorem walk (a0 : Option Addr) (m0 c0 : Nat) (g0 : List (List CV)) (w : World) (w0 : RdR w w.heap.size a0 m0 g0) (hm : LenAt w) (h1 : 1 < w.heap.size) (hl : laidMetH Tryz.prog Rows.rangesBackRow.laid w) :
    Calls Tryz.prog 3 #[.agg #[.slice a0 m0 c0]] w fun e w' => e = .returned (.bool true) ∧ Below w.heap.size w w' := by
  exact law_backR a0 m0 c0 g0 w w0 (ran_signs hl) hm h1 (ran_pow hl)

/-- The door's own heap meets the condition (ran: once for all rows with this list). -/
theorem door_met (os : Os) (args : Array Value) : laidMetH Tryz.prog Rows.rangesBackRow.laid ((World.laidAll Tryz.prog os Rows.rangesBackRow.laid).forCall (fun _ _ => 0) ⟨#[], args, []⟩).memory := ran_door_met os args

set_option maxRecDepth 100000 in
theorem lifted (os : Os) (started : os.Started) (H : Type) (enc : TypeId × Value → H) :
    ReturnsInHanded {} Tryz.checked os 3 .any (fun w args => (Rows.rangesBackSpec.pre enc Tryz.prog Tryz.f3 [] false w args ∧ laidMetH Tryz.prog Rows.rangesBackRow.laid w) ∧ sizedMet enc Tryz.prog Tryz.f3 (OpenSpec.ofChange Rows.rangesBackSpec) false w args)
      (Rows.rangesBackSpec.post enc Tryz.prog Tryz.f3 false true false false) := by
  refine returnsInHanded_of_change_and_shaped (C := Tryz.checked) (X := fun w _ => laidMetH Tryz.prog Rows.rangesBackRow.laid w) (fun _ _ _ hh h => h.of_heap hh) own started (by kernel_rfl) Tryz.func3
    (ChangeSpec.witness_shaped (enc := enc) (C := Tryz.checked) (os := os) (X := fun w _ => laidMetH Tryz.prog Rows.rangesBackRow.laid w) false (World.laidAll Tryz.prog os Rows.rangesBackRow.laid) #[.agg #[.slice none 0 0]] 8 (World.laidAll_os _ _ _) (ran_door_shaped os _) (by kernel_rfl) (by kernel_rfl) (by kernel_rfl) (door_met os _)) ?_
  intro W base args ds gs before hval0 hW hcnd _ hL hsh _
  have hval : ∀ (j : Nat) t v, Tryz.f3.params[j]? = some t → args[j]? = some v → Value.okWide Tryz.prog W .any base t v := hval0
  have hmL : LenAt W := Tryz.laysM145.s1_3 W hsh
  have hs1 : 1 < W.heap.size := by obtain ⟨m, hm⟩ := hmL; exact block_lt_of_cell hm
  have hW' := hW
  obtain ⟨p, q, hA0, hV, rfl, hfz, hnd⟩ := hW
  have hA : DataW.TrodAll enc Tryz.prog W 0 (fun _ => true) true Tryz.f3.params.toList args.toList ds p := hA0
  rw [Tryz.params3] at hA hval
  obtain ⟨v0, vs0, d0, ds0, p0, q0, hargs, rfl, rfl, h0, r0⟩ := trodAll_cons hA
  obtain ⟨rfl, rfl, rfl⟩ := trodAll_nil r0
  obtain rfl : args = #[v0] := by cases args; simp_all
  obtain ⟨rfl, rfl⟩ := trodVars_none hV
  have k0 := h0
  have lt0 : ∀ x ∈ p0, x.block < W.heap.size := by obtain ⟨m, hm⟩ := k0; exact DataW.trod_lt m _ _ _ hm
  obtain ⟨a0, m0, c0, g0, rfl, w0⟩ := open_range (hval 0 24 v0 rfl rfl) h0
  clear hA0 hval0
  refine (walk a0 m0 c0 g0 W w0 hmL hs1 hL).mono fun e W' ⟨he, bel⟩ => ?_
  subst he
  exact ⟨_, rfl, _, _, _, [], _, [], hW', trodAll_mk1 (shut_bool Tryz.underlying4 _), (trodAll_cons_mk (Below.trod laidOut (by kernel_rfl) (of_decide_eq_true (by kernel_rfl)) k0 bel lt0) trodAll_mk0), rfl, bel.frame _, fun h => by cases h⟩

theorem over : Rows.rangesBackRow.holds Tryz.pinned (OpenSpec.ofChange Rows.rangesBackSpec) :=
  OpenClaim.holds_of_wide 3 Tryz.f3 rfl rfl rfl rfl rfl rfl rfl ⟨rfl, rfl, rfl, rfl, rfl⟩ rfl rfl rfl rfl rfl (by kernel_rfl) Tryz.func3 (by kernel_rfl)
    (of_decide_eq_true (by kernel_rfl)) (by unfold Func.isWrapper; first | (rw [if_pos (by decide +kernel)]; kernel_rfl) | (rw [if_neg (by decide +kernel)]; exact ⟨rfl, rfl⟩))
    (fun os started H enc _ => lifted os started H enc)

/-- The card. -/
theorem proved : Rows.RangesBackCardSaid :=
  Claim7.holds_tied_plain_at .later [] [.data, .data, .data, .data, .sentinel, .sentinel, .data, .pinned] true (true, "5908de546dead90ed93f678a86ce784a014c1d3ab547b75e413e6d9ab5a09956") true
    over (fun _ h => by cases h) (by kernel_rfl) (fun _ h => by cases h) rangesBack_row_tie rfl ⟨rfl, rfl⟩ (by kernel_rfl) rfl
    (fun f fn hf hfn => by
      obtain rfl : f = 3 := Option.some.inj ((show Tryz.prog.funcNamed "slipway/slipwaylaw02.RangesBack" = some 3 by kernel_rfl).symm.trans hf) |>.symm
      obtain rfl : fn = Tryz.f3 := (Option.some.inj (Tryz.func3.symm.trans hfn)).symm
      exact ⟨by kernel_rfl, fun j t ht => by
        rw [Tryz.params3] at ht
        have hm : t ∈ [24] := by simpa using Array.mem_of_getElem? ht
        have hall : ([24].all fun u => !Tryz.prog.wantsStandIn u) = true := by kernel_rfl
        exact (show Tryz.prog.wantsStandIn t = false by simpa using List.all_eq_true.1 hall t hm)⟩)
    (by kernel_rfl)
end Go.Proofs.YtpnbbbhbbnemlaaGreatDoor.rangesBack
namespace Go.Proofs.YtpnbbbhbbnemlaaGreatDoor
theorem rangesBack_card : Rows.RangesBackCardSaid := rangesBack.proved
#print axioms rangesBack_card
end Go.Proofs.YtpnbbbhbbnemlaaGreatDoor
