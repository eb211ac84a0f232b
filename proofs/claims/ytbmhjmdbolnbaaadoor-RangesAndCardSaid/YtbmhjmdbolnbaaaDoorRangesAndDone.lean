/-
  THE STATEMENT 'RangesAnd' IS PROVED, as its tied card: whatever its arguments, the call returns true, and each argument reads behind it as it did before; the listed variables read as the program's own text lays them.
  (The walk itself is in the imported texts.)
-/
import Derived.Test.YtbmhjmdbolnbaaaDoorRows
import Derived.Test.YtbmhjmdbolnbaaaDoorTie
import Derived.Test.YtbmhjmdbolnbaaaDoorCards
import Derived.Test.YtbmhjmdbolnbaaaDoorROpen
import Derived.Test.YtbmhjmdbolnbaaaDoorSOpen
import Derived.Test.YtbmhjmdbolnbaaaDoorRLawA
import Derived.Test.YtbmhjmdbolnbaaaDoorTied
import Derived.Test.YtbmhjmdbolnbaaaDoorRDoor
import Derived.WalkKit
import Derived.ProofKit
import Derived.OpenShut
import Derived.ShutString
import Derived.ChangeOld
import Derived.Below
import Derived.LaidMore
import Derived.Stop.Joined
import Derived.SevenTiedAt
namespace Go.Proofs.YtbmhjmdbolnbaaaDoor.rangesAnd
open Go.ChangeShapes Go.WideShapes Go.ChangeAt Go.RowKit
open Go.ChangeMaps (open_string shut_string)
open SemP
set_option linter.unusedVariables false

theorem own : ownKnob Tryd.prog.godebug = none := by kernel_rfl
theorem laidOut : laidOutB Tryd.prog = true := by kernel_rfl

theorem walk (a0 : Option Addr) (m0 c0 : Nat) (g0 : List (List CV)) (a1 : Option Addr) (m1 c1 : Nat) (g1 : List (List CV)) (a2 b2 c2 : Int) (s2 : ByteArray) (w : World) (w0 : RdR w w.heap.size a0 m0 g0) (w1 : RdR w w.heap.size a1 m1 g1) (w2 : (Lit.int .i64 a2).wf = true ∧ (Lit.int .i64 b2).wf = true ∧ (Lit.int .i64 c2).wf = true ∧ s2.size ≤ maxLen) (hm : LenAt w) (h1 : 1 < w.heap.size) (hl : laidMetH Tryd.prog Rows.rangesAndRow.laid w) :
    Calls Tryd.prog 14 #[.agg #[.slice a0 m0 c0], .agg #[.slice a1 m1 c1], verV a2 b2 c2 s2] w fun e w' => e = .returned (.bool true) ∧ Below w.heap.size w w' := by
  exact law_and a0 m0 c0 g0 a1 m1 c1 g1 a2 b2 c2 s2 w w0 w1 (ran_signs hl) hm h1

/-- The door's own heap meets the condition (ran: once for all rows with this list). -/
theorem door_met (os : Os) (args : Array Value) : laidMetH Tryd.prog Rows.rangesAndRow.laid ((World.laidAll Tryd.prog os Rows.rangesTildeRow.laid).forCall (fun _ _ => 0) ⟨#[], args, []⟩).memory := ran_door_met os args

set_option maxRecDepth 100000 in
theorem lifted (os : Os) (started : os.Started) (H : Type) (enc : TypeId × Value → H) :
    ReturnsInHanded {} Tryd.checked os 14 .any (fun w args => (Rows.rangesAndSpec.pre enc Tryd.prog Tryd.f14 [] false w args ∧ laidMetH Tryd.prog Rows.rangesAndRow.laid w) ∧ sizedMet enc Tryd.prog Tryd.f14 (OpenSpec.ofChange Rows.rangesAndSpec) false w args)
      (Rows.rangesAndSpec.post enc Tryd.prog Tryd.f14 false true false false) := by
  refine returnsInHanded_of_change_and_shaped (C := Tryd.checked) (X := fun w _ => laidMetH Tryd.prog Rows.rangesAndRow.laid w) (fun _ _ _ hh h => h.of_heap hh) own started (by kernel_rfl) Tryd.func14
    (ChangeSpec.witness_shaped (enc := enc) (C := Tryd.checked) (os := os) (X := fun w _ => laidMetH Tryd.prog Rows.rangesAndRow.laid w) false (World.laidAll Tryd.prog os Rows.rangesTildeRow.laid) #[.agg #[.slice none 0 0], .agg #[.slice none 0 0], .agg #[.int .i64 0, .int .i64 0, .int .i64 0, .string ⟨#[]⟩]] 8 (World.laidAll_os _ _ _) (ran_door_shaped os _) (by kernel_rfl) (by kernel_rfl) (by kernel_rfl) (door_met os _)) ?_
  intro W base args ds gs before hval0 hW hcnd _ hL hsh _
  have hval : ∀ (j : Nat) t v, Tryd.f14.params[j]? = some t → args[j]? = some v → Value.okWide Tryd.prog W .any base t v := hval0
  have hmL : LenAt W := Tryd.laysM145.s1_3 W hsh
  have hs1 : 1 < W.heap.size := by obtain ⟨m, hm⟩ := hmL; exact block_lt_of_cell hm
  have hW' := hW
  obtain ⟨p, q, hA0, hV, rfl, hfz, hnd⟩ := hW
  have hA : DataW.TrodAll enc Tryd.prog W 0 (fun _ => true) true Tryd.f14.params.toList args.toList ds p := hA0
  rw [Tryd.params14] at hA hval
  obtain ⟨v0, vs0, d0, ds0, p0, q0, hargs, rfl, rfl, h0, r0⟩ := trodAll_cons hA
  obtain ⟨v1, vs1, d1, ds1, p1, q1, rfl, rfl, rfl, h1, r1⟩ := trodAll_cons r0
  obtain ⟨v2, vs2, d2, ds2, p2, q2, rfl, rfl, rfl, h2, r2⟩ := trodAll_cons r1
  obtain ⟨rfl, rfl, rfl⟩ := trodAll_nil r2
  obtain rfl : args = #[v0, v1, v2] := by cases args; simp_all
  obtain ⟨rfl, rfl⟩ := trodVars_none hV
  have k0 := h0
  have lt0 : ∀ x ∈ p0, x.block < W.heap.size := by obtain ⟨m, hm⟩ := k0; exact DataW.trod_lt m _ _ _ hm
  obtain ⟨a0, m0, c0, g0, rfl, w0⟩ := open_range (hval 0 48 v0 rfl rfl) h0
  have k1 := h1
  have lt1 : ∀ x ∈ p1, x.block < W.heap.size := by obtain ⟨m, hm⟩ := k1; exact DataW.trod_lt m _ _ _ hm
  obtain ⟨a1, m1, c1, g1, rfl, w1⟩ := open_range (hval 1 48 v1 rfl rfl) h1
  have k2 := h2
  have lt2 : ∀ x ∈ p2, x.block < W.heap.size := by obtain ⟨m, hm⟩ := k2; exact DataW.trod_lt m _ _ _ hm
  obtain ⟨a2, b2, c2, s2, rfl, w2⟩ := open_version (hval 2 25 v2 rfl rfl) h2
  clear hA0 hval0
  refine (walk a0 m0 c0 g0 a1 m1 c1 g1 a2 b2 c2 s2 W w0 w1 w2 hmL hs1 hL).mono fun e W' ⟨he, bel⟩ => ?_
  subst he
  exact ⟨_, rfl, _, _, _, [], _, [], hW', trodAll_mk1 (shut_bool Tryd.underlying4 _), (trodAll_cons_mk (Below.trod laidOut (by kernel_rfl) (of_decide_eq_true (by kernel_rfl)) k0 bel lt0) (trodAll_cons_mk (Below.trod laidOut (by kernel_rfl) (of_decide_eq_true (by kernel_rfl)) k1 bel lt1) (trodAll_cons_mk (Below.trod laidOut (by kernel_rfl) (of_decide_eq_true (by kernel_rfl)) k2 bel lt2) trodAll_mk0))), rfl, bel.frame _, fun h => by cases h⟩

theorem over : Rows.rangesAndRow.holds Tryd.pinned (OpenSpec.ofChange Rows.rangesAndSpec) :=
  OpenClaim.holds_of_wide 14 Tryd.f14 rfl rfl rfl rfl rfl rfl rfl ⟨rfl, rfl, rfl, rfl, rfl⟩ rfl rfl rfl rfl rfl (by kernel_rfl) Tryd.func14 (by kernel_rfl)
    (of_decide_eq_true (by kernel_rfl)) (by unfold Func.isWrapper; first | (rw [if_pos (by decide +kernel)]; kernel_rfl) | (rw [if_neg (by decide +kernel)]; exact ⟨rfl, rfl⟩))
    (fun os started H enc _ => lifted os started H enc)

/-- The card. -/
theorem proved : Rows.RangesAndCardSaid :=
  Claim7.holds_tied_plain_at .later [] [.data, .data, .data, .data, .sentinel, .sentinel, .data, .pinned] true (true, "63c91b99c6cf1405f323eac13b02d561ea6996b229b1bf2aa3a4926a247b0680") true
    over (fun _ h => by cases h) (by kernel_rfl) (fun _ h => by cases h) rangesAnd_row_tie rfl ⟨rfl, rfl⟩ (by kernel_rfl) rfl
    (fun f fn hf hfn => by
      obtain rfl : f = 14 := Option.some.inj ((show Tryd.prog.funcNamed "slipway/slipwaylaw02.RangesAnd" = some 14 by kernel_rfl).symm.trans hf) |>.symm
      obtain rfl : fn = Tryd.f14 := (Option.some.inj (Tryd.func14.symm.trans hfn)).symm
      exact ⟨by kernel_rfl, fun j t ht => by
        rw [Tryd.params14] at ht
        have hm : t ∈ [48, 48, 25] := by simpa using Array.mem_of_getElem? ht
        have hall : ([48, 48, 25].all fun u => !Tryd.prog.wantsStandIn u) = true := by kernel_rfl
        exact (show Tryd.prog.wantsStandIn t = false by simpa using List.all_eq_true.1 hall t hm)⟩)
    (by kernel_rfl)
end Go.Proofs.YtbmhjmdbolnbaaaDoor.rangesAnd
namespace Go.Proofs.YtbmhjmdbolnbaaaDoor
theorem rangesAnd_card : Rows.RangesAndCardSaid := rangesAnd.proved
#print axioms rangesAnd_card
end Go.Proofs.YtbmhjmdbolnbaaaDoor
