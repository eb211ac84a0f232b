/-
  THE WALK of the statement DigraphEdges, where it ends before an edge is added: graphs that are too great, numbers out of range.
-/
import Derived.Test.YtinphdphloddmaaDReachM
import Derived.Test.YtinphdphloddmaaDPrefixes
import Derived.Test.YtinphdphloddmaaDLevLaw
namespace Go.Proofs.Ytinphdphloddmaa
open Go.RowKit
open DiP
set_option linter.unusedVariables false

set_option maxRecDepth 100000 in
set_option maxHeartbeats 1000000 in
theorem law_edges_great {w : World} {m c : Nat} {n i j : Int} {A : Option Addr} {es : List (Int × Int)} (hx : RdE w w.heap.size A m es) (hr : GraphR n es) (hsm : ¬ (m ≤ 100 ∧ n ≤ 20)) :
    Calls Try.prog 9 #[.agg #[.int .i64 n, .slice A m c], .int .i64 i, .int .i64 j] w fun e w' => e = .returned (.bool true) ∧ Below w.heap.size w w' := by
  have HX := Lib.hid hx
  have HR := Lib.hid hr
  have HSM : Hid ((decide (m ≤ 100) && decide (n ≤ 20)) = false) := Lib.hid (by simp; omega)
  clear hx hr hsm
  go_enter Try.func9, Try.ntmps9
  go_wp2_with fail
  refine (anchor_any _).mono ?_
  rintro e w1 ⟨rfl, hb⟩
  obtain ⟨hcn, hcs⟩ := (boxed_alloc w n A m c 24).below hb (by simp)
  have HB1 : Hid (Below w.heap.size w w1) := Lib.hid (((Below.refl _ _).alloc (Nat.le_refl _) _).trans (hb.mono (by simp)))
  have hsz1 : w.heap.size < w1.heap.size := by have := hb.size; simp at this; omega
  clear hb
  go_wp2_with fail
  refine (small_right (HX.out.below HB1.out) HR.out (by omega)).mono ?_
  rintro e w2 ⟨rfl, hb⟩
  rw [HSM.out]
  have HB2 : Hid (Below w.heap.size w w2) := Lib.hid (HB1.out.trans (hb.mono (by omega)))
  clear hb
  go_wp2
  go_ret
  exact ⟨rfl, HB2.out⟩
set_option maxRecDepth 100000 in
set_option maxHeartbeats 1000000 in
theorem law_edges_long {w : World} {m c : Nat} {n i j : Int} {A : Option Addr} {es : List (Int × Int)} (hx : RdE w w.heap.size A m es) (hr : ¬ GraphR n es) (hm0 : m ≤ 9223372036854775807) (hsm : ¬ m ≤ 100) :
    Calls Try.prog 9 #[.agg #[.int .i64 n, .slice A m c], .int .i64 i, .int .i64 j] w fun e w' => e = .returned (.bool true) ∧ Below w.heap.size w w' := by
  have HX := Lib.hid hx
  have HR := Lib.hid hr
  have HSM : Hid (decide (m ≤ 100) = false) := Lib.hid (by simp; omega)
  clear hx hr hsm
  go_enter Try.func9, Try.ntmps9
  go_wp2_with fail
  refine (anchor_any _).mono ?_
  rintro e w1 ⟨rfl, hb⟩
  obtain ⟨hcn, hcs⟩ := (boxed_alloc w n A m c 24).below hb (by simp)
  have HB1 : Hid (Below w.heap.size w w1) := Lib.hid (((Below.refl _ _).alloc (Nat.le_refl _) _).trans (hb.mono (by simp)))
  have hsz1 : w.heap.size < w1.heap.size := by have := hb.size; simp at this; omega
  clear hb
  go_wp2_with fail
  refine (small_wrong (HX.out.below HB1.out) HR.out hm0 (by omega)).mono ?_
  rintro e w2 ⟨rfl, hb⟩
  rw [HSM.out]
  have HB2 : Hid (Below w.heap.size w w2) := Lib.hid (HB1.out.trans (hb.mono (by omega)))
  clear hb
  go_wp2
  go_ret
  exact ⟨rfl, HB2.out⟩
end Go.Proofs.Ytinphdphloddmaa
