/-
  CONTRACT of the document's own package of layer 1: Right (printed by genrefright.py).
  Two versions compared.
  PURE: a mark more makes a Pre greater; less without a Pre. WORDS: several boxes at once.
  CONTRACT of the document's own package of layer 1: Parse (printed by genrefparse.py).
-/
import Derived.Test.YtebflhlgcpbikaaGreatSGa
import Derived.Test.YtebflhlgcpbikaaGreatSGd
import Derived.Test.YtebflhlgcpbikaaGreatSBump
namespace Go.Proofs.YtebflhlgcpbikaaGreat
open Go.RowKit
open SemP
set_option linter.unusedVariables false
set_option linter.unusedSimpArgs false
set_option maxRecDepth 100000

abbrev refC (a b c : Int) (s : ByteArray) : Obj := .cells #[.int .i64 a, .int .i64 b, .int .i64 c, .string s] 76
set_option maxHeartbeats 4000000 in
theorem RefRight_any (a b c : Int) (s : ByteArray) (w : World) (hs : s.size ≤ 1000000000000) :
    Calls Tryz.prog 56 #[verV a b c s] w fun e w' => e = .returned (.bool (Ver.right ⟨a, b, c, bs s⟩)) ∧ Below w.heap.size w w' := by
  have hb0 : Below w.heap.size w (w.alloc (refC a b c s)) := (Below.refl _ w).alloc (Nat.le_refl _) _
  obtain ⟨x0, x1, x2, x3⟩ := cells4 (World.alloc_heap_new w (refC a b c s))
  have HRP := Lib.hid (Pre_any s (w.alloc (refC a b c s)) hs)
  have HB0 := Lib.hid hb0
  have HR := Lib.hid (show Ver.right ⟨a, b, c, bs s⟩ = ((decide (0 ≤ a) && decide (a ≤ 999999)) && (decide (0 ≤ b) && decide (b ≤ 999999)) && (decide (0 ≤ c) && decide (c ≤ 999999)) && ((bs s).isEmpty || rightPre (bs s))) from rfl)
  clear hb0
  cases d0 : decide (0 ≤ a) with
  | false =>
    have HV : Hid (Ver.right ⟨a, b, c, bs s⟩ = false) := Lib.hid (by rw [HR.out, d0]; simp)
    go_enter Tryz.func56, Tryz.ntmps56
    go_wp2
    refine bodyPost_ret (results_tmp rfl _ _ _) rfl ⟨by rw [HV.out]; rfl, HB0.out⟩
  | true =>
    cases d1 : decide (a ≤ 999999) with
    | false =>
      have HV : Hid (Ver.right ⟨a, b, c, bs s⟩ = false) := Lib.hid (by rw [HR.out, d1]; simp)
      go_enter Tryz.func56, Tryz.ntmps56
      go_wp2
      refine bodyPost_ret (results_tmp rfl _ _ _) rfl ⟨by rw [HV.out]; rfl, HB0.out⟩
    | true =>
      cases d2 : decide (0 ≤ b) with
      | false =>
        have HV : Hid (Ver.right ⟨a, b, c, bs s⟩ = false) := Lib.hid (by rw [HR.out, d2]; simp)
        go_enter Tryz.func56, Tryz.ntmps56
        go_wp2
        refine bodyPost_ret (results_tmp rfl _ _ _) rfl ⟨by rw [HV.out]; rfl, HB0.out⟩
      | true =>
        cases d3 : decide (b ≤ 999999) with
        | false =>
          have HV : Hid (Ver.right ⟨a, b, c, bs s⟩ = false) := Lib.hid (by rw [HR.out, d3]; simp)
          go_enter Tryz.func56, Tryz.ntmps56
          go_wp2
          refine bodyPost_ret (results_tmp rfl _ _ _) rfl ⟨by rw [HV.out]; rfl, HB0.out⟩
        | true =>
          cases d4 : decide (0 ≤ c) with
          | false =>
            have HV : Hid (Ver.right ⟨a, b, c, bs s⟩ = false) := Lib.hid (by rw [HR.out, d4]; simp)
            go_enter Tryz.func56, Tryz.ntmps56
            go_wp2
            refine bodyPost_ret (results_tmp rfl _ _ _) rfl ⟨by rw [HV.out]; rfl, HB0.out⟩
          | true =>
            cases d5 : decide (c ≤ 999999) with
            | false =>
              have HV : Hid (Ver.right ⟨a, b, c, bs s⟩ = false) := Lib.hid (by rw [HR.out, d5]; simp)
              go_enter Tryz.func56, Tryz.ntmps56
              go_wp2
              refine bodyPost_ret (results_tmp rfl _ _ _) rfl ⟨by rw [HV.out]; rfl, HB0.out⟩
            | true =>
              have HV : Hid (Ver.right ⟨a, b, c, bs s⟩ = ((bs s).isEmpty || rightPre (bs s))) := Lib.hid (by rw [HR.out, d0, d1, d2, d3, d4, d5]; simp)
              go_enter Tryz.func56, Tryz.ntmps56
              go_wp2_with fail
              refine HRP.out.mono ?_
              rintro e W2 ⟨rfl, h2⟩
              have HB2 := Lib.hid (HB0.out.trans (h2.mono (by simp)))
              clear h2 HRP
              go_wp2
              all_goals (refine bodyPost_ret (results_tmp rfl _ _ _) rfl ⟨?_, HB2.out⟩)
              all_goals (rw [HV.out]; first | rfl | (simp [*]; done))
end Go.Proofs.YtebflhlgcpbikaaGreat
namespace Go.Proofs.YtebflhlgcpbikaaGreat
open Go.RowKit
open SemP
set_option linter.unusedVariables false
set_option linter.unusedSimpArgs false
set_option maxRecDepth 100000
theorem toL_inj {s t : ByteArray} (e : s.toList = t.toList) : s = t := by
  rw [ByteArray.toList_eq, ByteArray.toList_eq] at e
  cases s; cases t
  simp at e
  congr 1
def verEq (a b c : Int) (s : ByteArray) (a' b' c' : Int) (s' : ByteArray) : Bool := decide (a = a' ∧ b = b' ∧ c = c' ∧ s = s')
end Go.Proofs.YtebflhlgcpbikaaGreat
namespace SemP
open Go.Lib
end SemP
namespace Go.Proofs.YtebflhlgcpbikaaGreat
open Go.RowKit
open SemP
/-- Several blocks, each with what it bears. -/
def BoxesAt (l : List (Nat × Obj)) (W : World) : Prop := ∀ x ∈ l, x.1 < W.heap.size ∧ W.heap[x.1]? = some x.2
theorem BoxesAt.below {l : List (Nat × Obj)} {W W' : World} (h : BoxesAt l W) (hb : Below W.heap.size W W') : BoxesAt l W' := fun x hx => ⟨Nat.lt_of_lt_of_le (h x hx).1 hb.size, (hb.block _ (h x hx).1).trans (h x hx).2⟩
theorem BoxesAt.push {l : List (Nat × Obj)} {W : World} (h : BoxesAt l W) (o : Obj) : BoxesAt ((W.heap.size, o) :: l) (W.alloc o) := by
  intro x hx
  rcases List.mem_cons.1 hx with rfl | hx
  · exact ⟨by simp, World.alloc_heap_new _ _⟩
  · exact ⟨by have := (h x hx).1; simp; omega, (Below.heap_alloc _ _ _ (h x hx).1).trans (h x hx).2⟩
theorem BoxesAt.nil (W : World) : BoxesAt [] W := fun x hx => by cases hx
end Go.Proofs.YtebflhlgcpbikaaGreat
namespace Go.Proofs.YtebflhlgcpbikaaGreat
open Go.RowKit
open SemP
set_option linter.unusedVariables false
set_option linter.unusedSimpArgs false
set_option maxRecDepth 100000

theorem isE (x : ByteArray) (b : Bool) (h : (bs x).isEmpty = b) : x.toList.isEmpty = b := by rw [ByteArray.toList_eq]; exact h
end Go.Proofs.YtebflhlgcpbikaaGreat
