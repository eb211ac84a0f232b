/-
  THE LAW RangesHas (printed by genlawrh.py).
-/
import Derived.Test.YtpnbbbhbbnemlaaGreatDoorRMc
import Derived.Test.YtpnbbbhbbnemlaaGreatDoorRPl
import Derived.Test.YtpnbbbhbbnemlaaGreatDoorRAnch
namespace Go.Proofs.YtpnbbbhbbnemlaaGreatDoor
open Go.RowKit
open SemP
set_option linter.unusedVariables false
set_option linter.unusedSimpArgs false
set_option maxRecDepth 100000
theorem plain_fits {r : List (List CV)} (h : plainR r = true) : r.length ≤ 20 ∧ Fits r ∧ Small r := by
  unfold plainR at h
  rw [Bool.and_eq_true, decide_eq_true_eq, List.all_eq_true] at h
  have hl : ∀ l ∈ r, l.length ≤ 20 ∧ ∀ x ∈ l, x.s.size ≤ 100 := fun l hl => by
    have h2 := h.2 l hl
    unfold plainL at h2
    rw [Bool.and_eq_true, decide_eq_true_eq, List.all_eq_true] at h2
    exact ⟨h2.1, fun x hx => of_decide_eq_true (h2.2 x hx)⟩
  exact ⟨h.1, fun l hm => ⟨fun x hx => by have := (hl l hm).2 x hx; omega, by have := (hl l hm).1; omega⟩, fun l hm x hx => by have := (hl l hm).2 x hx; omega⟩
structure LhSt (w0 : World) (vr vv vd : Value) (q : Bool) (b0 b1 b2 b3 b4 b5 b6 b7 : Bool) (v4 v22 v23 v24 v25 v26 v27 v28 : Value) (w' : World) : Prop where
  bel : Below w0.heap.size w0 w'
  h0 : b0 = true → v22 = vr
  h1 : b1 = true → v23 = vv
  h2 : b2 = true → v24 = .bool q
  h3 : b3 = true → v25 = vd
  h4 : b4 = true → v26 = vv
  h5 : b5 = true → v27 = .bool q
  h6 : b6 = true → v28 = .bool true
  h7 : b7 = true → v4 = .bool true
inductive LhJ (w0 : World) (vr vv vd : Value) (q : Bool) (p0 p1 p2 p3 p5 p6 p7 p8 p9 p10 p11 p12 p13 p14 p15 p16 p17 p18 p19 p20 p21 : Value) : Array Bool → Act → World → Prop where
  | mk (b0 b1 b2 b3 b4 b5 b6 b7 : Bool) (v4 v22 v23 v24 v25 v26 v27 v28 : Value) (w' : World) : LhSt w0 vr vv vd q b0 b1 b2 b3 b4 b5 b6 b7 v4 v22 v23 v24 v25 v26 v27 v28 w' → LhJ w0 vr vv vd q p0 p1 p2 p3 p5 p6 p7 p8 p9 p10 p11 p12 p13 p14 p15 p16 p17 p18 p19 p20 p21 #[b0, b1, b2, b3, b4, b5, b6, b7] { tmps := List.toArray (p0 :: p1 :: p2 :: p3 :: v4 :: p5 :: p6 :: p7 :: p8 :: p9 :: p10 :: p11 :: p12 :: p13 :: p14 :: p15 :: p16 :: p17 :: p18 :: p19 :: p20 :: p21 :: v22 :: v23 :: v24 :: v25 :: v26 :: v27 :: v28 :: []), defers := [] } w'
end Go.Proofs.YtpnbbbhbbnemlaaGreatDoor
