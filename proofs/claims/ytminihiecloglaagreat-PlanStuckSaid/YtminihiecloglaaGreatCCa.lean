/-
 MERGED: CRl CCk.
-/
import Derived.Test.YtminihiecloglaaGreatCNa
import Derived.Test.YtminihiecloglaaGreatCGb
import Derived.Test.YtminihiecloglaaGreatDOrder
import Derived.Deep.RegionHeld3
set_option linter.unusedVariables false
set_option linter.unusedSimpArgs false
namespace Go.Proofs.YtminihiecloglaaGreat
open Go.RowKit
open SemP
set_option maxRecDepth 10000
theorem SmRl.parts {r : Rl} (h : SmRl r) : r.2.2.length ≤ 12 ∧ r.1.2.2.2.size ≤ 100 ∧ ∀ p ∈ r.2.2, SmR p.2 := h
end Go.Proofs.YtminihiecloglaaGreat
namespace Go.Proofs.YtminihiecloglaaGreat
open Go.RowKit
open SemP DiP
set_option maxRecDepth 10000
def t3V (t : T3) : Value := .tuple #[.int .i64 t.1, .int .i64 t.2.1, .int .i64 t.2.2]
theorem chkC_hit {l : List Sv} {i : Nat} (h1 : ¬ (l.length < 1 ∨ 12 < l.length)) (hi : i < l.length) (h : ∀ j, j < i → bad3 (chkS l j) = false) {t : T3} (ht : chkS l i = t) (hb : t.2.2 ≠ 0) : chkC l = t := by
 have e : fst1 bad3 (0, 0, 0) (chkS l) l.length = t := by rw [fst1_hit rfl h (by rw [ht]; exact bad3_yes.2 hb) hi, ht]
 unfold chkC
 rw [if_neg h1, e, if_pos (bad3_yes.2 hb)]
theorem chkC_end {l : List Sv} (h1 : ¬ (l.length < 1 ∨ 12 < l.length)) (h : ∀ j, j < l.length → bad3 (chkS l j) = false) : chkC l = if Goes (befG (grE l)) l.length l.length then (0, 0, 0) else (0, 0, 21) := by
 have e : fst1 bad3 (0, 0, 0) (chkS l) l.length = (0, 0, 0) := fst1_ok rfl h
 unfold chkC
 rw [if_neg h1, e, if_neg (by decide)]
theorem chkS_svc {l : List Sv} {i : Nat} {e : Int} (h : svcE l i = e) (h0 : e ≠ 0) : chkS l i = ((i : Int), -1, e) := by
 unfold chkS; rw [h, if_pos h0]
theorem chkS_rel {l : List Sv} {i v : Nat} {e : Int} (h : svcE l i = 0) (hv : v < (svAt l i).2.length) (hj : ∀ j, j < v → bad3 (relT l i j) = false) (he : relE l.length i (svAt l i).2 v = e) (h0 : e ≠ 0) : chkS l i = ((i : Int), (v : Int), e) := by
 unfold chkS
 rw [h, if_neg (by decide), fst1_hit rfl hj (bad3_yes.2 (by show relE _ _ _ _ ≠ 0; rw [he]; exact h0)) hv]
 unfold relT; rw [he]
theorem chkS_ok {l : List Sv} {i : Nat} (h : svcE l i = 0) (hj : ∀ j, j < (svAt l i).2.length → bad3 (relT l i j) = false) : bad3 (chkS l i) = false := by
 unfold chkS
 rw [h, if_neg (by decide), fst1_ok rfl hj]; rfl
theorem grE_len {l : List Sv} {n : Nat} (h : l.length = n) (hn : n ≤ 16) : (grE l).length ≤ 256 := by
 have h1 := grK_len l l.length
 have h2 : l.length * l.length ≤ 16 * 16 := Nat.mul_le_mul (by omega) (by omega)
 unfold grE; omega
end Go.Proofs.YtminihiecloglaaGreat
