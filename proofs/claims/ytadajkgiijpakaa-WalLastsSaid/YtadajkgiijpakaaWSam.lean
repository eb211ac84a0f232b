/-
  CONTRACTS of the document's own comparison of lists of texts, and of its frames, over this translation.
-/
import Derived.Test.YtadajkgiijpakaaWRow
import Derived.Test.YtadajkgiijpakaaWFrm
import Derived.Deep.QuietTactic
import Derived.BigQuiet
namespace Go.Proofs.Ytadajkgiijpakaa
open Go.RowKit
open ByteP
set_option linter.unusedVariables false
set_option maxRecDepth 10000
/-- A list of texts, read. -/
def RdT (w : World) (A : Option Addr) (k : Nat) (PX : Nat → List Int) : Prop := ∀ j, j < k → ∃ b off P n d, A = some ⟨b, off, none⟩ ∧ w.cell? ⟨b, off + j, none⟩ = some (.slice P n d) ∧ RdY w w.heap.size P n (PX j) ∧ n ≤ 9223372036854775807
theorem RdT.drewN {w : World} {A : Option Addr} {k : Nat} {PX : Nat → List Int} (h : RdT w A k PX) (q : Nat) : RdT (w.drewN q) A k PX := h
theorem Row.rdT {w : World} {M : Nat → Prop} {B0 : Nat} {A : Option Addr} {k c : Nat} {rs : List (List Int)} (h : Row w M B0 (.slice A k c) rs) : RdT w A rs.length (fun j => rs.getD j []) := fun j hj => by
  obtain ⟨b, P, n, d, e, hc, hr, _, hn, _⟩ := h.at_ hj
  exact ⟨b, 0, P, n, d, e, by rw [Nat.zero_add]; exact hc, hr.rd, by omega⟩
theorem Rd2.rdT {w : World} {B m : Nat} {A : Option Addr} {PA : Nat → Option Addr} {PN PC : Nat → Nat} {PX : Nat → List Int} (h : Rd2 w B A m PA PN PC PX) (hB : B ≤ w.heap.size) : RdT w A m PX := fun j hj => by
  obtain ⟨b, off, e, hb, hc⟩ := h.at_ hj
  exact ⟨b, off, _, _, _, e, hc, (h.2 j hj).1.more hB, (h.2 j hj).2.2⟩
def sameT (k : Nat) (PX : Nat → List Int) (m : Nat) (PY : Nat → List Int) : Bool := decide (k = m ∧ ∀ j, j < k → PX j = PY j)
theorem sameT_yes {k : Nat} {PX PY : Nat → List Int} (h : ∀ j, j < k → PX j = PY j) : sameT k PX k PY = true := decide_eq_true ⟨rfl, h⟩
set_option maxHeartbeats 1000000 in
theorem same14_any {w : World} {k m c d : Nat} {A D : Option Addr} {PX PY : Nat → List Int} (hx : RdT w A k PX) (hy : RdT w D m PY) (hk : k ≤ 9223372036854775807) (hm : m ≤ 9223372036854775807) :
    Calls Try.prog 20 #[.slice A k c, .slice D m d] w fun e w' => e = .returned (.bool (sameT k PX m PY)) ∧ ∃ q, w' = w.drewN q := by
  have HX := Lib.hid hx
  have HY := Lib.hid hy
  clear hx hy
  by_cases hkm : k = m
  · subst hkm
    go_enter Try.func20, Try.ntmps20
    go_wp2
    go_loopw [5] (fun i wr => ∃ j q : Nat, j ≤ k ∧ i = .int .i64 (j : Int) ∧ wr = w.drewN q ∧ Hid (∀ i, i < j → PX i = PY i)) (fun i _ => k - (intOf i).toNat)
    case atStart => exact ⟨0, 0, Nat.zero_le _, rfl, rfl, Lib.hid (fun j hj => absurd hj (by omega))⟩
    case round =>
      obtain ⟨j, q, hj, rfl, rfl, HA⟩ := hrel
      by_cases hlt : j < k
      · obtain ⟨b1, o1, P1, n1, d1, rfl, hc1, hr1, hn1⟩ := HX.out j hlt
        obtain ⟨b2, o2, P2, n2, d2, rfl, hc2, hr2, hn2⟩ := HY.out j hlt
        obtain ⟨W, hW⟩ : ∃ W, w.drewN q = W := ⟨_, rfl⟩
        have hk1 : W.cell? ⟨b1, o1 + j, none⟩ = some (.slice P1 n1 d1) := by rw [← hW]; exact hc1
        have hk2 : W.cell? ⟨b2, o2 + j, none⟩ = some (.slice P2 n2 d2) := by rw [← hW]; exact hc2
        have hz1 : RdY W w.heap.size P1 n1 (PX j) := by rw [← hW]; exact hr1.drewN q
        have hz2 : RdY W w.heap.size P2 n2 (PY j) := by rw [← hW]; exact hr2.drewN q
        have HSM := Lib.hid (fun q' : Nat => sameY_any (c := d1) (d := d2) (hz1.drewN q') (hz2.drewN q') hn1 hn2)
        have hcj : (j : Int) < (k : Int) := by omega
        have HWE := Lib.hid hW
        by_cases hpq : PX j = PY j
        · have hsy : sameY (PX j) (PY j) = true := by rw [hpq]; exact sameY_refl _
          rw [hsy] at HSM
          have HPQ := Lib.hid hpq
          clear hr1 hr2 hz1 hz2 hc1 hc2 hsy hpq
          go_wp2_with fail
          try rw [HWE.out]
          clear hW
          go_quiet (first | (go_at_call 18; refine Calls.quiet_of (HSM.out _)))
          rename_i nq
          go_wp2
          go_roundw
          case rel => exact ⟨j + 1, q + nq, by omega, by go_num, by rw [← HWE.out, World.drewN_drewN], Lib.hid (fun i hi => by
            by_cases h : i < j
            · exact HA.out i h
            · have : i = j := by omega
              subst this; exact HPQ.out)⟩
          case measure => simp [intOf]; omega
        · have hsy : sameY (PX j) (PY j) = false := by unfold sameY; rw [decide_eq_false_iff_not]; exact hpq
          rw [hsy] at HSM
          have HNO : Hid (sameT k PX k PY = false) := Lib.hid (by unfold sameT; rw [decide_eq_false_iff_not]; exact fun h => hpq (h.2 j hlt))
          clear hr1 hr2 hz1 hz2 hc1 hc2 hsy hpq
          go_wp2_with fail
          try rw [HWE.out]
          clear hW
          go_quiet (first | (go_at_call 18; refine Calls.quiet_of (HSM.out _)))
          rename_i nq
          go_wp2
          go_ret
          exact ⟨by rw [HNO.out]; rfl, q + nq, by rw [← HWE.out, World.drewN_drewN]⟩
      · have E : Hid (sameT k PX k PY = true) := Lib.hid (sameT_yes (fun i hi => HA.out i (by omega)))
        go_wp2
        go_ret
        exact ⟨by rw [E.out]; rfl, q, rfl⟩
  · have E : Hid (sameT k PX m PY = false) := Lib.hid (by unfold sameT; rw [decide_eq_false_iff_not]; exact fun h => hkm h.1)
    have hb : ((k : Int) != (m : Int)) = true := by simp; omega
    go_enter Try.func20, Try.ntmps20
    go_wp2
    go_ret
    exact ⟨by rw [E.out]; rfl, 0, rfl⟩
/-- The document's frame. -/
theorem refFrm_any {w : World} {B n c : Nat} {A : Option Addr} {xs : List Int} {mk : Int} (hx : RdY w B A n xs) (hb : Bytes xs) (h0 : 0 ≤ mk) (h1 : mk ≤ 255) (hn : n ≤ 65535) (hB : B ≤ w.heap.size) :
    Calls Try.prog 27 #[.int .i64 mk, .slice A n c] w fun e w' => ∃ A' c', e = .returned (.slice A' (n + 9) c') ∧ OwnY w' w.heap.size (.slice A' (n + 9) c') (n + 9) (frmP mk xs) ∧ Below w.heap.size w w' := by
  have HL : Hid (xs.length = n) := Lib.hid hx.len
  have HBO := Lib.hid (bytes_one h0 h1)
  have HBX := Lib.hid hb
  have hx1 : RdY (w.alloc (.cells #[.int .u8 mk] 5)) (w.alloc (.cells #[.int .u8 mk] 5)).heap.size A n xs := (hx.alloc hB _).more (by simp; omega)
  have hr1 : RdY (w.alloc (.cells #[.int .u8 mk] 5)) (w.alloc (.cells #[.int .u8 mk] 5)).heap.size (some ⟨w.heap.size, 0, none⟩) 1 [mk] := by rw [World.size_alloc]; exact rdY_one w mk
  have hw8 : IntKind.u8.wrap mk = mk := by simp only [IntKind.wrap, IntKind.bits, IntKind.signed]; simp; omega
  have HJ := Lib.hid (refJoin_any (c := 1) (d := c) hr1 hx1 (Nat.le_refl _) (by omega))
  clear hx hb hx1 hr1
  go_enter Try.func27, Try.ntmps27
  go_wp2_with fail
  refine HJ.out.mono ?_
  rintro e w2 ⟨v2, rfl, hown2, hb2⟩
  obtain ⟨A2, c2, rfl, hr2⟩ := hown2.shape
  have HR2 := Lib.hid hr2
  have HB2 : Hid (Below w.heap.size w w2) := Lib.hid (((Below.refl _ _).alloc (Nat.le_refl _) _).trans (hb2.mono (by simp)))
  have hs2 := HB2.out.size
  clear hown2 hb2 hr2 HJ hw8
  go_wp2_with fail
  refine (refFrame_any (w := w2) (B := w2.heap.size) (n := 1 + n) (xs := [mk] ++ xs) HR2.out (bytes_cons h0 h1 HBX.out) (by omega) (Nat.le_refl _)).mono ?_
  rintro e w3 ⟨v3, rfl, hown3, hb3⟩
  obtain ⟨A3, c3, rfl, _⟩ := hown3.shape
  have HO3 : Hid (OwnY w3 w.heap.size (.slice A3 (n + 9) c3) (n + 9) (frmP mk xs)) := Lib.hid (by
    have := hown3.less hs2
    unfold frmP
    rw [HL.out]
    rw [show 1 + n + 8 = n + 9 by omega, show 1 + n = n + 1 by omega] at this
    exact this)
  have HB3 : Hid (Below w.heap.size w w3) := Lib.hid (HB2.out.trans (hb3.mono hs2))
  clear hown3 hb3
  go_wp2
  go_ret
  exact ⟨A3, c3, (by have e : 1 + n + 8 = n + 9 := by omega
                     simp [e]), HO3.out, HB3.out⟩
end Go.Proofs.Ytadajkgiijpakaa
