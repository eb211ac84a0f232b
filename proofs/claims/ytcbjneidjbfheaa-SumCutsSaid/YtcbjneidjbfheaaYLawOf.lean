/-
  THE WALK of the statement SumOf: whatever the parts, the call returns true and writes nothing that was there.
-/
import Derived.Test.YtcbjneidjbfheaaYRows
import Derived.Test.YtcbjneidjbfheaaYRef
namespace Go.Proofs.Ytcbjneidjbfheaa
open Go.RowKit
open ByteP
set_option linter.unusedVariables false

theorem ofN_cat (PX : Nat → List Int) : ∀ k, ofN PX k = moreN 0 (catTo PX k) := by
  intro k
  induction k with
  | zero => show 0 = moreN 0 []; rw [moreN_nil]
  | succ k ih => show moreN (ofN PX k) (PX k) = moreN 0 (catTo PX k ++ PX k); rw [ih, moreN_append]
theorem catTo_bytes {PX : Nat → List Int} {m : Nat} (h : ∀ j, j < m → Bytes (PX j)) : ∀ k, k ≤ m → Bytes (catTo PX k) := by
  intro k
  induction k with
  | zero => intro _; exact bytes_nil
  | succ k ih => intro hk; exact bytes_append (ih (by omega)) (h k (by omega))
theorem Rd2.below {w w' : World} {B m : Nat} {A : Option Addr} {PA : Nat → Option Addr} {PN PC : Nat → Nat} {PX : Nat → List Int} (h : Rd2 w B A m PA PN PC PX) (hb : Below B w w') : Rd2 w' B A m PA PN PC PX := by
  refine ⟨fun hm => ?_, fun j hj => ⟨(h.2 j hj).1.below hb, (h.2 j hj).2⟩⟩
  obtain ⟨b, off, e, hlt, hc⟩ := h.1 hm
  exact ⟨b, off, e, hlt, fun j hj => (hb.cell hlt).trans (hc j hj)⟩

set_option maxHeartbeats 3200000 in
theorem law_of {w : World} {m c : Nat} {A : Option Addr} {PA : Nat → Option Addr} {PN PC : Nat → Nat} {PX : Nat → List Int} (hx : Rd2 w w.heap.size A m PA PN PC PX) (hm : m ≤ 9223372036854775807) :
    Calls Try.prog 3 #[.slice A m c] w fun e w' => e = .returned (.bool true) ∧ Below w.heap.size w w' := by
  have HX := Lib.hid hx
  clear hx
  by_cases h1 : 50 < m
  · go_enter Try.func3, Try.ntmps3
    go_wp2_with (go_at_call 7; refine (anchor_any _).mono ?_; rintro e w1 ⟨rfl, hbel⟩; (have HB := Lib.hid hbel); clear hbel)
    go_ret
    exact ⟨rfl, HB.out⟩
  · go_enter Try.func3, Try.ntmps3
    go_wp2_with (go_at_call 7; refine (anchor_any _).mono ?_; rintro e w1 ⟨rfl, hbel⟩; (have HB1 := Lib.hid hbel); clear hbel)
    go_loopw [3, 4, 15] (fun v s i wr => ∃ (k n q : Nat) (A' : Option Addr) (c' : Nat), k ≤ m ∧ i = .int .i64 (k : Int) ∧ v = .slice A' n c' ∧ n ≤ 3000 ∧ s = .int .i64 (q : Int) ∧ q < 4294967296 ∧ Hid (q = ofN PX k) ∧
        Hid (OwnY wr w.heap.size (.slice A' n c') n (catTo PX k)) ∧ Hid (Below w.heap.size w wr)) (fun _ _ i _ => m - (intOf i).toNat)
    case atStart => exact ⟨0, 0, 0, none, 0, by omega, rfl, rfl, by omega, rfl, by omega, Lib.hid rfl, Lib.hid (OwnY.nil_ _ _), HB1⟩
    case round =>
      clear HB1
      obtain ⟨k, n, q, A', c', hk, rfl, rfl, hn, rfl, hq, HQ, HO, HB⟩ := hrel
      have hsr := HB.out.size
      by_cases hlt : k < m
      · have HXr := Lib.hid (HX.out.below HB.out)
        obtain ⟨b, off, rfl, hbb, hc⟩ := HXr.out.at_ hlt
        have HP := Lib.hid (HXr.out.2 k hlt)
        have hpn : PN k ≤ 9223372036854775807 := HP.out.2.2
        have hql := moreN_lt q hq HP.out.2.1
        by_cases hbig : 3000 - (n : Int) < (PN k : Int)
        · go_wp2
          go_ret
          exact ⟨rfl, HB.out⟩
        · have hnp : n + PN k ≤ 3000 := by omega
          go_wp2_with (at_builtin; refine wplY_apps rfl _ _ rfl w.heap.size _ n _ rfl HO.out w.heap.size (PA k) (PN k) (PC k) (PX k) rfl HP.out.1 (by omega) hsr ?_; intro v2 w2 hown2 hg2 hat2)
          obtain ⟨A2, c2, rfl, _⟩ := hown2.shape
          have HO2 := Lib.hid hown2
          have HB2 : Hid (Below w.heap.size w w2) := Lib.hid (HB.out.grown hg2 hsr HO.out.ge)
          have HP2 := Lib.hid ((HX.out.below HB2.out).2 k hlt)
          clear hown2 hg2 hat2
          go_wp2_with fail
          refine (more_any HP2.out.1 HP2.out.2.1 HP2.out.2.2 q hq).mono ?_
          rintro e w3 ⟨rfl, rfl⟩
          go_wp2
          go_roundw
          case rel => exact ⟨k + 1, n + PN k, moreN q (PX k), A2, c2, by omega, by go_num, rfl, hnp, rfl, hql, Lib.hid (by rw [HQ.out]; rfl), HO2, HB2⟩
          case measure => simp [intOf]; omega
      · have hkm : k = m := by omega
        have HE : Hid (q = ofN PX m ∧ q = moreN 0 (catTo PX k)) := Lib.hid ⟨by rw [HQ.out, hkm], by rw [HQ.out, ofN_cat]⟩
        have HR := Lib.hid (OwnY.rd HO.out (Below.refl _ _))
        have HBC : Hid (Bytes (catTo PX k)) := Lib.hid (catTo_bytes (fun j hj => (HX.out.2 j hj).2.1) k hk)
        have HXr := Lib.hid (HX.out.below HB.out)
        have hb1 : ((q : Int) == (q : Int)) = true := by simp
        clear hkm
        go_wp2_with fail
        refine (refOf_any HR.out HBC.out (by omega)).mono ?_
        rintro e w4 ⟨rfl, rfl⟩
        rw [← HE.out.2]
        go_wp2_with fail
        refine (of_any HXr.out hm).mono ?_
        rintro e w5 ⟨rfl, rfl⟩
        rw [← HE.out.1]
        go_wp2
        go_ret
        exact ⟨rfl, HB.out⟩
end Go.Proofs.Ytcbjneidjbfheaa
