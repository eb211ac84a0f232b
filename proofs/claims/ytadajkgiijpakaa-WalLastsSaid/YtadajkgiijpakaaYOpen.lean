/-
  CONTRACTS of the document's own Frame and Open, and of Open and slices.Clone at bytes, over this translation.
-/
import Derived.Test.YtadajkgiijpakaaYFrame
import Derived.Test.YtadajkgiijpakaaYRef
import Derived.Deep.QuietTactic
import Derived.BigQuiet
namespace Go.Proofs.Ytadajkgiijpakaa
open Go.RowKit
open ByteP
set_option linter.unusedVariables false

theorem of_one {w : World} {B n c : Nat} {A : Option Addr} {xs : List Int} (h0 : RdY w B A n xs) (b0 : Bytes xs) (hB : B ≤ w.heap.size) (l0 : n ≤ 9223372036854775807) :
    Calls Try.prog 62 #[.slice (some ⟨w.heap.size, 0, none⟩) 1 1] (w.alloc (.cells #[.slice A n c] 26)) fun e w' => e = .returned (.int .i64 (moreN 0 xs)) ∧ w.alloc (.cells #[.slice A n c] 26) = w' :=
  of_any (Rd2.lit1 h0 b0 hB l0) (by omega)


set_option maxHeartbeats 1600000 in
theorem refFrame_any {w : World} {B n c : Nat} {A : Option Addr} {xs : List Int} (hx : RdY w B A n xs) (hb : Bytes xs) (hn : n ≤ 65536) (hB : B ≤ w.heap.size) :
    Calls Try.prog 46 #[.slice A n c] w fun e w' => ∃ v, e = .returned v ∧ OwnY w' w.heap.size v (n + 8) (frameL n xs) ∧ Below w.heap.size w w' := by
  have HX := Lib.hid hx
  clear hx
  go_enter Try.func46, Try.ntmps46
  go_wp2_with fail
  refine (refFour_any w n (by omega)).mono ?_
  rintro e w1 ⟨v1, rfl, hown1, hbel1⟩
  obtain ⟨A1, c1, rfl, hr1⟩ := hown1.shape
  have HB1 := Lib.hid hbel1
  have HR1 := Lib.hid hr1
  have hs1 := hbel1.size
  have HX1 : Hid (RdY w1 w1.heap.size A n xs) := Lib.hid ((HX.out.below (hbel1.mono hB)).more (by omega))
  clear hown1 hbel1 hr1
  go_wp2_with fail
  refine (refJoin_any HR1.out HX1.out (Nat.le_refl _) (by omega)).mono ?_
  rintro e w2 ⟨v2, rfl, hown2, hbel2⟩
  obtain ⟨A2, c2, rfl, hr2⟩ := hown2.shape
  have HB2 : Hid (Below w.heap.size w w2) := Lib.hid (HB1.out.trans (hbel2.mono hs1))
  have HR2 := Lib.hid hr2
  have HO2 := Lib.hid (hown2.less hs1)
  have HBY : Hid (Bytes (fourL n ++ xs)) := Lib.hid (bytes_append (fourL_bytes n (by omega)) hb)
  have hs2 : w.heap.size ≤ w2.heap.size := HB2.out.size
  clear hown2 hbel2 hr2 HR1 HX1
  go_wp2_with fail
  refine (refOf_any HR2.out HBY.out (by omega)).mono ?_
  rintro e w3 ⟨rfl, rfl⟩
  have HS : Hid (moreN 0 (fourL n ++ xs) = sum2 (fourL n) xs) := Lib.hid (by unfold sum2; rw [moreN_append])
  have hlt := moreN_lt 0 (by omega) HBY.out
  rw [HS.out] at hlt ⊢
  have HL : Hid (frameL n xs = fourL n ++ xs ++ fourL (sum2 (fourL n) xs)) := Lib.hid rfl
  obtain ⟨s, hs⟩ : ∃ s, s = sum2 (fourL n) xs := ⟨_, rfl⟩
  rw [← hs] at hlt HL ⊢
  clear hs HS
  go_wp2_with fail
  refine (refFour_any w2 s hlt).mono ?_
  rintro e w4 ⟨v4, rfl, hown4, hbel4⟩
  obtain ⟨A4, c4, rfl, hr4⟩ := hown4.shape
  have HB4 : Hid (Below w.heap.size w w4) := Lib.hid (HB2.out.trans (hbel4.mono hs2))
  have HR4 := Lib.hid hr4
  have HO4 : Hid (OwnY w4 w.heap.size (.slice A2 (4 + n) c2) (4 + n) (fourL n ++ xs)) := Lib.hid (HO2.out.kept hbel4)
  have hs4 : w.heap.size ≤ w4.heap.size := HB4.out.size
  clear hown4 hbel4 hr4
  go_wp2_with (at_builtin; refine wplY_apps rfl _ _ rfl w.heap.size _ (4 + n) _ rfl HO4.out w4.heap.size A4 4 c4 (fourL s) rfl HR4.out (by omega) hs4 ?_; intro v5 w5 hown5 hg5 hat5)
  have HO5 := Lib.hid hown5
  have HB5 : Hid (Below w.heap.size w w5) := Lib.hid (HB4.out.grown hg5 hs4 HO4.out.ge)
  clear hown5 hg5 hat5
  go_wp2
  go_ret
  refine ⟨_, rfl, ?_, HB5.out⟩
  have := HO5.out
  rw [HL.out]
  rw [show 4 + n + 4 = n + 8 by omega] at this
  exact this

set_option maxHeartbeats 800000 in
theorem clone_any {w : World} {B n c : Nat} {A : Option Addr} {xs : List Int} (hx : RdY w B A n xs) (hB : B ≤ w.heap.size) (hn : n ≤ 1099511627776) :
    Calls Try.prog 36 #[.slice A n c] w fun e w' => ∃ v, e = .returned v ∧ OwnY w' w.heap.size v n xs ∧ Below w.heap.size w w' := by
  have HX := Lib.hid hx
  clear hx
  have hnil := fun (W : World) (A : Option Addr) (n c : Nat) => Lib.run_eql_slice_nil (P := Try.prog) W 26 5 A n c 0 0 Try.underlying26
  rcases A with _ | ad
  · have hm : n = 0 := by
      rcases Nat.eq_zero_or_pos n with h0 | h0
      · exact h0
      · obtain ⟨b, off, e, _⟩ := HX.out.2 h0
        cases e
    subst hm
    have HE : Hid (xs = []) := Lib.hid (List.eq_nil_of_length_eq_zero HX.out.1)
    go_enter Try.func36, Try.ntmps36
    go_wp2
    go_ret
    exact ⟨_, rfl, by rw [HE.out]; exact OwnY.nil_ _ _, Below.refl _ _⟩
  · have HA : Hid (RdY (w.alloc (.cells #[] 5)) B (some ad) n xs) := Lib.hid (HX.out.alloc hB _)
    have HO := Lib.hid (OwnY.empty w w.heap.size (Nat.le_refl _))
    go_enter Try.func36, Try.ntmps36
    go_wp2_with (at_builtin; go_must (refine wplY_apps rfl _ _ rfl w.heap.size _ 0 [] rfl HO.out B (some ad) n c xs rfl HA.out (by omega) (by simp) ?_); intro v' w1 hown hg hat)
    have HO1 := Lib.hid hown
    have HB1 : Hid (Below w.heap.size w w1) := Lib.hid (((Below.refl _ w).alloc (Nat.le_refl _) _).grown hg (by simp) (fun k h => by have h' : some w.heap.size = some k := h; cases h'; exact Nat.le_refl _))
    clear hown hg hat
    go_wp2
    go_ret
    exact ⟨_, rfl, by simpa using HO1.out, HB1.out⟩
end Go.Proofs.Ytadajkgiijpakaa
