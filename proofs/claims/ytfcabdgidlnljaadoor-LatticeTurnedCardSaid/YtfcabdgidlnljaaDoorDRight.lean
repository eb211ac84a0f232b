/-
  CONTRACTS of the document's graph (Right), of plain and small, over this translation.
-/
import Derived.Test.YtfcabdgidlnljaaDoorDThin
namespace Go.Proofs.YtfcabdgidlnljaaDoor
open Go.RowKit
open DiP
set_option linter.unusedVariables false

theorem node_iff {n x : Int} : node n x = true ↔ 0 ≤ x ∧ x < n := by unfold node; simp

set_option maxHeartbeats 1000000 in
theorem right_yes {w : World} {B m c : Nat} {n : Int} {A : Option Addr} {es : List (Int × Int)} (hx : RdE w B A m es) (hr : GraphR n es) (hB : B ≤ w.heap.size) :
    Calls Tryd.prog 15 #[.agg #[.int .i64 n, .slice A m c]] w fun e w' => e = .returned (.bool true) ∧ Below w.heap.size w w' := by
  have hm : m ≤ 4096 := by have := hr.2.2.1; rw [hx.1] at this; exact this
  have hn0 := hr.1
  have hn1 := hr.2.1
  have HX := Lib.hid hx
  have HR : Hid (∀ k < m, node n (ea es k) = true ∧ node n (eb es k) = true) := Lib.hid (by have := hr.2.2.2; rwa [hx.1] at this)
  clear hx hr
  go_enter Tryd.func15, Tryd.ntmps15
  go_wp2_with fail
  have HW : Hid (Boxed (w.alloc (.cells #[.int .i64 n, .slice A m c] 26)) w.heap.size n A m c ∧ Below w.heap.size w (w.alloc (.cells #[.int .i64 n, .slice A m c] 26))) := Lib.hid ⟨boxed_alloc _ _ _ _ _ _, (Below.refl _ _).alloc (Nat.le_refl _) _⟩
  generalize (w.alloc (.cells #[.int .i64 n, .slice A m c] 26)) = W0 at HW ⊢
  obtain ⟨hcn, hcs⟩ := HW.out.1
  go_loop [3] (fun i => ∃ k : Nat, k ≤ m ∧ i = .int .i64 (k : Int)) (fun i => m - (intOf i).toNat)
  case atStart => exact ⟨0, by omega, rfl⟩
  case round =>
    obtain ⟨k, hk, rfl⟩ := hrel
    by_cases hlt : k < m
    · obtain ⟨b, off, rfl, hbb, hca, hcb⟩ := (HX.out.below (HW.out.2.mono hB)).at_ hlt
      obtain ⟨hna, hnb⟩ := HR.out k hlt
      obtain ⟨ha0, ha1⟩ := node_iff.1 hna
      obtain ⟨hb0, hb1⟩ := node_iff.1 hnb
      clear hna hnb
      go_wp2
      go_round
      case rel => exact ⟨k + 1, by omega, by go_num⟩
      case measure => simp [intOf]; omega
    · go_wp2
      go_ret
      exact ⟨rfl, HW.out.2⟩

set_option maxHeartbeats 1000000 in
theorem right_no {w : World} {B m c : Nat} {n : Int} {A : Option Addr} {es : List (Int × Int)} (hx : RdE w B A m es) (hr : ¬ GraphR n es) (hm0 : m ≤ 9223372036854775807) (hB : B ≤ w.heap.size) :
    Calls Tryd.prog 15 #[.agg #[.int .i64 n, .slice A m c]] w fun e w' => e = .returned (.bool false) ∧ Below w.heap.size w w' := by
  have HX := Lib.hid hx
  have HXL := Lib.hid hx.1
  have HR := Lib.hid hr
  clear hx hr
  by_cases h1 : n < 0
  · go_enter Tryd.func15, Tryd.ntmps15
    go_wp2
    go_ret
    exact ⟨rfl, (Below.refl _ _).alloc (Nat.le_refl _) _⟩
  by_cases h2 : 64 < n
  · go_enter Tryd.func15, Tryd.ntmps15
    go_wp2
    go_ret
    exact ⟨rfl, (Below.refl _ _).alloc (Nat.le_refl _) _⟩
  by_cases h3 : 4096 < m
  · go_enter Tryd.func15, Tryd.ntmps15
    go_wp2
    go_ret
    exact ⟨rfl, (Below.refl _ _).alloc (Nat.le_refl _) _⟩
  have hn0 : 0 ≤ n := by omega
  have hn1 : n ≤ 64 := by omega
  have hm : m ≤ 4096 := by omega
  clear h1 h2 h3
  go_enter Tryd.func15, Tryd.ntmps15
  go_wp2_with fail
  have HW : Hid (Boxed (w.alloc (.cells #[.int .i64 n, .slice A m c] 26)) w.heap.size n A m c ∧ Below w.heap.size w (w.alloc (.cells #[.int .i64 n, .slice A m c] 26))) := Lib.hid ⟨boxed_alloc _ _ _ _ _ _, (Below.refl _ _).alloc (Nat.le_refl _) _⟩
  generalize (w.alloc (.cells #[.int .i64 n, .slice A m c] 26)) = W0 at HW ⊢
  obtain ⟨hcn, hcs⟩ := HW.out.1
  go_loop [3] (fun i => ∃ k : Nat, k ≤ m ∧ i = .int .i64 (k : Int) ∧ Hid (∀ j < k, node n (ea es j) = true ∧ node n (eb es j) = true)) (fun i => m - (intOf i).toNat)
  case atStart => exact ⟨0, by omega, rfl, Lib.hid (fun j hj => absurd hj (by omega))⟩
  case round =>
    obtain ⟨k, hk, rfl, HG⟩ := hrel
    by_cases hlt : k < m
    · obtain ⟨b, off, rfl, hbb, hca, hcb⟩ := (HX.out.below (HW.out.2.mono hB)).at_ hlt
      by_cases ha0 : ea es k < 0
      · go_wp2
        go_ret
        exact ⟨rfl, HW.out.2⟩
      by_cases hb0 : eb es k < 0
      · go_wp2
        go_ret
        exact ⟨rfl, HW.out.2⟩
      by_cases ha1 : n ≤ ea es k
      · go_wp2
        go_ret
        exact ⟨rfl, HW.out.2⟩
      by_cases hb1 : n ≤ eb es k
      · go_wp2
        go_ret
        exact ⟨rfl, HW.out.2⟩
      have ha0' : 0 ≤ ea es k := by omega
      have hb0' : 0 ≤ eb es k := by omega
      have ha1' : ea es k < n := by omega
      have hb1' : eb es k < n := by omega
      clear ha0 hb0 ha1 hb1
      go_wp2
      go_round
      case rel => exact ⟨k + 1, by omega, by go_num, Lib.hid (fun j hj => by
        by_cases hjk : j < k
        · exact HG.out j hjk
        · obtain rfl : j = k := by omega
          exact ⟨node_iff.2 ⟨ha0', ha1'⟩, node_iff.2 ⟨hb0', hb1'⟩⟩)⟩
      case measure => simp [intOf]; omega
    · exfalso
      refine HR.out ⟨by omega, by omega, by rw [HXL.out]; omega, fun j hj => HG.out j (by rw [HXL.out] at hj; omega)⟩

end Go.Proofs.YtfcabdgidlnljaaDoor
