/-
  CONTRACTS of package lattice: climb, All, Ways of a wrong graph and of one with a circle (printed by genlclerr.py).
-/
import Derived.Test.YtfcabdgidlnljaaDoorLTop
import Derived.Test.YtfcabdgidlnljaaDoorLErr
namespace Go.Proofs.YtfcabdgidlnljaaDoor
open Go.RowKit
open DiP
set_option linter.unusedVariables false
set_option linter.unusedSimpArgs false
set_option maxRecDepth 100000
set_option maxHeartbeats 1000000 in
theorem climb_bad {w : World} {B m c : Nat} {n : Int} {es : List (Int × Int)} {A : Option Addr} (hx : RdE w B A m es) (hr : ¬ GraphR n es) (hm0 : m ≤ 9223372036854775807) (hB : B ≤ w.heap.size) :
    Calls Tryd.prog 24 #[.agg #[.int .i64 n, .slice A m c]] w fun e w' => e = .returned (.tuple #[.slice none 0 0, .int .i64 0, .int .i64 20]) ∧ Below w.heap.size w w' := by
  have HC := Lib.hid (thin_bad (w := w.alloc (.cells #[.int .i64 n, .slice A m c] 24)) (c := c) (hx.alloc hB _) hr hm0 (by simp; omega))
  clear hx
  go_enter Tryd.func24, Tryd.ntmps24
  go_wp2_with fail
  refine HC.out.mono ?_
  rintro e w2 ⟨rfl, hb⟩
  have HB := Lib.hid hb
  clear hb HC
  go_wp2
  refine bodyPost_ret (results_tmp3 rfl _ _ _) rfl ⟨rfl, ((Below.refl _ _).alloc (Nat.le_refl _) _).trans (HB.out.mono (by simp))⟩
set_option maxHeartbeats 1000000 in
theorem climb_no {w : World} {B m c : Nat} {n : Nat} {g : List (Nat × Nat)} {A : Option Addr} (hx : RdG w B A m g) (hi : InN n g) (hn : n ≤ 64) (hm : m ≤ 4096) (hG : ¬ Goes (befG g) n n) (hB : B ≤ w.heap.size) :
    Calls Tryd.prog 24 #[.agg #[.int .i64 (n : Int), .slice A m c]] w fun e w' => e = .returned (.tuple #[.slice none 0 0, .int .i64 0, .int .i64 21]) ∧ Below w.heap.size w w' := by
  have HC := Lib.hid (thin_no (w := w.alloc (.cells #[.int .i64 (n : Int), .slice A m c] 24)) (c := c) (RdE.alloc hx hB _) hi hn hm (by simp; omega) hG)
  clear hx
  go_enter Tryd.func24, Tryd.ntmps24
  go_wp2_with fail
  refine HC.out.mono ?_
  rintro e w2 ⟨rfl, hb⟩
  have HB := Lib.hid hb
  clear hb HC
  go_wp2
  refine bodyPost_ret (results_tmp3 rfl _ _ _) rfl ⟨rfl, ((Below.refl _ _).alloc (Nat.le_refl _) _).trans (HB.out.mono (by simp))⟩
set_option maxHeartbeats 1000000 in
theorem all_bad {w : World} {B m c : Nat} {n : Int} {es : List (Int × Int)} {A : Option Addr} (hx : RdE w B A m es) (hr : ¬ GraphR n es) (hm0 : m ≤ 9223372036854775807) (hB : B ≤ w.heap.size) :
    Calls Tryd.prog 13 #[.agg #[.int .i64 n, .slice A m c]] w fun e w' => e = .returned (.tuple #[.slice none 0 0, .int .i64 20]) ∧ Below w.heap.size w w' := by
  have HC := Lib.hid (climb_bad (w := w.alloc (.cells #[.int .i64 n, .slice A m c] 24)) (c := c) (hx.alloc hB _) hr hm0 (by simp; omega))
  clear hx
  go_enter Tryd.func13, Tryd.ntmps13
  go_wp2_with fail
  refine HC.out.mono ?_
  rintro e w2 ⟨rfl, hb⟩
  have HB := Lib.hid hb
  clear hb HC
  go_wp2
  go_ret2
  exact ⟨rfl, ((Below.refl _ _).alloc (Nat.le_refl _) _).trans (HB.out.mono (by simp))⟩
set_option maxHeartbeats 1000000 in
theorem all_no {w : World} {B m c : Nat} {n : Nat} {g : List (Nat × Nat)} {A : Option Addr} (hx : RdG w B A m g) (hi : InN n g) (hn : n ≤ 64) (hm : m ≤ 4096) (hG : ¬ Goes (befG g) n n) (hB : B ≤ w.heap.size) :
    Calls Tryd.prog 13 #[.agg #[.int .i64 (n : Int), .slice A m c]] w fun e w' => e = .returned (.tuple #[.slice none 0 0, .int .i64 21]) ∧ Below w.heap.size w w' := by
  have HC := Lib.hid (climb_no (w := w.alloc (.cells #[.int .i64 (n : Int), .slice A m c] 24)) (c := c) (RdE.alloc hx hB _) hi hn hm hG (by simp; omega))
  clear hx
  go_enter Tryd.func13, Tryd.ntmps13
  go_wp2_with fail
  refine HC.out.mono ?_
  rintro e w2 ⟨rfl, hb⟩
  have HB := Lib.hid hb
  clear hb HC
  go_wp2
  go_ret2
  exact ⟨rfl, ((Below.refl _ _).alloc (Nat.le_refl _) _).trans (HB.out.mono (by simp))⟩
set_option maxHeartbeats 1000000 in
theorem ways_bad {w : World} {B m c : Nat} {n : Int} {es : List (Int × Int)} {A : Option Addr} (hx : RdE w B A m es) (hr : ¬ GraphR n es) (hm0 : m ≤ 9223372036854775807) (hB : B ≤ w.heap.size) :
    Calls Tryd.prog 14 #[.agg #[.int .i64 n, .slice A m c]] w fun e w' => e = .returned (.tuple #[.int .i64 0, .int .i64 20]) ∧ Below w.heap.size w w' := by
  have HC := Lib.hid (climb_bad (w := w.alloc (.cells #[.int .i64 n, .slice A m c] 24)) (c := c) (hx.alloc hB _) hr hm0 (by simp; omega))
  clear hx
  go_enter Tryd.func14, Tryd.ntmps14
  go_wp2_with fail
  refine HC.out.mono ?_
  rintro e w2 ⟨rfl, hb⟩
  have HB := Lib.hid hb
  clear hb HC
  go_wp2
  go_ret2
  exact ⟨rfl, ((Below.refl _ _).alloc (Nat.le_refl _) _).trans (HB.out.mono (by simp))⟩
set_option maxHeartbeats 1000000 in
theorem ways_no {w : World} {B m c : Nat} {n : Nat} {g : List (Nat × Nat)} {A : Option Addr} (hx : RdG w B A m g) (hi : InN n g) (hn : n ≤ 64) (hm : m ≤ 4096) (hG : ¬ Goes (befG g) n n) (hB : B ≤ w.heap.size) :
    Calls Tryd.prog 14 #[.agg #[.int .i64 (n : Int), .slice A m c]] w fun e w' => e = .returned (.tuple #[.int .i64 0, .int .i64 21]) ∧ Below w.heap.size w w' := by
  have HC := Lib.hid (climb_no (w := w.alloc (.cells #[.int .i64 (n : Int), .slice A m c] 24)) (c := c) (RdE.alloc hx hB _) hi hn hm hG (by simp; omega))
  clear hx
  go_enter Tryd.func14, Tryd.ntmps14
  go_wp2_with fail
  refine HC.out.mono ?_
  rintro e w2 ⟨rfl, hb⟩
  have HB := Lib.hid hb
  clear hb HC
  go_wp2
  go_ret2
  exact ⟨rfl, ((Below.refl _ _).alloc (Nat.le_refl _) _).trans (HB.out.mono (by simp))⟩
end Go.Proofs.YtfcabdgidlnljaaDoor
