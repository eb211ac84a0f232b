/-
  CONTRACT of the lattice statements' anchor (the document's example).
-/
import Derived.Test.YtfcabdgidlnljaaDoorLTop
namespace Go.Proofs.YtfcabdgidlnljaaDoor
open Go.RowKit
open DiP
set_option linter.unusedVariables false
set_option linter.unusedSimpArgs false
set_option maxRecDepth 100000
/-- The document's example. -/
def laG : List (Nat × Nat) := [(0, 1), (0, 2)]
theorem laG_goes : Goes (befG laG) 3 3 := by unfold Goes; decide
theorem laG_in : InN 3 laG := by
  intro k hk
  match k, hk with
  | 0, _ => decide
  | 1, _ => decide
theorem laG_cl : clN 3 (closedB laG) = [0, 1, 3, 5, 7] := by decide
theorem laG_ways : wayN (befG laG) 3 (2 ^ 3 - 1) = 2 := by decide
theorem laG_down : dwnG 3 laG 4 = 5 := by decide
theorem laG_fits : fitsB 4 3 = true := by decide
theorem laG_rd (w : World) : RdG (w.alloc (.cells #[.int .i64 0, .int .i64 1, .int .i64 0, .int .i64 2] 43)) (w.heap.size + 1) (some ⟨w.heap.size, 0, none⟩) 2 laG := by
  refine ⟨rfl, fun _ => ⟨_, 0, rfl, by omega, fun j hj => ?_⟩⟩
  match j, hj with
  | 0, _ => constructor <;> (simp; rfl)
  | 1, _ => constructor <;> (simp; rfl)
theorem all_la {w : World} {B c : Nat} {A : Option Addr} (hx : RdG w B A 2 laG) (hB : B ≤ w.heap.size) (hT : Tz w) (h0 : 0 < w.heap.size) :
    Calls Tryd.prog 13 #[.agg #[.int .i64 3, .slice A 2 c]] w fun e w' => (∃ blk cap, e = .returned (.tuple #[.slice (some ⟨blk, 0, none⟩) 5 cap, .int .i64 0]) ∧ blk < w'.heap.size ∧ w'.cell? ⟨blk, 2, none⟩ = some (.int .u64 3)) ∧ Below w.heap.size w w' := by
  have h := all_any sort_ok (n := 3) (c := c) hx laG_in (by omega) (by omega) hB hT h0 laG_goes (by rw [laG_cl]; decide)
  rw [laG_cl] at h
  refine h.mono ?_
  rintro e w' ⟨⟨blk, cap, rfl, hle, hc⟩, hb⟩
  have h2 := hc 2 (by decide)
  exact ⟨⟨blk, cap, rfl, block_lt_of_cell h2, h2⟩, hb⟩
theorem ways_la {w : World} {B c : Nat} {A : Option Addr} (hx : RdG w B A 2 laG) (hB : B ≤ w.heap.size) (hT : Tz w) (h0 : 0 < w.heap.size) :
    Calls Tryd.prog 14 #[.agg #[.int .i64 3, .slice A 2 c]] w fun e w' => e = .returned (.tuple #[.int .i64 2, .int .i64 0]) ∧ Below w.heap.size w w' := by
  have h := ways_any sort_ok (n := 3) (c := c) hx laG_in (by omega) (by omega) hB hT h0 laG_goes (by rw [laG_cl]; decide)
  rw [laG_ways] at h
  exact h
theorem down_la {w : World} {B c : Nat} {A : Option Addr} (hx : RdG w B A 2 laG) (hB : B ≤ w.heap.size) :
    Calls Tryd.prog 19 #[.agg #[.int .i64 3, .slice A 2 c], .int .u64 4] w fun e w' => e = .returned (.tuple #[.int .u64 5, .int .i64 0]) ∧ Below w.heap.size w w' := by
  have h := down_any (n := 3) (s := 4) (c := c) hx laG_in (by omega) (by omega) hB (by decide) laG_fits
  rw [laG_down] at h
  exact h
set_option maxHeartbeats 2000000 in
theorem anchor_any (w : World) (hT : Tz w) (h0 : 0 < w.heap.size) : Calls Tryd.prog 11 #[] w fun e w' => e = .returned (.bool true) ∧ Below w.heap.size w w' := by
  have HT := Lib.hid hT
  clear hT
  obtain ⟨b0, hb0⟩ : ∃ b0, w.heap.size = b0 := ⟨_, rfl⟩
  have Hb0 := Lib.hid hb0
  obtain ⟨W1, hW⟩ : ∃ W1, ((w.alloc (.cells #[.int .i64 0, .int .i64 1, .int .i64 0, .int .i64 2] 43)).alloc (.cells #[.int .i64 3, .slice (some ⟨b0, 0, none⟩) 2 2] 24)) = W1 := ⟨_, rfl⟩
  have HX : Hid (RdG W1 (b0 + 1) (some ⟨b0, 0, none⟩) 2 laG) := Lib.hid (by rw [← hW, ← hb0]; exact RdE.alloc (laG_rd w) (by simp) _)
  have HB1 : Hid (Below b0 w W1) := Lib.hid (by rw [← hW, ← hb0]; exact ((Below.refl _ _).alloc (Nat.le_refl _) _).alloc (by simp) _)
  have HZ1 : Hid (W1.heap.size = b0 + 1 + 1) := Lib.hid (by rw [← hW, ← hb0]; simp)
  have hbx : W1.heap[b0 + 1]? = some (.cells #[.int .i64 3, .slice (some ⟨b0, 0, none⟩) 2 2] 24 (0, 0)) := by
    have h := World.alloc_heap_new (w.alloc (.cells #[.int .i64 0, .int .i64 1, .int .i64 0, .int .i64 2] 43)) (.cells #[.int .i64 3, .slice (some ⟨b0, 0, none⟩) 2 2] 24)
    rw [World.size_alloc, hb0, hW] at h
    exact h
  have c10 : W1.cell? ⟨b0 + 1, 0, none⟩ = some (.int .i64 3) := by simp [World.cell?, hbx]
  have c11 : W1.cell? ⟨b0 + 1, 1, none⟩ = some (.slice (some ⟨b0, 0, none⟩) 2 2) := by simp [World.cell?, hbx]
  have C10 := Lib.hid c10
  have C11 := Lib.hid c11
  have HW := Lib.hid hW
  rw [← hW] at c10 c11
  clear hW hbx
  have HC1 := Lib.hid (all_la (c := 2) HX.out (by rw [HZ1.out]; omega) (HT.out.below HB1.out (by omega)) (by rw [HZ1.out]; omega))
  go_enter Tryd.func11, Tryd.ntmps11
  go_wp2_with fail
  rw [HW.out]
  refine HC1.out.mono ?_
  rintro e W2 ⟨⟨blk, cap, rfl, hbl, hc2⟩, hb⟩
  clear HC1 c10 c11
  have HB2 : Hid (Below b0 w W2) := Lib.hid (HB1.out.trans (hb.mono (by rw [HZ1.out]; omega)))
  have HX2 : Hid (RdG W2 (b0 + 1) (some ⟨b0, 0, none⟩) 2 laG) := Lib.hid (HX.out.below (hb.mono (by rw [HZ1.out]; omega)))
  have HZ2 : Hid (b0 + 1 + 1 ≤ W2.heap.size) := Lib.hid (by have := hb.size; rw [HZ1.out] at this; exact this)
  have c10 := (hb.cell (p := ⟨b0 + 1, 0, none⟩) (by rw [HZ1.out]; show b0 + 1 < b0 + 1 + 1; omega)).trans C10.out
  have c11 := (hb.cell (p := ⟨b0 + 1, 1, none⟩) (by rw [HZ1.out]; show b0 + 1 < b0 + 1 + 1; omega)).trans C11.out
  have C20 := Lib.hid c10
  have C21 := Lib.hid c11
  have HC2 := Lib.hid hc2
  have HBL := Lib.hid hbl
  have HC1 := Lib.hid (ways_la (c := 2) HX2.out (by have := HZ2.out; omega) (HT.out.below HB2.out (by omega)) (by have := HZ2.out; omega))
  clear hb hc2 hbl
  go_wp2_with fail
  refine HC1.out.mono ?_
  rintro e W3 ⟨rfl, hb⟩
  clear HC1 c10 c11
  have HB3 : Hid (Below b0 w W3) := Lib.hid (HB2.out.trans (hb.mono (by have := HZ2.out; omega)))
  have HX3 : Hid (RdG W3 (b0 + 1) (some ⟨b0, 0, none⟩) 2 laG) := Lib.hid (HX2.out.below (hb.mono (by have := HZ2.out; omega)))
  have HZ3 : Hid (b0 + 1 + 1 ≤ W3.heap.size) := Lib.hid (Nat.le_trans HZ2.out hb.size)
  have c10 := (hb.cell (p := ⟨b0 + 1, 0, none⟩) (show b0 + 1 < W2.heap.size by have := HZ2.out; omega)).trans C20.out
  have c11 := (hb.cell (p := ⟨b0 + 1, 1, none⟩) (show b0 + 1 < W2.heap.size by have := HZ2.out; omega)).trans C21.out
  have HC3 : Hid (W3.cell? ⟨blk, 2, none⟩ = some (.int .u64 3)) := Lib.hid ((hb.cell (p := ⟨blk, 2, none⟩) HBL.out).trans HC2.out)
  have HBL3 : Hid (blk < W3.heap.size) := Lib.hid (Nat.lt_of_lt_of_le HBL.out hb.size)
  have HC1 := Lib.hid (down_la (c := 2) HX3.out (by have := HZ3.out; omega))
  clear hb
  go_wp2_with fail
  refine HC1.out.mono ?_
  rintro e W4 ⟨rfl, hb⟩
  clear HC1 c10 c11
  have HB4 : Hid (Below b0 w W4) := Lib.hid (HB3.out.trans (hb.mono (by have := HZ3.out; omega)))
  have hc4 : W4.cell? ⟨blk, 2, none⟩ = some (.int .u64 3) := (hb.cell (p := ⟨blk, 2, none⟩) HBL3.out).trans HC3.out
  clear hb
  go_wp2
  go_ret
  exact ⟨rfl, by rw [Hb0.out]; exact HB4.out⟩
end Go.Proofs.YtfcabdgidlnljaaDoor
