/-
  CONTRACTS of Ready and of the document's In, over this translation.
-/
import Derived.Test.YtfcabdgidlnljaaDoorDSets
import Derived.Deep.RegionHeld3
namespace Go.Proofs.YtfcabdgidlnljaaDoor
open Go.RowKit
open DiP
set_option linter.unusedVariables false

theorem in_bits {s v : Nat} (hs : s < lim) : (((s : Int) / 2 ^ v) % 2 == 1) = bt s v := by
  have e : ((s : Int) / 2 ^ v) = ((s / 2 ^ v : Nat) : Int) := by simp
  rw [e, bt_div]
  have : s / 2 ^ v % 2 < 2 := Nat.mod_lt _ (by decide)
  by_cases h : s / 2 ^ v % 2 = 1
  · have h' : ((s / 2 ^ v : Nat) : Int) % 2 = 1 := by omega
    rw [h', h]; rfl
  · have h0 : s / 2 ^ v % 2 = 0 := by omega
    have h' : ((s / 2 ^ v : Nat) : Int) % 2 = 0 := by omega
    rw [h', h0]; rfl
set_option maxHeartbeats 400000 in
theorem in_any {s v : Nat} {w : World} (hs : s < lim) (hv : v < 64) : Calls Tryd.prog 21 #[.int .u64 (s : Int), .int .i64 (v : Int)] w fun e w' => e = .returned (.bool (bt s v)) ∧ w = w' := by
  have HS := Lib.hid (in_bits (v := v) hs)
  have hv1 : (0 : Int) ≤ (v : Int) := by omega
  go_enter Tryd.func21, Tryd.ntmps21
  go_wp2
  go_ret
  exact ⟨by rw [← HS.out]; rfl, rfl⟩

set_option maxHeartbeats 1000000 in
theorem readyM_bad {w : World} {B m c : Nat} {n z : Int} {A : Option Addr} {es : List (Int × Int)} (hx : RdE w B A m es) (hr : ¬ GraphR n es) (hm0 : m ≤ 9223372036854775807) (hB : B ≤ w.heap.size) :
    Calls Tryd.prog 30 #[.agg #[.int .i64 n, .slice A m c], .int .u64 z] w fun e w' => e = .returned (.tuple #[.int .u64 0, .int .i64 20]) ∧ Below w.heap.size w w' := by
  have HX := Lib.hid hx
  have HR := Lib.hid hr
  clear hx hr
  go_enter Tryd.func30, Tryd.ntmps30
  go_wp2_with fail
  refine (checkSet_bad (HX.out.alloc hB _) HR.out hm0 (by simp; omega)).mono ?_
  rintro e w2 ⟨rfl, hb⟩
  have HB := Lib.hid hb
  clear hb
  go_wp2
  go_ret2
  exact ⟨rfl, ((Below.refl _ _).alloc (Nat.le_refl _) _).trans (HB.out.mono (by simp))⟩

set_option maxHeartbeats 1000000 in
theorem readyM_out {w : World} {B m c n s : Nat} {A : Option Addr} {g : List (Nat × Nat)} (hx : RdG w B A m g) (hi : InN n g) (hn : n ≤ 64) (hm : m ≤ 4096) (hB : B ≤ w.heap.size) (hf : fitsB s n = false) :
    Calls Tryd.prog 30 #[.agg #[.int .i64 (n : Int), .slice A m c], .int .u64 (s : Int)] w fun e w' => e = .returned (.tuple #[.int .u64 0, .int .i64 20]) ∧ Below w.heap.size w w' := by
  have HX := Lib.hid hx
  have HI := Lib.hid hi
  have HF := Lib.hid hf
  clear hx hi hf
  go_enter Tryd.func30, Tryd.ntmps30
  go_wp2_with fail
  refine (checkSet_any (RdE.alloc HX.out hB _) HI.out hn hm (by simp; omega)).mono ?_
  rintro e w2 ⟨rfl, hb⟩
  rw [HF.out]
  have HB := Lib.hid hb
  clear hb
  go_wp2
  go_ret2
  exact ⟨rfl, ((Below.refl _ _).alloc (Nat.le_refl _) _).trans (HB.out.mono (by simp))⟩

set_option maxHeartbeats 1000000 in
theorem readyM_any {w : World} {B m c n s : Nat} {A : Option Addr} {g : List (Nat × Nat)} (hx : RdG w B A m g) (hi : InN n g) (hn : n ≤ 64) (hm : m ≤ 4096) (hB : B ≤ w.heap.size) (hs : s < lim) (hf : fitsB s n = true) :
    Calls Tryd.prog 30 #[.agg #[.int .i64 (n : Int), .slice A m c], .int .u64 (s : Int)] w fun e w' => e = .returned (.tuple #[.int .u64 ((rdyK (befG g) s n : Nat) : Int), .int .i64 0]) ∧ Below w.heap.size w w' := by
  have HX := Lib.hid hx
  have HI := Lib.hid hi
  have HF := Lib.hid hf
  have HS := Lib.hid hs
  clear hx hi hf hs
  go_enter Tryd.func30, Tryd.ntmps30
  go_wp2_with fail
  refine (checkSet_any (RdE.alloc HX.out hB _) HI.out hn hm (by simp; omega)).mono ?_
  rintro e W0 ⟨rfl, hb⟩
  rw [HF.out]
  obtain ⟨hcn, hcs⟩ := (boxed_alloc w (n : Int) A m c 24).below hb (by simp)
  have HBW : Hid (Below w.heap.size w W0) := Lib.hid (((Below.refl _ _).alloc (Nat.le_refl _) _).trans (hb.mono (by simp)))
  have hsz : w.heap.size < W0.heap.size := by have := hb.size; simp at this; omega
  clear hb
  go_wp2_with fail
  go_region_held3 (fun w' => w'.cell? ⟨w.heap.size, 0, none⟩ = some (.int .i64 (n : Int)) ∧ w'.cell? ⟨w.heap.size, 1, none⟩ = some (.slice A m c)) ((first | exact ⟨hcn3, hcs3⟩ | exact ⟨hcn2, hcs2⟩ | go_keep))
    (first
      | (go_at_call 41; refine (before_any (HX.out.below ((below_drewN HBW.out 1).mono hB)) (by show B ≤ W0.heap.size; omega) HI.out hn hm).mono ?_; rintro e w2 ⟨rfl, hb2⟩; have hcn2 := (hb2.cell (p := ⟨w.heap.size, 0, none⟩) (by exact hsz)).trans hcn; have hcs2 := (hb2.cell (p := ⟨w.heap.size, 1, none⟩) (by exact hsz)).trans hcs; have hsz2 : w.heap.size < w2.heap.size := Nat.lt_of_lt_of_le hsz hb2.size; have HB2 : Hid (Below w.heap.size w w2) := Lib.hid ((below_drewN HBW.out 1).trans (hb2.mono (by show w.heap.size ≤ W0.heap.size; omega))); clear hb2)
      | (go_at_call 44; refine (ready_any (befG_small HI.out hn) HS.out hn).mono ?_; rintro e w3 ⟨rfl, hb3⟩; have HB3 : Hid (Below w.heap.size w w3) := Lib.hid (HB2.out.trans (hb3.mono (by have := HB2.out.size; omega))); have hcn3 := (hb3.cell (p := ⟨w.heap.size, 0, none⟩) hsz2).trans hcn2; have hcs3 := (hb3.cell (p := ⟨w.heap.size, 1, none⟩) hsz2).trans hcs2; clear hb3))
  go_wp2
  go_ret2
  exact ⟨rfl, HB3.out⟩
end Go.Proofs.YtfcabdgidlnljaaDoor
