/-
  CONTRACT of package lattice: Border.
-/
import Derived.Test.YtfcabdgidlnljaaDoorLBordP
import Derived.Test.YtfcabdgidlnljaaDoorLLaw0
namespace Go.Proofs.YtfcabdgidlnljaaDoor
open Go.RowKit
open DiP
set_option linter.unusedVariables false
set_option linter.unusedSimpArgs false
set_option maxRecDepth 100000
set_option maxHeartbeats 1000000 in
theorem border_bad {w : World} {B m c : Nat} {n z : Int} {A : Option Addr} {es : List (Int × Int)} (hx : RdE w B A m es) (hr : ¬ GraphR n es) (hm0 : m ≤ 9223372036854775807) (hB : B ≤ w.heap.size) :
    Calls Tryd.prog 22 #[.agg #[.int .i64 n, .slice A m c], .int .u64 z] w fun e w' => e = .returned (.tuple #[.int .u64 0, .int .i64 20]) ∧ Below w.heap.size w w' := by
  have HX := Lib.hid hx
  have HR := Lib.hid hr
  clear hx hr
  go_enter Tryd.func22, Tryd.ntmps22
  go_wp2_with fail
  refine (lcheck_bad (HX.out.alloc hB _) HR.out hm0 (by simp; omega)).mono ?_
  rintro e w2 ⟨rfl, hb⟩
  have HB := Lib.hid hb
  clear hb
  go_wp2
  go_ret2
  exact ⟨rfl, ((Below.refl _ _).alloc (Nat.le_refl _) _).trans (HB.out.mono (by simp))⟩
set_option maxHeartbeats 1000000 in
theorem border_out {w : World} {B m c n s : Nat} {A : Option Addr} {g : List (Nat × Nat)} (hx : RdG w B A m g) (hi : InN n g) (hn : n ≤ 64) (hm : m ≤ 4096) (hB : B ≤ w.heap.size) (hf : fitsB s n = false) :
    Calls Tryd.prog 22 #[.agg #[.int .i64 (n : Int), .slice A m c], .int .u64 (s : Int)] w fun e w' => e = .returned (.tuple #[.int .u64 0, .int .i64 20]) ∧ Below w.heap.size w w' := by
  have HC := Lib.hid (lcheck_any (w := w.alloc (.cells #[.int .i64 (n : Int), .slice A m c] 24)) (c := c) (s := s) (RdE.alloc hx hB _) hi hn hm (by simp; omega))
  rw [hf] at HC
  clear hx hi hf
  go_enter Tryd.func22, Tryd.ntmps22
  go_wp2_with fail
  refine HC.out.mono ?_
  rintro e w2 ⟨rfl, hb⟩
  have HB := Lib.hid hb
  clear hb HC
  go_wp2
  go_ret2
  exact ⟨rfl, ((Below.refl _ _).alloc (Nat.le_refl _) _).trans (HB.out.mono (by simp))⟩
set_option maxHeartbeats 4000000 in
theorem border_any {w : World} {B m c n s : Nat} {A : Option Addr} {g : List (Nat × Nat)} (hx : RdG w B A m g) (hi : InN n g) (hn : n ≤ 64) (hm : m ≤ 4096) (hB : B ≤ w.heap.size) (hs : s < lim) (hf : fitsB s n = true) :
    Calls Tryd.prog 22 #[.agg #[.int .i64 (n : Int), .slice A m c], .int .u64 (s : Int)] w fun e w' => e = .returned (.tuple #[.int .u64 (brdG g s : Int), .int .i64 0]) ∧ Below w.heap.size w w' := by
  have HX := Lib.hid hx
  have HI := Lib.hid hi
  have HS := Lib.hid hs
  have HL := Lib.hid hx.len
  have HC := Lib.hid (lcheck_any (w := w.alloc (.cells #[.int .i64 (n : Int), .slice A m c] 24)) (c := c) (s := s) (RdE.alloc hx hB _) hi hn hm (by simp; omega))
  rw [hf] at HC
  clear hx hi hf hs
  go_enter Tryd.func22, Tryd.ntmps22
  go_wp2_with fail
  refine HC.out.mono ?_
  rintro e w2 ⟨rfl, hb⟩
  clear HC
  obtain ⟨hcn, hcs⟩ := (boxed_alloc w (n : Int) A m c 24).below hb (by simp)
  have HB2 : Hid (Below w.heap.size w w2) := Lib.hid (((Below.refl _ _).alloc (Nat.le_refl _) _).trans (hb.mono (by simp)))
  have hsz2 : w.heap.size < w2.heap.size := by have := hb.size; simp at this; omega
  have HSZ := Lib.hid hsz2
  clear hb hsz2
  go_wp2_with fail
  clear hcn hcs
  go_loopw [7, 20] (fun b i wr => ∃ k : Nat, k ≤ m ∧ i = .int .i64 (k : Int) ∧ b = .int .u64 ((brdK g s k : Nat) : Int) ∧ Hid (Below w2.heap.size w2 wr)) (fun _ i _ => m - (intOf i).toNat)
  case atStart => exact ⟨0, by omega, rfl, rfl, Lib.hid (Below.refl _ _)⟩
  case round =>
    obtain ⟨k, hk, rfl, rfl, HR⟩ := hrel
    by_cases hlt : k < m
    · have hbw : Below w.heap.size w wr := HB2.out.trans (HR.out.mono (by have := HSZ.out; omega))
      obtain ⟨b, off, rfl, hbb, hca, hcb⟩ := (HX.out.below (hbw.mono hB)).at_ hlt
      obtain ⟨hfa, hfb⟩ := HI.out k (by rw [HL.out]; exact hlt)
      have hdk : decide ((k : Int) < (m : Int)) = true := decide_eq_true (by omega)
      have hf0 : (0 : Int) ≤ (fa g k : Int) := by omega
      have hf1 : (0 : Int) ≤ (fb g k : Int) := by omega
      have hf2 : (fa g k : Int) < 64 := by omega
      have hf3 : (fb g k : Int) < 64 := by omega
      have HN : Hid (brdK g s (k + 1) = if bt s (fb g k) = true then andn (brdK g s k) (one (fa g k)) else brdK g s k) := Lib.hid rfl
      have HLT := Lib.hid (brdK_lt (g := g) HS.out k)
      have HFA : Hid (fa g k < 64) := Lib.hid (by omega)
      have HFB : Hid (fb g k < 64) := Lib.hid (by omega)
      have HR2 : Hid (Below w2.heap.size w2 (wr.alloc (.cells #[.int .i64 ((fa g k : Nat) : Int), .int .i64 ((fb g k : Nat) : Int)] 43))) := Lib.hid (HR.out.alloc HR.out.size _)
      have HSA : Hid (IntKind.u64.wrap ((2 : Int) ^ fa g k) = ((one (fa g k) : Nat) : Int)) := Lib.hid (by
        have h2 : one (fa g k) < 18446744073709551616 := one_lt _ HFA.out
        rw [shl_one, IntKind.wrap_u64]
        omega)
      have HBT := Lib.hid (has_bits (v := fb g k) HS.out)
      clear hbw hfa hfb
      cases hbt : bt s (fb g k) with
      | false =>
        have hq := HBT.out
        rw [hbt] at hq
        have HN2 : Hid (brdK g s (k + 1) = brdK g s k) := Lib.hid (by rw [HN.out, hbt]; rfl)
        clear hbt
        go_wp2
        go_roundw
        case rel => exact ⟨k + 1, by omega, by go_num, by rw [HN2.out], HR2⟩
        case measure => simp [intOf]; omega
      | true =>
        have hq := HBT.out
        rw [hbt] at hq
        have hw : bits BinOp.andNot IntKind.u64 ((brdK g s k : Nat) : Int) (IntKind.u64.wrap ((2 : Int) ^ fa g k)) = ((brdK g s (k + 1) : Nat) : Int) := by
          rw [HSA.out, andn_spell HLT.out (one_lt _ HFA.out), HN.out, hbt]; rfl
        clear hbt
        go_wp2
        go_roundw
        case rel => exact ⟨k + 1, by omega, by go_num, rfl, HR2⟩
        case measure => simp [intOf]; omega
    · have hdk : decide ((k : Int) < (m : Int)) = false := decide_eq_false (by omega)
      obtain rfl : k = m := by omega
      have HD : Hid (brdK g s k = brdG g s) := Lib.hid (by unfold brdG; rw [HL.out])
      rw [HD.out]
      go_wp2
      go_ret2
      exact ⟨rfl, HB2.out.trans (HR.out.mono (by have := HSZ.out; omega))⟩
end Go.Proofs.YtfcabdgidlnljaaDoor
