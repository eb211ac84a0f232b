/-
  THE WALK of the statement DigraphSets: whatever the graph and the set, the call returns true and writes nothing that was there.
-/
import Derived.Test.YtinphdphloddmaaDRef
import Derived.Test.YtinphdphloddmaaDPrefixes
namespace Go.Proofs.Ytinphdphloddmaa
open Go.RowKit
open DiP
set_option linter.unusedVariables false

theorem closed_add {g : List (Nat × Nat)} {n s v : Nat} (hi : InN n g) (hn : n ≤ 64) (hs : s < lim) (hc : closedB g s = true) (hr : rdy (befG g) s v = true) : closedB g (add s v) = true := by
  rw [closedB_iff] at hc ⊢
  intro j hj hb
  rw [bt_add] at hb ⊢
  simp only [Bool.or_eq_true, decide_eq_true_eq] at hb ⊢
  left
  rcases hb with hb | hb
  · exact hc j hj hb
  · have hz := rdy_zero hr
    rw [andn_zero (befG_small hi hn v) hs] at hz
    exact hz _ ((bt_befG g _ _).2 ⟨j, hj, rfl, hb.symm⟩)
theorem fits_add {s v n : Nat} (h : fitsB s n = true) (hv : v < n) : fitsB (add s v) n = true := by
  apply fits_of
  intro u hu
  rw [bt_add]
  have h1 : s / 2 ^ n = 0 := by simpa [fitsB] using h
  have h2 : s < 2 ^ n := by
    rcases Nat.div_eq_zero_iff.1 h1 with h | h
    · have := Nat.two_pow_pos n; omega
    · exact h
  have : bt s u = false := Nat.testBit_lt_two_pow (Nat.lt_of_lt_of_le h2 (Nat.pow_le_pow_right (by omega) hu))
  rw [this]; simp; omega
theorem fits_rdyK (bef : Nat → Nat) (s n : Nat) : fitsB (rdyK bef s n) n = true := fits_of (fun u hu => by rw [bt_rdyK]; simp; omega)
theorem fits_eql {s n : Nat} (h : fitsB s n = true) : ((s : Int) / 2 ^ n == 0) = true := by
  have := fits_neq (s := s) (n := n)
  rw [h] at this
  simpa using this

set_option maxRecDepth 100000 in
set_option maxHeartbeats 2000000 in
theorem law_sets_go {w : World} {B m c N s : Nat} {A : Option Addr} {g : List (Nat × Nat)} (hx : RdG w B A m g) (hi : InN N g) (hn : N ≤ 20) (hm : m ≤ 100) (hB : B ≤ w.heap.size) (hs : s < lim) (hf : fitsB s N = true) (cb : Bool) (hcb : closedB g s = cb) :
    Calls Try.prog 5 #[.agg #[.int .i64 (N : Int), .slice A m c], .int .u64 (s : Int)] w fun e w' => e = .returned (.bool true) ∧ Below w.heap.size w w' := by
  have HX := Lib.hid hx
  have HI := Lib.hid hi
  have HS := Lib.hid hs
  have HF := Lib.hid hf
  have HR := Lib.hid (graphR_cast hi (show N ≤ 64 by omega) (by rw [hx.len]; omega))
  have hnq : ((s : Int) / 2 ^ N != 0) = false := by rw [fits_neq, hf]; rfl
  have HCB := Lib.hid hcb
  clear hx hi hs hf hcb
  go_enter Try.func5, Try.ntmps5
  go_wp2_with fail
  refine (anchor_any _).mono ?_
  rintro e w1 ⟨rfl, hb⟩
  obtain ⟨hcn, hcs⟩ := (boxed_alloc w (N : Int) A m c 24).below hb (by simp)
  have HB1 : Hid (Below w.heap.size w w1) := Lib.hid (((Below.refl _ _).alloc (Nat.le_refl _) _).trans (hb.mono (by simp)))
  have hsz1 : w.heap.size < w1.heap.size := by have := hb.size; simp at this; omega
  clear hb
  go_wp2_with fail
  refine (small_right (HX.out.below (HB1.out.mono hB)) HR.out (by omega)).mono ?_
  rintro e w2 ⟨rfl, hb⟩
  rw [show (decide (m ≤ 100) && decide ((N : Int) ≤ 20)) = true by simp; omega]
  obtain ⟨hcn2, hcs2⟩ := Boxed.below ⟨hcn, hcs⟩ hb hsz1
  have HB2 : Hid (Below w.heap.size w w2) := Lib.hid (HB1.out.trans (hb.mono (by omega)))
  have hsz2 : w.heap.size < w2.heap.size := Nat.lt_of_lt_of_le hsz1 hb.size
  clear hb hcn hcs hsz1 HB1
  go_wp2_with fail
  refine (closed_any (HX.out.below (HB2.out.mono hB)) HI.out (by omega) (by omega) (by omega) HS.out HF.out).mono ?_
  rintro e w3 ⟨rfl, hb⟩
  rw [HCB.out]
  obtain ⟨hcn3, hcs3⟩ := Boxed.below ⟨hcn2, hcs2⟩ hb hsz2
  have HB3 : Hid (Below w.heap.size w w3) := Lib.hid (HB2.out.trans (hb.mono (by omega)))
  have hsz3 : w.heap.size < w3.heap.size := Nat.lt_of_lt_of_le hsz2 hb.size
  clear hb hcn2 hcs2 hsz2 HB2
  go_wp2_with fail
  refine (readyM_any (HX.out.below (HB3.out.mono hB)) HI.out (by omega) (by omega) (by omega) HS.out HF.out).mono ?_
  rintro e w4 ⟨rfl, hb⟩
  obtain ⟨hcn4, hcs4⟩ := Boxed.below ⟨hcn3, hcs3⟩ hb hsz3
  have HB4 : Hid (Below w.heap.size w w4) := Lib.hid (HB3.out.trans (hb.mono (by omega)))
  have hsz4 : w.heap.size < w4.heap.size := Nat.lt_of_lt_of_le hsz3 hb.size
  clear hb hcn3 hcs3 hsz3 HB3
  go_wp2_with fail
  refine plain_any.mono ?_
  rintro e w5 ⟨rfl, hb⟩
  obtain ⟨hcn5, hcs5⟩ := Boxed.below ⟨hcn4, hcs4⟩ hb hsz4
  have HB5 : Hid (Below w.heap.size w w5) := Lib.hid (HB4.out.trans (hb.mono (by omega)))
  have hsz5 : w.heap.size < w5.heap.size := Nat.lt_of_lt_of_le hsz4 hb.size
  clear hb hcn4 hcs4 hsz4 HB4
  go_wp2_with fail
  refine (right_yes ((HX.out.below (HB5.out.mono hB)).alloc (by omega) _) HR.out (by simp; omega)).mono ?_
  rintro e w6 ⟨rfl, hb⟩
  obtain ⟨hpn, hps⟩ := (boxed_alloc w5 (N : Int) A m c 31).below hb (by simp)
  obtain ⟨hcn6, hcs6⟩ := Boxed.below (w := w5.alloc (.cells #[.int .i64 (N : Int), .slice A m c] 31)) (g := w.heap.size) (n := (N : Int)) (A := A) (m := m) (c := c) ⟨(World.cell?_alloc_lt w5 _ _ hsz5).trans hcn5, (World.cell?_alloc_lt w5 _ _ hsz5).trans hcs5⟩ hb (by simp; omega)
  have HB6 : Hid (Below w.heap.size w w6) := Lib.hid ((HB5.out.alloc (by omega) _).trans (hb.mono (by simp; omega)))
  have hsz6 : w5.heap.size < w6.heap.size := by have := hb.size; simp at this; omega
  clear hb hcn5 hcs5 HB5
  generalize w5.heap.size = pb at *
  go_wp2_with (go_at_call 30; refine (refClosed_any (HX.out.below (HB6.out.mono hB)) HI.out (by omega) (by omega) (by omega) HS.out).mono ?_; rintro e w7 ⟨rfl, hb7⟩; rw [HCB.out])
  have HB7 : Hid (Below w6.heap.size w6 w7) := Lib.hid hb7
  clear hb7
  go_loopw [10] (fun i wr => ∃ k : Nat, k ≤ N ∧ i = .int .i64 (k : Int) ∧ Hid (Below w6.heap.size w6 wr)) (fun i _ => N - (intOf i).toNat)
  case atStart => exact ⟨0, by omega, rfl, HB7⟩
  case round =>
    clear HB7
    obtain ⟨k, hk, rfl, HBR⟩ := hrel
    have hszr : w6.heap.size ≤ wr.heap.size := HBR.out.size
    obtain ⟨hcn, hcs⟩ := Boxed.below ⟨hcn6, hcs6⟩ HBR.out (by omega)
    obtain ⟨hpn', hps'⟩ := Boxed.below ⟨hpn, hps⟩ HBR.out (by omega)
    have HXR : Hid (RdG wr B A m g) := Lib.hid (HX.out.below ((HB6.out.trans (HBR.out.mono (by omega))).mono hB))
    have HRL := Lib.hid (rdyK_lt (befG g) s N (by omega))
    have HW : Hid (Below w.heap.size w wr) := Lib.hid (HB6.out.trans (HBR.out.mono (by omega)))
    by_cases hlt : k < N
    · have hk64 : k < 64 := by omega
      have hk1 : (0 : Int) ≤ (k : Int) := by omega
      have HRB : Hid (bt (rdyK (befG g) s N) k = rdy (befG g) s k) := Lib.hid (by rw [bt_rdyK]; simp [hlt])
      have HOR := Lib.hid (or_spell HS.out hk64)
      have HOR2 := Lib.hid (or_spell2 HS.out hk64)
      have HSA := Lib.hid (add_lt HS.out hk64)
      have HFA := Lib.hid (fits_add HF.out hlt)
      have hszg : w.heap.size < wr.heap.size := by omega
      have hszp : pb < wr.heap.size := by omega
      have HCC : Hid (cb = true → rdy (befG g) s k = true → closedB g (add s k) = true) := Lib.hid (fun h1 h2 => closed_add HI.out (by omega) HS.out (HCB.out.trans h1) h2)
      go_wp2_with fail
      go_region_held3 (fun w' => w'.cell? ⟨pb, 0, none⟩ = some (.int .i64 (N : Int)) ∧ w'.cell? ⟨pb, 1, none⟩ = some (.slice A m c)) ((first | exact ⟨hpn8, hps8⟩ | go_keep))
        (first
          | (go_at_call 31; refine (in_any HRL.out hk64).mono ?_; rintro e w' ⟨rfl, rfl⟩; rw [HRB.out])
          | (go_at_call 32; refine (refReady_any (RdE.drewN HXR.out 1) HI.out (by omega) (by omega) (by show B ≤ wr.heap.size; omega) HS.out hk64).mono ?_; rintro e w8 ⟨rfl, hb8⟩; have hpn8 := (hb8.cell (p := ⟨pb, 0, none⟩) hszp).trans hpn'; have hps8 := (hb8.cell (p := ⟨pb, 1, none⟩) hszp).trans hps'; have hcn8 := (hb8.cell (p := ⟨w.heap.size, 0, none⟩) hszg).trans hcn; have hcs8 := (hb8.cell (p := ⟨w.heap.size, 1, none⟩) hszg).trans hcs; have HB8 : Hid (Below wr.heap.size wr w8) := Lib.hid ((below_drewN (Below.refl _ _) 1).trans hb8); clear hb8))
      have HX8 : Hid (RdG w8 B A m g) := Lib.hid (HXR.out.below (HB8.out.mono (by omega)))
      have hsz8 := HB8.out.size
      have hszg8 : w.heap.size < w8.heap.size := by omega
      go_wp2_with fail
      go_region_held3 (fun w' => w'.cell? ⟨w.heap.size, 0, none⟩ = some (.int .i64 (N : Int)) ∧ w'.cell? ⟨w.heap.size, 1, none⟩ = some (.slice A m c)) ((first | exact ⟨hcn9, hcs9⟩ | go_keep))
        (first
          | (go_at_call 28; (first | rw [HOR2.out] | rw [HOR.out]); refine (closed_any (RdE.drewN HX8.out 1) HI.out (by omega) (by omega) (by show B ≤ w8.heap.size; omega) HSA.out HFA.out).mono ?_; rintro e w9 ⟨rfl, hb9⟩; have hcn9 := (hb9.cell (p := ⟨w.heap.size, 0, none⟩) hszg8).trans hcn8; have hcs9 := (hb9.cell (p := ⟨w.heap.size, 1, none⟩) hszg8).trans hcs8; have HB9 : Hid (Below w6.heap.size w6 w9) := Lib.hid ((HBR.out.trans (HB8.out.mono hszr)).trans (((below_drewN (Below.refl w8.heap.size w8) 1).trans hb9).mono (by omega))); clear hb9))
      cases cb with
      | false =>
        go_wp2
        go_roundw
        case rel => exact ⟨k + 1, by omega, by go_num, HB9⟩
        case measure => simp [intOf]; omega
      | true =>
        cases hrd : rdy (befG g) s k with
        | false =>
          have HRD := Lib.hid hrd
          clear hrd
          go_wp2_with (go_at_call 31; refine (in_any HRL.out hk64).mono ?_; rintro e w' ⟨rfl, rfl⟩; rw [HRB.out, HRD.out])
          go_roundw
          case rel => exact ⟨k + 1, by omega, by go_num, HB9⟩
          case measure => simp [intOf]; omega
        | true =>
          have HRD := Lib.hid hrd
          rw [HCC.out rfl hrd]
          clear hrd
          go_wp2_with (go_at_call 31; refine (in_any HRL.out hk64).mono ?_; rintro e w' ⟨rfl, rfl⟩; rw [HRB.out, HRD.out])
          go_roundw
          case rel => exact ⟨k + 1, by omega, by go_num, HB9⟩
          case measure => simp [intOf]; omega
    · obtain rfl : k = N := by omega
      have hq : ((rdyK (befG g) s k : Int) / 2 ^ k == 0) = true := fits_eql (fits_rdyK _ _ _)
      go_wp2
      go_ret
      exact ⟨rfl, HW.out⟩
set_option maxRecDepth 100000 in
set_option maxHeartbeats 1000000 in
theorem law_sets_out {w : World} {m c N s : Nat} {A : Option Addr} {g : List (Nat × Nat)} (hx : RdG w w.heap.size A m g) (hi : InN N g) (hn : N ≤ 20) (hm : m ≤ 100) (hf : fitsB s N = false) :
    Calls Try.prog 5 #[.agg #[.int .i64 (N : Int), .slice A m c], .int .u64 (s : Int)] w fun e w' => e = .returned (.bool true) ∧ Below w.heap.size w w' := by
  have HX := Lib.hid hx
  have HI := Lib.hid hi
  have HF := Lib.hid hf
  have HR := Lib.hid (graphR_cast hi (show N ≤ 64 by omega) (by rw [hx.len]; omega))
  have HSM : Hid ((decide (m ≤ 100) && decide ((N : Int) ≤ 20)) = true) := Lib.hid (by simp; omega)
  have hnq : ((s : Int) / 2 ^ N != 0) = true := by rw [fits_neq, hf]; rfl
  have hB : w.heap.size ≤ w.heap.size := Nat.le_refl _
  clear hx hi hf
  go_enter Try.func5, Try.ntmps5
  go_wp2_with fail
  refine (anchor_any _).mono ?_
  rintro e w1 ⟨rfl, hb⟩
  obtain ⟨hcn, hcs⟩ := (boxed_alloc w (N : Int) A m c 24).below hb (by simp)
  have HB1 : Hid (Below w.heap.size w w1) := Lib.hid (((Below.refl _ _).alloc (Nat.le_refl _) _).trans (hb.mono (by simp)))
  have hsz1 : w.heap.size < w1.heap.size := by have := hb.size; simp at this; omega
  clear hb
  go_wp2_with fail
  refine (small_right (HX.out.below HB1.out) HR.out (by omega)).mono ?_
  rintro e w2 ⟨rfl, hb⟩
  rw [HSM.out]
  obtain ⟨hcn2, hcs2⟩ := Boxed.below ⟨hcn, hcs⟩ hb hsz1
  have HB2 : Hid (Below w.heap.size w w2) := Lib.hid (HB1.out.trans (hb.mono (by omega)))
  have hsz2 : w.heap.size < w2.heap.size := Nat.lt_of_lt_of_le hsz1 hb.size
  clear hb hcn hcs hsz1 HB1
  go_wp2_with fail
  refine (closed_out (HX.out.below HB2.out) HI.out (by omega) (by omega) (by omega) HF.out).mono ?_
  rintro e w3 ⟨rfl, hb⟩
  obtain ⟨hcn3, hcs3⟩ := Boxed.below ⟨hcn2, hcs2⟩ hb hsz2
  have HB3 : Hid (Below w.heap.size w w3) := Lib.hid (HB2.out.trans (hb.mono (by omega)))
  have hsz3 : w.heap.size < w3.heap.size := Nat.lt_of_lt_of_le hsz2 hb.size
  clear hb hcn2 hcs2 hsz2 HB2
  go_wp2_with fail
  refine (readyM_out (HX.out.below HB3.out) HI.out (by omega) (by omega) (by omega) HF.out).mono ?_
  rintro e w4 ⟨rfl, hb⟩
  obtain ⟨hcn4, hcs4⟩ := Boxed.below ⟨hcn3, hcs3⟩ hb hsz3
  have HB4 : Hid (Below w.heap.size w w4) := Lib.hid (HB3.out.trans (hb.mono (by omega)))
  have hsz4 : w.heap.size < w4.heap.size := Nat.lt_of_lt_of_le hsz3 hb.size
  clear hb hcn3 hcs3 hsz3 HB3
  go_wp2_with fail
  refine plain_any.mono ?_
  rintro e w5 ⟨rfl, hb⟩
  obtain ⟨hcn5, hcs5⟩ := Boxed.below ⟨hcn4, hcs4⟩ hb hsz4
  have HB5 : Hid (Below w.heap.size w w5) := Lib.hid (HB4.out.trans (hb.mono (by omega)))
  have hsz5 : w.heap.size < w5.heap.size := Nat.lt_of_lt_of_le hsz4 hb.size
  clear hb hcn4 hcs4 hsz4 HB4
  go_wp2_with fail
  refine (right_yes ((HX.out.below HB5.out).alloc (by omega) _) HR.out (by simp; omega)).mono ?_
  rintro e w6 ⟨rfl, hb⟩
  obtain ⟨hcn6, hcs6⟩ := Boxed.below (w := w5.alloc (.cells #[.int .i64 (N : Int), .slice A m c] 31)) (g := w.heap.size) (n := (N : Int)) (A := A) (m := m) (c := c) ⟨(World.cell?_alloc_lt w5 _ _ hsz5).trans hcn5, (World.cell?_alloc_lt w5 _ _ hsz5).trans hcs5⟩ hb (by simp; omega)
  have HB6 : Hid (Below w.heap.size w w6) := Lib.hid ((HB5.out.alloc (by omega) _).trans (hb.mono (by simp; omega)))
  clear hb hcn5 hcs5 HB5
  go_wp2
  go_ret
  exact ⟨rfl, HB6.out⟩
set_option maxRecDepth 100000 in
set_option maxHeartbeats 1000000 in
theorem law_sets_wrong {w : World} {m c : Nat} {n z : Int} {A : Option Addr} {es : List (Int × Int)} (hx : RdE w w.heap.size A m es) (hr : ¬ GraphR n es) (hm : m ≤ 100) :
    Calls Try.prog 5 #[.agg #[.int .i64 n, .slice A m c], .int .u64 z] w fun e w' => e = .returned (.bool true) ∧ Below w.heap.size w w' := by
  have HX := Lib.hid hx
  have HR := Lib.hid hr
  have HSM : Hid (decide (m ≤ 100) = true) := Lib.hid (by simp; omega)
  have hm0 : m ≤ 9223372036854775807 := by omega
  clear hx hr
  go_enter Try.func5, Try.ntmps5
  go_wp2_with fail
  refine (anchor_any _).mono ?_
  rintro e w1 ⟨rfl, hb⟩
  obtain ⟨hcn, hcs⟩ := (boxed_alloc w n A m c 24).below hb (by simp)
  have HB1 : Hid (Below w.heap.size w w1) := Lib.hid (((Below.refl _ _).alloc (Nat.le_refl _) _).trans (hb.mono (by simp)))
  have hsz1 : w.heap.size < w1.heap.size := by have := hb.size; simp at this; omega
  clear hb
  go_wp2_with fail
  refine (small_wrong (HX.out.below HB1.out) HR.out hm0 (by omega)).mono ?_
  rintro e w2 ⟨rfl, hb⟩
  rw [HSM.out]
  obtain ⟨hcn2, hcs2⟩ := Boxed.below ⟨hcn, hcs⟩ hb hsz1
  have HB2 : Hid (Below w.heap.size w w2) := Lib.hid (HB1.out.trans (hb.mono (by omega)))
  have hsz2 : w.heap.size < w2.heap.size := Nat.lt_of_lt_of_le hsz1 hb.size
  clear hb hcn hcs hsz1 HB1
  go_wp2_with fail
  refine (closed_bad (HX.out.below HB2.out) HR.out hm0 (by omega)).mono ?_
  rintro e w3 ⟨rfl, hb⟩
  obtain ⟨hcn3, hcs3⟩ := Boxed.below ⟨hcn2, hcs2⟩ hb hsz2
  have HB3 : Hid (Below w.heap.size w w3) := Lib.hid (HB2.out.trans (hb.mono (by omega)))
  have hsz3 : w.heap.size < w3.heap.size := Nat.lt_of_lt_of_le hsz2 hb.size
  clear hb hcn2 hcs2 hsz2 HB2
  go_wp2_with fail
  refine (readyM_bad (HX.out.below HB3.out) HR.out hm0 (by omega)).mono ?_
  rintro e w4 ⟨rfl, hb⟩
  obtain ⟨hcn4, hcs4⟩ := Boxed.below ⟨hcn3, hcs3⟩ hb hsz3
  have HB4 : Hid (Below w.heap.size w w4) := Lib.hid (HB3.out.trans (hb.mono (by omega)))
  have hsz4 : w.heap.size < w4.heap.size := Nat.lt_of_lt_of_le hsz3 hb.size
  clear hb hcn3 hcs3 hsz3 HB3
  go_wp2_with fail
  refine plain_any.mono ?_
  rintro e w5 ⟨rfl, hb⟩
  obtain ⟨hcn5, hcs5⟩ := Boxed.below ⟨hcn4, hcs4⟩ hb hsz4
  have HB5 : Hid (Below w.heap.size w w5) := Lib.hid (HB4.out.trans (hb.mono (by omega)))
  have hsz5 : w.heap.size < w5.heap.size := Nat.lt_of_lt_of_le hsz4 hb.size
  clear hb hcn4 hcs4 hsz4 HB4
  go_wp2_with fail
  refine (right_no ((HX.out.below HB5.out).alloc (by omega) _) HR.out hm0 (by simp; omega)).mono ?_
  rintro e w6 ⟨rfl, hb⟩
  obtain ⟨hcn6, hcs6⟩ := Boxed.below (w := w5.alloc (.cells #[.int .i64 n, .slice A m c] 31)) (g := w.heap.size) (n := n) (A := A) (m := m) (c := c) ⟨(World.cell?_alloc_lt w5 _ _ hsz5).trans hcn5, (World.cell?_alloc_lt w5 _ _ hsz5).trans hcs5⟩ hb (by simp; omega)
  have HB6 : Hid (Below w.heap.size w w6) := Lib.hid ((HB5.out.alloc (by omega) _).trans (hb.mono (by simp; omega)))
  clear hb hcn5 hcs5 HB5
  go_wp2
  go_ret
  exact ⟨rfl, HB6.out⟩
set_option maxRecDepth 100000 in
set_option maxHeartbeats 1000000 in
theorem law_sets_great {w : World} {m c : Nat} {n z : Int} {A : Option Addr} {es : List (Int × Int)} (hx : RdE w w.heap.size A m es) (hr : GraphR n es) (hsm : ¬ (m ≤ 100 ∧ n ≤ 20)) :
    Calls Try.prog 5 #[.agg #[.int .i64 n, .slice A m c], .int .u64 z] w fun e w' => e = .returned (.bool true) ∧ Below w.heap.size w w' := by
  have HX := Lib.hid hx
  have HR := Lib.hid hr
  have HSM : Hid ((decide (m ≤ 100) && decide (n ≤ 20)) = false) := Lib.hid (by simp; omega)
  clear hx hr hsm
  go_enter Try.func5, Try.ntmps5
  go_wp2_with fail
  refine (anchor_any _).mono ?_
  rintro e w1 ⟨rfl, hb⟩
  obtain ⟨hcn, hcs⟩ := (boxed_alloc w n A m c 24).below hb (by simp)
  have HB1 : Hid (Below w.heap.size w w1) := Lib.hid (((Below.refl _ _).alloc (Nat.le_refl _) _).trans (hb.mono (by simp)))
  have hsz1 : w.heap.size < w1.heap.size := by have := hb.size; simp at this; omega
  clear hb
  go_wp2_with fail
  refine (small_right (HX.out.below HB1.out) HR.out (by omega)).mono ?_
  rintro e w2 ⟨rfl, hb⟩
  rw [HSM.out]
  have HB2 : Hid (Below w.heap.size w w2) := Lib.hid (HB1.out.trans (hb.mono (by omega)))
  clear hb
  go_wp2
  go_ret
  exact ⟨rfl, HB2.out⟩
set_option maxRecDepth 100000 in
set_option maxHeartbeats 1000000 in
theorem law_sets_long {w : World} {m c : Nat} {n z : Int} {A : Option Addr} {es : List (Int × Int)} (hx : RdE w w.heap.size A m es) (hr : ¬ GraphR n es) (hm0 : m ≤ 9223372036854775807) (hsm : ¬ m ≤ 100) :
    Calls Try.prog 5 #[.agg #[.int .i64 n, .slice A m c], .int .u64 z] w fun e w' => e = .returned (.bool true) ∧ Below w.heap.size w w' := by
  have HX := Lib.hid hx
  have HR := Lib.hid hr
  have HSM : Hid (decide (m ≤ 100) = false) := Lib.hid (by simp; omega)
  clear hx hr hsm
  go_enter Try.func5, Try.ntmps5
  go_wp2_with fail
  refine (anchor_any _).mono ?_
  rintro e w1 ⟨rfl, hb⟩
  obtain ⟨hcn, hcs⟩ := (boxed_alloc w n A m c 24).below hb (by simp)
  have HB1 : Hid (Below w.heap.size w w1) := Lib.hid (((Below.refl _ _).alloc (Nat.le_refl _) _).trans (hb.mono (by simp)))
  have hsz1 : w.heap.size < w1.heap.size := by have := hb.size; simp at this; omega
  clear hb
  go_wp2_with fail
  refine (small_wrong (HX.out.below HB1.out) HR.out hm0 (by omega)).mono ?_
  rintro e w2 ⟨rfl, hb⟩
  rw [HSM.out]
  have HB2 : Hid (Below w.heap.size w w2) := Lib.hid (HB1.out.trans (hb.mono (by omega)))
  clear hb
  go_wp2
  go_ret
  exact ⟨rfl, HB2.out⟩

theorem law_sets {w : World} {m c : Nat} {n z : Int} {A : Option Addr} {es : List (Int × Int)} (hx : RdE w w.heap.size A m es) (hm0 : m ≤ 9223372036854775807) (hz : 0 ≤ z ∧ z ≤ 18446744073709551615) :
    Calls Try.prog 5 #[.agg #[.int .i64 n, .slice A m c], .int .u64 z] w fun e w' => e = .returned (.bool true) ∧ Below w.heap.size w w' := by
  by_cases hr : GraphR n es
  · by_cases hsm : m ≤ 100 ∧ n ≤ 20
    · obtain ⟨N, g, rfl, rfl, hi, hN, hl⟩ := graph_nat hr
      obtain ⟨s, rfl⟩ := Int.eq_ofNat_of_zero_le hz.1
      have hs : s < lim := by unfold lim; omega
      cases hf : fitsB s N with
      | true => exact law_sets_go hx hi (by omega) hsm.1 (Nat.le_refl _) hs hf _ rfl
      | false => exact law_sets_out hx hi (by omega) hsm.1 hf
    · exact law_sets_great hx hr hsm
  · by_cases hm : m ≤ 100
    · exact law_sets_wrong hx hr hm
    · exact law_sets_long hx hr hm0 hm
end Go.Proofs.Ytinphdphloddmaa
