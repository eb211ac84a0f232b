/-
  THE WALK of the statement DigraphThin.
-/
import Derived.Test.YtinphdphloddmaaDCirc
import Derived.Test.YtinphdphloddmaaDRefThin
import Derived.Test.YtinphdphloddmaaDEdgesC
import Derived.Test.YtinphdphloddmaaDEdgesQ
import Derived.Test.YtinphdphloddmaaDRight
import Derived.Test.YtinphdphloddmaaDAnchor
import Derived.Deep.QuietTactic
import Derived.BigQuiet
namespace Go.Proofs.Ytinphdphloddmaa
open Go.RowKit
open DiP
set_option linter.unusedVariables false

attribute [local go_sem] eqPair

set_option maxRecDepth 100000 in
set_option maxHeartbeats 1000000 in
theorem law_thin_great {w : World} {m c : Nat} {n : Int} {A : Option Addr} {es : List (Int × Int)} (hx : RdE w w.heap.size A m es) (hr : GraphR n es) (hsm : ¬ (m ≤ 100 ∧ n ≤ 20)) :
    Calls Try.prog 6 #[.agg #[.int .i64 n, .slice A m c]] w fun e w' => e = .returned (.bool true) ∧ Below w.heap.size w w' := by
  have HX := Lib.hid hx
  have HR := Lib.hid hr
  have HSM : Hid ((decide (m ≤ 100) && decide (n ≤ 20)) = false) := Lib.hid (by simp; omega)
  clear hx hr hsm
  go_enter Try.func6, Try.ntmps6
  go_wp2_with fail
  refine (anchor_any _).mono ?_
  rintro e w1 ⟨rfl, hb⟩
  obtain ⟨hcn, hcs⟩ := (boxed_alloc w n A m c 24).below hb (by simp)
  have HB1 : Hid (Below w.heap.size w w1) := Lib.hid (((Below.refl _ _).alloc (Nat.le_refl _) _).trans (hb.mono (by simp)))
  have hsz1 : w.heap.size < w1.heap.size := by have := hb.size; simp at this; omega
  clear hb
  go_wp2_with fail
  refine (small_right (HX.out.below HB1.out) HR.out (by omega)).mono ?_
  rintro e w2 ⟨rfl, hb⟩
  rw [HSM.out]
  obtain ⟨hcn2, hcs2⟩ := Boxed.below ⟨hcn, hcs⟩ hb hsz1
  have HB2 : Hid (Below w.heap.size w w2) := Lib.hid (HB1.out.trans (hb.mono (by omega)))
  have hsz2 : w.heap.size < w2.heap.size := Nat.lt_of_lt_of_le hsz1 hb.size
  clear hb hcn hcs hsz1 HB1
  go_wp2
  go_ret
  exact ⟨rfl, HB2.out⟩
set_option maxRecDepth 100000 in
set_option maxHeartbeats 1000000 in
theorem law_thin_long {w : World} {m c : Nat} {n : Int} {A : Option Addr} {es : List (Int × Int)} (hx : RdE w w.heap.size A m es) (hr : ¬ GraphR n es) (hm0 : m ≤ 9223372036854775807) (hsm : ¬ m ≤ 100) :
    Calls Try.prog 6 #[.agg #[.int .i64 n, .slice A m c]] w fun e w' => e = .returned (.bool true) ∧ Below w.heap.size w w' := by
  have HX := Lib.hid hx
  have HR := Lib.hid hr
  have HSM : Hid (decide (m ≤ 100) = false) := Lib.hid (by simp; omega)
  clear hx hr hsm
  go_enter Try.func6, Try.ntmps6
  go_wp2_with fail
  refine (anchor_any _).mono ?_
  rintro e w1 ⟨rfl, hb⟩
  obtain ⟨hcn, hcs⟩ := (boxed_alloc w n A m c 24).below hb (by simp)
  have HB1 : Hid (Below w.heap.size w w1) := Lib.hid (((Below.refl _ _).alloc (Nat.le_refl _) _).trans (hb.mono (by simp)))
  have hsz1 : w.heap.size < w1.heap.size := by have := hb.size; simp at this; omega
  clear hb
  go_wp2_with fail
  refine (small_wrong (HX.out.below HB1.out) HR.out hm0 (by omega)).mono ?_
  rintro e w2 ⟨rfl, hb⟩
  rw [HSM.out]
  obtain ⟨hcn2, hcs2⟩ := Boxed.below ⟨hcn, hcs⟩ hb hsz1
  have HB2 : Hid (Below w.heap.size w w2) := Lib.hid (HB1.out.trans (hb.mono (by omega)))
  have hsz2 : w.heap.size < w2.heap.size := Nat.lt_of_lt_of_le hsz1 hb.size
  clear hb hcn hcs hsz1 HB1
  go_wp2
  go_ret
  exact ⟨rfl, HB2.out⟩
set_option maxRecDepth 100000 in
set_option maxHeartbeats 1000000 in
theorem law_thin_big {w : World} {m c : Nat} {n : Int} {A : Option Addr} {es : List (Int × Int)} (hx : RdE w w.heap.size A m es) (hr : GraphR n es) (hsm : m ≤ 100 ∧ n ≤ 20) (h12 : 12 < n) :
    Calls Try.prog 6 #[.agg #[.int .i64 n, .slice A m c]] w fun e w' => e = .returned (.bool true) ∧ Below w.heap.size w w' := by
  have HX := Lib.hid hx
  have HR := Lib.hid hr
  have HSM : Hid ((decide (m ≤ 100) && decide (n ≤ 20)) = true) := Lib.hid (by simp; omega)
  clear hx hr hsm
  go_enter Try.func6, Try.ntmps6
  go_wp2_with fail
  refine (anchor_any _).mono ?_
  rintro e w1 ⟨rfl, hb⟩
  obtain ⟨hcn, hcs⟩ := (boxed_alloc w n A m c 24).below hb (by simp)
  have HB1 : Hid (Below w.heap.size w w1) := Lib.hid (((Below.refl _ _).alloc (Nat.le_refl _) _).trans (hb.mono (by simp)))
  have hsz1 : w.heap.size < w1.heap.size := by have := hb.size; simp at this; omega
  clear hb
  go_wp2_with fail
  refine (small_right (HX.out.below HB1.out) HR.out (by omega)).mono ?_
  rintro e w2 ⟨rfl, hb⟩
  rw [HSM.out]
  obtain ⟨hcn2, hcs2⟩ := Boxed.below ⟨hcn, hcs⟩ hb hsz1
  have HB2 : Hid (Below w.heap.size w w2) := Lib.hid (HB1.out.trans (hb.mono (by omega)))
  have hsz2 : w.heap.size < w2.heap.size := Nat.lt_of_lt_of_le hsz1 hb.size
  clear hb hcn hcs hsz1 HB1
  go_wp2
  go_ret
  exact ⟨rfl, HB2.out⟩
set_option maxRecDepth 100000 in
set_option maxHeartbeats 1000000 in
theorem law_thin_wrongbig {w : World} {m c : Nat} {n : Int} {A : Option Addr} {es : List (Int × Int)} (hx : RdE w w.heap.size A m es) (hr : ¬ GraphR n es) (hm : m ≤ 100) (h12 : 12 < n) :
    Calls Try.prog 6 #[.agg #[.int .i64 n, .slice A m c]] w fun e w' => e = .returned (.bool true) ∧ Below w.heap.size w w' := by
  have HX := Lib.hid hx
  have HR := Lib.hid hr
  have HSM : Hid (decide (m ≤ 100) = true) := Lib.hid (by simp; omega)
  have hm0 : m ≤ 9223372036854775807 := by omega
  clear hx hr
  go_enter Try.func6, Try.ntmps6
  go_wp2_with fail
  refine (anchor_any _).mono ?_
  rintro e w1 ⟨rfl, hb⟩
  obtain ⟨hcn, hcs⟩ := (boxed_alloc w n A m c 24).below hb (by simp)
  have HB1 : Hid (Below w.heap.size w w1) := Lib.hid (((Below.refl _ _).alloc (Nat.le_refl _) _).trans (hb.mono (by simp)))
  have hsz1 : w.heap.size < w1.heap.size := by have := hb.size; simp at this; omega
  clear hb
  go_wp2_with fail
  refine (small_wrong (HX.out.below HB1.out) HR.out hm0 (by omega)).mono ?_
  rintro e w2 ⟨rfl, hb⟩
  rw [HSM.out]
  obtain ⟨hcn2, hcs2⟩ := Boxed.below ⟨hcn, hcs⟩ hb hsz1
  have HB2 : Hid (Below w.heap.size w w2) := Lib.hid (HB1.out.trans (hb.mono (by omega)))
  have hsz2 : w.heap.size < w2.heap.size := Nat.lt_of_lt_of_le hsz1 hb.size
  clear hb hcn hcs hsz1 HB1
  go_wp2
  go_ret
  exact ⟨rfl, HB2.out⟩
set_option maxRecDepth 100000 in
set_option maxHeartbeats 1000000 in
theorem law_thin_wrong {w : World} {m c : Nat} {n : Int} {A : Option Addr} {es : List (Int × Int)} (hx : RdE w w.heap.size A m es) (hr : ¬ GraphR n es) (hm : m ≤ 100) (h12 : n ≤ 12) :
    Calls Try.prog 6 #[.agg #[.int .i64 n, .slice A m c]] w fun e w' => e = .returned (.bool true) ∧ Below w.heap.size w w' := by
  have HX := Lib.hid hx
  have HR := Lib.hid hr
  have HSM : Hid (decide (m ≤ 100) = true) := Lib.hid (by simp; omega)
  have hm0 : m ≤ 9223372036854775807 := by omega
  clear hx hr
  go_enter Try.func6, Try.ntmps6
  go_wp2_with fail
  refine (anchor_any _).mono ?_
  rintro e w1 ⟨rfl, hb⟩
  obtain ⟨hcn, hcs⟩ := (boxed_alloc w n A m c 24).below hb (by simp)
  have HB1 : Hid (Below w.heap.size w w1) := Lib.hid (((Below.refl _ _).alloc (Nat.le_refl _) _).trans (hb.mono (by simp)))
  have hsz1 : w.heap.size < w1.heap.size := by have := hb.size; simp at this; omega
  clear hb
  go_wp2_with fail
  refine (small_wrong (HX.out.below HB1.out) HR.out hm0 (by omega)).mono ?_
  rintro e w2 ⟨rfl, hb⟩
  rw [HSM.out]
  obtain ⟨hcn2, hcs2⟩ := Boxed.below ⟨hcn, hcs⟩ hb hsz1
  have HB2 : Hid (Below w.heap.size w w2) := Lib.hid (HB1.out.trans (hb.mono (by omega)))
  have hsz2 : w.heap.size < w2.heap.size := Nat.lt_of_lt_of_le hsz1 hb.size
  clear hb hcn hcs hsz1 HB1
  go_wp2_with fail
  refine (thin_bad (HX.out.below HB2.out) HR.out hm0 (by omega)).mono ?_
  rintro e w3 ⟨rfl, hb⟩
  obtain ⟨hcn3, hcs3⟩ := Boxed.below ⟨hcn2, hcs2⟩ hb hsz2
  have HB3 : Hid (Below w.heap.size w w3) := Lib.hid (HB2.out.trans (hb.mono (by omega)))
  have hsz3 : w.heap.size < w3.heap.size := Nat.lt_of_lt_of_le hsz2 hb.size
  clear hb hcn2 hcs2 hsz2 HB2
  go_wp2_with fail
  refine plain_any.mono ?_
  rintro e w4 ⟨rfl, hb⟩
  obtain ⟨hcn4, hcs4⟩ := Boxed.below ⟨hcn3, hcs3⟩ hb hsz3
  have HB4 : Hid (Below w.heap.size w w4) := Lib.hid (HB3.out.trans (hb.mono (by omega)))
  have hsz4 : w.heap.size < w4.heap.size := Nat.lt_of_lt_of_le hsz3 hb.size
  have HBR4 : Hid (Below w3.heap.size w3 w4) := Lib.hid hb
  clear hb hcn3 hcs3 hsz3 HB3
  go_wp2_with fail
  refine (right_no ((HX.out.below HB4.out).alloc (by omega) _) HR.out hm0 (by simp; omega)).mono ?_
  rintro e w5 ⟨rfl, hb⟩
  obtain ⟨hpn, hps⟩ := (boxed_alloc w4 n A m c 31).below hb (by simp)
  obtain ⟨hcn5, hcs5⟩ := Boxed.below (w := w4.alloc (.cells #[.int .i64 n, .slice A m c] 31)) (g := w.heap.size) (n := n) (A := A) (m := m) (c := c) ⟨(World.cell?_alloc_lt w4 _ _ hsz4).trans hcn4, (World.cell?_alloc_lt w4 _ _ hsz4).trans hcs4⟩ hb (by simp; omega)
  have HB5 : Hid (Below w.heap.size w w5) := Lib.hid ((HB4.out.alloc (by omega) _).trans (hb.mono (by simp; omega)))
  have hsz5 : w4.heap.size < w5.heap.size := by have := hb.size; simp at this; omega
  have HBR5 : Hid (Below w3.heap.size w3 w5) := Lib.hid (HBR4.out.trans (((Below.refl _ _).alloc HBR4.out.size _).trans (hb.mono (by have := HBR4.out.size; simp; omega))))
  clear hb hcn4 hcs4 HB4 HBR4
  go_wp2
  go_ret
  exact ⟨rfl, HB5.out⟩
set_option maxRecDepth 100000 in
set_option maxHeartbeats 1000000 in
theorem law_thin_cyc {w : World} {m c N : Nat} {A : Option Addr} {g : List (Nat × Nat)} (hx : RdG w w.heap.size A m g) (hi : InN N g) (hn : N ≤ 12) (hm : m ≤ 100) (hG : ¬ Goes (befG g) N N) :
    Calls Try.prog 6 #[.agg #[.int .i64 (N : Int), .slice A m c]] w fun e w' => e = .returned (.bool true) ∧ Below w.heap.size w w' := by
  have HX := Lib.hid hx
  have HI := Lib.hid hi
  have HL := Lib.hid hx.len
  have HR := Lib.hid (graphR_cast hi (show N ≤ 64 by omega) (by rw [hx.len]; omega))
  have HSM : Hid ((decide (m ≤ 100) && decide ((N : Int) ≤ 20)) = true) := Lib.hid (by simp; omega)
  have HG := Lib.hid hG
  have h12 : (N : Int) ≤ 12 := by omega
  clear hx hi hG
  go_enter Try.func6, Try.ntmps6
  go_wp2_with fail
  refine (anchor_any _).mono ?_
  rintro e w1 ⟨rfl, hb⟩
  obtain ⟨hcn, hcs⟩ := (boxed_alloc w (N : Int) A m c 24).below hb (by simp)
  have HB1 : Hid (Below w.heap.size w w1) := Lib.hid (((Below.refl _ _).alloc (Nat.le_refl _) _).trans (hb.mono (by simp)))
  have hsz1 : w.heap.size < w1.heap.size := by have := hb.size; simp at this; omega
  clear hb
  go_wp2_with fail
  refine (small_right (HX.out.below HB1.out) HR.out (by omega)).mono ?_
  rintro e w2 ⟨rfl, hb⟩
  rw [HSM.out]
  obtain ⟨hcn2, hcs2⟩ := Boxed.below ⟨hcn, hcs⟩ hb hsz1
  have HB2 : Hid (Below w.heap.size w w2) := Lib.hid (HB1.out.trans (hb.mono (by omega)))
  have hsz2 : w.heap.size < w2.heap.size := Nat.lt_of_lt_of_le hsz1 hb.size
  clear hb hcn hcs hsz1 HB1
  go_wp2_with fail
  refine (thin_no (HX.out.below HB2.out) HI.out (by omega) (by omega) (by omega) HG.out).mono ?_
  rintro e w3 ⟨rfl, hb⟩
  obtain ⟨hcn3, hcs3⟩ := Boxed.below ⟨hcn2, hcs2⟩ hb hsz2
  have HB3 : Hid (Below w.heap.size w w3) := Lib.hid (HB2.out.trans (hb.mono (by omega)))
  have hsz3 : w.heap.size < w3.heap.size := Nat.lt_of_lt_of_le hsz2 hb.size
  clear hb hcn2 hcs2 hsz2 HB2
  go_wp2_with fail
  refine plain_any.mono ?_
  rintro e w4 ⟨rfl, hb⟩
  obtain ⟨hcn4, hcs4⟩ := Boxed.below ⟨hcn3, hcs3⟩ hb hsz3
  have HB4 : Hid (Below w.heap.size w w4) := Lib.hid (HB3.out.trans (hb.mono (by omega)))
  have hsz4 : w.heap.size < w4.heap.size := Nat.lt_of_lt_of_le hsz3 hb.size
  have HBR4 : Hid (Below w3.heap.size w3 w4) := Lib.hid hb
  clear hb hcn3 hcs3 hsz3 HB3
  go_wp2_with fail
  refine (right_yes ((HX.out.below HB4.out).alloc (by omega) _) HR.out (by simp; omega)).mono ?_
  rintro e w5 ⟨rfl, hb⟩
  obtain ⟨hpn, hps⟩ := (boxed_alloc w4 (N : Int) A m c 31).below hb (by simp)
  obtain ⟨hcn5, hcs5⟩ := Boxed.below (w := w4.alloc (.cells #[.int .i64 (N : Int), .slice A m c] 31)) (g := w.heap.size) (n := (N : Int)) (A := A) (m := m) (c := c) ⟨(World.cell?_alloc_lt w4 _ _ hsz4).trans hcn4, (World.cell?_alloc_lt w4 _ _ hsz4).trans hcs4⟩ hb (by simp; omega)
  have HB5 : Hid (Below w.heap.size w w5) := Lib.hid ((HB4.out.alloc (by omega) _).trans (hb.mono (by simp; omega)))
  have hsz5 : w4.heap.size < w5.heap.size := by have := hb.size; simp at this; omega
  have HBR5 : Hid (Below w3.heap.size w3 w5) := Lib.hid (HBR4.out.trans (((Below.refl _ _).alloc HBR4.out.size _).trans (hb.mono (by have := HBR4.out.size; simp; omega))))
  clear hb hcn4 hcs4 HB4 HBR4
  go_wp2_with fail
  refine (circle_any (HX.out.below HB5.out) HI.out (by omega) (by omega) (by omega) true ⟨fun _ => HG.out, fun _ => rfl⟩).mono ?_
  rintro e w6 ⟨rfl, hb⟩
  have HB6 : Hid (Below w.heap.size w w6) := Lib.hid (HB5.out.trans (hb.mono (by omega)))
  clear hb
  go_wp2
  go_ret
  exact ⟨rfl, HB6.out⟩
set_option maxRecDepth 100000 in
set_option maxHeartbeats 1000000 in
theorem law_thin_go {w : World} {m c N : Nat} {A : Option Addr} {g : List (Nat × Nat)} (hx : RdG w w.heap.size A m g) (hi : InN N g) (hn : N ≤ 12) (hm : m ≤ 100) (hG : Goes (befG g) N N) :
    Calls Try.prog 6 #[.agg #[.int .i64 (N : Int), .slice A m c]] w fun e w' => e = .returned (.bool true) ∧ Below w.heap.size w w' := by
  have HX := Lib.hid hx
  have HI := Lib.hid hi
  have HL := Lib.hid hx.len
  have HR := Lib.hid (graphR_cast hi (show N ≤ 64 by omega) (by rw [hx.len]; omega))
  have HSM : Hid ((decide (m ≤ 100) && decide ((N : Int) ≤ 20)) = true) := Lib.hid (by simp; omega)
  have HG := Lib.hid hG
  have h12 : (N : Int) ≤ 12 := by omega
  clear hx hi hG
  go_enter Try.func6, Try.ntmps6
  go_wp2_with fail
  refine (anchor_any _).mono ?_
  rintro e w1 ⟨rfl, hb⟩
  obtain ⟨hcn, hcs⟩ := (boxed_alloc w (N : Int) A m c 24).below hb (by simp)
  have HB1 : Hid (Below w.heap.size w w1) := Lib.hid (((Below.refl _ _).alloc (Nat.le_refl _) _).trans (hb.mono (by simp)))
  have hsz1 : w.heap.size < w1.heap.size := by have := hb.size; simp at this; omega
  clear hb
  go_wp2_with fail
  refine (small_right (HX.out.below HB1.out) HR.out (by omega)).mono ?_
  rintro e w2 ⟨rfl, hb⟩
  rw [HSM.out]
  obtain ⟨hcn2, hcs2⟩ := Boxed.below ⟨hcn, hcs⟩ hb hsz1
  have HB2 : Hid (Below w.heap.size w w2) := Lib.hid (HB1.out.trans (hb.mono (by omega)))
  have hsz2 : w.heap.size < w2.heap.size := Nat.lt_of_lt_of_le hsz1 hb.size
  clear hb hcn hcs hsz1 HB1
  go_wp2_with fail
  refine (thin_any (HX.out.below HB2.out) (by omega) HI.out (by omega) (by omega) HG.out).mono ?_
  rintro e w3 ⟨hb, A3, c3, rfl, hown⟩
  have HT3 : Hid (RdG w3 w3.heap.size A3 (thnG N g).length (thnG N g)) := Lib.hid (hown.rd rfl)
  obtain ⟨hcn3, hcs3⟩ := Boxed.below ⟨hcn2, hcs2⟩ hb hsz2
  have HB3 : Hid (Below w.heap.size w w3) := Lib.hid (HB2.out.trans (hb.mono (by omega)))
  have hsz3 : w.heap.size < w3.heap.size := Nat.lt_of_lt_of_le hsz2 hb.size
  have htl : (thnG N g).length ≤ 4096 := by
    have h1 := thnK_len N (aftG g) (rchG N g) N
    have h2 : N * N ≤ 12 * 12 := Nat.mul_le_mul hn hn
    show (thnK N (aftG g) (rchG N g) N).length ≤ 4096
    omega
  clear hb hown hcn2 hcs2 hsz2 HB2
  go_wp2_with fail
  refine plain_any.mono ?_
  rintro e w4 ⟨rfl, hb⟩
  obtain ⟨hcn4, hcs4⟩ := Boxed.below ⟨hcn3, hcs3⟩ hb hsz3
  have HB4 : Hid (Below w.heap.size w w4) := Lib.hid (HB3.out.trans (hb.mono (by omega)))
  have hsz4 : w.heap.size < w4.heap.size := Nat.lt_of_lt_of_le hsz3 hb.size
  have HBR4 : Hid (Below w3.heap.size w3 w4) := Lib.hid hb
  clear hb hcn3 hcs3 HB3
  go_wp2_with fail
  refine (right_yes ((HX.out.below HB4.out).alloc (by omega) _) HR.out (by simp; omega)).mono ?_
  rintro e w5 ⟨rfl, hb⟩
  obtain ⟨hpn, hps⟩ := (boxed_alloc w4 (N : Int) A m c 31).below hb (by simp)
  obtain ⟨hcn5, hcs5⟩ := Boxed.below (w := w4.alloc (.cells #[.int .i64 (N : Int), .slice A m c] 31)) (g := w.heap.size) (n := (N : Int)) (A := A) (m := m) (c := c) ⟨(World.cell?_alloc_lt w4 _ _ hsz4).trans hcn4, (World.cell?_alloc_lt w4 _ _ hsz4).trans hcs4⟩ hb (by simp; omega)
  have HB5 : Hid (Below w.heap.size w w5) := Lib.hid ((HB4.out.alloc (by omega) _).trans (hb.mono (by simp; omega)))
  have hsz5 : w4.heap.size < w5.heap.size := by have := hb.size; simp at this; omega
  have HBR5 : Hid (Below w3.heap.size w3 w5) := Lib.hid (HBR4.out.trans (((Below.refl _ _).alloc HBR4.out.size _).trans (hb.mono (by have := HBR4.out.size; simp; omega))))
  clear hb hcn4 hcs4 HB4 HBR4
  have HT5 := Lib.hid (HT3.out.below HBR5.out)
  have hsz35 := HBR5.out.size
  clear HT3 HBR5
  go_wp2_with fail
  refine (circle_any (HX.out.below HB5.out) HI.out (by omega) (by omega) (by omega) false ⟨fun h => (by cases h), fun h => absurd HG.out h⟩).mono ?_
  rintro e w6 ⟨rfl, hb⟩
  obtain ⟨hcn6, hcs6⟩ := Boxed.below ⟨hcn5, hcs5⟩ hb (by omega)
  obtain ⟨hpn6, hps6⟩ := Boxed.below ⟨hpn, hps⟩ hb hsz5
  have HT6 := Lib.hid (HT5.out.below (hb.mono (by omega)))
  have HB6 : Hid (Below w.heap.size w w6) := Lib.hid (HB5.out.trans (hb.mono (by omega)))
  have hsz6 := hb.size
  clear hb hpn hps hcn5 hcs5 HT5 HB5
  go_wp2_with fail
  refine (refThin_any (HX.out.below HB6.out) HI.out (by omega) (by omega) (by omega)).mono ?_
  rintro e w7 ⟨A7, c7, rfl, hown, hb⟩
  have HN7 : Hid (RdG w7 w7.heap.size A7 (thnG N g).length (thnG N g)) := Lib.hid (hown.rd rfl)
  obtain ⟨hcn7, hcs7⟩ := Boxed.below ⟨hcn6, hcs6⟩ hb (by omega)
  have HT7 := Lib.hid (HT6.out.below (hb.mono (by omega)))
  have HB7 : Hid (Below w.heap.size w w7) := Lib.hid (HB6.out.trans (hb.mono (by omega)))
  have hsz7 := hb.size
  clear hb hown hpn6 hps6 hcn6 hcs6 HT6 HB6
  go_wp2_with fail
  go_loopw [59] (fun i wr => ∃ q : Nat, q ≤ (thnG N g).length ∧ i = .int .i64 (q : Int) ∧ Hid (Below w7.heap.size w7 wr)) (fun i _ => (thnG N g).length - (intOf i).toNat)
  case atStart => exact ⟨0, by omega, rfl, Lib.hid (Below.refl _ _)⟩
  case round =>
    obtain ⟨q, hq, rfl, HW⟩ := hrel
    have hszr := HW.out.size
    by_cases hlq : q < (thnG N g).length
    · obtain ⟨x3, z3, rfl, hl3, ha3, hb3⟩ := HT7.out.at_ hlq
      obtain ⟨x4, z4, rfl, hl4, ha4, hb4⟩ := HN7.out.at_ hlq
      have ha3' := (HW.out.cell (p := ⟨x3, z3 + q * 2, none⟩) (by show x3 < _; omega)).trans ha3
      have hb3' := (HW.out.cell (p := ⟨x3, z3 + q * 2 + 1, none⟩) (by show x3 < _; omega)).trans hb3
      have ha4' := (HW.out.cell (p := ⟨x4, z4 + q * 2, none⟩) hl4).trans ha4
      have hb4' := (HW.out.cell (p := ⟨x4, z4 + q * 2 + 1, none⟩) hl4).trans hb4
      have hx3 : x3 < wr.heap.size := by omega
      have hx4 : x4 < wr.heap.size := by omega
      clear ha3 hb3 ha4 hb4
      go_upto_region 15 with fail
      go_quiet (fail)
      rename_i nq
      go_wp2
      go_roundw
      case rel =>
        refine ⟨q + 1, by omega, by go_num, Lib.hid ?_⟩
        exact below_drewN (HW.out.alloc hszr _) _
      case measure => simp [intOf]; omega
    · obtain rfl : q = (thnG N g).length := by omega
      have HB8 : Hid (Below w.heap.size w wr) := Lib.hid (HB7.out.trans (HW.out.mono (by omega)))
      obtain ⟨hcn8, hcs8⟩ := Boxed.below ⟨hcn7, hcs7⟩ HW.out (by omega)
      have HT8 := Lib.hid (HT7.out.below (HW.out.mono (by omega)))
      have HIT := Lib.hid (inN_thn HI.out (show N ≤ 64 by omega))
      have HSAME : Hid (∀ j, j < N → rchG N (thnG N g) j = rchG N g j) := Lib.hid (fun j hj => rch_thn HI.out (by omega) HG.out hj)
      clear hcn7 hcs7 HT7 HN7 HB7
      go_wp2_with fail
      refine (reachM_any (HX.out.below HB8.out) HI.out (by omega) (by omega) (by omega)).mono ?_
      rintro e w9 ⟨A9, c9, rfl, hrd, hb⟩
      have HU9 := Lib.hid hrd
      obtain ⟨hcn9, hcs9⟩ := Boxed.below ⟨hcn8, hcs8⟩ hb (by omega)
      have HT9 := Lib.hid (HT8.out.below (hb.mono (by omega)))
      have HB9 : Hid (Below w.heap.size w w9) := Lib.hid (HB8.out.trans (hb.mono (by omega)))
      have hsz9 := hb.size
      clear hb hrd hcn8 hcs8 HT8 HB8
      go_wp2_with fail
      refine (reachM_any HT9.out HIT.out (by omega) htl (by omega)).mono ?_
      rintro e w10 ⟨A10, c10, rfl, hrd, hb⟩
      have HU10 := Lib.hid hrd
      have HU9' := Lib.hid (HU9.out.below hb)
      have HB10 : Hid (Below w.heap.size w w10) := Lib.hid (HB9.out.trans (hb.mono (by omega)))
      clear hb hrd hcn9 hcs9 HT9 HB9 HU9
      go_wp2_with fail
      go_loop [95] (fun i => ∃ k : Nat, k ≤ N ∧ i = .int .i64 (k : Int)) (fun i => N - (intOf i).toNat)
      case atStart => exact ⟨0, by omega, rfl⟩
      case round =>
        obtain ⟨k, hk, rfl⟩ := hrel
        by_cases hlk : k < N
        · obtain ⟨b1, o1, rfl, _, hc1⟩ := HU9'.out (by omega)
          have hck := hc1 k hlk
          obtain ⟨b2, o2, rfl, _, hc2⟩ := HU10.out (by omega)
          have hck2 := hc2 k hlk
          rw [HSAME.out k hlk] at hck2
          clear hc1 hc2
          go_wp2
          go_round
          case rel => exact ⟨k + 1, by omega, by go_num⟩
          case measure => simp [intOf]; omega
        · go_wp2
          go_ret
          exact ⟨rfl, HB10.out⟩

theorem law_thin {w : World} {m c : Nat} {n : Int} {A : Option Addr} {es : List (Int × Int)} (hx : RdE w w.heap.size A m es) (hm0 : m ≤ 9223372036854775807) :
    Calls Try.prog 6 #[.agg #[.int .i64 n, .slice A m c]] w fun e w' => e = .returned (.bool true) ∧ Below w.heap.size w w' := by
  by_cases hr : GraphR n es
  · by_cases hsm : m ≤ 100 ∧ n ≤ 20
    · obtain ⟨N, g, rfl, rfl, hi, hN, hl⟩ := graph_nat hr
      by_cases h12 : N ≤ 12
      · by_cases hG : Goes (befG g) N N
        · exact law_thin_go hx hi h12 hsm.1 hG
        · exact law_thin_cyc hx hi h12 hsm.1 hG
      · exact law_thin_big hx hr hsm (by omega)
    · exact law_thin_great hx hr hsm
  · by_cases hm : m ≤ 100
    · by_cases h12 : n ≤ 12
      · exact law_thin_wrong hx hr hm h12
      · exact law_thin_wrongbig hx hr hm (by omega)
    · exact law_thin_long hx hr hm0 hm
end Go.Proofs.Ytinphdphloddmaa
