/-
  THE WALK of the statement DigraphOrder.
-/
import Derived.Test.YtinphdphloddmaaDCirc
import Derived.Test.YtinphdphloddmaaDRefLev
import Derived.Test.YtinphdphloddmaaDEdgesC
import Derived.Test.YtinphdphloddmaaDRight
import Derived.Test.YtinphdphloddmaaDLevLaw
import Derived.Test.YtinphdphloddmaaDSame
import Derived.Test.YtinphdphloddmaaDAnchor
namespace Go.Proofs.Ytinphdphloddmaa
open Go.RowKit
open DiP
set_option linter.unusedVariables false

set_option maxRecDepth 100000 in
set_option maxHeartbeats 1000000 in
theorem law_order_great {w : World} {m c : Nat} {n : Int} {A : Option Addr} {es : List (Int × Int)} (hx : RdE w w.heap.size A m es) (hr : GraphR n es) (hsm : ¬ (m ≤ 100 ∧ n ≤ 20)) :
    Calls Try.prog 3 #[.agg #[.int .i64 n, .slice A m c]] w fun e w' => e = .returned (.bool true) ∧ Below w.heap.size w w' := by
  have HX := Lib.hid hx
  have HR := Lib.hid hr
  have HSM : Hid ((decide (m ≤ 100) && decide (n ≤ 20)) = false) := Lib.hid (by simp; omega)
  clear hx hr hsm
  go_enter Try.func3, Try.ntmps3
  go_wp2_with fail
  refine (anchor_any _).mono ?_
  rintro e w1 ⟨rfl, hb⟩
  obtain ⟨hcn, hcs⟩ := (boxed_alloc w n A m c 24).below hb (by simp)
  have HB1 : Hid (Below w.heap.size w w1) := Lib.hid (((Below.refl _ _).alloc (Nat.le_refl _) _).trans (hb.mono (by simp)))
  have hsz1 : w.heap.size < w1.heap.size := by have := hb.size; simp at this; omega
  clear hb
  go_wp2_with fail
  refine (small_right (HX.out.below HB1.out) HR.out (by omega)).mono ?_
  rintro e w2 ⟨rfl, hb⟩
  rw [HSM.out]
  obtain ⟨hcn2, hcs2⟩ := Boxed.below ⟨hcn, hcs⟩ hb hsz1
  have HB2 : Hid (Below w.heap.size w w2) := Lib.hid (HB1.out.trans (hb.mono (by omega)))
  have hsz2 : w.heap.size < w2.heap.size := Nat.lt_of_lt_of_le hsz1 hb.size
  clear hb hcn hcs hsz1 HB1
  go_wp2
  go_ret
  exact ⟨rfl, HB2.out⟩
set_option maxRecDepth 100000 in
set_option maxHeartbeats 1000000 in
theorem law_order_long {w : World} {m c : Nat} {n : Int} {A : Option Addr} {es : List (Int × Int)} (hx : RdE w w.heap.size A m es) (hr : ¬ GraphR n es) (hm0 : m ≤ 9223372036854775807) (hsm : ¬ m ≤ 100) :
    Calls Try.prog 3 #[.agg #[.int .i64 n, .slice A m c]] w fun e w' => e = .returned (.bool true) ∧ Below w.heap.size w w' := by
  have HX := Lib.hid hx
  have HR := Lib.hid hr
  have HSM : Hid (decide (m ≤ 100) = false) := Lib.hid (by simp; omega)
  clear hx hr hsm
  go_enter Try.func3, Try.ntmps3
  go_wp2_with fail
  refine (anchor_any _).mono ?_
  rintro e w1 ⟨rfl, hb⟩
  obtain ⟨hcn, hcs⟩ := (boxed_alloc w n A m c 24).below hb (by simp)
  have HB1 : Hid (Below w.heap.size w w1) := Lib.hid (((Below.refl _ _).alloc (Nat.le_refl _) _).trans (hb.mono (by simp)))
  have hsz1 : w.heap.size < w1.heap.size := by have := hb.size; simp at this; omega
  clear hb
  go_wp2_with fail
  refine (small_wrong (HX.out.below HB1.out) HR.out hm0 (by omega)).mono ?_
  rintro e w2 ⟨rfl, hb⟩
  rw [HSM.out]
  obtain ⟨hcn2, hcs2⟩ := Boxed.below ⟨hcn, hcs⟩ hb hsz1
  have HB2 : Hid (Below w.heap.size w w2) := Lib.hid (HB1.out.trans (hb.mono (by omega)))
  have hsz2 : w.heap.size < w2.heap.size := Nat.lt_of_lt_of_le hsz1 hb.size
  clear hb hcn hcs hsz1 HB1
  go_wp2
  go_ret
  exact ⟨rfl, HB2.out⟩
set_option maxRecDepth 100000 in
set_option maxHeartbeats 1000000 in
theorem law_order_wrong {w : World} {m c : Nat} {n : Int} {A : Option Addr} {es : List (Int × Int)} (hx : RdE w w.heap.size A m es) (hr : ¬ GraphR n es) (hm : m ≤ 100) :
    Calls Try.prog 3 #[.agg #[.int .i64 n, .slice A m c]] w fun e w' => e = .returned (.bool true) ∧ Below w.heap.size w w' := by
  have HX := Lib.hid hx
  have HR := Lib.hid hr
  have HSM : Hid (decide (m ≤ 100) = true) := Lib.hid (by simp; omega)
  have hm0 : m ≤ 9223372036854775807 := by omega
  clear hx hr
  go_enter Try.func3, Try.ntmps3
  go_wp2_with fail
  refine (anchor_any _).mono ?_
  rintro e w1 ⟨rfl, hb⟩
  obtain ⟨hcn, hcs⟩ := (boxed_alloc w n A m c 24).below hb (by simp)
  have HB1 : Hid (Below w.heap.size w w1) := Lib.hid (((Below.refl _ _).alloc (Nat.le_refl _) _).trans (hb.mono (by simp)))
  have hsz1 : w.heap.size < w1.heap.size := by have := hb.size; simp at this; omega
  clear hb
  go_wp2_with fail
  refine (small_wrong (HX.out.below HB1.out) HR.out hm0 (by omega)).mono ?_
  rintro e w2 ⟨rfl, hb⟩
  rw [HSM.out]
  obtain ⟨hcn2, hcs2⟩ := Boxed.below ⟨hcn, hcs⟩ hb hsz1
  have HB2 : Hid (Below w.heap.size w w2) := Lib.hid (HB1.out.trans (hb.mono (by omega)))
  have hsz2 : w.heap.size < w2.heap.size := Nat.lt_of_lt_of_le hsz1 hb.size
  clear hb hcn hcs hsz1 HB1
  go_wp2_with fail
  refine (order_bad (HX.out.below HB2.out) HR.out hm0 (by omega)).mono ?_
  rintro e w3 ⟨rfl, hb⟩
  obtain ⟨hcn3, hcs3⟩ := Boxed.below ⟨hcn2, hcs2⟩ hb hsz2
  have HB3 : Hid (Below w.heap.size w w3) := Lib.hid (HB2.out.trans (hb.mono (by omega)))
  have hsz3 : w.heap.size < w3.heap.size := Nat.lt_of_lt_of_le hsz2 hb.size
  clear hb hcn2 hcs2 hsz2 HB2
  go_wp2_with fail
  refine (levels_bad (HX.out.below HB3.out) HR.out hm0 (by omega)).mono ?_
  rintro e w4 ⟨rfl, hb⟩
  obtain ⟨hcn4, hcs4⟩ := Boxed.below ⟨hcn3, hcs3⟩ hb hsz3
  have HB4 : Hid (Below w.heap.size w w4) := Lib.hid (HB3.out.trans (hb.mono (by omega)))
  have hsz4 : w.heap.size < w4.heap.size := Nat.lt_of_lt_of_le hsz3 hb.size
  clear hb hcn3 hcs3 hsz3 HB3
  go_wp2_with fail
  refine plain_any.mono ?_
  rintro e w5 ⟨rfl, hb⟩
  obtain ⟨hcn5, hcs5⟩ := Boxed.below ⟨hcn4, hcs4⟩ hb hsz4
  have HB5 : Hid (Below w.heap.size w w5) := Lib.hid (HB4.out.trans (hb.mono (by omega)))
  have hsz5 : w.heap.size < w5.heap.size := Nat.lt_of_lt_of_le hsz4 hb.size
  have HBR5 : Hid (Below w4.heap.size w4 w5) := Lib.hid hb
  clear hb hcn4 hcs4 hsz4 HB4
  go_wp2_with fail
  refine (right_no ((HX.out.below HB5.out).alloc (by omega) _) HR.out hm0 (by simp; omega)).mono ?_
  rintro e w6 ⟨rfl, hb⟩
  obtain ⟨hpn, hps⟩ := (boxed_alloc w5 n A m c 31).below hb (by simp)
  obtain ⟨hcn6, hcs6⟩ := Boxed.below (w := w5.alloc (.cells #[.int .i64 n, .slice A m c] 31)) (g := w.heap.size) (n := n) (A := A) (m := m) (c := c) ⟨(World.cell?_alloc_lt w5 _ _ hsz5).trans hcn5, (World.cell?_alloc_lt w5 _ _ hsz5).trans hcs5⟩ hb (by simp; omega)
  have HB6 : Hid (Below w.heap.size w w6) := Lib.hid ((HB5.out.alloc (by omega) _).trans (hb.mono (by simp; omega)))
  have hsz6 : w5.heap.size < w6.heap.size := by have := hb.size; simp at this; omega
  have HBR6 : Hid (Below w4.heap.size w4 w6) := Lib.hid (HBR5.out.trans (((Below.refl _ _).alloc HBR5.out.size _).trans (hb.mono (by have := HBR5.out.size; simp; omega))))
  clear hb hcn5 hcs5 HB5 HBR5
  go_wp2_with fail
  refine (check_no (HX.out.below HB6.out) HR.out hm0 (by omega)).mono ?_
  rintro e w7 ⟨rfl, hb⟩
  have HB7 : Hid (Below w.heap.size w w7) := Lib.hid (HB6.out.trans (hb.mono (by omega)))
  clear hb
  go_wp2
  go_ret
  exact ⟨rfl, HB7.out⟩
set_option maxRecDepth 100000 in
set_option maxHeartbeats 1000000 in
theorem law_order_cyc {w : World} {m c N : Nat} {A : Option Addr} {g : List (Nat × Nat)} (hx : RdG w w.heap.size A m g) (hi : InN N g) (hn : N ≤ 20) (hm : m ≤ 100) (hG : ¬ Goes (befG g) N N) :
    Calls Try.prog 3 #[.agg #[.int .i64 (N : Int), .slice A m c]] w fun e w' => e = .returned (.bool true) ∧ Below w.heap.size w w' := by
  have HX := Lib.hid hx
  have HI := Lib.hid hi
  have HL := Lib.hid hx.len
  have HR := Lib.hid (graphR_cast hi (show N ≤ 64 by omega) (by rw [hx.len]; omega))
  have HSM : Hid ((decide (m ≤ 100) && decide ((N : Int) ≤ 20)) = true) := Lib.hid (by simp; omega)
  have HG := Lib.hid hG
  clear hx hi hG
  go_enter Try.func3, Try.ntmps3
  go_wp2_with fail
  refine (anchor_any _).mono ?_
  rintro e w1 ⟨rfl, hb⟩
  obtain ⟨hcn, hcs⟩ := (boxed_alloc w (N : Int) A m c 24).below hb (by simp)
  have HB1 : Hid (Below w.heap.size w w1) := Lib.hid (((Below.refl _ _).alloc (Nat.le_refl _) _).trans (hb.mono (by simp)))
  have hsz1 : w.heap.size < w1.heap.size := by have := hb.size; simp at this; omega
  clear hb
  go_wp2_with fail
  refine (small_right (HX.out.below HB1.out) HR.out (by omega)).mono ?_
  rintro e w2 ⟨rfl, hb⟩
  rw [HSM.out]
  obtain ⟨hcn2, hcs2⟩ := Boxed.below ⟨hcn, hcs⟩ hb hsz1
  have HB2 : Hid (Below w.heap.size w w2) := Lib.hid (HB1.out.trans (hb.mono (by omega)))
  have hsz2 : w.heap.size < w2.heap.size := Nat.lt_of_lt_of_le hsz1 hb.size
  clear hb hcn hcs hsz1 HB1
  go_wp2_with fail
  refine (order_any (HX.out.below HB2.out) HI.out (by omega) (by omega) (by omega)).mono ?_
  rintro e w3 ⟨hb, ho⟩
  obtain rfl : e = .returned (.tuple #[.slice none 0 0, .int .i64 21]) := by
    rcases ho with ⟨h, _⟩ | ⟨_, h⟩
    · exact absurd h HG.out
    · exact h
  clear ho
  obtain ⟨hcn3, hcs3⟩ := Boxed.below ⟨hcn2, hcs2⟩ hb hsz2
  have HB3 : Hid (Below w.heap.size w w3) := Lib.hid (HB2.out.trans (hb.mono (by omega)))
  have hsz3 : w.heap.size < w3.heap.size := Nat.lt_of_lt_of_le hsz2 hb.size
  clear hb hcn2 hcs2 hsz2 HB2
  go_wp2_with fail
  refine (levels_no (HX.out.below HB3.out) HI.out (by omega) (by omega) (by omega) HG.out).mono ?_
  rintro e w4 ⟨rfl, hb⟩
  obtain ⟨hcn4, hcs4⟩ := Boxed.below ⟨hcn3, hcs3⟩ hb hsz3
  have HB4 : Hid (Below w.heap.size w w4) := Lib.hid (HB3.out.trans (hb.mono (by omega)))
  have hsz4 : w.heap.size < w4.heap.size := Nat.lt_of_lt_of_le hsz3 hb.size
  clear hb hcn3 hcs3 hsz3 HB3
  go_wp2_with fail
  refine plain_any.mono ?_
  rintro e w5 ⟨rfl, hb⟩
  obtain ⟨hcn5, hcs5⟩ := Boxed.below ⟨hcn4, hcs4⟩ hb hsz4
  have HB5 : Hid (Below w.heap.size w w5) := Lib.hid (HB4.out.trans (hb.mono (by omega)))
  have hsz5 : w.heap.size < w5.heap.size := Nat.lt_of_lt_of_le hsz4 hb.size
  have HBR5 : Hid (Below w4.heap.size w4 w5) := Lib.hid hb
  clear hb hcn4 hcs4 hsz4 HB4
  go_wp2_with fail
  refine (right_yes ((HX.out.below HB5.out).alloc (by omega) _) HR.out (by simp; omega)).mono ?_
  rintro e w6 ⟨rfl, hb⟩
  obtain ⟨hpn, hps⟩ := (boxed_alloc w5 (N : Int) A m c 31).below hb (by simp)
  obtain ⟨hcn6, hcs6⟩ := Boxed.below (w := w5.alloc (.cells #[.int .i64 (N : Int), .slice A m c] 31)) (g := w.heap.size) (n := (N : Int)) (A := A) (m := m) (c := c) ⟨(World.cell?_alloc_lt w5 _ _ hsz5).trans hcn5, (World.cell?_alloc_lt w5 _ _ hsz5).trans hcs5⟩ hb (by simp; omega)
  have HB6 : Hid (Below w.heap.size w w6) := Lib.hid ((HB5.out.alloc (by omega) _).trans (hb.mono (by simp; omega)))
  have hsz6 : w5.heap.size < w6.heap.size := by have := hb.size; simp at this; omega
  have HBR6 : Hid (Below w4.heap.size w4 w6) := Lib.hid (HBR5.out.trans (((Below.refl _ _).alloc HBR5.out.size _).trans (hb.mono (by have := HBR5.out.size; simp; omega))))
  clear hb hcn5 hcs5 HB5 HBR5
  go_wp2_with fail
  refine (circle_any (HX.out.below HB6.out) HI.out (by omega) (by omega) (by omega) true ⟨fun _ => HG.out, fun _ => rfl⟩).mono ?_
  rintro e w7 ⟨rfl, hb⟩
  obtain ⟨hcn7, hcs7⟩ := Boxed.below ⟨hcn6, hcs6⟩ hb (by omega)
  have HB7 : Hid (Below w.heap.size w w7) := Lib.hid (HB6.out.trans (hb.mono (by omega)))
  have hsz7 := hb.size
  clear hb hcn6 hcs6
  go_wp2_with fail
  refine (check_yes (HX.out.below HB7.out) HR.out (by omega)).mono ?_
  rintro e w8 ⟨rfl, hb⟩
  have HB8 : Hid (Below w.heap.size w w8) := Lib.hid (HB7.out.trans (hb.mono (by omega)))
  clear hb
  go_wp2
  go_ret
  exact ⟨rfl, HB8.out⟩
set_option maxRecDepth 100000 in
set_option maxHeartbeats 1000000 in
theorem law_order_go {w : World} {m c N : Nat} {A : Option Addr} {g : List (Nat × Nat)} (hx : RdG w w.heap.size A m g) (hi : InN N g) (hn : N ≤ 20) (hm : m ≤ 100) (hG : Goes (befG g) N N) :
    Calls Try.prog 3 #[.agg #[.int .i64 (N : Int), .slice A m c]] w fun e w' => e = .returned (.bool true) ∧ Below w.heap.size w w' := by
  have HX := Lib.hid hx
  have HI := Lib.hid hi
  have HL := Lib.hid hx.len
  have HR := Lib.hid (graphR_cast hi (show N ≤ 64 by omega) (by rw [hx.len]; omega))
  have HSM : Hid ((decide (m ≤ 100) && decide ((N : Int) ≤ 20)) = true) := Lib.hid (by simp; omega)
  have HG := Lib.hid hG
  clear hx hi hG
  go_enter Try.func3, Try.ntmps3
  go_wp2_with fail
  refine (anchor_any _).mono ?_
  rintro e w1 ⟨rfl, hb⟩
  obtain ⟨hcn, hcs⟩ := (boxed_alloc w (N : Int) A m c 24).below hb (by simp)
  have HB1 : Hid (Below w.heap.size w w1) := Lib.hid (((Below.refl _ _).alloc (Nat.le_refl _) _).trans (hb.mono (by simp)))
  have hsz1 : w.heap.size < w1.heap.size := by have := hb.size; simp at this; omega
  clear hb
  go_wp2_with fail
  refine (small_right (HX.out.below HB1.out) HR.out (by omega)).mono ?_
  rintro e w2 ⟨rfl, hb⟩
  rw [HSM.out]
  obtain ⟨hcn2, hcs2⟩ := Boxed.below ⟨hcn, hcs⟩ hb hsz1
  have HB2 : Hid (Below w.heap.size w w2) := Lib.hid (HB1.out.trans (hb.mono (by omega)))
  have hsz2 : w.heap.size < w2.heap.size := Nat.lt_of_lt_of_le hsz1 hb.size
  clear hb hcn hcs hsz1 HB1
  go_wp2_with fail
  refine (order_any (HX.out.below HB2.out) HI.out (by omega) (by omega) (by omega)).mono ?_
  rintro e w3 ⟨hb, ho⟩
  have HO1 : ∃ A1 c1, Hid (e = .returned (.tuple #[.slice A1 N c1, .int .i64 0])) ∧ Hid (Rd w3 w3.heap.size A1 N (ints (ordA (befG g) N))) := by
    rcases ho with ⟨_, A', c', h, hown⟩ | ⟨h, _⟩
    · obtain ⟨A2, c2, hv, hrd⟩ := hown.shape
      injection hv with h1 h2 h3
      subst h1
      exact ⟨A', c', Lib.hid h, Lib.hid hrd⟩
    · exact absurd HG.out h
  clear ho
  obtain ⟨A1, c1, he, HO⟩ := HO1
  obtain rfl := he.out
  clear he
  obtain ⟨hcn3, hcs3⟩ := Boxed.below ⟨hcn2, hcs2⟩ hb hsz2
  have HB3 : Hid (Below w.heap.size w w3) := Lib.hid (HB2.out.trans (hb.mono (by omega)))
  have hsz3 : w.heap.size < w3.heap.size := Nat.lt_of_lt_of_le hsz2 hb.size
  clear hb hcn2 hcs2 hsz2 HB2
  go_wp2_with fail
  refine (levels_any (HX.out.below HB3.out) (by omega) HI.out (by omega) (by omega) HG.out).mono ?_
  rintro e w4 ⟨hb, lb, hlb, rfl, hown⟩
  obtain ⟨A2, c2, hv2, hrd2⟩ := hown.shape
  injection hv2 with h1 h2 h3
  subst h1 h3
  have HV := Lib.hid hrd2
  have HO4 := Lib.hid (HO.out.below hb)
  obtain ⟨hcn4, hcs4⟩ := Boxed.below ⟨hcn3, hcs3⟩ hb hsz3
  have HB4 : Hid (Below w.heap.size w w4) := Lib.hid (HB3.out.trans (hb.mono (by omega)))
  have hsz4 : w.heap.size < w4.heap.size := Nat.lt_of_lt_of_le hsz3 hb.size
  have hsz34 := hb.size
  clear hb hown hrd2 hcn3 hcs3 HB3 HO h2
  go_wp2_with fail
  refine plain_any.mono ?_
  rintro e w5 ⟨rfl, hb⟩
  obtain ⟨hcn5, hcs5⟩ := Boxed.below ⟨hcn4, hcs4⟩ hb hsz4
  have HB5 : Hid (Below w.heap.size w w5) := Lib.hid (HB4.out.trans (hb.mono (by omega)))
  have hsz5 : w.heap.size < w5.heap.size := Nat.lt_of_lt_of_le hsz4 hb.size
  have HBR5 : Hid (Below w4.heap.size w4 w5) := Lib.hid hb
  clear hb hcn4 hcs4 HB4
  go_wp2_with fail
  refine (right_yes ((HX.out.below HB5.out).alloc (by omega) _) HR.out (by simp; omega)).mono ?_
  rintro e w6 ⟨rfl, hb⟩
  obtain ⟨hpn, hps⟩ := (boxed_alloc w5 (N : Int) A m c 31).below hb (by simp)
  obtain ⟨hcn6, hcs6⟩ := Boxed.below (w := w5.alloc (.cells #[.int .i64 (N : Int), .slice A m c] 31)) (g := w.heap.size) (n := (N : Int)) (A := A) (m := m) (c := c) ⟨(World.cell?_alloc_lt w5 _ _ hsz5).trans hcn5, (World.cell?_alloc_lt w5 _ _ hsz5).trans hcs5⟩ hb (by simp; omega)
  have HB6 : Hid (Below w.heap.size w w6) := Lib.hid ((HB5.out.alloc (by omega) _).trans (hb.mono (by simp; omega)))
  have hsz6 : w5.heap.size < w6.heap.size := by have := hb.size; simp at this; omega
  have HBR6 : Hid (Below w4.heap.size w4 w6) := Lib.hid (HBR5.out.trans (((Below.refl _ _).alloc HBR5.out.size _).trans (hb.mono (by have := HBR5.out.size; simp; omega))))
  clear hb hcn5 hcs5 HB5 HBR5
  have HO6 := Lib.hid (HO4.out.below (HBR6.out.mono hsz34))
  have HV6 := Lib.hid (HV.out.below HBR6.out)
  have hsz46 := HBR6.out.size
  clear HO4 HV HBR6
  go_wp2_with fail
  refine (circle_any (HX.out.below HB6.out) HI.out (by omega) (by omega) (by omega) false ⟨fun h => (by cases h), fun h => absurd HG.out h⟩).mono ?_
  rintro e w7 ⟨rfl, hb⟩
  obtain ⟨hpn7, hps7⟩ := Boxed.below ⟨hpn, hps⟩ hb hsz6
  have HO7 := Lib.hid (HO6.out.below (hb.mono (by omega)))
  have HV7 := Lib.hid (HV6.out.below (hb.mono (by omega)))
  have HB7 : Hid (Below w.heap.size w w7) := Lib.hid (HB6.out.trans (hb.mono (by omega)))
  have hsz7 := hb.size
  clear hb hpn hps hcn6 hcs6 HO6 HV6 HB6
  go_wp2_with fail
  refine (refOrder_any (HX.out.below HB7.out) HI.out (by omega) (by omega) (by omega) HG.out).mono ?_
  rintro e w8 ⟨v8, rfl, hown, hb⟩
  obtain ⟨A8, c8, rfl, hrd8⟩ := hown.shape
  have HR8 := Lib.hid hrd8
  obtain ⟨hpn8, hps8⟩ := Boxed.below ⟨hpn7, hps7⟩ hb (by omega)
  have HO8 := Lib.hid (HO7.out.below (hb.mono (by omega)))
  have HV8 := Lib.hid (HV7.out.below (hb.mono (by omega)))
  have HB8 : Hid (Below w.heap.size w w8) := Lib.hid (HB7.out.trans (hb.mono (by omega)))
  have hsz8 := hb.size
  clear hb hown hrd8 hpn7 hps7 HO7 HV7 HB7
  go_wp2_with fail
  refine (same_yes HO8.out HR8.out (by omega)).mono ?_
  rintro e w' ⟨rfl, rfl⟩
  go_wp2_with fail
  refine (refLevels_any (HX.out.below HB8.out) HI.out (by omega) (by omega) (by omega) HG.out).mono ?_
  rintro e w9 ⟨lb9, rfl, hown, hb⟩
  obtain ⟨A9, c9, hv9, hrd9⟩ := hown.shape
  injection hv9 with h1 h2 h3
  subst h1 h3
  have HR9 := Lib.hid hrd9
  have HV9 := Lib.hid (HV8.out.below (hb.mono (by omega)))
  have HB9 : Hid (Below w.heap.size w w9) := Lib.hid (HB8.out.trans (hb.mono (by omega)))
  clear hb hown hrd9 hpn8 hps8 HO8 HV8 HB8 h2
  go_wp2_with fail
  refine (same_yes HV9.out HR9.out (by omega)).mono ?_
  rintro e w' ⟨rfl, rfl⟩
  go_wp2
  go_ret
  exact ⟨rfl, HB9.out⟩

theorem law_order {w : World} {m c : Nat} {n : Int} {A : Option Addr} {es : List (Int × Int)} (hx : RdE w w.heap.size A m es) (hm0 : m ≤ 9223372036854775807) :
    Calls Try.prog 3 #[.agg #[.int .i64 n, .slice A m c]] w fun e w' => e = .returned (.bool true) ∧ Below w.heap.size w w' := by
  by_cases hr : GraphR n es
  · by_cases hsm : m ≤ 100 ∧ n ≤ 20
    · obtain ⟨N, g, rfl, rfl, hi, hN, hl⟩ := graph_nat hr
      by_cases hG : Goes (befG g) N N
      · exact law_order_go hx hi (by omega) hsm.1 hG
      · exact law_order_cyc hx hi (by omega) hsm.1 hG
    · exact law_order_great hx hr hsm
  · by_cases hm : m ≤ 100
    · exact law_order_wrong hx hr hm
    · exact law_order_long hx hr hm0 hm
end Go.Proofs.Ytinphdphloddmaa
