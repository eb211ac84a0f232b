/-
  THE WALK of the statement DigraphReach.
-/
import Derived.Test.YtinphdphloddmaaDFrom
import Derived.Test.YtinphdphloddmaaDEdgesC
import Derived.Test.YtinphdphloddmaaDRight
import Derived.Test.YtinphdphloddmaaDReachM
namespace Go.Proofs.Ytinphdphloddmaa
open Go.RowKit
open DiP
set_option linter.unusedVariables false

/-- The nodes below k that are in a set. -/
def DiP.wntK (r : Nat) : Nat → Nat
  | 0 => 0
  | k + 1 => if bt r k = true then add (wntK r k) k else wntK r k
theorem wntK_bt (r : Nat) : ∀ k, ∀ u, bt (wntK r k) u = (decide (u < k) && bt r u) := by
  intro k
  induction k with
  | zero => intro u; simp [wntK, bt_zero]
  | succ k ih =>
    intro u
    unfold wntK
    by_cases h : bt r k = true
    · rw [if_pos h]
      by_cases e : u = k
      · subst e; rw [bt_add, h]; simp
      · rw [bt_add, ih]
        have : (decide (u < k + 1)) = decide (u < k) := by by_cases h2 : u < k <;> simp [h2] <;> omega
        have e' : ¬ k = u := fun h => e h.symm
        rw [this]; simp [e']
    · rw [if_neg h, ih]
      by_cases e : u = k
      · subst e; simp at h; rw [h]; simp
      · have : (decide (u < k + 1)) = decide (u < k) := by by_cases h2 : u < k <;> simp [h2] <;> omega
        rw [this]
theorem wntK_lt {r k : Nat} (h : k ≤ 64) : wntK r k < lim := by
  induction k with
  | zero => show 0 < lim; rw [lim_eq]; exact Nat.two_pow_pos _
  | succ k ih =>
    unfold wntK
    split
    · exact add_lt (ih (by omega)) (by omega)
    · exact ih (by omega)
theorem wntK_rch {g : List (Nat × Nat)} {N a : Nat} (hi : InN N g) (hn : N ≤ 64) (ha : a < N) : wntK (rchG N g a) N = rchG N g a := by
  refine ext64 (wntK_lt hn) (rchK_small hi hn N a) (fun u _ => ?_)
  rw [wntK_bt]
  cases hb : bt (rchG N g a) u with
  | false => simp
  | true => have := ((rch_way hi ha).1 hb).lt hi; simp [this.2]

set_option maxRecDepth 100000 in
set_option maxHeartbeats 1000000 in
theorem law_reach_great {w : World} {m c : Nat} {n : Int} {A : Option Addr} {es : List (Int × Int)} (hx : RdE w w.heap.size A m es) (hr : GraphR n es) (hsm : ¬ (m ≤ 100 ∧ n ≤ 20)) :
    Calls Try.prog 4 #[.agg #[.int .i64 n, .slice A m c]] w fun e w' => e = .returned (.bool true) ∧ Below w.heap.size w w' := by
  have HX := Lib.hid hx
  have HR := Lib.hid hr
  have HSM : Hid ((decide (m ≤ 100) && decide (n ≤ 20)) = false) := Lib.hid (by simp; omega)
  clear hx hr hsm
  go_enter Try.func4, Try.ntmps4
  go_wp2_with fail
  refine (anchor_any _).mono ?_
  rintro e w1 ⟨rfl, hb⟩
  obtain ⟨hcn, hcs⟩ := (boxed_alloc w n A m c 24).below hb (by simp)
  have HB1 : Hid (Below w.heap.size w w1) := Lib.hid (((Below.refl _ _).alloc (Nat.le_refl _) _).trans (hb.mono (by simp)))
  have hsz1 : w.heap.size < w1.heap.size := by have := hb.size; simp at this; omega
  clear hb
  go_wp2_with fail
  refine (small_right (HX.out.below HB1.out) HR.out (by omega)).mono ?_
  rintro e w2 ⟨rfl, hb⟩
  rw [HSM.out]
  obtain ⟨hcn2, hcs2⟩ := Boxed.below ⟨hcn, hcs⟩ hb hsz1
  have HB2 : Hid (Below w.heap.size w w2) := Lib.hid (HB1.out.trans (hb.mono (by omega)))
  have hsz2 : w.heap.size < w2.heap.size := Nat.lt_of_lt_of_le hsz1 hb.size
  clear hb hcn hcs hsz1 HB1
  go_wp2
  go_ret
  exact ⟨rfl, HB2.out⟩
set_option maxRecDepth 100000 in
set_option maxHeartbeats 1000000 in
theorem law_reach_long {w : World} {m c : Nat} {n : Int} {A : Option Addr} {es : List (Int × Int)} (hx : RdE w w.heap.size A m es) (hr : ¬ GraphR n es) (hm0 : m ≤ 9223372036854775807) (hsm : ¬ m ≤ 100) :
    Calls Try.prog 4 #[.agg #[.int .i64 n, .slice A m c]] w fun e w' => e = .returned (.bool true) ∧ Below w.heap.size w w' := by
  have HX := Lib.hid hx
  have HR := Lib.hid hr
  have HSM : Hid (decide (m ≤ 100) = false) := Lib.hid (by simp; omega)
  clear hx hr hsm
  go_enter Try.func4, Try.ntmps4
  go_wp2_with fail
  refine (anchor_any _).mono ?_
  rintro e w1 ⟨rfl, hb⟩
  obtain ⟨hcn, hcs⟩ := (boxed_alloc w n A m c 24).below hb (by simp)
  have HB1 : Hid (Below w.heap.size w w1) := Lib.hid (((Below.refl _ _).alloc (Nat.le_refl _) _).trans (hb.mono (by simp)))
  have hsz1 : w.heap.size < w1.heap.size := by have := hb.size; simp at this; omega
  clear hb
  go_wp2_with fail
  refine (small_wrong (HX.out.below HB1.out) HR.out hm0 (by omega)).mono ?_
  rintro e w2 ⟨rfl, hb⟩
  rw [HSM.out]
  obtain ⟨hcn2, hcs2⟩ := Boxed.below ⟨hcn, hcs⟩ hb hsz1
  have HB2 : Hid (Below w.heap.size w w2) := Lib.hid (HB1.out.trans (hb.mono (by omega)))
  have hsz2 : w.heap.size < w2.heap.size := Nat.lt_of_lt_of_le hsz1 hb.size
  clear hb hcn hcs hsz1 HB1
  go_wp2
  go_ret
  exact ⟨rfl, HB2.out⟩
set_option maxRecDepth 100000 in
set_option maxHeartbeats 1000000 in
theorem law_reach_wrong {w : World} {m c : Nat} {n : Int} {A : Option Addr} {es : List (Int × Int)} (hx : RdE w w.heap.size A m es) (hr : ¬ GraphR n es) (hm : m ≤ 100) :
    Calls Try.prog 4 #[.agg #[.int .i64 n, .slice A m c]] w fun e w' => e = .returned (.bool true) ∧ Below w.heap.size w w' := by
  have HX := Lib.hid hx
  have HR := Lib.hid hr
  have HSM : Hid (decide (m ≤ 100) = true) := Lib.hid (by simp; omega)
  have hm0 : m ≤ 9223372036854775807 := by omega
  clear hx hr
  go_enter Try.func4, Try.ntmps4
  go_wp2_with fail
  refine (anchor_any _).mono ?_
  rintro e w1 ⟨rfl, hb⟩
  obtain ⟨hcn, hcs⟩ := (boxed_alloc w n A m c 24).below hb (by simp)
  have HB1 : Hid (Below w.heap.size w w1) := Lib.hid (((Below.refl _ _).alloc (Nat.le_refl _) _).trans (hb.mono (by simp)))
  have hsz1 : w.heap.size < w1.heap.size := by have := hb.size; simp at this; omega
  clear hb
  go_wp2_with fail
  refine (small_wrong (HX.out.below HB1.out) HR.out hm0 (by omega)).mono ?_
  rintro e w2 ⟨rfl, hb⟩
  rw [HSM.out]
  obtain ⟨hcn2, hcs2⟩ := Boxed.below ⟨hcn, hcs⟩ hb hsz1
  have HB2 : Hid (Below w.heap.size w w2) := Lib.hid (HB1.out.trans (hb.mono (by omega)))
  have hsz2 : w.heap.size < w2.heap.size := Nat.lt_of_lt_of_le hsz1 hb.size
  clear hb hcn hcs hsz1 HB1
  go_wp2_with fail
  refine (reachM_bad (HX.out.below HB2.out) HR.out hm0 (by omega)).mono ?_
  rintro e w3 ⟨rfl, hb⟩
  obtain ⟨hcn3, hcs3⟩ := Boxed.below ⟨hcn2, hcs2⟩ hb hsz2
  have HB3 : Hid (Below w.heap.size w w3) := Lib.hid (HB2.out.trans (hb.mono (by omega)))
  have hsz3 : w.heap.size < w3.heap.size := Nat.lt_of_lt_of_le hsz2 hb.size
  clear hb hcn2 hcs2 hsz2 HB2
  go_wp2_with fail
  refine plain_any.mono ?_
  rintro e w4 ⟨rfl, hb⟩
  obtain ⟨hcn4, hcs4⟩ := Boxed.below ⟨hcn3, hcs3⟩ hb hsz3
  have HB4 : Hid (Below w.heap.size w w4) := Lib.hid (HB3.out.trans (hb.mono (by omega)))
  have hsz4 : w.heap.size < w4.heap.size := Nat.lt_of_lt_of_le hsz3 hb.size
  have HBR4 : Hid (Below w3.heap.size w3 w4) := Lib.hid hb
  clear hb hcn3 hcs3 hsz3 HB3
  go_wp2_with fail
  refine (right_no ((HX.out.below HB4.out).alloc (by omega) _) HR.out hm0 (by simp; omega)).mono ?_
  rintro e w5 ⟨rfl, hb⟩
  obtain ⟨hpn, hps⟩ := (boxed_alloc w4 n A m c 31).below hb (by simp)
  obtain ⟨hcn5, hcs5⟩ := Boxed.below (w := w4.alloc (.cells #[.int .i64 n, .slice A m c] 31)) (g := w.heap.size) (n := n) (A := A) (m := m) (c := c) ⟨(World.cell?_alloc_lt w4 _ _ hsz4).trans hcn4, (World.cell?_alloc_lt w4 _ _ hsz4).trans hcs4⟩ hb (by simp; omega)
  have HB5 : Hid (Below w.heap.size w w5) := Lib.hid ((HB4.out.alloc (by omega) _).trans (hb.mono (by simp; omega)))
  have hsz5 : w4.heap.size < w5.heap.size := by have := hb.size; simp at this; omega
  have HBR5 : Hid (Below w3.heap.size w3 w5) := Lib.hid (HBR4.out.trans (((Below.refl _ _).alloc HBR4.out.size _).trans (hb.mono (by have := HBR4.out.size; simp; omega))))
  clear hb hcn4 hcs4 HB4 HBR4
  go_wp2
  go_ret
  exact ⟨rfl, HB5.out⟩
set_option maxRecDepth 100000 in
set_option maxHeartbeats 1000000 in
theorem law_reach_go {w : World} {m c N : Nat} {A : Option Addr} {g : List (Nat × Nat)} (hx : RdG w w.heap.size A m g) (hi : InN N g) (hn : N ≤ 20) (hm : m ≤ 100) :
    Calls Try.prog 4 #[.agg #[.int .i64 (N : Int), .slice A m c]] w fun e w' => e = .returned (.bool true) ∧ Below w.heap.size w w' := by
  have HX := Lib.hid hx
  have HI := Lib.hid hi
  have HL := Lib.hid hx.len
  have HR := Lib.hid (graphR_cast hi (show N ≤ 64 by omega) (by rw [hx.len]; omega))
  have HSM : Hid ((decide (m ≤ 100) && decide ((N : Int) ≤ 20)) = true) := Lib.hid (by simp; omega)
  clear hx hi 
  go_enter Try.func4, Try.ntmps4
  go_wp2_with fail
  refine (anchor_any _).mono ?_
  rintro e w1 ⟨rfl, hb⟩
  obtain ⟨hcn, hcs⟩ := (boxed_alloc w (N : Int) A m c 24).below hb (by simp)
  have HB1 : Hid (Below w.heap.size w w1) := Lib.hid (((Below.refl _ _).alloc (Nat.le_refl _) _).trans (hb.mono (by simp)))
  have hsz1 : w.heap.size < w1.heap.size := by have := hb.size; simp at this; omega
  clear hb
  go_wp2_with fail
  refine (small_right (HX.out.below HB1.out) HR.out (by omega)).mono ?_
  rintro e w2 ⟨rfl, hb⟩
  rw [HSM.out]
  obtain ⟨hcn2, hcs2⟩ := Boxed.below ⟨hcn, hcs⟩ hb hsz1
  have HB2 : Hid (Below w.heap.size w w2) := Lib.hid (HB1.out.trans (hb.mono (by omega)))
  have hsz2 : w.heap.size < w2.heap.size := Nat.lt_of_lt_of_le hsz1 hb.size
  clear hb hcn hcs hsz1 HB1
  go_wp2_with fail
  refine (reachM_any (HX.out.below HB2.out) HI.out (by omega) (by omega) (by omega)).mono ?_
  rintro e w3 ⟨A1, c1, rfl, hrd, hb⟩
  obtain ⟨hcn3, hcs3⟩ := Boxed.below ⟨hcn2, hcs2⟩ hb hsz2
  have HB3 : Hid (Below w.heap.size w w3) := Lib.hid (HB2.out.trans (hb.mono (by omega)))
  have hsz3 : w.heap.size < w3.heap.size := Nat.lt_of_lt_of_le hsz2 hb.size
  have HRD3 := Lib.hid hrd
  clear hrd
  clear hb hcn2 hcs2 hsz2 HB2
  go_wp2_with fail
  refine plain_any.mono ?_
  rintro e w4 ⟨rfl, hb⟩
  obtain ⟨hcn4, hcs4⟩ := Boxed.below ⟨hcn3, hcs3⟩ hb hsz3
  have HB4 : Hid (Below w.heap.size w w4) := Lib.hid (HB3.out.trans (hb.mono (by omega)))
  have hsz4 : w.heap.size < w4.heap.size := Nat.lt_of_lt_of_le hsz3 hb.size
  have HBR4 : Hid (Below w3.heap.size w3 w4) := Lib.hid hb
  clear hb hcn3 hcs3 hsz3 HB3
  go_wp2_with fail
  refine (right_yes ((HX.out.below HB4.out).alloc (by omega) _) HR.out (by simp; omega)).mono ?_
  rintro e w5 ⟨rfl, hb⟩
  obtain ⟨hpn, hps⟩ := (boxed_alloc w4 (N : Int) A m c 31).below hb (by simp)
  obtain ⟨hcn5, hcs5⟩ := Boxed.below (w := w4.alloc (.cells #[.int .i64 (N : Int), .slice A m c] 31)) (g := w.heap.size) (n := (N : Int)) (A := A) (m := m) (c := c) ⟨(World.cell?_alloc_lt w4 _ _ hsz4).trans hcn4, (World.cell?_alloc_lt w4 _ _ hsz4).trans hcs4⟩ hb (by simp; omega)
  have HB5 : Hid (Below w.heap.size w w5) := Lib.hid ((HB4.out.alloc (by omega) _).trans (hb.mono (by simp; omega)))
  have hsz5 : w4.heap.size < w5.heap.size := by have := hb.size; simp at this; omega
  have HBR5 : Hid (Below w3.heap.size w3 w5) := Lib.hid (HBR4.out.trans (((Below.refl _ _).alloc HBR4.out.size _).trans (hb.mono (by have := HBR4.out.size; simp; omega))))
  clear hb hcn4 hcs4 HB4 HBR4
  have HRD := Lib.hid (HRD3.out.below HBR5.out)
  clear HRD3 HBR5
  have hsw : w.heap.size ≤ w5.heap.size := HB5.out.size
  generalize w4.heap.size = pb at *
  go_wp2_with fail
  go_loopw [44] (fun i wr => ∃ k : Nat, k ≤ N ∧ i = .int .i64 (k : Int) ∧ Hid (Below w5.heap.size w5 wr)) (fun i _ => N - (intOf i).toNat)
  case atStart => exact ⟨0, Nat.zero_le _, rfl, Lib.hid (Below.refl _ _)⟩
  case round =>
    obtain ⟨k, hk, rfl, HW⟩ := hrel
    have hszr := HW.out.size
    by_cases hlt : k < N
    · obtain ⟨b1, o1, rfl, _, hc1⟩ := HRD.out.below HW.out (by omega)
      have hck := hc1 k hlt
      clear hc1
      obtain ⟨hpn', hps'⟩ := Boxed.below ⟨hpn, hps⟩ HW.out hsz5
      have HRW := Lib.hid ((HX.out.below (HB5.out)).below (HW.out.mono hsw))
      have HWN := Lib.hid (wntK_rch HI.out (by omega) hlt)
      have HRL : Hid (rchG N g k < lim) := Lib.hid (rchK_small HI.out (by omega) N k)
      go_wp2_with fail
      refine (from_any HRW.out HI.out (by omega) (by omega) (by omega) hlt).mono ?_
      rintro e w6 ⟨ob, rfl, hown, hb⟩
      have HO := Lib.hid hown
      have HW6 : Hid (Below w5.heap.size w5 w6) := Lib.hid (HW.out.trans (hb.mono (by omega)))
      clear hb hown hpn' hps'
      go_wp2_with fail
      go_loop [8, 53] (fun s i => ∃ j : Nat, j ≤ N ∧ i = .int .i64 (j : Int) ∧ s = .int .u64 ((wntK (rchG N g k) j : Nat) : Int)) (fun _ i => N - (intOf i).toNat)
      case atStart => exact ⟨0, Nat.zero_le _, rfl, rfl⟩
      case round =>
        obtain ⟨j, hj, rfl, rfl⟩ := hrel
        by_cases hlj : j < N
        · have hbl := HO.out.cell (j := j) hlj
          rw [blL_bx _ hlj] at hbl
          have hj64 : (j : Int) < 64 := by omega
          have HOR := Lib.hid (or_spell (s := wntK (rchG N g k) j) (v := j) (wntK_lt (by omega)) (by omega))
          have HOR2 := Lib.hid (or_spell2 (s := wntK (rchG N g k) j) (v := j) (wntK_lt (by omega)) (by omega))
          cases hbt : bt (rchG N g k) j with
          | true =>
            rw [hbt] at hbl
            have HS : Hid (wntK (rchG N g k) (j + 1) = add (wntK (rchG N g k) j) j) := Lib.hid (by show (if _ then _ else _) = _; rw [if_pos hbt])
            clear hbt
            go_wp2
            go_round
            case rel => exact ⟨j + 1, by omega, by go_num, by rw [HS.out]; first | rw [HOR2.out] | rw [HOR.out]⟩
            case measure => simp [intOf]; omega
          | false =>
            rw [hbt] at hbl
            have HS : Hid (wntK (rchG N g k) (j + 1) = wntK (rchG N g k) j) := Lib.hid (by show (if _ then _ else _) = _; rw [hbt]; rfl)
            clear hbt
            go_wp2
            go_round
            case rel => exact ⟨j + 1, by omega, by go_num, by rw [HS.out]⟩
            case measure => simp [intOf]; omega
        · obtain rfl : j = N := by omega
          rw [HWN.out]
          go_wp2
          go_roundw
          case rel => exact ⟨k + 1, by omega, by go_num, HW6⟩
          case measure => simp [intOf]; omega
    · obtain rfl : k = N := by omega
      go_wp2
      go_ret
      exact ⟨rfl, HB5.out.trans (HW.out.mono (by omega))⟩

theorem law_reach {w : World} {m c : Nat} {n : Int} {A : Option Addr} {es : List (Int × Int)} (hx : RdE w w.heap.size A m es) (hm0 : m ≤ 9223372036854775807) :
    Calls Try.prog 4 #[.agg #[.int .i64 n, .slice A m c]] w fun e w' => e = .returned (.bool true) ∧ Below w.heap.size w w' := by
  by_cases hr : GraphR n es
  · by_cases hsm : m ≤ 100 ∧ n ≤ 20
    · obtain ⟨N, g, rfl, rfl, hi, hN, hl⟩ := graph_nat hr
      exact law_reach_go hx hi (by omega) hsm.1
    · exact law_reach_great hx hr hsm
  · by_cases hm : m ≤ 100
    · exact law_reach_wrong hx hr hm
    · exact law_reach_long hx hr hm0 hm
end Go.Proofs.Ytinphdphloddmaa
