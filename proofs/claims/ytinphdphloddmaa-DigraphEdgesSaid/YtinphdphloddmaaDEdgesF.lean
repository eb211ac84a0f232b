/-
  THE WALK of the statement DigraphEdges, up to the edge more.
-/
import Derived.Test.YtinphdphloddmaaDEdgesD
import Derived.Test.YtinphdphloddmaaDEdgesE
import Derived.Test.YtinphdphloddmaaDSame
import Derived.Test.YtinphdphloddmaaDPath
namespace Go.Proofs.Ytinphdphloddmaa
open Go.RowKit
open DiP
set_option linter.unusedVariables false

set_option maxRecDepth 100000 in
set_option maxHeartbeats 1000000 in
theorem law_edges_not {w : World} {m c N I J : Nat} {A : Option Addr} {g : List (Nat × Nat)} (hx : RdG w w.heap.size A m g) (hi : InN N g) (hn : N ≤ 12) (hm : m ≤ 100) (hI : I < N) (hJ : J < N) (hG : Goes (befG g) N N) (hno : bt (rchG N g I) J = false) : 
    Calls Try.prog 9 #[.agg #[.int .i64 (N : Int), .slice A m c], .int .i64 (I : Int), .int .i64 (J : Int)] w fun e w' => e = .returned (.bool true) ∧ Below w.heap.size w w' := by
  have HX := Lib.hid hx
  have HI := Lib.hid hi
  have HL := Lib.hid hx.len
  have HR := Lib.hid (graphR_cast hi (show N ≤ 64 by omega) (by rw [hx.len]; omega))
  have HSM : Hid ((decide (m ≤ 100) && decide ((N : Int) ≤ 20)) = true) := Lib.hid (by simp; omega)
  have HSMR : Hid (∀ v, rchG N g v < lim) := Lib.hid (fun v => rchK_small hi (show N ≤ 64 by omega) N v)
  have HG := Lib.hid hG
  have HNO := Lib.hid hno
  clear hx hi hG hno
  go_enter Try.func9, Try.ntmps9
  go_wp2_with fail
  refine (anchor_any _).mono ?_
  rintro e w1 ⟨rfl, hb⟩
  obtain ⟨hcn, hcs⟩ := (boxed_alloc w (N : Int) A m c 24).below hb (by simp)
  have HB1 : Hid (Below w.heap.size w w1) := Lib.hid (((Below.refl _ _).alloc (Nat.le_refl _) _).trans (hb.mono (by simp)))
  have hsz1 : w.heap.size < w1.heap.size := by have := hb.size; simp at this; omega
  clear hb
  go_wp2_with fail
  refine (small_right (HX.out.below HB1.out) HR.out (by omega)).mono ?_
  rintro e w2 ⟨rfl, hb⟩
  rw [HSM.out]
  obtain ⟨hcn2, hcs2⟩ := Boxed.below ⟨hcn, hcs⟩ hb hsz1
  have HB2 : Hid (Below w.heap.size w w2) := Lib.hid (HB1.out.trans (hb.mono (by omega)))
  have hsz2 : w.heap.size < w2.heap.size := Nat.lt_of_lt_of_le hsz1 hb.size
  clear hb hcn hcs hsz1 HB1
  go_wp2_with fail
  refine (reachM_any (HX.out.below HB2.out) HI.out (by omega) (by omega) (by omega)).mono ?_
  rintro e w3 ⟨A1, c1, rfl, hrd, hb⟩
  have HRD1 := Lib.hid hrd
  obtain ⟨hcn3, hcs3⟩ := Boxed.below ⟨hcn2, hcs2⟩ hb hsz2
  have HB3 : Hid (Below w.heap.size w w3) := Lib.hid (HB2.out.trans (hb.mono (by omega)))
  have hsz3 : w.heap.size < w3.heap.size := Nat.lt_of_lt_of_le hsz2 hb.size
  clear hb hrd hcn2 hcs2 hsz2 HB2
  go_wp2_with fail
  refine (levels_any (HX.out.below HB3.out) (by omega) HI.out (by omega) (by omega) HG.out).mono ?_
  rintro e w4 ⟨hb, lb, hlb, rfl, hown⟩
  have HOL := Lib.hid hown
  have HRD1' := Lib.hid (HRD1.out.below hb)
  obtain ⟨hcn4, hcs4⟩ := Boxed.below ⟨hcn3, hcs3⟩ hb hsz3
  have HB4 : Hid (Below w.heap.size w w4) := Lib.hid (HB3.out.trans (hb.mono (by omega)))
  have hsz4 : w.heap.size < w4.heap.size := Nat.lt_of_lt_of_le hsz3 hb.size
  have hlb4 : lb < w4.heap.size := HOL.out.home
  clear hb hown hcn3 hcs3 HB3 HRD1
  go_wp2_with fail
  refine (thin_any (HX.out.below HB4.out) (by omega) HI.out (by omega) (by omega) HG.out).mono ?_
  rintro e w5 ⟨hb, A3, c3, rfl, hown⟩
  have HOT := Lib.hid hown
  have HRD := Lib.hid (HRD1'.out.below hb)
  have HOL5 := Lib.hid (HOL.out.below hb (fun z hz => by cases hz; exact hlb4))
  obtain ⟨hcn5, hcs5⟩ := Boxed.below ⟨hcn4, hcs4⟩ hb hsz4
  have HB5 : Hid (Below w.heap.size w w5) := Lib.hid (HB4.out.trans (hb.mono (by omega)))
  have hsz5 : w.heap.size < w5.heap.size := Nat.lt_of_lt_of_le hsz4 hb.size
  have hlb5 : lb < w5.heap.size := Nat.lt_of_lt_of_le hlb4 hb.size
  clear hb hown hcn4 hcs4 HB4 HRD1' HOL hlb4
  obtain ⟨b1, o1, rfl, hb1, hc1⟩ := HRD.out (by omega)
  have hcI := hc1 I hI
  clear hc1
  go_wp2_with fail
  refine (in_any (HSMR.out I) (by omega)).mono ?_; rintro e w' ⟨rfl, rfl⟩
  rw [HNO.out]
  go_wp2
  go_ret
  exact ⟨rfl, HB5.out⟩
end Go.Proofs.Ytinphdphloddmaa
