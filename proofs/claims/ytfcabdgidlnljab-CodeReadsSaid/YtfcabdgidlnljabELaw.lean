/-
  CodeNumbers and CodeReads, over this translation.
-/
import Derived.Test.YtfcabdgidlnljabEEq
import Derived.Test.YtfcabdgidlnljabYRow
namespace Go.Proofs.Ytfcabdgidlnljab
open Go.RowKit
open ByteP CodeP
set_option linter.unusedVariables false
set_option maxRecDepth 10000

theorem capA_own {w : World} {base n c : Nat} {A : Option Addr} {xs : List Int} (h : OwnY w base (.slice A n c) n xs) : CapA A n c := by
  rcases h.2 with ⟨h0, h00⟩ | ⟨g, cap, cur, hv, _, _, hnc, hcm, _⟩
  · injection h0 with e1 e2 e3
    exact .inl ⟨e1, e2, e3⟩
  · injection hv with e1 e2 e3
    subst e3
    exact .inr ⟨_, e1, hnc, by unfold maxLen at hcm; omega⟩
theorem rdY_own {w : World} {base n c : Nat} {A : Option Addr} {xs : List Int} (h : OwnY w base (.slice A n c) n xs) : RdY w w.heap.size A n xs := RdY.of_own h
theorem good_list : ∀ {l : List Int}, bads l = false → ∃ ln : List Nat, l = casts ln ∧ (∀ n ∈ ln, n ≤ 1099511627776) ∧ outs l = encs ln
  | [], _ => ⟨[], rfl, (fun n h => by simp at h), rfl⟩
  | x :: l, h => by
    have e : bads (x :: l) = (!okI x || bads l) := by simp [bads]
    rw [e, Bool.or_eq_false_iff] at h
    obtain ⟨ln, h1, h2, h3⟩ := good_list h.2
    have hok : okI x = true := by simpa using h.1
    have hx := of_decide_eq_true hok
    refine ⟨x.toNat :: ln, ?_, ?_, ?_⟩
    · rw [h1]; simp [casts]; omega
    · intro n hn
      rcases List.mem_cons.1 hn with e | e
      · omega
      · exact h2 n e
    · have e2 : outs (x :: l) = outI x ++ outs l := by simp [outs]
      rw [e2, h3, encs_cons]
      congr 1
      unfold outI
      rw [if_pos hok]
theorem casts_good : ∀ {ln : List Nat}, (∀ n ∈ ln, n ≤ 1099511627776) → bads (casts ln) = false ∧ outs (casts ln) = encs ln
  | [], _ => ⟨rfl, rfl⟩
  | n :: ln, h => by
    obtain ⟨h1, h2⟩ := casts_good (ln := ln) (fun m hm => h m (by simp [hm]))
    have hn := h n (by simp)
    have e : casts (n :: ln) = (n : Int) :: casts ln := rfl
    have e1 : bads ((n : Int) :: casts ln) = (!okI n || bads (casts ln)) := by simp [bads]
    have e2 : outs ((n : Int) :: casts ln) = outI n ++ outs (casts ln) := by simp [outs]
    rw [e, e1, e2, h1, h2, okI_nat hn, outI_nat hn, encs_cons]
    exact ⟨rfl, rfl⟩
theorem all_anchor : all [1, 128, 0] = .inl 12 := by decide
theorem enc_anchor : enc 2 ++ outs [1, 128] = [2, 1, 128, 1] := by
  have h : ([1, 128] : List Int) = casts [1, 128] := rfl
  rw [h, (casts_good (ln := [1, 128]) (by intro n hn; simp at hn; omega)).2, encs_cons, encs_cons, encs_nil, enc_lt (by omega), enc_lt (by omega), enc_ge (by omega), enc_lt (by omega)]
  rfl
set_option maxHeartbeats 1000000 in
theorem anchorE_any (w : World) : Calls Try.prog 6 #[] w fun e w' => e = .returned (.bool true) ∧ Below w.heap.size w w' := by
  have HO1 := Lib.hid (Own.lit w w.heap.size [1, 128] (Nat.le_refl _) (by simp))
  have HB0 : Hid (Below w.heap.size w (w.alloc (.cells #[.int .i64 1, .int .i64 128] 3))) := Lib.hid ((Below.refl _ w).alloc (Nat.le_refl _) _)
  have HRD : Hid (Rd (w.alloc (.cells #[.int .i64 1, .int .i64 128] 3)) (w.heap.size + 1) (some ⟨w.heap.size, 0, none⟩) 2 [1, 128]) := Lib.hid (by
    have := Rd.of_own HO1.out
    simpa using this)
  have HP := Lib.hid (putN_any (c := 2) HRD.out (by simp) (by omega))
  clear HO1
  go_enter Try.func6, Try.ntmps6
  go_wp2_with fail
  refine HP.out.mono ?_
  rintro e w1 ⟨⟨A1, n1, c1, er, rfl, hend⟩, hb1⟩
  have hbad : bads [1, 128] = false := by decide
  rw [hbad] at hend
  obtain ⟨rfl, hown⟩ := hend.2 rfl
  rw [enc_anchor] at hown
  obtain ⟨A1', c1', e1, _⟩ := OwnY.shape hown
  injection e1 with e1 e2 e3
  subst e1 e2 e3
  have HO := Lib.hid hown
  have HB1 : Hid (Below w.heap.size w w1) := Lib.hid (HB0.out.trans (hb1.mono (by simp)))
  clear hown hend hb1 hbad HP
  have hz1 := HB1.out.size
  have HL := Lib.hid (OwnY.lit w1 w1.heap.size [1, 128, 0] (Nat.le_refl _) (by simp))
  have HG := Lib.hid (getN_any (rdY_own HL.out) (capA_own HL.out) (Nat.le_refl _) (by intro i; match i with | 0 => decide | 1 => decide | 2 => decide | i + 3 => simp [ix]) (by simp))
  go_wp2_with fail
  refine HG.out.mono ?_
  rintro e w2 ⟨A2, n2, c2, er, rfl, hg⟩
  rw [all_anchor] at hg
  obtain ⟨hb2, e2, rfl, _⟩ := hg
  injection e2 with e3 e4 e5
  subst e3 e4 e5
  have HB2 : Hid (Below w.heap.size w w2) := Lib.hid ((HB1.out.alloc hz1 _).trans (hb2.mono (by simp; omega)))
  have HO2 : Hid (OwnY w2 ((w.alloc (.cells #[.int .i64 1, .int .i64 128] 3)).heap.size + 1) (.slice A1 4 c1) 4 [2, 1, 128, 1]) := Lib.hid ((HO.out.alloc _).kept hb2)
  clear hb2 HG
  have hz2 := HB2.out.size
  have HL2 := Lib.hid (OwnY.lit w2 w2.heap.size [2, 1, 128, 1] (Nat.le_refl _) (by simp))
  have HS := Lib.hid (sameY_any (c := c1) (d := 4) (rdY_own (HO2.out.alloc (.cells (([2, 1, 128, 1] : List Int).map (Value.int .u8)).toArray 5))) (rdY_own HL2.out) (by simp) (by simp))
  go_wp2_with fail
  refine HS.out.mono ?_
  rintro e w3 ⟨rfl, q, rfl⟩
  rw [sameY_refl]
  have HB3 : Hid (Below w.heap.size w (w2.alloc (.cells (([2, 1, 128, 1] : List Int).map (Value.int .u8)).toArray 5))) := Lib.hid (HB2.out.alloc hz2 _)
  go_wp2
  go_ret
  exact ⟨rfl, ⟨HB3.out.os, HB3.out.tape, HB3.out.output, HB3.out.size, HB3.out.block⟩⟩

set_option maxHeartbeats 2000000 in
theorem law_numbers {w : World} {A : Option Addr} {n c : Nat} {l : List Int} (hr : Rd w w.heap.size A n l) (hn0 : n ≤ 9223372036854775807) :
    Calls Try.prog 3 #[.slice A n c] w fun e w' => e = .returned (.bool true) ∧ Below w.heap.size w w' := by
  have HR := Lib.hid hr
  have HLL := Lib.hid hr.len
  clear hr
  go_enter Try.func3, Try.ntmps3
  go_wp2_with fail
  refine (anchorE_any w).mono ?_
  rintro e w1 ⟨rfl, hb1⟩
  have HB1 := Lib.hid hb1
  clear hb1
  by_cases hn : 300 < n
  · have d1 : decide ((300 : Int) < (n : Int)) = true := by simp; omega
    go_wp2
    go_ret
    exact ⟨rfl, HB1.out⟩
  have d1 : decide ((300 : Int) < (n : Int)) = false := by simp; omega
  have hz1 := HB1.out.size
  have HW := Lib.hid (Wr.new (T := 27) w1)
  have HB2 : Hid (Below w.heap.size w (w1.alloc (.cells #[.slice none 0 0, .bool false] 27))) := Lib.hid (HB1.out.alloc hz1 _)
  have HI := Lib.hid (intsW_any (c := c) HW.out (HR.out.below HB2.out) hz1 (by omega) (by simp; omega))
  go_wp2_with fail
  refine HI.out.mono ?_
  rintro e w3 ⟨rfl, hw3, hb3⟩
  rw [List.nil_append, Bool.false_or] at hw3
  have HW3 := Lib.hid hw3
  have HB3 : Hid (Below w.heap.size w w3) := Lib.hid (HB2.out.trans (hb3.mono hz1))
  clear hw3 hb3 HI HW
  have hz3 := HB3.out.size
  have HP := Lib.hid (putN_any (c := c) (HR.out.below HB3.out) hz3 (by omega))
  go_wp2_with fail
  refine HP.out.mono ?_
  rintro e w4 ⟨⟨A4, n4, c4, er, rfl, hend⟩, hb4⟩
  have HB4 : Hid (Below w.heap.size w w4) := Lib.hid (HB3.out.trans (hb4.mono hz3))
  have HW4 := Lib.hid (HW3.out.kept hb4)
  have HEND := Lib.hid hend
  clear hend hb4 HP
  obtain ⟨AW, cW, hrow, hownW⟩ := HW4.out.row
  obtain ⟨hx0, hx1, _, _⟩ := row2 hrow
  have HOW := Lib.hid hownW
  clear hrow hownW
  cases hbad : bads l with
  | true =>
    rw [hbad] at hx1
    have he := HEND.out
    rw [hbad] at he
    obtain ⟨e4, rfl⟩ := he.1 rfl
    injection e4 with e5 e6 e7
    subst e5 e6 e7
    clear he hbad
    go_wp2
    go_ret
    exact ⟨rfl, HB4.out⟩
  | false =>
    rw [hbad] at hx1
    have he := HEND.out
    rw [hbad] at he
    obtain ⟨rfl, hown4⟩ := he.2 rfl
    obtain ⟨ln, hl1, hl2, hl3⟩ := good_list hbad
    rw [hl3] at hown4
    have hnl : ln.length = n := by have := HLL.out; rw [hl1, casts_len] at this; exact this
    have hE : enc n ++ encs ln = encL ln := by unfold encL; rw [hnl]
    rw [hE] at hown4
    have hEW : enc n ++ outs l = encL ln := by rw [hl3]; exact hE
    rw [hEW] at hx0 HOW
    have hlen : (encL ln).length ≤ 2000 := by
      unfold encL
      rw [List.length_append]
      have h1 := encs_le hl2
      have h2 := enc_six (n := ln.length) (by omega)
      omega
    obtain ⟨A4', c4', e4, _⟩ := OwnY.shape hown4
    injection e4 with e5 e6 e7
    subst e5 e6 e7
    have HO4 := Lib.hid hown4
    have HL1 := Lib.hid hl1
    have HNL := Lib.hid hnl
    have HALL := Lib.hid (all_enc hl2 (show ln.length ≤ 1099511627776 by omega))
    have HG := Lib.hid (getN_any (rdY_own HO4.out) (capA_own HO4.out) (Nat.le_refl _) (encL_bytes ln) (by omega))
    clear he hbad hown4 hl1 hl2 hl3 hnl hE hEW HEND
    go_wp2_with fail
    refine HG.out.mono ?_
    rintro e w5 ⟨A5, n5, c5, er, rfl, hg⟩
    rw [HALL.out] at hg
    obtain ⟨hb5, rfl, hown5⟩ := hg
    obtain ⟨A5', c5', e5, _⟩ := Own.shape hown5
    injection e5 with e6 e7 e8
    subst e6 e7 e8
    have HO5 : Hid (Own w5 w4.heap.size (.slice A5 n c5) n l) := Lib.hid (by have h := hown5; rw [HNL.out, ← HL1.out] at h; exact h)
    have HB5 : Hid (Below w.heap.size w w5) := Lib.hid (HB4.out.trans (hb5.mono HB4.out.size))
    have HO45 := Lib.hid (HO4.out.kept hb5)
    have HOW5 := Lib.hid (HOW.out.kept hb5)
    have hlt4 := HW4.out.lt
    have hx05 := (hb5.cell (p := ⟨w1.heap.size, 0, none⟩) hlt4).trans hx0
    rw [HNL.out]
    clear hb5 hown5 HG hx0 hx1
    have HS := Lib.hid (sameY_any (c := c4) (d := cW) (rdY_own HO45.out) (rdY_own HOW5.out) (by omega) (by omega))
    go_wp2_with fail
    refine HS.out.mono ?_
    rintro e w6 ⟨rfl, q, rfl⟩
    rw [sameY_refl]
    have HIY := Lib.hid (ints_yes (c1 := c) (c2 := c5) ((HR.out.below HB5.out).drewN q) ((Rd.of_own HO5.out).drewN q) (by omega))
    go_wp2_with fail
    refine HIY.out.mono ?_
    rintro e w7 ⟨rfl, rfl⟩
    go_wp2
    go_ret
    exact ⟨rfl, ⟨HB5.out.os, HB5.out.tape, HB5.out.output, HB5.out.size, HB5.out.block⟩⟩
end Go.Proofs.Ytfcabdgidlnljab
