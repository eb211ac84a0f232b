/-
  Catalogues that the program writes.
-/
import Derived.Test.YtmfoammkcokcoaaUCp
namespace Go.Proofs.Ytmfoammkcokcoaa
open Go.RowKit
open ByteP CodeP
set_option linter.unusedVariables false
set_option maxRecDepth 10000
set_option maxHeartbeats 2000000 in
theorem need_any {w : World} {wb B n c : Nat} {xs : List Int} {l : List (List CV)} {f : Bool} {A : Option Addr} (h : Wr 120 w wb xs f) (sv : Int) (hr : RdR w B A n l) (hB : B ≤ wb) (hsh : ShL l) (hl : xs.length + (outL l).length ≤ 590000000) :
    Calls Try.prog 82 #[.pointer (some ⟨wb, 0, none⟩), .agg #[.int .i64 sv, .slice A n c]] w fun e w' => e = .returned (.tuple #[]) ∧ Wr 120 w' wb (xs ++ pinO (sv, l)) (f || pinB (sv, l)) ∧ Below wb w w' ∧ KeepW w w' wb := by
  have hlt := h.lt
  obtain ⟨W, hW⟩ : ∃ W, W = w.alloc (.cells #[.int .i64 sv, .slice A n c] 107) := ⟨_, rfl⟩
  have HA : Wr 120 W wb xs f := by rw [hW]; exact h.alloc _
  have HK0 : Hid (KeepW w W wb) := Lib.hid (by rw [hW]; exact KeepW.alloc hlt _)
  have HB0 : Hid (Below wb w W) := Lib.hid (by rw [hW]; exact ((Below.refl _ w).alloc (Nat.le_refl _) _).mono (by omega))
  have hab : W.heap[w.heap.size]? = some (.cells #[.int .i64 sv, .slice A n c] 107 (0, 0)) := by rw [hW]; exact heap_alloc_new w _
  have HNO : Hid (¬ OwnW W wb w.heap.size) := Lib.hid (by rw [hW]; exact ownW_new h (Nat.le_refl _) (Below.heap_alloc w _ wb hlt))
  have HROW := Lib.hid hab
  have hz : w.heap.size < W.heap.size := by rw [hW]; simp
  have HBX : Hid (∀ w', KeepW W w' wb → w'.heap[w.heap.size]? = some (.cells #[.int .i64 sv, .slice A n c] 107 (0, 0))) := Lib.hid (fun w' hk => (hk.block w.heap.size hz (by omega) HNO.out).trans HROW.out)
  obtain ⟨c0, c1, _, _⟩ := row2 hab
  have HF := Lib.hid (number_any HA sv (by omega))
  have HRW : Hid (RdR W B A n l) := Lib.hid (hr.below (HB0.out.mono hB))
  have HWE := Lib.hid hW
  clear h hab HA hW hr
  go_enter Try.func82, Try.ntmps82
  go_upto_region 1 with fail
  rw [← HWE.out]
  go_wp2_with fail
  refine HF.out.mono ?_
  rintro e w1 ⟨rfl, h1, hb1, hk1⟩
  obtain ⟨d0, d1, _, _⟩ := row2 (HBX.out w1 hk1)
  have HB1 := Lib.hid (HB0.out.trans hb1)
  have HK1 := Lib.hid (HK0.out.trans hk1)
  have HS := Lib.hid (span_any (c := c) h1 (HRW.out.below (hb1.mono hB)) hB hsh (by rw [List.length_append]; have := outI_len sv; omega))
  clear h1 hb1 hk1 c0 c1
  go_wp2_with fail
  refine HS.out.mono ?_
  rintro e w2 ⟨rfl, h2, hb2, hk2⟩
  have H2 : Hid (Wr 120 w2 wb (xs ++ pinO (sv, l)) (f || pinB (sv, l))) := Lib.hid (by
    unfold pinO pinB
    rw [← List.append_assoc, ← Bool.or_assoc]; exact h2)
  have HB2 := Lib.hid (HB1.out.trans hb2)
  have HK2 := Lib.hid (HK1.out.trans hk2)
  clear h2 hb2 hk2 d0 d1
  go_wp2
  go_end0
  exact ⟨rfl, H2.out, HB2.out, HK2.out⟩
set_option maxHeartbeats 2000000 in
theorem put_needs {w : World} {wb B n c : Nat} {xs : List Int} {l : List (Int × List (List CV))} {f : Bool} {A : Option Addr} (h : Wr 120 w wb xs f) (hr : RdN w B A n l) (hB : B ≤ wb) (hsh : ShN l) (hl : xs.length + (outN l).length ≤ 580000000) :
    Calls Try.prog 81 #[.pointer (some ⟨wb, 0, none⟩), .slice A n c, .func (.func 82) #[.pointer (some ⟨wb, 0, none⟩)] #[]] w fun e w' => e = .returned (.tuple #[]) ∧ Wr 120 w' wb (xs ++ enc n ++ outN l) (f || badN l) ∧ Below wb w w' ∧ KeepW w w' wb := by
  have H := Lib.hid h
  have HR := Lib.hid hr
  have HLL := Lib.hid hr.1
  have HSH := Lib.hid hsh
  have HLEN := Lib.hid hl
  have hn : n ≤ 2000000 := by have := hr.1; have := hsh.1; omega
  clear h hr hsh hl
  go_enter Try.func81, Try.ntmps81
  go_wp2_with fail
  refine (number_any H.out (n : Int) (by have := HLEN.out; omega)).mono ?_
  rintro e w1 ⟨rfl, h1, hb1, hk1⟩
  rw [outI_nat (by omega), okI_nat (by omega)] at h1
  have H1 : Hid (Wr 120 w1 wb (xs ++ enc n) f) := Lib.hid (by simpa using h1)
  have HB1 := Lib.hid hb1
  have HK1 := Lib.hid hk1
  have HE : Hid ((enc n).length ≤ 6) := Lib.hid (enc_six (by omega))
  clear h1 hb1 hk1
  go_wp2
  go_loopw [7, 14] (fun _ v wr => ∃ j : Nat, j ≤ n ∧ v = .int .i64 (j : Int) ∧ Hid (Wr 120 wr wb (xs ++ enc n ++ outN (l.take j)) (f || badN (l.take j))) ∧ Hid (Below wb w wr) ∧ Hid (KeepW w wr wb)) (fun _ v _ => n - (intOf v).toNat)
  case atStart => exact ⟨0, Nat.zero_le _, rfl, Lib.hid (by simpa [outN, badN] using H1.out), HB1, HK1⟩
  case round =>
    obtain ⟨j, hj, rfl, HW, HB, HK⟩ := hrel
    by_cases hjn : j < n
    · have hd : decide ((j : Int) < (n : Int)) = true := by simp; omega
      have hi : (j : Int) < (n : Int) := by omega
      have hadd : IntKind.i64.wrap ((j : Int) + 1) = ((j + 1 : Nat) : Int) := by rw [IntWalk.i64_in _ (by omega)]; omega
      have hjl : j < l.length := by rw [HLL.out]; exact hjn
      have hsz := HSH.out.2 _ (pnAt_mem hjl)
      obtain ⟨b1, o1, Aj, nj, cj, rfl, _, k0, k1, k2⟩ := (HR.out.below (HB.out.mono hB)).2 j hjn
      obtain ⟨x, HX⟩ : ∃ x, Hid (pnAt l j = x) := ⟨_, Lib.hid rfl⟩
      have h2 := outN_at l j hjl
      rw [HX.out] at k0 k2 hsz h2
      obtain ⟨sv, rg⟩ := x
      simp only at k0 k2 hsz
      have HSZ := Lib.hid hsz
      have HRG := Lib.hid k2
      have HLJ : Hid ((outN (l.take j)).length + (outL rg).length ≤ (outN l).length) := Lib.hid (by
        unfold pinO rngO at h2
        rw [List.length_append, List.length_append] at h2
        dsimp only at h2
        omega)
      clear h2 k2 hsz
      have hwl := HW.out.lt
      have HKA := Lib.hid (HK.out.trans (KeepW.alloc hwl (.cells #[.int .i64 sv, .slice Aj nj cj] 107)))
      have HBA : Hid (Below wb w (wr.alloc (.cells #[.int .i64 sv, .slice Aj nj cj] 107))) := Lib.hid (HB.out.alloc (by omega) _)
      have HC := Lib.hid (need_any (c := cj) (HW.out.alloc (.cells #[.int .i64 sv, .slice Aj nj cj] 107)) sv (HRG.out.below (((Below.refl _ wr).alloc (Nat.le_refl _) (.cells #[.int .i64 sv, .slice Aj nj cj] 107)).mono (by omega))) hB HSZ.out (by
        have h2 := HLJ.out
        have h3 := HE.out
        have h4 := HLEN.out
        rw [List.length_append, List.length_append]
        omega))
      go_wp2_with fail
      refine HC.out.mono ?_
      rintro e w2 ⟨rfl, h2, hb2, hk2⟩
      have H2 : Hid (Wr 120 w2 wb (xs ++ enc n ++ outN (l.take (j + 1))) (f || badN (l.take (j + 1)))) := Lib.hid (by
        rw [take_pn l j (by rw [HLL.out]; exact hjn), outN_snoc, badN_snoc, HX.out, ← List.append_assoc, ← Bool.or_assoc]
        exact h2)
      have HB2 := Lib.hid (HBA.out.trans hb2)
      have HK2 := Lib.hid (HKA.out.trans hk2)
      clear h2 hb2 hk2 HC
      go_wp2
      go_roundw
      case rel => exact ⟨j + 1, by omega, rfl, H2, HB2, HK2⟩
      case measure => simp [intOf]; omega
    · have hd : decide ((j : Int) < (n : Int)) = false := by simp; omega
      obtain rfl : j = n := by omega
      go_wp2
      go_end0
      refine ⟨rfl, ?_, HB.out, HK.out⟩
      have := HW.out
      rw [List.take_of_length_le (by rw [HLL.out]; omega)] at this
      exact this
theorem cells6 {w : World} {g : Nat} {a b c d e f : Value} {T : TypeId} (h : w.heap[g]? = some (.cells #[a, b, c, d, e, f] T (0, 0))) : w.cell? ⟨g, 0, none⟩ = some a ∧ w.cell? ⟨g, 1, none⟩ = some b ∧ w.cell? ⟨g, 2, none⟩ = some c ∧ w.cell? ⟨g, 3, none⟩ = some d ∧ w.cell? ⟨g, 4, none⟩ = some e ∧ w.cell? ⟨g, 5, none⟩ = some f :=
  ⟨by simp [World.cell?, h], by simp [World.cell?, h], by simp [World.cell?, h], by simp [World.cell?, h], by simp [World.cell?, h], by simp [World.cell?, h]⟩
set_option maxHeartbeats 2000000 in
theorem release_any {w : World} {wb B n c0 : Nat} {xs : List Int} {f : Bool} {A : Option Addr} {a b c lv : Int} {s : ByteArray} {l : List Nd} (h : Wr 120 w wb xs f) (hr : RdN w B A n l) (hB : B ≤ wb) (hs : s.size ≤ 2000000) (hsh : ShN l) (hl : xs.length + (rlO ((a, b, c, s), lv, l)).length ≤ 570000000) :
    Calls Try.prog 68 #[.pointer (some ⟨wb, 0, none⟩), .agg #[.int .i64 a, .int .i64 b, .int .i64 c, .string s, .int .i64 lv, .slice A n c0]] w fun e w' => e = .returned (.tuple #[]) ∧ Wr 120 w' wb (xs ++ rlO ((a, b, c, s), lv, l)) (f || rlB ((a, b, c, s), lv, l)) ∧ Below wb w w' ∧ KeepW w w' wb := by
  have hlt := h.lt
  obtain ⟨W, hW⟩ : ∃ W, W = w.alloc (.cells #[.int .i64 a, .int .i64 b, .int .i64 c, .string s, .int .i64 lv, .slice A n c0] 98) := ⟨_, rfl⟩
  have HA : Wr 120 W wb xs f := by rw [hW]; exact h.alloc _
  have HK0 : Hid (KeepW w W wb) := Lib.hid (by rw [hW]; exact KeepW.alloc hlt _)
  have HB0 : Hid (Below wb w W) := Lib.hid (by rw [hW]; exact ((Below.refl _ w).alloc (Nat.le_refl _) _).mono (by omega))
  have hab : W.heap[w.heap.size]? = some (.cells #[.int .i64 a, .int .i64 b, .int .i64 c, .string s, .int .i64 lv, .slice A n c0] 98 (0, 0)) := by rw [hW]; exact heap_alloc_new w _
  have HNO : Hid (¬ OwnW W wb w.heap.size) := Lib.hid (by rw [hW]; exact ownW_new h (Nat.le_refl _) (Below.heap_alloc w _ wb hlt))
  have HROW := Lib.hid hab
  have hz : w.heap.size < W.heap.size := by rw [hW]; simp
  have HBX : Hid (∀ w', KeepW W w' wb → w'.heap[w.heap.size]? = some (.cells #[.int .i64 a, .int .i64 b, .int .i64 c, .string s, .int .i64 lv, .slice A n c0] 98 (0, 0))) := Lib.hid (fun w' hk => (hk.block w.heap.size hz (by omega) HNO.out).trans HROW.out)
  have HLEN : Hid (xs.length + (verO a b c s).length + (outI lv).length + (enc n).length + (outN l).length ≤ 570000000) := Lib.hid (by
    have e1 : (rlO ((a, b, c, s), lv, l)).length = (verO a b c s).length + ((outI lv).length + (lsE pinO l).length) := by unfold rlO verOt; rw [List.length_append, List.length_append]
    have e2 := lsE_len pinO l
    have e3 : (fl pinO l).length = (outN l).length := rfl
    rw [hr.1] at e2
    omega)
  have HEQ : Hid (∀ zs : List Int, zs ++ verO a b c s ++ outI lv ++ enc n ++ outN l = zs ++ rlO ((a, b, c, s), lv, l)) := Lib.hid (fun zs => by
    unfold rlO verOt lsE
    rw [hr.1, show fl pinO l = outN l from rfl]
    simp only [List.append_assoc])
  have HRW : Hid (RdN W B A n l) := Lib.hid (hr.below (HB0.out.mono hB))
  obtain ⟨c0', c1, c2, c3, c4, c5⟩ := cells6 hab
  have HF := Lib.hid (version_any HA a b c s hs (by have := HLEN.out; omega))
  have HWE := Lib.hid hW
  have HSH := Lib.hid hsh
  clear h hab HA hW hr hl hsh
  go_enter Try.func68, Try.ntmps68
  go_upto_region 1 with fail
  rw [← HWE.out]
  go_wp2_with fail
  refine HF.out.mono ?_
  rintro e w1 ⟨rfl, h1, hb1, hk1⟩
  have hq := HBX.out w1 hk1
  obtain ⟨d0, d1, d2, d3, d4, d5⟩ := cells6 hq
  have HB1 := Lib.hid (HB0.out.trans hb1)
  have HK1 := Lib.hid (HK0.out.trans hk1)
  have HK01 := Lib.hid hk1
  have HN := Lib.hid (number_any h1 lv (by have := HLEN.out; rw [List.length_append]; omega))
  have HR1 : Hid (RdN w1 B A n l) := Lib.hid (HRW.out.below (hb1.mono hB))
  clear h1 hb1 hk1 hq c0' c1 c2 c3 c4 c5
  go_wp2_with fail
  refine HN.out.mono ?_
  rintro e w2 ⟨rfl, h2, hb2, hk2⟩
  have hq := HBX.out w2 (HK01.out.trans hk2)
  clear d0 d1 d2 d3 d4 d5
  obtain ⟨d0, d1, d2, d3, d4, d5⟩ := cells6 hq
  have HB2 := Lib.hid (HB1.out.trans hb2)
  have HK2 := Lib.hid (HK1.out.trans hk2)
  have HP := Lib.hid (put_needs (c := c0) h2 (HR1.out.below (hb2.mono hB)) hB HSH.out (by have := HLEN.out; simp only [List.length_append]; omega))
  clear h2 hb2 hk2 hq
  go_wp2_with fail
  refine HP.out.mono ?_
  rintro e w3 ⟨rfl, h3, hb3, hk3⟩
  have H3 : Hid (Wr 120 w3 wb (xs ++ rlO ((a, b, c, s), lv, l)) (f || rlB ((a, b, c, s), lv, l))) := Lib.hid (by
    rw [HEQ.out] at h3
    unfold rlB verBt
    rw [← Bool.or_assoc, ← Bool.or_assoc]; exact h3)
  have HB3 := Lib.hid (HB2.out.trans hb3)
  have HK3 := Lib.hid (HK2.out.trans hk3)
  clear h3 hb3 hk3 d0 d1 d2 d3 d4 d5
  go_wp2
  go_end0
  exact ⟨rfl, H3.out, HB3.out, HK3.out⟩
set_option maxHeartbeats 2000000 in
theorem put_releases {w : World} {wb B n c : Nat} {xs : List Int} {l : List _} {f : Bool} {A : Option Addr} (h : Wr 120 w wb xs f) (hr : RdG 6 reI w (fun b => B ≤ b) A n l) (hB : B ≤ wb) (hsh : ShRls l) (hl : xs.length + (enc n).length + (fl rlO l).length ≤ 560000000) :
    Calls Try.prog 67 #[.pointer (some ⟨wb, 0, none⟩), .slice A n c, .func (.func 68) #[.pointer (some ⟨wb, 0, none⟩)] #[]] w fun e w' => e = .returned (.tuple #[]) ∧ Wr 120 w' wb (xs ++ enc n ++ fl rlO l) (f || badRl l) ∧ Below wb w w' ∧ KeepW w w' wb := by
  have H := Lib.hid h
  have HR := Lib.hid hr
  have HLL := Lib.hid hr.1
  have HSH := Lib.hid hsh
  have HLEN := Lib.hid hl
  have hn : n ≤ 2000000 := by have := hr.1; have := hsh.1; omega
  clear h hr hsh hl
  go_enter Try.func67, Try.ntmps67
  go_wp2_with fail
  refine (number_any H.out (n : Int) (by have := HLEN.out; omega)).mono ?_
  rintro e w1 ⟨rfl, h1, hb1, hk1⟩
  rw [outI_nat (by omega), okI_nat (by omega)] at h1
  have H1 : Hid (Wr 120 w1 wb (xs ++ enc n) f) := Lib.hid (by simpa using h1)
  have HB1 := Lib.hid hb1
  have HK1 := Lib.hid hk1
  clear h1 hb1 hk1
  go_wp2
  go_loopw [7, 14] (fun _ v wr => ∃ j : Nat, j ≤ n ∧ v = .int .i64 (j : Int) ∧ Hid (Wr 120 wr wb (xs ++ enc n ++ fl rlO (l.take j)) (f || badRl (l.take j))) ∧ Hid (Below wb w wr) ∧ Hid (KeepW w wr wb)) (fun _ v _ => n - (intOf v).toNat)
  case atStart => exact ⟨0, Nat.zero_le _, rfl, Lib.hid (by simpa [fl, badRl] using H1.out), HB1, HK1⟩
  case round =>
    obtain ⟨j, hj, rfl, HW, HB, HK⟩ := hrel
    by_cases hjn : j < n
    · have hd : decide ((j : Int) < (n : Int)) = true := by simp; omega
      have hi : (j : Int) < (n : Int) := by omega
      have hadd : IntKind.i64.wrap ((j : Int) + 1) = ((j + 1 : Nat) : Int) := by rw [IntWalk.i64_in _ (by omega)]; omega
      have hjl : j < l.length := by rw [HLL.out]; exact hjn
      have hsz := HSH.out.2 _ (getD_mem hjl)
      obtain ⟨b1, o1, vs, rfl, _, _, _, hcs, hit⟩ := (HR.out.below re_turns (HB.out.mono hB)).2 j hjn
      obtain ⟨x, HX⟩ : ∃ x, Hid (l.getD j default = x) := ⟨_, Lib.hid rfl⟩
      have hlj := fl_at rlO l j hjl
      rw [HX.out] at hit hsz hlj
      obtain ⟨⟨va, vb, vc, vs1⟩, lv, nds⟩ := x
      obtain ⟨Aj, nj, cj, rfl, hitr⟩ := hit.parts
      have hitr : RdN wr B Aj nj nds := hitr.rdB
      have k0 := hcs 0 _ rfl
      have k1 := hcs 1 _ rfl
      have k2 := hcs 2 _ rfl
      have k3 := hcs 3 _ rfl
      have k4 := hcs 4 _ rfl
      have k5 := hcs 5 _ rfl
      simp only [Nat.add_zero] at k0 k1 k2 k3 k4 k5
      have HSZ := Lib.hid hsz
      have HLJ := Lib.hid hlj
      have HRG := Lib.hid hitr
      clear hlj hsz hitr hcs
      have hwl := HW.out.lt
      have HKA := Lib.hid (HK.out.trans (KeepW.alloc hwl (.cells #[.int .i64 va, .int .i64 vb, .int .i64 vc, .string vs1, .int .i64 lv, .slice Aj nj cj] 98)))
      have HBA : Hid (Below wb w (wr.alloc (.cells #[.int .i64 va, .int .i64 vb, .int .i64 vc, .string vs1, .int .i64 lv, .slice Aj nj cj] 98))) := Lib.hid (HB.out.alloc (by omega) _)
      have hbal : Below B wr (wr.alloc (.cells #[.int .i64 va, .int .i64 vb, .int .i64 vc, .string vs1, .int .i64 lv, .slice Aj nj cj] 98)) := ((Below.refl _ wr).alloc (Nat.le_refl _) (.cells #[.int .i64 va, .int .i64 vb, .int .i64 vc, .string vs1, .int .i64 lv, .slice Aj nj cj] 98)).mono (by omega)
      have HC := Lib.hid (release_any (a := va) (b := vb) (c := vc) (s := vs1) (lv := lv) (c0 := cj) (HW.out.alloc (.cells #[.int .i64 va, .int .i64 vb, .int .i64 vc, .string vs1, .int .i64 lv, .slice Aj nj cj] 98)) (HRG.out.below hbal) hB HSZ.out.1 HSZ.out.2 (by
        have h2 := HLJ.out
        have h4 := HLEN.out
        rw [List.length_append, List.length_append]
        omega))
      clear hbal
      go_wp2_with fail
      refine HC.out.mono ?_
      rintro e w2 ⟨rfl, h2, hb2, hk2⟩
      have H2 : Hid (Wr 120 w2 wb (xs ++ enc n ++ fl rlO (l.take (j + 1))) (f || badRl (l.take (j + 1)))) := Lib.hid (by
        rw [take_d l j (by rw [HLL.out]; exact hjn), fl_snoc, badRl_snoc, HX.out, ← List.append_assoc, ← Bool.or_assoc]
        exact h2)
      have HB2 := Lib.hid (HBA.out.trans hb2)
      have HK2 := Lib.hid (HKA.out.trans hk2)
      clear h2 hb2 hk2 HC
      go_wp2
      go_roundw
      case rel => exact ⟨j + 1, by omega, rfl, H2, HB2, HK2⟩
      case measure => simp [intOf]; omega
    · have hd : decide ((j : Int) < (n : Int)) = false := by simp; omega
      obtain rfl : j = n := by omega
      go_wp2
      go_end0
      refine ⟨rfl, ?_, HB.out, HK.out⟩
      have := HW.out
      rw [List.take_of_length_le (by rw [HLL.out]; omega)] at this
      exact this
set_option maxHeartbeats 2000000 in
theorem service_any {w : World} {wb B n c0 : Nat} {xs : List Int} {f : Bool} {A : Option Addr} {s : ByteArray} {l : List Rl} (h : Wr 120 w wb xs f) (hr : RdG 6 reI w (fun b => B ≤ b) A n l) (hB : B ≤ wb) (hs : s.size ≤ 2000000) (hsh : ShRls l) (hl : xs.length + (svO (s, l)).length ≤ 550000000) :
    Calls Try.prog 37 #[.pointer (some ⟨wb, 0, none⟩), .agg #[.string s, .slice A n c0]] w fun e w' => e = .returned (.tuple #[]) ∧ Wr 120 w' wb (xs ++ svO (s, l)) (f || svB (s, l)) ∧ Below wb w w' ∧ KeepW w w' wb := by
  have hlt := h.lt
  obtain ⟨W, hW⟩ : ∃ W, W = w.alloc (.cells #[.string s, .slice A n c0] 90) := ⟨_, rfl⟩
  have HA : Wr 120 W wb xs f := by rw [hW]; exact h.alloc _
  have HK0 : Hid (KeepW w W wb) := Lib.hid (by rw [hW]; exact KeepW.alloc hlt _)
  have HB0 : Hid (Below wb w W) := Lib.hid (by rw [hW]; exact ((Below.refl _ w).alloc (Nat.le_refl _) _).mono (by omega))
  have hab : W.heap[w.heap.size]? = some (.cells #[.string s, .slice A n c0] 90 (0, 0)) := by rw [hW]; exact heap_alloc_new w _
  have HNO : Hid (¬ OwnW W wb w.heap.size) := Lib.hid (by rw [hW]; exact ownW_new h (Nat.le_refl _) (Below.heap_alloc w _ wb hlt))
  have HROW := Lib.hid hab
  have hz : w.heap.size < W.heap.size := by rw [hW]; simp
  have HBX : Hid (∀ w', KeepW W w' wb → w'.heap[w.heap.size]? = some (.cells #[.string s, .slice A n c0] 90 (0, 0))) := Lib.hid (fun w' hk => (hk.block w.heap.size hz (by omega) HNO.out).trans HROW.out)
  have HLEN : Hid (xs.length + (enc s.size ++ bsS s).length + (enc n).length + (fl rlO l).length ≤ 550000000) := Lib.hid (by
    have e1 : (svO (s, l)).length = (enc s.size ++ bsS s).length + (lsE rlO l).length := by unfold svO strO; rw [List.length_append]
    have e2 := lsE_len rlO l
    rw [hr.1] at e2
    omega)
  have HEQ : Hid (∀ zs : List Int, zs ++ (enc s.size ++ bsS s) ++ enc n ++ fl rlO l = zs ++ svO (s, l)) := Lib.hid (fun zs => by
    unfold svO strO lsE
    rw [hr.1]
    simp only [List.append_assoc])
  have HRW : Hid (RdG 6 reI W (fun b => B ≤ b) A n l) := Lib.hid (hr.below re_turns (HB0.out.mono hB))
  obtain ⟨c0', c1, _, _⟩ := row2 hab
  have HF := Lib.hid (text_any HA s hs (by have := HLEN.out; omega))
  have HWE := Lib.hid hW
  have HSH := Lib.hid hsh
  clear h hab HA hW hr hl hsh
  go_enter Try.func37, Try.ntmps37
  go_upto_region 1 with fail
  rw [← HWE.out]
  go_wp2_with fail
  refine HF.out.mono ?_
  rintro e w1 ⟨rfl, h1, hb1, hk1⟩
  obtain ⟨d0, d1, _, _⟩ := row2 (HBX.out w1 hk1)
  have HB1 := Lib.hid (HB0.out.trans hb1)
  have HK1 := Lib.hid (HK0.out.trans hk1)
  have HP := Lib.hid (put_releases (c := c0) h1 (HRW.out.below re_turns (hb1.mono hB)) hB HSH.out (by have := HLEN.out; rw [List.length_append]; omega))
  clear h1 hb1 hk1 c0' c1
  go_wp2_with fail
  refine HP.out.mono ?_
  rintro e w3 ⟨rfl, h3, hb3, hk3⟩
  have H3 : Hid (Wr 120 w3 wb (xs ++ svO (s, l)) (f || svB (s, l))) := Lib.hid (by
    rw [HEQ.out] at h3
    exact h3)
  have HB3 := Lib.hid (HB1.out.trans hb3)
  have HK3 := Lib.hid (HK1.out.trans hk3)
  clear h3 hb3 hk3 d0 d1
  go_wp2
  go_end0
  exact ⟨rfl, H3.out, HB3.out, HK3.out⟩
set_option maxHeartbeats 2000000 in
theorem put_services {w : World} {wb B n c : Nat} {xs : List Int} {l : List _} {f : Bool} {A : Option Addr} (h : Wr 120 w wb xs f) (hr : RdG 2 svI w (fun b => B ≤ b) A n l) (hB : B ≤ wb) (hsh : ShCat l) (hl : xs.length + (enc n).length + (fl svO l).length ≤ 540000000) :
    Calls Try.prog 36 #[.pointer (some ⟨wb, 0, none⟩), .slice A n c, .func (.func 37) #[.pointer (some ⟨wb, 0, none⟩)] #[]] w fun e w' => e = .returned (.tuple #[]) ∧ Wr 120 w' wb (xs ++ enc n ++ fl svO l) (f || badSv l) ∧ Below wb w w' ∧ KeepW w w' wb := by
  have H := Lib.hid h
  have HR := Lib.hid hr
  have HLL := Lib.hid hr.1
  have HSH := Lib.hid hsh
  have HLEN := Lib.hid hl
  have hn : n ≤ 2000000 := by have := hr.1; have := hsh.1; omega
  clear h hr hsh hl
  go_enter Try.func36, Try.ntmps36
  go_wp2_with fail
  refine (number_any H.out (n : Int) (by have := HLEN.out; omega)).mono ?_
  rintro e w1 ⟨rfl, h1, hb1, hk1⟩
  rw [outI_nat (by omega), okI_nat (by omega)] at h1
  have H1 : Hid (Wr 120 w1 wb (xs ++ enc n) f) := Lib.hid (by simpa using h1)
  have HB1 := Lib.hid hb1
  have HK1 := Lib.hid hk1
  clear h1 hb1 hk1
  go_wp2
  go_loopw [7, 14] (fun _ v wr => ∃ j : Nat, j ≤ n ∧ v = .int .i64 (j : Int) ∧ Hid (Wr 120 wr wb (xs ++ enc n ++ fl svO (l.take j)) (f || badSv (l.take j))) ∧ Hid (Below wb w wr) ∧ Hid (KeepW w wr wb)) (fun _ v _ => n - (intOf v).toNat)
  case atStart => exact ⟨0, Nat.zero_le _, rfl, Lib.hid (by simpa [fl, badSv] using H1.out), HB1, HK1⟩
  case round =>
    obtain ⟨j, hj, rfl, HW, HB, HK⟩ := hrel
    by_cases hjn : j < n
    · have hd : decide ((j : Int) < (n : Int)) = true := by simp; omega
      have hi : (j : Int) < (n : Int) := by omega
      have hadd : IntKind.i64.wrap ((j : Int) + 1) = ((j + 1 : Nat) : Int) := by rw [IntWalk.i64_in _ (by omega)]; omega
      have hjl : j < l.length := by rw [HLL.out]; exact hjn
      have hsz := HSH.out.2 _ (getD_mem hjl)
      obtain ⟨b1, o1, vs, rfl, _, _, _, hcs, hit⟩ := (HR.out.below sv_turns (HB.out.mono hB)).2 j hjn
      obtain ⟨x, HX⟩ : ∃ x, Hid (l.getD j default = x) := ⟨_, Lib.hid rfl⟩
      have hlj := fl_at svO l j hjl
      rw [HX.out] at hit hsz hlj
      obtain ⟨sn, rls⟩ := x
      obtain ⟨Aj, nj, cj, rfl, hitr⟩ := hit.parts
      have hitr : RdG 6 reI wr (fun b => B ≤ b) Aj nj rls := hitr
      have k0 := hcs 0 _ rfl
      have k1 := hcs 1 _ rfl
      simp only [Nat.add_zero] at k0 k1
      have HSZ := Lib.hid hsz
      have HLJ := Lib.hid hlj
      have HRG := Lib.hid hitr
      clear hlj hsz hitr hcs
      have hwl := HW.out.lt
      have HKA := Lib.hid (HK.out.trans (KeepW.alloc hwl (.cells #[.string sn, .slice Aj nj cj] 90)))
      have HBA : Hid (Below wb w (wr.alloc (.cells #[.string sn, .slice Aj nj cj] 90))) := Lib.hid (HB.out.alloc (by omega) _)
      have hbal : Below B wr (wr.alloc (.cells #[.string sn, .slice Aj nj cj] 90)) := ((Below.refl _ wr).alloc (Nat.le_refl _) (.cells #[.string sn, .slice Aj nj cj] 90)).mono (by omega)
      have HC := Lib.hid (service_any (s := sn) (c0 := cj) (HW.out.alloc (.cells #[.string sn, .slice Aj nj cj] 90)) (HRG.out.below re_turns hbal) hB HSZ.out.1 HSZ.out.2 (by
        have h2 := HLJ.out
        have h4 := HLEN.out
        rw [List.length_append, List.length_append]
        omega))
      clear hbal
      go_wp2_with fail
      refine HC.out.mono ?_
      rintro e w2 ⟨rfl, h2, hb2, hk2⟩
      have H2 : Hid (Wr 120 w2 wb (xs ++ enc n ++ fl svO (l.take (j + 1))) (f || badSv (l.take (j + 1)))) := Lib.hid (by
        rw [take_d l j (by rw [HLL.out]; exact hjn), fl_snoc, badSv_snoc, HX.out, ← List.append_assoc, ← Bool.or_assoc]
        exact h2)
      have HB2 := Lib.hid (HBA.out.trans hb2)
      have HK2 := Lib.hid (HKA.out.trans hk2)
      clear h2 hb2 hk2 HC
      go_wp2
      go_roundw
      case rel => exact ⟨j + 1, by omega, rfl, H2, HB2, HK2⟩
      case measure => simp [intOf]; omega
    · have hd : decide ((j : Int) < (n : Int)) = false := by simp; omega
      obtain rfl : j = n := by omega
      go_wp2
      go_end0
      refine ⟨rfl, ?_, HB.out, HK.out⟩
      have := HW.out
      rw [List.take_of_length_le (by rw [HLL.out]; omega)] at this
      exact this
set_option maxHeartbeats 4000000 in
theorem putCat_any {w : World} {B c1 : Nat} {A1 : Option Addr} {l : List Sv} (h : RdG 2 svI w (fun b => B ≤ b) A1 l.length l) (hB : B ≤ w.heap.size) (hsh : ShCat l) (hln : (fl svO l).length ≤ 400000000) :
    Calls Try.prog 12 #[.agg #[.slice A1 l.length c1]] w fun e w' => (∃ A' n' c' er, e = .returned (.tuple #[.slice A' n' c', .int .i64 er]) ∧ WrEnd w' (w.heap.size + 1) (catO l) (badSv l) (.slice A' n' c') er) ∧ Below w.heap.size w w' := by
  have hl1 := hsh.1
  have he1 := enc_small (n := l.length) (by omega)
  obtain ⟨W, hW⟩ : ∃ W, W = (w.alloc (.cells #[.slice A1 l.length c1] 24)).alloc (.cells #[.slice none 0 0, .bool false] 120) := ⟨_, rfl⟩
  have hbl : Below w.heap.size w W := by rw [hW]; exact ((Below.refl _ w).alloc (Nat.le_refl _) _).alloc (by simp) _
  have h0 : W.heap[w.heap.size]? = some (.cells #[.slice A1 l.length c1] 24 (0, 0)) := by
    rw [hW, Below.heap_alloc _ _ _ (by simp)]; exact heap_alloc_new w _
  have hw0 : Wr 120 W (w.heap.size + 1) [] false := by
    rw [hW]
    have h := Wr.new (T := 120) (w.alloc (.cells #[.slice A1 l.length c1] 24))
    rw [World.size_alloc] at h; exact h
  have HR0 := Lib.hid (h.below sv_turns (hbl.mono hB))
  have HB0 := Lib.hid hbl
  have H0 := Lib.hid h0
  have HW0 := Lib.hid hw0
  have HWW := Lib.hid hW
  clear h hbl h0 hw0 hW
  go_enter Try.func12, Try.ntmps12
  go_upto_region 2 with fail
  rw [← HWW.out]
  clear HWW
  obtain ⟨x0, _⟩ := row1f H0.out
  have HC1 := Lib.hid (put_services (c := c1) HW0.out HR0.out (by omega) hsh (by simp only [List.length_nil]; omega))
  go_wp2_with fail
  refine HC1.out.mono ?_
  rintro e w4 ⟨rfl, hw, hb, _⟩
  have HW4 := Lib.hid hw
  have HB4 : Hid (Below w.heap.size w w4) := Lib.hid (HB0.out.trans (hb.mono (by omega)))
  clear hw hb HC1 x0 HW0
  go_wp2_with fail
  refine (written_any HW4.out).mono ?_
  rintro e w5 ⟨⟨A', n', c', er, rfl, hwe⟩, rfl⟩
  have HE : Hid (WrEnd w4 (w.heap.size + 1) (catO l) (badSv l) (.slice A' n' c') er) := Lib.hid (by
    have h := hwe
    rw [List.nil_append, Bool.false_or] at h
    exact h)
  clear hwe HW4
  go_wp2
  go_ret2
  exact ⟨⟨A', n', c', er, rfl, HE.out⟩, HB4.out⟩
end Go.Proofs.Ytmfoammkcokcoaa
