/-
  Ranges that the document's writer writes.
-/
import Derived.Test.YtmfoammkcokcoaaTLs
namespace Go.Proofs.Ytmfoammkcokcoaa
open Go.RowKit
open ByteP CodeP
set_option linter.unusedVariables false
set_option maxRecDepth 10000
theorem eqVer0 (w : World) (a b c : Int) (s : ByteArray) : (Op.equalIn 10000 99 (.agg #[.int .i64 a, .int .i64 b, .int .i64 c, .string s]) (.agg #[.int .i64 0, .int .i64 0, .int .i64 0, .string ⟨#[]⟩])).run Try.prog w = .ok (zeroV a b c s) w := by
  unfold zeroV
  rw [show (10000 : Nat) = 9998 + 1 + 1 from rfl]
  go_simp
  by_cases h1 : a = 0
  · by_cases h2 : b = 0
    · by_cases h3 : c = 0
      · by_cases h4 : s = ⟨#[]⟩
        · subst h1 h2 h3 h4; simp
        · have h5 : s.toList ≠ [] := fun e => h4 (toL_inj (e.trans (by simp [ByteArray.toList_eq])))
          simp [h1, h2, h3, h4, h5]
      · simp [h1, h2, h3]
    · simp [h1, h2]
  · simp [h1]
theorem outC_at (l : List CV) (j : Nat) (h : j < l.length) : (outC (l.take j)).length + (compO (cvAt l j)).length ≤ (outC l).length := by
  have := outC_take l (j + 1)
  rw [take_cv l j h, outC_snoc, List.length_append] at this
  exact this
theorem row1t {w : World} {g : Nat} {x : Value} {t : TypeId} (h : w.heap[g]? = some (.cells #[x] t (0, 0))) : w.cell? ⟨g, 0, none⟩ = some x := by
  rw [cell_of_row w g 0 _ _ _ h]; rfl
attribute [local go_sem ↓] eqVer0
set_option maxHeartbeats 8000000 in
theorem rangedW_any {w : World} {wb B n c : Nat} {xs : List Int} {l : List (List CV)} {f : Bool} {A : Option Addr} (h : Wr 34 w wb xs f) (hr : RdR w B A n l) (hB : B ≤ wb) (hsh : ShL l) (hl : xs.length + (outL l).length ≤ 600000000) :
    Calls Try.prog 35 #[.pointer (some ⟨wb, 0, none⟩), .agg #[.slice A n c]] w fun e w' => e = .returned (.tuple #[]) ∧ Wr 34 w' wb (xs ++ rngO l) (f || badL l) ∧ Below wb w w' ∧ KeepW w w' wb := by
  have hlt := h.lt
  obtain ⟨W, hW⟩ : ∃ W, W = w.alloc (.cells #[.slice A n c] 110) := ⟨_, rfl⟩
  have HA : Wr 34 W wb xs f := by rw [hW]; exact h.alloc _
  have HK0 : Hid (KeepW w W wb) := Lib.hid (by rw [hW]; exact KeepW.alloc hlt _)
  have HB0 : Hid (Below wb w W) := Lib.hid (by rw [hW]; exact ((Below.refl _ w).alloc (Nat.le_refl _) _).mono (by omega))
  have hab : W.heap[w.heap.size]? = some (.cells #[.slice A n c] 110 (0, 0)) := by rw [hW]; exact heap_alloc_new w _
  have HNO : Hid (¬ OwnW W wb w.heap.size) := Lib.hid (by rw [hW]; exact ownW_new h (Nat.le_refl _) (Below.heap_alloc w _ wb hlt))
  have HROW := Lib.hid hab
  have hz : w.heap.size < W.heap.size := by rw [hW]; simp
  have HBX : Hid (∀ w', KeepW W w' wb → w'.heap[w.heap.size]? = some (.cells #[.slice A n c] 110 (0, 0))) := Lib.hid (fun w' hk => (hk.block w.heap.size hz (by omega) HNO.out).trans HROW.out)
  have HR : Hid (RdR W B A n l) := Lib.hid (hr.below (HB0.out.mono hB))
  have HLL := Lib.hid hr.1
  have HSH := Lib.hid hsh
  have HLEN := Lib.hid hl
  have hn : n ≤ 2000000 := by have := hr.1; have := hsh.1; omega
  have c0 := row1t hab
  have HF := Lib.hid (numW_any HA (n : Int) (by omega))
  have HEQ : Hid (xs ++ enc n ++ outL l = xs ++ rngO l) := Lib.hid (by unfold rngO; rw [hr.1, List.append_assoc])
  have HWE := Lib.hid hW
  clear h hab HA hW hr hsh hl
  go_enter Try.func35, Try.ntmps35
  go_upto_region 1 with fail
  rw [← HWE.out]
  go_wp2_with fail
  refine HF.out.mono ?_
  rintro e w1 ⟨rfl, h1, hb1, hk1⟩
  rw [outI_nat (by omega), okI_nat (by omega)] at h1
  have H1 : Hid (Wr 34 w1 wb (xs ++ enc n) f) := Lib.hid (by simpa using h1)
  have HB1 := Lib.hid hb1
  have HK1 := Lib.hid hk1
  have HE : Hid ((enc n).length ≤ 6) := Lib.hid (enc_six (by omega))
  clear h1 hb1 hk1 c0 HF
  go_wp2_with fail
  go_loopw [4, 5, 6, 7] (fun v _ _ _ wr => ∃ j : Nat, j ≤ n ∧ v = .int .i64 (j : Int) ∧ Hid (Wr 34 wr wb (xs ++ enc n ++ outL (l.take j)) (f || badL (l.take j))) ∧ Hid (Below wb W wr) ∧ Hid (KeepW W wr wb)) (fun v _ _ _ _ => n - (intOf v).toNat)
  case atStart => exact ⟨0, Nat.zero_le _, rfl, Lib.hid (by simpa [outL, badL] using H1.out), HB1, HK1⟩
  case round =>
    obtain ⟨wo, hwo⟩ : ∃ x, x = wr := ⟨_, rfl⟩
    subst hwo
    obtain ⟨j, hj, rfl, HW, HB, HK⟩ := hrel
    have y0 := row1t (HBX.out wo HK.out)
    by_cases hjn : j < n
    · have hd : decide ((j : Int) < (n : Int)) = true := by simp; omega
      have hi : (j : Int) < (n : Int) := by omega
      have hadd : IntKind.i64.wrap ((j : Int) + 1) = ((j + 1 : Nat) : Int) := by rw [IntWalk.i64_in _ (by omega)]; omega
      have hjl : j < l.length := by rw [HLL.out]; exact hjn
      have HSJ := Lib.hid (HSH.out.2 _ (lsAt_mem hjl))
      obtain ⟨b1, o1, Aj, nj, cj, rfl, hb1B, k0, k1⟩ := (HR.out.below (HB.out.mono hB)).2 j hjn
      obtain ⟨x, HX⟩ : ∃ x, Hid (lsAt l j = x) := ⟨_, Lib.hid rfl⟩
      rw [HX.out] at k1 HSJ
      have hnj : nj ≤ 2000000 := by have := k1.1; have := HSJ.out.1; omega
      have HXL := Lib.hid k1.1
      have HLJ : Hid ((outL (l.take j)).length + (6 + (outC x).length) ≤ (outL l).length + 6) := Lib.hid (by
        have h2 := outL_at l j hjl
        rw [HX.out] at h2
        unfold lisO at h2
        rw [List.length_append] at h2
        omega)
      have HC := Lib.hid (numW_any HW.out (nj : Int) (by
        have h3 := HE.out
        have h4 := HLEN.out
        have h5 := HLJ.out
        rw [List.length_append, List.length_append]
        omega))
      have HKD : Hid (∀ w', Below wb wo w' → w'.cell? ⟨b1, o1 + j, none⟩ = some (.slice Aj nj cj)) := Lib.hid (fun w' hb => (hb.cell (p := ⟨b1, o1 + j, none⟩) (by show b1 < wb; omega)).trans k0)
      have HRC : Hid (RdC wo B Aj nj x) := Lib.hid k1
      clear k1 H1
      go_wp2_with fail
      refine HC.out.mono ?_
      rintro e w2 ⟨rfl, h2, hb2, hk2⟩
      rw [outI_nat (by omega), okI_nat (by omega)] at h2
      have H2 : Hid (Wr 34 w2 wb (xs ++ enc n ++ outL (l.take j) ++ enc nj) (f || badL (l.take j))) := Lib.hid (by simpa using h2)
      have HB2 := Lib.hid hb2
      have HK2 := Lib.hid hk2
      have HE2 : Hid ((enc nj).length ≤ 6) := Lib.hid (enc_six (by omega))
      clear h2 hb2 hk2 HC k0 y0
      go_wp2_with fail
      go_loopw [5, 6, 7] (fun v _ _ wr => ∃ k : Nat, k ≤ nj ∧ v = .int .i64 (k : Int) ∧ Hid (Wr 34 wr wb (xs ++ enc n ++ outL (l.take j) ++ enc nj ++ outC (x.take k)) (f || badL (l.take j) || badC (x.take k))) ∧ Hid (Below wb wo wr) ∧ Hid (KeepW wo wr wb)) (fun v _ _ _ => nj - (intOf v).toNat)
      case atStart => exact ⟨0, Nat.zero_le _, rfl, Lib.hid (by simpa [outC, badC] using H2.out), HB2, HK2⟩
      case round =>
        obtain ⟨k, hk, rfl, HWk, HBk, HKk⟩ := hrel
        have hKW := HK.out.trans HKk.out
        have y0 := row1t (HBX.out wr hKW)
        have z0 := HKD.out wr HBk.out
        by_cases hkn : k < nj
        · have hd2 : decide ((k : Int) < (nj : Int)) = true := by simp; omega
          have hi2 : (k : Int) < (nj : Int) := by omega
          have hadd2 : IntKind.i64.wrap ((k : Int) + 1) = ((k + 1 : Nat) : Int) := by rw [IntWalk.i64_in _ (by omega)]; omega
          have hkl : k < x.length := by rw [HXL.out]; exact hkn
          have hsz := HSJ.out.2 _ (cvAt_mem hkl)
          obtain ⟨b2, o2, rfl, hb2B, q0, q1, q2, q3, q4⟩ := (HRC.out.below (HBk.out.mono hB)).2 k hkn
          obtain ⟨y, HY⟩ : ∃ y, Hid (cvAt x k = y) := ⟨_, Lib.hid rfl⟩
          have HYL := Lib.hid (outC_at x k hkl)
          rw [HY.out] at q0 q1 q2 q3 q4 hsz HYL
          obtain ⟨op, a, b, c2, s⟩ := y
          simp only at q0 q1 q2 q3 q4 hsz
          have HSZ := Lib.hid hsz
          have hwl := HWk.out.lt
          obtain ⟨X, HX2⟩ : ∃ X, Hid (X = (wr.alloc (.cells #[.int .i64 op, .int .i64 a, .int .i64 b, .int .i64 c2, .string s] 157)).alloc (.cells #[.int .i64 0, .int .i64 0, .int .i64 0, .string ⟨#[]⟩] 99)) := ⟨_, Lib.hid rfl⟩
          have hzX : X.heap.size = wr.heap.size + 2 := by rw [HX2.out]; simp
          have HWX : Hid (Wr 34 X wb (xs ++ enc n ++ outL (l.take j) ++ enc nj ++ outC (x.take k)) (f || badL (l.take j) || badC (x.take k))) := Lib.hid (by rw [HX2.out]; exact (HWk.out.alloc _).alloc _)
          have HKX : Hid (KeepW wr X wb) := Lib.hid (by rw [HX2.out]; exact (KeepW.alloc hwl _).trans (KeepW.alloc (by simp; omega) _))
          have HBX2 : Hid (Below wb wr X) := Lib.hid (by rw [HX2.out]; exact ((Below.refl wb wr).alloc (by omega) _).alloc (by simp; omega) _)
          have hcb : X.heap[wr.heap.size]? = some (.cells #[.int .i64 op, .int .i64 a, .int .i64 b, .int .i64 c2, .string s] 157 (0, 0)) := by
            rw [HX2.out, Below.heap_alloc _ _ _ (by simp)]; exact heap_alloc_new wr _
          have hvb : X.heap[wr.heap.size + 1]? = some (.cells #[.int .i64 0, .int .i64 0, .int .i64 0, .string ⟨#[]⟩] 99 (0, 0)) := by
            rw [HX2.out]
            have h := heap_alloc_new (wr.alloc (.cells #[.int .i64 op, .int .i64 a, .int .i64 b, .int .i64 c2, .string s] 157)) (.cells #[.int .i64 0, .int .i64 0, .int .i64 0, .string ⟨#[]⟩] 99)
            rw [World.size_alloc] at h; exact h
          have hwX : X.heap[wb]? = wr.heap[wb]? := by rw [HX2.out, Below.heap_alloc _ _ _ (by simp; omega), Below.heap_alloc _ _ _ hwl]
          have HN1 : Hid (¬ OwnW X wb wr.heap.size) := Lib.hid (ownW_new HWk.out (Nat.le_refl _) hwX)
          have HN2 : Hid (¬ OwnW X wb (wr.heap.size + 1)) := Lib.hid (ownW_new HWk.out (by omega) hwX)
          have HCB := Lib.hid hcb
          have HVB := Lib.hid hvb
          have HLB : Hid (wr.heap.size < X.heap.size ∧ wr.heap.size + 1 < X.heap.size ∧ wr.heap.size ≠ wb ∧ wr.heap.size + 1 ≠ wb) := Lib.hid ⟨by omega, by omega, by omega, by omega⟩
          obtain ⟨d0, d1, d2, d3, d4⟩ := cells5 hcb
          have HNU := Lib.hid (numW_any HWX.out op (by
            have h3 := HE.out
            have h4 := HLEN.out
            have h5 := HLJ.out
            have h6 := HE2.out
            have h7 := outC_take x k
            rw [List.length_append, List.length_append, List.length_append, List.length_append]
            omega))
          have HLX : Hid ((xs ++ enc n ++ outL (l.take j) ++ enc nj ++ outC (x.take k) ++ outI op).length ≤ 800000000) := Lib.hid (by
            have h3 := HE.out
            have h4 := HLEN.out
            have h5 := HLJ.out
            have h6 := HE2.out
            have h7 := outC_take x k
            have h8 := outI_len op
            rw [List.length_append, List.length_append, List.length_append, List.length_append, List.length_append]
            omega)
          clear hcb hvb hwX hzX hsz
          go_upto_region 11 with fail
          rw [← HX2.out]
          go_wp2_with fail
          refine HNU.out.mono ?_
          rintro e w3 ⟨rfl, h3, hb3, hk3⟩
          obtain ⟨e0, e1, e2, e3, e4⟩ := cells5 ((hk3.block _ HLB.out.1 HLB.out.2.2.1 HN1.out).trans HCB.out)
          obtain ⟨v0, v1, v2, v3⟩ := row4t ((hk3.block _ HLB.out.2.1 HLB.out.2.2.2 HN2.out).trans HVB.out)
          have H3 := Lib.hid h3
          have HB3 := Lib.hid (HBk.out.trans (HBX2.out.trans hb3))
          have HK3 := Lib.hid (HKk.out.trans (HKX.out.trans hk3))
          have HEND : Hid (∀ w' g, Wr 34 w' wb (xs ++ enc n ++ outL (l.take j) ++ enc nj ++ outC (x.take k) ++ compO ⟨op, a, b, c2, s⟩) g → g = (f || badL (l.take j) || badC (x.take k) || compB ⟨op, a, b, c2, s⟩) → Wr 34 w' wb (xs ++ enc n ++ outL (l.take j) ++ enc nj ++ outC (x.take (k + 1))) (f || badL (l.take j) || badC (x.take (k + 1)))) := Lib.hid (fun w' g h hg => by
            rw [take_cv x k hkl, outC_snoc, badC_snoc, HY.out, ← List.append_assoc, ← Bool.or_assoc, ← hg]
            exact h)
          clear h3 hb3 hk3 d0 d1 d2 d3 d4 q0 q1 q2 q3 q4 z0 y0
          by_cases h0 : op = 0
          · subst h0
            cases hzv : zeroV a b c2 s with
            | true =>
              have HF3 := Lib.hid (HEND.out w3 _ (by
                have e1 : compO ⟨0, a, b, c2, s⟩ = outI 0 := by simp [compO]
                rw [e1]; exact H3.out) (by simp [compB, hzv]))
              go_wp2_with fail
              go_roundw
              case rel => exact ⟨k + 1, by omega, by go_num, HF3, HB3, HK3⟩
              case measure => simp [intOf]; omega
            | false =>
              have HF3 := Lib.hid (HEND.out (w3.setCell ⟨wb, 1, none⟩ (.bool true)) true (by
                have e1 : compO ⟨0, a, b, c2, s⟩ = outI 0 := by simp [compO]
                rw [e1]; exact (Wr.bad H3.out).1) (by simp [compB, hzv]))
              have HBD := Lib.hid (HB3.out.trans (Wr.bad H3.out).2.1)
              have HKD3 := Lib.hid (HK3.out.trans (Wr.bad H3.out).2.2)
              obtain ⟨AW, cW, hrow, _⟩ := H3.out.row
              obtain ⟨g0, g1, g2, g3⟩ := row2 hrow
              clear hrow
              go_wp2_with fail
              go_roundw
              case rel => exact ⟨k + 1, by omega, by go_num, HF3, HBD, HKD3⟩
              case measure => simp [intOf]; omega
          · have hne : (op != 0) = true := by simp [h0]
            have HV := Lib.hid (versionW_any H3.out a b c2 s HSZ.out HLX.out)
            go_wp2_with fail
            refine HV.out.mono ?_
            rintro e w4 ⟨rfl, h4, hb4, hk4⟩
            have HF4 := Lib.hid (HEND.out w4 _ (by
              have e1 : compO ⟨op, a, b, c2, s⟩ = outI op ++ verO a b c2 s := by simp [compO, h0]
              rw [e1, ← List.append_assoc]; exact h4) (by simp [compB, h0, Bool.or_assoc]))
            have HB4 := Lib.hid (HB3.out.trans hb4)
            have HK4 := Lib.hid (HK3.out.trans hk4)
            clear h4 hb4 hk4 e0 e1 e2 e3 e4 v0 v1 v2 v3
            go_wp2_with fail
            go_roundw
            case rel => exact ⟨k + 1, by omega, by go_num, HF4, HB4, HK4⟩
            case measure => simp [intOf]; omega
        · have hd2 : decide ((k : Int) < (nj : Int)) = false := by simp; omega
          obtain rfl : k = nj := by omega
          have HN : Hid (Wr 34 wr wb (xs ++ enc n ++ outL (l.take (j + 1))) (f || badL (l.take (j + 1)))) := Lib.hid (by
            have h2 := HWk.out
            rw [List.take_of_length_le (l := x) (by rw [HXL.out]; omega)] at h2
            rw [take_ls l j hjl, outL_snoc, badL_snoc, HX.out]
            unfold lisO
            rw [HXL.out]
            rw [← List.append_assoc, ← List.append_assoc, ← Bool.or_assoc]
            exact h2)
          go_wp2_with fail
          go_roundw
          case rel => exact ⟨j + 1, by omega, by go_num, HN, Lib.hid (HB.out.trans HBk.out), Lib.hid hKW⟩
          case measure => simp [intOf]; omega
    · have hd : decide ((j : Int) < (n : Int)) = false := by simp; omega
      obtain rfl : j = n := by omega
      go_wp2_with fail
      go_end0
      refine ⟨rfl, ?_, HB0.out.trans HB.out, HK0.out.trans HK.out⟩
      have := HW.out
      rw [List.take_of_length_le (by rw [HLL.out]; omega), HEQ.out] at this
      exact this
end Go.Proofs.Ytmfoammkcokcoaa
