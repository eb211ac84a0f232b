/-
  Lists of comparisons, and ranges, that are written by the program.
-/
import Derived.Test.YtmfoammkcokcoaaTWa
namespace Go.Proofs.Ytmfoammkcokcoaa
open Go.RowKit
open ByteP CodeP
set_option linter.unusedVariables false
set_option maxRecDepth 10000
def cvAt (l : List CV) (j : Nat) : CV := l.getD j default
theorem take_cv (l : List CV) (k : Nat) (h : k < l.length) : l.take (k + 1) = l.take k ++ [cvAt l k] := by
  rw [List.take_add_one, List.getElem?_eq_getElem h]
  simp [cvAt, List.getD, h]
/-- A slice of comparisons reads, in w, as l; it lies below block B. -/
def RdC (w : World) (B : Nat) (A : Option Addr) (n : Nat) (l : List CV) : Prop := l.length = n ∧ ∀ j, j < n → ∃ b off, A = some ⟨b, off, none⟩ ∧ b < B ∧
  w.cell? ⟨b, off + j * 5, none⟩ = some (.int .i64 (cvAt l j).op) ∧ w.cell? ⟨b, off + j * 5 + 1, none⟩ = some (.int .i64 (cvAt l j).a) ∧ w.cell? ⟨b, off + j * 5 + 2, none⟩ = some (.int .i64 (cvAt l j).b) ∧ w.cell? ⟨b, off + j * 5 + 3, none⟩ = some (.int .i64 (cvAt l j).c) ∧ w.cell? ⟨b, off + j * 5 + 4, none⟩ = some (.string (cvAt l j).s)
theorem RdC.below {w w' : World} {B n : Nat} {A : Option Addr} {l : List CV} (h : RdC w B A n l) (hb : Below B w w') : RdC w' B A n l := ⟨h.1, fun j hj => by
  obtain ⟨b, off, e, hlt, h0, h1, h2, h3, h4⟩ := h.2 j hj
  exact ⟨b, off, e, hlt, (hb.cell hlt).trans h0, (hb.cell hlt).trans h1, (hb.cell hlt).trans h2, (hb.cell hlt).trans h3, (hb.cell hlt).trans h4⟩⟩
theorem RdC.more {w : World} {B B' n : Nat} {A : Option Addr} {l : List CV} (h : RdC w B A n l) (hb : B ≤ B') : RdC w B' A n l := ⟨h.1, fun j hj => by
  obtain ⟨b, off, e, hlt, h0, h1, h2, h3, h4⟩ := h.2 j hj
  exact ⟨b, off, e, by omega, h0, h1, h2, h3, h4⟩⟩
def outC (l : List CV) : List Int := (l.map compO).flatten
def badC (l : List CV) : Bool := l.any compB
theorem outC_snoc (l : List CV) (x : CV) : outC (l ++ [x]) = outC l ++ compO x := by simp [outC]
theorem badC_snoc (l : List CV) (x : CV) : badC (l ++ [x]) = (badC l || compB x) := by simp [badC]
theorem outC_take (l : List CV) (j : Nat) : (outC (l.take j)).length ≤ (outC l).length := by
  have h : outC l = outC (l.take j) ++ outC (l.drop j) := by
    unfold outC
    rw [← List.flatten_append, ← List.map_append, List.take_append_drop]
  rw [h, List.length_append]; omega
def lsAt (r : List (List CV)) (j : Nat) : List CV := r.getD j []
theorem take_ls (l : List (List CV)) (k : Nat) (h : k < l.length) : l.take (k + 1) = l.take k ++ [lsAt l k] := by
  rw [List.take_add_one, List.getElem?_eq_getElem h]
  simp [lsAt, List.getD, h]
/-- A slice of lists reads, in w, as r. -/
def RdR (w : World) (B : Nat) (A : Option Addr) (m : Nat) (r : List (List CV)) : Prop := r.length = m ∧ ∀ j, j < m → ∃ b off Aj nj cj, A = some ⟨b, off, none⟩ ∧ b < B ∧ w.cell? ⟨b, off + j, none⟩ = some (.slice Aj nj cj) ∧ RdC w B Aj nj (lsAt r j)
theorem RdR.below {w w' : World} {B m : Nat} {A : Option Addr} {r : List (List CV)} (h : RdR w B A m r) (hb : Below B w w') : RdR w' B A m r := ⟨h.1, fun j hj => by
  obtain ⟨b, off, Aj, nj, cj, e, hlt, h0, h1⟩ := h.2 j hj
  exact ⟨b, off, Aj, nj, cj, e, hlt, (hb.cell hlt).trans h0, h1.below hb⟩⟩
theorem RdR.more {w : World} {B B' m : Nat} {A : Option Addr} {r : List (List CV)} (h : RdR w B A m r) (hb : B ≤ B') : RdR w B' A m r := ⟨h.1, fun j hj => by
  obtain ⟨b, off, Aj, nj, cj, e, hlt, h0, h1⟩ := h.2 j hj
  exact ⟨b, off, Aj, nj, cj, e, by omega, h0, h1.more hb⟩⟩
def lisO (l : List CV) : List Int := enc l.length ++ outC l
def outL (r : List (List CV)) : List Int := (r.map lisO).flatten
def badL (r : List (List CV)) : Bool := r.any badC
theorem outL_snoc (l : List (List CV)) (x : List CV) : outL (l ++ [x]) = outL l ++ lisO x := by simp [outL]
theorem badL_snoc (l : List (List CV)) (x : List CV) : badL (l ++ [x]) = (badL l || badC x) := by simp [badL]
theorem outL_take (l : List (List CV)) (j : Nat) : (outL (l.take j)).length ≤ (outL l).length := by
  have h : outL l = outL (l.take j) ++ outL (l.drop j) := by
    unfold outL
    rw [← List.flatten_append, ← List.map_append, List.take_append_drop]
  rw [h, List.length_append]; omega
theorem outL_at (l : List (List CV)) (j : Nat) (h : j < l.length) : (outL (l.take j)).length + (lisO (lsAt l j)).length ≤ (outL l).length := by
  have := outL_take l (j + 1)
  rw [take_ls l j h, outL_snoc, List.length_append] at this
  exact this
def ShC (l : List CV) : Prop := l.length ≤ 2000000 ∧ ∀ x ∈ l, x.s.size ≤ 2000000
def ShL (r : List (List CV)) : Prop := r.length ≤ 2000000 ∧ ∀ l ∈ r, ShC l
theorem cvAt_mem {l : List CV} {j : Nat} (h : j < l.length) : cvAt l j ∈ l := by simp [cvAt, List.getD, h]
theorem lsAt_mem {r : List (List CV)} {j : Nat} (h : j < r.length) : lsAt r j ∈ r := by simp [lsAt, List.getD, h]
set_option maxHeartbeats 2000000 in
theorem put_comps {w : World} {wb B n c : Nat} {xs : List Int} {l : List CV} {f : Bool} {A : Option Addr} (h : Wr 120 w wb xs f) (hr : RdC w B A n l) (hB : B ≤ wb) (hsh : ShC l) (hl : xs.length + (outC l).length ≤ 600000006) :
    Calls Try.prog 91 #[.pointer (some ⟨wb, 0, none⟩), .slice A n c, .func (.func 92) #[.pointer (some ⟨wb, 0, none⟩)] #[]] w fun e w' => e = .returned (.tuple #[]) ∧ Wr 120 w' wb (xs ++ enc n ++ outC l) (f || badC l) ∧ Below wb w w' ∧ KeepW w w' wb := by
  have H := Lib.hid h
  have HR := Lib.hid hr
  have HLL := Lib.hid hr.1
  have HSH := Lib.hid hsh
  have HLEN := Lib.hid hl
  have hn : n ≤ 2000000 := by have := hr.1; have := hsh.1; omega
  clear h hr hsh hl
  go_enter Try.func91, Try.ntmps91
  go_wp2_with fail
  refine (number_any H.out (n : Int) (by have := HLEN.out; omega)).mono ?_
  rintro e w1 ⟨rfl, h1, hb1, hk1⟩
  rw [outI_nat (by omega), okI_nat (by omega)] at h1
  have H1 : Hid (Wr 120 w1 wb (xs ++ enc n) f) := Lib.hid (by simpa using h1)
  have HB1 := Lib.hid hb1
  have HK1 := Lib.hid hk1
  have HE : Hid ((enc n).length ≤ 6) := Lib.hid (enc_six (by omega))
  clear h1 hb1 hk1
  go_wp2
  go_loopw [7, 14] (fun _ v wr => ∃ j : Nat, j ≤ n ∧ v = .int .i64 (j : Int) ∧ Hid (Wr 120 wr wb (xs ++ enc n ++ outC (l.take j)) (f || badC (l.take j))) ∧ Hid (Below wb w wr) ∧ Hid (KeepW w wr wb)) (fun _ v _ => n - (intOf v).toNat)
  case atStart => exact ⟨0, Nat.zero_le _, rfl, Lib.hid (by simpa [outC, badC] using H1.out), HB1, HK1⟩
  case round =>
    obtain ⟨j, hj, rfl, HW, HB, HK⟩ := hrel
    by_cases hjn : j < n
    · have hd : decide ((j : Int) < (n : Int)) = true := by simp; omega
      have hi : (j : Int) < (n : Int) := by omega
      have hadd : IntKind.i64.wrap ((j : Int) + 1) = ((j + 1 : Nat) : Int) := by rw [IntWalk.i64_in _ (by omega)]; omega
      have hjl : j < l.length := by rw [HLL.out]; exact hjn
      have hsz := HSH.out.2 _ (cvAt_mem hjl)
      obtain ⟨b1, o1, rfl, _, k0, k1, k2, k3, k4⟩ := (HR.out.below (HB.out.mono hB)).2 j hjn
      obtain ⟨x, HX⟩ : ∃ x, Hid (cvAt l j = x) := ⟨_, Lib.hid rfl⟩
      rw [HX.out] at k0 k1 k2 k3 k4 hsz
      obtain ⟨op, a, b, c2, s⟩ := x
      simp only at k0 k1 k2 k3 k4 hsz
      have hwl := HW.out.lt
      have HKA := Lib.hid (HK.out.trans (KeepW.alloc hwl (.cells #[.int .i64 op, .int .i64 a, .int .i64 b, .int .i64 c2, .string s] 155)))
      have HBA : Hid (Below wb w (wr.alloc (.cells #[.int .i64 op, .int .i64 a, .int .i64 b, .int .i64 c2, .string s] 155))) := Lib.hid (HB.out.alloc (by omega) _)
      have HC := Lib.hid (comp_any (HW.out.alloc (.cells #[.int .i64 op, .int .i64 a, .int .i64 b, .int .i64 c2, .string s] 155)) op a b c2 s hsz (by
        have h2 := outC_take l j
        have h3 := HE.out
        have h4 := HLEN.out
        rw [List.length_append, List.length_append]
        omega))
      go_wp2_with fail
      refine HC.out.mono ?_
      rintro e w2 ⟨rfl, h2, hb2, hk2⟩
      have H2 : Hid (Wr 120 w2 wb (xs ++ enc n ++ outC (l.take (j + 1))) (f || badC (l.take (j + 1)))) := Lib.hid (by
        rw [take_cv l j (by rw [HLL.out]; exact hjn), outC_snoc, badC_snoc, HX.out, ← List.append_assoc, ← Bool.or_assoc]
        exact h2)
      have HB2 := Lib.hid (HBA.out.trans hb2)
      have HK2 := Lib.hid (HKA.out.trans hk2)
      clear h2 hb2 hk2 HC
      go_wp2
      go_roundw
      case rel => exact ⟨j + 1, by omega, rfl, H2, HB2, HK2⟩
      case measure => simp [intOf]; omega
    · have hd : decide ((j : Int) < (n : Int)) = false := by simp; omega
      obtain rfl : j = n := by omega
      go_wp2
      go_end0
      refine ⟨rfl, ?_, HB.out, HK.out⟩
      have := HW.out
      rw [List.take_of_length_le (by rw [HLL.out]; omega)] at this
      exact this
theorem comps_any {w : World} {wb B n c : Nat} {xs : List Int} {l : List CV} {f : Bool} {A : Option Addr} (h : Wr 120 w wb xs f) (hr : RdC w B A n l) (hB : B ≤ wb) (hsh : ShC l) (hl : xs.length + (outC l).length ≤ 600000006) :
    Calls Try.prog 88 #[.pointer (some ⟨wb, 0, none⟩), .slice A n c] w fun e w' => e = .returned (.tuple #[]) ∧ Wr 120 w' wb (xs ++ lisO l) (f || badC l) ∧ Below wb w w' ∧ KeepW w w' wb := by
  have HP := Lib.hid (put_comps (c := c) h hr hB hsh hl)
  have HEQ : Hid (xs ++ enc n ++ outC l = xs ++ lisO l) := Lib.hid (by unfold lisO; rw [hr.1, List.append_assoc])
  clear h hr hl
  go_enter Try.func88, Try.ntmps88
  go_wp2_with fail
  refine HP.out.mono ?_
  rintro e w1 ⟨rfl, h1, hb1, hk1⟩
  rw [HEQ.out] at h1
  have H1 := Lib.hid (And.intro h1 (And.intro hb1 hk1))
  clear h1 hb1 hk1
  go_wp2
  go_end0
  exact ⟨rfl, H1.out⟩
set_option maxHeartbeats 2000000 in
theorem put_lists {w : World} {wb B n c : Nat} {xs : List Int} {l : List (List CV)} {f : Bool} {A : Option Addr} (h : Wr 120 w wb xs f) (hr : RdR w B A n l) (hB : B ≤ wb) (hsh : ShL l) (hl : xs.length + (outL l).length ≤ 600000000) :
    Calls Try.prog 87 #[.pointer (some ⟨wb, 0, none⟩), .slice A n c, .func (.func 88) #[.pointer (some ⟨wb, 0, none⟩)] #[]] w fun e w' => e = .returned (.tuple #[]) ∧ Wr 120 w' wb (xs ++ enc n ++ outL l) (f || badL l) ∧ Below wb w w' ∧ KeepW w w' wb := by
  have H := Lib.hid h
  have HR := Lib.hid hr
  have HLL := Lib.hid hr.1
  have HSH := Lib.hid hsh
  have HLEN := Lib.hid hl
  have hn : n ≤ 2000000 := by have := hr.1; have := hsh.1; omega
  clear h hr hsh hl
  go_enter Try.func87, Try.ntmps87
  go_wp2_with fail
  refine (number_any H.out (n : Int) (by have := HLEN.out; omega)).mono ?_
  rintro e w1 ⟨rfl, h1, hb1, hk1⟩
  rw [outI_nat (by omega), okI_nat (by omega)] at h1
  have H1 : Hid (Wr 120 w1 wb (xs ++ enc n) f) := Lib.hid (by simpa using h1)
  have HB1 := Lib.hid hb1
  have HK1 := Lib.hid hk1
  have HE : Hid ((enc n).length ≤ 6) := Lib.hid (enc_six (by omega))
  clear h1 hb1 hk1
  go_wp2
  go_loopw [7, 14] (fun _ v wr => ∃ j : Nat, j ≤ n ∧ v = .int .i64 (j : Int) ∧ Hid (Wr 120 wr wb (xs ++ enc n ++ outL (l.take j)) (f || badL (l.take j))) ∧ Hid (Below wb w wr) ∧ Hid (KeepW w wr wb)) (fun _ v _ => n - (intOf v).toNat)
  case atStart => exact ⟨0, Nat.zero_le _, rfl, Lib.hid (by simpa [outL, badL] using H1.out), HB1, HK1⟩
  case round =>
    obtain ⟨j, hj, rfl, HW, HB, HK⟩ := hrel
    by_cases hjn : j < n
    · have hd : decide ((j : Int) < (n : Int)) = true := by simp; omega
      have hi : (j : Int) < (n : Int) := by omega
      have hadd : IntKind.i64.wrap ((j : Int) + 1) = ((j + 1 : Nat) : Int) := by rw [IntWalk.i64_in _ (by omega)]; omega
      have hjl : j < l.length := by rw [HLL.out]; exact hjn
      have hsz := HSH.out.2 _ (lsAt_mem hjl)
      obtain ⟨b1, o1, Aj, nj, cj, rfl, _, k0, k1⟩ := (HR.out.below (HB.out.mono hB)).2 j hjn
      obtain ⟨x, HX⟩ : ∃ x, Hid (lsAt l j = x) := ⟨_, Lib.hid rfl⟩
      rw [HX.out] at k1 hsz
      have hwl := HW.out.lt
      have HKA := HK
      have HBA := HB
      have HC := Lib.hid (comps_any (c := cj) HW.out k1 hB hsz (by
        have h2 := outL_at l j hjl
        have h3 := HE.out
        have h4 := HLEN.out
        rw [HX.out] at h2
        unfold lisO at h2
        rw [List.length_append] at h2
        rw [List.length_append, List.length_append]
        omega))
      go_wp2_with fail
      refine HC.out.mono ?_
      rintro e w2 ⟨rfl, h2, hb2, hk2⟩
      have H2 : Hid (Wr 120 w2 wb (xs ++ enc n ++ outL (l.take (j + 1))) (f || badL (l.take (j + 1)))) := Lib.hid (by
        rw [take_ls l j (by rw [HLL.out]; exact hjn), outL_snoc, badL_snoc, HX.out, ← List.append_assoc, ← Bool.or_assoc]
        exact h2)
      have HB2 := Lib.hid (HBA.out.trans hb2)
      have HK2 := Lib.hid (HKA.out.trans hk2)
      clear h2 hb2 hk2 HC
      go_wp2
      go_roundw
      case rel => exact ⟨j + 1, by omega, rfl, H2, HB2, HK2⟩
      case measure => simp [intOf]; omega
    · have hd : decide ((j : Int) < (n : Int)) = false := by simp; omega
      obtain rfl : j = n := by omega
      go_wp2
      go_end0
      refine ⟨rfl, ?_, HB.out, HK.out⟩
      have := HW.out
      rw [List.take_of_length_le (by rw [HLL.out]; omega)] at this
      exact this
/-- A range: its lists. -/
def rngO (r : List (List CV)) : List Int := enc r.length ++ outL r
theorem span_any {w : World} {wb B n c : Nat} {xs : List Int} {l : List (List CV)} {f : Bool} {A : Option Addr} (h : Wr 120 w wb xs f) (hr : RdR w B A n l) (hB : B ≤ wb) (hsh : ShL l) (hl : xs.length + (outL l).length ≤ 600000000) :
    Calls Try.prog 75 #[.pointer (some ⟨wb, 0, none⟩), .agg #[.slice A n c]] w fun e w' => e = .returned (.tuple #[]) ∧ Wr 120 w' wb (xs ++ rngO l) (f || badL l) ∧ Below wb w w' ∧ KeepW w w' wb := by
  have hlt := h.lt
  have HBA : Hid (Below wb w (w.alloc (.cells #[.slice A n c] 105))) := Lib.hid (((Below.refl _ w).alloc (Nat.le_refl _) _).mono (by omega))
  have HKA := Lib.hid (KeepW.alloc hlt (.cells #[.slice A n c] 105))
  have HP := Lib.hid (put_lists (c := c) (h.alloc (.cells #[.slice A n c] 105)) (hr.below (HBA.out.mono hB)) hB hsh hl)
  have HEQ : Hid (xs ++ enc n ++ outL l = xs ++ rngO l) := Lib.hid (by unfold rngO; rw [hr.1, List.append_assoc])
  clear h hr hl
  go_enter Try.func75, Try.ntmps75
  go_wp2_with fail
  refine HP.out.mono ?_
  rintro e w1 ⟨rfl, h1, hb1, hk1⟩
  rw [HEQ.out] at h1
  have H1 := Lib.hid (And.intro h1 (And.intro (HBA.out.trans hb1) (HKA.out.trans hk1)))
  clear h1 hb1 hk1
  go_wp2
  go_end0
  exact ⟨rfl, H1.out⟩
end Go.Proofs.Ytmfoammkcokcoaa
