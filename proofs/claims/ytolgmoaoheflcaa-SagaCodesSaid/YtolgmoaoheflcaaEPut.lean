/-
  CONTRACTS of the writers of layer 12: lists of numbers.
-/
import Derived.Test.YtolgmoaoheflcaaEWr
namespace Go.Proofs.Ytolgmoaoheflcaa
open Go.RowKit
open ByteP CodeP
set_option linter.unusedVariables false
set_option maxRecDepth 10000

def outs (l : List Int) : List Int := (l.map outI).flatten
def bads (l : List Int) : Bool := l.any (fun n => !okI n)
theorem outs_nil : outs [] = [] := rfl
theorem outs_snoc (l : List Int) (x : Int) : outs (l ++ [x]) = outs l ++ outI x := by simp [outs]
theorem bads_snoc (l : List Int) (x : Int) : bads (l ++ [x]) = (bads l || !okI x) := by simp [bads]
theorem outs_len (l : List Int) : (outs l).length ≤ 6 * l.length := by
  induction l with
  | nil => simp [outs]
  | cons x l ih =>
    have e : outs (x :: l) = outI x ++ outs l := by simp [outs]
    rw [e, List.length_append, List.length_cons]
    have := outI_len x
    omega
theorem okI_nat {n : Nat} (h : n ≤ 1099511627776) : okI (n : Int) = true := decide_eq_true (by omega)
theorem outI_nat {n : Nat} (h : n ≤ 1099511627776) : outI (n : Int) = enc n := by unfold outI; rw [if_pos (okI_nat h)]; simp

set_option maxHeartbeats 1000000 in
theorem put_ints {w : World} {wb B n c : Nat} {xs l : List Int} {f : Bool} {A : Option Addr} (h : Wr 108 w wb xs f) (hr : Rd w B A n l) (hB : B ≤ wb) (hn : n ≤ 2000000) (hl : xs.length + 6 * (n + 2) ≤ 1000000000) :
    Calls Try.prog 76 #[.pointer (some ⟨wb, 0, none⟩), .slice A n c, .func (.func 77) #[.pointer (some ⟨wb, 0, none⟩)] #[]] w fun e w' => e = .returned (.tuple #[]) ∧ Wr 108 w' wb (xs ++ enc n ++ outs l) (f || bads l) ∧ Below wb w w' ∧ KeepW w w' wb := by
  have H := Lib.hid h
  have HR := Lib.hid hr
  have hll := hr.len
  have HLL := Lib.hid hll
  clear h hr hll
  go_enter Try.func76, Try.ntmps76
  go_wp2_with fail
  refine (number_any H.out (n : Int) (by omega)).mono ?_
  rintro e w1 ⟨rfl, h1, hb1, hk1⟩
  have HK1 := Lib.hid hk1
  clear hk1
  rw [outI_nat (by omega), okI_nat (by omega)] at h1
  have H1 : Hid (Wr 108 w1 wb (xs ++ enc n) f) := Lib.hid (by simpa using h1)
  have HB1 := Lib.hid hb1
  have HE : Hid ((enc n).length ≤ 6) := Lib.hid (enc_six (by omega))
  clear h1 hb1
  go_wp2
  go_loopw [7, 14] (fun _ v wr => ∃ j : Nat, j ≤ n ∧ v = .int .i64 (j : Int) ∧ Hid (Wr 108 wr wb (xs ++ enc n ++ outs (l.take j)) (f || bads (l.take j))) ∧ Hid (Below wb w wr) ∧ Hid (KeepW w wr wb)) (fun _ v _ => n - (intOf v).toNat)
  case atStart => exact ⟨0, Nat.zero_le _, rfl, Lib.hid (by simpa [outs, bads] using H1.out), HB1, HK1⟩
  case round =>
    obtain ⟨j, hj, rfl, HW, HB, HK⟩ := hrel
    by_cases hjn : j < n
    · have hd : decide ((j : Int) < (n : Int)) = true := by simp; omega
      have hi : (j : Int) < (n : Int) := by omega
      have hadd : IntKind.i64.wrap ((j : Int) + 1) = ((j + 1 : Nat) : Int) := by rw [IntWalk.i64_in _ (by omega)]; omega
      obtain ⟨b1, o1, rfl, _, hcell⟩ := (HR.out.below (HB.out.mono hB)).at_ hjn
      obtain ⟨x, HX⟩ : ∃ x, Hid (ix l j = x) := ⟨_, Lib.hid rfl⟩
      rw [HX.out] at hcell
      have HC := Lib.hid (number_any HW.out x (by
        have h2 := outs_len (l.take j)
        have h3 := HE.out
        have h4 := HLL.out
        rw [List.length_append, List.length_append]
        rw [List.length_take] at h2
        omega))
      go_wp2_with fail
      refine HC.out.mono ?_
      rintro e w2 ⟨rfl, h2, hb2, hk2⟩
      have HK2 := Lib.hid (HK.out.trans hk2)
      clear hk2
      have H2 : Hid (Wr 108 w2 wb (xs ++ enc n ++ outs (l.take (j + 1))) (f || bads (l.take (j + 1)))) := Lib.hid (by
        rw [take_ix l j (by rw [HLL.out]; exact hjn), outs_snoc, bads_snoc, HX.out, ← List.append_assoc, ← Bool.or_assoc]
        exact h2)
      have HB2 : Hid (Below wb w w2) := Lib.hid (HB.out.trans hb2)
      clear h2 hb2 HC
      go_wp2
      go_roundw
      case rel => exact ⟨j + 1, by omega, rfl, H2, HB2, HK2⟩
      case measure => simp [intOf]; omega
    · have hd : decide ((j : Int) < (n : Int)) = false := by simp; omega
      obtain rfl : j = n := by omega
      go_wp2
      go_end0
      refine ⟨rfl, ?_, HB.out, HK.out⟩
      have := HW.out
      rw [List.take_of_length_le (by rw [HLL.out]; omega)] at this
      exact this
set_option maxHeartbeats 1000000 in
theorem intsW_any {w : World} {wb B n c : Nat} {xs l : List Int} {f : Bool} {A : Option Addr} (h : Wr 79 w wb xs f) (hr : Rd w B A n l) (hB : B ≤ wb) (hn : n ≤ 2000000) (hl : xs.length + 6 * (n + 2) ≤ 1000000000) :
    Calls Try.prog 44 #[.pointer (some ⟨wb, 0, none⟩), .slice A n c] w fun e w' => e = .returned (.tuple #[]) ∧ Wr 79 w' wb (xs ++ enc n ++ outs l) (f || bads l) ∧ Below wb w w' ∧ KeepW w w' wb := by
  have H := Lib.hid h
  have HR := Lib.hid hr
  have hll := hr.len
  have HLL := Lib.hid hll
  clear h hr hll
  go_enter Try.func44, Try.ntmps44
  go_wp2_with fail
  refine (numW_any H.out (n : Int) (by omega)).mono ?_
  rintro e w1 ⟨rfl, h1, hb1, hk1⟩
  have HK1 := Lib.hid hk1
  clear hk1
  rw [outI_nat (by omega), okI_nat (by omega)] at h1
  have H1 : Hid (Wr 79 w1 wb (xs ++ enc n) f) := Lib.hid (by simpa using h1)
  have HB1 := Lib.hid hb1
  have HE : Hid ((enc n).length ≤ 6) := Lib.hid (enc_six (by omega))
  clear h1 hb1
  go_wp2
  go_loopw [4] (fun v wr => ∃ j : Nat, j ≤ n ∧ v = .int .i64 (j : Int) ∧ Hid (Wr 79 wr wb (xs ++ enc n ++ outs (l.take j)) (f || bads (l.take j))) ∧ Hid (Below wb w wr) ∧ Hid (KeepW w wr wb)) (fun v _ => n - (intOf v).toNat)
  case atStart => exact ⟨0, Nat.zero_le _, rfl, Lib.hid (by simpa [outs, bads] using H1.out), HB1, HK1⟩
  case round =>
    obtain ⟨j, hj, rfl, HW, HB, HK⟩ := hrel
    by_cases hjn : j < n
    · have hd : decide ((j : Int) < (n : Int)) = true := by simp; omega
      have hi : (j : Int) < (n : Int) := by omega
      have hadd : IntKind.i64.wrap ((j : Int) + 1) = ((j + 1 : Nat) : Int) := by rw [IntWalk.i64_in _ (by omega)]; omega
      obtain ⟨b1, o1, rfl, _, hcell⟩ := (HR.out.below (HB.out.mono hB)).at_ hjn
      obtain ⟨x, HX⟩ : ∃ x, Hid (ix l j = x) := ⟨_, Lib.hid rfl⟩
      rw [HX.out] at hcell
      have HC := Lib.hid (numW_any HW.out x (by
        have h2 := outs_len (l.take j)
        have h3 := HE.out
        have h4 := HLL.out
        rw [List.length_append, List.length_append]
        rw [List.length_take] at h2
        omega))
      go_wp2_with fail
      refine HC.out.mono ?_
      rintro e w2 ⟨rfl, h2, hb2, hk2⟩
      have HK2 := Lib.hid (HK.out.trans hk2)
      clear hk2
      have H2 : Hid (Wr 79 w2 wb (xs ++ enc n ++ outs (l.take (j + 1))) (f || bads (l.take (j + 1)))) := Lib.hid (by
        rw [take_ix l j (by rw [HLL.out]; exact hjn), outs_snoc, bads_snoc, HX.out, ← List.append_assoc, ← Bool.or_assoc]
        exact h2)
      have HB2 : Hid (Below wb w w2) := Lib.hid (HB.out.trans hb2)
      clear h2 hb2 HC
      go_wp2
      go_roundw
      case rel => exact ⟨j + 1, by omega, rfl, H2, HB2, HK2⟩
      case measure => simp [intOf]; omega
    · have hd : decide ((j : Int) < (n : Int)) = false := by simp; omega
      obtain rfl : j = n := by omega
      go_wp2
      go_end0
      refine ⟨rfl, ?_, HB.out, HK.out⟩
      have := HW.out
      rw [List.take_of_length_le (by rw [HLL.out]; omega)] at this
      exact this
theorem numbersW_any {w : World} {wb B n c : Nat} {xs l : List Int} {f : Bool} {A : Option Addr} (h : Wr 108 w wb xs f) (hr : Rd w B A n l) (hB : B ≤ wb) (hn : n ≤ 2000000) (hl : xs.length + 6 * (n + 2) ≤ 1000000000) :
    Calls Try.prog 54 #[.pointer (some ⟨wb, 0, none⟩), .slice A n c] w fun e w' => e = .returned (.tuple #[]) ∧ Wr 108 w' wb (xs ++ enc n ++ outs l) (f || bads l) ∧ Below wb w w' ∧ KeepW w w' wb := by
  have HC := Lib.hid (put_ints (c := c) h hr hB hn hl)
  clear h hr
  go_enter Try.func54, Try.ntmps54
  go_wp2_with fail
  refine HC.out.mono ?_
  rintro e w1 ⟨rfl, h1, hb1, hk1⟩
  have H1 := Lib.hid h1
  have HB1 := Lib.hid hb1
  have HK1 := Lib.hid hk1
  clear h1 hb1 hk1
  go_wp2
  go_end0
  exact ⟨rfl, H1.out, HB1.out, HK1.out⟩
/-- What a writer hands out. -/
def WrEnd (w : World) (wb : Nat) (xs : List Int) (f : Bool) (v : Value) (e : Int) : Prop :=
  (f = true → v = .slice none 0 0 ∧ e = 12) ∧ (f = false → e = 0 ∧ OwnY w (wb + 1) v xs.length xs)
theorem written_any {w : World} {wb : Nat} {xs : List Int} {f : Bool} (h : Wr 108 w wb xs f) :
    Calls Try.prog 59 #[.pointer (some ⟨wb, 0, none⟩)] w fun e w' => (∃ A n c er, e = .returned (.tuple #[.slice A n c, .int .i64 er]) ∧ WrEnd w wb xs f (.slice A n c) er) ∧ w = w' := by
  obtain ⟨A, c, hrow, hown⟩ := h.row
  obtain ⟨hc0, hc1, _, _⟩ := row2 hrow
  have HO := Lib.hid hown
  clear h hrow hown
  cases f with
  | true =>
    go_enter Try.func59, Try.ntmps59
    go_wp2
    go_ret2
    exact ⟨⟨none, 0, 0, 12, rfl, fun _ => ⟨rfl, rfl⟩, fun h => by cases h⟩, rfl⟩
  | false =>
    go_enter Try.func59, Try.ntmps59
    go_wp2
    go_ret2
    exact ⟨⟨A, _, c, 0, rfl, fun h => (by cases h), fun _ => ⟨rfl, HO.out⟩⟩, rfl⟩
theorem Wr.new {T : TypeId} (w : World) : Wr T (w.alloc (.cells #[.slice none 0 0, .bool false] T)) w.heap.size [] false :=
  ⟨none, 0, heap_alloc_new w _, OwnY.nil_ _ _⟩
set_option maxHeartbeats 1000000 in
theorem putN_any {w : World} {B n c : Nat} {l : List Int} {A : Option Addr} (hr : Rd w B A n l) (hB : B ≤ w.heap.size) (hn : n ≤ 2000000) :
    Calls Try.prog 42 #[.slice A n c] w fun e w' => (∃ A' n' c' er, e = .returned (.tuple #[.slice A' n' c', .int .i64 er]) ∧ WrEnd w' w.heap.size (enc n ++ outs l) (bads l) (.slice A' n' c') er) ∧ Below w.heap.size w w' := by
  have HR := Lib.hid (hr.below (w' := w.alloc (.cells #[.slice none 0 0, .bool false] 108)) (((Below.refl _ w).alloc (Nat.le_refl _) _).mono hB))
  have HB0 : Hid (Below w.heap.size w (w.alloc (.cells #[.slice none 0 0, .bool false] 108))) := Lib.hid ((Below.refl _ w).alloc (Nat.le_refl _) _)
  have HW := Lib.hid (Wr.new (T := 108) w)
  clear hr
  go_enter Try.func42, Try.ntmps42
  go_wp2_with fail
  refine (numbersW_any HW.out HR.out hB hn (by simp; omega)).mono ?_
  rintro e w1 ⟨rfl, h1, hb1, _⟩
  rw [List.nil_append, Bool.false_or] at h1
  have H1 := Lib.hid h1
  have HB1 : Hid (Below w.heap.size w w1) := Lib.hid (HB0.out.trans hb1)
  clear h1 hb1
  go_wp2_with fail
  refine (written_any H1.out).mono ?_
  rintro e w2 ⟨⟨A', n', c', er, rfl, hend⟩, rfl⟩
  have HE := Lib.hid hend
  clear hend
  go_wp2
  go_ret2
  exact ⟨⟨A', n', c', er, rfl, HE.out⟩, HB1.out⟩
end Go.Proofs.Ytolgmoaoheflcaa
