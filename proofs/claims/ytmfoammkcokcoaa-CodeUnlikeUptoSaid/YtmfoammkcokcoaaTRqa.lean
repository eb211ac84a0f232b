/-
  Requests that are written, by both.
  Requests that the document's writer writes.
-/
import Derived.Test.YtmfoammkcokcoaaTRg
import Derived.Test.YtmfoammkcokcoaaPPp
namespace Go.Proofs.Ytmfoammkcokcoaa
section
open Go.RowKit
open ByteP CodeP
set_option linter.unusedVariables false
set_option maxRecDepth 10000
instance : Inhabited (Int × List (List CV)) := ⟨(0, [])⟩
def pnAt (l : List (Int × List (List CV))) (j : Nat) : Int × List (List CV) := l.getD j default
theorem take_pn (l : List (Int × List (List CV))) (k : Nat) (h : k < l.length) : l.take (k + 1) = l.take k ++ [pnAt l k] := by
  rw [List.take_add_one, List.getElem?_eq_getElem h]
  simp [pnAt, List.getD, h]
theorem pnAt_mem {l : List (Int × List (List CV))} {j : Nat} (h : j < l.length) : pnAt l j ∈ l := by simp [pnAt, List.getD, h]
/-- A slice of pins reads, in w, as l. -/
def RdN (w : World) (B : Nat) (A : Option Addr) (n : Nat) (l : List (Int × List (List CV))) : Prop := l.length = n ∧ ∀ j, j < n → ∃ b off Aj nj cj, A = some ⟨b, off, none⟩ ∧ b < B ∧ w.cell? ⟨b, off + j * 2, none⟩ = some (.int .i64 (pnAt l j).1) ∧ w.cell? ⟨b, off + j * 2 + 1, none⟩ = some (.slice Aj nj cj) ∧ RdR w B Aj nj (pnAt l j).2
theorem RdN.below {w w' : World} {B n : Nat} {A : Option Addr} {l : List (Int × List (List CV))} (h : RdN w B A n l) (hb : Below B w w') : RdN w' B A n l := ⟨h.1, fun j hj => by
  obtain ⟨b, off, Aj, nj, cj, e, hlt, h0, h1, h2⟩ := h.2 j hj
  exact ⟨b, off, Aj, nj, cj, e, hlt, (hb.cell hlt).trans h0, (hb.cell hlt).trans h1, h2.below hb⟩⟩
theorem RdN.more {w : World} {B B' n : Nat} {A : Option Addr} {l : List (Int × List (List CV))} (h : RdN w B A n l) (hb : B ≤ B') : RdN w B' A n l := ⟨h.1, fun j hj => by
  obtain ⟨b, off, Aj, nj, cj, e, hlt, h0, h1, h2⟩ := h.2 j hj
  exact ⟨b, off, Aj, nj, cj, e, by omega, h0, h1, h2.more hb⟩⟩
def pinO (p : Int × List (List CV)) : List Int := outI p.1 ++ rngO p.2
def pinB (p : Int × List (List CV)) : Bool := !okI p.1 || badL p.2
def outN (l : List (Int × List (List CV))) : List Int := (l.map pinO).flatten
def badN (l : List (Int × List (List CV))) : Bool := l.any pinB
theorem outN_snoc (l : List (Int × List (List CV))) (x : Int × List (List CV)) : outN (l ++ [x]) = outN l ++ pinO x := by simp [outN]
theorem badN_snoc (l : List (Int × List (List CV))) (x : Int × List (List CV)) : badN (l ++ [x]) = (badN l || pinB x) := by simp [badN]
theorem outN_take (l : List (Int × List (List CV))) (j : Nat) : (outN (l.take j)).length ≤ (outN l).length := by
  have h : outN l = outN (l.take j) ++ outN (l.drop j) := by
    unfold outN
    rw [← List.flatten_append, ← List.map_append, List.take_append_drop]
  rw [h, List.length_append]; omega
theorem outN_at (l : List (Int × List (List CV))) (j : Nat) (h : j < l.length) : (outN (l.take j)).length + (pinO (pnAt l j)).length ≤ (outN l).length := by
  have := outN_take l (j + 1)
  rw [take_pn l j h, outN_snoc, List.length_append] at this
  exact this
def ShN (l : List (Int × List (List CV))) : Prop := l.length ≤ 2000000 ∧ ∀ p ∈ l, ShL p.2
set_option maxHeartbeats 2000000 in
theorem pin_any {w : World} {wb B n c : Nat} {xs : List Int} {l : List (List CV)} {f : Bool} {A : Option Addr} (h : Wr 120 w wb xs f) (sv : Int) (hr : RdR w B A n l) (hB : B ≤ wb) (hsh : ShL l) (hl : xs.length + (outL l).length ≤ 590000000) :
    Calls Try.prog 49 #[.pointer (some ⟨wb, 0, none⟩), .agg #[.int .i64 sv, .slice A n c]] w fun e w' => e = .returned (.tuple #[]) ∧ Wr 120 w' wb (xs ++ pinO (sv, l)) (f || pinB (sv, l)) ∧ Below wb w w' ∧ KeepW w w' wb := by
  have hlt := h.lt
  obtain ⟨W, hW⟩ : ∃ W, W = w.alloc (.cells #[.int .i64 sv, .slice A n c] 134) := ⟨_, rfl⟩
  have HA : Wr 120 W wb xs f := by rw [hW]; exact h.alloc _
  have HK0 : Hid (KeepW w W wb) := Lib.hid (by rw [hW]; exact KeepW.alloc hlt _)
  have HB0 : Hid (Below wb w W) := Lib.hid (by rw [hW]; exact ((Below.refl _ w).alloc (Nat.le_refl _) _).mono (by omega))
  have hab : W.heap[w.heap.size]? = some (.cells #[.int .i64 sv, .slice A n c] 134 (0, 0)) := by rw [hW]; exact heap_alloc_new w _
  have HNO : Hid (¬ OwnW W wb w.heap.size) := Lib.hid (by rw [hW]; exact ownW_new h (Nat.le_refl _) (Below.heap_alloc w _ wb hlt))
  have HROW := Lib.hid hab
  have hz : w.heap.size < W.heap.size := by rw [hW]; simp
  have HBX : Hid (∀ w', KeepW W w' wb → w'.heap[w.heap.size]? = some (.cells #[.int .i64 sv, .slice A n c] 134 (0, 0))) := Lib.hid (fun w' hk => (hk.block w.heap.size hz (by omega) HNO.out).trans HROW.out)
  obtain ⟨c0, c1, _, _⟩ := row2 hab
  have HF := Lib.hid (number_any HA sv (by omega))
  have HRW : Hid (RdR W B A n l) := Lib.hid (hr.below (HB0.out.mono hB))
  have HWE := Lib.hid hW
  clear h hab HA hW hr
  go_enter Try.func49, Try.ntmps49
  go_upto_region 1 with fail
  rw [← HWE.out]
  go_wp2_with fail
  refine HF.out.mono ?_
  rintro e w1 ⟨rfl, h1, hb1, hk1⟩
  obtain ⟨d0, d1, _, _⟩ := row2 (HBX.out w1 hk1)
  have HB1 := Lib.hid (HB0.out.trans hb1)
  have HK1 := Lib.hid (HK0.out.trans hk1)
  have HS := Lib.hid (span_any (c := c) h1 (HRW.out.below (hb1.mono hB)) hB hsh (by rw [List.length_append]; have := outI_len sv; omega))
  clear h1 hb1 hk1 c0 c1
  go_wp2_with fail
  refine HS.out.mono ?_
  rintro e w2 ⟨rfl, h2, hb2, hk2⟩
  have H2 : Hid (Wr 120 w2 wb (xs ++ pinO (sv, l)) (f || pinB (sv, l))) := Lib.hid (by
    unfold pinO pinB
    rw [← List.append_assoc, ← Bool.or_assoc]; exact h2)
  have HB2 := Lib.hid (HB1.out.trans hb2)
  have HK2 := Lib.hid (HK1.out.trans hk2)
  clear h2 hb2 hk2 d0 d1
  go_wp2
  go_end0
  exact ⟨rfl, H2.out, HB2.out, HK2.out⟩
set_option maxHeartbeats 2000000 in
theorem put_pins {w : World} {wb B n c : Nat} {xs : List Int} {l : List (Int × List (List CV))} {f : Bool} {A : Option Addr} (h : Wr 120 w wb xs f) (hr : RdN w B A n l) (hB : B ≤ wb) (hsh : ShN l) (hl : xs.length + (outN l).length ≤ 580000000) :
    Calls Try.prog 48 #[.pointer (some ⟨wb, 0, none⟩), .slice A n c, .func (.func 49) #[.pointer (some ⟨wb, 0, none⟩)] #[]] w fun e w' => e = .returned (.tuple #[]) ∧ Wr 120 w' wb (xs ++ enc n ++ outN l) (f || badN l) ∧ Below wb w w' ∧ KeepW w w' wb := by
  have H := Lib.hid h
  have HR := Lib.hid hr
  have HLL := Lib.hid hr.1
  have HSH := Lib.hid hsh
  have HLEN := Lib.hid hl
  have hn : n ≤ 2000000 := by have := hr.1; have := hsh.1; omega
  clear h hr hsh hl
  go_enter Try.func48, Try.ntmps48
  go_wp2_with fail
  refine (number_any H.out (n : Int) (by have := HLEN.out; omega)).mono ?_
  rintro e w1 ⟨rfl, h1, hb1, hk1⟩
  rw [outI_nat (by omega), okI_nat (by omega)] at h1
  have H1 : Hid (Wr 120 w1 wb (xs ++ enc n) f) := Lib.hid (by simpa using h1)
  have HB1 := Lib.hid hb1
  have HK1 := Lib.hid hk1
  have HE : Hid ((enc n).length ≤ 6) := Lib.hid (enc_six (by omega))
  clear h1 hb1 hk1
  go_wp2
  go_loopw [7, 14] (fun _ v wr => ∃ j : Nat, j ≤ n ∧ v = .int .i64 (j : Int) ∧ Hid (Wr 120 wr wb (xs ++ enc n ++ outN (l.take j)) (f || badN (l.take j))) ∧ Hid (Below wb w wr) ∧ Hid (KeepW w wr wb)) (fun _ v _ => n - (intOf v).toNat)
  case atStart => exact ⟨0, Nat.zero_le _, rfl, Lib.hid (by simpa [outN, badN] using H1.out), HB1, HK1⟩
  case round =>
    obtain ⟨j, hj, rfl, HW, HB, HK⟩ := hrel
    by_cases hjn : j < n
    · have hd : decide ((j : Int) < (n : Int)) = true := by simp; omega
      have hi : (j : Int) < (n : Int) := by omega
      have hadd : IntKind.i64.wrap ((j : Int) + 1) = ((j + 1 : Nat) : Int) := by rw [IntWalk.i64_in _ (by omega)]; omega
      have hjl : j < l.length := by rw [HLL.out]; exact hjn
      have hsz := HSH.out.2 _ (pnAt_mem hjl)
      obtain ⟨b1, o1, Aj, nj, cj, rfl, _, k0, k1, k2⟩ := (HR.out.below (HB.out.mono hB)).2 j hjn
      obtain ⟨x, HX⟩ : ∃ x, Hid (pnAt l j = x) := ⟨_, Lib.hid rfl⟩
      have h2 := outN_at l j hjl
      rw [HX.out] at k0 k2 hsz h2
      obtain ⟨sv, rg⟩ := x
      simp only at k0 k2 hsz
      have HSZ := Lib.hid hsz
      have HRG := Lib.hid k2
      have HLJ : Hid ((outN (l.take j)).length + (outL rg).length ≤ (outN l).length) := Lib.hid (by
        unfold pinO rngO at h2
        rw [List.length_append, List.length_append] at h2
        dsimp only at h2
        omega)
      clear h2 k2 hsz
      have hwl := HW.out.lt
      have HKA := Lib.hid (HK.out.trans (KeepW.alloc hwl (.cells #[.int .i64 sv, .slice Aj nj cj] 134)))
      have HBA : Hid (Below wb w (wr.alloc (.cells #[.int .i64 sv, .slice Aj nj cj] 134))) := Lib.hid (HB.out.alloc (by omega) _)
      have HC := Lib.hid (pin_any (c := cj) (HW.out.alloc (.cells #[.int .i64 sv, .slice Aj nj cj] 134)) sv (HRG.out.below (((Below.refl _ wr).alloc (Nat.le_refl _) (.cells #[.int .i64 sv, .slice Aj nj cj] 134)).mono (by omega))) hB HSZ.out (by
        have h2 := HLJ.out
        have h3 := HE.out
        have h4 := HLEN.out
        rw [List.length_append, List.length_append]
        omega))
      go_wp2_with fail
      refine HC.out.mono ?_
      rintro e w2 ⟨rfl, h2, hb2, hk2⟩
      have H2 : Hid (Wr 120 w2 wb (xs ++ enc n ++ outN (l.take (j + 1))) (f || badN (l.take (j + 1)))) := Lib.hid (by
        rw [take_pn l j (by rw [HLL.out]; exact hjn), outN_snoc, badN_snoc, HX.out, ← List.append_assoc, ← Bool.or_assoc]
        exact h2)
      have HB2 := Lib.hid (HBA.out.trans hb2)
      have HK2 := Lib.hid (HKA.out.trans hk2)
      clear h2 hb2 hk2 HC
      go_wp2
      go_roundw
      case rel => exact ⟨j + 1, by omega, rfl, H2, HB2, HK2⟩
      case measure => simp [intOf]; omega
    · have hd : decide ((j : Int) < (n : Int)) = false := by simp; omega
      obtain rfl : j = n := by omega
      go_wp2
      go_end0
      refine ⟨rfl, ?_, HB.out, HK.out⟩
      have := HW.out
      rw [List.take_of_length_le (by rw [HLL.out]; omega)] at this
      exact this
def rqO (l : List (Int × List (List CV))) (ms : List Int) : List Int := enc l.length ++ outN l ++ enc ms.length ++ outs ms
def rqB (l : List (Int × List (List CV))) (ms : List Int) : Bool := badN l || bads ms
/-- A request's two lists, read. -/
structure RdRq (w : World) (B : Nat) (A1 A2 : Option Addr) (l : List (Int × List (List CV))) (ms : List Int) : Prop where
  r1 : RdN w B A1 l.length l
  r2 : Rd w B A2 ms.length ms
  sh : ShN l
  l2 : ms.length ≤ 10000
  ln : (outN l).length ≤ 400000000
theorem RdRq.below {w w' : World} {B : Nat} {A1 A2 : Option Addr} {l : List (Int × List (List CV))} {ms : List Int} (h : RdRq w B A1 A2 l ms) (hb : Below B w w') : RdRq w' B A1 A2 l ms := ⟨h.r1.below hb, h.r2.below hb, h.sh, h.l2, h.ln⟩
set_option maxHeartbeats 4000000 in
theorem putRq_any {w : World} {B c1 c2 : Nat} {A1 A2 : Option Addr} {l : List (Int × List (List CV))} {ms : List Int} (h : RdRq w B A1 A2 l ms) (hB : B ≤ w.heap.size) :
    Calls Try.prog 20 #[.agg #[.slice A1 l.length c1, .slice A2 ms.length c2]] w fun e w' => (∃ A' n' c' er, e = .returned (.tuple #[.slice A' n' c', .int .i64 er]) ∧ WrEnd w' (w.heap.size + 1) (rqO l ms) (rqB l ms) (.slice A' n' c') er) ∧ Below w.heap.size w w' := by
  have hl1 := h.sh.1
  have hl2 := h.l2
  have hl3 := h.ln
  have he1 := enc_small (n := l.length) (by omega)
  obtain ⟨W, hW⟩ : ∃ W, W = (w.alloc (.cells #[.slice A1 l.length c1, .slice A2 ms.length c2] 53)).alloc (.cells #[.slice none 0 0, .bool false] 120) := ⟨_, rfl⟩
  have hbl : Below w.heap.size w W := by rw [hW]; exact ((Below.refl _ w).alloc (Nat.le_refl _) _).alloc (by simp) _
  have h0 : W.heap[w.heap.size]? = some (.cells #[.slice A1 l.length c1, .slice A2 ms.length c2] 53 (0, 0)) := by
    rw [hW, Below.heap_alloc _ _ _ (by simp)]; exact heap_alloc_new w _
  have hw0 : Wr 120 W (w.heap.size + 1) [] false := by
    rw [hW]
    have h := Wr.new (T := 120) (w.alloc (.cells #[.slice A1 l.length c1, .slice A2 ms.length c2] 53))
    rw [World.size_alloc] at h; exact h
  have HR0 := Lib.hid (h.below (hbl.mono hB))
  have HB0 := Lib.hid hbl
  have H0 := Lib.hid h0
  have HW0 := Lib.hid hw0
  have HWW := Lib.hid hW
  clear h hbl h0 hw0 hW
  go_enter Try.func20, Try.ntmps20
  go_upto_region 2 with fail
  rw [← HWW.out]
  clear HWW
  obtain ⟨x0, x1, _, _⟩ := row2 H0.out
  have HC1 := Lib.hid (put_pins (c := c1) HW0.out HR0.out.r1 (by omega) HR0.out.sh (by simp only [List.length_nil]; omega))
  go_wp2_with fail
  refine HC1.out.mono ?_
  rintro e w1 ⟨rfl, hw, hb, _⟩
  have HW1 := Lib.hid hw
  have H1 : Hid (w1.heap[w.heap.size]? = _) := Lib.hid ((hb.block w.heap.size (by omega)).trans H0.out)
  have HB1 : Hid (Below w.heap.size w w1) := Lib.hid (HB0.out.trans (hb.mono (by omega)))
  have HR1 := Lib.hid (HR0.out.below (hb.mono (by omega)))
  clear hw hb HC1 x0 x1 HW0
  obtain ⟨x0, x1, _, _⟩ := row2 H1.out
  have HC2 := Lib.hid (numbersW_any (c := c2) HW1.out HR1.out.r2 (by omega) (by omega) (by simp only [List.length_append, List.length_nil]; omega))
  go_wp2_with fail
  refine HC2.out.mono ?_
  rintro e w4 ⟨rfl, hw, hb, _⟩
  have HW4 := Lib.hid hw
  have HB4 : Hid (Below w.heap.size w w4) := Lib.hid (HB1.out.trans (hb.mono (by omega)))
  clear hw hb HC2 x0 x1 HW1
  go_wp2_with fail
  refine (written_any HW4.out).mono ?_
  rintro e w5 ⟨⟨A', n', c', er, rfl, hwe⟩, rfl⟩
  have HE : Hid (WrEnd w4 (w.heap.size + 1) (rqO l ms) (rqB l ms) (.slice A' n' c') er) := Lib.hid (by
    have h := hwe
    rw [List.nil_append, Bool.false_or] at h
    exact h)
  clear hwe HW4
  go_wp2
  go_ret2
  exact ⟨⟨A', n', c', er, rfl, HE.out⟩, HB4.out⟩
end
section
open Go.RowKit
open ByteP CodeP
set_option linter.unusedVariables false
set_option maxRecDepth 10000
set_option maxHeartbeats 8000000 in
theorem requestW_any {w : World} {wb B c1 c2 : Nat} {xs : List Int} {A1 A2 : Option Addr} {l : List (Int × List (List CV))} {ms : List Int} (h : Wr 34 w wb [] false) (hr : RdRq w B A1 A2 l ms) (hB : B ≤ wb) :
    Calls Try.prog 19 #[.pointer (some ⟨wb, 0, none⟩), .agg #[.slice A1 l.length c1, .slice A2 ms.length c2]] w fun e w' => e = .returned (.tuple #[]) ∧ Wr 34 w' wb (rqO l ms) (rqB l ms) ∧ Below wb w w' ∧ KeepW w w' wb := by
  have hlt := h.lt
  have hl1 := hr.sh.1
  have hl2 := hr.l2
  have hl3 := hr.ln
  obtain ⟨W, hW⟩ : ∃ W, W = w.alloc (.cells #[.slice A1 l.length c1, .slice A2 ms.length c2] 56) := ⟨_, rfl⟩
  have HA : Wr 34 W wb [] false := by rw [hW]; exact h.alloc _
  have HK0 : Hid (KeepW w W wb) := Lib.hid (by rw [hW]; exact KeepW.alloc hlt _)
  have HB0 : Hid (Below wb w W) := Lib.hid (by rw [hW]; exact ((Below.refl _ w).alloc (Nat.le_refl _) _).mono (by omega))
  have hab : W.heap[w.heap.size]? = some (.cells #[.slice A1 l.length c1, .slice A2 ms.length c2] 56 (0, 0)) := by rw [hW]; exact heap_alloc_new w _
  have HNO : Hid (¬ OwnW W wb w.heap.size) := Lib.hid (by rw [hW]; exact ownW_new h (Nat.le_refl _) (Below.heap_alloc w _ wb hlt))
  have HROW := Lib.hid hab
  have hz : w.heap.size < W.heap.size := by rw [hW]; simp
  have HBX : Hid (∀ w', KeepW W w' wb → w'.heap[w.heap.size]? = some (.cells #[.slice A1 l.length c1, .slice A2 ms.length c2] 56 (0, 0))) := Lib.hid (fun w' hk => (hk.block w.heap.size hz (by omega) HNO.out).trans HROW.out)
  have HR : Hid (RdN W B A1 l.length l) := Lib.hid (hr.r1.below (HB0.out.mono hB))
  have HR2 : Hid (Rd W B A2 ms.length ms) := Lib.hid (hr.r2.below (HB0.out.mono hB))
  have HSH := Lib.hid hr.sh
  obtain ⟨n, HLL⟩ : ∃ n, Hid (l.length = n) := ⟨_, Lib.hid rfl⟩
  have hn : n ≤ 2000000 := by rw [← HLL.out]; exact hl1
  obtain ⟨c0, c01, _, _⟩ := row2 hab
  have HF := Lib.hid (numW_any HA (n : Int) (by simp only [List.length_nil]; omega))
  rw [HLL.out] at HR HBX c0
  have HWE := Lib.hid hW
  have HLEN := Lib.hid hl3
  have HL2 := Lib.hid hl2
  rw [HLL.out] at HWE
  clear h hab HA hW hr HROW hl1 hl2 hl3
  rw [HLL.out]
  go_enter Try.func19, Try.ntmps19
  go_upto_region 1 with fail
  rw [← HWE.out]
  go_wp2_with fail
  refine HF.out.mono ?_
  rintro e w1 ⟨rfl, h1, hb1, hk1⟩
  rw [outI_nat (by omega), okI_nat (by omega)] at h1
  have H1 : Hid (Wr 34 w1 wb (enc n) false) := Lib.hid (by simpa using h1)
  have HB1 := Lib.hid hb1
  have HK1 := Lib.hid hk1
  have HE : Hid ((enc n).length ≤ 6) := Lib.hid (enc_six (by omega))
  clear h1 hb1 hk1 c0 c01 HF
  go_wp2_with fail
  go_loopw [4] (fun v wr => ∃ j : Nat, j ≤ n ∧ v = .int .i64 (j : Int) ∧ Hid (Wr 34 wr wb (enc n ++ outN (l.take j)) (badN (l.take j))) ∧ Hid (Below wb W wr) ∧ Hid (KeepW W wr wb)) (fun v _ => n - (intOf v).toNat)
  case atStart => exact ⟨0, Nat.zero_le _, rfl, Lib.hid (by simpa [outN, badN] using H1.out), HB1, HK1⟩
  case round =>
    obtain ⟨j, hj, rfl, HW, HB, HK⟩ := hrel
    obtain ⟨y0, y1, _, _⟩ := row2 (HBX.out wr HK.out)
    by_cases hjn : j < n
    · have hd : decide ((j : Int) < (n : Int)) = true := by simp; omega
      have hi : (j : Int) < (n : Int) := by omega
      have hadd : IntKind.i64.wrap ((j : Int) + 1) = ((j + 1 : Nat) : Int) := by rw [IntWalk.i64_in _ (by omega)]; omega
      have hjl : j < l.length := by rw [HLL.out]; exact hjn
      have hsz := HSH.out.2 _ (pnAt_mem hjl)
      obtain ⟨b1, o1, Aj, nj, cj, rfl, hb1B, k0, k1, k2⟩ := (HR.out.below (HB.out.mono hB)).2 j hjn
      obtain ⟨x, HX⟩ : ∃ x, Hid (pnAt l j = x) := ⟨_, Lib.hid rfl⟩
      have h2 := outN_at l j hjl
      rw [HX.out] at k0 k2 hsz h2
      obtain ⟨sv, rg⟩ := x
      simp only at k0 k2 hsz
      have HSZ := Lib.hid hsz
      have HRG := Lib.hid k2
      have HLJ : Hid ((outN (l.take j)).length + (outL rg).length ≤ (outN l).length) := Lib.hid (by
        unfold pinO rngO at h2
        rw [List.length_append, List.length_append] at h2
        dsimp only at h2
        omega)
      have HC := Lib.hid (numW_any HW.out sv (by
        have h2 := HLJ.out
        have h3 := HE.out
        have h4 := HLEN.out
        rw [List.length_append]
        omega))
      have HK1C : Hid (∀ w', Below wb wr w' → w'.cell? ⟨b1, o1 + j * 2 + 1, none⟩ = some (.slice Aj nj cj)) := Lib.hid (fun w' hb => (hb.cell (p := ⟨b1, o1 + j * 2 + 1, none⟩) (by show b1 < wb; omega)).trans k1)
      clear h2 k2 hsz H1
      go_wp2_with fail
      refine HC.out.mono ?_
      rintro e w2 ⟨rfl, h2, hb2, hk2⟩
      have hkk := HK.out.trans hk2
      obtain ⟨y0', y1', _, _⟩ := row2 (HBX.out w2 hkk)
      have z1 := HK1C.out w2 hb2
      have HB2 := Lib.hid (HB.out.trans hb2)
      have HK2 := Lib.hid hkk
      have HS := Lib.hid (rangedW_any (c := cj) h2 (HRG.out.below (hb2.mono hB)) hB HSZ.out (by
        have h2 := HLJ.out
        have h3 := HE.out
        have h4 := HLEN.out
        have h5 := outI_len sv
        rw [List.length_append, List.length_append]
        omega))
      clear h2 hb2 hk2 hkk HC y0 y1 k0 k1
      go_wp2_with fail
      refine HS.out.mono ?_
      rintro e w3 ⟨rfl, h3, hb3, hk3⟩
      have H3 : Hid (Wr 34 w3 wb (enc n ++ outN (l.take (j + 1))) (badN (l.take (j + 1)))) := Lib.hid (by
        rw [take_pn l j hjl, outN_snoc, badN_snoc, HX.out]
        unfold pinO pinB
        rw [← List.append_assoc, ← List.append_assoc, ← Bool.or_assoc]
        exact h3)
      have HB3 := Lib.hid (HB2.out.trans hb3)
      have HK3 := Lib.hid (HK2.out.trans hk3)
      clear h3 hb3 hk3 y0' y1' z1
      go_wp2_with fail
      go_roundw
      case rel => exact ⟨j + 1, by omega, by go_num, H3, HB3, HK3⟩
      case measure => simp [intOf]; omega
    · have hd : decide ((j : Int) < (n : Int)) = false := by simp; omega
      obtain rfl : j = n := by omega
      have HWn : Hid (Wr 34 wr wb (enc j ++ outN l) (badN l)) := Lib.hid (by
        have := HW.out
        rw [List.take_of_length_le (by rw [HLL.out]; omega)] at this
        exact this)
      have HI := Lib.hid (intsW_any (c := c2) HWn.out (HR2.out.below (HB.out.mono hB)) hB (by have := HL2.out; omega) (by have := HLEN.out; have := HE.out; have := HL2.out; rw [List.length_append]; omega))
      go_wp2_with fail
      refine HI.out.mono ?_
      rintro e w2 ⟨rfl, h2, hb2, hk2⟩
      have H2 : Hid (Wr 34 w2 wb (rqO l ms) (rqB l ms)) := Lib.hid (by
        unfold rqO rqB
        rw [HLL.out]
        exact h2)
      have HBF := Lib.hid (HB0.out.trans (HB.out.trans hb2))
      have HKF := Lib.hid (HK0.out.trans (HK.out.trans hk2))
      clear h2 hb2 hk2 y0 y1
      go_wp2_with fail
      go_end0
      exact ⟨rfl, H2.out, HBF.out, HKF.out⟩
end
end Go.Proofs.Ytmfoammkcokcoaa
