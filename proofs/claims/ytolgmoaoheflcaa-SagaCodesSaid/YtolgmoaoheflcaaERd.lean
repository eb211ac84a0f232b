/-
  CONTRACTS of the program's reader of layer 12: fail, take, number.
-/
import Derived.Test.YtolgmoaoheflcaaEPut
import Derived.Laws.Concat
namespace Go.Proofs.Ytolgmoaoheflcaa
open Go.RowKit
open ByteP CodeP
set_option linter.unusedVariables false
set_option maxRecDepth 10000

/-- A slice whose capacity is in order. -/
def CapA (A : Option Addr) (n c : Nat) : Prop := (A = none ∧ n = 0 ∧ c = 0) ∨ ∃ x, A = some x ∧ n ≤ c ∧ c ≤ 9223372036854775807
/-- A reader at block rb: what isn't read yet, and the first error. -/
structure Rdr (w : World) (rb B : Nat) (rest : List Int) (e : Int) : Prop where
  row : ∃ A c, w.heap[rb]? = some (.cells #[.slice A rest.length c, .int .i64 e] 116 (0, 0)) ∧ RdY w B A rest.length rest ∧ CapA A rest.length c
  lt : B ≤ rb
section
variable {w w' : World} {rb B : Nat} {rest : List Int} {e : Int}
theorem Rdr.here (h : Rdr w rb B rest e) : rb < w.heap.size := by
  obtain ⟨A, c, h1, _⟩ := h.row
  exact heapE_lt h1
theorem Rdr.err (h : Rdr w rb B rest e) (x : Int) : Rdr (w.setCell ⟨rb, 1, none⟩ (.int .i64 x)) rb B rest x := by
  obtain ⟨A, c, h1, h2, h3⟩ := h.row
  exact ⟨⟨A, c, heap_setCell_same w rb 1 _ _ _ h1, h2.setCell (p := ⟨rb, 1, none⟩) h.lt _, h3⟩, h.lt⟩
theorem grown_set (w : World) (rb i : Nat) (u : Value) : w.grownBy (w.setCell ⟨rb, i, none⟩ u) (some rb) :=
  ⟨rfl, rfl, rfl, by simp, fun k hk hne => Below.heap_setCell w _ _ k (fun e => hne (by rw [e]))⟩
theorem grown_add {w w1 w2 : World} {row : Option Nat} (h : w.grownBy w1 row) (k : w1.grownBy w2 row) : w.grownBy w2 row :=
  ⟨k.os.trans h.os, k.tape.trans h.tape, k.output.trans h.output, Nat.le_trans h.size k.size, fun i hi hne => (k.block i (Nat.lt_of_lt_of_le hi h.size) hne).trans (h.block i hi hne)⟩
end
/-- s[:k]. -/
theorem hslE {A : Option Addr} {n c : Nat} (h : CapA A n c) {q : Nat} (hq : q ≤ n) (w : World) :
    (Instr.slice 44 (.slice A n c) none (some (.int .i64 (q : Int))) none).run Try.prog w = .ok (.slice A q c) w := by
  have hqc : (q : Int) ≤ (c : Int) := by
    rcases h with ⟨_, h1, h2⟩ | ⟨_, _, h1, _⟩ <;> omega
  have hr := run_slice_h (P := Try.prog) w 44 A n c Try.underlying44 .i64 (q : Int) (by omega) hqc
  rw [hr]
  rcases h with ⟨rfl, _, rfl⟩ | ⟨x, rfl, _, _⟩
  · simp [sizeOf, sliced, go_sem]
  · simp [sizeOf, sliced, go_sem]
theorem ix_drop (xs : List Int) (k j : Nat) : ix (xs.drop k) j = ix xs (k + j) := by unfold ix; simp [List.getD_eq_getElem?_getD, List.getElem?_drop]
/-- s[k:]. -/
theorem hsrE {A : Option Addr} {n c : Nat} (h : CapA A n c) {q : Nat} (hq : q ≤ n) {w0 : World} {B : Nat} {xs : List Int} (hx : RdY w0 B A n xs) :
    ∃ D, (∀ w, (Instr.slice 44 (.slice A n c) (some (.int .i64 (q : Int))) none none).run Try.prog w = .ok (.slice D (n - q) (c - q)) w) ∧ RdY w0 B D (n - q) (xs.drop q) ∧ CapA D (n - q) (c - q) := by
  refine ⟨if c = q then A else A.map (·.add (q * 1)), fun w => ?_, ?_, ?_⟩
  · have hr := run_slice_l (P := Try.prog) w 44 A n c Try.underlying44 .i64 (q : Int) (by omega) (by omega)
    rw [hr]
    obtain ⟨i0, hi, hz0, hz1, hz2⟩ := info_parts infoByte
    rw [show Try.prog.elem 44 = 5 by kernel_rfl, show (sizeOf 5).run Try.prog w = .ok i0.size w by simp [sizeOf, typeInfo, hi], hz1]
    rfl
  · refine ⟨by rw [List.length_drop, hx.len], fun hn => ?_⟩
    obtain ⟨b, off, e, hb, hc⟩ := hx.2 (by omega)
    have hcq : c ≠ q := by
      rcases h with ⟨_, h1, _⟩ | ⟨_, _, h1, _⟩ <;> omega
    rw [if_neg hcq, e]
    refine ⟨b, off + q, ?_, hb, fun j hj => ?_⟩
    · simp only [Option.map_some, Nat.mul_one]
      unfold Addr.add
      by_cases h0 : q = 0 <;> simp [h0]
    · rw [ix_drop, Nat.add_assoc]
      exact hc (q + j) (by omega)
  · rcases h with ⟨h1, h2, h3⟩ | ⟨x, h1, h2, h3⟩
    · left
      refine ⟨?_, by omega, by omega⟩
      rw [h1]; split <;> rfl
    · right
      by_cases hcq : c = q
      · rw [if_pos hcq]; exact ⟨x, h1, by omega, by omega⟩
      · rw [if_neg hcq, h1]; exact ⟨_, rfl, by omega, by omega⟩

theorem fail_any {w : World} {rb B : Nat} {rest : List Int} {e : Int} (h : Rdr w rb B rest e) (x : Int) :
    Calls Try.prog 81 #[.pointer (some ⟨rb, 0, none⟩), .int .i64 x] w fun en w' => en = .returned (.tuple #[]) ∧ Rdr w' rb B rest (if e = 0 then x else e) ∧ w.grownBy w' (some rb) := by
  obtain ⟨A, c, hrow, hrd, hcap⟩ := h.row
  obtain ⟨hc0, hc1, hf0, hf1⟩ := row2 hrow
  have HE := Lib.hid (h.err x)
  have HG := Lib.hid (grown_set w rb 1 (.int .i64 x))
  have H := Lib.hid h
  clear h hrow hrd hcap
  by_cases e0 : e = 0
  · have d0 : (e == 0) = true := by simp [e0]
    rw [if_pos e0]
    clear e0
    go_enter Try.func81, Try.ntmps81
    go_wp2
    go_end0
    exact ⟨rfl, HE.out, HG.out⟩
  · have d0 : (e == 0) = false := by simp [e0]
    rw [if_neg e0]
    clear e0
    go_enter Try.func81, Try.ntmps81
    go_wp2
    go_end0
    exact ⟨rfl, H.out, World.grownBy.refl _ _⟩
/-- What a reader takes: nothing, or the next byte. -/
def TakeP (w0 w : World) (rb B : Nat) (rest : List Int) (e : Int) (v : Value) : Prop :=
  w0.grownBy w (some rb) ∧ ((v = .slice none 0 0 ∧ ((e ≠ 0 ∧ Rdr w rb B rest e) ∨ (e = 0 ∧ rest = [] ∧ Rdr w rb B rest 13))) ∨
    ∃ b r b1 o1 c, e = 0 ∧ rest = b :: r ∧ v = .slice (some ⟨b1, o1, none⟩) 1 c ∧ w.cell? ⟨b1, o1, none⟩ = some (.int .u8 b) ∧ Rdr w rb B r 0)
set_option maxHeartbeats 1000000 in
theorem take_one {w : World} {rb B : Nat} {rest : List Int} {e : Int} (h : Rdr w rb B rest e) :
    Calls Try.prog 88 #[.pointer (some ⟨rb, 0, none⟩), .int .i64 1] w fun en w' => ∃ A n c, en = .returned (.slice A n c) ∧ TakeP w w' rb B rest e (.slice A n c) := by
  obtain ⟨A, c, hrow, hrd, hcap⟩ := h.row
  obtain ⟨hc0, hc1, hf0, hf1⟩ := row2 hrow
  have H := Lib.hid h
  have HROW := Lib.hid hrow
  have HRD := Lib.hid hrd
  have HCAP := Lib.hid hcap
  clear h hrow hrd hcap
  cases rest with
  | nil =>
    have hz : ((([] : List Int).length : Nat) : Int) < 1 := by simp
    have HF := Lib.hid (fail_any H.out 13)
    by_cases e0 : e = 0
    · subst e0
      go_enter Try.func88, Try.ntmps88
      go_wp2_with fail
      refine HF.out.mono ?_
      rintro en w1 ⟨rfl, h1, hg1⟩
      have h1 : Rdr w1 rb B [] 13 := by simpa using h1
      have H1 := Lib.hid h1
      have HG1 := Lib.hid hg1
      obtain ⟨A', c', hrow', _, _⟩ := h1.row
      obtain ⟨hz0, hz1, _, _⟩ := row2 hrow'
      clear h1 hg1 hrow'
      go_wp2
      go_ret
      exact ⟨none, 0, 0, rfl, HG1.out, .inl ⟨rfl, .inr ⟨rfl, rfl, H1.out⟩⟩⟩
    · have d0 : (e == 0) = false := by simp [e0]
      have d1 : (e != 0) = true := by simp [e0]
      have HE0 := Lib.hid e0
      go_enter Try.func88, Try.ntmps88
      go_wp2_with fail
      refine HF.out.mono ?_
      rintro en w1 ⟨rfl, h1, hg1⟩
      have h1 : Rdr w1 rb B [] e := by simpa [HE0.out] using h1
      have H1 := Lib.hid h1
      have HG1 := Lib.hid hg1
      obtain ⟨A', c', hrow', _, _⟩ := h1.row
      obtain ⟨hz0, hz1, _, _⟩ := row2 hrow'
      clear h1 hg1 hrow' e0
      go_wp2
      go_ret
      exact ⟨none, 0, 0, rfl, HG1.out, .inl ⟨rfl, .inl ⟨HE0.out, H1.out⟩⟩⟩
  | cons b r =>
    have hln : (b :: r).length = r.length + 1 := rfl
    rw [hln] at hc0 HROW HRD HCAP
    have hz : decide ((((r.length + 1 : Nat) : Int)) < 1) = false := by simp; omega
    by_cases e0 : e = 0
    · subst e0
      have hs1 := hslE HCAP.out (q := 1) (by omega)
      obtain ⟨D, hs2, hrd2, hcap2⟩ := hsrE HCAP.out (q := 1) (by omega) HRD.out
      obtain ⟨b1, o1, rfl, hb1, hcell⟩ := HRD.out.at_ (k := 0) (by omega)
      have e1 : r.length + 1 - 1 = r.length := by omega
      rw [e1] at hs2 hrd2 hcap2
      have hs1' : ∀ w, (Instr.slice 44 (.slice (some ⟨b1, o1, none⟩) (r.length + 1) c) none (some (.int .i64 1)) none).run Try.prog w = .ok (.slice (some ⟨b1, o1, none⟩) 1 c) w := hs1
      have hs2' : ∀ w, (Instr.slice 44 (.slice (some ⟨b1, o1, none⟩) (r.length + 1) c) (some (.int .i64 1)) none none).run Try.prog w = .ok (.slice D r.length (c - 1)) w := hs2
      clear hs1 hs2
      have HFIN : Hid (Rdr (w.setCell ⟨rb, 0, none⟩ (.slice D r.length (c - 1))) rb B r 0) := Lib.hid ⟨⟨D, c - 1, heap_setCell_same w rb 0 _ _ _ HROW.out, hrd2.setCell (p := ⟨rb, 0, none⟩) H.out.lt _, hcap2⟩, H.out.lt⟩
      have HCE : Hid ((w.setCell ⟨rb, 0, none⟩ (.slice D r.length (c - 1))).cell? ⟨b1, o1, none⟩ = some (.int .u8 b)) := Lib.hid ((World.cell?_setCell_other w _ ⟨b1, o1, none⟩ _ (fun e => by injection e with e; have := H.out.lt; omega)).trans hcell)
      have HG := Lib.hid (grown_set w rb 0 (.slice D r.length (c - 1)))
      clear hrd2 hcap2 hcell e1
      go_enter Try.func88, Try.ntmps88
      go_wp2
      go_ret
      exact ⟨_, _, _, rfl, HG.out, .inr ⟨b, r, b1, o1, c, rfl, rfl, rfl, HCE.out, HFIN.out⟩⟩
    · have d1 : (e != 0) = true := by simp [e0]
      have HE0 := Lib.hid e0
      clear e0
      go_enter Try.func88, Try.ntmps88
      go_wp2
      go_ret
      exact ⟨none, 0, 0, rfl, World.grownBy.refl _ _, .inl ⟨rfl, .inl ⟨HE0.out, H.out⟩⟩⟩
end Go.Proofs.Ytolgmoaoheflcaa
