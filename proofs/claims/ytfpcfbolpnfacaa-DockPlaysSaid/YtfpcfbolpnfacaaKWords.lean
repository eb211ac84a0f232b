/-
  WORDS for the laws of layer 13 over this translation.
-/
import Derived.Test.YtfpcfbolpnfacaaKAnch
import Derived.Test.YtfpcfbolpnfacaaKMore
import Derived.Test.YtfpcfbolpnfacaaYRow
import Derived.Laws.Concat
namespace Go.Proofs.Ytfpcfbolpnfacaa
open Go.RowKit
open ByteP
set_option linter.unusedVariables false
set_option maxRecDepth 10000
theorem hsl_any {a : Option Addr} {len cap : Nat} (h : (a = none ∧ len = 0 ∧ cap = 0) ∨ ∃ x, a = some x ∧ len ≤ cap ∧ cap ≤ 9223372036854775807) {q : Nat} (hq : q ≤ len) (w : World) :
    (Instr.slice 30 (.slice a len cap) none (some (.int .i64 (q : Int))) none).run Try.prog w = .ok (.slice a q cap) w := by
  have hqc : (q : Int) ≤ (cap : Int) := by
    rcases h with ⟨_, h1, h2⟩ | ⟨_, _, h1, _⟩
    · omega
    · omega
  have hr := run_slice_h (P := Try.prog) w 30 a len cap Try.underlying30 .i64 (q : Int) (by omega) hqc
  rw [hr]
  rcases h with ⟨rfl, _, rfl⟩ | ⟨x, rfl, _, _⟩
  · simp [sizeOf, sliced, go_sem]
  · simp [sizeOf, sliced, go_sem]
theorem Dk.low {w : World} {db mb K : Nat} {n : Nm} {F : Int → Option Fi} (h : Dk w db mb K n F) {b : Nat} (hb : b < mb) : ¬ Mine db mb F b := fun hm => by
  have h1 := h.lt
  rcases hm with e | e | ⟨k, f, hf, e⟩
  · omega
  · omega
  · have := h.rowGe hf b e; omega
theorem safe_same {w : World} {db mb K : Nat} {n : Nm} {F : Int → Option Fi} (h : Dk w db mb K n F) {k : Int} (h0 : -9223372036854775808 ≤ k) (h1 : k ≤ 9223372036854775807) {f : Fi} (hf : F k = some f) :
    Calls Try.prog 24 #[.pointer (some ⟨db, 0, none⟩), .int .i64 k] w fun e w' => e = .returned (.int .i64 (f.s : Int)) ∧ w' = w := by
  have c2 := h.c2
  have hl := (h.look h0 h1 hf).2
  have hfs := fun w => fieldSafe (.slice f.A f.n f.c) (f.s : Int) w
  clear h
  go_enter Try.func24, Try.ntmps24
  go_wp2
  go_ret
  exact ⟨rfl, rfl⟩
theorem down_same {w : World} {db mb K : Nat} {n : Nm} {F : Int → Option Fi} (h : Dk w db mb K n F) : Calls Try.prog 22 #[.pointer (some ⟨db, 0, none⟩)] w fun e w' => e = .returned (.bool n.down) ∧ w' = w :=
  (down_any h).mono fun e w' hh => ⟨hh.1, hh.2.symm⟩

theorem capY_of_row {w : World} {a : Option Addr} {len cap : Nat} {zs : List Int}
    (h : (a = none ∧ len = 0 ∧ cap = 0 ∧ zs = []) ∨ ∃ x, a = some x ∧ len ≤ cap ∧ cap ≤ maxLen ∧ zs.length = cap ∧ (∀ i, i < zs.length → w.cell? (x.add i) = some (.int .u8 (zs.getD i 0))) ∧ ∀ n ∈ zs, (Lit.int .u8 n).wf = true) :
    (a = none ∧ len = 0 ∧ cap = 0) ∨ ∃ x, a = some x ∧ len ≤ cap ∧ cap ≤ 9223372036854775807 := by
  rcases h with ⟨rfl, rfl, rfl, rfl⟩ | ⟨x, rfl, hl, hm, hz, hcell, hwz⟩
  · exact .inl ⟨rfl, rfl, rfl⟩
  · exact .inr ⟨x, rfl, hl, by unfold maxLen at hm; omega⟩

theorem ix_take {xs : List Int} {p j : Nat} (h : j < p) : ix (xs.take p) j = ix xs j := by unfold ix; simp [List.getD, h]
theorem RdY.take {w : World} {B n p : Nat} {A : Option Addr} {xs : List Int} (h : RdY w B A n xs) (hp : p ≤ n) : RdY w B A p (xs.take p) := by
  refine ⟨by rw [List.length_take]; have := h.len; omega, fun hq => ?_⟩
  obtain ⟨b, off, e, hb, hc⟩ := h.2 (by omega)
  exact ⟨b, off, e, hb, fun j hj => by rw [hc j (by omega), ix_take hj]⟩
end Go.Proofs.Ytfpcfbolpnfacaa
