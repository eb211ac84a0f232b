/-
  CONTRACTS of package dock, over this translation: what reads, and what writes its numbers.
-/
import Derived.Test.YtfpcfbolpnfacaaKMem
import Derived.StillTailTactics
import Derived.Deep.QuietTactic
import Derived.BigQuiet
namespace Go.Proofs.Ytfpcfbolpnfacaa
open Go.RowKit
open ByteP
set_option linter.unusedVariables false
set_option maxRecDepth 10000
theorem fieldSafe (v : Value) (x : Int) (w : World) : (Instr.field 57 (.agg #[v, .int .i64 x]) 1).run Try.prog w = .ok (.int .i64 x) w := by kernel_rfl
section
variable {w : World} {db mb K : Nat} {n : Nm} {F : Int → Option Fi}

/-- What goesDown does. -/
def gd (n : Nm) : Nm := if n.left = -1 then n else if n.left = 0 then { n with down := true } else { n with left := n.left - 1 }
theorem goesDown_off (h : Dk w db mb K n F) (hl : n.left = -1) : Calls Try.prog 25 #[.pointer (some ⟨db, 0, none⟩)] w fun e w' => e = .returned (.bool false) ∧ w = w' := by
  have c3 := h.c3
  rw [hl] at c3
  clear h
  go_enter Try.func25, Try.ntmps25
  go_wp2
  go_ret
  exact ⟨rfl, rfl⟩
theorem goesDown_now (h : Dk w db mb K n F) (hl : n.left = 0) : Calls Try.prog 25 #[.pointer (some ⟨db, 0, none⟩)] w fun e w' => e = .returned (.bool true) ∧ Dk w' db mb K { n with down := true } F ∧ Fr w w' (Mine db mb F) := by
  have H := Lib.hid h
  have c3 := h.c3
  have c4 := h.c4
  have f4 := h.fz 4
  rw [hl] at c3
  clear h
  go_enter Try.func25, Try.ntmps25
  go_wp2
  go_ret
  exact ⟨rfl, H.out.setDown true, Fr.setCell _ _ (.inl rfl) _⟩
theorem goesDown_later (h : Dk w db mb K n F) (hl : 0 < n.left) (hl2 : n.left ≤ 9223372036854775807) : Calls Try.prog 25 #[.pointer (some ⟨db, 0, none⟩)] w fun e w' => e = .returned (.bool false) ∧ Dk w' db mb K { n with left := n.left - 1 } F ∧ Fr w w' (Mine db mb F) := by
  have H := Lib.hid h
  have c3 := h.c3
  have f3 := h.fz 3
  have b1 : (n.left == -1) = false := by simp; omega
  have b2 : (n.left == 0) = false := by simp; omega
  clear h
  go_enter Try.func25, Try.ntmps25
  go_wp2
  go_ret
  exact ⟨rfl, H.out.setLeft _, Fr.setCell _ _ (.inl rfl) _⟩

/-- Down, Size, Arm, Grow. -/
theorem down_any (h : Dk w db mb K n F) : Calls Try.prog 22 #[.pointer (some ⟨db, 0, none⟩)] w fun e w' => e = .returned (.bool n.down) ∧ w = w' := by
  have c4 := h.c4
  clear h
  go_enter Try.func22, Try.ntmps22
  go_wp2
  go_ret
  exact ⟨rfl, rfl⟩
theorem size_any (h : Dk w db mb K n F) : Calls Try.prog 12 #[.pointer (some ⟨db, 0, none⟩)] w fun e w' => e = .returned (.int .i64 n.size) ∧ w = w' := by
  have c1 := h.c1
  clear h
  go_enter Try.func12, Try.ntmps12
  go_wp2
  go_ret
  exact ⟨rfl, rfl⟩
theorem safe_some (h : Dk w db mb K n F) {k : Int} (h0 : -9223372036854775808 ≤ k) (h1 : k ≤ 9223372036854775807) {f : Fi} (hf : F k = some f) :
    Calls Try.prog 24 #[.pointer (some ⟨db, 0, none⟩), .int .i64 k] w fun e w' => e = .returned (.int .i64 (f.s : Int)) ∧ Below w.heap.size w w' := by
  have c2 := h.c2
  have hl := (h.look h0 h1 hf).2
  have hfs := fun w => fieldSafe (.slice f.A f.n f.c) (f.s : Int) w
  clear h
  go_enter Try.func24, Try.ntmps24
  go_wp2
  go_ret
  exact ⟨rfl, by first | exact Below.refl _ _ | exact (Below.refl _ _).alloc (Nat.le_refl _) _⟩

/-- find. -/
theorem find_down (h : Dk w db mb K n F) (hd : n.down = true) (k : Int) : Calls Try.prog 26 #[.pointer (some ⟨db, 0, none⟩), .int .i64 k] w fun e w' => e = .returned (.tuple #[.agg #[.slice none 0 0, .int .i64 0], .int .i64 51]) ∧ Below w.heap.size w w' := by
  have c4 := (h.alloc (.cells #[.slice none 0 0, .int .i64 0] 57)).c4
  rw [hd] at c4
  clear h
  go_enter Try.func26, Try.ntmps26
  go_wp2
  exact bodyPost_ret (v := .tuple #[.agg #[.slice none 0 0, .int .i64 0], .int .i64 51]) (by simp [results, Try.results26, go_sem]) rfl ⟨rfl, (Below.refl _ _).alloc (Nat.le_refl _) _⟩
theorem find_none (h : Dk w db mb K n F) (hd : n.down = false) {k : Int} (h0 : -9223372036854775808 ≤ k) (h1 : k ≤ 9223372036854775807) (hf : F k = none) :
    Calls Try.prog 26 #[.pointer (some ⟨db, 0, none⟩), .int .i64 k] w fun e w' => e = .returned (.tuple #[.agg #[.slice none 0 0, .int .i64 0], .int .i64 52]) ∧ Below w.heap.size w w' := by
  have h' := h.alloc (.cells #[.slice none 0 0, .int .i64 0] 57)
  have c4 := h'.c4
  have c2 := h'.c2
  have hl := (h'.miss h0 h1 hf).1
  rw [hd] at c4
  clear h h'
  go_enter Try.func26, Try.ntmps26
  go_wp2
  exact bodyPost_ret (v := .tuple #[.agg #[.slice none 0 0, .int .i64 0], .int .i64 52]) (by simp [results, Try.results26, go_sem]) rfl ⟨rfl, ((Below.refl _ _).alloc (Nat.le_refl _) _).alloc (by simp) _⟩
theorem find_some (h : Dk w db mb K n F) (hd : n.down = false) {k : Int} (h0 : -9223372036854775808 ≤ k) (h1 : k ≤ 9223372036854775807) {f : Fi} (hf : F k = some f) :
    Calls Try.prog 26 #[.pointer (some ⟨db, 0, none⟩), .int .i64 k] w fun e w' => e = .returned (.tuple #[.agg #[.slice f.A f.n f.c, .int .i64 (f.s : Int)], .int .i64 0]) ∧ Below w.heap.size w w' := by
  have h' := h.alloc (.cells #[.slice none 0 0, .int .i64 0] 57)
  have c4 := h'.c4
  have c2 := h'.c2
  have hl := (h'.look h0 h1 hf).1
  rw [hd] at c4
  clear h h'
  go_enter Try.func26, Try.ntmps26
  go_wp2
  exact bodyPost_ret (v := .tuple #[.agg #[.slice f.A f.n f.c, .int .i64 (f.s : Int)], .int .i64 0]) (by simp [results, Try.results26, go_sem]) rfl ⟨rfl, by
    first
      | exact ((Below.refl _ _).alloc (Nat.le_refl _) _).alloc (by simp) _
      | exact (((((Below.refl _ _).alloc (Nat.le_refl _) _).alloc (by simp) _).setCell (by simp) _).setCell (by simp) _)⟩
end
end Go.Proofs.Ytfpcfbolpnfacaa
