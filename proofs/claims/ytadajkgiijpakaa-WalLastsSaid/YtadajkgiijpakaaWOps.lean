/-
  CONTRACTS of package wal, over this translation: heed, checkOpen, lay.
-/
import Derived.Test.YtadajkgiijpakaaWRow
import Derived.Test.YtadajkgiijpakaaKWords
import Derived.Test.YtadajkgiijpakaaWFrm
import Derived.Test.YtadajkgiijpakaaKAll
namespace Go.Proofs.Ytadajkgiijpakaa
open Go.RowKit
open ByteP
set_option linter.unusedVariables false

/-- What a log's cells say. -/
structure LgV where
  db : Nat
  nm : Int
  bA : Option Addr
  bn : Nat
  bc : Nat
  rv : Value
  sz : Int
  cl : Bool
def cellsL (v : LgV) : Array Value := #[.pointer (some ⟨v.db, 0, none⟩), .int .i64 v.nm, .slice v.bA v.bn v.bc, v.rv, .int .i64 v.sz, .bool v.cl]
/-- The blocks that a text of the log doesn't lie in. -/
def LM (D : Nat → Prop) (lb : Nat) (v : LgV) (b : Nat) : Prop := (D b ∨ b = lb) ∨ v.rv.ownBlock = some b
/-- A log at block lb, apart from D. -/
structure Lg (w : World) (D : Nat → Prop) (B0 lb : Nat) (v : LgV) (bs : List Int) (rs : List (List Int)) : Prop where
  lt : lb < w.heap.size
  ge : B0 ≤ lb
  nd : ¬ D lb
  cells : w.heap[lb]? = some (.cells (cellsL v) 83 (0, 0))
  base : RdK w (LM D lb v) v.bA v.bn bs
  bb : Bytes bs
  bl : bs.length ≤ 65535
  row : Row w (fun b => D b ∨ b = lb) B0 v.rv rs
  rb : ∀ x, x ∈ rs → RecOK x
section
variable {w w' : World} {D D' : Nat → Prop} {B0 lb : Nat} {v : LgV} {bs : List Int} {rs : List (List Int)}
theorem Lg.turn (h : Lg w D B0 lb v bs rs) (hf : Fr w w' D) (hD : ∀ b, D' b → D b ∨ w.heap.size ≤ b) : Lg w' D' B0 lb v bs rs := by
  have hD2 : ∀ b, (D' b ∨ b = lb) → (D b ∨ b = lb) ∨ w.heap.size ≤ b := fun b hb => hb.elim (fun h1 => (hD b h1).elim (fun h2 => .inl (.inl h2)) .inr) (fun h1 => .inl (.inr h1))
  have hF2 : Fr w w' (fun b => D b ∨ b = lb) := ⟨hf.os, hf.tape, hf.output, hf.size, fun b hb hn => hf.block b hb (fun h1 => hn (.inl h1))⟩
  refine ⟨Nat.lt_of_lt_of_le h.lt hf.size, h.ge, fun h1 => (hD lb h1).elim h.nd (fun h2 => by have := h.lt; omega), (hf.block lb h.lt h.nd).trans h.cells, ?_, h.bb, h.bl, h.row.turn hF2 hD2, h.rb⟩
  refine h.base.turn ⟨hf.os, hf.tape, hf.output, hf.size, fun b hb hn => hf.block b hb (fun h1 => hn (.inl (.inl h1)))⟩ (fun b hb => ?_)
  rcases hb with h1 | h1
  · exact (hD2 b h1).elim (fun h2 => .inl (.inl h2)) .inr
  · exact .inl (.inr h1)
theorem Lg.below (h : Lg w D B0 lb v bs rs) (hb : Below w.heap.size w w') : Lg w' D B0 lb v bs rs := h.turn (Fr.of_below hb) (fun b hb => .inl hb)
theorem Lg.alloc (h : Lg w D B0 lb v bs rs) (o : Obj) : Lg (w.alloc o) D B0 lb v bs rs := h.below ((Below.refl _ _).alloc (Nat.le_refl _) _)
theorem Lg.drewN (h : Lg w D B0 lb v bs rs) (k : Nat) : Lg (w.drewN k) D B0 lb v bs rs := h.below ⟨rfl, rfl, rfl, Nat.le_refl _, fun _ _ => rfl⟩
theorem Lg.cell (h : Lg w D B0 lb v bs rs) {i : Nat} {x : Value} (hx : (cellsL v)[i]? = some x) : w.cell? ⟨lb, i, none⟩ = some x := cellK_of_heap h.cells hx
theorem Lg.c0 (h : Lg w D B0 lb v bs rs) : w.cell? ⟨lb, 0, none⟩ = some (.pointer (some ⟨v.db, 0, none⟩)) := h.cell rfl
theorem Lg.c1 (h : Lg w D B0 lb v bs rs) : w.cell? ⟨lb, 1, none⟩ = some (.int .i64 v.nm) := h.cell rfl
theorem Lg.c2 (h : Lg w D B0 lb v bs rs) : w.cell? ⟨lb, 2, none⟩ = some (.slice v.bA v.bn v.bc) := h.cell rfl
theorem Lg.c3 (h : Lg w D B0 lb v bs rs) : w.cell? ⟨lb, 3, none⟩ = some v.rv := h.cell rfl
theorem Lg.c4 (h : Lg w D B0 lb v bs rs) : w.cell? ⟨lb, 4, none⟩ = some (.int .i64 v.sz) := h.cell rfl
theorem Lg.c5 (h : Lg w D B0 lb v bs rs) : w.cell? ⟨lb, 5, none⟩ = some (.bool v.cl) := h.cell rfl
theorem Lg.fz (h : Lg w D B0 lb v bs rs) (i : Nat) : w.frozen? ⟨lb, i, none⟩ = false := freeK_of_heap h.cells
/-- All blocks of the log and of D. -/
theorem Lg.frd (h : Lg w D B0 lb v bs rs) (hf : Fr w w' D) : Fr w w' (LM D lb v) := ⟨hf.os, hf.tape, hf.output, hf.size, fun b hb hn => hf.block b hb (fun h1 => hn (.inl (.inl h1)))⟩
theorem Lg.frow (h : Lg w D B0 lb v bs rs) (hD : ∀ b, D b → B0 ≤ b) : ∀ b, LM D lb v b → B0 ≤ b := fun b hb => by
  rcases hb with (h1 | h1) | h1
  · exact hD b h1
  · rw [h1]; exact h.ge
  · exact h.row.block_ge b h1
end
theorem fr_base {w w' : World} {M : Nat → Prop} {B0 : Nat} (h : Fr w w' M) (hM : ∀ b, M b → B0 ≤ b) (hB : B0 ≤ w.heap.size) : Below B0 w w' :=
  ⟨h.os, h.tape, h.output, h.size, fun b hb => h.block b (by omega) (fun h1 => by have := hM b h1; omega)⟩
set_option maxRecDepth 10000
section
variable {w : World} {D : Nat → Prop} {B0 lb : Nat} {v : LgV} {bs : List Int} {rs : List (List Int)}
theorem heed_other (w : World) (p : Value) {e : Int} (he : e ≠ 51) : Calls Try.prog 44 #[p, .int .i64 e] w fun r w' => r = .returned (.int .i64 e) ∧ w' = w := by
  have d1 : (e == 51) = false := beq_eq_false_iff_ne.2 he
  go_enter Try.func44, Try.ntmps44
  go_wp2
  go_ret
  exact ⟨rfl, rfl⟩
theorem checkOpen_ok (h : Lg w D B0 lb v bs rs) (hc : v.cl = false) {A : Option Addr} {n c : Nat} (hn : n ≤ 65535) : Calls Try.prog 42 #[.pointer (some ⟨lb, 0, none⟩), .slice A n c] w fun r w' => r = .returned (.int .i64 0) ∧ w' = w := by
  have c5 := h.c5
  rw [hc] at c5
  have d1 : decide ((65535 : Int) < (n : Int)) = false := by simp; omega
  clear h
  go_enter Try.func42, Try.ntmps42
  go_wp2
  go_ret
  exact ⟨rfl, rfl⟩
theorem name_any (h : Lg w D B0 lb v bs rs) : Calls Try.prog 16 #[.pointer (some ⟨lb, 0, none⟩)] w fun r w' => r = .returned (.int .i64 v.nm) ∧ w' = w := by
  have c1 := h.c1
  clear h
  go_enter Try.func16, Try.ntmps16
  go_wp2
  go_ret
  exact ⟨rfl, rfl⟩
theorem lsize_any (h : Lg w D B0 lb v bs rs) : Calls Try.prog 17 #[.pointer (some ⟨lb, 0, none⟩)] w fun r w' => r = .returned (.int .i64 v.sz) ∧ w' = w := by
  have c4 := h.c4
  clear h
  go_enter Try.func17, Try.ntmps17
  go_wp2
  go_ret
  exact ⟨rfl, rfl⟩
end
theorem putF_putF (F : Int → Option Fi) (k : Int) (f f' : Fi) : putF (putF F k f) k f' = putF F k f' := by
  funext x
  unfold putF
  by_cases e : x = k
  · rw [if_pos e, if_pos e]
  · rw [if_neg e, if_neg e, if_neg e]
theorem mine_turn {db mb : Nat} {F : Int → Option Fi} {k : Int} {f f' : Fi} (hv : f'.v = f.v) (b : Nat) (h : Mine db mb (putF F k f') b) : Mine db mb (putF F k f) b := by
  rcases h with e | e | ⟨k', g, hg, e⟩
  · exact .inl e
  · exact .inr (.inl e)
  · refine .inr (.inr ?_)
    by_cases hk : k' = k
    · subst hk
      rw [putF_same] at hg
      injection hg with hg
      subst hg
      exact ⟨k', f, putF_same _ _ _, by rw [← hv]; exact e⟩
    · rw [putF_other _ _ hk] at hg
      exact ⟨k', g, by rw [putF_other _ _ hk]; exact hg, e⟩
end Go.Proofs.Ytadajkgiijpakaa
