/-
 THE DOCUMENT'S EXAMPLE OF A CATALOGUE, in words.
-/
import Derived.Test.YtminihiecloglaaGreatCSe
import Derived.Test.YtminihiecloglaaGreatInv
set_option linter.unusedVariables false
set_option linter.unusedSimpArgs false
namespace Go.Proofs.YtminihiecloglaaGreat
open Go.RowKit
open SemP FlP GaP DiP
set_option maxRecDepth 10000
theorem SlI.of_block {α : Type} [Inhabited α] {z : Nat} {I : ItT α} {w : World} {M : Nat → Prop} {g n : Nat} {vs : Array Value} {E : TypeId} {l : List α} (hg : w.heap[g]? = some (.cells vs E (0, 0))) (hM : ¬ M g) (hl : l.length = n) (hn : n ≤ 1000000)
  (h : ∀ j, j < n → ∃ us, us.length = z ∧ (∀ i u, us[i]? = some u → vs.toList[j * z + i]? = some u) ∧ I w M us (l.getD j default)) : SlI z I w M [.slice (some ⟨g, 0, none⟩) n n] l :=
 ⟨_, n, n, rfl, .inr ⟨_, rfl, Nat.le_refl _, by omega⟩, hl, fun j hj => by
  obtain ⟨us, h1, h2, h3⟩ := h j hj
  refine ⟨g, 0, us, rfl, heapE_lt hg, hM, h1, fun i u hu => ?_, h3⟩
  have := cells_of hg _ _ (h2 i u hu)
  rw [show 0 + j * z + i = j * z + i by omega]; exact this⟩
def cv1 (op : Int) : CV := if op = 6 then ⟨6, 1, 0, 0, ⟨#[]⟩⟩ else ⟨0, 0, 0, 0, ⟨#[]⟩⟩
def nd1 (op : Int) : List Nd := [(0, [[cv1 op]])]
theorem alloc4 (w : World) (o0 o1 o2 o3 : Obj) : ((((w.alloc o0).alloc o1).alloc o2).alloc o3).heap[w.heap.size + 1]? = some o1 ∧ ((((w.alloc o0).alloc o1).alloc o2).alloc o3).heap[w.heap.size + 1 + 1]? = some o2 ∧ ((((w.alloc o0).alloc o1).alloc o2).alloc o3).heap[w.heap.size + 1 + 1 + 1]? = some o3 ∧ Below w.heap.size w ((((w.alloc o0).alloc o1).alloc o2).alloc o3) := by
 refine ⟨?_, ?_, ?_, ?_⟩
 ·rw [Below.heap_alloc _ _ _ (by simp), Below.heap_alloc _ _ _ (by simp)]
  have h := heap_new (w.alloc o0) o1
  rw [World.size_alloc] at h; exact h
 ·rw [Below.heap_alloc _ _ _ (by simp)]
  have h := heap_new ((w.alloc o0).alloc o1) o2
  rw [World.size_alloc, World.size_alloc] at h; exact h
 ·have h := heap_new (((w.alloc o0).alloc o1).alloc o2) o3
  rw [World.size_alloc, World.size_alloc, World.size_alloc] at h; exact h
 ·exact ((((Below.refl _ w).alloc (Nat.le_refl _) _).alloc (by simp) _).alloc (by simp; omega) _).alloc (by simp; omega) _
def exA : List Rl := [((1, 0, 0, ⟨#[]⟩), 0, []), ((2, 0, 0, ⟨#[]⟩), 0, [])]
def exB : List Rl := [((1, 0, 0, ⟨#[]⟩), 0, nd1 6), ((2, 0, 0, ⟨#[]⟩), 0, nd1 0)]
def exL : List Sv := [(⟨#[97]⟩, exA), (⟨#[98]⟩, exB)]
theorem two_block {α : Type} [Inhabited α] {z : Nat} {I : ItT α} {w : World} {M : Nat → Prop} {g : Nat} {us ts : List Value} {E : TypeId} {x y : α} (hg : w.heap[g]? = some (.cells (us ++ ts).toArray E (0, 0))) (hM : ¬ M g) (h1 : us.length = z) (h2 : ts.length = z) (i1 : I w M us x) (i2 : I w M ts y) : SlI z I w M [.slice (some ⟨g, 0, none⟩) 2 2] [x, y] :=
 SlI.of_block hg hM rfl (by omega) (fun j hj => by
  have hj2 : j = 0 ∨ j = 1 := by omega
  rcases hj2 with rfl | rfl
  ·refine ⟨us, h1, fun i u hu => ?_, i1⟩
   have hi : i < us.length := (List.getElem?_eq_some_iff.1 hu).1
   show (us ++ ts)[0 * z + i]? = some u
   rw [Nat.zero_mul, Nat.zero_add, List.getElem?_append_left hi]; exact hu
  ·refine ⟨ts, h2, fun i u hu => ?_, i2⟩
   show (us ++ ts)[1 * z + i]? = some u
   rw [Nat.one_mul, List.getElem?_append_right (by omega), h1, Nat.add_sub_cancel_left]; exact hu)
theorem nil_needs (w : World) (M : Nat → Prop) : psI w M [.slice none 0 0] [] := ⟨none, 0, 0, rfl, .inl ⟨rfl, rfl, rfl⟩, rfl, fun j hj => absurd hj (by omega)⟩
theorem rels_two {w : World} {M : Nat → Prop} {g n m c d : Nat} {A C : Option Addr} {E : TypeId} {x y : List Nd} (hg : w.heap[g]? = some (.cells #[.int .i64 1, .int .i64 0, .int .i64 0, .string ⟨#[]⟩, .int .i64 0, .slice A n c, .int .i64 2, .int .i64 0, .int .i64 0, .string ⟨#[]⟩, .int .i64 0, .slice C m d] E (0, 0))) (hM : ¬ M g) (h1 : psI w M [.slice A n c] x) (h2 : psI w M [.slice C m d] y) : rsI w M [.slice (some ⟨g, 0, none⟩) 2 2] [((1, 0, 0, ⟨#[]⟩), 0, x), ((2, 0, 0, ⟨#[]⟩), 0, y)] :=
 two_block (us := [.int .i64 1, .int .i64 0, .int .i64 0, .string ⟨#[]⟩, .int .i64 0, .slice A n c]) (ts := [.int .i64 2, .int .i64 0, .int .i64 0, .string ⟨#[]⟩, .int .i64 0, .slice C m d]) hg hM rfl rfl
  ⟨[.int .i64 1, .int .i64 0, .int .i64 0, .string ⟨#[]⟩], [.int .i64 0, .slice A n c], rfl, rfl, [.int .i64 0], [.slice A n c], rfl, rfl, h1⟩
  ⟨[.int .i64 2, .int .i64 0, .int .i64 0, .string ⟨#[]⟩], [.int .i64 0, .slice C m d], rfl, rfl, [.int .i64 0], [.slice C m d], rfl, rfl, h2⟩
theorem svs_two {w : World} {M : Nat → Prop} {g n m c d : Nat} {A C : Option Addr} {E : TypeId} {x y : List Rl} (hg : w.heap[g]? = some (.cells #[.string ⟨#[97]⟩, .slice A n c, .string ⟨#[98]⟩, .slice C m d] E (0, 0))) (hM : ¬ M g) (h1 : rsI w M [.slice A n c] x) (h2 : rsI w M [.slice C m d] y) : ssI w M [.slice (some ⟨g, 0, none⟩) 2 2] [(⟨#[97]⟩, x), (⟨#[98]⟩, y)] :=
 two_block (us := [.string ⟨#[97]⟩, .slice A n c]) (ts := [.string ⟨#[98]⟩, .slice C m d]) hg hM rfl rfl
  ⟨[.string ⟨#[97]⟩], [.slice A n c], rfl, rfl, h1⟩ ⟨[.string ⟨#[98]⟩], [.slice C m d], rfl, rfl, h2⟩
theorem ex_sm : SmCat exL := by
 refine ⟨by decide, fun s hs => ?_⟩
 have hn : ∀ op : Int, ∀ p ∈ nd1 op, SmR p.2 := fun op p hp => by
  obtain rfl : p = (0, [[cv1 op]]) := by simpa [nd1] using hp
  refine ⟨by show 1 ≤ 12; omega, fun l hl => ?_⟩
  obtain rfl : l = [cv1 op] := by simpa using hl
  refine ⟨by show 1 ≤ 12; omega, fun x hx => ?_⟩
  obtain rfl : x = cv1 op := by simpa using hx
  unfold cv1; split <;> exact Nat.zero_le _
 have hs2 : s = (⟨#[97]⟩, exA) ∨ s = (⟨#[98]⟩, exB) := by simpa [exL] using hs
 rcases hs2 with rfl | rfl
 ·refine ⟨by decide, by decide, fun r hr => ?_⟩
  have hr2 : r = ((1, 0, 0, ⟨#[]⟩), 0, []) ∨ r = ((2, 0, 0, ⟨#[]⟩), 0, []) := by simpa [exA] using hr
  rcases hr2 with rfl | rfl
  ·exact ⟨by decide, by decide, fun p hp => by simp at hp⟩
  ·exact ⟨by decide, by decide, fun p hp => by simp at hp⟩
 ·refine ⟨by decide, by decide, fun r hr => ?_⟩
  have hr2 : r = ((1, 0, 0, ⟨#[]⟩), 0, nd1 6) ∨ r = ((2, 0, 0, ⟨#[]⟩), 0, nd1 0) := by simpa [exB] using hr
  rcases hr2 with rfl | rfl
  ·exact ⟨by decide, by decide, hn 6⟩
  ·exact ⟨by decide, by decide, hn 0⟩
theorem ex_lev : LevOK exL := by
 intro s hs r hr
 have hs2 : s = (⟨#[97]⟩, exA) ∨ s = (⟨#[98]⟩, exB) := by simpa [exL] using hs
 rcases hs2 with rfl | rfl
 ·have hr2 : r = ((1, 0, 0, ⟨#[]⟩), 0, []) ∨ r = ((2, 0, 0, ⟨#[]⟩), 0, []) := by simpa [exA] using hr
  rcases hr2 with rfl | rfl <;> exact ⟨by decide, by decide⟩
 ·have hr2 : r = ((1, 0, 0, ⟨#[]⟩), 0, nd1 6) ∨ r = ((2, 0, 0, ⟨#[]⟩), 0, nd1 0) := by simpa [exB] using hr
  rcases hr2 with rfl | rfl <;> exact ⟨by show (0 : Int) ≤ 0; decide, by show (0 : Int) ≤ 1000; decide⟩
end Go.Proofs.YtminihiecloglaaGreat
