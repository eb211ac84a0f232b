/-
  RANGES: words for a slice of lists; contract: Parse.
-/
import Derived.Test.YtpnbbbhbbnemlaaGreatDoorRList
namespace Go.Proofs.YtpnbbbhbbnemlaaGreatDoor
open Go.RowKit
open SemP
set_option linter.unusedVariables false
set_option linter.unusedSimpArgs false
set_option maxRecDepth 100000

theorem RdC.more {w : World} {B B' n : Nat} {A : Option Addr} {l : List CV} (h : RdC w B A n l) (hB : B ≤ B') : RdC w B' A n l := ⟨h.1, fun j hj => by
  obtain ⟨b, off, e, hlt, r⟩ := h.2 j hj
  exact ⟨b, off, e, by omega, r⟩⟩
theorem RdC.keep {w w' : World} {B n : Nat} {A : Option Addr} {l : List CV} (h : RdC w B A n l) (hk : ∀ b off, A = some ⟨b, off, none⟩ → b < B → w'.heap[b]? = w.heap[b]?) : RdC w' B A n l := ⟨h.1, fun j hj => by
  obtain ⟨b, off, e, hlt, h0, h1, h2, h3, h4⟩ := h.2 j hj
  have hb := hk b off e hlt
  exact ⟨b, off, e, hlt, (World.cell?_of_block hb).trans h0, (World.cell?_of_block hb).trans h1, (World.cell?_of_block hb).trans h2, (World.cell?_of_block hb).trans h3, (World.cell?_of_block hb).trans h4⟩⟩
/-- A list of the result so far, apart from the outer row and from the box. -/
def InL (w : World) (b5 : Nat) (v : Value) (A : Option Addr) (n : Nat) (l : List CV) : Prop := RdC w w.heap.size A n l ∧ ∀ b off, A = some ⟨b, off, none⟩ → v.ownBlock ≠ some b ∧ b5 < b ∧ b < w.heap.size
theorem InL.below {w w' : World} {b5 n : Nat} {v : Value} {A : Option Addr} {l : List CV} (h : InL w b5 v A n l) (hb : Below w.heap.size w w') : InL w' b5 v A n l := ⟨(h.1.below hb).more hb.size, fun b off e => ⟨(h.2 b off e).1, (h.2 b off e).2.1, Nat.lt_of_lt_of_le (h.2 b off e).2.2 hb.size⟩⟩
theorem InL.grown {w w' : World} {b5 n : Nat} {v v' : Value} {A : Option Addr} {l : List CV} (h : InL w b5 v A n l) (hg : w.grownBy w' v.ownBlock) (hv : v'.ownBlock = v.ownBlock ∨ v'.ownBlock = some w.heap.size) : InL w' b5 v' A n l := by
  refine ⟨(h.1.keep fun b off e hlt => hg.block b hlt (fun e2 => (h.2 b off e).1 e2.symm)).more hg.size, fun b off e => ⟨?_, (h.2 b off e).2.1, Nat.lt_of_lt_of_le (h.2 b off e).2.2 hg.size⟩⟩
  rcases hv with hv | hv
  · rw [hv]; exact (h.2 b off e).1
  · rw [hv]
    intro e2
    injection e2 with e2
    have := (h.2 b off e).2.2
    omega
theorem InL.setBox {w : World} {b5 k n : Nat} {v u : Value} {A : Option Addr} {l : List CV} (h : InL w b5 v A n l) (hk : k ≤ b5) : InL (w.setCell ⟨k, 0, none⟩ u) b5 v A n l := by
  have hs : (w.setCell ⟨k, 0, none⟩ u).heap.size = w.heap.size := by simp
  refine ⟨?_, fun b off e => ⟨(h.2 b off e).1, (h.2 b off e).2.1, by rw [hs]; exact (h.2 b off e).2.2⟩⟩
  rw [hs]
  exact h.1.keep fun b off e hlt => Below.heap_setCell _ _ _ _ (by have := (h.2 b off e).2.1; show b ≠ k; omega)
/-- The outer row. -/
def OwnV (w : World) (base : Nat) (v : Value) (vs : List Value) : Prop := w.ownsRow base 70 1 v vs.length vs
theorem OwnV.shape {w : World} {base : Nat} {v : Value} {l : List Value} (h : OwnV w base v l) : ∃ A c, v = .slice A l.length c := by
  rcases h.2 with ⟨rfl, h0⟩ | ⟨g, cap, cur, rfl, _⟩
  · exact ⟨none, 0, by rw [h0]⟩
  · exact ⟨some ⟨g, 0, none⟩, cap, rfl⟩
theorem wpl_appL {w : World} {ops : Array Oper} {rest : List Oper} {o : Oper} {a : Act} {Q : Exit → Act → World → Prop} (hgd : o.guard = none) (s x : Operand)
    (ho : o.op = .call { callee := .builtin .append, args := #[s, x], argTypes := #[22, 22] })
    (base : Nat) (v : Value) (l : List Value) (hs : a.eval s = v) (hown : OwnV w base v l)
    (b : Nat) (A : Option Addr) (n c0 : Nat) (hx : a.eval x = .slice (some ⟨b, 0, none⟩) 1 1) (hc0 : w.cell? ⟨b, 0, none⟩ = some (.slice A n c0)) (hn : l.length ≤ 1099511627) (hbase : base ≤ w.heap.size)
    (h : ∀ g c w', OwnV w' base (.slice (some ⟨g, 0, none⟩) (l.length + 1) c) (l ++ [.slice A n c0]) → w.grownBy w' v.ownBlock → (some g = v.ownBlock ∨ some g = some w.heap.size) → wpList Tryz.prog ops Q rest (a.put o.dst (.slice (some ⟨g, 0, none⟩) (l.length + 1) c)) w') :
    wpList Tryz.prog ops Q (o :: rest) a w := by
  obtain ⟨i0, hi, hz0, hz1, hz2⟩ := info_parts infoList
  refine wpList_append_own_at w hgd s x 22 ho base 70 i0 _ 1 24 Tryz.underlying22 hi hz0 hz1 hz2 rfl (by decide) v l.length _ hs hown ⟨b, 0, none⟩ 1 1 [.slice A n c0] hx rfl ?_ ?_ (by unfold maxLen; omega) (by omega) hbase ?_
  · intro j z hj
    match j, hj with
    | 0, hj => simp at hj; subst hj; simpa [Addr.add] using hc0
  · intro z hz
    simp at hz
    subst hz; rfl
  · intro v' w' hown' hg _ hat
    have ho' : w'.ownsRow base 70 1 v' (l ++ [Value.slice A n c0]).length (l ++ [.slice A n c0]) := by
      rw [List.length_append]; exact hown'
    obtain ⟨g, c, hv, _, _⟩ := World.ownsRow.form ho' (by simp)
    rw [List.length_append] at hv
    have hv' : v' = .slice (some ⟨g, 0, none⟩) (l.length + 1) c := hv
    subst hv'
    exact h g c w' ho' hg hat
/-- What the outer row bears: a slice value for each list. -/
def RowL (w : World) (b5 : Nat) (v : Value) (vs : List Value) (r : List (List CV)) : Prop := vs.length = r.length ∧ ∀ j, j < r.length → ∃ A n c, vs[j]? = some (.slice A n c) ∧ InL w b5 v A n (lsAt r j)
theorem RowL.nil (w : World) (b5 : Nat) (v : Value) : RowL w b5 v [] [] := ⟨rfl, fun j h => absurd h (by simp)⟩
theorem RowL.map {w w' : World} {b5 : Nat} {v v' : Value} {vs : List Value} {r : List (List CV)} (h : RowL w b5 v vs r) (hm : ∀ A n l, InL w b5 v A n l → InL w' b5 v' A n l) : RowL w' b5 v' vs r := ⟨h.1, fun j hj => by
  obtain ⟨A, n, c, e, hi⟩ := h.2 j hj
  exact ⟨A, n, c, e, hm _ _ _ hi⟩⟩
theorem RowL.snoc {w : World} {b5 : Nat} {v : Value} {vs : List Value} {r : List (List CV)} {A : Option Addr} {n c : Nat} {l : List CV} (h : RowL w b5 v vs r) (hl : InL w b5 v A n l) : RowL w b5 v (vs ++ [.slice A n c]) (r ++ [l]) := by
  refine ⟨by simp [h.1], fun j hj => ?_⟩
  by_cases hjr : j < r.length
  · obtain ⟨A', n', c', e, hi⟩ := h.2 j hjr
    refine ⟨A', n', c', ?_, ?_⟩
    · rw [List.getElem?_append_left (by rw [h.1]; exact hjr)]; exact e
    · have : lsAt (r ++ [l]) j = lsAt r j := by simp [lsAt, List.getD, List.getElem?_append_left hjr]
      rw [this]; exact hi
  · have hj2 : j = r.length := by simp at hj; omega
    subst hj2
    refine ⟨A, n, c, ?_, ?_⟩
    · rw [← h.1]; simp
    · have : lsAt (r ++ [l]) r.length = l := by simp [lsAt, List.getD]
      rw [this]; exact hl
theorem RowL.rd {w : World} {b5 base m c : Nat} {A : Option Addr} {vs : List Value} {r : List (List CV)} (h : RowL w b5 (.slice A m c) vs r) (ho : OwnV w base (.slice A m c) vs) (hm : r.length = m) : RdR w w.heap.size A m r := by
  refine ⟨hm, fun j hj => ?_⟩
  obtain ⟨Aj, nj, cj, e, hi⟩ := h.2 j (by omega)
  obtain ⟨g, cap, hv, _, hlt⟩ := World.ownsRow.form ho (by rw [h.1]; omega)
  injection hv with h1 h2 h3
  subst h1
  have k := World.ownsRow.cells ho (g := g) rfl _ _ e
  have ee : (Addr.add ⟨g, 0, none⟩ j) = ⟨g, 0 + j, none⟩ := by unfold Addr.add; by_cases h0 : j = 0 <;> simp [h0]
  rw [ee] at k
  exact ⟨g, 0, Aj, nj, cj, rfl, hlt, k, hi.1⟩
/-- A text as a range. -/
def parseG (s : ByteArray) : Option (List (List CV)) :=
  if 8 < (texts9 ⟨#[32, 124, 124, 32]⟩ s).length then none
  else if (texts9 ⟨#[32, 124, 124, 32]⟩ s).all (fun p => (parseL p).isSome) then some ((texts9 ⟨#[32, 124, 124, 32]⟩ s).map (fun p => (parseL p).getD [])) else none
/-- What Parse answers. -/
def RangeR (r : Option (List (List CV))) (e : Ending) (w' : World) : Prop := match r with
  | none => e = .returned (.tuple #[.agg #[.slice none 0 0], .int .i64 10])
  | some l => ∃ A c, e = .returned (.tuple #[.agg #[.slice A l.length c], .int .i64 0]) ∧ RdR w' w'.heap.size A l.length l
theorem take_snocL {ps : List ByteArray} {i : Nat} (h : i < ps.length) (f : ByteArray → List CV) : (ps.take (i + 1)).map f = (ps.take i).map f ++ [f (ps.getD i ⟨#[]⟩)] := by
  have e : ps[i]? = some (ps.getD i ⟨#[]⟩) := by simp [List.getD, h]
  rw [List.take_add_one, e]
  simp only [Option.toList_some, List.map_append, List.map_cons, List.map_nil]
end Go.Proofs.YtpnbbbhbbnemlaaGreatDoor
