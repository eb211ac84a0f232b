/-
  The document's lists beside the clock: what each act does to both.
-/
import Derived.Test.YtinphdphloddmabCTold
namespace Go.Proofs.Ytinphdphloddmab
open Go.RowKit
open ByteP
set_option linter.unusedVariables false

/-- The place that the document finds among the first k: -1, if there is none. -/
def fnd (l : List Int) (x : Int) : Nat → Int
  | 0 => -1
  | k + 1 => if ix l k = x then (k : Int) else fnd l x k
theorem fnd_lo (l : List Int) (x : Int) : ∀ k, -1 ≤ fnd l x k ∧ fnd l x k < (k : Int)
  | 0 => by simp [fnd]
  | k + 1 => by
    have := fnd_lo l x k
    unfold fnd
    split <;> omega
theorem fnd_at {l : List Int} {x : Int} : ∀ {k : Nat}, 0 ≤ fnd l x k → ∃ i : Nat, i < k ∧ fnd l x k = (i : Int) ∧ ix l i = x
  | 0, h => by simp [fnd] at h
  | k + 1, h => by
    unfold fnd at h ⊢
    split
    · next e => exact ⟨k, by omega, rfl, e⟩
    · next e =>
      rw [if_neg e] at h
      obtain ⟨i, hi, e1, e2⟩ := fnd_at h
      exact ⟨i, by omega, e1, e2⟩
theorem fnd_no {l : List Int} {x : Int} : ∀ {k : Nat}, fnd l x k < 0 → ∀ i, i < k → ix l i ≠ x
  | 0, _, i, hi => absurd hi (by omega)
  | k + 1, h, i, hi => by
    unfold fnd at h
    split at h
    · omega
    · next e =>
      by_cases ei : i = k
      · subst ei; exact e
      · exact fnd_no h i (by omega)
section
variable {G : Int → Option Int} {ids ats : List Int} {n : Nat} {x t : Int}
theorem LiD.inj (h : LiD G ids ats n) {i j : Nat} (hi : i < n) (hj : j < n) (e : ix ids i = ix ids j) : i = j := by
  have hil : i < ids.length := by rw [h.li]; exact hi
  have hjl : j < ids.length := by rw [h.li]; exact hj
  have e1 : ix ids i = ids[i] := by unfold ix; simp [List.getD, hil]
  have e2 : ix ids j = ids[j] := by unfold ix; simp [List.getD, hjl]
  rw [e1, e2] at e
  rcases Nat.lt_trichotomy i j with hlt | rfl | hlt
  · exact absurd e ((List.pairwise_iff_getElem.1 h.nodup) i j hil hjl hlt)
  · rfl
  · exact absurd e.symm ((List.pairwise_iff_getElem.1 h.nodup) j i hjl hil hlt)
theorem LiD.has (h : LiD G ids ats n) : (G x).isSome = decide (0 ≤ fnd ids x n) := by
  by_cases hf : 0 ≤ fnd ids x n
  · obtain ⟨i, hi, e1, e2⟩ := fnd_at hf
    rw [decide_eq_true hf, ← e2, h.at_ i hi]; rfl
  · rw [decide_eq_false hf]
    cases hg : G x with
    | none => rfl
    | some t =>
      obtain ⟨i, hi, e⟩ := h.mem x t hg
      exact absurd e (fnd_no (by omega) i hi)
theorem LiD.set_old (h : LiD G ids ats n) {k : Nat} (hk : k < n) (e : ix ids k = x) : LiD (putG G x t) ids (ats.set k t) n := by
  refine ⟨h.li, by rw [List.length_set]; exact h.la, h.nodup, fun i hi => ?_, fun y s hy => ?_⟩
  · unfold putG
    rw [ix_set ats k i t (by rw [h.la]; exact hk)]
    by_cases ei : k = i
    · rw [if_pos ei, ← ei, if_pos e]
    · rw [if_neg ei, if_neg (fun e2 => ei (h.inj hk hi (e.trans e2.symm)))]
      exact h.at_ i hi
  · unfold putG at hy
    by_cases ey : y = x
    · exact ⟨k, hk, by rw [ey]; exact e⟩
    · rw [if_neg ey] at hy
      exact h.mem y s hy
theorem LiD.set_new (h : LiD G ids ats n) (hx : ∀ i, i < n → ix ids i ≠ x) : LiD (putG G x t) (ids ++ [x]) (ats ++ [t]) (n + 1) := by
  have li := h.li
  have la := h.la
  refine ⟨by simp [li], by simp [la], ?_, fun i hi => ?_, fun y s hy => ?_⟩
  · rw [List.nodup_append]
    refine ⟨h.nodup, by simp, fun a ha b hb e => ?_⟩
    simp at hb
    subst hb
    subst e
    obtain ⟨i, hi, e⟩ := List.mem_iff_getElem.1 ha
    refine hx i (by omega) ?_
    rw [← e]
    unfold ix; simp [List.getD, hi]
  · by_cases ei : i = n
    · have e1 : ix (ids ++ [x]) i = x := by rw [ei, ← li]; exact ix_snoc ids x
      have e2 : ix (ats ++ [t]) i = t := by rw [ei, ← la]; exact ix_snoc ats t
      rw [e1, e2]
      unfold putG
      rw [if_pos rfl]
    · rw [ix_append_lt (by omega), ix_append_lt (by omega)]
      unfold putG
      rw [if_neg (hx i (by omega))]
      exact h.at_ i (by omega)
  · unfold putG at hy
    by_cases ey : y = x
    · exact ⟨n, by omega, by rw [ey, ← li]; exact ix_snoc ids x⟩
    · rw [if_neg ey] at hy
      obtain ⟨i, hi, e⟩ := h.mem y s hy
      exact ⟨i, by omega, by rw [ix_append_lt (by omega)]; exact e⟩
theorem ix_cut (l : List Int) {k : Nat} (hk : k < l.length) (i : Nat) : ix (l.take k ++ l.drop (k + 1)) i = if i < k then ix l i else ix l (i + 1) := by
  unfold ix
  simp only [List.getD_eq_getElem?_getD, List.getElem?_append, List.length_take, List.getElem?_take, List.getElem?_drop]
  by_cases h : i < k
  · rw [if_pos (by omega), if_pos h, if_pos h]
  · rw [if_neg (by omega), if_neg h, show k + 1 + (i - min k l.length) = i + 1 by omega]
theorem LiD.cut (h : LiD G ids ats n) {k : Nat} (hk : k < n) (e : ix ids k = x) : LiD (delG G x) (ids.take k ++ ids.drop (k + 1)) (ats.take k ++ ats.drop (k + 1)) (n - 1) := by
  have li := h.li
  have la := h.la
  refine ⟨by simp [li]; omega, by simp [la]; omega, ?_, fun i hi => ?_, fun y s hy => ?_⟩
  · rw [← List.eraseIdx_eq_take_drop_succ]
    exact h.nodup.sublist (List.eraseIdx_sublist _ _)
  · rw [ix_cut ids (by omega), ix_cut ats (by omega)]
    unfold delG
    by_cases hik : i < k
    · rw [if_pos hik, if_pos hik, if_neg (fun e2 => by have := h.inj (show i < n by omega) hk (e2.trans e.symm); omega)]
      exact h.at_ i (by omega)
    · rw [if_neg hik, if_neg hik, if_neg (fun e2 => by have := h.inj (show i + 1 < n by omega) hk (e2.trans e.symm); omega)]
      exact h.at_ (i + 1) (by omega)
  · unfold delG at hy
    by_cases ey : y = x
    · rw [if_pos ey] at hy; cases hy
    · rw [if_neg ey] at hy
      obtain ⟨i, hi, e3⟩ := h.mem y s hy
      have hne : i ≠ k := fun e4 => ey (by rw [← e3, e4]; exact e)
      by_cases hik : i < k
      · exact ⟨i, by omega, by rw [ix_cut ids (by omega), if_pos hik]; exact e3⟩
      · refine ⟨i - 1, by omega, ?_⟩
        rw [ix_cut ids (by omega), if_neg (by omega), show i - 1 + 1 = i by omega]
        exact e3
end
theorem Own.far {w : World} {base n c : Nat} {A : Option Addr} {xs : List Int} (h : Own w base (.slice A n c) n xs) {b j : Nat} (hb : ∀ g, (Value.slice A n c).ownBlock = some g → g ≠ b) (u : Value) : Own (w.setCell ⟨b, j, none⟩ u) base (.slice A n c) n xs := by
  refine h.other (row := some b) ⟨rfl, rfl, rfl, by simp, fun i hi hne => Below.heap_setCell w _ _ i (fun e => hne (by rw [e]))⟩ (fun g hg e => ?_)
  injection e with e
  exact hb g hg e.symm
def RangeG (G : Int → Option Int) : Prop := ∀ x t, G x = some t → (0 ≤ x ∧ x ≤ 999999) ∧ 0 ≤ t ∧ t ≤ 1125899906842624
/-- The clock and the document's lists, behind j acts. -/
structure CkI (w wr : World) (cb bm j : Nat) (v6 v7 v8 : Value) (now : Int) (D : DataW Unit) (G : Int → Option Int) (n m c1 c2 : Nat) (A1 A2 : Option Addr) (ids ats : List Int) : Prop where
  e6 : v6 = .int .i64 now
  e7 : v7 = .slice A1 m c1
  e8 : v8 = .slice A2 m c2
  clk : Clk wr cb bm now n D
  al : AlD D G
  li : LiD G ids ats m
  rg : RangeG G
  n0 : 0 ≤ now
  n1 : now ≤ 1125899906842624
  hn : n ≤ j
  hm : m ≤ j
  o1 : Own wr (cb + 1) (.slice A1 m c1) m ids
  o2 : Own wr (cb + 1) (.slice A2 m c2) m ats
  ap : ∀ g, (Value.slice A1 m c1).ownBlock = some g → (Value.slice A2 m c2).ownBlock ≠ some g
  bel : Below w.heap.size w wr
  lo : w.heap.size ≤ bm
  hi : bm < cb
section
variable {w wr w' : World} {cb bm j n m c1 c2 : Nat} {v6 v7 v8 : Value} {now : Int} {D : DataW Unit} {G : Int → Option Int} {A1 A2 : Option Addr} {ids ats : List Int}
theorem CkI.cblt (h : CkI w wr cb bm j v6 v7 v8 now D G n m c1 c2 A1 A2 ids ats) : cb < wr.heap.size := h.clk.lt
theorem CkI.kept (h : CkI w wr cb bm j v6 v7 v8 now D G n m c1 c2 A1 A2 ids ats) (hb : Below wr.heap.size wr w') : CkI w w' cb bm j v6 v7 v8 now D G n m c1 c2 A1 A2 ids ats :=
  { h with clk := h.clk.below hb h.clk.lt h.clk.own.lt, o1 := h.o1.kept hb, o2 := h.o2.kept hb, bel := h.bel.trans (hb.mono h.bel.size) }
theorem CkI.more (h : CkI w wr cb bm j v6 v7 v8 now D G n m c1 c2 A1 A2 ids ats) : CkI w wr cb bm (j + 1) v6 v7 v8 now D G n m c1 c2 A1 A2 ids ats :=
  { h with hn := Nat.le_succ_of_le h.hn, hm := Nat.le_succ_of_le h.hm }
theorem CkI.drewN (h : CkI w wr cb bm j v6 v7 v8 now D G n m c1 c2 A1 A2 ids ats) (k : Nat) : CkI w (wr.drewN k) cb bm j v6 v7 v8 now D G n m c1 c2 A1 A2 ids ats :=
  h.kept ⟨rfl, rfl, rfl, Nat.le_refl _, fun _ _ => rfl⟩
theorem rangeG_put {x t : Int} (h : RangeG G) (h0 : 0 ≤ x) (h1 : x ≤ 999999) (h2 : 0 ≤ t) (h3 : t ≤ 1125899906842624) : RangeG (putG G x t) := fun y s hy => by
  unfold putG at hy
  by_cases e : y = x
  · rw [if_pos e] at hy
    injection hy with hy
    omega
  · rw [if_neg e] at hy
    exact h y s hy
theorem rangeG_del {x : Int} (h : RangeG G) : RangeG (delG G x) := fun y s hy => by
  unfold delG at hy
  by_cases e : y = x
  · rw [if_pos e] at hy; cases hy
  · rw [if_neg e] at hy
    exact h y s hy
end
end Go.Proofs.Ytinphdphloddmab
