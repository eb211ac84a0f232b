/-
  WORDS for newest of package wal: the log in the last whole file.
-/
import Derived.Test.YticklaophgekeaaWRead
import Derived.Test.YticklaophgekeaaWPsh
import Derived.Test.YticklaophgekeaaWBwd
import Derived.Test.YticklaophgekeaaKNames
namespace Go.Proofs.Yticklaophgekeaa
open Go.RowKit Go.Shelf
open ByteP
set_option linter.unusedVariables false
theorem KeepsOthers.of_below {W W' : World} (hb : Below W.heap.size W W') : KeepsOthers W W' := ⟨hb.size, fun k o hk _ => (hb.block k (heapK_lt hk)).trans hk⟩
/-- The file is whole. -/
def whole (F : Int → Option Fi) (k : Int) : Prop := ∃ f r, F k = some f ∧ 0 < r ∧ Reads f.bs r
theorem pay_len {xs : List Int} (h : openN xs = 0) : (payT xs).length ≤ 65536 := by
  have h1 : ¬ 65536 < lenN xs := fun h2 => by
    by_cases h4 : xs.length < 4
    · rw [open13 h4] at h; cases h
    · rw [open11 h4 h2] at h; cases h
  rw [payT_yes h]
  unfold payL
  rw [List.length_take]
  omega
theorem bytes_tail {xs : List Int} (h : Bytes xs) : Bytes xs.tail := fun i => by
  have h2 : ix xs.tail i = ix xs (i + 1) := by unfold ix; simp [List.getD, List.getElem?_tail]
  rw [h2]; exact h _
theorem rec_ok {xs : List Int} (hb : Bytes xs) {j : Nat} (h : okF xs j) : RecOK (pT xs j).tail := by
  refine ⟨bytes_tail (pT_bytes hb j), ?_⟩
  have h1 := pay_len h.1
  rw [List.length_tail]
  show (payT (xs.drop (atN xs j))).length - 1 ≤ _
  omega
theorem bsOf_ok {xs : List Int} (hb : Bytes xs) {r : Nat} (h : ∀ j, j < r → okF xs j) : RecOK (bsOf xs r) := by
  unfold bsOf
  by_cases h0 : r = 0
  · rw [if_pos h0]; exact ⟨bytes_nil, by simp⟩
  · rw [if_neg h0]; exact rec_ok hb (h 0 (by omega))
theorem rsOf_ok {xs : List Int} (hb : Bytes xs) {r : Nat} (h : ∀ j, j < r → okF xs j) : ∀ x, x ∈ rsOf xs r → RecOK x := by
  intro x hx
  unfold rsOf at hx
  obtain ⟨j, hj, rfl⟩ := List.mem_map.1 hx
  rw [List.mem_range] at hj
  exact rec_ok hb (h (j + 1) (by omega))
def NoLog (w' : World) (lb : Nat) : Prop := w'.heap[lb]? = some (.cells #[.pointer none, .int .i64 (-1), .slice none 0 0, .slice none 0 0, .int .i64 0, .bool false] 83 (0, 0))
/-- What newest found. -/
structure Found (w w' : World) (db : Nat) (F : Int → Option Fi) (k : Int) (lb : Nat) (behind : Int) : Prop where
  ex : ∃ f r bA bn bc rv, F k = some f ∧ 0 < r ∧ Reads f.bs r ∧ atN f.bs r ≤ f.n ∧ behind = (f.n : Int) - (atN f.bs r : Nat) ∧ Lg w' (fun b => b < w.heap.size) w.heap.size lb ⟨db, k, bA, bn, bc, rv, (atN f.bs r : Nat), false⟩ (bsOf f.bs r) (rsOf f.bs r)
theorem Lg.nc {w w' : World} {D : Nat → Prop} {B0 lb : Nat} {v : LgV} {bs : List Int} {rs : List (List Int)} {row : Option Nat} (h : Lg w D B0 lb v bs rs) (hg : w.grownBy w' row) (hr : ∀ r, row = some r → ∃ o : Obj, w.heap[r]? = some o ∧ o.isCells = false) : Lg w' D B0 lb v bs rs := by
  have hb : ∀ {b : Nat} {cs : Array Value} {T : TypeId} {fr : Nat × Nat}, w.heap[b]? = some (.cells cs T fr) → w'.heap[b]? = w.heap[b]? := fun {b cs T fr} hc => hg.block b (heapK_lt hc) (fun e => by
    obtain ⟨o, ho, hn⟩ := hr b e.symm
    rw [hc] at ho
    injection ho with ho
    subst ho
    cases hn)
  have hk : ∀ {M : Nat → Prop} {A : Option Addr} {n : Nat} {xs : List Int}, RdK w M A n xs → RdK w' M A n xs := fun {M A n xs} hx => ⟨hx.1, fun hn => by
    obtain ⟨b, off, e, hlt, hM, hc⟩ := hx.2 hn
    exact ⟨b, off, e, Nat.lt_of_lt_of_le hlt hg.size, hM, fun j hj => cell_kept (hc j hj) hg hr⟩⟩
  refine ⟨Nat.lt_of_lt_of_le h.lt hg.size, h.ge, h.nd, (hb h.cells).trans h.cells, hk h.base, h.bb, h.bl, ⟨?_, h.row.nd⟩, h.rb⟩
  obtain ⟨vals, ho, hj⟩ := h.row.ex
  refine ⟨vals, ⟨ho.1, ?_⟩, fun j hjk => ?_⟩
  · rcases ho.2 with h1 | ⟨g, cap, cur, hv, hbg, hh, r⟩
    · exact .inl h1
    · exact .inr ⟨g, cap, cur, hv, hbg, (hb hh).trans hh, r⟩
  · obtain ⟨A, n, c, e, h1, h2, h3⟩ := hj j hjk
    exact ⟨A, n, c, e, hk h1, h2, h3⟩
theorem Found.nc {w w1 w2 : World} {db : Nat} {F : Int → Option Fi} {k : Int} {lb : Nat} {behind : Int} {row : Option Nat} (h : Found w w1 db F k lb behind) (hg : w1.grownBy w2 row) (hr : ∀ r, row = some r → ∃ o : Obj, w1.heap[r]? = some o ∧ o.isCells = false) : Found w w2 db F k lb behind := by
  obtain ⟨f, r, bA, bn, bc, rv, h1, h2, h3, h4, h5, h6⟩ := h.ex
  exact ⟨f, r, bA, bn, bc, rv, h1, h2, h3, h4, h5, h6.nc hg hr⟩
theorem last_gt {ns p : List Int} {k : Int} (ha : Asc ns) (h : p ++ [k] <+: ns.reverse) : k ∈ ns ∧ ∀ x, x ∈ ns → k < x → x ∈ p := by
  obtain ⟨t, ht⟩ := h
  have h1 : ns = t.reverse ++ (k :: p.reverse) := by
    have := congrArg List.reverse ht
    simpa using this.symm
  refine ⟨by rw [h1]; simp, fun x hx hk => ?_⟩
  rw [h1] at hx ha
  rcases List.mem_append.1 hx with h2 | h2
  · have h3 := (List.pairwise_append.1 ha).2.2 x h2 k (by simp)
    omega
  · rcases List.mem_cons.1 h2 with h3 | h3
    · omega
    · simpa using h3
end Go.Proofs.Yticklaophgekeaa
