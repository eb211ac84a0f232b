/-
  A slice of bytes that came in, as the printed shells tell of it, in the words of these texts.
-/
import Derived.Test.YtolgmoaoheflcaaYMem
import Derived.OpenShut
namespace Go.Proofs.Ytolgmoaoheflcaa
open Go.RowKit
open ByteP

theorem rdY_of_row {w : World} {a : Option Addr} {len cap : Nat} {zs : List Int}
    (h : (a = none ∧ len = 0 ∧ cap = 0 ∧ zs = []) ∨ ∃ x, a = some x ∧ len ≤ cap ∧ cap ≤ maxLen ∧ zs.length = cap ∧ (∀ i, i < zs.length → w.cell? (x.add i) = some (.int .u8 (zs.getD i 0))) ∧ ∀ n ∈ zs, (Lit.int .u8 n).wf = true) :
    RdY w w.heap.size a len (zs.take len) ∧ Bytes (zs.take len) ∧ len ≤ 9223372036854775807 := by
  rcases h with ⟨rfl, rfl, rfl, rfl⟩ | ⟨x, rfl, hl, hm, hz, hcell, hwz⟩
  · exact ⟨RdY.nil_, fun i => by simp [ix], by omega⟩
  · refine ⟨⟨by rw [List.length_take]; omega, fun hn => ?_⟩, fun i => ?_, by unfold maxLen at hm; omega⟩
    · obtain ⟨b, off, spot⟩ := x
      have h0 := hcell 0 (by omega)
      have hspot : spot = none := by simpa [Addr.add] using World.cell?_spot h0
      subst hspot
      have hb : b < w.heap.size := by
        have h1 : w.cell? ⟨b, off, none⟩ = some (.int .u8 (zs.getD 0 0)) := by simpa [Addr.add] using h0
        rcases Nat.lt_or_ge b w.heap.size with hlt | hge
        · exact hlt
        · simp [World.cell?, Array.getElem?_eq_none hge] at h1
      refine ⟨b, off, rfl, hb, fun j hj => ?_⟩
      have h1 := hcell j (by omega)
      have e1 : (Addr.add ⟨b, off, none⟩ j) = ⟨b, off + j, none⟩ := by
        unfold Addr.add
        by_cases h0 : j = 0 <;> simp [h0]
      rw [e1] at h1
      rw [h1]
      have : zs.getD j 0 = ix (zs.take len) j := by
        unfold ix
        simp [List.getD, hj]
      rw [this]
    · by_cases hi : i < (zs.take len).length
      · have e : ix (zs.take len) i = (zs.take len)[i] := by simp [ix, List.getD, List.getElem?_eq_getElem hi]
        rw [e]
        exact bounds_u8 (hwz _ (List.mem_of_mem_take (List.getElem_mem hi)))
      · unfold ix; simp only [List.getD, List.getElem?_eq_none (Nat.le_of_not_lt hi)]; simp
theorem row_cap {w : World} {a : Option Addr} {len cap : Nat} {zs : List Int}
    (h : (a = none ∧ len = 0 ∧ cap = 0 ∧ zs = []) ∨ ∃ x, a = some x ∧ len ≤ cap ∧ cap ≤ maxLen ∧ zs.length = cap ∧ (∀ i, i < zs.length → w.cell? (x.add i) = some (.int .u8 (zs.getD i 0))) ∧ ∀ n ∈ zs, (Lit.int .u8 n).wf = true) : len ≤ cap := by
  rcases h with ⟨_, rfl, rfl, _⟩ | ⟨_, _, hl, _⟩
  · exact Nat.le_refl _
  · exact hl
end Go.Proofs.Ytolgmoaoheflcaa
