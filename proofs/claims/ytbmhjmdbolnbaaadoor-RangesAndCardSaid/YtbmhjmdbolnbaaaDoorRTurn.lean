/-
  PURE: a range whose lists stand otherwise has the same versions; words for a row whose lists are turned one by one.
-/
import Derived.Test.YtbmhjmdbolnbaaaDoorRApp
namespace Go.Proofs.YtbmhjmdbolnbaaaDoor
open Go.RowKit
open SemP
set_option linter.unusedVariables false
set_option linter.unusedSimpArgs false
theorem rightL_rev (l : List CV) : rightL l.reverse = rightL l := by unfold rightL; rw [List.length_reverse, List.all_reverse]
theorem hasL_rev (l : List CV) (v : Ver) : hasL l.reverse v = hasL l v := by unfold hasL; rw [List.all_reverse]
theorem hasR_turn (r : List (List CV)) (k : Nat) (v : Ver) : hasR ((r.drop k ++ r.take k).map List.reverse) v = hasR r v := by
  have hlen : ((r.drop k ++ r.take k).map List.reverse).length = r.length := by
    rw [List.length_map, List.length_append, List.length_drop, List.length_take]; omega
  have hall : ((r.drop k ++ r.take k).map List.reverse).all rightL = r.all rightL := by
    rw [List.all_map, show (rightL ∘ List.reverse) = rightL from funext (fun l => rightL_rev l), List.all_append, Bool.and_comm, ← List.all_append, List.take_append_drop]
  have hany : ((r.drop k ++ r.take k).map List.reverse).any (fun l => hasL l v) = r.any (fun l => hasL l v) := by
    rw [List.any_map, show ((fun l => hasL l v) ∘ List.reverse) = (fun l => hasL l v) from funext (fun l => hasL_rev l v), List.any_append, Bool.or_comm, ← List.any_append, List.take_append_drop]
  unfold hasR rightR
  rw [hlen, hall, hany]
theorem hasR_twice {r : List (List CV)} {k : Nat} (hk : k < r.length) (h8 : r.length < 8) (v : Ver) : hasR (r ++ [lsAt r k]) v = hasR r v := by
  have hm : lsAt r k ∈ r := lsAt_mem hk
  have hall : (r ++ [lsAt r k]).all rightL = r.all rightL := by
    rw [List.all_append]
    cases h : r.all rightL with
    | false => rfl
    | true =>
      have h2 := List.all_eq_true.1 h _ hm
      rw [show [lsAt r k].all rightL = true by simp only [List.all_cons, List.all_nil, Bool.and_true]; exact h2]; rfl
  have hany : (r ++ [lsAt r k]).any (fun l => hasL l v) = r.any (fun l => hasL l v) := by
    rw [List.any_append]
    cases h : r.any (fun l => hasL l v) with
    | true => rfl
    | false =>
      have h2 := List.any_eq_false.1 h _ hm
      simp at h2
      simp [h2]
  unfold hasR rightR
  rw [hall, hany, List.length_append]
  congr 2
  rw [decide_eq_true (show 1 ≤ r.length + [lsAt r k].length by simp), decide_eq_true (show r.length + [lsAt r k].length ≤ 8 by simp; omega), decide_eq_true (show 1 ≤ r.length by omega), decide_eq_true (show r.length ≤ 8 by omega)]
/-- The lists so far: the first i are turned. -/
def TuL (rs : List (List CV)) (i j : Nat) : List CV := if j < i then (lsAt rs j).reverse else lsAt rs j
/-- A row of m lists in block gt; the lists lie neither there nor in block gb. -/
def TuAt (w : World) (gt gb m : Nat) (f : Nat → List CV) : Prop := ∀ j, j < m → ∃ Aj nj cj, w.cell? ⟨gt, j, none⟩ = some (.slice Aj nj cj) ∧ w.frozen? ⟨gt, j, none⟩ = false ∧ RdC w w.heap.size Aj nj (f j) ∧ ∀ b off, Aj = some ⟨b, off, none⟩ → b ≠ gt ∧ b ≠ gb
theorem TuAt.below {w w' : World} {gt gb m : Nat} {f : Nat → List CV} (h : TuAt w gt gb m f) (hb : Below w.heap.size w w') (hg : gt < w.heap.size) : TuAt w' gt gb m f := fun j hj => by
  obtain ⟨Aj, nj, cj, h1, h2, h3, h4⟩ := h j hj
  exact ⟨Aj, nj, cj, (hb.cell (p := ⟨gt, j, none⟩) hg).trans h1, (hb.frozen (p := ⟨gt, j, none⟩) hg).trans h2, (h3.below hb).more hb.size, h4⟩
theorem TuAt.set {w : World} {gt gb m i : Nat} {f f' : Nat → List CV} (h : TuAt w gt gb m f) {A : Option Addr} {n c : Nat} (hi : i < m) (hr : RdC w w.heap.size A n (f' i)) (hA : ∀ b off, A = some ⟨b, off, none⟩ → b ≠ gt ∧ b ≠ gb) (hf : ∀ j, j ≠ i → f' j = f j) :
    TuAt (w.setCell ⟨gt, i, none⟩ (.slice A n c)) gt gb m f' := fun j hj => by
  have hsz : (w.setCell ⟨gt, i, none⟩ (.slice A n c)).heap.size = w.heap.size := by simp
  have hk : ∀ b, b ≠ gt → (w.setCell ⟨gt, i, none⟩ (.slice A n c)).heap[b]? = w.heap[b]? := fun b hb => Below.heap_setCell _ _ _ _ hb
  by_cases e : j = i
  · subst e
    obtain ⟨Aj, nj, cj, h1, h2, _, _⟩ := h j hj
    refine ⟨A, n, c, World.cell?_setCell_same _ _ _ h1, by simp [h2], ?_, hA⟩
    rw [hsz]
    exact hr.keep (fun b off e _ => hk b (hA b off e).1)
  · obtain ⟨Aj, nj, cj, h1, h2, h3, h4⟩ := h j hj
    refine ⟨Aj, nj, cj, (World.cell?_setCell_other _ _ _ _ (by intro h; injection h with h1 h2; exact e h2.symm)).trans h1, by simp [h2], ?_, h4⟩
    rw [hsz, hf j e]
    exact h3.keep (fun b off e _ => hk b (h4 b off e).1)
theorem TuAt.rd {w : World} {gt gb m : Nat} {f : Nat → List CV} {rs : List (List CV)} (h : TuAt w gt gb m f) (hg : gt < w.heap.size) (hl : rs.length = m) (hf : ∀ j, j < m → f j = lsAt rs j) : RdR w w.heap.size (some ⟨gt, 0, none⟩) m rs := by
  refine ⟨hl, fun j hj => ?_⟩
  obtain ⟨Aj, nj, cj, h1, _, h3, _⟩ := h j hj
  exact ⟨gt, 0, Aj, nj, cj, rfl, hg, by rw [Nat.zero_add]; exact h1, by rw [← hf j hj]; exact h3⟩
theorem rev_take {l : List CV} {q : Nat} (h : q < l.length) : l.reverse.take (q + 1) = l.reverse.take q ++ [cvAt l (l.length - 1 - q)] := by
  rw [take_snocC (by rw [List.length_reverse]; exact h)]
  congr 2
  simp [cvAt, List.getD, List.getElem?_reverse h]
end Go.Proofs.YtbmhjmdbolnbaaaDoor
