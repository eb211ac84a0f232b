/-
  APPEND of many elements to a row that the call made; contract: slices.Clone of a list of comparisons.
-/
import Derived.Test.YtbmhjmdbolnbaaaDoorRTurn
import Derived.Lib.SliceRun
namespace Go.Proofs.YtbmhjmdbolnbaaaDoor
open Go.RowKit
open SemP
set_option linter.unusedVariables false
set_option linter.unusedSimpArgs false
set_option maxRecDepth 100000
theorem ccells_len (l : List CV) : (ccells l).length = l.length * 5 := by
  induction l with
  | nil => rfl
  | cons x l ih => simp [ccells, ih]; omega
theorem ccells_one (l : List CV) : ∀ u ∈ ccells l, u.oneCell' = true := by
  induction l with
  | nil => intro u hu; simp [ccells] at hu
  | cons x l ih =>
    intro u hu
    simp only [ccells, List.mem_cons] at hu
    rcases hu with rfl | rfl | rfl | rfl | rfl | hu
    · rfl
    · rfl
    · rfl
    · rfl
    · rfl
    · exact ih u hu
/-- What a slice of comparisons reads, cell by cell. -/
theorem RdC.cells {w : World} {B n : Nat} {A : Option Addr} {l : List CV} (h : RdC w B A n l) (hn : 0 < n) : ∃ b off, A = some ⟨b, off, none⟩ ∧ b < B ∧ ∀ j u, (ccells l)[j]? = some u → w.cell? (Addr.add ⟨b, off, none⟩ j) = some u := by
  obtain ⟨b, off, hA, hlt, _⟩ := h.2 0 hn
  subst hA
  refine ⟨b, off, rfl, hlt, fun j u hj => ?_⟩
  have e : ∀ x, (Addr.add ⟨b, off, none⟩ x) = ⟨b, off + x, none⟩ := fun x => by unfold Addr.add; by_cases h0 : x = 0 <;> simp [h0]
  have hjl : j < l.length * 5 := by rw [← ccells_len]; exact (List.getElem?_eq_some_iff.1 hj).1
  have hq : j / 5 < n := by rw [← h.1]; omega
  obtain ⟨b', off', e', _, p0, p1, p2, p3, p4⟩ := h.2 (j / 5) hq
  injection e' with e'
  injection e' with e1 e2
  subst e1 e2
  obtain ⟨c0, c1, c2, c3, c4⟩ := ccells_get l (j / 5) (by omega)
  rw [e]
  have hr : j % 5 = 0 ∨ j % 5 = 1 ∨ j % 5 = 2 ∨ j % 5 = 3 ∨ j % 5 = 4 := by omega
  have hd : j = j / 5 * 5 + j % 5 := by omega
  rcases hr with hr | hr | hr | hr | hr
  · have e3 : j = j / 5 * 5 := by omega
    rw [e3] at hj; rw [c0] at hj; injection hj with hj; rw [← hj, e3]; simpa using p0
  · have e3 : j = j / 5 * 5 + 1 := by omega
    rw [e3] at hj; rw [c1] at hj; injection hj with hj; rw [← hj, show off + j = off + j / 5 * 5 + 1 by omega]; exact p1
  · have e3 : j = j / 5 * 5 + 2 := by omega
    rw [e3] at hj; rw [c2] at hj; injection hj with hj; rw [← hj, show off + j = off + j / 5 * 5 + 2 by omega]; exact p2
  · have e3 : j = j / 5 * 5 + 3 := by omega
    rw [e3] at hj; rw [c3] at hj; injection hj with hj; rw [← hj, show off + j = off + j / 5 * 5 + 3 by omega]; exact p3
  · have e3 : j = j / 5 * 5 + 4 := by omega
    rw [e3] at hj; rw [c4] at hj; injection hj with hj; rw [← hj, show off + j = off + j / 5 * 5 + 4 by omega]; exact p4
theorem OwnC.empty {w : World} {base g : Nat} (hb : base ≤ g) (h : w.heap[g]? = some (.cells #[] 68 (0, 0))) : OwnC w base (.slice (some ⟨g, 0, none⟩) 0 0) [] :=
  ⟨rfl, .inr ⟨g, 0, #[], rfl, hb, h, Nat.le_refl _, by unfold maxLen; omega, rfl, rfl⟩⟩
/-- append of a whole slice of comparisons. -/
theorem wpl_appCn {w : World} {ops : Array Oper} {rest : List Oper} {o : Oper} {a : Act} {Q : Exit → Act → World → Prop} (hgd : o.guard = none) (s x : Operand)
    (ho : o.op = .call { callee := .builtin .append, args := #[s, x], argTypes := #[69, 69] })
    (base : Nat) (v : Value) (l : List CV) (hs : a.eval s = v) (hown : OwnC w base v l)
    (B : Nat) (A : Option Addr) (m c : Nat) (l2 : List CV) (hx : a.eval x = .slice A m c) (hr : RdC w B A m l2) (hm : 0 < m) (hn : l.length + m ≤ 1099511627) (hbase : base ≤ w.heap.size)
    (h : ∀ v' w', OwnC w' base v' (l ++ l2) → w.grownBy w' v.ownBlock → (v'.ownBlock = v.ownBlock ∨ v'.ownBlock = some w.heap.size) → wpList Tryd.prog ops Q rest (a.put o.dst v') w') :
    wpList Tryd.prog ops Q (o :: rest) a w := by
  obtain ⟨i0, hi, hz0, hz1, hz2⟩ := info_parts infoComp
  obtain ⟨b, off, rfl, _, hc⟩ := hr.cells hm
  refine wpList_append_own_at w hgd s x 69 ho base 68 i0 _ 5 48 Tryd.underlying69 hi hz0 hz1 hz2 rfl (by decide) v l.length _ hs hown ⟨b, off, none⟩ m c (ccells l2) hx (by rw [ccells_len, hr.1]) hc (ccells_one l2) (by unfold maxLen; omega) (by omega) hbase ?_
  intro v' w' hown' hg _ hat
  refine h v' w' ?_ hg hat
  unfold OwnC
  rw [ccells_append, List.length_append, hr.1]
  exact hown'
set_option maxHeartbeats 4000000 in
theorem Clone_any (A : Option Addr) (n cp : Nat) (l : List CV) (w : World) (B : Nat) (hr : RdC w B A n l) (hB : B ≤ w.heap.size) (hn : 0 < n ∧ n ≤ 1000000) :
    Calls Tryd.prog 69 #[.slice A n cp] w fun e w' => (∃ v, e = .returned v ∧ OwnC w' w.heap.size v l) ∧ Below w.heap.size w w' := by
  obtain ⟨b, off, hA, hlt, hc⟩ := hr.cells hn.1
  subst hA
  have hba : Below w.heap.size w (w.alloc (.cells #[] 68)) := (Below.refl _ w).alloc (Nat.le_refl _) _
  have HO : Hid (OwnC (w.alloc (.cells #[] 68)) w.heap.size (.slice (some ⟨w.heap.size, 0, none⟩) 0 0) []) := Lib.hid (OwnC.empty (Nat.le_refl _) (World.alloc_heap_new _ _))
  have HR : Hid (RdC (w.alloc (.cells #[] 68)) B (some ⟨b, off, none⟩) n l) := Lib.hid (hr.below (hba.mono hB))
  have HBA := Lib.hid hba
  have HN := Lib.hid hn
  have heq := fun (W : World) => Lib.run_eql_slice_nil (P := Tryd.prog) W 69 _ (some ⟨b, off, none⟩) n cp 0 0 Tryd.underlying69
  clear hr hB hn hc hba
  go_enter Tryd.func69, Tryd.ntmps69
  go_wp2_with (at_builtin; refine wpl_appCn rfl (.tmp 5) (.tmp 6) rfl w.heap.size _ [] rfl HO.out B (some ⟨b, off, none⟩) n cp l rfl HR.out HN.out.1 (by have := HN.out.2; simp; omega) (by simp) ?_; intro v2 w2 hown2 hgr2 hat2)
  refine bodyPost_ret (results_tmp rfl _ _ _) rfl ⟨⟨v2, rfl, hown2⟩, HBA.out.grown hgr2 HBA.out.size (fun g hg => own_ge HO.out g hg)⟩
end Go.Proofs.YtbmhjmdbolnbaaaDoor
