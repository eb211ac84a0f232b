/-
  A crash of the dock's files and of the document's list; pure.
-/
import Derived.Test.YtfpcfbolpnfacaaQLk
namespace Go.Proofs.Ytfpcfbolpnfacaa
open Go.RowKit
open ByteP
set_option linter.unusedVariables false
set_option maxRecDepth 10000
theorem asc_extQ : ∀ {l1 l2 : List Int}, l1.Pairwise (· < ·) → l2.Pairwise (· < ·) → (∀ x, x ∈ l1 ↔ x ∈ l2) → l1 = l2
  | [], [], _, _, _ => rfl
  | [], y :: l2, _, _, h => by have := (h y).2 (by simp); simp at this
  | x :: l1, [], _, _, h => by have := (h x).1 (by simp); simp at this
  | x :: l1, y :: l2, h1, h2, h => by
    obtain ⟨a1, b1⟩ := List.pairwise_cons.1 h1
    obtain ⟨a2, b2⟩ := List.pairwise_cons.1 h2
    have exy : x = y := by
      rcases List.mem_cons.1 ((h x).1 (by simp)) with e | e
      · exact e
      · rcases List.mem_cons.1 ((h y).2 (by simp)) with e2 | e2
        · exact e2.symm
        · have := a2 x e; have := a1 y e2; omega
    subst exy
    have : l1 = l2 := asc_extQ b1 b2 (fun z => by
      constructor
      · intro hz
        rcases List.mem_cons.1 ((h z).1 (by simp [hz])) with e | e
        · subst e; have := a1 z hz; omega
        · exact e
      · intro hz
        rcases List.mem_cons.1 ((h z).2 (by simp [hz])) with e | e
        · subst e; have := a2 z hz; omega
        · exact e)
    rw [this]
def nms (L : List TF) : List Int := L.map (·.nm)
theorem nms_ix {L : List TF} {j : Nat} (h : j < L.length) : ix (nms L) j = (tfAt L j).nm := by
  unfold ix nms tfAt
  simp [List.getD, h]
section
variable {F : Int → Option Fi} {L : List TF}
theorem LkD.nms_asc (h : LkD F L) : (nms L).Pairwise (· < ·) := by
  rw [List.pairwise_iff_getElem]
  intro i j hi hj hij
  have hj' : j < L.length := by simpa [nms] using hj
  have e := h.asc i j hij hj'
  rw [← nms_ix (by omega), ← nms_ix hj'] at e
  unfold ix at e
  simpa [List.getD, hi, hj] using e
theorem LkD.nms_mem (h : LkD F L) (x : Int) : x ∈ nms L ↔ (F x).isSome = true := by
  constructor
  · intro hx
    obtain ⟨t, ht, rfl⟩ := List.mem_map.1 hx
    obtain ⟨i, hi, rfl⟩ := mem_tfAt ht
    obtain ⟨f, hf, _⟩ := h.fwd i hi
    rw [hf]; rfl
  · intro hx
    obtain ⟨i, hi, e⟩ := h.bwd x hx
    exact List.mem_map.2 ⟨tfAt L i, tfAt_mem hi, e⟩
theorem LkD.names (h : LkD F L) {ns : List Int} (ha : Asc ns) (hm : ∀ x, x ∈ ns ↔ (F x).isSome = true) : ns = nms L :=
  asc_extQ ha h.nms_asc (fun x => (hm x).trans (h.nms_mem x).symm)
theorem cutL_eq {j q : Nat} (hj : j < L.length) : cutL L j q = L.set j ⟨(tfAt L j).nm, (tfAt L j).P, q, q, (tfAt L j).bs.take q, q⟩ := by
  unfold cutL putS putB
  rw [tfAt_set_same hj, List.set_set]
theorem crTK_nm (ks : List Int) (L : List TF) : ∀ j i, (tfAt (crTK ks L j).L i).nm = (tfAt L i).nm
  | 0, i => rfl
  | j + 1, i => by
    have ih := crTK_nm ks L j
    show (tfAt (crTS ks j (crTK ks L j)).L i).nm = _
    unfold crTS
    split
    · exact ih i
    · show (tfAt (cutL _ _ _) i).nm = _
      by_cases hj : j < (crTK ks L j).L.length
      · by_cases e : j = i
        · subst e; rw [cutL_same hj]; exact ih j
        · rw [cutL_other e]; exact ih i
      · unfold cutL putS putB
        rw [List.set_eq_of_length_le (by rw [List.length_set]; omega), List.set_eq_of_length_le (by omega)]; exact ih i
theorem LkD.crash (h : LkD F L) (ks : List Int) (hs : ∀ i, i < L.length → (tfAt L i).s ≤ (tfAt L i).n) : ∀ j, j ≤ L.length →
    LkD (crK F ks (nms L) j).F (crTK ks L j).L ∧ (crK F ks (nms L) j).l = (crTK ks L j).a ∧ (crK F ks (nms L) j).d = (sizeT (crTK ks L j).L L.length : Int) - (sizeT L L.length : Int)
  | 0, _ => ⟨h, rfl, by show (0 : Int) = (sizeT L L.length : Int) - _; omega⟩
  | j + 1, hj => by
    obtain ⟨i1, i2, i3⟩ := h.crash ks hs j (by omega)
    have hlen := crTK_len ks L j
    have hrest := crTK_rest ks L j j (Nat.le_refl _)
    have hsj := hs j (by omega)
    have e1 : crK F ks (nms L) (j + 1) = crS ks (ix (nms L) j) (crK F ks (nms L) j) := rfl
    have e2 : crTK ks L (j + 1) = crTS ks j (crTK ks L j) := rfl
    rw [e1, e2, nms_ix (by omega), ← crTK_nm ks L j j]
    generalize crTK ks L j = C at *
    generalize crK F ks (nms L) j = D at *
    obtain ⟨f, hf, f1, f2, f3⟩ := i1.fwd j (by omega)
    have hkp : kpt ks D.l f = kptT ks C.a (tfAt C.L j) := by
      unfold kpt kptT
      rw [i2, f2, f3]
    by_cases hsn : f.s = f.n
    · rw [crS_same hf hsn]
      unfold crTS
      rw [if_pos (by rw [← f2, ← f3]; exact hsn)]
      exact ⟨i1, i2, i3⟩
    · rw [crS_cut hf hsn]
      unfold crTS
      rw [if_neg (by rw [← f2, ← f3]; exact hsn)]
      have hjc : j < C.L.length := by omega
      rw [cutL_eq hjc]
      refine ⟨i1.upd hjc rfl ?_ ?_ ?_, by show D.l + 1 = C.a + 1; rw [i2], ?_⟩
      · show f.bs.take _ = (tfAt C.L j).bs.take _; rw [f1, f2, hkp]
      · show f.s + kpt ks D.l f = (tfAt C.L j).s + _; rw [f2, hkp]
      · show f.s + kpt ks D.l f = (tfAt C.L j).s + _; rw [f2, hkp]
      · have hz := sizeT_set (x := ⟨(tfAt C.L j).nm, (tfAt C.L j).P, (tfAt C.L j).s + kptT ks C.a (tfAt C.L j), (tfAt C.L j).s + kptT ks C.a (tfAt C.L j), (tfAt C.L j).bs.take ((tfAt C.L j).s + kptT ks C.a (tfAt C.L j)), (tfAt C.L j).s + kptT ks C.a (tfAt C.L j)⟩) hjc L.length
        rw [if_pos (by omega), if_pos (by omega)] at hz
        show D.d - ((f.n : Int) - (f.s + kpt ks D.l f : Nat)) = _
        rw [i3, f3, f2, hkp]
        simp only at hz ⊢
        have hle := kptT_le ks C.a (tfAt C.L j) (by rw [hrest]; exact hsj)
        omega
theorem crTK_small (ks : List Int) {b : Nat} (hs : ∀ i, i < L.length → (tfAt L i).s ≤ (tfAt L i).n ∧ (tfAt L i).n ≤ b) : ∀ j, j ≤ L.length → ∀ i, i < L.length → (tfAt (crTK ks L j).L i).s ≤ (tfAt (crTK ks L j).L i).n ∧ (tfAt (crTK ks L j).L i).n ≤ b
  | 0, _ => hs
  | j + 1, hj => by
    intro i hi
    have ih := crTK_small ks hs j (by omega)
    have hlen := crTK_len ks L j
    show (tfAt (crTS ks j (crTK ks L j)).L i).s ≤ (tfAt (crTS ks j (crTK ks L j)).L i).n ∧ (tfAt (crTS ks j (crTK ks L j)).L i).n ≤ b
    unfold crTS
    split
    · exact ih i hi
    · show (tfAt (cutL _ _ _) i).s ≤ (tfAt (cutL _ _ _) i).n ∧ (tfAt (cutL _ _ _) i).n ≤ b
      by_cases e : j = i
      · subst e
        rw [cutL_same (by omega)]
        have := ih j hi
        have := kptT_le ks (crTK ks L j).a (tfAt (crTK ks L j).L j) this.1
        exact ⟨Nat.le_refl _, by simp only; omega⟩
      · rw [cutL_other e]; exact ih i hi
end
end Go.Proofs.Ytfpcfbolpnfacaa
