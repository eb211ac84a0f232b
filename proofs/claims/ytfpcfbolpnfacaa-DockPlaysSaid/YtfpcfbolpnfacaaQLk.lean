/-
  The dock's files and the document's list of files say the same; pure.
-/
import Derived.Test.YtfpcfbolpnfacaaQCra
import Derived.Test.YtfpcfbolpnfacaaQPut
import Derived.Test.YtfpcfbolpnfacaaKAll
import Derived.Test.YtfpcfbolpnfacaaKWords
namespace Go.Proofs.Ytfpcfbolpnfacaa
open Go.RowKit
open ByteP
set_option linter.unusedVariables false
set_option maxRecDepth 10000
structure LkD (F : Int → Option Fi) (L : List TF) : Prop where
  asc : ∀ i j, i < j → j < L.length → (tfAt L i).nm < (tfAt L j).nm
  fwd : ∀ i, i < L.length → ∃ f, F (tfAt L i).nm = some f ∧ f.bs = (tfAt L i).bs ∧ f.s = (tfAt L i).s ∧ f.n = (tfAt L i).n
  bwd : ∀ k, (F k).isSome = true → ∃ i, i < L.length ∧ (tfAt L i).nm = k
structure LkN (nm : Nm) (n : TN) : Prop where
  cap : nm.cap = n.cap
  down : nm.down = n.off
  left : nm.left = if n.armed = true then n.left else -1
  pos : n.armed = true → 0 ≤ n.left
  big : n.left ≤ 9223372036854775807
theorem LkN.lo {nm : Nm} {n : TN} (h : LkN nm n) : -1 ≤ nm.left ∧ nm.left ≤ 9223372036854775807 := by
  have h1 := h.left
  have h2 := h.big
  split at h1
  · rename_i ha; have := h.pos ha; omega
  · omega
theorem LkN.zero {nm : Nm} {n : TN} (h : LkN nm n) : (n.armed && n.left == 0) = decide (nm.left = 0) := by
  rw [h.left]
  cases ha : n.armed with
  | false => simp
  | true => rfl
theorem LkN.goes {nm : Nm} {n : TN} (h : LkN nm n) : LkN (gd nm) (tgd n) := by
  obtain ⟨h1, h2, h3, h4, h5⟩ := h
  obtain ⟨cap, left, armed, off⟩ := n
  obtain ⟨cap', size, left', down⟩ := nm
  simp only at h1 h2 h3 h4 h5
  subst h1 h2 h3
  cases armed with
  | false =>
    refine ⟨rfl, rfl, ?_, nofun, h5⟩
    rfl
  | true =>
    have hp := h4 rfl
    by_cases h0 : left = 0
    · subst h0
      exact ⟨rfl, rfl, rfl, fun _ => by show (0 : Int) ≤ 0; omega, by show (0 : Int) ≤ _; omega⟩
    · have e1 : gd ⟨cap', size, left, down⟩ = ⟨cap', size, left - 1, down⟩ := by
        unfold gd
        rw [if_neg (by simp only; omega), if_neg (by simp only; omega)]
      have e2 : tgd ⟨cap', left, true, down⟩ = ⟨cap', left - 1, true, down⟩ := by
        unfold tgd
        rw [if_neg (fun h => h0 h.2), if_pos rfl]
      show LkN (gd ⟨cap', size, left, down⟩) (tgd ⟨cap', left, true, down⟩)
      rw [e1, e2]
      exact ⟨rfl, rfl, rfl, fun _ => by simp only; omega, by simp only; omega⟩
theorem tgd_cap (n : TN) : (tgd n).cap = n.cap := by
  unfold tgd
  split
  · rfl
  · split <;> rfl
section
variable {F : Int → Option Fi} {L : List TF}
theorem LkD.inj (h : LkD F L) {i j : Nat} (hi : i < L.length) (hj : j < L.length) (e : (tfAt L i).nm = (tfAt L j).nm) : i = j := by
  rcases Nat.lt_trichotomy i j with h1 | h1 | h1
  · have := h.asc i j h1 hj; omega
  · exact h1
  · have := h.asc j i h1 hi; omega
theorem LkD.upd (h : LkD F L) {i : Nat} (hi : i < L.length) {x : TF} {f : Fi} (hn : x.nm = (tfAt L i).nm) (h1 : f.bs = x.bs) (h2 : f.s = x.s) (h3 : f.n = x.n) : LkD (putF F (tfAt L i).nm f) (L.set i x) := by
  have hnm : ∀ j, (tfAt (L.set i x) j).nm = (tfAt L j).nm := fun j => by
    by_cases e : i = j
    · subst e; rw [tfAt_set_same hi, hn]
    · rw [tfAt_set_other e]
  refine ⟨fun a b hab hb => ?_, fun a ha => ?_, fun k hk => ?_⟩
  · rw [hnm, hnm]; exact h.asc a b hab (by simpa using hb)
  · rw [List.length_set] at ha
    rw [hnm]
    by_cases e : i = a
    · subst e
      rw [tfAt_set_same hi]
      exact ⟨f, putF_same _ _ _, h1, h2, h3⟩
    · rw [tfAt_set_other e, putF_other _ _ (fun e2 => e (h.inj ha hi e2).symm)]
      exact h.fwd a ha
  · by_cases e : k = (tfAt L i).nm
    · exact ⟨i, by rw [List.length_set]; exact hi, by rw [hnm]; exact e.symm⟩
    · rw [putF_other _ _ e] at hk
      obtain ⟨a, ha, hb⟩ := h.bwd k hk
      exact ⟨a, by rw [List.length_set]; exact ha, by rw [hnm]; exact hb⟩
/-- A file that isn't there. -/
theorem LkD.none_of (h : LkD F L) {k : Int} (hk : ∀ i, i < L.length → (tfAt L i).nm ≠ k) : F k = none := by
  cases hf : F k with
  | none => rfl
  | some f =>
    obtain ⟨i, hi, e⟩ := h.bwd k (by rw [hf]; rfl)
    exact absurd e (hk i hi)
theorem tfAt_ins {x : TF} {p : Nat} (hp : p ≤ L.length) (i : Nat) : tfAt (L.take p ++ x :: L.drop p) i = if i < p then tfAt L i else if i = p then x else tfAt L (i - 1) := by
  unfold tfAt
  rw [List.getD_eq_getElem?_getD, List.getD_eq_getElem?_getD, List.getD_eq_getElem?_getD]
  have hl : (L.take p).length = p := by rw [List.length_take]; omega
  by_cases h1 : i < p
  · rw [if_pos h1, List.getElem?_append_left (by omega), List.getElem?_take_of_lt h1]
  · rw [if_neg h1, List.getElem?_append_right (by omega), hl]
    by_cases h2 : i = p
    · subst h2; simp
    · rw [if_neg h2]
      obtain ⟨d, rfl⟩ : ∃ d, i = p + 1 + d := ⟨i - p - 1, by omega⟩
      rw [show p + 1 + d - p = d + 1 by omega, List.getElem?_cons_succ, List.getElem?_drop, show p + 1 + d - 1 = p + d by omega]
theorem tfAt_del {p : Nat} (hp : p < L.length) (i : Nat) : tfAt (L.take p ++ L.drop (p + 1)) i = if i < p then tfAt L i else tfAt L (i + 1) := by
  unfold tfAt
  rw [List.getD_eq_getElem?_getD, List.getD_eq_getElem?_getD, List.getD_eq_getElem?_getD]
  have hl : (L.take p).length = p := by rw [List.length_take]; omega
  by_cases h1 : i < p
  · rw [if_pos h1, List.getElem?_append_left (by omega), List.getElem?_take_of_lt h1]
  · rw [if_neg h1, List.getElem?_append_right (by omega), hl, List.getElem?_drop, show p + 1 + (i - p) = i + 1 by omega]
theorem LkD.ins (h : LkD F L) {k : Int} {p : Nat} (hp : p ≤ L.length) (h0 : ∀ i, i < p → (tfAt L i).nm < k) (h1 : ∀ i, p ≤ i → i < L.length → k < (tfAt L i).nm) {x : TF} {f : Fi} (hn : x.nm = k) (e1 : f.bs = x.bs) (e2 : f.s = x.s) (e3 : f.n = x.n) :
    LkD (putF F k f) (L.take p ++ x :: L.drop p) := by
  have hlen : (L.take p ++ x :: L.drop p).length = L.length + 1 := by simp [List.length_take, List.length_drop]; omega
  have hne : ∀ i, i < L.length → (tfAt L i).nm ≠ k := fun i hi => by
    by_cases hip : i < p
    · have := h0 i hip; omega
    · have := h1 i (by omega) hi; omega
  refine ⟨fun a b hab hb => ?_, fun a ha => ?_, fun q hq => ?_⟩
  · rw [hlen] at hb
    rw [tfAt_ins hp, tfAt_ins hp]
    by_cases ha1 : a < p
    · rw [if_pos ha1]
      by_cases hb1 : b < p
      · rw [if_pos hb1]; exact h.asc a b hab (by omega)
      · rw [if_neg hb1]
        by_cases hb2 : b = p
        · rw [if_pos hb2, hn]; exact h0 a ha1
        · rw [if_neg hb2]
          have := h.asc a (b - 1) (by omega) (by omega); exact this
    · rw [if_neg ha1, if_neg (by omega : ¬ b < p), if_neg (by omega : ¬ b = p)]
      by_cases ha2 : a = p
      · rw [if_pos ha2, hn]; exact h1 (b - 1) (by omega) (by omega)
      · rw [if_neg ha2]; exact h.asc (a - 1) (b - 1) (by omega) (by omega)
  · rw [hlen] at ha
    rw [tfAt_ins hp]
    by_cases ha1 : a < p
    · rw [if_pos ha1, putF_other _ _ (hne a (by omega))]; exact h.fwd a (by omega)
    · rw [if_neg ha1]
      by_cases ha2 : a = p
      · rw [if_pos ha2, hn]; exact ⟨f, putF_same _ _ _, e1, e2, e3⟩
      · rw [if_neg ha2, putF_other _ _ (hne (a - 1) (by omega))]; exact h.fwd (a - 1) (by omega)
  · by_cases e : q = k
    · exact ⟨p, by omega, by rw [tfAt_ins hp, if_neg (by omega), if_pos rfl, hn, e]⟩
    · rw [putF_other _ _ e] at hq
      obtain ⟨i, hi, hx⟩ := h.bwd q hq
      by_cases hip : i < p
      · exact ⟨i, by omega, by rw [tfAt_ins hp, if_pos hip]; exact hx⟩
      · exact ⟨i + 1, by omega, by rw [tfAt_ins hp, if_neg (by omega), if_neg (by omega), Nat.add_sub_cancel]; exact hx⟩
theorem LkD.del (h : LkD F L) {p : Nat} (hp : p < L.length) : LkD (delF F (tfAt L p).nm) (L.take p ++ L.drop (p + 1)) := by
  have hlen : (L.take p ++ L.drop (p + 1)).length = L.length - 1 := by simp [List.length_take, List.length_drop]; omega
  have hdo : ∀ q, q ≠ (tfAt L p).nm → delF F (tfAt L p).nm q = F q := fun q hq => by unfold delF; rw [if_neg hq]
  refine ⟨fun a b hab hb => ?_, fun a ha => ?_, fun q hq => ?_⟩
  · rw [hlen] at hb
    rw [tfAt_del hp, tfAt_del hp]
    by_cases ha1 : a < p
    · rw [if_pos ha1]
      by_cases hb1 : b < p
      · rw [if_pos hb1]; exact h.asc a b hab (by omega)
      · rw [if_neg hb1]; exact h.asc a (b + 1) (by omega) (by omega)
    · rw [if_neg ha1, if_neg (by omega : ¬ b < p)]; exact h.asc (a + 1) (b + 1) (by omega) (by omega)
  · rw [hlen] at ha
    rw [tfAt_del hp]
    by_cases ha1 : a < p
    · rw [if_pos ha1, hdo _ (fun e => by have := h.inj (by omega) hp e; omega)]; exact h.fwd a (by omega)
    · rw [if_neg ha1, hdo _ (fun e => by have := h.inj (by omega) hp e; omega)]; exact h.fwd (a + 1) (by omega)
  · by_cases e : q = (tfAt L p).nm
    · unfold delF at hq; rw [if_pos e] at hq; cases hq
    · rw [hdo q e] at hq
      obtain ⟨i, hi, hx⟩ := h.bwd q hq
      have hip : i ≠ p := fun e2 => e (by rw [← hx, e2])
      by_cases h1 : i < p
      · exact ⟨i, by omega, by rw [tfAt_del hp, if_pos h1]; exact hx⟩
      · exact ⟨i - 1, by omega, by rw [tfAt_del hp, if_neg (by omega), show i - 1 + 1 = i by omega]; exact hx⟩
/-- Where a name stands, or would. -/
theorem LkD.place (h : LkD F L) (k : Int) : ∃ p, p ≤ L.length ∧ (∀ i, i < p → (tfAt L i).nm < k) ∧ (p < L.length → k ≤ (tfAt L p).nm) := by
  have : ∀ m, m ≤ L.length → ∃ p, p ≤ m ∧ (∀ i, i < p → (tfAt L i).nm < k) ∧ (p < m → k ≤ (tfAt L p).nm) := by
    intro m
    induction m with
    | zero => exact fun _ => ⟨0, by omega, fun i hi => by omega, fun h => by omega⟩
    | succ m ih =>
      intro hm
      obtain ⟨p, h1, h2, h3⟩ := ih (by omega)
      by_cases hp : p < m
      · exact ⟨p, by omega, h2, fun _ => h3 hp⟩
      · obtain rfl : p = m := by omega
        by_cases hk : (tfAt L p).nm < k
        · exact ⟨p + 1, by omega, fun i hi => by
            by_cases e : i = p
            · subst e; exact hk
            · exact h2 i (by omega), fun h => by omega⟩
        · exact ⟨p, by omega, h2, fun _ => by omega⟩
  exact this L.length (Nat.le_refl _)
theorem sizeT_set {x : TF} {p : Nat} (hp : p < L.length) : ∀ j, sizeT (L.set p x) j + (if p < j then (tfAt L p).n else 0) = sizeT L j + (if p < j then x.n else 0)
  | 0 => by simp [sizeT]
  | j + 1 => by
    have ih := sizeT_set (x := x) hp j
    show sizeT (L.set p x) j + (tfAt (L.set p x) j).n + _ = sizeT L j + (tfAt L j).n + _
    by_cases e : p = j
    · subst e
      rw [tfAt_set_same hp, if_pos (by omega), if_pos (by omega)]
      rw [if_neg (by omega), if_neg (by omega)] at ih
      omega
    · rw [tfAt_set_other e]
      by_cases h : p < j
      · rw [if_pos h, if_pos h] at ih
        rw [if_pos (by omega), if_pos (by omega)]; omega
      · rw [if_neg h, if_neg h] at ih
        rw [if_neg (by omega), if_neg (by omega)]; omega
theorem sizeT_ins {x : TF} {p : Nat} (hp : p ≤ L.length) : ∀ j, (j ≤ p → sizeT (L.take p ++ x :: L.drop p) j = sizeT L j) ∧ (p < j → sizeT (L.take p ++ x :: L.drop p) j = sizeT L (j - 1) + x.n)
  | 0 => ⟨fun _ => rfl, fun h => by omega⟩
  | j + 1 => by
    obtain ⟨i1, i2⟩ := sizeT_ins (x := x) hp j
    refine ⟨fun h => ?_, fun h => ?_⟩
    · show sizeT _ j + (tfAt _ j).n = sizeT L j + (tfAt L j).n
      rw [i1 (by omega), tfAt_ins hp, if_pos (by omega)]
    · show sizeT _ j + (tfAt _ j).n = sizeT L j + x.n
      rw [tfAt_ins hp, if_neg (by omega)]
      by_cases e : j = p
      · rw [if_pos e, i1 (by omega)]
      · rw [if_neg e, i2 (by omega)]
        obtain ⟨d, rfl⟩ : ∃ d, j = d + 1 := ⟨j - 1, by omega⟩
        show sizeT L d + x.n + (tfAt L d).n = sizeT L d + (tfAt L d).n + x.n
        omega
theorem sizeT_del {p : Nat} (hp : p < L.length) : ∀ j, (j ≤ p → sizeT (L.take p ++ L.drop (p + 1)) j = sizeT L j) ∧ (p ≤ j → sizeT (L.take p ++ L.drop (p + 1)) j + (tfAt L p).n = sizeT L (j + 1))
  | 0 => ⟨fun _ => rfl, fun h => by
      obtain rfl : p = 0 := by omega
      rfl⟩
  | j + 1 => by
    obtain ⟨i1, i2⟩ := sizeT_del hp j
    refine ⟨fun h => ?_, fun h => ?_⟩
    · show sizeT _ j + (tfAt _ j).n = sizeT L j + (tfAt L j).n
      rw [i1 (by omega), tfAt_del hp, if_pos (by omega)]
    · show sizeT _ j + (tfAt _ j).n + _ = sizeT L (j + 1) + (tfAt L (j + 1)).n
      rw [tfAt_del hp]
      by_cases e : j < p
      · rw [if_pos e, i1 (by omega)]
        obtain rfl : p = j + 1 := by omega
        show _ = sizeT L j + (tfAt L j).n + _
        omega
      · rw [if_neg e]
        have := i2 (by omega)
        omega
theorem sizeT_le {b : Nat} (h : ∀ i, i < L.length → (tfAt L i).n ≤ b) : ∀ j, j ≤ L.length → sizeT L j ≤ b * j
  | 0, _ => Nat.le_refl _
  | j + 1, hj => by
    have ih := sizeT_le h j (by omega)
    have := h j (by omega)
    show sizeT L j + (tfAt L j).n ≤ b * (j + 1)
    rw [Nat.mul_succ]; omega
theorem findT_of (h : LkD F L) {k : Int} {p : Nat} (hp : p < L.length) (e : (tfAt L p).nm = k) : findT L k L.length = some p := by
  refine findT_more (j := p + 1) (by omega) ?_
  have h0 : ∀ j, j ≤ p → findT L k j = none := by
    intro j
    induction j with
    | zero => exact fun _ => rfl
    | succ j ih =>
      intro hj
      show (match findT L k j with | some i => some i | none => _) = _
      rw [ih (by omega)]
      show (if (tfAt L j).nm = k then _ else _) = _
      rw [if_neg (fun e2 => by have := h.inj (i := j) (j := p) (by omega) hp (e2.trans e.symm); omega)]
  show (match findT L k p with | some i => some i | none => _) = _
  rw [h0 p (Nat.le_refl _)]
  show (if (tfAt L p).nm = k then _ else _) = _
  rw [if_pos e]
theorem findT_none {k : Int} : ∀ j, (∀ i, i < j → (tfAt L i).nm ≠ k) → findT L k j = none
  | 0, _ => rfl
  | j + 1, h => by
    show (match findT L k j with | some i => some i | none => _) = _
    rw [findT_none j (fun i hi => h i (by omega))]
    show (if (tfAt L j).nm = k then _ else _) = _
    rw [if_neg (h j (by omega))]
end
end Go.Proofs.Ytfpcfbolpnfacaa
