/-
  PLAIN MATHEMATICS for the statement LatticeWay: a way through, node by node, as the picks say.
-/
import Derived.Test.YtfcabdgidlnljaaDoorLMemP
import Derived.Test.YtfcabdgidlnljaaDoorDFromP
import Derived.Test.YtfcabdgidlnljaaDoorDInts
namespace Go.Proofs.YtfcabdgidlnljaaDoor.DiP
set_option linter.unusedVariables false
set_option linter.unusedSimpArgs false
/-- The place that a pick says. -/
def plc (n : Nat) (p : Int) : Nat := p.natAbs % n
theorem plc_lt {n : Nat} (h : 0 < n) (p : Int) : plc n p < n := Nat.mod_lt _ h
section
variable {g : List (Nat × Nat)} {n : Nat}
theorem cf_add {d v : Nat} (hb : bt d v = false) : ∀ k, cf (bt (add d v)) k = cf (bt d) k + (if v < k then 1 else 0)
  | 0 => by simp [cf]
  | k + 1 => by
    have ih := cf_add hb k
    unfold cf
    by_cases e : v = k
    · subst e
      rw [ih, bt_add, hb, decide_eq_true rfl]
      simp
    · rw [ih, bt_add, decide_eq_false e, Bool.or_false]
      by_cases l : v < k
      · rw [if_pos l, if_pos (show v < k + 1 by omega)]; split <;> omega
      · rw [if_neg l, if_neg (show ¬ v < k + 1 by omega)]; split <;> omega
theorem cf_some {f : Nat → Bool} : ∀ k, cf f k < k → ∃ v, v < k ∧ f v = false
  | 0, h => by omega
  | k + 1, h => by
    unfold cf at h
    by_cases e : f k = true
    · rw [if_pos e] at h
      obtain ⟨v, h1, h2⟩ := cf_some (f := f) k (by omega)
      exact ⟨v, by omega, h2⟩
    · exact ⟨k, by omega, by simpa using e⟩
theorem cf_zero : ∀ k, cf (bt 0) k = 0
  | 0 => rfl
  | k + 1 => by unfold cf; rw [cf_zero k, bt_zero]; rfl
/-- Where there is an order, and a node is left, one may come next. -/
theorem some_ready {d : Nat} (hi : InN n g) (hn : n ≤ 64) (hg : Goes (befG g) n n) (hd : d < lim) : ∀ (m u : Nat), levG n g u ≤ m → u < n → bt d u = false → ∃ v, v < n ∧ rdy (befG g) d v = true := by
  intro m
  induction m with
  | zero =>
    intro u hm hu hb
    refine ⟨u, hu, ?_⟩
    unfold rdy
    rw [hb, Bool.not_false, Bool.true_and, decide_eq_true_eq, andn_zero (befG_small hi hn u) hd]
    intro x hx
    have := levG_edge hi hn hg ((bt_befG g x u).1 hx)
    omega
  | succ m ih =>
    intro u hm hu hb
    by_cases hr : rdy (befG g) d u = true
    · exact ⟨u, hu, hr⟩
    · have h1 : ¬ ∀ x, bt (befG g u) x = true → bt d x = true := fun h => hr (by
        unfold rdy
        rw [hb, Bool.not_false, Bool.true_and, decide_eq_true_eq, andn_zero (befG_small hi hn u) hd]
        exact h)
      obtain ⟨x, hx⟩ := Classical.not_forall.1 h1
      obtain ⟨hx1, hx2⟩ := Classical.not_imp.1 hx
      have e := (bt_befG g x u).1 hx1
      have hl := levG_edge hi hn hg e
      exact ih x (by omega) (e.lt hi).1 (by simpa using hx2)
/-- The nodes that may come next, the lowest first. -/
def nxtL (g : List (Nat × Nat)) (n d : Nat) : List Nat := memL (rdyK (befG g) d n)
/-- The node that the pick says. -/
def nxt (g : List (Nat × Nat)) (n d : Nat) (p : Int) : Nat := (nxtL g n d).getD (plc (nxtL g n d).length p) 0
def wayS (g : List (Nat × Nat)) (n : Nat) (ps : List Int) : Nat → Nat × List Nat
  | 0 => (0, [])
  | k + 1 => (add (wayS g n ps k).1 (nxt g n (wayS g n ps k).1 (ix ps k)), (wayS g n ps k).2 ++ [nxt g n (wayS g n ps k).1 (ix ps k)])
theorem nxtL_mem (hn : n ≤ 64) {d v : Nat} : v ∈ nxtL g n d ↔ v < n ∧ rdy (befG g) d v = true := by
  unfold nxtL
  rw [memL_mem, bt_rdyK, Bool.and_eq_true, decide_eq_true_eq]
  constructor
  · rintro ⟨_, h⟩; exact h
  · rintro ⟨h1, h2⟩; exact ⟨by omega, h1, h2⟩
theorem nxtL_len {d : Nat} : (nxtL g n d).length ≤ 64 := memL_len _
theorem nxt_mem {d : Nat} (h : nxtL g n d ≠ []) (p : Int) : nxt g n d p ∈ nxtL g n d := by
  have h1 : plc (nxtL g n d).length p < (nxtL g n d).length := plc_lt (List.length_pos_iff.2 h) p
  unfold nxt
  rw [List.getD_eq_getElem?_getD, List.getElem?_eq_getElem h1]
  exact List.getElem_mem h1
structure WayI (g : List (Nat × Nat)) (n : Nat) (k : Nat) (d : Nat) (l : List Nat) : Prop where
  ins : inS n d
  cl : Cl g d
  cnt : cf (bt d) n = k
  len : l.length = k
theorem WayI.some {k d : Nat} {l : List Nat} (h : WayI g n k d l) (hi : InN n g) (hn : n ≤ 64) (hg : Goes (befG g) n n) (hk : k < n) : nxtL g n d ≠ [] := by
  obtain ⟨u, h1, h2⟩ := cf_some (f := bt d) n (by rw [h.cnt]; exact hk)
  obtain ⟨v, h3, h4⟩ := some_ready hi hn hg h.ins.1 _ u (Nat.le_refl _) h1 h2
  intro e
  have := (nxtL_mem (g := g) hn).2 ⟨h3, h4⟩
  rw [e] at this; cases this
theorem wayS_ok (hi : InN n g) (hn : n ≤ 64) (hg : Goes (befG g) n n) (ps : List Int) : ∀ k, k ≤ n → WayI g n k (wayS g n ps k).1 (wayS g n ps k).2
  | 0, _ => ⟨⟨by show 0 < lim; decide, fun u _ => bt_zero u⟩, (fun k _ h => by rw [show (wayS g n ps 0).1 = 0 from rfl, bt_zero] at h; cases h), cf_zero n, rfl⟩
  | k + 1, hk => by
    have ih := wayS_ok hi hn hg ps k (by omega)
    have hs := ih.some hi hn hg (by omega)
    obtain ⟨h1, h2⟩ := (nxtL_mem hn).1 (nxt_mem hs (ix ps k))
    refine ⟨inS_add ih.ins h1 hn, cl_add hi hn ih.ins.1 ih.cl h2, ?_, ?_⟩
    · show cf (bt (add _ _)) n = _
      rw [cf_add (rdy_new h2), if_pos h1, ih.cnt]
    · show ((wayS g n ps k).2 ++ [_]).length = _
      rw [List.length_append, ih.len]; rfl
theorem wayS_get {ps : List Int} : ∀ {j k : Nat}, j < k → (∀ i, i ≤ k → (wayS g n ps i).2.length = i) → (wayS g n ps k).2[j]? = some (nxt g n (wayS g n ps j).1 (ix ps j)) := by
  intro j k
  induction k with
  | zero => intro h; omega
  | succ k ih =>
    intro h hl
    show ((wayS g n ps k).2 ++ [_])[j]? = _
    by_cases e : j = k
    · subst e
      rw [List.getElem?_append_right (by rw [hl j (by omega)]; exact Nat.le_refl _), hl j (by omega), Nat.sub_self]; rfl
    · rw [List.getElem?_append_left (by rw [hl k (by omega)]; omega)]
      exact ih (by omega) (fun i hi => hl i (by omega))
end
end Go.Proofs.YtfcabdgidlnljaaDoor.DiP
