/-
  PLAIN MATHEMATICS for the statements of layer 3: what is reached is what a way leads to; a graph with an edge more along what is reached already.
-/
import Derived.Test.YtfcabdgidlnljaaDoorDOrd
namespace Go.Proofs.YtfcabdgidlnljaaDoor.DiP
set_option linter.unusedVariables false
theorem bt_thr (r : Nat → Nat) {mid n v : Nat} (hv : v < n) (u : Nat) : bt (thrJ r mid n v) u = (bt (r v) u || (bt (r v) mid && bt (r mid) u)) := by
  unfold thrJ
  by_cases h : bt (r v) mid = true
  · rw [if_pos ⟨hv, h⟩, bt_orn, h]; simp
  · rw [if_neg (fun e => h e.2)]
    simp at h
    rw [h]; simp
/-- A way along edges. -/
inductive Way (g : List (Nat × Nat)) : Nat → Nat → Prop
  | one {u v : Nat} : E g u v → Way g u v
  | more {u v x : Nat} : Way g u v → E g v x → Way g u x
theorem Way.trans {g : List (Nat × Nat)} {u v x : Nat} (h : Way g u v) (k : Way g v x) : Way g u x := by
  induction k with
  | one e => exact .more h e
  | more _ e ih => exact .more ih e
theorem Way.lt {g : List (Nat × Nat)} {n u v : Nat} (hi : InN n g) (h : Way g u v) : u < n ∧ v < n := by
  induction h with
  | one e => exact e.lt hi
  | more _ e ih => exact ⟨ih.1, (e.lt hi).2⟩
theorem rchK_way {g : List (Nat × Nat)} {n : Nat} (hi : InN n g) : ∀ k, k ≤ n → ∀ u v, u < n → bt (rchK n g k u) v = true → Way g u v := by
  intro k
  induction k with
  | zero => intro _ u v _ h; exact .one ((bt_aftG g v u).1 h)
  | succ k ih =>
    intro hk u v hu h
    have h' : bt (thrJ (rchK n g k) k n u) v = true := h
    rw [bt_thr _ hu] at h'
    simp only [Bool.or_eq_true, Bool.and_eq_true] at h'
    rcases h' with h1 | ⟨h1, h2⟩
    · exact ih (by omega) u v hu h1
    · exact (ih (by omega) u k hu h1).trans (ih (by omega) k v (by omega) h2)
theorem rchK_trans {g : List (Nat × Nat)} {n : Nat} (hi : InN n g) : ∀ k, k ≤ n → ∀ a b c, a < n → b < k → bt (rchK n g k a) b = true → bt (rchK n g k b) c = true → bt (rchK n g k a) c = true := by
  intro k
  induction k with
  | zero => intro _ a b c _ h; omega
  | succ k ih =>
    intro hk a b c ha hb h1 h2
    have t := ih (by omega)
    have e1 : bt (thrJ (rchK n g k) k n a) b = true := h1
    have e2 : bt (thrJ (rchK n g k) k n b) c = true := h2
    show bt (thrJ (rchK n g k) k n a) c = true
    rw [bt_thr _ ha] at e1 ⊢
    rw [bt_thr _ (show b < n by omega)] at e2
    simp only [Bool.or_eq_true, Bool.and_eq_true] at e1 e2 ⊢
    by_cases hbk : b = k
    · subst hbk
      have ha1 : bt (rchK n g b a) b = true := by rcases e1 with h | h; exact h; exact h.1
      have hb1 : bt (rchK n g b b) c = true := by rcases e2 with h | h; exact h; exact h.2
      exact .inr ⟨ha1, hb1⟩
    · have hbl : b < k := by omega
      rcases e1 with p | ⟨p1, p2⟩
      · rcases e2 with q | ⟨q1, q2⟩
        · exact .inl (t a b c ha hbl p q)
        · exact .inr ⟨t a b k ha hbl p q1, q2⟩
      · rcases e2 with q | ⟨q1, q2⟩
        · exact .inr ⟨p1, t k b c (by omega) hbl p2 q⟩
        · exact .inr ⟨p1, q2⟩
theorem rchK_more {g : List (Nat × Nat)} {n : Nat} : ∀ k, ∀ u v, u < n → E g u v → bt (rchK n g k u) v = true := by
  intro k
  induction k with
  | zero => intro u v _ e; exact (bt_aftG g v u).2 e
  | succ k ih =>
    intro u v hu e
    show bt (thrJ (rchK n g k) k n u) v = true
    rw [bt_thr _ hu, ih u v hu e]; rfl
theorem rch_way {g : List (Nat × Nat)} {n : Nat} (hi : InN n g) {u v : Nat} (hu : u < n) : bt (rchG n g u) v = true ↔ Way g u v := by
  constructor
  · exact rchK_way hi n (Nat.le_refl _) u v hu
  · intro h
    induction h with
    | one e => exact rchK_more n _ _ hu e
    | more k e ih => exact rchK_trans hi n (Nat.le_refl _) _ _ _ hu (k.lt hi).2 ih (rchK_more n _ _ (k.lt hi).2 e)

/-- A graph along whose edges a number rises has an order of all nodes. -/
theorem goes_of_rank {g : List (Nat × Nat)} {n : Nat} (hi : InN n g) (hn : n ≤ 64) (ρ : Nat → Nat) (h : ∀ u v, E g u v → ρ u < ρ v) : Goes (befG g) n n := by
  have key : ∀ (s : Nat), s < lim → cnt s n < n → ∀ b, (∃ u, u < n ∧ bt s u = false ∧ ρ u ≤ b) → ∃ v, v < n ∧ rdy (befG g) s v = true := by
    intro s hs hc b
    induction b using Nat.strongRecOn with
    | _ b ih =>
      rintro ⟨u, hu, hbu, hr⟩
      by_cases hz : ∀ x, bt (befG g u) x = true → bt s x = true
      · refine ⟨u, hu, ?_⟩
        unfold rdy
        rw [hbu, (andn_zero (befG_small hi hn u) hs).2 hz]; rfl
      · obtain ⟨x, hx⟩ := Classical.not_forall.1 hz
        have hx1 : bt (befG g u) x = true := by
          cases hb : bt (befG g u) x with
          | true => rfl
          | false => exact absurd (fun h => by rw [hb] at h; cases h) hx
        have hx2 : bt s x = false := by
          cases hb : bt s x with
          | false => rfl
          | true => exact absurd (fun _ => hb) hx
        have e := (bt_befG g x u).1 hx1
        have hlt := h x u e
        exact ih (ρ x) (by omega) ⟨x, (e.lt hi).1, hx2, Nat.le_refl _⟩
  have step : ∀ k, k ≤ n → Goes (befG g) n k := by
    intro k
    induction k with
    | zero => intro _; exact Goes.zero _ _
    | succ k ih =>
      intro hk
      have hg := ih (by omega)
      have hc : cnt (ordS (befG g) n k).1 n < n := by rw [ordS_cnt, hg]; omega
      have hex : ∃ u, u < n ∧ bt (ordS (befG g) n k).1 u = false := by
        apply Classical.byContradiction
        intro hno
        have hall : ∀ u, u < n → bt (ordS (befG g) n k).1 u = true := fun u hu => by
          cases hb : bt (ordS (befG g) n k).1 u with
          | true => rfl
          | false => exact absurd ⟨u, hu, hb⟩ hno
        have : ∀ m, m ≤ n → cnt (ordS (befG g) n k).1 m = m := by
          intro m
          induction m with
          | zero => intro _; rfl
          | succ m ih => intro hm; unfold cnt; rw [ih (by omega), hall m (by omega)]; rfl
        have := this n (Nat.le_refl _)
        omega
      obtain ⟨u, hu, hbu⟩ := hex
      obtain ⟨v, hv, hr⟩ := key _ (ordS_lt _ hn k) hc (ρ u) ⟨u, hu, hbu, Nat.le_refl _⟩
      cases hl : lowest (befG g) (ordS (befG g) n k).1 n with
      | some x => exact hg.step hl
      | none => have := lowest_no hl v hv; rw [this] at hr; cases hr
  exact step n (Nat.le_refl _)

/-- An edge more. -/
def edgeG (g : List (Nat × Nat)) (i j : Nat) : List (Nat × Nat) := g ++ [(i, j)]
theorem E_edge {g : List (Nat × Nat)} {i j u v : Nat} : E (edgeG g i j) u v ↔ E g u v ∨ (u = i ∧ v = j) := by
  unfold E edgeG
  constructor
  · rintro ⟨k, hk, h1, h2⟩
    by_cases hl : k < g.length
    · left
      refine ⟨k, hl, ?_, ?_⟩
      · rw [← h1]; simp [fa, List.getD, List.getElem?_append_left hl]
      · rw [← h2]; simp [fb, List.getD, List.getElem?_append_left hl]
    · right
      have : k = g.length := by simp at hk; omega
      subst this
      simp [fa, fb, List.getD] at h1 h2
      exact ⟨h1.symm, h2.symm⟩
  · rintro (⟨k, hk, h1, h2⟩ | ⟨rfl, rfl⟩)
    · refine ⟨k, by simp; omega, ?_, ?_⟩
      · rw [← h1]; simp [fa, List.getD, List.getElem?_append_left hk]
      · rw [← h2]; simp [fb, List.getD, List.getElem?_append_left hk]
    · exact ⟨g.length, by simp, by simp [fa, List.getD], by simp [fb, List.getD]⟩
theorem inN_edge {g : List (Nat × Nat)} {n i j : Nat} (hi : InN n g) (h1 : i < n) (h2 : j < n) : InN n (edgeG g i j) := by
  intro k hk
  have e : E (edgeG g i j) (fa (edgeG g i j) k) (fb (edgeG g i j) k) := ⟨k, hk, rfl, rfl⟩
  rcases E_edge.1 e with e | ⟨ha, hb⟩
  · exact e.lt hi
  · rw [ha, hb]; exact ⟨h1, h2⟩
theorem way_edge {g : List (Nat × Nat)} {i j u v : Nat} (hw : Way g i j) : Way (edgeG g i j) u v ↔ Way g u v := by
  constructor
  · intro h
    induction h with
    | one e => rcases E_edge.1 e with e | ⟨rfl, rfl⟩; exact .one e; exact hw
    | more _ e ih => rcases E_edge.1 e with e | ⟨rfl, rfl⟩; exact .more ih e; exact ih.trans hw
  · intro h
    induction h with
    | one e => exact .one (E_edge.2 (.inl e))
    | more _ e ih => exact .more ih (E_edge.2 (.inl e))
/-- It changes nothing in what is reached. -/
theorem rch_edge {g : List (Nat × Nat)} {n i j : Nat} (hi : InN n g) (hn : n ≤ 64) (h1 : i < n) (h2 : j < n) (hw : Way g i j) {u : Nat} (hu : u < n) : rchG n (edgeG g i j) u = rchG n g u := by
  have hi' := inN_edge hi h1 h2
  refine ext64 (rchK_small hi' hn n u) (rchK_small hi hn n u) (fun v _ => ?_)
  rw [Bool.eq_iff_iff]
  exact (rch_way hi' hu).trans ((way_edge hw).trans (rch_way hi hu).symm)
theorem way_rank {g : List (Nat × Nat)} {ρ : Nat → Nat} (h : ∀ u v, E g u v → ρ u < ρ v) {u v : Nat} (k : Way g u v) : ρ u < ρ v := by
  induction k with
  | one e => exact h _ _ e
  | more _ e ih => exact Nat.lt_trans ih (h _ _ e)
theorem goes_edge {g : List (Nat × Nat)} {n i j : Nat} (hi : InN n g) (hn : n ≤ 64) (h1 : i < n) (h2 : j < n) (hw : Way g i j) (hg : Goes (befG g) n n) : Goes (befG (edgeG g i j)) n n := by
  refine goes_of_rank (inN_edge hi h1 h2) hn (levG n g) (fun u v e => ?_)
  rcases E_edge.1 e with e | ⟨rfl, rfl⟩
  · exact levG_edge hi hn hg e
  · exact way_rank (fun _ _ e => levG_edge hi hn hg e) hw
/-- Nor in the levels. -/
theorem lev_edge {g : List (Nat × Nat)} {n i j : Nat} (hi : InN n g) (hn : n ≤ 64) (h1 : i < n) (h2 : j < n) (hw : Way g i j) (hg : Goes (befG g) n n) : ∀ v, v < n → levG n (edgeG g i j) v = levG n g v := by
  have hi' := inN_edge hi h1 h2
  have hg' := goes_edge hi hn h1 h2 hw hg
  have key : ∀ b v, v < n → levG n g v ≤ b → levG n (edgeG g i j) v = levG n g v := by
    intro b
    induction b using Nat.strongRecOn with
    | _ b ih =>
      intro v hv hb
      have hpre : ∀ u, E (edgeG g i j) u v → levG n g u < levG n g v := fun u e => by
        rcases E_edge.1 e with e | ⟨rfl, rfl⟩
        · exact levG_edge hi hn hg e
        · exact way_rank (fun _ _ e => levG_edge hi hn hg e) hw
      have hsame : ∀ u, E (edgeG g i j) u v → levG n (edgeG g i j) u = levG n g u := fun u e => by
        have := hpre u e
        exact ih (levG n g u) (by omega) u (e.lt hi').1 (Nat.le_refl _)
      apply Nat.le_antisymm
      · by_cases h0 : 0 < levG n (edgeG g i j) v
        · obtain ⟨u, e, he⟩ := levG_from hi' hn hg' hv h0
          rw [he, hsame u e]
          exact hpre u e
        · omega
      · by_cases h0 : 0 < levG n g v
        · obtain ⟨u, e, he⟩ := levG_from hi hn hg hv h0
          have e' : E (edgeG g i j) u v := E_edge.2 (.inl e)
          have := levG_edge hi' hn hg' e'
          rw [hsame u e'] at this
          omega
        · omega
  exact fun v hv => key _ v hv (Nat.le_refl _)
theorem way_first {g : List (Nat × Nat)} {u v : Nat} (h : Way g u v) : E g u v ∨ ∃ c, E g u c ∧ Way g c v := by
  induction h with
  | one e => exact .inl e
  | more _ e ih =>
    rcases ih with h | ⟨c, h1, h2⟩
    · exact .inr ⟨_, h, .one e⟩
    · exact .inr ⟨c, h1, .more h2 e⟩
theorem bt_furK (aft r : Nat → Nat) (v u : Nat) : ∀ k, bt (furK aft r v k) u = true ↔ ∃ c, c < k ∧ bt (aft v) c = true ∧ bt (r c) u = true := by
  intro k
  induction k with
  | zero => simp [furK, bt_zero]
  | succ k ih =>
    unfold furK
    by_cases h : bt (aft v) k = true
    · rw [if_pos h, bt_orn]
      simp only [Bool.or_eq_true]
      rw [ih]
      constructor
      · rintro (⟨c, hc, h1, h2⟩ | h2)
        · exact ⟨c, by omega, h1, h2⟩
        · exact ⟨k, by omega, h, h2⟩
      · rintro ⟨c, hc, h1, h2⟩
        by_cases e : c = k
        · subst e; exact .inr h2
        · exact .inl ⟨c, by omega, h1, h2⟩
    · rw [if_neg h, ih]
      constructor
      · rintro ⟨c, hc, h1, h2⟩; exact ⟨c, by omega, h1, h2⟩
      · rintro ⟨c, hc, h1, h2⟩
        by_cases e : c = k
        · subst e; exact absurd h1 h
        · exact ⟨c, by omega, h1, h2⟩
/-- What is left of a node's edges. -/
theorem left_iff {g : List (Nat × Nat)} {n v u : Nat} (hi : InN n g) (hn : n ≤ 64) (hu : u < 64) : bt (andn (aftG g v) (furK (aftG g) (rchG n g) v n)) u = true ↔ E g v u ∧ ¬ ∃ c, E g v c ∧ Way g c u := by
  have hs : Small (rchG n g) := rchK_small hi hn n
  rw [bt_andn (furK_lt hs _ _ _) hu, Bool.and_eq_true, bt_aftG]
  refine and_congr Iff.rfl ?_
  have : (!bt (furK (aftG g) (rchG n g) v n) u) = true ↔ ¬ bt (furK (aftG g) (rchG n g) v n) u = true := by simp
  rw [this, bt_furK]
  refine not_congr ⟨?_, ?_⟩
  · rintro ⟨c, hc, h1, h2⟩
    exact ⟨c, (bt_aftG g c v).1 h1, (rch_way hi hc).1 h2⟩
  · rintro ⟨c, e, h⟩
    exact ⟨c, (e.lt hi).2, (bt_aftG g c v).2 e, (rch_way hi (e.lt hi).2).2 h⟩
theorem left_edge {g : List (Nat × Nat)} {n i j v : Nat} (hi : InN n g) (hn : n ≤ 64) (h1 : i < n) (h2 : j < n) (hw : Way g i j) :
    andn (aftG (edgeG g i j) v) (furK (aftG (edgeG g i j)) (rchG n (edgeG g i j)) v n) = andn (aftG g v) (furK (aftG g) (rchG n g) v n) := by
  have hi' := inN_edge hi h1 h2
  refine ext64 (andn_lt (aftG_small hi' hn v)) (andn_lt (aftG_small hi hn v)) (fun u hu => ?_)
  rw [Bool.eq_iff_iff, left_iff hi' hn hu, left_iff hi hn hu]
  constructor
  · rintro ⟨e, hno⟩
    have hno' : ¬ ∃ c, E g v c ∧ Way g c u := fun ⟨c, e, h⟩ => hno ⟨c, E_edge.2 (.inl e), (way_edge hw).2 h⟩
    refine ⟨?_, hno'⟩
    rcases E_edge.1 e with e | ⟨rfl, rfl⟩
    · exact e
    · rcases way_first hw with e | h
      · exact e
      · exact absurd h hno'
  · rintro ⟨e, hno⟩
    refine ⟨E_edge.2 (.inl e), ?_⟩
    rintro ⟨c, ec, h⟩
    have h' := (way_edge hw).1 h
    rcases E_edge.1 ec with ec | ⟨rfl, rfl⟩
    · exact hno ⟨c, ec, h'⟩
    · rcases way_first hw with e2 | ⟨d, e2, h2⟩
      · exact hno ⟨c, e2, h'⟩
      · exact hno ⟨d, e2, h2.trans h'⟩
/-- Nor in what is left of the edges. -/
theorem thn_edge {g : List (Nat × Nat)} {n i j : Nat} (hi : InN n g) (hn : n ≤ 64) (h1 : i < n) (h2 : j < n) (hw : Way g i j) : thnG n (edgeG g i j) = thnG n g := by
  have : ∀ k, thnK n (aftG (edgeG g i j)) (rchG n (edgeG g i j)) k = thnK n (aftG g) (rchG n g) k := by
    intro k
    induction k with
    | zero => rfl
    | succ k ih => unfold thnK; rw [ih, left_edge hi hn h1 h2 hw]
  exact this n
end Go.Proofs.YtfcabdgidlnljaaDoor.DiP
