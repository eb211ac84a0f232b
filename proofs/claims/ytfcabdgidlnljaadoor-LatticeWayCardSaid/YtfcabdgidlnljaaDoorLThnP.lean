/-
  PLAIN MATHEMATICS for the statements of layer 9: what is left of the edges closes the same sets, and leads the same ways.
-/
import Derived.Test.YtfcabdgidlnljaaDoorLFold
namespace Go.Proofs.YtfcabdgidlnljaaDoor.DiP
set_option linter.unusedVariables false
set_option linter.unusedSimpArgs false
theorem fur_step (aft r : Nat → Nat) (v k b : Nat) : bt (furK aft r v (k + 1)) b = (bt (furK aft r v k) b || (bt (aft v) k && bt (r k) b)) := by
  show bt (if _ then _ else _) b = _
  cases h : bt (aft v) k with
  | true => rw [if_pos rfl, bt_orn]; simp
  | false => simp
theorem E_mem {g : List (Nat × Nat)} {u v : Nat} : E g u v ↔ (u, v) ∈ g := by
  constructor
  · rintro ⟨k, hk, h1, h2⟩
    have e : g[k] = (u, v) := by
      rw [← h1, ← h2]; simp [fa, fb, List.getD, hk]
    rw [← e]; exact List.getElem_mem hk
  · intro h
    obtain ⟨k, hk, e⟩ := List.getElem_of_mem h
    exact ⟨k, hk, by simp [fa, List.getD, hk, e], by simp [fb, List.getD, hk, e]⟩
theorem mem_prsK {x s u v : Nat} : ∀ k, (u, v) ∈ prsK x s k ↔ u = x ∧ v < k ∧ bt s v = true := by
  intro k
  induction k with
  | zero => simp [prsK]
  | succ k ih =>
    unfold prsK
    by_cases h : bt s k = true
    · rw [if_pos h, List.mem_append, ih]
      constructor
      · rintro (⟨h1, h2, h3⟩ | h1)
        · exact ⟨h1, by omega, h3⟩
        · simp at h1; exact ⟨h1.1, by omega, by rw [h1.2]; exact h⟩
      · rintro ⟨h1, h2, h3⟩
        by_cases e : v = k
        · right; simp [h1, e]
        · exact .inl ⟨h1, by omega, h3⟩
    · rw [if_neg h, ih]
      constructor
      · rintro ⟨h1, h2, h3⟩; exact ⟨h1, by omega, h3⟩
      · rintro ⟨h1, h2, h3⟩
        refine ⟨h1, ?_, h3⟩
        by_cases e : v = k
        · subst e; exact absurd h3 h
        · omega
theorem mem_thnK {n : Nat} {aft r : Nat → Nat} {u v : Nat} : ∀ k, (u, v) ∈ thnK n aft r k ↔ u < k ∧ v < n ∧ bt (andn (aft u) (furK aft r u n)) v = true := by
  intro k
  induction k with
  | zero => simp [thnK]
  | succ k ih =>
    unfold thnK
    rw [List.mem_append, ih, mem_prsK]
    constructor
    · rintro (⟨h1, h2, h3⟩ | ⟨h1, h2, h3⟩)
      · exact ⟨by omega, h2, h3⟩
      · subst h1; exact ⟨by omega, h2, h3⟩
    · rintro ⟨h1, h2, h3⟩
      by_cases e : u = k
      · subst e; exact .inr ⟨rfl, h2, h3⟩
      · exact .inl ⟨by omega, h2, h3⟩
theorem E_thn {g : List (Nat × Nat)} {n u v : Nat} (hi : InN n g) (hn : n ≤ 64) : E (thnG n g) u v ↔ E g u v ∧ ¬ ∃ c, E g u c ∧ Way g c v := by
  rw [E_mem]
  unfold thnG
  rw [mem_thnK]
  constructor
  · rintro ⟨h1, h2, h3⟩; exact (left_iff hi hn (by omega)).1 h3
  · intro h
    have := h.1.lt hi
    exact ⟨this.1, this.2, (left_iff hi hn (by omega)).2 h⟩
theorem inN_thn {g : List (Nat × Nat)} {n : Nat} (hi : InN n g) (hn : n ≤ 64) : InN n (thnG n g) := by
  intro k hk
  have e : E (thnG n g) (fa (thnG n g) k) (fb (thnG n g) k) := ⟨k, hk, rfl, rfl⟩
  exact ((E_thn hi hn).1 e).1.lt hi
theorem way_thn {g : List (Nat × Nat)} {n : Nat} (hi : InN n g) (hn : n ≤ 64) (hg : Goes (befG g) n n) {u v : Nat} : Way (thnG n g) u v ↔ Way g u v := by
  constructor
  · intro h
    induction h with
    | one e => exact .one ((E_thn hi hn).1 e).1
    | more _ e ih => exact .more ih ((E_thn hi hn).1 e).1
  · have hr : ∀ {a b}, Way g a b → levG n g a < levG n g b := fun h => way_rank (fun _ _ e => levG_edge hi hn hg e) h
    have key : ∀ d u v, Way g u v → levG n g v - levG n g u ≤ d → Way (thnG n g) u v := by
      intro d
      induction d with
      | zero => intro u v h hd; have := hr h; omega
      | succ d ih =>
        intro u v h hd
        have two : ∀ c, E g u c → Way g c v → Way (thnG n g) u v := fun c e h2 => by
          have h3 := hr (.one e)
          have h4 := hr h2
          exact (ih u c (.one e) (by omega)).trans (ih c v h2 (by omega))
        rcases way_first h with e | ⟨c, e, h2⟩
        · by_cases hc : ∃ c, E g u c ∧ Way g c v
          · obtain ⟨c, e2, h2⟩ := hc
            exact two c e2 h2
          · exact .one ((E_thn hi hn).2 ⟨e, hc⟩)
        · exact two c e h2
    exact fun h => key _ u v h (Nat.le_refl _)
theorem rch_thn {g : List (Nat × Nat)} {n : Nat} (hi : InN n g) (hn : n ≤ 64) (hg : Goes (befG g) n n) {u : Nat} (hu : u < n) : rchG n (thnG n g) u = rchG n g u := by
  have hi' := inN_thn hi hn
  refine ext64 (rchK_small hi' hn n u) (rchK_small hi hn n u) (fun v _ => ?_)
  rw [Bool.eq_iff_iff]
  exact (rch_way hi' hu).trans ((way_thn hi hn hg).trans (rch_way hi hu).symm)
section
variable {g : List (Nat × Nat)} {n : Nat}
theorem cl_thn (hi : InN n g) (hn : n ≤ 64) (hg : Goes (befG g) n n) (s : Nat) : Cl (thnG n g) s ↔ Cl g s := cl_same (fun u v => way_thn hi hn hg) s
theorem goes_thn (hi : InN n g) (hn : n ≤ 64) (hg : Goes (befG g) n n) : Goes (befG (thnG n g)) n n :=
  goes_of_rank (inN_thn hi hn) hn (levG n g) fun u v e => levG_edge hi hn hg ((E_thn hi hn).1 e).1
/-- Behind a closed set the same nodes are ready. -/
theorem rdy_thn (hi : InN n g) (hn : n ≤ 64) (hg : Goes (befG g) n n) {s v : Nat} (hs : s < lim) (hc : Cl g s) : rdy (befG (thnG n g)) s v = rdy (befG g) s v := by
  rw [Bool.eq_iff_iff, rdy_iff (inN_thn hi hn) hn hs, rdy_iff hi hn hs]
  refine and_congr_right fun _ => ⟨fun h u e => ?_, fun h u e => h u ((E_thn hi hn).1 e).1⟩
  have hw : Way (thnG n g) u v := (way_thn hi hn hg).2 (.one e)
  cases hw with
  | one e => exact h u e
  | more w e => exact cl_way.1 hc _ _ ((way_thn hi hn hg).1 w) (h _ e)
theorem lv_thn (hi : InN n g) (hn : n ≤ 64) (hg : Goes (befG g) n n) : ∀ k, lvF (befG (thnG n g)) n k = lvF (befG g) n k
  | 0 => rfl
  | k + 1 => by
    funext s
    show nextF (lvF (befG (thnG n g)) n k) (dAll (befG (thnG n g)) (lvF (befG (thnG n g)) n k)) n s = nextF (lvF (befG g) n k) (dAll (befG g) (lvF (befG g) n k)) n s
    rw [lv_thn hi hn hg k]
    refine nextF_congr hn (fun x v hx _ _ => ?_) s
    unfold dAll
    cases h : (lvF (befG g) n k x).isSome with
    | false => rfl
    | true => rw [rdy_thn hi hn hg hx ((lv_has hi hn hg k x).1 h).2.2]
end
end Go.Proofs.YtfcabdgidlnljaaDoor.DiP
