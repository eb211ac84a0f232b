/-
  WORDS FOR MEMORY: a list of texts that the call itself has gathered, append by append.
-/
import Derived.Test.YticklaophgekeaaYOpens
namespace Go.Proofs.Yticklaophgekeaa
open Go.RowKit
open ByteP
set_option linter.unusedVariables false

theorem infoText : (Try.prog.info? 26).map (fun i => (i.zero, i.size, i.bytes)) = some (some (.slice none 0 0), 1, 24) := by kernel_rfl

/-- The value v, k texts long, made by the call itself (its block is numbered from base on), holds the slices vals; the j-th reads as PX j, in another block than v's own. -/
def Held (w : World) (base : Nat) (v : Value) (k : Nat) (PX : Nat → List Int) : Prop :=
  ∃ vals : List Value, w.ownsRow base 26 1 v k vals ∧ ∀ j, j < k → ∃ A n c, vals[j]? = some (.slice A n c) ∧ RdY w w.heap.size A n (PX j) ∧ Bytes (PX j) ∧ n ≤ 9223372036854775807 ∧
    ∀ b off, A = some ⟨b, off, none⟩ → 0 < n → v.ownBlock ≠ some b

section
variable {w w' : World} {base k : Nat} {v : Value} {PX : Nat → List Int}
theorem Held.nil_ (w : World) (base : Nat) (PX : Nat → List Int) : Held w base (.slice none 0 0) 0 PX := ⟨[], World.ownsRow_nil _ _ _ _, fun j hj => absurd hj (by omega)⟩
theorem owns_len {vals : List Value} (h : w.ownsRow base 26 1 v k vals) : vals.length = k := by simpa using h.1
theorem Held.block_lt (h : Held w base v k PX) : ∀ g, v.ownBlock = some g → g < w.heap.size := by
  intro g hg
  obtain ⟨vals, ho, _⟩ := h
  rcases ho.2 with ⟨rfl, _⟩ | ⟨g', cap, cur, rfl, _, hh, _⟩
  · cases hg
  · have : g' = g := by simpa [Value.ownBlock] using hg
    subst this
    rcases Nat.lt_or_ge g' w.heap.size with hlt | hge
    · exact hlt
    · rw [Array.getElem?_eq_none hge] at hh; cases hh
theorem Held.block_ge (h : Held w base v k PX) : ∀ g, v.ownBlock = some g → base ≤ g := by
  intro g hg
  obtain ⟨vals, ho, _⟩ := h
  rcases ho.2 with ⟨rfl, _⟩ | ⟨g', cap, cur, rfl, hb, _⟩
  · cases hg
  · have : g' = g := by simpa [Value.ownBlock] using hg
    omega
theorem Held.shape (h : Held w base v k PX) : ∃ A c, v = .slice A k c := by
  obtain ⟨vals, ho, _⟩ := h
  rcases ho.2 with ⟨rfl, rfl⟩ | ⟨g, cap, cur, rfl, _⟩
  · exact ⟨none, 0, rfl⟩
  · exact ⟨_, _, rfl⟩
theorem Held.kept (h : Held w base v k PX) (hb : Below w.heap.size w w') : Held w' base v k PX := by
  have hlt := h.block_lt
  obtain ⟨vals, ho, hj⟩ := h
  refine ⟨vals, ⟨ho.1, ?_⟩, fun j hjk => ?_⟩
  · rcases ho.2 with h | ⟨g, cap, cur, hv, hbg, hh, r⟩
    · exact .inl h
    · exact .inr ⟨g, cap, cur, hv, hbg, by rw [hb.block g (hlt g (by rw [hv]; rfl))]; exact hh, r⟩
  · obtain ⟨A, n, c, e, hr, hby, hn, hne⟩ := hj j hjk
    exact ⟨A, n, c, e, (hr.below hb).more hb.size, hby, hn, hne⟩
/-- What is appended to. -/
theorem Held.push {vals : List Value} {A : Option Addr} {n c g d : Nat} (hj : ∀ j, j < k → ∃ A n c, vals[j]? = some (.slice A n c) ∧ RdY w w.heap.size A n (PX j) ∧ Bytes (PX j) ∧ n ≤ 9223372036854775807 ∧
      ∀ b off, A = some ⟨b, off, none⟩ → 0 < n → v.ownBlock ≠ some b)
    (hl : vals.length = k) (hr : RdY w w.heap.size A n (PX k)) (hby : Bytes (PX k)) (hn : n ≤ 9223372036854775807) (hne : ∀ b off, A = some ⟨b, off, none⟩ → 0 < n → v.ownBlock ≠ some b)
    (hg : w.grownBy w' v.ownBlock) (hat : v.ownBlock = some g ∨ g = w.heap.size) (ho : w'.ownsRow base 26 1 (.slice (some ⟨g, 0, none⟩) (k + 1) d) (k + 1) (vals ++ [.slice A n c])) :
    Held w' base (.slice (some ⟨g, 0, none⟩) (k + 1) d) (k + 1) PX := by
  have hkeep : ∀ {A : Option Addr} {n : Nat} {xs : List Int}, RdY w w.heap.size A n xs → (∀ b off, A = some ⟨b, off, none⟩ → 0 < n → v.ownBlock ≠ some b) →
      RdY w' w'.heap.size A n xs ∧ ∀ b off, A = some ⟨b, off, none⟩ → 0 < n → (Value.slice (some ⟨g, 0, none⟩) (k + 1) d).ownBlock ≠ some b := by
    intro A n xs h hne
    refine ⟨⟨h.1, fun hn => ?_⟩, fun b off e hn e2 => ?_⟩
    · obtain ⟨b, off, e, hb, hc⟩ := h.2 hn
      refine ⟨b, off, e, Nat.lt_of_lt_of_le hb hg.size, fun j hj => ?_⟩
      rw [← hc j hj]
      exact World.cell?_of_block (hg.block b hb (fun e3 => hne b off e hn e3.symm))
    · obtain ⟨b', off', e', hb', _⟩ := h.2 hn
      rw [e] at e'
      injection e' with e'
      injection e' with e1 e3 e4
      have e5 : g = b := by simpa [Value.ownBlock] using e2
      rcases hat with h1 | h1
      · exact hne b off e hn (by rw [h1, e5])
      · omega
  refine ⟨_, ho, fun j hjk => ?_⟩
  by_cases hlt : j < k
  · obtain ⟨A', n', c', e, hr', hby', hn', hne'⟩ := hj j hlt
    have := hkeep hr' hne'
    exact ⟨A', n', c', by rw [List.getElem?_append_left (by omega)]; exact e, this.1, hby', hn', this.2⟩
  · obtain rfl : j = k := by omega
    have := hkeep hr hne
    exact ⟨A, n, c, by rw [List.getElem?_append_right (by omega), hl, Nat.sub_self]; rfl, this.1, hby, hn, this.2⟩
end

/-- 'append(s, x)', s a list of texts of the call's own: s grows by one. -/
theorem wplH_app {w : World} {ops : Array Oper} {rest : List Oper} {o : Oper} {a : Act} {Q : Exit → Act → World → Prop} (hgd : o.guard = none) (s x : Operand)
    (ho : o.op = .call { callee := .builtin .append, args := #[s, x], argTypes := #[34, 34] })
    (base : Nat) (v : Value) (k : Nat) (PX : Nat → List Int) (hs : a.eval s = v) (hheld : Held w base v k PX)
    (b : Nat) (A : Option Addr) (n c : Nat) (hx : a.eval x = .slice (some ⟨b, 0, none⟩) 1 1) (hc : w.cell? ⟨b, 0, none⟩ = some (.slice A n c)) (hk : k ≤ 1000000000) (hbase : base ≤ w.heap.size)
    (hr : RdY w w.heap.size A n (PX k)) (hby : Bytes (PX k)) (hn : n ≤ 9223372036854775807) (hne : ∀ b off, A = some ⟨b, off, none⟩ → 0 < n → v.ownBlock ≠ some b)
    (h : ∀ g d w', Held w' base (.slice (some ⟨g, 0, none⟩) (k + 1) d) (k + 1) PX → base ≤ g → w.grownBy w' v.ownBlock → wpList Try.prog ops Q rest (a.put o.dst (.slice (some ⟨g, 0, none⟩) (k + 1) d)) w') :
    wpList Try.prog ops Q (o :: rest) a w := by
  obtain ⟨i0, hi, hz0, hz1, hz2⟩ := info_parts infoText
  obtain ⟨vals, hown, hj⟩ := hheld
  refine wpList_append_own_at w hgd s x 34 ho base 26 i0 (.slice none 0 0) 1 24 Try.underlying34 hi hz0 hz1 hz2 rfl (by decide) v k _ hs hown ⟨b, 0, none⟩ 1 1 [.slice A n c] hx rfl ?_ ?_ (by unfold maxLen; omega) (by omega) hbase ?_
  · intro j z hj
    match j, hj with
    | 0, hj => simp at hj; subst hj; simpa [Addr.add] using hc
  · intro z hz; simp at hz; subst hz; rfl
  · intro v' w' hown' hg _ hat
    obtain ⟨g, cap, hv, hbg, hlt⟩ := World.ownsRow.form hown' (by omega)
    subst hv
    exact h g cap w' (Held.push hj (owns_len hown) hr hby hn hne hg (by
      rcases hat with h | h
      · exact .inl h.symm
      · right; have : some g = some w.heap.size := h; injection this) hown') hbg hg
end Go.Proofs.Yticklaophgekeaa
