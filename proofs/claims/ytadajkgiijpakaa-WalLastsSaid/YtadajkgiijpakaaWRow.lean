/-
  WORDS FOR MEMORY: a list of texts, made by the program itself, that lies apart from some blocks.
-/
import Derived.Test.YtadajkgiijpakaaKRead
import Derived.Test.YtadajkgiijpakaaWPure
import Derived.Deep.AppendLies
import Derived.Deep.RegionHeld3
namespace Go.Proofs.Ytadajkgiijpakaa
open Go.RowKit
open ByteP
set_option linter.unusedVariables false

/-- The value v, made behind B0, holds the texts rs: each lies in no block of M, and not in v's own. -/
structure Row (w : World) (M : Nat → Prop) (B0 : Nat) (v : Value) (rs : List (List Int)) : Prop where
  ex : ∃ vals : List Value, w.ownsRow B0 26 1 v rs.length vals ∧ ∀ j, j < rs.length → ∃ A n c, vals[j]? = some (.slice A n c) ∧ RdK w (fun b => M b ∨ v.ownBlock = some b) A n (rs.getD j []) ∧ Bytes (rs.getD j []) ∧ n ≤ 1099511627776
  nd : ∀ g, v.ownBlock = some g → ¬ M g
section
variable {w w' : World} {M M' : Nat → Prop} {B0 : Nat} {v : Value} {rs : List (List Int)}
theorem rowLen {k : Nat} {vals : List Value} (h : w.ownsRow B0 26 1 v k vals) : vals.length = k := by simpa using h.1
theorem Row.nil_ (w : World) (M : Nat → Prop) (B0 : Nat) : Row w M B0 (.slice none 0 0) [] := ⟨⟨[], World.ownsRow_nil _ _ _ _, fun j hj => absurd hj (Nat.not_lt_zero j)⟩, fun g h => by cases h⟩
theorem Row.block_lt (h : Row w M B0 v rs) : ∀ g, v.ownBlock = some g → g < w.heap.size := by
  intro g hg
  obtain ⟨vals, ho, _⟩ := h.ex
  rcases ho.2 with ⟨rfl, _⟩ | ⟨g', cap, cur, rfl, _, hh, _⟩
  · cases hg
  · have : g' = g := by simpa [Value.ownBlock] using hg
    subst this
    exact heapK_lt hh
theorem Row.block_ge (h : Row w M B0 v rs) : ∀ g, v.ownBlock = some g → B0 ≤ g := by
  intro g hg
  obtain ⟨vals, ho, _⟩ := h.ex
  rcases ho.2 with ⟨rfl, _⟩ | ⟨g', cap, cur, rfl, hb, _⟩
  · cases hg
  · have : g' = g := by simpa [Value.ownBlock] using hg
    omega
theorem Row.shape (h : Row w M B0 v rs) : ∃ A c, v = .slice A rs.length c := by
  obtain ⟨vals, ho, _⟩ := h.ex
  rcases ho.2 with ⟨rfl, hl⟩ | ⟨g, cap, cur, rfl, _⟩
  · exact ⟨none, 0, by rw [hl]⟩
  · exact ⟨_, _, rfl⟩
/-- The block of a text is another under a new M. -/
theorem RdK.turn {D : Option Addr} {m : Nat} {ys : List Int} (h : RdK w M D m ys) (hf : Fr w w' M) (hM : ∀ b, M' b → M b ∨ w.heap.size ≤ b) : RdK w' M' D m ys := ⟨h.1, fun hm => by
  obtain ⟨b, off, e, hb, hn, hc⟩ := h.2 hm
  exact ⟨b, off, e, Nat.lt_of_lt_of_le hb hf.size, fun h' => (hM b h').elim hn (fun h2 => by omega), fun j hj => (World.cell?_of_block (a := ⟨b, off + j, none⟩) (hf.block b hb hn)).trans (hc j hj)⟩⟩
theorem RdK.weak {D : Option Addr} {m : Nat} {ys : List Int} (h : RdK w M D m ys) (hM : ∀ b, M' b → M b ∨ w.heap.size ≤ b) : RdK w M' D m ys := h.turn (Fr.refl w M) hM
/-- What befalls other blocks. -/
theorem Row.turn (h : Row w M B0 v rs) (hf : Fr w w' M) (hM : ∀ b, M' b → M b ∨ w.heap.size ≤ b) : Row w' M' B0 v rs := by
  have hlt := h.block_lt
  have hnd := h.nd
  obtain ⟨vals, ho, hj⟩ := h.ex
  refine ⟨⟨vals, ⟨ho.1, ?_⟩, fun j hjk => ?_⟩, fun g hg h' => (hM g h').elim (hnd g hg) (fun h2 => by have := hlt g hg; omega)⟩
  · rcases ho.2 with h | ⟨g, cap, cur, hv, hbg, hh, r⟩
    · exact .inl h
    · exact .inr ⟨g, cap, cur, hv, hbg, by rw [hf.block g (heapK_lt hh) (hnd g (by rw [hv]; rfl))]; exact hh, r⟩
  · obtain ⟨A, n, c, e, hr, hby, hn⟩ := hj j hjk
    exact ⟨A, n, c, e, hr.turn (Fr.mk hf.os hf.tape hf.output hf.size (fun b hb hb2 => hf.block b hb (fun h3 => hb2 (.inl h3)))) (fun b hb => by
      rcases hb with h3 | h3
      · exact (hM b h3).elim (fun h4 => .inl (.inl h4)) .inr
      · exact .inl (.inr h3)), hby, hn⟩
theorem Row.below (h : Row w M B0 v rs) (hb : Below w.heap.size w w') : Row w' M B0 v rs := h.turn (Fr.of_below hb) (fun b hb => .inl hb)
/-- The j-th text, read. -/
theorem Row.at_ {A : Option Addr} {k c j : Nat} (h : Row w M B0 (.slice A k c) rs) (hj : j < rs.length) :
    ∃ b P n d, A = some ⟨b, 0, none⟩ ∧ w.cell? ⟨b, j, none⟩ = some (.slice P n d) ∧ RdK w (fun b' => M b' ∨ b = b') P n (rs.getD j []) ∧ Bytes (rs.getD j []) ∧ n ≤ 1099511627776 ∧ ¬ M b ∧ b < w.heap.size := by
  have hlt := h.block_lt
  have hnd := h.nd
  obtain ⟨vals, ho, hv⟩ := h.ex
  obtain ⟨P, n, d, e, hr, hby, hn⟩ := hv j hj
  obtain ⟨g, cap, hg, _, _⟩ := World.ownsRow.form ho (by omega)
  injection hg with h1 h2 h3
  subst h1 h2 h3
  exact ⟨g, P, n, d, rfl, by rw [ho.cellAt j (by omega)]; exact e, hr.weak (fun b hb => hb.elim (fun h => .inl (.inl h)) (fun h => .inl (.inr (by rw [h]; rfl)))), hby, hn, hnd g rfl, hlt g rfl⟩
end

theorem rowInfo : (Try.prog.info? 26).map (fun i => (i.zero, i.size, i.bytes)) = some (some (.slice none 0 0), 1, 24) := by kernel_rfl
theorem rowPush {w w' : World} {M : Nat → Prop} {B0 : Nat} {v v' : Value} {rs : List (List Int)} {vals : List Value} {A : Option Addr} {n c : Nat} {xs : List Int} (hown : w.ownsRow B0 26 1 v rs.length vals)
    (hj : ∀ j, j < rs.length → ∃ A n c, vals[j]? = some (.slice A n c) ∧ RdK w (fun b => M b ∨ v.ownBlock = some b) A n (rs.getD j []) ∧ Bytes (rs.getD j []) ∧ n ≤ 1099511627776) (hnd : ∀ g, v.ownBlock = some g → ¬ M g)
    (hMs : ∀ b, M b → b < w.heap.size) (hr : RdK w (fun b => M b ∨ v.ownBlock = some b) A n xs) (hby : Bytes xs) (hn : n ≤ 1099511627776)
    (hown' : w'.ownsRow B0 26 1 v' (rs.length + 1) (vals ++ [.slice A n c])) (hg : w.grownBy w' v.ownBlock) (hat : v'.ownBlock = v.ownBlock ∨ v'.ownBlock = some w.heap.size) : Row w' M B0 v' (rs ++ [xs]) := by
  have hkeep : ∀ {A : Option Addr} {n : Nat} {ys : List Int}, RdK w (fun b => M b ∨ v.ownBlock = some b) A n ys → RdK w' (fun b => M b ∨ v'.ownBlock = some b) A n ys := by
    intro A n ys h0
    refine h0.turn ⟨hg.os, hg.tape, hg.output, hg.size, fun b' hb' hnb => hg.block b' hb' (fun e => hnb (.inr e.symm))⟩ (fun b' hb' => ?_)
    rcases hb' with h3 | h3
    · exact .inl (.inl h3)
    · rcases hat with h4 | h4
      · exact .inl (.inr (by rw [← h4]; exact h3))
      · have h5 : some w.heap.size = some b' := h4.symm.trans h3
        injection h5 with h5
        right; omega
  refine ⟨⟨vals ++ [.slice A n c], by rw [List.length_append]; exact hown', fun j hjk => ?_⟩, fun g hg2 => ?_⟩
  · rw [List.length_append, List.length_singleton] at hjk
    by_cases hlt2 : j < rs.length
    · obtain ⟨A', n', c', e, hr', hby', hn'⟩ := hj j hlt2
      have e2 : (rs ++ [xs]).getD j [] = rs.getD j [] := by
        rw [List.getD_eq_getElem?_getD, List.getElem?_append_left hlt2, ← List.getD_eq_getElem?_getD]
      rw [e2]
      exact ⟨A', n', c', by rw [List.getElem?_append_left (by rw [rowLen hown]; omega)]; exact e, hkeep hr', hby', hn'⟩
    · obtain rfl : j = rs.length := by omega
      have e2 : (rs ++ [xs]).getD rs.length [] = xs := by
        rw [List.getD_eq_getElem?_getD, List.getElem?_append_right (Nat.le_refl _), Nat.sub_self]; rfl
      rw [e2]
      exact ⟨A, n, c, by rw [List.getElem?_append_right (by rw [rowLen hown]; exact Nat.le_refl _), rowLen hown, Nat.sub_self]; rfl, hkeep hr, hby, hn⟩
  · rcases hat with h4 | h4
    · exact hnd g (by rw [← h4]; exact hg2)
    · have h5 : some w.heap.size = some g := h4.symm.trans hg2
      injection h5 with h5
      intro hM
      have := hMs g hM
      omega
/-- 'append(s, x)', one text. -/
theorem wplR_app {w : World} {ops : Array Oper} {rest : List Oper} {o : Oper} {a : Act} {Q : Exit → Act → World → Prop} (hgd : o.guard = none) (s x : Operand)
    (ho : o.op = .call { callee := .builtin .append, args := #[s, x], argTypes := #[34, 34] })
    (M : Nat → Prop) (B0 : Nat) (v : Value) (rs : List (List Int)) (hs : a.eval s = v) (hrow : Row w M B0 v rs) (hMs : ∀ b, M b → b < w.heap.size)
    (b : Nat) (A : Option Addr) (n c : Nat) (xs : List Int) (hx : a.eval x = .slice (some ⟨b, 0, none⟩) 1 1) (hc : w.cell? ⟨b, 0, none⟩ = some (.slice A n c)) (hk : rs.length ≤ 1000000000) (hbase : B0 ≤ w.heap.size)
    (hr : RdK w (fun b => M b ∨ v.ownBlock = some b) A n xs) (hby : Bytes xs) (hn : n ≤ 1099511627776)
    (h : ∀ g cap w', Row w' M B0 (.slice (some ⟨g, 0, none⟩) (rs.length + 1) cap) (rs ++ [xs]) → w.grownBy w' v.ownBlock → (v.ownBlock = some g ∨ g = w.heap.size) → wpList Try.prog ops Q rest (a.put o.dst (.slice (some ⟨g, 0, none⟩) (rs.length + 1) cap)) w') :
    wpList Try.prog ops Q (o :: rest) a w := by
  obtain ⟨i0, hi, hz0, hz1, hz2⟩ := info_parts rowInfo
  have hnd := hrow.nd
  obtain ⟨vals, hown, hj⟩ := hrow.ex
  refine wpList_append_own_at w hgd s x 34 ho B0 26 i0 (.slice none 0 0) 1 24 Try.underlying34 hi hz0 hz1 hz2 rfl (by decide) v rs.length _ hs hown ⟨b, 0, none⟩ 1 1 [.slice A n c] hx rfl ?_ ?_ (by unfold maxLen; omega) (by omega) hbase ?_
  · intro j z hj
    match j, hj with
    | 0, hj => simp at hj; subst hj; simpa [Addr.add] using hc
  · intro z hz; simp at hz; subst hz; rfl
  · intro v' w' hown' hg _ hat
    obtain ⟨g, cap, hv, hbg, hlt⟩ := World.ownsRow.form hown' (by omega)
    subst hv
    exact h g cap w' (rowPush hown hj hnd hMs hr hby hn hown' hg hat) hg (by
      rcases hat with h | h
      · exact .inl h.symm
      · right; have : some g = some w.heap.size := h; injection this)
/-- The same, at a step of a region that draws its order. -/
theorem stepR_app {w : World} {ops : Array Oper} {o : Oper} {a : Act} {K : Act → World → Prop} {Q : Exit → Act → World → Prop} {E : Prop} (hgd : o.guard = none) (s x : Operand)
    (ho : o.op = .call { callee := .builtin .append, args := #[s, x], argTypes := #[34, 34] })
    (M : Nat → Prop) (B0 : Nat) (v : Value) (rs : List (List Int)) (hs : a.eval s = v) (hrow : Row w M B0 v rs) (hMs : ∀ b, M b → b < w.heap.size)
    (b : Nat) (A : Option Addr) (n c : Nat) (xs : List Int) (hx : a.eval x = .slice (some ⟨b, 0, none⟩) 1 1) (hc : w.cell? ⟨b, 0, none⟩ = some (.slice A n c)) (hk : rs.length ≤ 1000000000) (hbase : B0 ≤ w.heap.size)
    (hr : RdK w (fun b => M b ∨ v.ownBlock = some b) A n xs) (hby : Bytes xs) (hn : n ≤ 1099511627776) (H : Nat) (hH : w.heap.size = H)
    (h : ∀ g cap w', Row w' M B0 (.slice (some ⟨g, 0, none⟩) (rs.length + 1) cap) (rs ++ [xs]) → w.grownBy w' v.ownBlock → (v.ownBlock = some g ∨ g = H) → K (a.put o.dst (.slice (some ⟨g, 0, none⟩) (rs.length + 1) cap)) w') :
    if Region.wanted o (yielded ops a.tmps) = true then Oper.wp Try.prog o a w K Q else E := by
  obtain ⟨i0, hi, hz0, hz1, hz2⟩ := info_parts rowInfo
  have hnd := hrow.nd
  obtain ⟨vals, hown, hj⟩ := hrow.ex
  refine step_append_lies w hgd s x 34 ho B0 26 i0 (.slice none 0 0) 1 24 Try.underlying34 hi hz0 hz1 hz2 rfl (by decide) v rs.length _ hs hown ⟨b, 0, none⟩ 1 1 [.slice A n c] hx rfl ?_ ?_ (by omega) (by unfold maxLen; omega) (by omega) hbase H hH ?_
  · intro j z hj
    match j, hj with
    | 0, hj => simp at hj; subst hj; simpa [Addr.add] using hc
  · intro z hz; simp at hz; subst hz; rfl
  · intro g cap w' hown' hg hat _
    exact h g cap w' (rowPush hown hj hnd hMs hr hby hn hown' hg (by
      rcases hat with h | h
      · exact .inl h.symm
      · right; show some g = _; rw [h, hH])) hg hat
end Go.Proofs.Ytadajkgiijpakaa
