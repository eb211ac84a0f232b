/-
  WORDS FOR MEMORY: a slice of strings that the call itself made.
-/
import Derived.Test.YtbmhjmdbolnbaaaDoorSMarks
import Derived.WalkKit
import Derived.WalkSpells
import Derived.WalkSmall
import Derived.Below
import Derived.Laws.OwnMore
import Derived.Deep.AppendLies
import Derived.Deep.Draws
import Derived.Lib.Hide
import Derived.Maps.AppendAt
namespace Go.Proofs.YtbmhjmdbolnbaaaDoor
open Go.RowKit
open SemP
set_option linter.unusedVariables false
set_option linter.unusedSimpArgs false

abbrev strc (x : Str) : Value := .string (mk x)
theorem infoStr : (Tryd.prog.info? 9).map (fun i => (i.zero, i.size, i.bytes)) = some (some (.string ⟨#[]⟩), 1, 16) := by kernel_rfl
/-- The slice value v, of n elements, made by the call itself (its block is numbered from base on), reads as xs. -/
def OwnS (w : World) (base : Nat) (v : Value) (n : Nat) (xs : List Str) : Prop := w.ownsRow base 9 1 v n (xs.map strc)
section
variable {w w' : World} {base n c g : Nat} {v : Value} {xs : List Str}
theorem OwnS.len (h : OwnS w base v n xs) : xs.length = n := by simpa using h.1
theorem OwnS.nil_ (w : World) (base : Nat) : OwnS w base (.slice none 0 0) 0 [] := World.ownsRow_nil _ _ _ _
theorem OwnS.form (h : OwnS w base v n xs) (hn : 0 < n) : ∃ g c, v = .slice (some ⟨g, 0, none⟩) n c ∧ base ≤ g ∧ g < w.heap.size := by
  obtain ⟨g, cap, hv, hb, hlt⟩ := World.ownsRow.form h hn
  exact ⟨g, cap, hv, hb, hlt⟩
theorem strc_map (xs : List Str) (j : Nat) (h : j < xs.length) : (xs.map strc)[j]? = some (strc (xs.getD j [])) := by
  simp [List.getD, h]
theorem OwnS.cell (h : OwnS w base (.slice (some ⟨g, 0, none⟩) n c) n xs) {j : Nat} (hj : j < n) : w.cell? ⟨g, j, none⟩ = some (strc (xs.getD j [])) := by
  rw [h.cellAt j (by omega), strc_map xs j (by rw [h.len]; exact hj)]
theorem OwnS.alloc (h : OwnS w base v n xs) (o : Obj) : OwnS (w.alloc o) base v n xs := World.ownsRow.alloc h o
theorem OwnS.ge (h : OwnS w base v n xs) : ∀ g, v.ownBlock = some g → base ≤ g := by
  intro g hg
  rcases h.2 with ⟨rfl, _⟩ | ⟨g', cap, cur, rfl, hb, _⟩
  · cases hg
  · have : g' = g := by simpa [Value.ownBlock] using hg
    omega
theorem OwnS.drewN (h : OwnS w base v n xs) (k : Nat) : OwnS (w.drewN k) base v n xs := h
theorem OwnS.kept (h : OwnS w base v n xs) (hb : Below w.heap.size w w') : OwnS w' base v n xs := by
  refine ⟨h.1, ?_⟩
  rcases h.2 with h | ⟨g, cap, cur, hv, hbg, hh, r⟩
  · exact .inl h
  · have hlt : g < w.heap.size := by
      rcases Nat.lt_or_ge g w.heap.size with hlt | hge
      · exact hlt
      · rw [Array.getElem?_eq_none hge] at hh; cases hh
    refine .inr ⟨g, cap, cur, hv, hbg, ?_, r⟩
    rw [hb.block g hlt]
    exact hh
end

/-- 'append(s, x)', s the call's own: s grows by one. -/
theorem wplS_app {w : World} {ops : Array Oper} {rest : List Oper} {o : Oper} {a : Act} {Q : Exit → Act → World → Prop} (hgd : o.guard = none) (s x : Operand)
    (ho : o.op = .call { callee := .builtin .append, args := #[s, x], argTypes := #[77, 77] })
    (base : Nat) (v : Value) (n : Nat) (xs : List Str) (hs : a.eval s = v) (hown : OwnS w base v n xs)
    (b : Nat) (u : ByteArray) (hx : a.eval x = .slice (some ⟨b, 0, none⟩) 1 1) (hc : w.cell? ⟨b, 0, none⟩ = some (.string u)) (hn : n ≤ 1099511627776) (hbase : base ≤ w.heap.size)
    (h : ∀ g c w', OwnS w' base (.slice (some ⟨g, 0, none⟩) (n + 1) c) (n + 1) (xs ++ [bs u]) → base ≤ g → w.grownBy w' v.ownBlock → (v.ownBlock = some g ∨ g = w.heap.size) → wpList Tryd.prog ops Q rest (a.put o.dst (.slice (some ⟨g, 0, none⟩) (n + 1) c)) w') :
    wpList Tryd.prog ops Q (o :: rest) a w := by
  obtain ⟨i0, hi, hz0, hz1, hz2⟩ := info_parts infoStr
  have hmk : mk (bs u) = u := by cases u; rfl
  refine wpList_append_own_at w hgd s x 77 ho base 9 i0 (.string ⟨#[]⟩) 1 16 Tryd.underlying77 hi hz0 hz1 hz2 rfl (by decide) v n _ hs hown ⟨b, 0, none⟩ 1 1 [.string u] hx rfl ?_ ?_ (by unfold maxLen; omega) (by omega) hbase ?_
  · intro j z hj
    match j, hj with
    | 0, hj => simp at hj; subst hj; simpa [Addr.add] using hc
  · intro z hz; simp at hz; subst hz; rfl
  · intro v' w' hown' hg _ hat
    have ho' : OwnS w' base v' (n + 1) (xs ++ [bs u]) := by
      unfold OwnS; rw [List.map_append]
      show w'.ownsRow base _ 1 v' (n + 1) (xs.map strc ++ [.string (mk (bs u))])
      rw [hmk]; exact hown'
    obtain ⟨g, c, rfl, hbg, _⟩ := ho'.form (by omega)
    exact h g c w' ho' hbg hg (by
      rcases hat with h | h
      · exact .inl h.symm
      · right; have : some g = some w.heap.size := h; injection this)
end Go.Proofs.YtbmhjmdbolnbaaaDoor
