/-
  WORDS FOR MEMORY: slices of the twin's files, made by the program itself, and what is appended to them.
-/
import Derived.Test.YtfpcfbolpnfacaaQTw
import Derived.Maps.AppendAt
import Derived.OwnWalk
namespace Go.Proofs.Ytfpcfbolpnfacaa
open Go.RowKit
open ByteP
set_option linter.unusedVariables false
set_option maxRecDepth 10000
theorem infoFile : (Try.prog.info? 51).map (fun i => (i.zero, i.size, i.bytes)) = some (some (.agg #[.int .i64 0, .slice none 0 0, .int .i64 0]), 3, 40) := by kernel_rfl
def fcells : List TF → List Value
  | [] => []
  | x :: r => .int .i64 x.nm :: .slice x.P x.n x.c :: .int .i64 (x.s : Int) :: fcells r
theorem fcells_append (l r : List TF) : fcells (l ++ r) = fcells l ++ fcells r := by
  induction l with
  | nil => rfl
  | cons x t ih => simp [fcells, ih]
theorem fcells_len (l : List TF) : (fcells l).length = l.length * 3 := by
  induction l with
  | nil => rfl
  | cons x t ih => simp only [fcells, List.length_cons, ih]; omega
theorem fcells_get : ∀ (l : List TF) (j : Nat), j < l.length → (fcells l)[j * 3]? = some (.int .i64 (tfAt l j).nm) ∧ (fcells l)[j * 3 + 1]? = some (.slice (tfAt l j).P (tfAt l j).n (tfAt l j).c) ∧ (fcells l)[j * 3 + 2]? = some (.int .i64 ((tfAt l j).s : Int))
  | [], j, h => by simp at h
  | x :: r, 0, h => by simp [fcells, tfAt]
  | x :: r, j + 1, h => by
    have := fcells_get r j (by simpa using h)
    rw [show (j + 1) * 3 = j * 3 + 3 by omega]
    simpa [fcells, tfAt] using this
theorem fcells_one : ∀ (l : List TF) (u : Value), u ∈ fcells l → u.oneCell' = true
  | [], u, h => by cases h
  | x :: r, u, h => by
    simp only [fcells, List.mem_cons] at h
    rcases h with rfl | rfl | rfl | h
    · rfl
    · rfl
    · rfl
    · exact fcells_one r u h
/-- The slice value v, made by the program behind base, holds the files l. -/
def OwnF (w : World) (base : Nat) (v : Value) (l : List TF) : Prop := w.ownsRow base 51 3 v l.length (fcells l)
theorem OwnF.nil_ (w : World) (base : Nat) : OwnF w base (.slice none 0 0) [] := World.ownsRow_nil _ _ _ _
theorem OwnF.shape {w : World} {base : Nat} {v : Value} {l : List TF} (h : OwnF w base v l) : ∃ A c, v = .slice A l.length c := by
  rcases h.2 with ⟨rfl, h0⟩ | ⟨g, cap, cur, rfl, _⟩
  · exact ⟨none, 0, by rw [h0]⟩
  · exact ⟨some ⟨g, 0, none⟩, cap, rfl⟩
theorem addr_addF (b off j : Nat) : (Addr.add ⟨b, off, none⟩ j) = ⟨b, off + j, none⟩ := by
  unfold Addr.add
  by_cases h0 : j = 0 <;> simp [h0]
/-- Files that are read at an address, or none. -/
def RdF (w : World) (D : Option Addr) (l : List TF) : Prop := 0 < l.length → ∃ b off, D = some ⟨b, off, none⟩ ∧ ∀ j u, (fcells l)[j]? = some u → w.cell? ⟨b, off + j, none⟩ = some u
theorem OwnF.rd {w : World} {base c : Nat} {A : Option Addr} {l : List TF} (h : OwnF w base (.slice A l.length c) l) : RdF w A l := fun hl => by
  obtain ⟨g, cap, hv, _, hlt⟩ := World.ownsRow.form h hl
  injection hv with h1 h2 h3
  subst h1
  refine ⟨g, 0, rfl, fun j u hj => ?_⟩
  have k := World.ownsRow.cells h (g := g) rfl j u hj
  rw [addr_addF] at k
  exact k
/-- The files from the i-th on. -/
theorem RdF.from {w : World} {b off : Nat} {l : List TF} (h : RdF w (some ⟨b, off, none⟩) l) (i : Nat) : RdF w (some ⟨b, off + i * 3, none⟩) (l.drop i) := fun hl => by
  rw [List.length_drop] at hl
  obtain ⟨b', off', e, hc⟩ := h (by omega)
  injection e with e
  injection e with e1 e2 e3
  subst e1 e2
  refine ⟨b, off + i * 3, rfl, fun j u hj => ?_⟩
  have e4 : fcells l = fcells (l.take i) ++ fcells (l.drop i) := by rw [← fcells_append, List.take_append_drop]
  have hj2 : (fcells l)[i * 3 + j]? = some u := by
    rw [e4, List.getElem?_append_right (by rw [fcells_len, List.length_take]; omega), fcells_len, List.length_take, Nat.min_eq_left (by omega), Nat.add_sub_cancel_left]
    exact hj
  have k := hc _ u hj2
  rw [Nat.add_assoc]
  exact k
/-- The first i files. -/
theorem RdF.pre {w : World} {D : Option Addr} {l : List TF} (h : RdF w D l) (i : Nat) : RdF w D (l.take i) := fun hl => by
  obtain ⟨b, off, e, hc⟩ := h (by rw [List.length_take] at hl; omega)
  refine ⟨b, off, e, fun j u hj => hc j u ?_⟩
  have e4 : fcells l = fcells (l.take i) ++ fcells (l.drop i) := by rw [← fcells_append, List.take_append_drop]
  rw [e4, List.getElem?_append_left (List.getElem?_eq_some_iff.1 hj).1]
  exact hj
/-- 'append(s, x...)', s the call's own, x files that are only read; not an empty slice with an address unless it reads as none. -/
theorem wplF_apps {w : World} {ops : Array Oper} {rest : List Oper} {o : Oper} {a : Act} {Q : Exit → Act → World → Prop} (hgd : o.guard = none) (s x : Operand)
    (ho : o.op = .call { callee := .builtin .append, args := #[s, x], argTypes := #[27, 27] })
    (base : Nat) (v : Value) (l : List TF) (hs : a.eval s = v) (hown : OwnF w base v l)
    (D : Option Addr) (d : Nat) (l2 : List TF) (hx : a.eval x = .slice D l2.length d) (hr : RdF w D l2) (hn : l.length + l2.length ≤ 1000000) (hbase : base ≤ w.heap.size)
    (h : ∀ A' c' w', OwnF w' base (.slice A' (l.length + l2.length) c') (l ++ l2) → w.grownBy w' v.ownBlock → ((Value.slice A' (l.length + l2.length) c').ownBlock = v.ownBlock ∨ (Value.slice A' (l.length + l2.length) c').ownBlock = some w.heap.size) → wpList Try.prog ops Q rest (a.put o.dst (.slice A' (l.length + l2.length) c')) w') :
    wpList Try.prog ops Q (o :: rest) a w := by
  obtain ⟨i0, hi, hz0, hz1, hz2⟩ := info_parts infoFile
  have fin : ∀ v' w', w'.ownsRow base 51 3 v' (l.length + l2.length) (fcells l ++ fcells l2) → w.grownBy w' v.ownBlock → (v'.ownBlock = v.ownBlock ∨ v'.ownBlock = some w.heap.size) → wpList Try.prog ops Q rest (a.put o.dst v') w' := fun v' w' hown' hg hat => by
    have ho' : OwnF w' base v' (l ++ l2) := by
      unfold OwnF
      rw [fcells_append, List.length_append]; exact hown'
    obtain ⟨A', c', hv⟩ := ho'.shape
    rw [List.length_append] at hv
    subst hv
    exact h A' c' w' ho' hg hat
  rcases D with _ | ad
  · have hm : l2 = [] := by
      rcases Nat.eq_zero_or_pos l2.length with h0 | h0
      · exact List.eq_nil_of_length_eq_zero h0
      · obtain ⟨b, off, e, _⟩ := hr h0
        cases e
    subst hm
    have hrun : (Builtin.append_ #[27, 27] o.type #[v, .slice none 0 d]).run Try.prog w = .ok v w := by
      rcases hown.2 with ⟨rfl, _⟩ | ⟨g, cap, cur, rfl, _, _, hnc, _⟩
      · simp [Builtin.append_, run_underlying Try.underlying27, sizeOf, typeInfo, hi, Builtin.lenOf, Builtin.firstCells]
      · simp [Builtin.append_, run_underlying Try.underlying27, sizeOf, typeInfo, hi, Builtin.lenOf, Builtin.firstCells, hnc, storeCells]
    refine wpList_plain hgd fun K hK => ?_
    unfold Oper.wp execOp
    have hx0 : a.eval x = .slice none 0 d := hx
    simp only [ho, resolve, invoke, builtin, Sem.run_bind, Sem.run_pure, Result.andThen_ok, List.map_toArray, List.map_cons, List.map_nil, hs, hx0, hrun]
    exact hK _ _ (fin v w (by rw [show fcells [] = [] from rfl, List.append_nil]; exact hown) (World.grownBy.refl w _) (.inl rfl))
  · refine wpList_append_own_at w hgd s x 27 ho base 51 i0 _ 3 40 Try.underlying27 hi hz0 hz1 hz2 rfl (by decide) v l.length _ hs hown ad l2.length d (fcells l2) hx (fcells_len l2) ?_ (fcells_one l2) (by unfold maxLen; omega) (by omega) hbase ?_
    · intro j z hj
      have hjm : 0 < l2.length := by
        have := (List.getElem?_eq_some_iff.1 hj).1
        rw [fcells_len] at this
        omega
      obtain ⟨b, off, e, hc⟩ := hr hjm
      injection e with e
      subst e
      rw [addr_addF]
      exact hc j z hj
    · intro v' w' hown' hg _ hat
      exact fin v' w' hown' hg hat
end Go.Proofs.Ytfpcfbolpnfacaa
