/-
  Two slices of bytes, joined.
-/
import Derived.Test.YtmfoammkcokcoaaEPut
import Derived.Lib.AppendZerosOnto
import Derived.Lib.Walk
namespace Go.Proofs.Ytmfoammkcokcoaa
open Go.RowKit
open ByteP CodeP
set_option linter.unusedVariables false
theorem addr_addJ (b off j : Nat) : (Addr.add ⟨b, off, none⟩ j) = ⟨b, off + j, none⟩ := by
  unfold Addr.add
  by_cases h0 : j = 0 <;> simp [h0]

/-- 'append(s, x...)', s the call's own, x a slice that is only read (nil too). -/
theorem wplY_apps {w : World} {ops : Array Oper} {rest : List Oper} {o : Oper} {a : Act} {Q : Exit → Act → World → Prop} (hgd : o.guard = none) (s x : Operand)
    (ho : o.op = .call { callee := .builtin .append, args := #[s, x], argTypes := #[32, 32] })
    (base : Nat) (v : Value) (n : Nat) (xs : List Int) (hs : a.eval s = v) (hown : OwnY w base v n xs)
    (B : Nat) (D : Option Addr) (m d : Nat) (ys : List Int) (hx : a.eval x = .slice D m d) (hr : RdY w B D m ys) (hn : n + m ≤ 1099511627776) (hbase : base ≤ w.heap.size)
    (h : ∀ v' w', OwnY w' base v' (n + m) (xs ++ ys) → w.grownBy w' v.ownBlock → (v'.ownBlock = v.ownBlock ∨ v'.ownBlock = some w.heap.size) → wpList Try.prog ops Q rest (a.put o.dst v') w') :
    wpList Try.prog ops Q (o :: rest) a w := by
  obtain ⟨i0, hi, hz0, hz1, hz2⟩ := info_parts infoByte
  rcases D with _ | ad
  · have hm : m = 0 := by
      rcases Nat.eq_zero_or_pos m with h0 | h0
      · exact h0
      · obtain ⟨b, off, e, _⟩ := hr.2 h0
        cases e
    subst hm
    have hy : ys = [] := List.eq_nil_of_length_eq_zero hr.1
    subst hy
    have hrun : (Builtin.append_ #[32, 32] o.type #[v, .slice none 0 d]).run Try.prog w = .ok v w := by
      rcases hown.2 with ⟨rfl, rfl⟩ | ⟨g, cap, cur, rfl, _, _, hnc, _⟩
      · simp [Builtin.append_, run_underlying Try.underlying32, sizeOf, typeInfo, hi, Builtin.lenOf, Builtin.firstCells]
      · simp [Builtin.append_, run_underlying Try.underlying32, sizeOf, typeInfo, hi, Builtin.lenOf, Builtin.firstCells, hnc, storeCells]
    refine wpList_plain hgd fun K hK => ?_
    unfold Oper.wp execOp
    simp only [ho, resolve, invoke, builtin, Sem.run_bind, Sem.run_pure, Result.andThen_ok, List.map_toArray, List.map_cons, List.map_nil, hs, hx, hrun]
    exact hK _ _ (h v w (by simpa using hown) (World.grownBy.refl w _) (.inl rfl))
  · refine wpList_append_own_at w hgd s x 32 ho base 5 i0 (.int .u8 0) 1 1 Try.underlying32 hi hz0 hz1 hz2 rfl (by decide) v n _ hs hown ad m d (ys.map (Value.int .u8)) hx (by simp [hr.1]) ?_ ?_ (by unfold maxLen; omega) (by omega) hbase ?_
    · intro j z hj
      have hjm : j < m := by
        have := (List.getElem?_eq_some_iff.1 hj).1
        simpa [hr.1] using this
      obtain ⟨b, off, e, _, hc⟩ := hr.at_ hjm
      cases e
      rw [addr_addJ, hc]
      rw [ixY_map ys j (by rw [hr.1]; exact hjm)] at hj
      exact hj
    · intro z hz
      obtain ⟨u, _, rfl⟩ := List.mem_map.1 hz
      rfl
    · intro v' w' hown' hg _ hat
      exact h v' w' (by unfold OwnY; rw [List.map_append]; exact hown') hg hat

theorem OwnY.empty (w : World) (base : Nat) (hb : base ≤ w.heap.size) : OwnY (w.alloc (.cells #[] 5)) base (.slice (some ⟨w.heap.size, 0, none⟩) 0 0) 0 [] := OwnY.lit w base [] hb (by simp)


set_option maxHeartbeats 1600000 in
theorem refJoin_any {w : World} {B n m c d : Nat} {A D : Option Addr} {xs ys : List Int} (hx : RdY w B A n xs) (hy : RdY w B D m ys) (hB : B ≤ w.heap.size) (hnm : n + m ≤ 1099511627776) :
    Calls Try.prog 28 #[.slice A n c, .slice D m d] w fun e w' => ∃ v, e = .returned v ∧ OwnY w' w.heap.size v (n + m) (xs ++ ys) ∧ Below w.heap.size w w' := by
  have HX := Lib.hid hx
  have HY := Lib.hid hy
  clear hx hy
  go_enter Try.func28, Try.ntmps28
  have HA : Hid (RdY (w.alloc (.cells #[] 5)) B A n xs) := Lib.hid (HX.out.alloc hB _)
  have HO := Lib.hid (OwnY.empty w w.heap.size (Nat.le_refl _))
  go_wp2_with (first
    | (at_builtin; refine wplY_apps rfl _ _ rfl w.heap.size _ 0 _ rfl HO.out B A n c xs rfl HA.out (by omega) (by simp) ?_; intro v1 w1 hown1 hg1 hat1;
        rw [Nat.zero_add, List.nil_append] at hown1; obtain ⟨A1, c1, rfl, _⟩ := hown1.shape; (have HO1 := Lib.hid hown1);
        (have HB1 : Hid (Below w.heap.size w w1) := Lib.hid (((Below.refl _ w).alloc (Nat.le_refl _) _).grown hg1 (by simp) (fun k h => by have h' : some w.heap.size = some k := h; cases h'; exact Nat.le_refl _)));
        (have HY1 : Hid (RdY w1 B D m ys) := Lib.hid (HY.out.below (HB1.out.mono hB))); (have hs1 : w.heap.size ≤ w1.heap.size := HB1.out.size); clear hown1 hg1 hat1)
    | (at_builtin; refine wplY_apps rfl _ _ rfl w.heap.size _ n _ rfl HO1.out B D m d ys rfl HY1.out hnm hs1 ?_; intro v2 w2 hown2 hg2 hat2; (have HO2 := Lib.hid hown2);
        (have HB2 : Hid (Below w.heap.size w w2) := Lib.hid (HB1.out.grown hg2 hs1 HO1.out.ge)); clear hown2 hg2 hat2))
  go_ret
  exact ⟨_, rfl, HO2.out, HB2.out⟩
end Go.Proofs.Ytmfoammkcokcoaa
