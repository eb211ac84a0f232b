/-
  WORDS FOR MEMORY: a list of texts appended to another, at a step of a region that draws its order.
-/
import Derived.Test.YtadajkgiijpakaaWRow
namespace Go.Proofs.Ytadajkgiijpakaa
open Go.RowKit
open ByteP
set_option linter.unusedVariables false
set_option maxRecDepth 100000
theorem rowPushs {w w' : World} {M : Nat → Prop} {B0 : Nat} {v v' : Value} {rs rs2 : List (List Int)} {vals vals2 : List Value} (hown : w.ownsRow B0 26 1 v rs.length vals)
    (hj : ∀ j, j < rs.length → ∃ A n c, vals[j]? = some (.slice A n c) ∧ RdK w (fun b => M b ∨ v.ownBlock = some b) A n (rs.getD j []) ∧ Bytes (rs.getD j []) ∧ n ≤ 1099511627776) (hnd : ∀ g, v.ownBlock = some g → ¬ M g)
    (hMs : ∀ b, M b → b < w.heap.size) (hel : ∀ j, j < rs2.length → ∃ A n c, vals2[j]? = some (.slice A n c) ∧ RdK w (fun b => M b ∨ v.ownBlock = some b) A n (rs2.getD j []) ∧ Bytes (rs2.getD j []) ∧ n ≤ 1099511627776)
    (hown' : w'.ownsRow B0 26 1 v' (rs.length + rs2.length) (vals ++ vals2)) (hg : w.grownBy w' v.ownBlock) (hat : v'.ownBlock = v.ownBlock ∨ v'.ownBlock = some w.heap.size) : Row w' M B0 v' (rs ++ rs2) := by
  have hkeep : ∀ {A : Option Addr} {n : Nat} {ys : List Int}, RdK w (fun b => M b ∨ v.ownBlock = some b) A n ys → RdK w' (fun b => M b ∨ v'.ownBlock = some b) A n ys := by
    intro A n ys h0
    refine h0.turn ⟨hg.os, hg.tape, hg.output, hg.size, fun b' hb' hnb => hg.block b' hb' (fun e => hnb (.inr e.symm))⟩ (fun b' hb' => ?_)
    rcases hb' with h3 | h3
    · exact .inl (.inl h3)
    · rcases hat with h4 | h4
      · exact .inl (.inr (by rw [← h4]; exact h3))
      · have h5 : some w.heap.size = some b' := h4.symm.trans h3
        injection h5 with h5
        right; omega
  refine ⟨⟨vals ++ vals2, by rw [List.length_append]; exact hown', fun j hjk => ?_⟩, fun g hg2 => ?_⟩
  · rw [List.length_append] at hjk
    by_cases hlt2 : j < rs.length
    · obtain ⟨A', n', c', e, hr', hby', hn'⟩ := hj j hlt2
      have e2 : (rs ++ rs2).getD j [] = rs.getD j [] := by
        rw [List.getD_eq_getElem?_getD, List.getElem?_append_left hlt2, ← List.getD_eq_getElem?_getD]
      rw [e2]
      exact ⟨A', n', c', by rw [List.getElem?_append_left (by rw [rowLen hown]; omega)]; exact e, hkeep hr', hby', hn'⟩
    · obtain ⟨i, rfl⟩ : ∃ i, j = rs.length + i := ⟨j - rs.length, by omega⟩
      obtain ⟨A', n', c', e, hr', hby', hn'⟩ := hel i (by omega)
      have e2 : (rs ++ rs2).getD (rs.length + i) [] = rs2.getD i [] := by
        rw [List.getD_eq_getElem?_getD, List.getElem?_append_right (by omega), ← List.getD_eq_getElem?_getD, Nat.add_sub_cancel_left]
      rw [e2]
      exact ⟨A', n', c', by rw [List.getElem?_append_right (by rw [rowLen hown]; omega), rowLen hown, Nat.add_sub_cancel_left]; exact e, hkeep hr', hby', hn'⟩
  · rcases hat with h4 | h4
    · exact hnd g (by rw [← h4]; exact hg2)
    · have h5 : some w.heap.size = some g := h4.symm.trans hg2
      injection h5 with h5
      intro hM
      have := hMs g hM
      omega
/-- 'append(s, x...)' of two lists of texts. -/
theorem stepR_apps {w : World} {ops : Array Oper} {o : Oper} {a : Act} {K : Act → World → Prop} {Q : Exit → Act → World → Prop} {E : Prop} (hgd : o.guard = none) (s x : Operand)
    (ho : o.op = .call { callee := .builtin .append, args := #[s, x], argTypes := #[34, 34] })
    (M : Nat → Prop) (B0 : Nat) (v : Value) (rs : List (List Int)) (hs : a.eval s = v) (hrow : Row w M B0 v rs) (hMs : ∀ b, M b → b < w.heap.size)
    (D : Option Addr) (k d : Nat) (rs2 : List (List Int)) (hk : rs2.length = k) (hx : a.eval x = .slice D k d) (hD : k = 0 → D = none)
    (hel : ∀ j, j < k → ∃ b A n c, D = some ⟨b, 0, none⟩ ∧ w.cell? ⟨b, j, none⟩ = some (.slice A n c) ∧ RdK w (fun b => M b ∨ v.ownBlock = some b) A n (rs2.getD j []) ∧ Bytes (rs2.getD j []) ∧ n ≤ 1099511627776)
    (hlen : rs.length + k ≤ 1000000000) (hbase : B0 ≤ w.heap.size) (H : Nat) (hH : w.heap.size = H)
    (h : ∀ A' c' w', Row w' M B0 (.slice A' (rs.length + k) c') (rs ++ rs2) → w.grownBy w' v.ownBlock → ((Value.slice A' (rs.length + k) c').ownBlock = v.ownBlock ∨ (Value.slice A' (rs.length + k) c').ownBlock = some H) → K (a.put o.dst (.slice A' (rs.length + k) c')) w') :
    if Region.wanted o (yielded ops a.tmps) = true then Oper.wp Try.prog o a w K Q else E := by
  obtain ⟨i0, hi, hz0, hz1, hz2⟩ := info_parts rowInfo
  rcases Nat.eq_zero_or_pos k with hk0 | hk0
  · subst hk0
    have hDn := hD rfl
    subst hDn
    have hr2 : rs2 = [] := List.eq_nil_of_length_eq_zero hk
    subst hr2
    obtain ⟨A', c', hv⟩ := hrow.shape
    subst hv
    have hrun : (Builtin.append_ #[34, 34] o.type #[.slice A' rs.length c', .slice none 0 d]).run Try.prog w = .ok (.slice A' rs.length c') w := by
      obtain ⟨vals, hown, _⟩ := hrow.ex
      rcases hown.2 with ⟨hv, _⟩ | ⟨g, cap, cur, hv, _, _, hnc, _⟩
      · injection hv with e1 e2 e3
        subst e1 e3
        simp [Builtin.append_, run_underlying Try.underlying34, sizeOf, typeInfo, hi, Builtin.lenOf, Builtin.firstCells, e2]
      · injection hv with e1 e2 e3
        subst e1 e3
        simp [Builtin.append_, run_underlying Try.underlying34, sizeOf, typeInfo, hi, Builtin.lenOf, Builtin.firstCells, hnc, storeCells]
    have hw : Region.wanted o (yielded ops a.tmps) = true := by simp [Region.wanted, hgd]
    rw [if_pos hw]
    unfold Oper.wp execOp
    simp only [ho, resolve, invoke, builtin, Sem.run_bind, Sem.run_pure, Result.andThen_ok, List.map_toArray, List.map_cons, List.map_nil, hs, hx, hrun]
    exact h A' c' w (by simpa using hrow) (World.grownBy.refl w _) (.inl rfl)
  · have hnd := hrow.nd
    obtain ⟨vals, hown, hj⟩ := hrow.ex
    obtain ⟨b, _, _, _, rfl, _⟩ := hel 0 hk0
    obtain ⟨vals2, hv2⟩ : ∃ vals2, (List.range k).map (fun j => (w.cell? ⟨b, j, none⟩).getD undef) = vals2 := ⟨_, rfl⟩
    have hl2 : vals2.length = k := by rw [← hv2]; simp
    have hg2 : ∀ j, j < k → ∃ A n c, vals2[j]? = some (.slice A n c) ∧ w.cell? ⟨b, j, none⟩ = some (.slice A n c) ∧ RdK w (fun b => M b ∨ v.ownBlock = some b) A n (rs2.getD j []) ∧ Bytes (rs2.getD j []) ∧ n ≤ 1099511627776 := fun j hjk => by
      obtain ⟨b', A, n, c, e, hc, h1⟩ := hel j hjk
      injection e with e
      injection e with e
      subst e
      exact ⟨A, n, c, by rw [← hv2]; simp [hjk, hc], hc, h1⟩
    refine step_append_lies w hgd s x 34 ho B0 26 i0 (.slice none 0 0) 1 24 Try.underlying34 hi hz0 hz1 hz2 rfl (by decide) v rs.length _ hs hown ⟨b, 0, none⟩ k d vals2 hx (by rw [hl2, Nat.mul_one]) ?_ ?_ hk0 (by unfold maxLen; omega) (by omega) hbase H hH ?_
    · intro j u hju
      have hjk : j < k := by
        have := (List.getElem?_eq_some_iff.1 hju).1
        omega
      obtain ⟨A, n, c, e, hc, _⟩ := hg2 j hjk
      rw [e] at hju
      injection hju with hju
      subst hju
      have e2 : (Addr.add ⟨b, 0, none⟩ j) = ⟨b, j, none⟩ := by
        unfold Addr.add
        by_cases h0 : j = 0 <;> simp [h0]
      rw [e2]; exact hc
    · intro u hu
      obtain ⟨j, hjl, rfl⟩ := List.getElem_of_mem hu
      obtain ⟨A, n, c, e, _⟩ := hg2 j (by omega)
      rw [List.getElem?_eq_getElem hjl] at e
      injection e with e
      rw [e]; rfl
    · intro g cap w' hown' hg hat _
      refine h (some ⟨g, 0, none⟩) cap w' (rowPushs hown hj hnd hMs (fun j hjk => ?_) (by rw [hk]; exact hown') hg (by
        rcases hat with h | h
        · exact .inl h.symm
        · right; show some g = _; rw [h, hH])) hg (by
        rcases hat with h | h
        · exact .inl h.symm
        · right; show some g = _; rw [h])
      obtain ⟨A, n, c, e, _, h1⟩ := hg2 j (by omega)
      exact ⟨A, n, c, e, h1⟩
end Go.Proofs.Ytadajkgiijpakaa
