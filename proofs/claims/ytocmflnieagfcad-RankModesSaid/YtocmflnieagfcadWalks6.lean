/-
  CONTRACTS: append of one slice of int to another, slices.Clone, and Next, over this translation.
-/
import Derived.Test.YtocmflnieagfcadWalks5
import Derived.Deep.QuietTactic
import Derived.BigQuiet
namespace Go.Proofs.Ytocmflnieagfcad
open Go.RowKit
open RankP
set_option linter.unusedVariables false

theorem addr_add (b off j : Nat) : (Addr.add ⟨b, off, none⟩ j) = ⟨b, off + j, none⟩ := by
  unfold Addr.add
  by_cases h0 : j = 0 <;> simp [h0]

/-- 'append(s, x...)', s the call's own, x a slice that is only read (nil too). -/
theorem wpl_apps {w : World} {ops : Array Oper} {rest : List Oper} {o : Oper} {a : Act} {Q : Exit → Act → World → Prop} (hgd : o.guard = none) (s x : Operand)
    (ho : o.op = .call { callee := .builtin .append, args := #[s, x], argTypes := #[22, 22] })
    (base : Nat) (v : Value) (n : Nat) (xs : List Int) (hs : a.eval s = v) (hown : Own w base v n xs)
    (B : Nat) (D : Option Addr) (m d : Nat) (ys : List Int) (hx : a.eval x = .slice D m d) (hr : Rd w B D m ys) (hn : n + m ≤ 1099511627776) (hbase : base ≤ w.heap.size)
    (h : ∀ v' w', Own w' base v' (n + m) (xs ++ ys) → w.grownBy w' v.ownBlock → (v'.ownBlock = v.ownBlock ∨ v'.ownBlock = some w.heap.size) → wpList Try.prog ops Q rest (a.put o.dst v') w') :
    wpList Try.prog ops Q (o :: rest) a w := by
  obtain ⟨i0, hi, hz0, hz1, hz2⟩ := info_parts infoInt
  rcases D with _ | ad
  · have hm : m = 0 := by
      rcases Nat.eq_zero_or_pos m with h0 | h0
      · exact h0
      · obtain ⟨b, off, e, _⟩ := hr.2 h0
        cases e
    subst hm
    have hy : ys = [] := List.eq_nil_of_length_eq_zero hr.1
    subst hy
    have hrun : (Builtin.append_ #[22, 22] o.type #[v, .slice none 0 d]).run Try.prog w = .ok v w := by
      rcases hown.2 with ⟨rfl, rfl⟩ | ⟨g, cap, cur, rfl, _, _, hnc, _⟩
      · simp [Builtin.append_, run_underlying Try.underlying22, sizeOf, typeInfo, hi, Builtin.lenOf, Builtin.firstCells]
      · simp [Builtin.append_, run_underlying Try.underlying22, sizeOf, typeInfo, hi, Builtin.lenOf, Builtin.firstCells, hnc, storeCells]
    refine wpList_plain hgd fun K hK => ?_
    unfold Oper.wp execOp
    simp only [ho, resolve, invoke, builtin, Sem.run_bind, Sem.run_pure, Result.andThen_ok, List.map_toArray, List.map_cons, List.map_nil, hs, hx, hrun]
    exact hK _ _ (h v w (by simpa using hown) (World.grownBy.refl w _) (.inl rfl))
  · refine wpList_append_own_at w hgd s x 22 ho base 3 i0 (.int .i64 0) 1 8 Try.underlying22 hi hz0 hz1 hz2 rfl (by decide) v n _ hs hown ad m d (ys.map (Value.int .i64)) hx (by simp [hr.1]) ?_ ?_ (by unfold maxLen; omega) (by omega) hbase ?_
    · intro j z hj
      have hjm : j < m := by
        have := (List.getElem?_eq_some_iff.1 hj).1
        simpa [hr.1] using this
      obtain ⟨b, off, e, _, hc⟩ := hr.at_ hjm
      cases e
      rw [addr_add, hc]
      rw [ix_map ys j (by rw [hr.1]; exact hjm)] at hj
      exact hj
    · intro z hz
      obtain ⟨u, _, rfl⟩ := List.mem_map.1 hz
      rfl
    · intro v' w' hown' hg _ hat
      exact h v' w' (by unfold Own; rw [List.map_append]; exact hown') hg hat

theorem Own.empty (w : World) (base : Nat) (hb : base ≤ w.heap.size) : Own (w.alloc (.cells #[] 3)) base (.slice (some ⟨w.heap.size, 0, none⟩) 0 0) 0 [] := Own.lit w base [] hb (by simp)

set_option maxHeartbeats 800000 in
theorem clone_any {w : World} {B n c : Nat} {A : Option Addr} {xs : List Int} (hx : Rd w B A n xs) (hB : B ≤ w.heap.size) (hn : n ≤ 1099511627776) :
    Calls Try.prog 19 #[.slice A n c] w fun e w' => ∃ v, e = .returned v ∧ Own w' w.heap.size v n xs ∧ Below w.heap.size w w' := by
  have HX := Lib.hid hx
  clear hx
  have hnil := fun (W : World) (A : Option Addr) (n c : Nat) => Lib.run_eql_slice_nil (P := Try.prog) W 22 3 A n c 0 0 Try.underlying22
  rcases A with _ | ad
  · have hm : n = 0 := by
      rcases Nat.eq_zero_or_pos n with h0 | h0
      · exact h0
      · obtain ⟨b, off, e, _⟩ := HX.out.2 h0
        cases e
    subst hm
    have HE : Hid (xs = []) := Lib.hid (List.eq_nil_of_length_eq_zero HX.out.1)
    go_enter Try.func19, Try.ntmps19
    go_wp2
    go_ret
    exact ⟨_, rfl, by rw [HE.out]; exact Own.nil_ _ _, Below.refl _ _⟩
  · have HA : Hid (Rd (w.alloc (.cells #[] 3)) B (some ad) n xs) := Lib.hid (HX.out.alloc hB _)
    have HO := Lib.hid (Own.empty w w.heap.size (Nat.le_refl _))
    go_enter Try.func19, Try.ntmps19
    go_wp2_with (at_builtin; go_must (refine wpl_apps rfl _ _ rfl w.heap.size _ 0 [] rfl HO.out B (some ad) n c xs rfl HA.out (by omega) (by simp) ?_); intro v' w1 hown hg hat)
    have HO1 := Lib.hid hown
    have HB1 : Hid (Below w.heap.size w w1) := Lib.hid (((Below.refl _ w).alloc (Nat.le_refl _) _).grown hg (by simp) (fun k h => by have h' : some w.heap.size = some k := h; cases h'; exact Nat.le_refl _))
    clear hown hg hat
    go_wp2
    go_ret
    exact ⟨_, rfl, by simpa using HO1.out, HB1.out⟩

theorem next_no {w : World} {B n m c d : Nat} {A D : Option Addr} {ls cs : List Int} (hx : Rd w B A n ls) (hy : Rd w B D m cs) (hn : n ≤ 9223372036854775807) (hm : m ≤ 9223372036854775807) (h : choB ls cs = false) :
    Calls Try.prog 13 #[.slice A n c, .slice D m d] w fun e w' => e = .returned (.tuple #[.slice none 0 0, .bool false]) ∧ w = w' := by
  have HX := Lib.hid hx
  have HY := Lib.hid hy
  clear hx hy
  go_enter Try.func13, Try.ntmps13
  go_wp2_with (go_at_call 18; refine (isChoice_any HX.out HY.out hn hm).mono ?_; rintro e w' ⟨rfl, rfl⟩)
  go_ret2
  exact ⟨rfl, rfl⟩

/-- What the loop of Next has made of cs above place p: all there stood at the top, and is nought now. -/
def NextTo (ls cs ds : List Int) (p : Nat) : Prop := Top ls cs p ∧ ds.length = ls.length ∧ ∀ j < ls.length, ix ds j = if j < p then ix cs j else 0
theorem NextTo.start {ls cs : List Int} (h : cs.length = ls.length) : NextTo ls cs cs ls.length :=
  ⟨fun j h1 h2 => absurd h2 (by omega), h, fun j hj => by rw [if_pos hj]⟩
theorem NextTo.zero {ls cs ds : List Int} {p : Nat} (hc : Cho ls cs) (h : NextTo ls cs ds (p + 1)) (hp : p < ls.length) (ht : ¬ ix cs p + 1 < ix ls p) : NextTo ls cs (ds.set p 0) p := by
  refine ⟨fun j h1 h2 => ?_, by simp [h.2.1], fun j hj => ?_⟩
  · by_cases e : j = p
    · subst e; have := (hc.2 j hp).2; omega
    · exact h.1 j (by omega) h2
  · rw [ix_set _ _ _ _ (by rw [h.2.1]; exact hp)]
    by_cases e : p = j
    · subst e; rw [if_pos rfl, if_neg (by omega)]
    · rw [if_neg e, h.2.2 j hj]
      by_cases e2 : j < p
      · rw [if_pos (by omega), if_pos e2]
      · rw [if_neg (by omega), if_neg e2]
theorem NextTo.hit {ls cs ds : List Int} {p : Nat} (h : NextTo ls cs ds (p + 1)) (hp : p < ls.length) : ds.set p (ix ds p + 1) = nextAt ls cs p := by
  refine list_ext_getD (by simp [h.2.1, nextAt_length]) fun j hj => ?_
  have hj' : j < ls.length := by simpa [h.2.1] using hj
  rw [ix_set _ _ _ _ (by rw [h.2.1]; exact hp), nextAt_get ls cs p j hj', h.2.2 p hp, h.2.2 j hj', if_pos (show p < p + 1 by omega)]
  by_cases e : p = j
  · subst e; rw [if_pos rfl, if_neg (by omega), if_pos rfl]
  · rw [if_neg e]
    by_cases e2 : j < p
    · rw [if_pos (by omega), if_pos e2]
    · rw [if_neg (by omega), if_neg e2, if_neg (by omega)]

/-- What Next answers. -/
def NextPost (ls cs : List Int) (n : Nat) (w : World) (e : Ending) (w' : World) : Prop :=
  ((∃ v i, e = .returned (.tuple #[v, .bool true]) ∧ Own w' w.heap.size v n (nextAt ls cs i) ∧ i < ls.length ∧ Top ls cs (i + 1) ∧ ix cs i + 1 < ix ls i) ∨
    (e = .returned (.tuple #[.slice none 0 0, .bool false]) ∧ Top ls cs 0)) ∧ Below w.heap.size w w'

set_option maxHeartbeats 1600000 in
theorem next_yes {w : World} {B n m c d : Nat} {A D : Option Addr} {ls cs : List Int} (hx : Rd w B A n ls) (hy : Rd w B D m cs) (hn : n ≤ 9223372036854775807) (hm : m ≤ 9223372036854775807) (h : choB ls cs = true) (hB : B ≤ w.heap.size) :
    Calls Try.prog 13 #[.slice A n c, .slice D m d] w (NextPost ls cs n w) := by
  have HX := Lib.hid hx
  have HY := Lib.hid hy
  have HXL := Lib.hid hx.1
  have HC := Lib.hid (choB_iff.1 h)
  obtain rfl : m = n := by have := HC.out.2.1; rw [HXL.out, hy.1] at this; exact this
  have h12 : m ≤ 12 := by have := HC.out.1.1; rw [HXL.out] at this; exact this
  clear hx hy
  go_enter Try.func13, Try.ntmps13
  go_wp2_with (first
    | (go_at_call 18; refine (isChoice_any HX.out HY.out hn hm).mono ?_; rintro e w' ⟨rfl, rfl⟩)
    | (go_at_call 19; refine (clone_any HY.out hB (by omega)).mono ?_; rintro e w1 ⟨v, rfl, hown, hbel⟩; obtain ⟨G, cc, rfl, _⟩ := hown.shape; (have HO := Lib.hid hown); (have HB := Lib.hid hbel); clear hown hbel))
  go_loopw [7] (fun i wr => ∃ (z : Int) (p : Nat) (ds : List Int), -1 ≤ z ∧ z < m ∧ Hid ((p : Int) = z + 1) ∧ i = .int .i64 z ∧
      Hid (Own wr w.heap.size (.slice G m cc) m ds) ∧ Hid (NextTo ls cs ds p) ∧ Hid (Below w.heap.size w wr))
    (fun i _ => (intOf i + 1).toNat)
  case atStart =>
    exact ⟨(m : Int) - 1, m, cs, by omega, by omega, Lib.hid (by omega), rfl, HO, Lib.hid (by rw [← HXL.out]; exact NextTo.start HC.out.2.1), HB⟩
  case round =>
    clear HO HB
    obtain ⟨z, p, ds, hz1, hz2, HP, rfl, HO, HN, HB⟩ := hrel
    by_cases h0 : 0 ≤ z
    · obtain ⟨q, rfl⟩ := Int.eq_ofNat_of_zero_le h0
      have hqn : q < m := by omega
      obtain rfl : p = q + 1 := by have := HP.out; omega
      obtain ⟨b, off, rfl, hb, hc⟩ := (HX.out.below (HB.out.mono hB)).at_ hqn
      obtain ⟨g, cc', e, hbg, hlt⟩ := HO.out.form (by omega)
      obtain ⟨rfl, rfl⟩ : G = some ⟨g, 0, none⟩ ∧ cc = cc' := by cases e; exact ⟨rfl, rfl⟩
      clear e
      have hcell := HO.out.cell hqn
      have hfree := HO.out.free q
      have HV : Hid (ix ds q = ix cs q) := Lib.hid (by rw [HN.out.2.2 q (by rw [HXL.out]; exact hqn), if_pos (by omega)])
      obtain ⟨hv1, hv2⟩ : 0 ≤ ix ds q ∧ ix ds q ≤ 12 := by
        have h1 := HC.out.2.2 q (by rw [HXL.out]; exact hqn)
        have h2 := HC.out.1.2 q (by rw [HXL.out]; exact hqn)
        rw [HV.out]; omega
      by_cases ht : ix ds q + 1 < ix ls q
      · have HS := Lib.hid (HO.out.store q (ix ds q + 1))
        have HH := Lib.hid (HN.out.hit (by rw [HXL.out]; exact hqn))
        have HT := Lib.hid HN.out.1
        have HB2 := HB.out.setCell (p := ⟨g, q, none⟩) hbg (.int .i64 (ix ds q + 1))
        have HB3 := Lib.hid HB2
        clear HB2
        go_wp2
        go_region
        go_wp2
        go_ret2
        exact ⟨.inl ⟨_, q, rfl, by rw [← HH.out]; exact HS.out.drew, by rw [HXL.out]; exact hqn, HT.out, by rw [← HV.out]; exact ht⟩, HB3.out.drew⟩
      · have HS := Lib.hid (HO.out.store q 0)
        have HN2 := Lib.hid (HN.out.zero HC.out.2 (by rw [HXL.out]; exact hqn) (by rw [← HV.out]; exact ht))
        have HB3 := Lib.hid (HB.out.setCell (p := ⟨g, q, none⟩) hbg (.int .i64 0))
        go_wp2
        go_region
        go_wp2
        go_roundw
        case rel => exact ⟨(q : Int) - 1, q, ds.set q 0, by omega, by omega, Lib.hid (by omega), by go_num, Lib.hid HS.out.drew, HN2, Lib.hid HB3.out.drew⟩
        case measure => simp [intOf]
    · obtain rfl : p = 0 := by have := HP.out; omega
      go_wp2
      go_ret2
      exact ⟨.inr ⟨rfl, HN.out.1⟩, HB.out⟩
end Go.Proofs.Ytocmflnieagfcad
