/-
  CONTRACTS of slices.Grow (of the nil slice) and slices.Concat at bytes, over this translation.
-/
import Derived.Test.YtadajkgiijpakaaYOf
import Derived.Lib.AppendZerosOnto
import Derived.Lib.Walk
namespace Go.Proofs.Ytadajkgiijpakaa
open Go.RowKit
open ByteP
set_option linter.unusedVariables false

theorem addr_add (b off j : Nat) : (Addr.add ⟨b, off, none⟩ j) = ⟨b, off + j, none⟩ := by
  unfold Addr.add
  by_cases h0 : j = 0 <;> simp [h0]

/-- 'append(s, x...)', s the call's own, x a slice that is only read (nil too). -/
theorem wplY_apps {w : World} {ops : Array Oper} {rest : List Oper} {o : Oper} {a : Act} {Q : Exit → Act → World → Prop} (hgd : o.guard = none) (s x : Operand)
    (ho : o.op = .call { callee := .builtin .append, args := #[s, x], argTypes := #[26, 26] })
    (base : Nat) (v : Value) (n : Nat) (xs : List Int) (hs : a.eval s = v) (hown : OwnY w base v n xs)
    (B : Nat) (D : Option Addr) (m d : Nat) (ys : List Int) (hx : a.eval x = .slice D m d) (hr : RdY w B D m ys) (hn : n + m ≤ 1099511627776) (hbase : base ≤ w.heap.size)
    (h : ∀ v' w', OwnY w' base v' (n + m) (xs ++ ys) → w.grownBy w' v.ownBlock → (v'.ownBlock = v.ownBlock ∨ v'.ownBlock = some w.heap.size) → wpList Try.prog ops Q rest (a.put o.dst v') w') :
    wpList Try.prog ops Q (o :: rest) a w := by
  obtain ⟨i0, hi, hz0, hz1, hz2⟩ := info_parts infoByte
  rcases D with _ | ad
  · have hm : m = 0 := by
      rcases Nat.eq_zero_or_pos m with h0 | h0
      · exact h0
      · obtain ⟨b, off, e, _⟩ := hr.2 h0
        cases e
    subst hm
    have hy : ys = [] := List.eq_nil_of_length_eq_zero hr.1
    subst hy
    have hrun : (Builtin.append_ #[26, 26] o.type #[v, .slice none 0 d]).run Try.prog w = .ok v w := by
      rcases hown.2 with ⟨rfl, rfl⟩ | ⟨g, cap, cur, rfl, _, _, hnc, _⟩
      · simp [Builtin.append_, run_underlying Try.underlying26, sizeOf, typeInfo, hi, Builtin.lenOf, Builtin.firstCells]
      · simp [Builtin.append_, run_underlying Try.underlying26, sizeOf, typeInfo, hi, Builtin.lenOf, Builtin.firstCells, hnc, storeCells]
    refine wpList_plain hgd fun K hK => ?_
    unfold Oper.wp execOp
    simp only [ho, resolve, invoke, builtin, Sem.run_bind, Sem.run_pure, Result.andThen_ok, List.map_toArray, List.map_cons, List.map_nil, hs, hx, hrun]
    exact hK _ _ (h v w (by simpa using hown) (World.grownBy.refl w _) (.inl rfl))
  · refine wpList_append_own_at w hgd s x 26 ho base 5 i0 (.int .u8 0) 1 1 Try.underlying26 hi hz0 hz1 hz2 rfl (by decide) v n _ hs hown ad m d (ys.map (Value.int .u8)) hx (by simp [hr.1]) ?_ ?_ (by unfold maxLen; omega) (by omega) hbase ?_
    · intro j z hj
      have hjm : j < m := by
        have := (List.getElem?_eq_some_iff.1 hj).1
        simpa [hr.1] using this
      obtain ⟨b, off, e, _, hc⟩ := hr.at_ hjm
      cases e
      rw [addr_add, hc]
      rw [ixY_map ys j (by rw [hr.1]; exact hjm)] at hj
      exact hj
    · intro z hz
      obtain ⟨u, _, rfl⟩ := List.mem_map.1 hz
      rfl
    · intro v' w' hown' hg _ hat
      exact h v' w' (by unfold OwnY; rw [List.map_append]; exact hown') hg hat

theorem OwnY.empty (w : World) (base : Nat) (hb : base ≤ w.heap.size) : OwnY (w.alloc (.cells #[] 5)) base (.slice (some ⟨w.heap.size, 0, none⟩) 0 0) 0 [] := OwnY.lit w base [] hb (by simp)


theorem size_zeroCells1 (z : Value) (k : Nat) (h : z.cells.size = 1) : (Builtin.zeroCells z.cells k).size = k := by
  unfold Builtin.zeroCells; simp [h]

set_option maxRecDepth 100000 in
set_option maxHeartbeats 800000 in
theorem grow_any (w : World) (n : Nat) (hn : n ≤ 1099511627776) :
    Calls Try.prog 63 #[.slice none 0 0, .int .i64 (n : Int)] w fun e w' => ∃ v, e = .returned v ∧ OwnY w' w.heap.size v 0 [] ∧ Below w.heap.size w w' := by
  by_cases h0 : n = 0
  · subst h0
    go_enter Try.func63, Try.ntmps63
    go_wp2
    go_ret
    exact ⟨_, rfl, OwnY.nil_ _ _, Below.refl _ _⟩
  · obtain ⟨i0, hi, hz0, hz1, hz2⟩ := info_parts infoByte
    have hgn : n ≤ grownCap w n 0 5 := grownCap_ge w _ _ _
    have hgm : grownCap w n 0 5 ≤ maxLen := grownCap_le_maxLen w n 0 5 (by unfold maxLen; omega)
    have hrz : ∀ ty, (Builtin.append_ #[26, 3] ty #[.slice none 0 0, .int .i64 (n : Int)]).run Try.prog w =
        .ok (.slice (some ⟨w.heap.size, 0, none⟩) n (grownCap w n 0 5)) (w.drew.alloc (.cells (#[] ++ Builtin.zeroCells (Value.int .u8 0).cells n ++ Builtin.zeroCells (Value.int .u8 0).cells (grownCap w n 0 5 - n)) 5)) := fun ty => by
      have h := Lib.run_append_grow_zeros w 26 3 ty 5 i0 (.int .u8 0) .i64 .i64 Try.underlying26 Try.underlying3 hi hz0 none 0 0 [] (run_firstCells_none w.drew i0.size 0 0 0) n (by omega) (by omega) (by omega) (by omega)
        (by rw [hz2]; omega) (growslice_fits (by omega) (by rw [hz2]; omega))
      simpa using h
    have HO : Hid (OwnY (w.alloc (.cells (Builtin.zeroCells #[Value.int .u8 0] n ++ Builtin.zeroCells #[Value.int .u8 0] (grownCap w n 0 5 - n)) 5)).drew w.heap.size (.slice (some ⟨w.heap.size, 0, none⟩) 0 (grownCap w n 0 5)) 0 []) := Lib.hid
      (OwnY.drew ⟨rfl, .inr ⟨w.heap.size, grownCap w n 0 5, _, rfl, Nat.le_refl _, heap_alloc_new w _, Nat.zero_le _, hgm, by
        have h1 : (Builtin.zeroCells #[Value.int .u8 0] n).size = n := size_zeroCells1 (.int .u8 0) n rfl
        have h2 : (Builtin.zeroCells #[Value.int .u8 0] (grownCap w n 0 5 - n)).size = grownCap w n 0 5 - n := size_zeroCells1 (.int .u8 0) (grownCap w n 0 5 - n) rfl
        rw [Array.size_append, h1, h2]; omega, by simp⟩⟩)
    have HB : Hid (Below w.heap.size w (w.alloc (.cells (Builtin.zeroCells #[Value.int .u8 0] n ++ Builtin.zeroCells #[Value.int .u8 0] (grownCap w n 0 5 - n)) 5)).drew) := Lib.hid ((Below.refl _ w).alloc (Nat.le_refl _) _).drew
    obtain ⟨G, hG⟩ : ∃ G, G = grownCap w n 0 5 := ⟨_, rfl⟩
    rw [← hG] at hrz hgn HO HB
    have hn0 : 0 < n := by omega
    clear hG hgm
    go_enter Try.func63, Try.ntmps63
    go_wp2_with (at_builtin; refine Lib.wpList_append_run _ rfl _ _ _ _ rfl _ _ rfl rfl _ _ (hrz _) ?_)
    go_ret
    exact ⟨_, rfl, HO.out, HB.out⟩

def lenTo (PN : Nat → Nat) : Nat → Nat
  | 0 => 0
  | k + 1 => lenTo PN k + PN k
def catTo (PX : Nat → List Int) : Nat → List Int
  | 0 => []
  | k + 1 => catTo PX k ++ PX k
theorem lenTo_le (PN : Nat → Nat) : ∀ m k, k ≤ m → lenTo PN k ≤ lenTo PN m := by
  intro m
  induction m with
  | zero => intro k hk; obtain rfl : k = 0 := by omega
            exact Nat.le_refl _
  | succ m ih =>
    intro k hk
    by_cases e : k = m + 1
    · subst e; exact Nat.le_refl _
    · have := ih k (by omega); show _ ≤ lenTo PN m + PN m; omega

set_option maxHeartbeats 1600000 in
theorem concat_any {w : World} {m c : Nat} {A : Option Addr} {PA : Nat → Option Addr} {PN PC : Nat → Nat} {PX : Nat → List Int} (hx : Rd2 w w.heap.size A m PA PN PC PX) (hm : m ≤ 1000000) (hl : lenTo PN m ≤ 549755813888) :
    Calls Try.prog 53 #[.slice A m c] w fun e w' => ∃ v, e = .returned v ∧ OwnY w' w.heap.size v (lenTo PN m) (catTo PX m) ∧ Below w.heap.size w w' := by
  have HX := Lib.hid hx
  clear hx
  go_enter Try.func53, Try.ntmps53
  go_wp2
  go_loop [3, 11] (fun s i => ∃ k q : Nat, k ≤ m ∧ i = .int .i64 (k : Int) ∧ s = .int .i64 (q : Int) ∧ q ≤ 549755813888 ∧ Hid (q = lenTo PN k)) (fun _ i => m - (intOf i).toNat)
  case atStart => exact ⟨0, 0, by omega, rfl, rfl, by omega, Lib.hid rfl⟩
  case round =>
    obtain ⟨k, q, hk, rfl, rfl, hq, HQ⟩ := hrel
    by_cases hlt : k < m
    · obtain ⟨b, off, rfl, hbb, hc⟩ := HX.out.at_ hlt
      have hq2 : q + PN k ≤ 549755813888 := by
        have h1 := lenTo_le PN m (k + 1) (by omega)
        have h2 := HQ.out
        have h3 : lenTo PN (k + 1) = lenTo PN k + PN k := rfl
        omega
      have hp0 : 0 ≤ (PN k : Int) := by omega
      go_wp2
      go_round
      case rel => exact ⟨k + 1, q + PN k, by omega, by go_num, by go_num, hq2, Lib.hid (by rw [HQ.out]; rfl)⟩
      case measure => simp [intOf]; omega
    · obtain rfl : k = m := by omega
      go_wp2_with fail
      refine (grow_any w q (by omega)).mono ?_
      rintro e w1 ⟨v1, rfl, hown1, hbel1⟩
      have HO1 := Lib.hid hown1
      have HB1 := Lib.hid hbel1
      clear hown1 hbel1
      go_wp2_with fail
      go_loopw [6, 27] (fun v i wr => ∃ j n : Nat, j ≤ k ∧ i = .int .i64 (j : Int) ∧ Hid (n = lenTo PN j) ∧ Hid (OwnY wr w.heap.size v n (catTo PX j)) ∧ Hid (Below w.heap.size w wr)) (fun _ i _ => k - (intOf i).toNat)
      case atStart => exact ⟨0, 0, by omega, rfl, Lib.hid rfl, HO1, HB1⟩
      case round =>
        clear HO1 HB1
        obtain ⟨j, n, hj, rfl, HN, HO, HB⟩ := hrel
        have hsz : w.heap.size ≤ wr.heap.size := HB.out.size
        by_cases hlt2 : j < k
        · obtain ⟨b, off, rfl, hbb, hc0⟩ := HX.out.at_ hlt2
          have hc : wr.cell? ⟨b, off + j, none⟩ = some (.slice (PA j) (PN j) (PC j)) := (HB.out.cell (p := ⟨b, off + j, none⟩) hbb).trans hc0
          have HP : Hid (RdY wr w.heap.size (PA j) (PN j) (PX j)) := Lib.hid ((HX.out.2 j hlt2).1.below HB.out)
          have hn2 : n + PN j ≤ 549755813888 := by
            have h1 := lenTo_le PN k (j + 1) (by omega)
            have h2 := HN.out
            have h3 : lenTo PN (j + 1) = lenTo PN j + PN j := rfl
            omega
          clear hc0
          go_wp2_with (at_builtin; refine wplY_apps rfl _ _ rfl w.heap.size _ n _ rfl HO.out w.heap.size (PA j) (PN j) (PC j) (PX j) rfl HP.out (by omega) hsz ?_; intro v' w2 hown2 hg2 hat2)
          have HO2 := Lib.hid hown2
          have HB2 : Hid (Below w.heap.size w w2) := Lib.hid (HB.out.grown hg2 hsz HO.out.ge)
          clear hown2 hg2 hat2
          go_wp2
          go_roundw
          case rel => exact ⟨j + 1, n + PN j, by omega, by go_num, Lib.hid (by rw [HN.out]; rfl), HO2, HB2⟩
          case measure => simp [intOf]; omega
        · obtain rfl : j = k := by omega
          go_wp2
          go_ret
          exact ⟨_, rfl, by rw [← HN.out]; exact HO.out, HB.out⟩
end Go.Proofs.Ytadajkgiijpakaa
