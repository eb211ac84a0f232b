/-
  CONTRACTS: slices.Grow of nil, slices.Concat: lists of comparisons, lists of lists (printed by genrgrow.py).
-/
import Derived.Test.YtbmhjmdbolnbaaaDoorRClone
import Derived.Lib.AppendZerosOnto
namespace Go.Proofs.YtbmhjmdbolnbaaaDoor
open Go.RowKit
open SemP
set_option linter.unusedVariables false
set_option linter.unusedSimpArgs false
set_option maxRecDepth 100000
theorem wpl_growC {w : World} {ops : Array Oper} {rest : List Oper} {o : Oper} {a : Act} {Q : Exit → Act → World → Prop} (hgd : o.guard = none) (s x : Operand)
    (ho : o.op = .call { callee := .builtin .append, args := #[s, x], argTypes := #[69, 3] }) (hs : a.eval s = .slice none 0 0) (k : Nat) (hx : a.eval x = .int .i64 (k : Int)) (h0 : 0 < k) (hk : k ≤ 1000)
    (h : ∀ cap w', k ≤ cap → Below w.heap.size w w' → w.heap.size < w'.heap.size → OwnC w' w.heap.size (.slice (some ⟨w.heap.size, 0, none⟩) 0 cap) [] → wpList Tryd.prog ops Q rest (a.put o.dst (.slice (some ⟨w.heap.size, 0, none⟩) k cap)) w') :
    wpList Tryd.prog ops Q (o :: rest) a w := by
  refine wpList_plain hgd fun K hK => ?_
  obtain ⟨i0, hi, hz0, hz1, hz2⟩ := info_parts infoComp
  have hns : Builtin.nextslicecap (0 + k) 0 = k := by unfold Builtin.nextslicecap; rw [if_pos (by omega)]; omega
  have hr := Lib.run_append_grow_zeros (P := Tryd.prog) w 69 3 o.type 68 i0 _ .i64 .i64 Tryd.underlying69 Tryd.underlying3 hi hz0 none 0 0 [] (run_firstCells_none w.drew i0.size 0 0 0) k h0 (by rw [hz1]; decide) (by omega) (by omega) (by rw [hz2]; omega) (by rw [hns, hz2]; omega)
  have hge := grownCap_ge w (0 + k) 0 68
  have hcm := grownCap_le_maxLen w (0 + k) 0 68 (by unfold maxLen; omega)
  unfold Oper.wp execOp
  simp only [ho, resolve, invoke, builtin, Sem.run_bind, Sem.run_pure, Result.andThen_ok, List.map_toArray, List.map_cons, List.map_nil, hs, hx, hr]
  rw [show 0 + k = k by omega] at *
  refine hK _ _ (h _ _ hge ?_ (by simp) ?_)
  · exact ((Below.refl _ w).drew).alloc (Nat.le_refl _) _
  · refine ⟨rfl, .inr ⟨w.heap.size, _, _, rfl, Nat.le_refl _, heap_alloc_new w.drew _, Nat.zero_le _, hcm, ?_, ?_⟩⟩
    · simp only [Array.size_append, List.size_toArray, size_zeroCells, List.length_nil]
      show 0 + k * 5 + (grownCap w k 0 68 - k) * 5 = _
      omega
    · show List.take 0 _ = []
      exact List.take_zero
set_option maxHeartbeats 4000000 in
theorem GrowC_any (k : Nat) (w : World) (h0 : 0 < k) (hk : k ≤ 1000) :
    Calls Tryd.prog 88 #[.slice none 0 0, .int .i64 (k : Int)] w fun e w' => (∃ v, e = .returned v ∧ OwnC w' w.heap.size v []) ∧ Below w.heap.size w w' := by
  have d1 : decide ((k : Int) < 0) = false := decide_eq_false (by omega)
  have d2 : decide (0 < (k : Int)) = true := decide_eq_true (by omega)
  have hw : IntKind.i64.wrap ((k : Int) - 0) = (k : Int) := by rw [IntWalk.i64_in _ (by omega)]; omega
  have hw2 : IntKind.i64.wrap (k : Int) = (k : Int) := by rw [IntWalk.i64_in _ (by omega)]
  have H0 := Lib.hid (And.intro h0 hk)
  clear hk
  go_enter Tryd.func88, Tryd.ntmps88
  go_wp2_with (at_builtin; refine wpl_growC rfl (.tmp 20) (.tmp 21) rfl rfl k rfl H0.out.1 H0.out.2 ?_; intro cap w2 hcap hb hlt hown; (have HB := Lib.hid hb); (have HO := Lib.hid hown); clear hb hown)
  refine bodyPost_ret (results_tmp rfl _ _ _) rfl ⟨⟨.slice (some ⟨w.heap.size, 0, none⟩) 0 cap, rfl, HO.out⟩, HB.out⟩
theorem wpl_growL {w : World} {ops : Array Oper} {rest : List Oper} {o : Oper} {a : Act} {Q : Exit → Act → World → Prop} (hgd : o.guard = none) (s x : Operand)
    (ho : o.op = .call { callee := .builtin .append, args := #[s, x], argTypes := #[46, 3] }) (hs : a.eval s = .slice none 0 0) (k : Nat) (hx : a.eval x = .int .i64 (k : Int)) (h0 : 0 < k) (hk : k ≤ 1000)
    (h : ∀ cap w', k ≤ cap → Below w.heap.size w w' → w.heap.size < w'.heap.size → OwnV w' w.heap.size (.slice (some ⟨w.heap.size, 0, none⟩) 0 cap) [] → wpList Tryd.prog ops Q rest (a.put o.dst (.slice (some ⟨w.heap.size, 0, none⟩) k cap)) w') :
    wpList Tryd.prog ops Q (o :: rest) a w := by
  refine wpList_plain hgd fun K hK => ?_
  obtain ⟨i0, hi, hz0, hz1, hz2⟩ := info_parts infoList
  have hns : Builtin.nextslicecap (0 + k) 0 = k := by unfold Builtin.nextslicecap; rw [if_pos (by omega)]; omega
  have hr := Lib.run_append_grow_zeros (P := Tryd.prog) w 46 3 o.type 69 i0 _ .i64 .i64 Tryd.underlying46 Tryd.underlying3 hi hz0 none 0 0 [] (run_firstCells_none w.drew i0.size 0 0 0) k h0 (by rw [hz1]; decide) (by omega) (by omega) (by rw [hz2]; omega) (by rw [hns, hz2]; omega)
  have hge := grownCap_ge w (0 + k) 0 69
  have hcm := grownCap_le_maxLen w (0 + k) 0 69 (by unfold maxLen; omega)
  unfold Oper.wp execOp
  simp only [ho, resolve, invoke, builtin, Sem.run_bind, Sem.run_pure, Result.andThen_ok, List.map_toArray, List.map_cons, List.map_nil, hs, hx, hr]
  rw [show 0 + k = k by omega] at *
  refine hK _ _ (h _ _ hge ?_ (by simp) ?_)
  · exact ((Below.refl _ w).drew).alloc (Nat.le_refl _) _
  · refine ⟨rfl, .inr ⟨w.heap.size, _, _, rfl, Nat.le_refl _, heap_alloc_new w.drew _, Nat.zero_le _, hcm, ?_, ?_⟩⟩
    · simp only [Array.size_append, List.size_toArray, size_zeroCells, List.length_nil]
      show 0 + k * 1 + (grownCap w k 0 69 - k) * 1 = _
      omega
    · show List.take 0 _ = []
      exact List.take_zero
set_option maxHeartbeats 4000000 in
theorem GrowL_any (k : Nat) (w : World) (h0 : 0 < k) (hk : k ≤ 1000) :
    Calls Tryd.prog 89 #[.slice none 0 0, .int .i64 (k : Int)] w fun e w' => (∃ v, e = .returned v ∧ OwnV w' w.heap.size v []) ∧ Below w.heap.size w w' := by
  have d1 : decide ((k : Int) < 0) = false := decide_eq_false (by omega)
  have d2 : decide (0 < (k : Int)) = true := decide_eq_true (by omega)
  have hw : IntKind.i64.wrap ((k : Int) - 0) = (k : Int) := by rw [IntWalk.i64_in _ (by omega)]; omega
  have hw2 : IntKind.i64.wrap (k : Int) = (k : Int) := by rw [IntWalk.i64_in _ (by omega)]
  have H0 := Lib.hid (And.intro h0 hk)
  clear hk
  go_enter Tryd.func89, Tryd.ntmps89
  go_wp2_with (at_builtin; refine wpl_growL rfl (.tmp 20) (.tmp 21) rfl rfl k rfl H0.out.1 H0.out.2 ?_; intro cap w2 hcap hb hlt hown; (have HB := Lib.hid hb); (have HO := Lib.hid hown); clear hb hown)
  refine bodyPost_ret (results_tmp rfl _ _ _) rfl ⟨⟨.slice (some ⟨w.heap.size, 0, none⟩) 0 cap, rfl, HO.out⟩, HB.out⟩
theorem wpl_appLn {w : World} {ops : Array Oper} {rest : List Oper} {o : Oper} {a : Act} {Q : Exit → Act → World → Prop} (hgd : o.guard = none) (s x : Operand)
    (ho : o.op = .call { callee := .builtin .append, args := #[s, x], argTypes := #[46, 46] })
    (base : Nat) (v : Value) (l : List Value) (hs : a.eval s = v) (hown : OwnV w base v l)
    (ad : Addr) (m c : Nat) (news : List Value) (hx : a.eval x = .slice (some ad) m c) (hl : news.length = m) (hnews : ∀ j u, news[j]? = some u → w.cell? (ad.add j) = some u) (h1 : ∀ u ∈ news, u.oneCell' = true)
    (hn : l.length + m ≤ 1099511627) (hbase : base ≤ w.heap.size)
    (h : ∀ v' w', OwnV w' base v' (l ++ news) → w.grownBy w' v.ownBlock → (v'.ownBlock = v.ownBlock ∨ v'.ownBlock = some w.heap.size) → wpList Tryd.prog ops Q rest (a.put o.dst v') w') : wpList Tryd.prog ops Q (o :: rest) a w :=
  wpList_plain hgd fun K hK => oper_appL s x ho base v l hs hown ad m c news hx hl hnews h1 hn hbase (fun v' w' a1 a2 a3 => hK _ _ (h v' w' a1 a2 a3))
set_option maxHeartbeats 8000000 in
theorem ConcatC_any (A1 A2 : Option Addr) (n1 n2 c1 c2 : Nat) (l1 l2 : List CV) (g cap : Nat) (w : World) (B : Nat) (h1 : RdC w B A1 n1 l1) (h2 : RdC w B A2 n2 l2) (hB : B ≤ w.heap.size) (hg : w.heap[g]? = some (.cells #[.slice A1 n1 c1, .slice A2 n2 c2] 69 (0, 0))) (hn1 : 0 < n1 ∧ n1 ≤ 8) (hn2 : 0 < n2 ∧ n2 ≤ 8) :
    Calls Tryd.prog 67 #[.slice (some ⟨g, 0, none⟩) 2 cap] w fun e w' => (∃ v, e = .returned v ∧ OwnC w' w.heap.size v (l1 ++ l2)) ∧ Below w.heap.size w w' := by
  have hgl : g < w.heap.size := by
    rcases Nat.lt_or_ge g w.heap.size with h | h
    · exact h
    · rw [Array.getElem?_eq_none h] at hg; cases hg
  have p0 : w.cell? ⟨g, 0, none⟩ = some (.slice A1 n1 c1) := by simp [World.cell?, hg]
  have p1 : w.cell? ⟨g, 1, none⟩ = some (.slice A2 n2 c2) := by simp [World.cell?, hg]
  have a1 : IntKind.i64.wrap (0 + (n1 : Int)) = (n1 : Int) := by rw [IntWalk.i64_in _ (by omega)]; omega
  have a1' : IntKind.i64.wrap (n1 : Int) = (n1 : Int) := by rw [IntWalk.i64_in _ (by omega)]
  have a2 : IntKind.i64.wrap ((n1 : Int) + (n2 : Int)) = ((n1 + n2 : Nat) : Int) := by rw [IntWalk.i64_in _ (by omega)]; omega
  have d1 : decide ((n1 : Int) < 0) = false := decide_eq_false (by omega)
  have d2 : decide (((n1 + n2 : Nat) : Int) < 0) = false := decide_eq_false (by omega)
  have d3 : decide ((n1 : Int) + (n2 : Int) < 0) = false := decide_eq_false (by omega)
  have HGW := Lib.hid (GrowC_any (n1 + n2) w (by omega) (by omega))
  rw [show ((n1 + n2 : Nat) : Int) = (n1 : Int) + (n2 : Int) by omega] at HGW
  have HN := Lib.hid (And.intro hn1 hn2)
  have HG := Lib.hid (And.intro hg hgl)
  have HS := Lib.hid (And.intro h1 (And.intro h2 hB))
  clear h1 h2 hB
  clear hg hgl hn1 hn2
  go_enter Tryd.func67, Tryd.ntmps67
  go_wp2
  refine wp_loop_rounds 3 ?_
  rw [rounds_succ]
  go_wp2
  rw [rounds_succ]
  go_wp2
  rw [rounds_succ]
  go_wp2_with fail
  refine HGW.out.mono ?_
  rintro e w2 ⟨⟨v2, rfl, ho⟩, hb⟩
  have HO2 := Lib.hid ho
  have HB2 := Lib.hid hb
  have q0 := (hb.cell (p := ⟨g, 0, none⟩) HG.out.2).trans p0
  have q1 := (hb.cell (p := ⟨g, 1, none⟩) HG.out.2).trans p1
  have HQ1 := Lib.hid q1
  have HGL2 : Hid (g < w2.heap.size) := Lib.hid (Nat.lt_of_lt_of_le HG.out.2 hb.size)
  clear ho hb HGW p0 p1 a1 a1' a2 d1 d2 d3
  go_wp2
  refine wp_loop_rounds 3 ?_
  rw [rounds_succ]
  go_wp2_with (at_builtin; refine wpl_appCn rfl (.tmp 31) (.tmp 32) rfl w.heap.size v2 [] rfl HO2.out B A1 n1 c1 l1 rfl (HS.out.1.below (HB2.out.mono HS.out.2.2)) HN.out.1.1 (by have := HN.out; simp; omega) HB2.out.size ?_; intro v3 w3 hown3 hgr3 hat3; (have HO3 := Lib.hid hown3); (have HGR3 := Lib.hid hgr3); (have q1' : w3.cell? ⟨g, 1, none⟩ = some (.slice A2 n2 c2) := (World.cell?_of_block (hgr3.block g HGL2.out (fun e => by have h := own_ge HO2.out g e.symm; have := HG.out.2; omega))).trans HQ1.out); clear hown3 hgr3 hat3)
  have HB3 : Hid (Below w.heap.size w w3) := Lib.hid (HB2.out.grown HGR3.out HB2.out.size (fun g hg => own_ge HO2.out g hg))
  rw [rounds_succ]
  go_wp2_with (at_builtin; refine wpl_appCn rfl (.tmp 31) (.tmp 32) rfl w.heap.size v3 _ rfl HO3.out B A2 n2 c2 l2 rfl (HS.out.2.1.below (HB3.out.mono HS.out.2.2)) HN.out.2.1 (by have := HN.out; have := HS.out.1.1; simp; omega) HB3.out.size ?_; intro v4 w4 hown4 hgr4 hat4; (have HO4 := Lib.hid hown4); (have HGR4 := Lib.hid hgr4); clear hown4 hgr4 hat4)
  have HB4 : Hid (Below w.heap.size w w4) := Lib.hid (HB3.out.grown HGR4.out HB3.out.size (fun g hg => own_ge HO3.out g hg))
  rw [rounds_succ]
  go_wp2
  refine bodyPost_ret (results_tmp rfl _ _ _) rfl ⟨⟨v4, rfl, by simpa using HO4.out⟩, HB4.out⟩
set_option maxHeartbeats 8000000 in
theorem ConcatL_any (b1 o1 b2 o2 : Nat) (n1 n2 c1 c2 : Nat) (vs1 vs2 : List Value) (g cap : Nat) (w : World) (h1 : ∀ j u, vs1[j]? = some u → w.cell? (Addr.add ⟨b1, o1, none⟩ j) = some u ∧ (Addr.add ⟨b1, o1, none⟩ j).block < w.heap.size) (h2 : ∀ j u, vs2[j]? = some u → w.cell? (Addr.add ⟨b2, o2, none⟩ j) = some u ∧ (Addr.add ⟨b2, o2, none⟩ j).block < w.heap.size) (hl1 : vs1.length = n1) (hl2 : vs2.length = n2) (ho1 : ∀ u ∈ vs1, u.oneCell' = true) (ho2 : ∀ u ∈ vs2, u.oneCell' = true) (hg : w.heap[g]? = some (.cells #[.slice (some ⟨b1, o1, none⟩) n1 c1, .slice (some ⟨b2, o2, none⟩) n2 c2] 46 (0, 0))) (hn1 : 0 < n1 ∧ n1 ≤ 8) (hn2 : 0 < n2 ∧ n2 ≤ 8) :
    Calls Tryd.prog 68 #[.slice (some ⟨g, 0, none⟩) 2 cap] w fun e w' => (∃ v, e = .returned v ∧ OwnV w' w.heap.size v (vs1 ++ vs2)) ∧ Below w.heap.size w w' := by
  have hgl : g < w.heap.size := by
    rcases Nat.lt_or_ge g w.heap.size with h | h
    · exact h
    · rw [Array.getElem?_eq_none h] at hg; cases hg
  have p0 : w.cell? ⟨g, 0, none⟩ = some (.slice (some ⟨b1, o1, none⟩) n1 c1) := by simp [World.cell?, hg]
  have p1 : w.cell? ⟨g, 1, none⟩ = some (.slice (some ⟨b2, o2, none⟩) n2 c2) := by simp [World.cell?, hg]
  have a1 : IntKind.i64.wrap (0 + (n1 : Int)) = (n1 : Int) := by rw [IntWalk.i64_in _ (by omega)]; omega
  have a1' : IntKind.i64.wrap (n1 : Int) = (n1 : Int) := by rw [IntWalk.i64_in _ (by omega)]
  have a2 : IntKind.i64.wrap ((n1 : Int) + (n2 : Int)) = ((n1 + n2 : Nat) : Int) := by rw [IntWalk.i64_in _ (by omega)]; omega
  have d1 : decide ((n1 : Int) < 0) = false := decide_eq_false (by omega)
  have d2 : decide (((n1 + n2 : Nat) : Int) < 0) = false := decide_eq_false (by omega)
  have d3 : decide ((n1 : Int) + (n2 : Int) < 0) = false := decide_eq_false (by omega)
  have HGW := Lib.hid (GrowL_any (n1 + n2) w (by omega) (by omega))
  rw [show ((n1 + n2 : Nat) : Int) = (n1 : Int) + (n2 : Int) by omega] at HGW
  have HN := Lib.hid (And.intro hn1 hn2)
  have HG := Lib.hid (And.intro hg hgl)
  have HS := Lib.hid (And.intro h1 (And.intro h2 (And.intro hl1 (And.intro hl2 (And.intro ho1 ho2)))))
  clear h1 h2 hl1 hl2 ho1 ho2
  clear hg hgl hn1 hn2
  go_enter Tryd.func68, Tryd.ntmps68
  go_wp2
  refine wp_loop_rounds 3 ?_
  rw [rounds_succ]
  go_wp2
  rw [rounds_succ]
  go_wp2
  rw [rounds_succ]
  go_wp2_with fail
  refine HGW.out.mono ?_
  rintro e w2 ⟨⟨v2, rfl, ho⟩, hb⟩
  have HO2 := Lib.hid ho
  have HB2 := Lib.hid hb
  have q0 := (hb.cell (p := ⟨g, 0, none⟩) HG.out.2).trans p0
  have q1 := (hb.cell (p := ⟨g, 1, none⟩) HG.out.2).trans p1
  have HQ1 := Lib.hid q1
  have HGL2 : Hid (g < w2.heap.size) := Lib.hid (Nat.lt_of_lt_of_le HG.out.2 hb.size)
  clear ho hb HGW p0 p1 a1 a1' a2 d1 d2 d3
  go_wp2
  refine wp_loop_rounds 3 ?_
  rw [rounds_succ]
  go_wp2_with (at_builtin; refine wpl_appLn rfl (.tmp 31) (.tmp 32) rfl w.heap.size v2 [] rfl HO2.out ⟨b1, o1, none⟩ n1 c1 vs1 rfl HS.out.2.2.1 (fun j u hj => (HB2.out.cell (HS.out.1 j u hj).2).trans (HS.out.1 j u hj).1) HS.out.2.2.2.2.1 (by have := HN.out; simp; omega) HB2.out.size ?_; intro v3 w3 hown3 hgr3 hat3; (have HO3 := Lib.hid hown3); (have HGR3 := Lib.hid hgr3); (have q1' : w3.cell? ⟨g, 1, none⟩ = some (.slice (some ⟨b2, o2, none⟩) n2 c2) := (World.cell?_of_block (hgr3.block g HGL2.out (fun e => by have h := own_ge HO2.out g e.symm; have := HG.out.2; omega))).trans HQ1.out); clear hown3 hgr3 hat3)
  have HB3 : Hid (Below w.heap.size w w3) := Lib.hid (HB2.out.grown HGR3.out HB2.out.size (fun g hg => own_ge HO2.out g hg))
  rw [rounds_succ]
  go_wp2_with (at_builtin; refine wpl_appLn rfl (.tmp 31) (.tmp 32) rfl w.heap.size v3 _ rfl HO3.out ⟨b2, o2, none⟩ n2 c2 vs2 rfl HS.out.2.2.2.1 (fun j u hj => (HB3.out.cell (HS.out.2.1 j u hj).2).trans (HS.out.2.1 j u hj).1) HS.out.2.2.2.2.2 (by have := HN.out; have := HS.out.2.2.1; simp; omega) HB3.out.size ?_; intro v4 w4 hown4 hgr4 hat4; (have HO4 := Lib.hid hown4); (have HGR4 := Lib.hid hgr4); clear hown4 hgr4 hat4)
  have HB4 : Hid (Below w.heap.size w w4) := Lib.hid (HB3.out.grown HGR4.out HB3.out.size (fun g hg => own_ge HO3.out g hg))
  rw [rounds_succ]
  go_wp2
  refine bodyPost_ret (results_tmp rfl _ _ _) rfl ⟨⟨v4, rfl, by simpa using HO4.out⟩, HB4.out⟩
end Go.Proofs.YtbmhjmdbolnbaaaDoor
