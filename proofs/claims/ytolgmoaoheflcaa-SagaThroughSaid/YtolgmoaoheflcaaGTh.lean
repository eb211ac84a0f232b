/-
 SagaThrough: the closure 'take', plain facts (printed by gengl3.py).
-/
import Derived.Test.YtolgmoaoheflcaaGAn
import Derived.Test.YtolgmoaoheflcaaGRe
namespace Go.Proofs.Ytolgmoaoheflcaa.Sa
open Go.RowKit
open DiP
set_option linter.unusedVariables false
set_option linter.unusedSimpArgs false
set_option maxRecDepth 10000
set_option maxHeartbeats 8000000 in
theorem take1_any {w : World} {B sb : Nat} {num ph : Int} {A1 A2 A3 A4 A5 A6 : Option Addr} {n1 n2 n3 n4 n5 n6 c1 c2 c3 c4 c5 c6 : Nat} {kd sp : Int} {BF BT BS BE : Option Addr} {mF mT mS mE dF dT dS dE : Nat} {s : StV} {r : RcV} (hbox : w.heap[sb]? = some (.cells #[.int .i64 num, .int .i64 ph, .slice A1 n1 c1, .slice A2 n2 c2, .slice A3 n3 c3, .slice A4 n4 c4, .slice A5 n5 c5, .slice A6 n6 c6] 31 (0, 0))) (hs : StO w 0 num ph A1 n1 c1 A2 n2 c2 A3 n3 c3 A4 n4 c4 A5 n5 c5 A6 n6 c6 s) (hi : InvS s) (hr : RcW w B kd sp BF mF BT mT BS mS BE mE r) (hB : B ≤ w.heap.size) (ht : takeE s r = 0) :
 Calls Try.prog 22 (#[.agg #[.int .i64 kd, .int .i64 sp, .slice BF mF dF, .slice BT mT dT, .slice BS mS dS, .slice BE mE dE]] ++ #[.pointer (some ⟨sb, 0, none⟩)]) w fun e w' => e = .returned (.bool true) ∧ w.grownBy w' (some sb) ∧ ∃ num2 ph2 B1 m1 d1 B2 m2 d2 B3 m3 d3 B4 m4 d4 B5 m5 d5 B6 m6 d6, w'.heap[sb]? = some (.cells #[.int .i64 num2, .int .i64 ph2, .slice B1 m1 d1, .slice B2 m2 d2, .slice B3 m3 d3, .slice B4 m4 d4, .slice B5 m5 d5, .slice B6 m6 d6] 31 (0, 0)) ∧ StO w' 0 num2 ph2 B1 m1 d1 B2 m2 d2 B3 m3 d3 B4 m4 d4 B5 m5 d5 B6 m6 d6 (takeS s r) := by
 obtain ⟨W, HW⟩ : ∃ W, Hid (W = w.alloc (.cells #[.int .i64 kd, .int .i64 sp, .slice BF mF dF, .slice BT mT dT, .slice BS mS dS, .slice BE mE dE] 33)) := ⟨_, Lib.hid rfl⟩
 have hbl : Below w.heap.size w W := by rw [HW.out]; exact (Below.refl _ w).alloc (Nat.le_refl _) _
 have H0 : Hid (W.heap[w.heap.size]? = some (.cells #[.int .i64 kd, .int .i64 sp, .slice BF mF dF, .slice BT mT dT, .slice BS mS dS, .slice BE mE dE] 33 (0, 0))) := Lib.hid (by rw [HW.out]; exact heap_new w _)
 have HBX : Hid (W.heap[sb]? = some (.cells #[.int .i64 num, .int .i64 ph, .slice A1 n1 c1, .slice A2 n2 c2, .slice A3 n3 c3, .slice A4 n4 c4, .slice A5 n5 c5, .slice A6 n6 c6] 31 (0, 0))) := Lib.hid ((hbl.block _ (heapE_lt hbox)).trans hbox)
 have HSLT : Hid (sb < w.heap.size) := Lib.hid (heapE_lt hbox)
 have HBL := Lib.hid hbl
 have HC := Lib.hid (take_any (dF := dF) (dT := dT) (dS := dS) (dE := dE) (hs.kept hbl) hi (hr.below (hbl.mono hB)) (Nat.le_trans hB hbl.size))
 rw [ht] at HC
 clear hbox hs hr hbl
 obtain ⟨x0, x1, x2, x3, x4, x5, x6, x7⟩ := row8 HBX.out
 obtain ⟨y0, y1, y2, y3, y4, y5⟩ := row6 H0.out
 show Calls Try.prog 22 #[.agg #[.int .i64 kd, .int .i64 sp, .slice BF mF dF, .slice BT mT dT, .slice BS mS dS, .slice BE mE dE], .pointer (some ⟨sb, 0, none⟩)] w _
 go_enter Try.func22, Try.ntmps22
 go_upto_region 1 with fail
 change Code.wp _ _ _ _ (w.alloc (.cells #[.int .i64 kd, .int .i64 sp, .slice BF mF dF, .slice BT mT dT, .slice BS mS dS, .slice BE mE dE] 33))
 rw [← HW.out]
 go_wp2_with fail
 refine HC.out.mono ?_
 rintro e w3 ⟨hb, ⟨hne, _⟩ | ⟨_, num2, ph2, B1, m1, d1, B2, m2, d2, B3, m3, d3, B4, m4, d4, B5, m5, d5, B6, m6, d6, rfl, hst⟩⟩
 ·exact absurd rfl hne
 have hkb : Below w3.heap.size w3 (w3.alloc (.cells #[.int .i64 num2, .int .i64 ph2, .slice B1 m1 d1, .slice B2 m2 d2, .slice B3 m3 d3, .slice B4 m4 d4, .slice B5 m5 d5, .slice B6 m6 d6] 31)) := (Below.refl _ w3).alloc (Nat.le_refl _) _
 obtain ⟨Y3, HY3⟩ : ∃ Y, Hid (Y = w3.alloc (.cells #[.int .i64 num2, .int .i64 ph2, .slice B1 m1 d1, .slice B2 m2 d2, .slice B3 m3 d3, .slice B4 m4 d4, .slice B5 m5 d5, .slice B6 m6 d6] 31)) := ⟨_, Lib.hid rfl⟩
 rw [← HY3.out] at hkb
 have hb3 : Below W.heap.size W Y3 := hb.trans (hkb.mono hb.size)
 have HB3 := Lib.hid (HBL.out.trans (hb3.mono HBL.out.size))
 have HR3 : Hid (Y3.heap[sb]? = some (.cells #[.int .i64 num, .int .i64 ph, .slice A1 n1 c1, .slice A2 n2 c2, .slice A3 n3 c3, .slice A4 n4 c4, .slice A5 n5 c5, .slice A6 n6 c6] 31 (0, 0))) := Lib.hid ((hb3.block _ (heapE_lt HBX.out)).trans HBX.out)
 have HX3 : Hid (Y3.heap[w3.heap.size]? = some (.cells #[.int .i64 num2, .int .i64 ph2, .slice B1 m1 d1, .slice B2 m2 d2, .slice B3 m3 d3, .slice B4 m4 d4, .slice B5 m5 d5, .slice B6 m6 d6] 31 (0, 0))) := Lib.hid (by rw [HY3.out]; exact heap_new w3 _)
 have HS3 := Lib.hid ((hst.less (Nat.zero_le _)).kept hkb)
 clear hb hb3 hkb hst x0 x1 x2 x3 x4 x5 x6 x7 y0 y1 y2 y3 y4 y5 HC
 obtain ⟨Y5, HY5⟩ : ∃ Y, Hid (Y = set8 Y3 sb (.int .i64 num2) (.int .i64 ph2) (.slice B1 m1 d1) (.slice B2 m2 d2) (.slice B3 m3 d3) (.slice B4 m4 d4) (.slice B5 m5 d5) (.slice B6 m6 d6)) := ⟨_, Lib.hid rfl⟩
 have hot : ∀ k, k < Y3.heap.size → k ≠ sb → Y5.heap[k]? = Y3.heap[k]? := fun k _ hne => by rw [HY5.out]; exact set8_other hne
 have HR5 : Hid (Y5.heap[sb]? = some (.cells #[.int .i64 num2, .int .i64 ph2, .slice B1 m1 d1, .slice B2 m2 d2, .slice B3 m3 d3, .slice B4 m4 d4, .slice B5 m5 d5, .slice B6 m6 d6] 31 (0, 0))) := Lib.hid (by rw [HY5.out]; exact set8_same HR3.out)
 have HS5 := Lib.hid (HS3.out.apart HR3.out (by decide) (by decide) (by decide) hot)
 have hb0 : Below 0 Y3 Y5 := by rw [HY5.out]; exact set8_below (Below.refl 0 Y3) (Nat.zero_le _)
 have HGR : Hid (w.grownBy Y5 (some sb)) := Lib.hid ⟨hb0.os.trans HB3.out.os, hb0.tape.trans HB3.out.tape, hb0.output.trans HB3.out.output, Nat.le_trans HB3.out.size hb0.size, fun k hk hne => (hot k (Nat.lt_of_lt_of_le hk HB3.out.size) (fun e => hne (by rw [e]))).trans (HB3.out.block k hk)⟩
 obtain ⟨x0, x1, x2, x3, x4, x5, x6, x7⟩ := row8 HX3.out
 obtain ⟨y0, y1, y2', y3, y4, y5, y6, y7⟩ := row8 HR3.out
 have yf := free_row HR3.out
 clear hot hb0
 go_upto_region 2 with fail
 change Code.wp _ _ _ _ (w3.alloc (.cells #[.int .i64 num2, .int .i64 ph2, .slice B1 m1 d1, .slice B2 m2 d2, .slice B3 m3 d3, .slice B4 m4 d4, .slice B5 m5 d5, .slice B6 m6 d6] 31))
 rw [← HY3.out]
 go_upto_region 4 with fail
 change Code.wp _ _ _ _ (set8 Y3 sb (.int .i64 num2) (.int .i64 ph2) (.slice B1 m1 d1) (.slice B2 m2 d2) (.slice B3 m3 d3) (.slice B4 m4 d4) (.slice B5 m5 d5) (.slice B6 m6 d6))
 rw [← HY5.out]
 clear x0 x1 x2 x3 x4 x5 x6 x7 y0 y1 y2' y3 y4 y5 y6 y7 yf
 go_wp2_with fail
 exact bodyPost_ret (results_tmp rfl _ _ _) rfl ⟨rfl, HGR.out, num2, ph2, B1, m1, d1, B2, m2, d2, B3, m3, d3, B4, m4, d4, B5, m5, d5, B6, m6, d6, HR5.out, HS5.out⟩
theorem enters_t1 : ∀ args w, (callFunc 22 args).run Try.prog w = .ok (.enter 22 args) w := enters_of Try.func22 (by kernel_rfl) rfl
/-- How much was done: each step counts twice, at its intent and when it is done. -/
def measS (s : StV) : Nat := s.op.length + 2 * s.dn.length
theorem without_len {l : List Int} {x : Int} (hn : l.Nodup) (hx : x ∈ l) : (withoutL l x).length + 1 = l.length := by
 have e : withoutL l x = l.erase x := by
  rw [hn.erase_eq_filter]
  unfold withoutL
  apply List.filter_congr
  intro y _
  by_cases h : y = x <;> simp [h]
 rw [e, List.length_erase_of_mem hx]
 have := List.length_pos_of_mem hx
 omega
theorem InvS.both {s : StV} (h : InvS s) : s.op.length + s.dn.length ≤ s.pl.S.length := by
 have := nodup_len _ _ h.nd h.rg
 rw [List.length_append] at this; exact this
def OkR (s : StV) (x : Pr) : Prop := (x.1 = 2 ∧ mayB s x.2 = true) ∨ (x.1 = 3 ∧ x.2 ∈ s.op ∧ s.ph ≠ 2)
def Ph3 (s : StV) : Prop := s.ph = 1 ∨ s.ph = 2 ∨ s.ph = 3
theorem t_step {s : StV} {x : Pr} (hi : InvS s) (hp : Ph3 s) (h : OkR s x) : takeE s ⟨x.1, x.2, pl0⟩ = 0 ∧ (takeS s ⟨x.1, x.2, pl0⟩).ph = s.ph ∧ (takeS s ⟨x.1, x.2, pl0⟩).pl = s.pl ∧ measS (takeS s ⟨x.1, x.2, pl0⟩) = measS s + 1 := by
 obtain ⟨k, x⟩ := x
 rcases h with ⟨hk, hm⟩ | ⟨hk, hm, hp2⟩
 ·have hk : k = 2 := hk
  have hm : mayB s x = true := hm
  subst hk
  have hph : s.ph = 1 ∨ s.ph = 3 := by
   have := (mayB_iff.1 hm).2.2.2.1
   by_cases hl : isLastB s.pl x.toNat = true
   ·rw [if_pos hl] at this; exact .inr this
   ·rw [if_neg hl] at this; exact .inl this
  have e : takeE s ⟨2, x, pl0⟩ = 0 := by
   rcases hph with h1 | h1 <;> simp [takeE, checkI, formB, bareB, ofStepB, pl0, hearsB, h1, hm]
  refine ⟨e, ?_⟩
  unfold takeS; rw [if_pos e]
  simp [behindS, measS]
  omega
 ·have hk : k = 3 := hk
  have hm : x ∈ s.op := hm
  subst hk
  have hph : s.ph = 1 ∨ s.ph = 3 := by
   rcases hp with h | h | h
   ·exact .inl h
   ·exact absurd h hp2
   ·exact .inr h
  have e : takeE s ⟨3, x, pl0⟩ = 0 := by
   have hin := inB_iff.2 hm
   rcases hph with h1 | h1 <;> simp [takeE, checkI, formB, bareB, ofStepB, pl0, hearsB, h1, hin]
  refine ⟨e, ?_⟩
  unfold takeS; rw [if_pos e]
  have hl := without_len (x := x) (List.nodup_append.1 hi.nd).1 hm
  refine ⟨by simp [behindS], by simp [behindS], ?_⟩
  show (withoutL s.op x).length + 2 * (s.dn ++ [x]).length = s.op.length + 2 * s.dn.length + 1
  rw [List.length_append, List.length_singleton]
  omega
theorem t_abort {s : StV} (hp : s.ph = 1) : takeE s ⟨5, 0, pl0⟩ = 0 ∧ takeS s ⟨5, 0, pl0⟩ = { s with ph := 2 } := by
 have e : takeE s ⟨5, 0, pl0⟩ = 0 := by simp [takeE, checkI, formB, bareB, ofStepB, pl0, hearsB, hp]
 refine ⟨e, ?_⟩
 unfold takeS; rw [if_pos e]
 simp [behindS]
theorem t_mark {s : StV} (hm : marksB s = true) : takeE s ⟨7, 0, pl0⟩ = 0 ∧ takeS s ⟨7, 0, pl0⟩ = { s with ph := 3 } := by
 have hp : s.ph = 1 := by
  unfold marksB at hm
  simp only [Bool.and_eq_true, decide_eq_true_eq] at hm
  exact hm.2
 have e : takeE s ⟨7, 0, pl0⟩ = 0 := by simp [takeE, checkI, formB, bareB, ofStepB, pl0, hearsB, hp, hm]
 refine ⟨e, ?_⟩
 unfold takeS; rw [if_pos e]
 simp [behindS]
theorem t_undo {s : StV} {x : Int} (hi : InvS s) (ht : topO s = some x) : takeE s ⟨6, x, pl0⟩ = 0 ∧ (takeS s ⟨6, x, pl0⟩).ph = 2 ∧ (takeS s ⟨6, x, pl0⟩).pl = s.pl ∧ (takeS s ⟨6, x, pl0⟩).op.length + (takeS s ⟨6, x, pl0⟩).dn.length + 1 = s.op.length + s.dn.length := by
 obtain ⟨hp, hc⟩ := topO_cases ht
 have e : takeE s ⟨6, x, pl0⟩ = 0 := by simp [takeE, checkI, formB, bareB, ofStepB, pl0, hearsB, hp, ht]
 refine ⟨e, ?_⟩
 unfold takeS; rw [if_pos e]
 have hnd := hi.nd
 rcases hc with ⟨d, hd⟩ | ⟨ho, d, hd⟩
 ·have hx : x ∈ s.op := by rw [hd]; simp
  have hx2 : x ∉ s.dn := fun h => (List.nodup_append.1 hnd).2.2 x hx x h rfl
  have hl := without_len (List.nodup_append.1 hnd).1 hx
  simp [behindS, hp, without_no hx2]
  omega
 ·have hx : x ∈ s.dn := by rw [hd]; simp
  have hl := without_len (List.nodup_append.1 hnd).2.1 hx
  have hw : withoutL s.op x = [] := by rw [ho]; rfl
  have hw2 : withoutL [] x = [] := rfl
  simp [behindS, hp, hw2, ho]
  omega
theorem t_end {s : StV} (h : endsB s = true) (hp : s.ph = 2 ∨ s.ph = 3) : takeE s ⟨8, 0, pl0⟩ = 0 ∧ (takeS s ⟨8, 0, pl0⟩).ph = (if s.ph = 2 then 5 else 4) := by
 have e : takeE s ⟨8, 0, pl0⟩ = 0 := by
  rcases hp with h1 | h1 <;> simp [takeE, checkI, formB, bareB, ofStepB, pl0, hearsB, h1, h]
 refine ⟨e, ?_⟩
 unfold takeS; rw [if_pos e]
 simp [behindS]
theorem topO_some {s : StV} (hp : s.ph = 2) (h : 0 < s.op.length + s.dn.length) : ∃ x, topO s = some x := by
 unfold topO
 rw [if_pos hp]
 by_cases ho : s.op = []
 ·rw [if_pos ho]
  rw [ho] at h
  have : s.dn ≠ [] := fun e => by rw [e] at h; simp at h
  exact ⟨_, List.getLast?_eq_some_getLast this⟩
 ·rw [if_neg ho]
  exact ⟨_, List.getLast?_eq_some_getLast ho⟩
theorem t_begin {p : PlV} (h : takeE st0 ⟨1, 0, p⟩ = 0) : (takeS st0 ⟨1, 0, p⟩).ph = 1 ∧ (takeS st0 ⟨1, 0, p⟩).pl = p ∧ measS (takeS st0 ⟨1, 0, p⟩) = 0 := by
 unfold takeS; rw [if_pos h]; exact ⟨rfl, rfl, rfl⟩
def rcF (x : Pr) : List Value := [.int .i64 x.1, .int .i64 x.2, .slice none 0 0, .slice none 0 0, .slice none 0 0, .slice none 0 0]
theorem infoRc : (Try.prog.info? 33).map (fun i => (i.zero, i.size, i.bytes)) = some (some (.agg #[.int .i64 0, .int .i64 0, .slice none 0 0, .slice none 0 0, .slice none 0 0, .slice none 0 0]), 6, 112) := by kernel_rfl
theorem wplF_oneR {w : World} {ops : Array Oper} {rest : List Oper} {o : Oper} {a : Act} {Q : Exit → Act → World → Prop} (hgd : o.guard = none) (s x : Operand)
  (ho : o.op = .call { callee := .builtin .append, args := #[s, x], argTypes := #[22, 22] })
  (base : Nat) (v : Value) (l : List Pr) (hs : a.eval s = v) (hown : OwnF 33 6 rcF w base v l)
  (g d : Nat) (y : Pr) (hx : a.eval x = .slice (some ⟨g, 0, none⟩) 1 d) (hc : w.heap[g]? = some (.cells (rcF y).toArray 33 (0, 0))) (hn : l.length + 1 ≤ 1000000000) (hbase : base ≤ w.heap.size)
  (h : ∀ A' n' c' w', OwnF 33 6 rcF w' base (.slice A' n' c') (l ++ [y]) → w.grownBy w' v.ownBlock → wpList Try.prog ops Q rest (a.put o.dst (.slice A' n' c')) w') :
  wpList Try.prog ops Q (o :: rest) a w := by
 refine wplF_appA (f := rcF) (fun _ => rfl) (fun x u hu => by simp [rcF] at hu; rcases hu with rfl | rfl | rfl <;> rfl) Try.underlying22 infoRc rfl (by decide) (by decide) hgd s x ho base v l hs hown ⟨g, 0, none⟩ 1 d [y] hx rfl ?_ hn hbase ?_
 ·intro j u hu
  rw [addr_add, Nat.zero_add]
  refine cells_of hc j u ?_
  simpa using hu
 ·intro v' w' ho' hg _
  obtain ⟨A', c', hv⟩ := ho'.shape
  subst hv
  exact h _ _ _ w' ho' hg
theorem flat_rc : ∀ (l : List Pr) (j i : Nat), j < l.length → i < 6 → (l.flatMap rcF)[j * 6 + i]? = (rcF (l.getD j (0, 0)))[i]?
 | [], j, _, h, _ => absurd h (by simp)
 | x :: l, 0, i, _, hi => by
  rw [List.flatMap_cons, Nat.zero_mul, Nat.zero_add, List.getElem?_append_left (by exact hi)]; rfl
 | x :: l, j + 1, i, h, hi => by
  rw [List.flatMap_cons, List.getElem?_append_right (by show 6 ≤ (j + 1) * 6 + i; omega)]
  have e : (j + 1) * 6 + i - (rcF x).length = j * 6 + i := by show (j + 1) * 6 + i - 6 = _; omega
  rw [e, flat_rc l j i (by simpa using h) hi]; rfl
theorem OwnF.cellR {w : World} {base n c : Nat} {A : Option Addr} {l : List Pr} (h : OwnF 33 6 rcF w base (.slice A n c) l) {j : Nat} (hj : j < n) : ∃ b, A = some ⟨b, 0, none⟩ ∧ b < w.heap.size ∧ w.cell? ⟨b, j * 6, none⟩ = some (.int .i64 (pAt l j).1) ∧ w.cell? ⟨b, j * 6 + 1, none⟩ = some (.int .i64 (pAt l j).2) ∧ w.cell? ⟨b, j * 6 + 2, none⟩ = some (.slice none 0 0) ∧ w.cell? ⟨b, j * 6 + 3, none⟩ = some (.slice none 0 0) ∧ w.cell? ⟨b, j * 6 + 4, none⟩ = some (.slice none 0 0) ∧ w.cell? ⟨b, j * 6 + 5, none⟩ = some (.slice none 0 0) := by
 obtain ⟨hl, hc⟩ := OwnF.cellsA (f := rcF) (z := 6) (fun _ => rfl) h
 obtain ⟨b, e, hb, hcc⟩ := hc (by omega)
 have k : ∀ i u, i < 6 → (rcF (l.getD j (0, 0)))[i]? = some u → w.cell? ⟨b, j * 6 + i, none⟩ = some u := fun i u hi hu => hcc _ _ ((flat_rc l j i (by omega) hi).trans hu)
 exact ⟨b, e, hb, k 0 _ (by omega) rfl, k 1 _ (by omega) rfl, k 2 _ (by omega) rfl, k 3 _ (by omega) rfl, k 4 _ (by omega) rfl, k 5 _ (by omega) rfl⟩
theorem pAt_mem {l : List Pr} {j : Nat} (h : j < l.length) : pAt l j ∈ l := by simp [pAt, List.getD, h]
end Go.Proofs.Ytolgmoaoheflcaa.Sa
