/-
 MERGED: DQue DFrom DCirc.
-/
import Derived.Test.YtminihiecloglaaGreatDLev
import Derived.ArgAppend
import Derived.Deep.LoopGhost
import Derived.Deep.DeepCutAuto
set_option linter.unusedVariables false
set_option linter.unusedSimpArgs false
namespace Go.Proofs.YtminihiecloglaaGreat
open Go.RowKit
open DiP
def OwnQ (w : World) (base : Nat) (v : Value) (l : List Int) : Prop :=
 ∃ g off c cur, v = .slice (some ⟨g, off, none⟩) l.length c ∧ base ≤ g ∧ w.heap[g]? = some (.cells cur 3 (0, 0)) ∧ l.length ≤ c ∧ c ≤ maxLen ∧ off + c ≤ cur.size ∧ ∀ j, j < l.length → cur[off + j]? = some (.int .i64 (ix l j))
section
variable {w w' : World} {base g off c : Nat} {v : Value} {l : List Int}
theorem cell_of_heap {cur : Array Value} {T : TypeId} {i : Nat} {x : Value} (h : w.heap[g]? = some (.cells cur T (0, 0))) (hc : cur[i]? = some x) : w.cell? ⟨g, i, none⟩ = some x := by
 simp [World.cell?, h, hc]
theorem free_of_heap {cur : Array Value} {T : TypeId} {i : Nat} (h : w.heap[g]? = some (.cells cur T (0, 0))) : w.frozen? ⟨g, i, none⟩ = false := by
 simp [World.frozen?, h]
theorem heap_lt {o : Obj} (h : w.heap[g]? = some o) : g < w.heap.size := by
 rcases Nat.lt_or_ge g w.heap.size with h' | h'
 ·exact h'
 ·rw [Array.getElem?_eq_none h'] at h; cases h
theorem OwnQ.of_own {n : Nat} (h : Own w base v n l) (hn : 0 < n) : OwnQ w base v l := by
 have hl := h.len
 rcases h.2 with ⟨_, h0⟩ | ⟨g, cap, cur, rfl, hb, hg, hnc, hcm, hcs, ht⟩
 ·omega
 ·refine ⟨g, 0, cap, cur, by rw [hl], hb, hg, by omega, hcm, by omega, fun j hj => ?_⟩
  have h1 : (cur.toList.take (n * 1))[j]? = some (.int .i64 (ix l j)) := by rw [ht]; exact ix_map l j hj
  rw [List.getElem?_take] at h1
  split at h1
  ·rw [Nat.zero_add, ← Array.getElem?_toList]; exact h1
  ·cases h1
theorem OwnQ.alloc (h : OwnQ w base v l) (o : Obj) : OwnQ (w.alloc o) base v l := by
 obtain ⟨g, off, c, cur, hv, hb, hg, r⟩ := h
 refine ⟨g, off, c, cur, hv, hb, ?_, r⟩
 have := heap_lt hg
 rw [← hg]
 first | exact heap_alloc_old w o this | exact Go.heap_alloc_old w o g this
theorem OwnQ.drewN (h : OwnQ w base v l) (k : Nat) : OwnQ (w.drewN k) base v l := h
theorem OwnQ.far (h : OwnQ w base v l) {p : Addr} (hp : p.block < base) (u : Value) : OwnQ (w.setCell p u) base v l := by
 obtain ⟨g, off, c, cur, hv, hb, hg, r⟩ := h
 refine ⟨g, off, c, cur, hv, hb, ?_, r⟩
 rw [heap_setCell_other w p g u (by omega)]
 exact hg
theorem OwnQ.below {B : Nat} (h : OwnQ w base v l) (hb : Below B w w') (hg : ∀ g, v.ownBlock = some g → g < B) : OwnQ w' base v l := by
 obtain ⟨g, off, c, cur, rfl, hbb, hh, r⟩ := h
 refine ⟨g, off, c, cur, rfl, hbb, ?_, r⟩
 rw [hb.block g (hg g rfl)]; exact hh
theorem OwnQ.pop {x : Int} (h : OwnQ w base (.slice (some ⟨g, off, none⟩) (l.length + 1) c) (x :: l)) : OwnQ w base (.slice (some ⟨g, if c = 1 then off else off + 1, none⟩) l.length (c - 1)) l := by
 obtain ⟨g', off', c', cur, hv, hb, hg, hnc, hcm, hs, hc⟩ := h
 injection hv with e1 e2 e3
 injection e1 with e1
 injection e1 with e1 e4
 subst e1 e3 e4
 simp only [List.length_cons] at hnc hc
 by_cases h1 : c = 1
 ·have hl : l = [] := List.eq_nil_of_length_eq_zero (by omega)
  subst hl
  rw [if_pos h1]
  exact ⟨g, off, c - 1, cur, rfl, hb, hg, by simp, by omega, by omega, fun j hj => absurd hj (Nat.not_lt_zero _)⟩
 ·rw [if_neg h1]
  refine ⟨g, off + 1, c - 1, cur, rfl, hb, hg, by omega, by omega, by omega, fun j hj => ?_⟩
  have := hc (j + 1) (by omega)
  rw [show off + 1 + j = off + (j + 1) by omega, this]
  rfl
theorem ix_snoc_lt {u : Int} {j : Nat} (h : j < l.length) : ix (l ++ [u]) j = ix l j := ix_append_lt h
end
theorem setCells_one (w : World) (b o : Nat) (u : Value) : w.setCells b o [u] = w.setCell ⟨b, o, none⟩ u := rfl
theorem wpl_appQ {w : World} {ops : Array Oper} {rest : List Oper} {o : Oper} {a : Act} {Q : Exit → Act → World → Prop} (hgd : o.guard = none) (s x : Operand)
  (ho : o.op = .call { callee := .builtin .append, args := #[s, x], argTypes := #[25, 25] })
  (base : Nat) (v : Value) (l : List Int) (hs : a.eval s = v) (hown : OwnQ w base v l)
  (b : Nat) (u : Int) (hx : a.eval x = .slice (some ⟨b, 0, none⟩) 1 1) (hc : w.cell? ⟨b, 0, none⟩ = some (.int .i64 u)) (hn : l.length ≤ 1099511627776) (hbase : base ≤ w.heap.size)
  (h : ∀ v' w', OwnQ w' base v' (l ++ [u]) → w.grownBy w' v.ownBlock → wpList Tryz.prog ops Q rest (a.put o.dst v') w') :
  wpList Tryz.prog ops Q (o :: rest) a w := by
 obtain ⟨i0, hi, hz0, hz1, hz2⟩ := info_parts infoInt
 obtain ⟨g, off, c, cur, rfl, hb, hg, hnc, hcm, hsz, hcc⟩ := hown
 refine wpList_append_arg w hgd s x 25 ho 3 i0 (.int .i64 0) 1 8 Tryz.underlying25 hi hz0 hz1 hz2 rfl (by decide) g off l.length c (l.map (Value.int .i64)) hs (by simp) ?_ ⟨b, 0, none⟩ 1 1 [.int .i64 u] hx rfl ?_ ?_ ?_ (by unfold maxLen; omega) (by omega) ?_ ?_
 ·intro j z hj
  have hjl : j < l.length := by
   rcases Nat.lt_or_ge j l.length with h' | h'
   ·exact h'
   ·rw [List.getElem?_eq_none (by simpa using h')] at hj; cases hj
  rw [ix_map l j hjl] at hj
  cases hj
  exact cell_of_heap hg (hcc j hjl)
 ·intro j z hj
  match j, hj with
  | 0, hj => simp at hj; subst hj; simpa [Addr.add] using hc
 ·intro z hz; simp at hz; subst hz; rfl
 ·intro hr j hj
  have hj0 : j = 0 := by simpa using hj
  subst hj0
  refine ⟨?_, free_of_heap hg⟩
  have hlt : off + l.length * 1 + 0 < cur.size := by omega
  rw [cell_of_heap (x := cur[off + l.length * 1 + 0]) hg (Array.getElem?_eq_getElem hlt)]
  rfl
 ·intro hr
  rw [setCells_one]
  refine h _ _ ⟨g, off, c, cur.setIfInBounds (off + l.length * 1) (.int .i64 u), by simp, hb, heap_setCell_same w g _ cur 3 _ hg, by simpa using hr, hcm, by simpa using hsz, fun j hj => ?_⟩ ⟨rfl, rfl, rfl, by simp, fun k _ hk => heap_setCell_other w ⟨g, off + l.length * 1, none⟩ k _ (fun e => hk (by simp [e, Value.ownBlock]))⟩
  simp only [List.length_append, List.length_singleton] at hj
  by_cases e : j = l.length
  ·subst e
   rw [ix_snoc, Nat.mul_one, Array.getElem?_setIfInBounds, if_pos rfl, if_pos (by omega)]
  ·rw [ix_snoc_lt (by omega), Nat.mul_one, Array.getElem?_setIfInBounds, if_neg (by omega)]
   exact hcc j (by omega)
 ·intro hr v' w' hown' hgr
  have ho' : Own w' w.heap.size v' (l.length + 1) (l ++ [u]) := by unfold Own; rw [List.map_append]; exact hown'
  have := OwnQ.of_own (ho'.less hbase) (by omega)
  exact h v' w' this ⟨hgr.os, hgr.tape, hgr.output, hgr.size, fun k hk _ => hgr.block k hk nofun⟩
end Go.Proofs.YtminihiecloglaaGreat
namespace Go.Proofs.YtminihiecloglaaGreat
open Go.RowKit
open DiP
structure FrAt (wr w : World) (B gb ob N m c : Nat) (A : Option Addr) (g : List (Nat × Nat)) (f : Nat → Bool) : Prop where
 own : OwnB wr ob (.slice (some ⟨ob, 0, none⟩) N N) N (blL N f)
 box : Boxed wr gb (N : Int) A m c
 rd : RdEg wr B A m g
 bel : Below w.heap.size w wr
 l1 : gb < ob
 l2 : B ≤ gb
 l3 : w.heap.size ≤ gb
 l4 : ob < wr.heap.size
section
variable {wr w w2 : World} {B gb ob N m c : Nat} {A : Option Addr} {g : List (Nat × Nat)} {f : Nat → Bool}
theorem FrAt.grown {row : Option Nat} (h : FrAt wr w B gb ob N m c A g f) (hg : wr.grownBy w2 row) (hr : ∀ z, row = some z → ob < z) : FrAt w2 w B gb ob N m c A g f := by
 have hne : ∀ x, x ≤ ob → some x ≠ row := fun x hx e => by have := hr x e.symm; omega
 have l1 := h.l1
 have l2 := h.l2
 have l3 := h.l3
 have l4 := h.l4
 refine ⟨?_, ⟨?_, ?_⟩, ?_, h.bel.grown hg h.bel.size (fun z hz => by have := hr z hz; omega), h.l1, h.l2, h.l3, Nat.lt_of_lt_of_le h.l4 hg.size⟩
 ·refine ⟨h.own.1, ?_⟩
  rcases h.own.2 with h' | ⟨g', cap, cur, hv, hbg, hh, r⟩
  ·exact .inl h'
  ·refine .inr ⟨g', cap, cur, hv, hbg, ?_, r⟩
   have e : g' = ob := by injection hv with e1; injection e1 with e1; injection e1 with e1; exact e1.symm
   subst e
   rw [hg.block g' l4 (hne g' (Nat.le_refl _))]
   exact hh
 ·exact (World.cell?_of_block (a := ⟨gb, 0, none⟩) (hg.block gb (by omega) (hne gb (by omega)))).trans h.box.1
 ·exact (World.cell?_of_block (a := ⟨gb, 1, none⟩) (hg.block gb (by omega) (hne gb (by omega)))).trans h.box.2
 ·exact RdE.keep h.rd (fun p hp => World.cell?_of_block (hg.block p.block (by omega) (hne p.block (by omega))))
theorem FrAt.alloc (h : FrAt wr w B gb ob N m c A g f) (o : Obj) : FrAt (wr.alloc o) w B gb ob N m c A g f :=
 h.grown (row := none) ⟨rfl, rfl, rfl, by simp, fun k hk _ => by first | exact heap_alloc_old wr o hk | exact Go.heap_alloc_old wr o k hk⟩ nofun
theorem FrAt.set (h : FrAt wr w B gb ob N m c A g f) (i : Nat) (hi : i < N) : FrAt (wr.setCell ⟨ob, i, none⟩ (.bool true)) w B gb ob N m c A g (updF f i) := by
 have l1 := h.l1
 have l2 := h.l2
 have l3 := h.l3
 have l4 := h.l4
 refine ⟨?_, ⟨?_, ?_⟩, RdE.keep h.rd (fun p hp => World.cell?_setCell_other _ _ _ _ (fun e => by subst e; simp at hp; omega)), h.bel.setCell (by simp; omega) _, h.l1, h.l2, h.l3, by simpa using h.l4⟩
 ·have e : blL N (updF f i) = (blL N f).set i true := by rw [blL_set f true hi]; rfl
  rw [e]; exact h.own.store i true
 ·rw [World.cell?_setCell_other _ _ _ _ (fun e => by injection e; omega)]; exact h.box.1
 ·rw [World.cell?_setCell_other _ _ _ _ (fun e => by injection e; omega)]; exact h.box.2
theorem OwnQ.ge {v : Value} {base : Nat} {l : List Int} (h : OwnQ wr base v l) : ∀ z, v.ownBlock = some z → base ≤ z := by
 obtain ⟨g, off, c, cur, rfl, hb, _⟩ := h
 intro z hz
 simp [Value.ownBlock] at hz
 omega
end
set_option maxRecDepth 100000 in
set_option maxHeartbeats 2000000 in
theorem from_any {w : World} {B m c N a : Nat} {A : Option Addr} {g : List (Nat × Nat)} (hx : RdEg w B A m g) (hi : InN N g) (hn : N ≤ 64) (hm : m ≤ 4096) (hB : B ≤ w.heap.size) (ha : a < N) :
  Calls Tryz.prog 50 #[.agg #[.int .i64 (N : Int), .slice A m c], .int .i64 (a : Int)] w fun e w' =>
   ∃ ob, e = .returned (.slice (some ⟨ob, 0, none⟩) N N) ∧ OwnB w' w.heap.size (.slice (some ⟨ob, 0, none⟩) N N) N (blL N (fun v => bt (rchG N g a) v)) ∧ Below w.heap.size w w' := by
 have HX := Lib.hid hx
 have HI := Lib.hid hi
 have HL := Lib.hid hx.len
 have HA := Lib.hid ha
 clear hx hi
 go_enter Tryz.func50, Tryz.ntmps50
 go_wp2_with (at_make; refine wpl_makeB rfl (.tmp 11) (.tmp 11) rfl (w.heap.size + 1) N rfl rfl (by omega) (by simp) ?_; intro w1 hown1 hgr1)
 have HF1 : Hid (FrAt w1 w B w.heap.size (w.heap.size + 1) N m c A g (fun _ => false)) := Lib.hid (by
  have hb0 := boxed_alloc w (N : Int) A m c 74
  have hs : (w.alloc (.cells #[.int .i64 (N : Int), .slice A m c] 74)).heap.size = w.heap.size + 1 := by simp
  rw [blL_none] at hown1
  refine ⟨by rw [hs] at hown1; exact hown1, ⟨?_, ?_⟩, ?_, ?_, by omega, hB, Nat.le_refl _, ?_⟩
  ·exact (World.cell?_of_block (a := ⟨w.heap.size, 0, none⟩) (hgr1.block w.heap.size (by omega) nofun)).trans hb0.1
  ·exact (World.cell?_of_block (a := ⟨w.heap.size, 1, none⟩) (hgr1.block w.heap.size (by omega) nofun)).trans hb0.2
  ·exact RdE.keep (RdE.alloc HX.out hB _) (fun p hp => World.cell?_of_block (hgr1.block p.block (by omega) nofun))
  ·exact ((Below.refl _ _).alloc (Nat.le_refl _) _).grown hgr1 (by omega) nofun
  ·have := World.ownsRow.lt hown1 _ rfl |>.2; rw [hs] at this; exact this)
 clear hown1 hgr1
 generalize w.heap.size + 1 = ob at *
 go_wp2_with fail
 go_loopg [6] (togo N (fun _ => false) [a]) (fun K v wr => ∃ (f : Nat → Bool) (q : List Nat), K = togo N f q ∧ Hid (FrO g N a f q) ∧ Hid (FrAt wr w B w.heap.size ob N m c A g f) ∧ Hid (OwnQ wr (ob + 1) v (ints q)))
 case atStart =>
  refine ⟨_, [a], rfl, Lib.hid (FrO.start ha), Lib.hid (HF1.out.alloc _), Lib.hid ?_⟩
  have h := Own.lit w1 (ob + 1) [(a : Int)] HF1.out.l4 (by simp)
  exact OwnQ.of_own h (by simp)
 case round =>
  clear HF1
  obtain ⟨f, q, rfl, HO, HF, HQ⟩ := hrel
  cases q with
  | nil =>
   have hq := HQ.out
   obtain ⟨G, off, cq, cur, rfl, _⟩ := hq
   have HALL := Lib.hid (HO.out.all HI.out HA.out)
   go_wp2
   go_ret
   refine ⟨ob, rfl, ?_, HF.out.bel⟩
   have e : (fun v => bt (rchG N g a) v) = f := funext fun v => (HALL.out v).symm
   rw [e]
   have hl := HF.out.l1
   exact ⟨HF.out.own.1, HF.out.own.2.elim .inl fun ⟨g', cap, cur, hv, hb, r⟩ => .inr ⟨g', cap, cur, hv, by omega, r⟩⟩
  | cons x q =>
   have HK : Hid (togo N f q + 1 = togo N f (x :: q)) := Lib.hid (togo_pop N f x q)
   have HI0 := Lib.hid HO.out.pop
   have hlq : q.length ≤ 64 := by have := HI0.out.len; have := cf_le f N; omega
   have hxN : x < N := HO.out.inq x (List.mem_cons_self ..)
   have hq := HQ.out
   obtain ⟨G, off, cq, cur, rfl, hG, hh, hnc, hcm, hsz, hcc⟩ := hq
   have hx0 := cell_of_heap hh (hcc 0 (by simp [ints]))
   have e0 : ix (ints (x :: q)) 0 = (x : Int) := rfl
   rw [e0, Nat.add_zero] at hx0
   have hlen : (ints (x :: q)).length = q.length + 1 := by simp [ints]
   rw [hlen] at hnc HQ ⊢
   have hlq2 : (ints q).length = q.length := by simp [ints]
   have hcm' : cq ≤ 9223372036854775807 := by unfold maxLen at hcm; omega
   have HPOP : Hid (OwnQ wr (ob + 1) (.slice (some ⟨G, if cq = 1 then off else off + 1, none⟩) q.length (cq - 1)) (ints q)) := Lib.hid (by
    have h := HQ.out
    have e1 : ints (x :: q) = (x : Int) :: ints q := rfl
    rw [e1, ← hlq2] at h
    have := h.pop
    rw [hlq2] at this
    exact this)
   clear hh hcc e0 hlen hsz HQ HO
   go_upto_region 5 with fail
   go_cut [6] (fun v w' => w' = wr ∧ Hid (OwnQ wr (ob + 1) v (ints q)))
   case first =>
    by_cases h1 : cq = 1
    ·subst h1
     have hq0 : q = [] := List.eq_nil_of_length_eq_zero (by omega)
     subst hq0
     have H : Hid (OwnQ wr (ob + 1) (.slice (some ⟨G, off, none⟩) 0 0) (ints [])) := Lib.hid (by simpa using HPOP.out)
     go_wp2_with fail
     go_meet
     exact ⟨rfl, H⟩
    ·have H : Hid (OwnQ wr (ob + 1) (.slice (some ⟨G, off + 1, none⟩) q.length (cq - 1)) (ints q)) := Lib.hid (by have h := HPOP.out; rw [if_neg h1] at h; exact h)
     go_wp2_with fail
     go_meet
     exact ⟨rfl, H⟩
   case rest =>
    obtain ⟨rfl, HQ1⟩ := hcut
    clear HPOP hG hnc hcm hx0 hlq2 hcm'
    go_wp2_with fail
    obtain ⟨wo, hwo⟩ : ∃ wo : World, wo = wc := ⟨_, rfl⟩
    go_loopw [6, 8] (fun v i wr => ∃ (k : Nat) (f' : Nat → Bool) (q' : List Nat), k ≤ m ∧ i = .int .i64 (k : Int) ∧ Hid (FrI g N a f' q' x k) ∧ Hid (FrAt wr w B w.heap.size ob N m c A g f') ∧ Hid (OwnQ wr (ob + 1) v (ints q')) ∧ Hid (togo N f' q' ≤ togo N f q)) (fun _ i _ => m - (intOf i).toNat)
    case atStart => exact ⟨0, f, q, Nat.zero_le _, rfl, HI0, HF, HQ1, Lib.hid (Nat.le_refl _)⟩
    case round =>
     clear HI0 HF HQ1
     obtain ⟨k, f', q', hk, rfl, HI0, HF, HQ, HT⟩ := hrel
     obtain ⟨hbx0, hbx1⟩ := HF.out.box
     have hgb : w.heap.size < wr.heap.size := Nat.lt_trans HF.out.l1 HF.out.l4
     by_cases hlt : k < m
     ·obtain ⟨b, off, rfl, hbb, hca, hcb⟩ := HF.out.rd.at_ hlt
      obtain ⟨hfa, hfb⟩ := HI.out k (by rw [HL.out]; exact hlt)
      have hlq' : q'.length ≤ 64 := by have := HI0.out.len; have := cf_le f' N; omega
      have hx2 : (0 : Int) ≤ (fb g k : Int) := by omega
      have hx3 : (fb g k : Int) < (N : Int) := by omega
      have hbl := HF.out.own.cell (j := fb g k) hfb
      have hbf := HF.out.own.free (fb g k)
      rw [blL_bx _ hfb] at hbl
      by_cases he : fa g k = x
      ·have hE : ((fa g k : Int) == (x : Int)) = true := by rw [he]; simp
       have HE := Lib.hid he
       clear he
       cases hff : f' (fb g k) with
       | true =>
        rw [hff] at hbl
        have HN := Lib.hid (HI0.out.skip (fun _ => hff))
        clear hff
        go_wp2
        go_roundw
        case rel => exact ⟨k + 1, f', q', by omega, by go_num, HN, HF, HQ, HT⟩
        case measure => simp [intOf]; omega
       | false =>
        rw [hff] at hbl
        have HN := Lib.hid (HI0.out.push HI.out (by rw [HL.out]; exact hlt) HE.out hff)
        have HT' : Hid (togo N (updF f' (fb g k)) (q' ++ [fb g k]) ≤ togo N f q) := Lib.hid (by have := togo_push q' hff hfb; have := HT.out; omega)
        clear hff
        have hl4 := HF.out.l4
        have HCL : Hid (((wr.setCell ⟨ob, fb g k, none⟩ (.bool true)).alloc (.cells #[.int .i64 (fb g k : Int)] 3)).cell? ⟨wr.heap.size, 0, none⟩ = some (.int .i64 (fb g k : Int))) := Lib.hid (by
         have h := cell_of_heap (i := 0) (x := .int .i64 (fb g k : Int)) (heap_alloc_new (wr.setCell ⟨ob, fb g k, none⟩ (.bool true)) (.cells #[.int .i64 (fb g k : Int)] 3)) rfl
         rw [World.size_setCell] at h
         exact h)
        have HSZ : Hid (ob + 1 ≤ ((wr.setCell ⟨ob, fb g k, none⟩ (.bool true)).alloc (.cells #[.int .i64 (fb g k : Int)] 3)).heap.size) := Lib.hid (by simp; omega)
        go_wp2_with (at_builtin; refine wpl_appQ rfl (.tmp 54) (.tmp 56) rfl (ob + 1) _ (ints q') rfl ((HQ.out.far (p := ⟨ob, fb g k, none⟩) (Nat.lt_succ_self _) _).alloc _) wr.heap.size (fb g k : Int) rfl HCL.out (by rw [ints_len]; omega) HSZ.out ?_; intro v' w2 hown2 hgr2)
        rw [← ints_snoc] at hown2
        have HQ2 := Lib.hid hown2
        have HF2 : Hid (FrAt w2 w B w.heap.size ob N m c (some ⟨b, off, none⟩) g (updF f' (fb g k))) := Lib.hid (((HF.out.set (fb g k) hfb).alloc _).grown hgr2 (fun z hz => by have := HQ.out.ge z hz; omega))
        clear hown2 hgr2
        go_wp2
        go_roundw
        case rel => exact ⟨k + 1, _, _, by omega, by go_num, HN, HF2, HQ2, HT'⟩
        case measure => simp [intOf]; omega
      ·have hE : ((fa g k : Int) == (x : Int)) = false := by simp; omega
       have HN := Lib.hid (HI0.out.skip (fun e => absurd e he))
       clear he
       go_wp2
       go_roundw
       case rel => exact ⟨k + 1, f', q', by omega, by go_num, HN, HF, HQ, HT⟩
       case measure => simp [intOf]; omega
     ·obtain rfl : k = m := by omega
      have HEND : Hid (FrO g N a f' q') := Lib.hid (by have h := HI0.out; rw [← HL.out] at h; exact h.end_)
      go_wp2
      go_roundg (togo N f' q')
      case measure => have := HT.out; have := HK.out; omega
      case rel => exact ⟨f', q', rfl, HEND, HF, HQ⟩
end Go.Proofs.YtminihiecloglaaGreat
namespace Go.Proofs.YtminihiecloglaaGreat
open Go.RowKit
open DiP
namespace DiP
theorem cf_mono {f f' : Nat → Bool} (h : ∀ v, f v = true → f' v = true) : ∀ k, cf f k ≤ cf f' k := by
 intro k
 induction k with
 | zero => exact Nat.le_refl _
 | succ k ih =>
  unfold cf
  by_cases e : f k = true
  ·rw [if_pos e, if_pos (h k e)]; omega
  ·rw [if_neg e]; omega
theorem cf_less {f f' : Nat → Bool} (h : ∀ v, f v = true → f' v = true) {i : Nat} (h1 : f i = false) (h2 : f' i = true) : ∀ k, i < k → cf f k < cf f' k := by
 intro k
 induction k with
 | zero => intro hk; omega
 | succ k ih =>
  intro hk
  unfold cf
  by_cases e : i = k
  ·subst e
   have := cf_mono h i
   rw [h1, h2]; simp; omega
  ·have := ih (by omega)
   by_cases e : f k = true
   ·rw [if_pos e, if_pos (h k e)]; omega
   ·rw [if_neg e]; omega
theorem no_circle {g : List (Nat × Nat)} {n a : Nat} (hi : InN n g) (hn : n ≤ 64) (hg : Goes (befG g) n n) : ¬ Way g a a := fun h => by
 have := way_rank (fun _ _ e => levG_edge hi hn hg e) h
 omega
theorem goes_of_no_circle {g : List (Nat × Nat)} {n : Nat} (hi : InN n g) (hn : n ≤ 64) (h : ∀ a, a < n → ¬ Way g a a) : Goes (befG g) n n := by
 refine goes_of_rank hi hn (fun v => cf (fun u => bt (rchG n g u) v) n) (fun u v e => ?_)
 have hu := (e.lt hi).1
 refine cf_less (f := fun x => bt (rchG n g x) u) (f' := fun x => bt (rchG n g x) v) (i := u) (fun x hx => ?_) ?_ ?_ n hu
 ·have hxn : x < n ∨ ¬ x < n := Nat.lt_or_ge x n |>.imp id (fun h => by omega)
  rcases hxn with hxn | hxn
  ·exact (rch_way hi hxn).2 (.more ((rch_way hi hxn).1 hx) e)
  ·exfalso
   have key : ∀ k, rchK n g k x = aftG g x := by
    intro k
    induction k with
    | zero => rfl
    | succ k ih => show thrJ (rchK n g k) k n x = _; unfold thrJ; rw [if_neg (fun h => hxn h.1)]; exact ih
   have hx' : bt (rchG n g x) u = true := hx
   rw [show rchG n g x = aftG g x from key n, bt_aftG] at hx'
   exact hxn (hx'.lt hi).1
 ·cases hb : bt (rchG n g u) u with
  | false => rfl
  | true => exact absurd ((rch_way hi hu).1 hb) (h u hu)
 ·exact (rch_way hi hu).2 (.one e)
theorem circle_of {g : List (Nat × Nat)} {n : Nat} (hi : InN n g) (hn : n ≤ 64) (hg : ¬ Goes (befG g) n n) : ∃ a, a < n ∧ bt (rchG n g a) a = true := by
 apply Classical.byContradiction
 intro h
 refine hg (goes_of_no_circle hi hn fun a ha hw => h ⟨a, ha, (rch_way hi ha).2 hw⟩)
end DiP
set_option maxRecDepth 100000 in
set_option maxHeartbeats 1000000 in
theorem circle_any {w : World} {B m c N : Nat} {A : Option Addr} {g : List (Nat × Nat)} (hx : RdEg w B A m g) (hi : InN N g) (hn : N ≤ 64) (hm : m ≤ 4096) (hB : B ≤ w.heap.size) (q : Bool) (hq : q = true ↔ ¬ Goes (befG g) N N) :
  Calls Tryz.prog 47 #[.agg #[.int .i64 (N : Int), .slice A m c]] w fun e w' => e = .returned (.bool q) ∧ Below w.heap.size w w' := by
 have HX := Lib.hid hx
 have HI := Lib.hid hi
 have HL := Lib.hid hx.len
 have HQ := Lib.hid hq
 clear hx hi hq
 go_enter Tryz.func47, Tryz.ntmps47
 go_wp2_with fail
 have HW : Hid (Boxed (w.alloc (.cells #[.int .i64 (N : Int), .slice A m c] 74)) w.heap.size (N : Int) A m c ∧ Below w.heap.size w (w.alloc (.cells #[.int .i64 (N : Int), .slice A m c] 74)) ∧ w.heap.size < (w.alloc (.cells #[.int .i64 (N : Int), .slice A m c] 74)).heap.size) :=
  Lib.hid ⟨boxed_alloc _ _ _ _ _ _, (Below.refl _ _).alloc (Nat.le_refl _) _, by simp⟩
 generalize (w.alloc (.cells #[.int .i64 (N : Int), .slice A m c] 74)) = W0 at HW ⊢
 have hlt0 := HW.out.2.2
 go_loopw [3] (fun i wr => ∃ k : Nat, k ≤ N ∧ i = .int .i64 (k : Int) ∧ Hid (Below W0.heap.size W0 wr) ∧ Hid (∀ a, a < k → bt (rchG N g a) a = false)) (fun i _ => N - (intOf i).toNat)
 case atStart => exact ⟨0, Nat.zero_le _, rfl, Lib.hid (Below.refl _ _), Lib.hid (fun a h => absurd h (Nat.not_lt_zero _))⟩
 case round =>
  obtain ⟨k, hk, rfl, HR, HF⟩ := hrel
  have hszr := HR.out.size
  obtain ⟨hcn, hcs⟩ := Boxed.below HW.out.1 HR.out hlt0
  by_cases hlt : k < N
  ·have HXR := Lib.hid (HX.out.below ((HW.out.2.1.trans (HR.out.mono (by omega))).mono hB))
   go_wp2_with fail
   refine (from_any HXR.out HI.out (by omega) (by omega) (by omega) hlt).mono ?_
   rintro e w6 ⟨ob, rfl, hown, hb⟩
   have hbl := OwnB.cell hown (j := k) hlt
   rw [blL_bx _ hlt] at hbl
   have HR6 : Hid (Below W0.heap.size W0 w6) := Lib.hid (HR.out.trans (hb.mono (by omega)))
   clear hb hown hcn hcs
   cases hbt : bt (rchG N g k) k with
   | true =>
    rw [hbt] at hbl
    have HT : Hid (q = true) := Lib.hid (HQ.out.2 (fun hg => no_circle HI.out hn hg ((rch_way HI.out hlt).1 hbt)))
    clear hbt
    go_wp2
    go_ret
    exact ⟨congrArg (fun b => Ending.returned (.bool b)) HT.out.symm, HW.out.2.1.trans (HR6.out.mono (by omega))⟩
   | false =>
    rw [hbt] at hbl
    have HT : Hid (∀ a, a < k + 1 → bt (rchG N g a) a = false) := Lib.hid (fun a ha => by
     by_cases e : a = k
     ·subst e; exact hbt
     ·exact HF.out a (by omega))
    clear hbt
    go_wp2
    go_roundw
    case rel => exact ⟨k + 1, by omega, by go_num, HR6, HT⟩
    case measure => simp [intOf]; omega
  ·obtain rfl : k = N := by omega
   have HT : Hid (q = false) := Lib.hid (by
    cases hb : q with
    | false => rfl
    | true =>
     obtain ⟨a, ha, h⟩ := circle_of HI.out hn (HQ.out.1 hb)
     rw [HF.out a ha] at h; cases h)
   go_wp2
   go_ret
   exact ⟨congrArg (fun b => Ending.returned (.bool b)) HT.out.symm, HW.out.2.1.trans (HR.out.mono (by omega))⟩
end Go.Proofs.YtminihiecloglaaGreat
