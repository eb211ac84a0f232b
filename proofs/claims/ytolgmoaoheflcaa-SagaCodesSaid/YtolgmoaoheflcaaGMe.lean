/-
 WORDS FOR MEMORY: rows of things without memory; clones of them (printed by gengme.py).
-/
import Derived.Test.YtolgmoaoheflcaaDOrder
import Derived.CallAlone
import Derived.Shelf.Abstract
import Derived.Deep.RegionHeld3
import Derived.Deep.DeepCutAuto
import Derived.Deep.QuietTactic
import Derived.BigQuiet
namespace Go.Proofs.Ytolgmoaoheflcaa.Sa
open Go.RowKit
open DiP
set_option linter.unusedVariables false
set_option linter.unusedSimpArgs false
set_option maxRecDepth 10000
theorem heapE_lt {w : World} {g : Nat} {o : Obj} (h : w.heap[g]? = some o) : g < w.heap.size := by
 rcases Nat.lt_or_ge g w.heap.size with hlt | hge
 ·exact hlt
 ·rw [Array.getElem?_eq_none hge] at h; cases h
theorem grown_set (w : World) (rb i : Nat) (u : Value) : w.grownBy (w.setCell ⟨rb, i, none⟩ u) (some rb) :=
 ⟨rfl, rfl, rfl, by simp, fun k hk hne => Below.heap_setCell w _ _ k (fun e => hne (by rw [e]))⟩
theorem grown_add {w w1 w2 : World} {row : Option Nat} (h : w.grownBy w1 row) (k : w1.grownBy w2 row) : w.grownBy w2 row :=
 ⟨k.os.trans h.os, k.tape.trans h.tape, k.output.trans h.output, Nat.le_trans h.size k.size, fun i hi hne => (k.block i (Nat.lt_of_lt_of_le hi h.size) hne).trans (h.block i hi hne)⟩
theorem grown_alloc1 (w : World) (o : Obj) (row : Option Nat) : w.grownBy (w.alloc o) row := ⟨rfl, rfl, rfl, by simp, fun k hk _ => Below.heap_alloc w o k hk⟩
theorem heap_new (w : World) (o : Obj) : (w.alloc o).heap[w.heap.size]? = some o := by
 unfold World.alloc
 exact Array.getElem?_push_size
theorem row1f {w : World} {g : Nat} {x : Value} {t : TypeId} (h : w.heap[g]? = some (.cells #[x] t (0, 0))) : w.cell? ⟨g, 0, none⟩ = some x ∧ w.frozen? ⟨g, 0, none⟩ = false :=
 ⟨by rw [cell_of_row w g 0 _ _ _ h]; rfl, frozen_of_row w g 0 _ _ h⟩
theorem row2 {w : World} {g : Nat} {x y : Value} {t : TypeId} (h : w.heap[g]? = some (.cells #[x, y] t (0, 0))) : w.cell? ⟨g, 0, none⟩ = some x ∧ w.cell? ⟨g, 1, none⟩ = some y ∧ w.frozen? ⟨g, 0, none⟩ = false ∧ w.frozen? ⟨g, 1, none⟩ = false :=
 ⟨by rw [cell_of_row w g 0 _ _ _ h]; rfl, by rw [cell_of_row w g 1 _ _ _ h]; rfl, frozen_of_row w g 0 _ _ h, frozen_of_row w g 1 _ _ h⟩
/-- Cells of a thing that was stored. -/
theorem cells_of {w : World} {g : Nat} {vs : Array Value} {T : TypeId} (h : w.heap[g]? = some (.cells vs T (0, 0))) : ∀ i u, vs.toList[i]? = some u → w.cell? ⟨g, i, none⟩ = some u := by
 intro i u hu
 rw [Array.getElem?_toList] at hu
 simp [World.cell?, h, hu]
theorem Below.drewN' {B : Nat} {w w' : World} (h : Below B w w') (k : Nat) : Below B w (w'.drewN k) := ⟨h.os, h.tape, h.output, h.size, h.block⟩
theorem addr_add (b off j : Nat) : (Addr.add ⟨b, off, none⟩ j) = ⟨b, off + j, none⟩ := by
 unfold Addr.add
 by_cases h0 : j = 0 <;> simp [h0]
theorem row4 {w : World} {g : Nat} {x y z u : Value} {t : TypeId} (h : w.heap[g]? = some (.cells #[x, y, z, u] t (0, 0))) : w.cell? ⟨g, 0, none⟩ = some x ∧ w.cell? ⟨g, 1, none⟩ = some y ∧ w.cell? ⟨g, 2, none⟩ = some z ∧ w.cell? ⟨g, 3, none⟩ = some u := by
 have h2 := cells_of h
 exact ⟨h2 0 _ rfl, h2 1 _ rfl, h2 2 _ rfl, h2 3 _ rfl⟩
theorem own_any {w : World} {base : Nat} {E : TypeId} {z n : Nat} {v : Value} {vals : List Value} (h : w.ownsRow base E z v n vals) : w.ownsRow 0 E z v n vals := by
 refine ⟨h.1, ?_⟩
 rcases h.2 with h | ⟨g, cap, cur, hv, _, r⟩
 ·exact .inl h
 ·exact .inr ⟨g, cap, cur, hv, Nat.zero_le _, r⟩
theorem own_lt {w : World} {base : Nat} {E : TypeId} {z n : Nat} {v : Value} {vals : List Value} (h : w.ownsRow base E z v n vals) : ∀ g, v.ownBlock = some g → g < w.heap.size := by
 intro g hg
 rcases h.2 with ⟨rfl, _⟩ | ⟨g', cap, cur, rfl, _, hh, _⟩
 ·cases hg
 ·have : g' = g := by simpa [Value.ownBlock] using hg
  subst this; exact heapE_lt hh
theorem row8 {w : World} {g : Nat} {a b c d e f x y : Value} {t : TypeId} (h : w.heap[g]? = some (.cells #[a, b, c, d, e, f, x, y] t (0, 0))) : w.cell? ⟨g, 0, none⟩ = some a ∧ w.cell? ⟨g, 1, none⟩ = some b ∧ w.cell? ⟨g, 2, none⟩ = some c ∧ w.cell? ⟨g, 3, none⟩ = some d ∧ w.cell? ⟨g, 4, none⟩ = some e ∧ w.cell? ⟨g, 5, none⟩ = some f ∧ w.cell? ⟨g, 6, none⟩ = some x ∧ w.cell? ⟨g, 7, none⟩ = some y := by
 have h2 := cells_of h
 exact ⟨h2 0 _ rfl, h2 1 _ rfl, h2 2 _ rfl, h2 3 _ rfl, h2 4 _ rfl, h2 5 _ rfl, h2 6 _ rfl, h2 7 _ rfl⟩
theorem row6 {w : World} {g : Nat} {a b c d e f : Value} {t : TypeId} (h : w.heap[g]? = some (.cells #[a, b, c, d, e, f] t (0, 0))) : w.cell? ⟨g, 0, none⟩ = some a ∧ w.cell? ⟨g, 1, none⟩ = some b ∧ w.cell? ⟨g, 2, none⟩ = some c ∧ w.cell? ⟨g, 3, none⟩ = some d ∧ w.cell? ⟨g, 4, none⟩ = some e ∧ w.cell? ⟨g, 5, none⟩ = some f := by
 have h2 := cells_of h
 exact ⟨h2 0 _ rfl, h2 1 _ rfl, h2 2 _ rfl, h2 3 _ rfl, h2 4 _ rfl, h2 5 _ rfl⟩
theorem free_row {w : World} {g : Nat} {cs : Array Value} {t : TypeId} (h : w.heap[g]? = some (.cells cs t (0, 0))) (i : Nat) : w.frozen? ⟨g, i, none⟩ = false := by simp [World.frozen?, h]
def OwnF {α : Type} (E : TypeId) (z : Nat) (f : α → List Value) (w : World) (base : Nat) (v : Value) (l : List α) : Prop := w.ownsRow base E z v l.length (l.flatMap f)
section
variable {α : Type} {E : TypeId} {z : Nat} {f : α → List Value} {w w' : World} {base : Nat} {v : Value} {l : List α}
theorem OwnF.nil_ (E : TypeId) (z : Nat) (f : α → List Value) (w : World) (base : Nat) : OwnF E z f w base (.slice none 0 0) ([] : List α) := World.ownsRow_nil _ _ _ _
theorem flatF_len (hz : ∀ x, (f x).length = z) : ∀ l : List α, (l.flatMap f).length = l.length * z
 | [] => by simp
 | x :: l => by rw [List.flatMap_cons, List.length_append, hz, flatF_len hz l, List.length_cons, Nat.succ_mul]; omega
theorem flatF_at [Inhabited α] (hz : ∀ x, (f x).length = z) : ∀ (l : List α) (j i : Nat), j < l.length → i < z → (l.flatMap f)[j * z + i]? = (f (l.getD j default))[i]?
 | [], j, i, hj, _ => absurd hj (by simp)
 | x :: l, 0, i, _, hi => by
  rw [List.flatMap_cons, Nat.zero_mul, Nat.zero_add, List.getElem?_append_left (by rw [hz]; exact hi)]; rfl
 | x :: l, j + 1, i, hj, hi => by
  rw [List.flatMap_cons, List.getElem?_append_right (by rw [hz, Nat.succ_mul]; omega), hz]
  have e : (j + 1) * z + i - z = j * z + i := by rw [Nat.succ_mul]; omega
  rw [e, flatF_at hz l j i (by simpa using hj) hi]; rfl
theorem OwnF.kept (h : OwnF E z f w base v l) (hb : Below w.heap.size w w') : OwnF E z f w' base v l := by
 refine ⟨h.1, ?_⟩
 rcases h.2 with h | ⟨g, cap, cur, hv, hbg, hh, r⟩
 ·exact .inl h
 ·exact .inr ⟨g, cap, cur, hv, hbg, (hb.block g (heapE_lt hh)).trans hh, r⟩
theorem OwnF.less {base' : Nat} (h : OwnF E z f w base v l) (hb : base' ≤ base) : OwnF E z f w base' v l := by
 refine ⟨h.1, ?_⟩
 rcases h.2 with h | ⟨g, cap, cur, hv, hbg, r⟩
 ·exact .inl h
 ·exact .inr ⟨g, cap, cur, hv, Nat.le_trans hb hbg, r⟩
theorem OwnF.shape (h : OwnF E z f w base v l) : ∃ A c, v = .slice A l.length c := by
 rcases h.2 with ⟨rfl, h0⟩ | ⟨g, cap, cur, rfl, _⟩
 ·exact ⟨none, 0, by rw [h0]⟩
 ·exact ⟨some ⟨g, 0, none⟩, cap, rfl⟩
theorem OwnF.ge (h : OwnF E z f w base v l) : ∀ g, v.ownBlock = some g → base ≤ g := by
 intro g hg
 rcases h.2 with ⟨rfl, _⟩ | ⟨g', cap, cur, rfl, hb, _⟩
 ·cases hg
 ·have : g' = g := by simpa [Value.ownBlock] using hg
  omega
theorem OwnF.lt (h : OwnF E z f w base v l) : ∀ g, v.ownBlock = some g → g < w.heap.size := own_lt (own_any h)
theorem OwnF.alloc (h : OwnF E z f w base v l) (o : Obj) : OwnF E z f (w.alloc o) base v l := World.ownsRow.alloc h o
theorem OwnF.drewN (h : OwnF E z f w base v l) (k : Nat) : OwnF E z f (w.drewN k) base v l := h
/-- 'append(s, xs...)' at any row of things without memory. -/
theorem wplF_appA {S : TypeId} {bytes : Nat} {zero : Value} (hz : ∀ x, (f x).length = z) (h1c : ∀ x, ∀ u ∈ f x, u.oneCell' = true) (hu : Try.prog.underlying S = some (.slice E)) (hinfo : (Try.prog.info? E).map (fun i => (i.zero, i.size, i.bytes)) = some (some zero, z, bytes)) (hzs : zero.cells.size = z) (hz0 : 0 < z) (hby : bytes ≤ 100000)
  {ops : Array Oper} {rest : List Oper} {o : Oper} {a : Act} {Q : Exit → Act → World → Prop} (hgd : o.guard = none) (s x : Operand)
  (ho : o.op = .call { callee := .builtin .append, args := #[s, x], argTypes := #[S, S] })
  (base : Nat) (v : Value) (l : List α) (hs : a.eval s = v) (hown : OwnF E z f w base v l)
  (p : Addr) (m d : Nat) (ys : List α) (hx : a.eval x = .slice (some p) m d) (hm : ys.length = m) (hc : ∀ j u, (ys.flatMap f)[j]? = some u → w.cell? (p.add j) = some u) (hn : l.length + m ≤ 1000000000) (hbase : base ≤ w.heap.size)
  (h : ∀ v' w', OwnF E z f w' base v' (l ++ ys) → w.grownBy w' v.ownBlock → (v'.ownBlock = v.ownBlock ∨ v'.ownBlock = some w.heap.size) → wpList Try.prog ops Q rest (a.put o.dst v') w') :
  wpList Try.prog ops Q (o :: rest) a w := by
 obtain ⟨i0, hi, hz0', hz1, hz2⟩ := info_parts hinfo
 refine wpList_append_own_at w hgd s x S ho base E i0 zero z bytes hu hi hz0' hz1 hz2 hzs hz0 v l.length _ hs hown p m d (ys.flatMap f) hx (by rw [flatF_len hz, hm]) hc ?_ (by unfold maxLen; omega) (by have := Nat.mul_le_mul (show l.length + m ≤ 1000000000 from hn) hby; omega) hbase ?_
 ·intro u hu
  obtain ⟨x, _, hx⟩ := List.mem_flatMap.1 hu
  exact h1c x u hx
 ·intro v' w' hown' hg _ hat
  exact h v' w' (by unfold OwnF; rw [List.length_append, List.flatMap_append, hm]; exact hown') hg hat
end
def inF (x : Int) : List Value := [.int .i64 x]
def prF (x : Int × Int) : List Value := [.int .i64 x.1, .int .i64 x.2]
theorem infoPr : (Try.prog.info? 90).map (fun i => (i.zero, i.size, i.bytes)) = some (some (.agg #[.int .i64 0, .int .i64 0]), 2, 16) := by kernel_rfl
theorem infoSt : (Try.prog.info? 71).map (fun i => (i.zero, i.size, i.bytes)) = some (some (.agg #[.int .i64 0, .int .i64 0]), 2, 16) := by kernel_rfl
theorem infoIn : (Try.prog.info? 3).map (fun i => (i.zero, i.size, i.bytes)) = some (some (.int .i64 0), 1, 8) := by kernel_rfl
set_option maxHeartbeats 2000000 in
theorem cloneI_any {w : World} {n c : Nat} {A : Option Addr} {xs : List Int} (hl : xs.length = n) (hn : n ≤ 1000000) (h : 0 < n → ∃ b off, A = some ⟨b, off, none⟩ ∧ b < w.heap.size ∧ ∀ j u, (xs.flatMap inF)[j]? = some u → w.cell? ⟨b, off + j, none⟩ = some u) :
  Calls Try.prog 71 #[.slice A n c] w fun e w' => ∃ A' c', e = .returned (.slice A' n c') ∧ OwnF 3 1 inF w' w.heap.size (.slice A' n c') xs ∧ Below w.heap.size w w' := by
 have hnil := fun (W : World) (A : Option Addr) (n c : Nat) => Lib.run_eql_slice_nil (P := Try.prog) W 25 3 A n c 0 0 Try.underlying25
 have HL := Lib.hid hl
 cases A with
 | none =>
  have h0 : n = 0 := by
   rcases Nat.eq_zero_or_pos n with h' | h'
   ·exact h'
   ·obtain ⟨_, _, e, _⟩ := h h'; cases e
  subst h0
  have hx0 : xs = [] := List.eq_nil_of_length_eq_zero hl
  subst hx0
  clear h
  go_enter Try.func71, Try.ntmps71
  go_wp2_with fail
  exact bodyPost_ret (results_tmp rfl _ _ _) rfl ⟨none, 0, rfl, OwnF.nil_ _ _ _ _ _, Below.refl _ _⟩
 | some p =>
  have HC : Hid (∀ j u, (xs.flatMap inF)[j]? = some u → w.cell? (p.add j) = some u ∧ p.block < w.heap.size) := Lib.hid (by
   intro j u hj
   rcases Nat.eq_zero_or_pos n with h' | h'
   ·have : xs = [] := List.eq_nil_of_length_eq_zero (hl.trans h')
    rw [this] at hj; simp at hj
   ·obtain ⟨b, off, e, hb, hc⟩ := h h'
    injection e with e
    subst e
    rw [addr_add]
    exact ⟨hc j u hj, hb⟩)
  have HO : Hid (OwnF 3 1 inF (w.alloc (.cells #[] 3)) w.heap.size (.slice (some ⟨w.heap.size, 0, none⟩) 0 0) []) := Lib.hid ⟨rfl, .inr ⟨w.heap.size, 0, #[], rfl, Nat.le_refl _, heap_alloc_new _ _, Nat.le_refl _, by unfold maxLen; omega, rfl, rfl⟩⟩
  have HN : Hid (∀ j u, (xs.flatMap inF)[j]? = some u → (w.alloc (.cells #[] 3)).cell? (p.add j) = some u) := Lib.hid (fun j u hj => by
   obtain ⟨h1, h2⟩ := HC.out j u hj
   rw [World.cell?_alloc_lt w _ _ (by unfold Addr.add; split <;> exact h2)]
   exact h1)
  clear h
  go_enter Try.func71, Try.ntmps71
  go_wp2_with (at_builtin; refine wplF_appA (f := inF) (fun _ => rfl) (fun x u hu => by simp [inF] at hu; subst hu; rfl) Try.underlying25 infoIn rfl (by decide) (by decide) rfl (.tmp 5) (.tmp 6) rfl w.heap.size _ [] rfl HO.out p n c xs rfl HL.out HN.out (by simp; omega) (by simp) ?_; intro v' w1 hown hg hat)
  have HB1 : Hid (Below w.heap.size w w1) := Lib.hid (((Below.refl _ w).alloc (Nat.le_refl _) _).grown hg (by simp) (fun k h => by have h' : some w.heap.size = some k := h; cases h'; exact Nat.le_refl _))
  rw [List.nil_append] at hown
  obtain ⟨A', c', hv⟩ := hown.shape
  rw [HL.out] at hv
  subst hv
  have HV := Lib.hid hown
  clear hown hg hat
  go_wp2_with fail
  exact bodyPost_ret (results_tmp rfl _ _ _) rfl ⟨A', c', rfl, HV.out, HB1.out⟩
set_option maxHeartbeats 2000000 in
theorem cloneE_any {w : World} {n c : Nat} {A : Option Addr} {xs : List (Int × Int)} (hl : xs.length = n) (hn : n ≤ 1000000) (h : 0 < n → ∃ b off, A = some ⟨b, off, none⟩ ∧ b < w.heap.size ∧ ∀ j u, (xs.flatMap prF)[j]? = some u → w.cell? ⟨b, off + j, none⟩ = some u) :
  Calls Try.prog 85 #[.slice A n c] w fun e w' => ∃ A' c', e = .returned (.slice A' n c') ∧ OwnF 90 2 prF w' w.heap.size (.slice A' n c') xs ∧ Below w.heap.size w w' := by
 have hnil := fun (W : World) (A : Option Addr) (n c : Nat) => Lib.run_eql_slice_nil (P := Try.prog) W 27 90 A n c 0 0 Try.underlying27
 have HL := Lib.hid hl
 cases A with
 | none =>
  have h0 : n = 0 := by
   rcases Nat.eq_zero_or_pos n with h' | h'
   ·exact h'
   ·obtain ⟨_, _, e, _⟩ := h h'; cases e
  subst h0
  have hx0 : xs = [] := List.eq_nil_of_length_eq_zero hl
  subst hx0
  clear h
  go_enter Try.func85, Try.ntmps85
  go_wp2_with fail
  exact bodyPost_ret (results_tmp rfl _ _ _) rfl ⟨none, 0, rfl, OwnF.nil_ _ _ _ _ _, Below.refl _ _⟩
 | some p =>
  have HC : Hid (∀ j u, (xs.flatMap prF)[j]? = some u → w.cell? (p.add j) = some u ∧ p.block < w.heap.size) := Lib.hid (by
   intro j u hj
   rcases Nat.eq_zero_or_pos n with h' | h'
   ·have : xs = [] := List.eq_nil_of_length_eq_zero (hl.trans h')
    rw [this] at hj; simp at hj
   ·obtain ⟨b, off, e, hb, hc⟩ := h h'
    injection e with e
    subst e
    rw [addr_add]
    exact ⟨hc j u hj, hb⟩)
  have HO : Hid (OwnF 90 2 prF (w.alloc (.cells #[] 90)) w.heap.size (.slice (some ⟨w.heap.size, 0, none⟩) 0 0) []) := Lib.hid ⟨rfl, .inr ⟨w.heap.size, 0, #[], rfl, Nat.le_refl _, heap_alloc_new _ _, Nat.le_refl _, by unfold maxLen; omega, rfl, rfl⟩⟩
  have HN : Hid (∀ j u, (xs.flatMap prF)[j]? = some u → (w.alloc (.cells #[] 90)).cell? (p.add j) = some u) := Lib.hid (fun j u hj => by
   obtain ⟨h1, h2⟩ := HC.out j u hj
   rw [World.cell?_alloc_lt w _ _ (by unfold Addr.add; split <;> exact h2)]
   exact h1)
  clear h
  go_enter Try.func85, Try.ntmps85
  go_wp2_with (at_builtin; refine wplF_appA (f := prF) (fun _ => rfl) (fun x u hu => by simp [prF] at hu; rcases hu with rfl | rfl <;> rfl) Try.underlying27 infoPr rfl (by decide) (by decide) rfl (.tmp 5) (.tmp 6) rfl w.heap.size _ [] rfl HO.out p n c xs rfl HL.out HN.out (by simp; omega) (by simp) ?_; intro v' w1 hown hg hat)
  have HB1 : Hid (Below w.heap.size w w1) := Lib.hid (((Below.refl _ w).alloc (Nat.le_refl _) _).grown hg (by simp) (fun k h => by have h' : some w.heap.size = some k := h; cases h'; exact Nat.le_refl _))
  rw [List.nil_append] at hown
  obtain ⟨A', c', hv⟩ := hown.shape
  rw [HL.out] at hv
  subst hv
  have HV := Lib.hid hown
  clear hown hg hat
  go_wp2_with fail
  exact bodyPost_ret (results_tmp rfl _ _ _) rfl ⟨A', c', rfl, HV.out, HB1.out⟩

set_option maxHeartbeats 2000000 in
theorem cloneS_any {w : World} {n c : Nat} {A : Option Addr} {xs : List (Int × Int)} (hl : xs.length = n) (hn : n ≤ 1000000) (h : 0 < n → ∃ b off, A = some ⟨b, off, none⟩ ∧ b < w.heap.size ∧ ∀ j u, (xs.flatMap prF)[j]? = some u → w.cell? ⟨b, off + j, none⟩ = some u) :
  Calls Try.prog 84 #[.slice A n c] w fun e w' => ∃ A' c', e = .returned (.slice A' n c') ∧ OwnF 71 2 prF w' w.heap.size (.slice A' n c') xs ∧ Below w.heap.size w w' := by
 have hnil := fun (W : World) (A : Option Addr) (n c : Nat) => Lib.run_eql_slice_nil (P := Try.prog) W 26 71 A n c 0 0 Try.underlying26
 have HL := Lib.hid hl
 cases A with
 | none =>
  have h0 : n = 0 := by
   rcases Nat.eq_zero_or_pos n with h' | h'
   ·exact h'
   ·obtain ⟨_, _, e, _⟩ := h h'; cases e
  subst h0
  have hx0 : xs = [] := List.eq_nil_of_length_eq_zero hl
  subst hx0
  clear h
  go_enter Try.func84, Try.ntmps84
  go_wp2_with fail
  exact bodyPost_ret (results_tmp rfl _ _ _) rfl ⟨none, 0, rfl, OwnF.nil_ _ _ _ _ _, Below.refl _ _⟩
 | some p =>
  have HC : Hid (∀ j u, (xs.flatMap prF)[j]? = some u → w.cell? (p.add j) = some u ∧ p.block < w.heap.size) := Lib.hid (by
   intro j u hj
   rcases Nat.eq_zero_or_pos n with h' | h'
   ·have : xs = [] := List.eq_nil_of_length_eq_zero (hl.trans h')
    rw [this] at hj; simp at hj
   ·obtain ⟨b, off, e, hb, hc⟩ := h h'
    injection e with e
    subst e
    rw [addr_add]
    exact ⟨hc j u hj, hb⟩)
  have HO : Hid (OwnF 71 2 prF (w.alloc (.cells #[] 71)) w.heap.size (.slice (some ⟨w.heap.size, 0, none⟩) 0 0) []) := Lib.hid ⟨rfl, .inr ⟨w.heap.size, 0, #[], rfl, Nat.le_refl _, heap_alloc_new _ _, Nat.le_refl _, by unfold maxLen; omega, rfl, rfl⟩⟩
  have HN : Hid (∀ j u, (xs.flatMap prF)[j]? = some u → (w.alloc (.cells #[] 71)).cell? (p.add j) = some u) := Lib.hid (fun j u hj => by
   obtain ⟨h1, h2⟩ := HC.out j u hj
   rw [World.cell?_alloc_lt w _ _ (by unfold Addr.add; split <;> exact h2)]
   exact h1)
  clear h
  go_enter Try.func84, Try.ntmps84
  go_wp2_with (at_builtin; refine wplF_appA (f := prF) (fun _ => rfl) (fun x u hu => by simp [prF] at hu; rcases hu with rfl | rfl <;> rfl) Try.underlying26 infoSt rfl (by decide) (by decide) rfl (.tmp 5) (.tmp 6) rfl w.heap.size _ [] rfl HO.out p n c xs rfl HL.out HN.out (by simp; omega) (by simp) ?_; intro v' w1 hown hg hat)
  have HB1 : Hid (Below w.heap.size w w1) := Lib.hid (((Below.refl _ w).alloc (Nat.le_refl _) _).grown hg (by simp) (fun k h => by have h' : some w.heap.size = some k := h; cases h'; exact Nat.le_refl _))
  rw [List.nil_append] at hown
  obtain ⟨A', c', hv⟩ := hown.shape
  rw [HL.out] at hv
  subst hv
  have HV := Lib.hid hown
  clear hown hg hat
  go_wp2_with fail
  exact bodyPost_ret (results_tmp rfl _ _ _) rfl ⟨A', c', rfl, HV.out, HB1.out⟩

theorem own_of_F {w : World} {base n c : Nat} {A : Option Addr} {xs : List Int} (h : OwnF 3 1 inF w base (.slice A n c) xs) (hl : xs.length = n) : Own w base (.slice A n c) n xs := by
 have e : xs.flatMap inF = xs.map (Value.int .i64) := by
  clear h hl
  induction xs with
  | nil => rfl
  | cons x xs ih => rw [List.flatMap_cons, ih]; rfl
 have h' := h
 unfold OwnF at h'
 rw [e, hl] at h'
 exact h'
theorem flat_in (xs : List Int) (j : Nat) (u : Value) (h : (xs.flatMap inF)[j]? = some u) : j < xs.length ∧ u = .int .i64 (ix xs j) := by
 have e : xs.flatMap inF = xs.map (Value.int .i64) := by
  clear h
  induction xs with
  | nil => rfl
  | cons x xs ih => rw [List.flatMap_cons, ih]; rfl
 rw [e, List.getElem?_map] at h
 by_cases hj : j < xs.length
 ·rw [List.getElem?_eq_getElem hj] at h
  simp at h
  refine ⟨hj, ?_⟩
  unfold ix
  simp [List.getD, hj, ← h]
 ·rw [List.getElem?_eq_none (by omega)] at h; simp at h
/-- What a slice that came of a call can bear: its block is one from lo on, its cells may be written. -/
def FreshS (w : World) (lo z : Nat) (A : Option Addr) (n : Nat) : Prop := 0 < n → ∃ b off, A = some ⟨b, off, none⟩ ∧ lo ≤ b ∧ b < w.heap.size ∧ ∀ j, j < n * z → (∃ u, w.cell? ⟨b, off + j, none⟩ = some u) ∧ w.frozen? ⟨b, off + j, none⟩ = false
theorem OwnF.fresh {α : Type} {E : TypeId} {z : Nat} {f : α → List Value} {w : World} {base n c : Nat} {A : Option Addr} {l : List α} (h : OwnF E z f w base (.slice A n c) l) : FreshS w base z A n := by
 intro h0
 obtain ⟨A', c', hA⟩ := h.shape
 injection hA with hA hn hc
 subst hA hc
 rcases h.2 with ⟨hv, hz⟩ | ⟨g, cap, cur, hv, hbg, hh, hlc, hcm, hcs, htk⟩
 ·omega
 ·injection hv with hv1 hv2 hv3
  subst hv1
  refine ⟨g, 0, rfl, hbg, heapE_lt hh, fun j hj => ?_⟩
  have hjs : j < cur.size := by
   have : n * z ≤ cap * z := Nat.mul_le_mul_right z (by omega)
   rw [hcs]; omega
  refine ⟨⟨cur[j], ?_⟩, free_row hh _⟩
  rw [Nat.zero_add]
  exact cells_of hh j _ (by rw [Array.getElem?_toList, Array.getElem?_eq_getElem hjs])
theorem OwnF.cellsA {α : Type} {E : TypeId} {z : Nat} {f : α → List Value} {w : World} {base n c : Nat} {A : Option Addr} {l : List α} (hz : ∀ x, (f x).length = z) (h : OwnF E z f w base (.slice A n c) l) : l.length = n ∧ (0 < n → ∃ b, A = some ⟨b, 0, none⟩ ∧ b < w.heap.size ∧ ∀ j u, (l.flatMap f)[j]? = some u → w.cell? ⟨b, j, none⟩ = some u) := by
 obtain ⟨A', c', hA⟩ := h.shape
 injection hA with hA hn hc
 subst hA hc
 refine ⟨hn.symm, fun h0 => ?_⟩
 rcases h.2 with ⟨hv, hzz⟩ | ⟨g, cap, cur, hv, hbg, hh, hlc, hcm, hcs, htk⟩
 ·omega
 ·injection hv with hv1 hv2 hv3
  subst hv1
  refine ⟨g, rfl, heapE_lt hh, fun j u hu => ?_⟩
  refine cells_of hh j u ?_
  have hj : j < l.length * z := by
   have := (List.getElem?_eq_some_iff.1 hu).1
   rwa [flatF_len hz] at this
  rw [← htk, List.getElem?_take_of_lt hj] at hu
  exact hu
theorem flat_pr : ∀ (l : List (Int × Int)) (j : Nat), j < l.length → (l.flatMap prF)[j * 2]? = some (.int .i64 (ea l j)) ∧ (l.flatMap prF)[j * 2 + 1]? = some (.int .i64 (eb l j))
 | [], j, h => absurd h (by simp)
 | x :: l, 0, h => ⟨rfl, rfl⟩
 | x :: l, j + 1, h => by
  have ih := flat_pr l j (by simpa using h)
  rw [List.flatMap_cons]
  have e1 : (j + 1) * 2 = j * 2 + 2 := by omega
  have e2 : (j + 1) * 2 + 1 = (j * 2 + 1) + 2 := by omega
  rw [e1, show j * 2 + 2 + 1 = (j * 2 + 1) + 2 by omega]
  have el : (prF x).length = 2 := rfl
  rw [List.getElem?_append_right (by rw [el]; omega), List.getElem?_append_right (by rw [el]; omega), el, Nat.add_sub_cancel, Nat.add_sub_cancel]
  exact ih
theorem flat_pr_inv (l : List (Int × Int)) (j : Nat) (u : Value) (h : (l.flatMap prF)[j]? = some u) : j < l.length * 2 ∧ u = if j % 2 = 0 then .int .i64 (ea l (j / 2)) else .int .i64 (eb l (j / 2)) := by
 have hj : j < l.length * 2 := by
  have := (List.getElem?_eq_some_iff.1 h).1
  rwa [flatF_len (f := prF) (z := 2) (fun _ => rfl)] at this
 refine ⟨hj, ?_⟩
 have k := flat_pr l (j / 2) (by omega)
 by_cases hm : j % 2 = 0
 ·rw [if_pos hm]
  rw [show j / 2 * 2 = j by omega, h] at k
  injection k.1
 ·rw [if_neg hm]
  rw [show j / 2 * 2 + 1 = j by omega, h] at k
  injection k.2
theorem OwnF.rdE {E : TypeId} {w : World} {base n c : Nat} {A : Option Addr} {l : List (Int × Int)} (h : OwnF E 2 prF w base (.slice A n c) l) : RdE w w.heap.size A n l := by
 obtain ⟨hl, hc⟩ := OwnF.cellsA (f := prF) (z := 2) (fun _ => rfl) h
 refine ⟨hl, fun h0 => ?_⟩
 obtain ⟨b, e, hb, hcc⟩ := hc h0
 refine ⟨b, 0, e, hb, fun j hj => ?_⟩
 have k := flat_pr l j (by omega)
 rw [Nat.zero_add]
 exact ⟨hcc _ _ k.1, hcc _ _ k.2⟩
theorem OwnF.rdI {E : TypeId} {w : World} {base n c : Nat} {A : Option Addr} {l : List Int} (h : OwnF E 1 inF w base (.slice A n c) l) : Rd w w.heap.size A n l := by
 obtain ⟨hl, hc⟩ := OwnF.cellsA (f := inF) (z := 1) (fun _ => rfl) h
 refine ⟨hl, fun h0 => ?_⟩
 obtain ⟨b, e, hb, hcc⟩ := hc h0
 refine ⟨b, 0, e, hb, fun j hj => ?_⟩
 rw [Nat.zero_add]
 refine hcc _ _ ?_
 have e : l.flatMap inF = l.map (Value.int .i64) := by
  clear h hl hc hcc
  induction l with
  | nil => rfl
  | cons x xs ih => rw [List.flatMap_cons, ih]; rfl
 rw [e]; exact ix_map l j (by omega)
theorem Rd.cl {w : World} {B n : Nat} {A : Option Addr} {xs : List Int} (h : Rd w B A n xs) (hB : B ≤ w.heap.size) : xs.length = n ∧ (0 < n → ∃ b off, A = some ⟨b, off, none⟩ ∧ b < w.heap.size ∧ ∀ j u, (xs.flatMap inF)[j]? = some u → w.cell? ⟨b, off + j, none⟩ = some u) :=
 ⟨h.len, fun h0 => by
  obtain ⟨b, off, e, hb, hc⟩ := h.2 h0
  refine ⟨b, off, e, Nat.lt_of_lt_of_le hb hB, fun j u hj => ?_⟩
  obtain ⟨h1, rfl⟩ := flat_in xs j u hj
  exact hc j (by rw [h.len] at h1; exact h1)⟩
theorem RdE.cl {w : World} {B n : Nat} {A : Option Addr} {xs : List (Int × Int)} (h : RdE w B A n xs) (hB : B ≤ w.heap.size) : xs.length = n ∧ (0 < n → ∃ b off, A = some ⟨b, off, none⟩ ∧ b < w.heap.size ∧ ∀ j u, (xs.flatMap prF)[j]? = some u → w.cell? ⟨b, off + j, none⟩ = some u) :=
 ⟨h.1, fun h0 => by
  obtain ⟨b, off, e, hb, hc⟩ := h.2 h0
  refine ⟨b, off, e, Nat.lt_of_lt_of_le hb hB, fun j u hj => ?_⟩
  obtain ⟨h1, rfl⟩ := flat_pr_inv xs j u hj
  have hl := h.1
  have k := hc (j / 2) (by omega)
  by_cases hm : j % 2 = 0
  ·rw [if_pos hm]
   have := k.1
   rw [show off + j / 2 * 2 = off + j by omega] at this
   exact this
  ·rw [if_neg hm]
   have := k.2
   rw [show off + j / 2 * 2 + 1 = off + j by omega] at this
   exact this⟩
theorem cloneIR {w : World} {B n c : Nat} {A : Option Addr} {xs : List Int} (h : Rd w B A n xs) (hB : B ≤ w.heap.size) (hn : n ≤ 1000000) :
 Calls Try.prog 71 #[.slice A n c] w fun e w' => ∃ A' c', e = .returned (.slice A' n c') ∧ OwnF 3 1 inF w' w.heap.size (.slice A' n c') xs ∧ Below w.heap.size w w' := cloneI_any (h.cl hB).1 hn (h.cl hB).2
theorem cloneER {w : World} {B n c : Nat} {A : Option Addr} {xs : List (Int × Int)} (h : RdE w B A n xs) (hB : B ≤ w.heap.size) (hn : n ≤ 1000000) :
 Calls Try.prog 85 #[.slice A n c] w fun e w' => ∃ A' c', e = .returned (.slice A' n c') ∧ OwnF 90 2 prF w' w.heap.size (.slice A' n c') xs ∧ Below w.heap.size w w' := cloneE_any (h.cl hB).1 hn (h.cl hB).2
theorem cloneSR {w : World} {B n c : Nat} {A : Option Addr} {xs : List (Int × Int)} (h : RdE w B A n xs) (hB : B ≤ w.heap.size) (hn : n ≤ 1000000) :
 Calls Try.prog 84 #[.slice A n c] w fun e w' => ∃ A' c', e = .returned (.slice A' n c') ∧ OwnF 71 2 prF w' w.heap.size (.slice A' n c') xs ∧ Below w.heap.size w w' := cloneS_any (h.cl hB).1 hn (h.cl hB).2
end Go.Proofs.Ytolgmoaoheflcaa.Sa
