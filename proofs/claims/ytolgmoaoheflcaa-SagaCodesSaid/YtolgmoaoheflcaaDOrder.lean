/-
 MERGED: DInts DOrder.
-/
import Derived.Test.YtolgmoaoheflcaaDRow
import Derived.WalkKit
import Derived.WalkSpells
import Derived.WalkSmall
import Derived.Below
import Derived.Laws.OwnMore
import Derived.Deep.AppendLies
import Derived.Deep.Draws
import Derived.Lib.Hide
import Derived.Maps.AppendAt
import Derived.WalkMore
import Derived.ScopeJumps
namespace Go.Proofs.Ytolgmoaoheflcaa.Sa
open Go.RowKit
open DiP
set_option linter.unusedVariables false
def DiP.ix (xs : List Int) (i : Nat) : Int := xs.getD i 0

/-- A slice value with n elements reads, in w, as the numbers xs; it lies below block B. -/
def Rd (w : World) (B : Nat) (A : Option Addr) (n : Nat) (xs : List Int) : Prop :=
 xs.length = n ∧ (0 < n → ∃ b off, A = some ⟨b, off, none⟩ ∧ b < B ∧ ∀ j, j < n → w.cell? ⟨b, off + j, none⟩ = some (.int .i64 (ix xs j)))

section
variable {w w' : World} {B B' n : Nat} {A : Option Addr} {xs : List Int}
theorem Rd.len (h : Rd w B A n xs) : xs.length = n := h.1
theorem Rd.at_ {k : Nat} (h : Rd w B A n xs) (hk : k < n) : ∃ b off, A = some ⟨b, off, none⟩ ∧ b < B ∧ w.cell? ⟨b, off + k, none⟩ = some (.int .i64 (ix xs k)) := by
 obtain ⟨b, off, e, hb, hc⟩ := h.2 (by omega)
 exact ⟨b, off, e, hb, hc k hk⟩
theorem Rd.keep (h : Rd w B A n xs) (hk : ∀ p : Addr, p.block < B → w'.cell? p = w.cell? p) : Rd w' B A n xs :=
 ⟨h.1, fun hn => by
  obtain ⟨b, off, e, hb, hc⟩ := h.2 hn
  exact ⟨b, off, e, hb, fun j hj => (hk _ hb).trans (hc j hj)⟩⟩
theorem Rd.more (h : Rd w B A n xs) (hB : B ≤ B') : Rd w B' A n xs :=
 ⟨h.1, fun hn => by
  obtain ⟨b, off, e, hb, hc⟩ := h.2 hn
  exact ⟨b, off, e, by omega, hc⟩⟩
theorem Rd.below (h : Rd w B A n xs) (hb : Below B w w') : Rd w' B A n xs := h.keep fun _ hp => hb.cell hp
theorem Rd.drew (h : Rd w B A n xs) : Rd w.drew B A n xs := h
theorem Rd.drewN (h : Rd w B A n xs) (k : Nat) : Rd (w.drewN k) B A n xs := h
theorem Rd.alloc (h : Rd w B A n xs) (hB : B ≤ w.heap.size) (o : Obj) : Rd (w.alloc o) B A n xs := h.keep fun p hp => World.cell?_alloc_lt w o p (by omega)
theorem Rd.setCell (h : Rd w B A n xs) {p : Addr} (hB : B ≤ p.block) (u : Value) : Rd (w.setCell p u) B A n xs :=
 h.keep fun q hq => World.cell?_setCell_other w p q u (fun e => by subst e; omega)
theorem Rd.grown (h : Rd w B A n xs) {row : Option Nat} (hg : w.grownBy w' row) (hB : B ≤ w.heap.size) (hr : ∀ g, row = some g → B ≤ g) : Rd w' B A n xs :=
 h.keep fun p hp => World.cell?_of_block (hg.block p.block (by omega) (fun e => by have := hr _ e.symm; omega))
theorem Rd.nil_ : Rd w B A 0 [] := ⟨rfl, fun h => absurd h (by omega)⟩
theorem ix_map (xs : List Int) (j : Nat) (h : j < xs.length) : (xs.map (Value.int .i64))[j]? = some (.int .i64 (ix xs j)) := by
 simp [ix, List.getD, h]
theorem Rd.of_own {base e c : Nat} (h : w.ownsRow base e 1 (.slice A n c) n (xs.map (Value.int .i64))) : Rd w w.heap.size A n xs := by
 have hl : xs.length = n := by simpa using h.1
 refine ⟨hl, fun hn => ?_⟩
 obtain ⟨g, cap, hv, _, hlt⟩ := h.form hn
 have hA : A = some ⟨g, 0, none⟩ := by injection hv
 subst hA
 refine ⟨g, 0, rfl, hlt, fun j hj => ?_⟩
 have h1 := h.cells (g := g) rfl j _ (ix_map xs j (by omega))
 have h2 : (Addr.add ⟨g, 0, none⟩ j) = ⟨g, 0 + j, none⟩ := by
  unfold Addr.add
  by_cases h0 : j = 0 <;> simp [h0]
 rw [← h2]; exact h1
end

/-! ### A slice that the call itself made -/
theorem infoInt : (Try.prog.info? 3).map (fun i => (i.zero, i.size, i.bytes)) = some (some (.int .i64 0), 1, 8) := by kernel_rfl

/-- The slice value v, of n elements, made by the call itself (its block is numbered from base on), reads as xs. -/
def Own (w : World) (base : Nat) (v : Value) (n : Nat) (xs : List Int) : Prop := w.ownsRow base 3 1 v n (xs.map (Value.int .i64))

section
variable {w w' : World} {base n c g : Nat} {v : Value} {xs : List Int}
theorem Own.len (h : Own w base v n xs) : xs.length = n := by simpa using h.1
theorem Own.nil_ (w : World) (base : Nat) : Own w base (.slice none 0 0) 0 [] := World.ownsRow_nil _ _ _ _
theorem Own.shape (h : Own w base v n xs) : ∃ A c, v = .slice A n c ∧ Rd w w.heap.size A n xs := by
 have h0 := h
 rcases h.2 with ⟨rfl, rfl⟩ | ⟨g, cap, cur, rfl, _⟩
 ·have hl := h0.len
  obtain rfl : xs = [] := List.eq_nil_of_length_eq_zero hl
  exact ⟨none, 0, rfl, Rd.nil_⟩
 ·exact ⟨some ⟨g, 0, none⟩, cap, rfl, Rd.of_own h0⟩
theorem Own.form (h : Own w base v n xs) (hn : 0 < n) : ∃ g c, v = .slice (some ⟨g, 0, none⟩) n c ∧ base ≤ g ∧ g < w.heap.size := by
 obtain ⟨g, cap, hv, hb, hlt⟩ := World.ownsRow.form h hn
 exact ⟨g, cap, hv, hb, hlt⟩
theorem Own.cell (h : Own w base (.slice (some ⟨g, 0, none⟩) n c) n xs) {j : Nat} (hj : j < n) : w.cell? ⟨g, j, none⟩ = some (.int .i64 (ix xs j)) := by
 rw [h.cellAt j (by omega), ix_map xs j (by rw [h.len]; exact hj)]
theorem Own.free (h : Own w base (.slice (some ⟨g, 0, none⟩) n c) n xs) (j : Nat) : w.frozen? ⟨g, j, none⟩ = false := h.frozenAt j
theorem Own.alloc (h : Own w base v n xs) (o : Obj) : Own (w.alloc o) base v n xs := World.ownsRow.alloc h o
theorem Own.drew (h : Own w base v n xs) : Own w.drew base v n xs := h
theorem Own.drewN (h : Own w base v n xs) (k : Nat) : Own (w.drewN k) base v n xs := h
theorem Own.less {base' : Nat} (h : Own w base v n xs) (hb : base' ≤ base) : Own w base' v n xs := by
 refine ⟨h.1, ?_⟩
 rcases h.2 with h | ⟨g, cap, cur, hv, hg, r⟩
 ·exact .inl h
 ·exact .inr ⟨g, cap, cur, hv, by omega, r⟩
theorem Own.store (h : Own w base (.slice (some ⟨g, 0, none⟩) n c) n xs) (j : Nat) (u : Int) : Own (w.setCell ⟨g, j, none⟩ (.int .i64 u)) base (.slice (some ⟨g, 0, none⟩) n c) n (xs.set j u) := by
 have := (h.stored j (.int .i64 u)).1
 unfold Own; rw [List.map_set]; exact this
theorem Own.below {B : Nat} (h : Own w base v n xs) (hb : Below B w w') (hg : ∀ g, v.ownBlock = some g → g < B) : Own w' base v n xs := by
 refine ⟨h.1, ?_⟩
 rcases h.2 with h | ⟨g, cap, cur, hv, hbg, hh, r⟩
 ·exact .inl h
 ·refine .inr ⟨g, cap, cur, hv, hbg, ?_, r⟩
  rw [hb.block g (hg g (by rw [hv]; rfl))]
  exact hh
theorem Own.kept (h : Own w base v n xs) (hb : Below w.heap.size w w') : Own w' base v n xs := by
 refine h.below hb fun g hg => ?_
 rcases h.2 with ⟨rfl, _⟩ | ⟨g', cap, cur, rfl, _, hh, _⟩
 ·cases hg
 ·have : g' = g := by simpa [Value.ownBlock] using hg
  subst this
  rcases Nat.lt_or_ge g' w.heap.size with hlt | hge
  ·exact hlt
  ·rw [Array.getElem?_eq_none hge] at hh; cases hh
theorem Own.other {row : Option Nat} (h : Own w base v n xs) (hg : w.grownBy w' row) (hr : ∀ g, v.ownBlock = some g → row ≠ some g) : Own w' base v n xs := by
 refine ⟨h.1, ?_⟩
 rcases h.2 with h | ⟨g, cap, cur, hv, hbg, hh, r⟩
 ·exact .inl h
 ·refine .inr ⟨g, cap, cur, hv, hbg, ?_, r⟩
  have hlt : g < w.heap.size := by
   rcases Nat.lt_or_ge g w.heap.size with hlt | hge
   ·exact hlt
   ·rw [Array.getElem?_eq_none hge] at hh; cases hh
  rw [hg.block g hlt (fun e => hr g (by rw [hv]; rfl) e.symm)]
  exact hh
theorem Own.lit (w : World) (base : Nat) (xs : List Int) (hb : base ≤ w.heap.size) (hl : xs.length ≤ 1099511627776) :
  Own (w.alloc (.cells (xs.map (Value.int .i64)).toArray 3)) base (.slice (some ⟨w.heap.size, 0, none⟩) xs.length xs.length) xs.length xs := by
 have := World.ownsRow_lit (base := base) (e := 3) (size := 1) w (xs.map (Value.int .i64)).toArray xs.length hb (by unfold maxLen; omega) (by simp)
 simpa [Own] using this
theorem Own.ge (h : Own w base v n xs) : ∀ g, v.ownBlock = some g → base ≤ g := by
 intro g hg
 rcases h.2 with ⟨rfl, _⟩ | ⟨g', cap, cur, rfl, hb, _⟩
 ·cases hg
 ·have : g' = g := by simpa [Value.ownBlock] using hg
  omega
theorem ix_append_lt {xs ys : List Int} {k : Nat} (h : k < xs.length) : ix (xs ++ ys) k = ix xs k := by
 unfold ix; simp [List.getD, List.getElem?_append_left h]
theorem ix_snoc (xs : List Int) (u : Int) : ix (xs ++ [u]) xs.length = u := by unfold ix; simp
end

/-- 'append(s, x)', s the call's own: s grows by one. -/
theorem wpl_app {w : World} {ops : Array Oper} {rest : List Oper} {o : Oper} {a : Act} {Q : Exit → Act → World → Prop} (hgd : o.guard = none) (s x : Operand)
  (ho : o.op = .call { callee := .builtin .append, args := #[s, x], argTypes := #[25, 25] })
  (base : Nat) (v : Value) (n : Nat) (xs : List Int) (hs : a.eval s = v) (hown : Own w base v n xs)
  (b : Nat) (u : Int) (hx : a.eval x = .slice (some ⟨b, 0, none⟩) 1 1) (hc : w.cell? ⟨b, 0, none⟩ = some (.int .i64 u)) (hn : n ≤ 1099511627776) (hbase : base ≤ w.heap.size)
  (h : ∀ g c w', Own w' base (.slice (some ⟨g, 0, none⟩) (n + 1) c) (n + 1) (xs ++ [u]) → base ≤ g → w.grownBy w' v.ownBlock → (v.ownBlock = some g ∨ g = w.heap.size) → wpList Try.prog ops Q rest (a.put o.dst (.slice (some ⟨g, 0, none⟩) (n + 1) c)) w') :
  wpList Try.prog ops Q (o :: rest) a w := by
 obtain ⟨i0, hi, hz0, hz1, hz2⟩ := info_parts infoInt
 refine wpList_append_own_at w hgd s x 25 ho base 3 i0 (.int .i64 0) 1 8 Try.underlying25 hi hz0 hz1 hz2 rfl (by decide) v n _ hs hown ⟨b, 0, none⟩ 1 1 [.int .i64 u] hx rfl ?_ ?_ (by unfold maxLen; omega) (by omega) hbase ?_
 ·intro j z hj
  match j, hj with
  | 0, hj => simp at hj; subst hj; simpa [Addr.add] using hc
 ·intro z hz; simp at hz; subst hz; rfl
 ·intro v' w' hown' hg _ hat
  have ho' : Own w' base v' (n + 1) (xs ++ [u]) := by unfold Own; rw [List.map_append]; exact hown'
  obtain ⟨g, c, rfl, hbg, _⟩ := ho'.form (by omega)
  exact h g c w' ho' hbg hg (by
   rcases hat with h | h
   ·exact .inl h.symm
   ·right; have : some g = some w.heap.size := h; injection this)

/-- Nodes as numbers. -/
def ints (l : List Nat) : List Int := l.map fun x : Nat => (x : Int)
theorem ints_len (l : List Nat) : (ints l).length = l.length := by simp [ints]
theorem ints_snoc (l : List Nat) (v : Nat) : ints (l ++ [v]) = ints l ++ [(v : Int)] := by simp [ints]
end Go.Proofs.Ytolgmoaoheflcaa.Sa

namespace Go.Proofs.Ytolgmoaoheflcaa.Sa
open Go.RowKit
open DiP
set_option linter.unusedVariables false

/-- Where Order stands at its label: k nodes are in the order. -/
structure OrdAt (wr : World) (gb bb : Nat) (w : World) (n : Nat) (g : List (Nat × Nat)) (k : Nat) (v : Value) : Prop where
 goes : Goes (befG g) n k
 own : Own wr (bb + 1) v k (ints (ordS (befG g) n k).2)
 row : RowU wr bb (befG g)
 cell : wr.cell? ⟨gb, 0, none⟩ = some (.int .i64 (n : Int))
 bel : Below w.heap.size w wr
 lt : bb < wr.heap.size
 ge : w.heap.size < bb

/-- What Order answers: the order, or none. -/
def OrdPost (g : List (Nat × Nat)) (n : Nat) (w : World) (e : Ending) (w' : World) : Prop :=
 Below w.heap.size w w' ∧ ((Goes (befG g) n n ∧ ∃ A c, e = .returned (.tuple #[.slice A n c, .int .i64 0]) ∧ Own w' w.heap.size (.slice A n c) n (ints (ordA (befG g) n))) ∨
  (¬ Goes (befG g) n n ∧ e = .returned (.tuple #[.slice none 0 0, .int .i64 21])))

theorem OrdAt.none_ {wr w : World} {gb bb n k : Nat} {g : List (Nat × Nat)} {v : Value} (h : OrdAt wr gb bb w n g k v) (hl : ∀ u, u < n → rdy (befG g) (ordS (befG g) n k).1 u = false) (hk : k < n) : ¬ Goes (befG g) n n := by
 intro hg
 have := hg.each k hk
 rw [lowest_none hl] at this
 cases this
theorem OrdAt.bound {wr w : World} {gb bb n k : Nat} {g : List (Nat × Nat)} {v : Value} (h : OrdAt wr gb bb w n g k v) : k ≤ n := h.goes.bound
/-- A node more. -/
theorem OrdAt.step {wr w w1 : World} {gb bb n k i : Nat} {g : List (Nat × Nat)} {v v' : Value} {o : Obj} (h : OrdAt wr gb bb w n g k v) (hgb : gb < bb) (hi : i < n)
  (hr : rdy (befG g) (ordS (befG g) n k).1 i = true) (hl : ∀ u, u < i → rdy (befG g) (ordS (befG g) n k).1 u = false)
  (ho : Own w1 (bb + 1) v' (k + 1) (ints (ordS (befG g) n k).2 ++ [(i : Int)])) (hg : (wr.alloc o).grownBy w1 v.ownBlock) : OrdAt w1 gb bb w n g (k + 1) v' ∧ (ordS (befG g) n (k + 1)).1 = add (ordS (befG g) n k).1 i := by
 have hlo := lowest_some hi hr hl
 have hs := ordS_some hlo
 have hge := h.own.ge
 have hne : ∀ x, x ≤ bb → some x ≠ v.ownBlock := fun x hx e => by have := hge x e.symm; omega
 have hsz : bb < (wr.alloc o).heap.size := by have := h.lt; simp; omega
 refine ⟨⟨h.goes.step hlo, ?_, ?_, ?_, ?_, ?_, h.ge⟩, by rw [hs]⟩
 ·rw [hs]
  show Own w1 (bb + 1) v' (k + 1) (ints ((ordS (befG g) n k).2 ++ [i]))
  rw [ints_snoc]; exact ho
 ·exact World.rowIs.of_block (h.row.alloc o) (hg.block bb hsz (hne bb (Nat.le_refl _)))
 ·have h1 : (wr.alloc o).cell? ⟨gb, 0, none⟩ = wr.cell? ⟨gb, 0, none⟩ := World.cell?_alloc_lt wr o _ (by have := h.lt; simp; omega)
  have h2 : w1.cell? ⟨gb, 0, none⟩ = (wr.alloc o).cell? ⟨gb, 0, none⟩ := World.cell?_of_block (hg.block gb (by omega) (hne gb (by omega)))
  rw [h2, h1]; exact h.cell
 ·exact (h.bel.alloc h.bel.size _).grown hg (by have := h.bel.size; simp; omega) (fun x hx => by have := hge x hx; have := h.ge; omega)
 ·have := hg.size; omega
def lenOf : Value → Nat
 | .slice _ l _ => l
 | _ => 0

/-- What holds at every jump. -/
def OrdJ (w : World) (n : Nat) (g : List (Nat × Nat)) (a' : Act) (w' : World) : Prop :=
 ∃ (k bb cv : Nat) (Av : Option Addr) (u0 u2 u3 u4 u8 u9 u10 u11 u12 u13 u14 u15 u16 u17 u18 u19 u20 u21 u22 u23 u24 u25 u26 u27 u28 u29 u30 u31 u32 u33 u34 u35 u36 u37 u38 u39 u40 u41 u42 u43 u44 u45 u46 u47 u48 : Value), a' = { tmps := #[u0, .pointer (some ⟨w.heap.size, 0, none⟩), u2, u3, u4, .pointer (some ⟨bb, 0, none⟩), .slice Av k cv, .int .u64 ((ordS (befG g) n k).1 : Int), u8, u9, u10, u11, u12, u13, u14, u15, u16, u17, u18, u19, u20, u21, u22, u23, u24, u25, u26, u27, u28, u29, u30, u31, u32, u33, u34, u35, u36, u37, u38, u39, u40, u41, u42, u43, u44, u45, u46, u47, u48], defers := [] } ∧ OrdAt w' w.heap.size bb w n g k (.slice Av k cv)
set_option maxRecDepth 100000 in
set_option maxHeartbeats 1000000 in
theorem order_any {w : World} {B m c n : Nat} {A : Option Addr} {g : List (Nat × Nat)} (hx : RdEg w B A m g) (hi : InN n g) (hn : n ≤ 64) (hm : m ≤ 4096) (hB : B ≤ w.heap.size) :
  Calls Try.prog 83 #[.agg #[.int .i64 (n : Int), .slice A m c]] w (OrdPost g n w) := by
 have HX := Lib.hid hx
 have HI := Lib.hid hi
 have HL := Lib.hid hx.len
 have HR := Lib.hid (graphR_cast hi hn (by rw [hx.len]; exact hm))
 have HSM := Lib.hid (befG_small hi hn)
 clear hx hi
 go_enter Try.func83, Try.ntmps83
 go_wp2_with fail
 refine wp_scope_jumps 0 (OrdJ w n g) (fun a' w' => n - lenOf (a'.tmps.getD 6 undef)) rfl ?first ?pass
 case' first =>
  go_wp2_with fail
  refine (check_yes (RdE.alloc HX.out hB _) HR.out (by simp; omega)).mono ?_
  rintro e w1 ⟨rfl, hb⟩
  obtain ⟨hcn, hcs⟩ := (boxed_alloc w (n : Int) A m c 133).below hb (by simp)
  have HBW : Hid (Below w.heap.size w w1) := Lib.hid (((Below.refl _ _).alloc (Nat.le_refl _) _).trans (hb.mono (by simp)))
  have hsz1 : w.heap.size < w1.heap.size := by have := hb.size; simp at this; omega
  clear hb
  go_wp2_with fail
  refine (before_any (HX.out.below (HBW.out.mono hB)) (by omega) HI.out hn hm).mono ?_
  rintro e w2 ⟨rfl, hb⟩
  have hcn2 := (hb.cell (p := ⟨w.heap.size, 0, none⟩) hsz1).trans hcn
  have HB2 : Hid (Below w.heap.size w w2) := Lib.hid (HBW.out.trans (hb.mono (by omega)))
  have hsz2 : w.heap.size < w2.heap.size := by have := hb.size; omega
  clear hb hcn hcs
  have HZ := Lib.hid (sets_size (befG g))
  go_wp2_with (refine wpList_store_mid rfl 141 _ _ rfl w2.heap.size 0 (cellsU (befG g)) rfl rfl ?_ HZ.out (cellsU_one _) ?_)
  ·rw [cellsU_size]
   intro j hj
   have h1 := (rowU_new w2 zeros).there 64 rfl j hj
   rw [zeros_cells] at h1
   exact h1
  have HW3 : ∃ W3, Hid (OrdAt W3 w.heap.size w2.heap.size w n g 0 (.slice none 0 0)) ∧ W3 = (w2.alloc (.cells (cellsU zeros) 141)).setCells w2.heap.size 0 (cellsU (befG g)).toList := by
   have hr := (rowU_new w2 zeros).stored (f := befG g)
   have hb : Below w2.heap.size w2 ((w2.alloc (.cells (cellsU zeros) 141)).setCells w2.heap.size 0 (cellsU (befG g)).toList) := below_setCells (Nat.le_refl _) _ _ _ ((Below.refl _ _).alloc (Nat.le_refl _) _)
   refine ⟨_, Lib.hid ⟨Goes.zero _ _, Own.nil_ _ _, hr, ?_, ?_, World.rowIs.lt hr, hsz2⟩, rfl⟩
   ·rw [hb.cell (p := ⟨w.heap.size, 0, none⟩) hsz2]; exact hcn2
   ·exact HB2.out.trans (hb.mono (by omega))
  obtain ⟨wr, HO0, hW⟩ := HW3
  rw [zeros_cells] at hW
  simp only [Array.replicate, List.replicate] at hW
  rw [← hW]
  clear hW
  go_step3
  obtain ⟨k, bb, cv, Av, hk0, hbb, hsv, HO⟩ : ∃ (k bb cv : Nat) (Av : Option Addr), Hid (Value.int .u64 0 = .int .u64 ((ordS (befG g) n k).1 : Int)) ∧ Hid (w2.heap.size = bb) ∧ Hid (Value.slice none 0 0 = .slice Av k cv) ∧ Hid (OrdAt wr w.heap.size bb w n g k (.slice Av k cv)) :=
   ⟨0, _, 0, none, Lib.hid rfl, Lib.hid rfl, Lib.hid rfl, HO0⟩
  rw [hk0.out, hbb.out, hsv.out]
  clear hk0 hbb hsv hcn2 HBW HB2 hsz1 hsz2 HZ HO0 w2 w1
 case' pass =>
  rintro a' wr ⟨k, bb, cv, Av, u0, u2, u3, u4, u8, u9, u10, u11, u12, u13, u14, u15, u16, u17, u18, u19, u20, u21, u22, u23, u24, u25, u26, u27, u28, u29, u30, u31, u32, u33, u34, u35, u36, u37, u38, u39, u40, u41, u42, u43, u44, u45, u46, u47, u48, rfl, hO⟩
  have HO := Lib.hid hO
  clear hO
 all_goals
  have hkn := HO.out.bound
  have hcn := HO.out.cell
  have HSL := Lib.hid (ordS_lt (befG g) hn k)
  go_wp2_with fail
  go_loop [6, 7, 18] (fun v s i => ∃ q : Nat, q ≤ n ∧ i = .int .i64 (q : Int) ∧ v = .slice Av k cv ∧ s = .int .u64 ((ordS (befG g) n k).1 : Int) ∧ Hid (∀ u, u < q → rdy (befG g) (ordS (befG g) n k).1 u = false)) (fun _ _ i => n - (intOf i).toNat)
  case atStart => exact ⟨0, by omega, rfl, rfl, rfl, Lib.hid (fun u hu => absurd hu (by omega))⟩
  case round =>
   obtain ⟨q, hq, rfl, rfl, rfl, HL0⟩ := hrel
   by_cases hlt : q < n
   ·have hq64 : q < 64 := by omega
    have hq65 : (q : Int) < 64 := by omega
    have hcell := HO.out.row.cell hq64
    have HA := Lib.hid (andn_bool (HSM.out q) HSL.out)
    have HS := Lib.hid (or_spell2 HSL.out hq64)
    cases hb : bt (ordS (befG g) n k).1 q with
    | true =>
     have HQ : Hid (rdy (befG g) (ordS (befG g) n k).1 q = false) := Lib.hid (by unfold rdy; rw [hb]; rfl)
     have HB := Lib.hid hb
     clear hb
     go_wp2_with (go_at_call 91; refine (hasD_any HSL.out hq64).mono ?_; rintro e w' ⟨rfl, rfl⟩; rw [HB.out])
     go_round
     case rel => exact ⟨q + 1, by omega, by go_num, rfl, rfl, Lib.hid (fun u hu => by
      by_cases he : u = q
      ·rw [he]; exact HQ.out
      ·exact HL0.out u (by omega))⟩
     case measure => simp [intOf]; omega
    | false =>
     have HB := Lib.hid hb
     clear hb
     by_cases hz : andn (befG g q) (ordS (befG g) n k).1 = 0
     ·have HQ : Hid (rdy (befG g) (ordS (befG g) n k).1 q = true) := Lib.hid (by unfold rdy; rw [HB.out, hz]; rfl)
      have hqq : (bits BinOp.andNot IntKind.u64 (befG g q : Int) ((ordS (befG g) n k).1 : Int) == 0) = true := by rw [HA.out, hz]; rfl
      clear hz
      go_wp2_with (first
       | (go_at_call 91; refine (hasD_any HSL.out hq64).mono ?_; rintro e w' ⟨rfl, rfl⟩; rw [HB.out])
       | (at_builtin; refine wpl_app rfl (.tmp 33) (.tmp 35) rfl (bb + 1) _ k _ rfl (HO.out.own.alloc _) wr.heap.size (q : Int) rfl (by simp) (by omega) (by have := HO.out.lt; simp; omega) ?_; intro g' c' w1 hown1 hge1 hgr1 hat1))
      obtain ⟨hO1, hS1⟩ := HO.out.step (o := .cells #[.int .i64 (q : Int)] 3) HO.out.ge hlt HQ.out HL0.out hown1 hgr1
      have hk1 : k + 1 ≤ n := hO1.bound
      have HO1 := Lib.hid hO1
      rw [HS.out, ← hS1]
      clear hown1 hgr1 hat1 hO1 hS1
      go_step3
      refine And.intro rfl ?_
      first
       | exact ⟨k + 1, bb, c', some ⟨g', 0, none⟩, _, _, _, _, _, _, _, _, _, _, _, _, _, _, _, _, _, _, _, _, _, _, _, _, _, _, _, _, _, _, _, _, _, _, _, _, _, _, _, _, _, _, _, _, _, rfl, HO1.out⟩
       | exact And.intro ⟨k + 1, bb, c', some ⟨g', 0, none⟩, _, _, _, _, _, _, _, _, _, _, _, _, _, _, _, _, _, _, _, _, _, _, _, _, _, _, _, _, _, _, _, _, _, _, _, _, _, _, _, _, _, _, _, _, _, rfl, HO1.out⟩ (by simp [lenOf]; omega)
     ·have HQ : Hid (rdy (befG g) (ordS (befG g) n k).1 q = false) := Lib.hid (by unfold rdy; rw [HB.out, decide_eq_false hz]; rfl)
      have hqq : (bits BinOp.andNot IntKind.u64 (befG g q : Int) ((ordS (befG g) n k).1 : Int) == 0) = false := by rw [HA.out, decide_eq_false hz]
      clear hz
      go_wp2_with (go_at_call 91; refine (hasD_any HSL.out hq64).mono ?_; rintro e w' ⟨rfl, rfl⟩; rw [HB.out])
      go_round
      case rel => exact ⟨q + 1, by omega, by go_num, rfl, rfl, Lib.hid (fun u hu => by
       by_cases he : u = q
       ·rw [he]; exact HQ.out
       ·exact HL0.out u (by omega))⟩
      case measure => simp [intOf]; omega
   ·obtain rfl : q = n := by omega
    by_cases hkq : k < q
    ·go_wp2
     simp only [Exit.jump]
     go_ret2
     exact ⟨HO.out.bel, .inr ⟨HO.out.none_ HL0.out hkq, rfl⟩⟩
    ·obtain rfl : k = q := by omega
     go_wp2
     simp only [Exit.jump]
     go_ret2
     exact ⟨HO.out.bel, .inl ⟨HO.out.goes, Av, cv, rfl, HO.out.own.less (by have := HO.out.ge; omega)⟩⟩
end Go.Proofs.Ytolgmoaoheflcaa.Sa
