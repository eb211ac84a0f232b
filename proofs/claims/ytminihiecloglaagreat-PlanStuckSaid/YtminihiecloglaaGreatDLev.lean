/-
 MERGED: DReach DThin DLev DPath DFromP DLevLaw.
-/
import Derived.Test.YtminihiecloglaaGreatDOrder
import Derived.Test.YtminihiecloglaaGreatInv
import Derived.Test.YtminihiecloglaaGreatDRow
import Derived.Deep.DeepCutAuto
import Derived.Deep.QuietTactic
import Derived.BigQuiet
import Derived.Deep.RegionHeld3
set_option linter.unusedVariables false
set_option linter.unusedSimpArgs false
namespace Go.Proofs.YtminihiecloglaaGreat
open Go.RowKit
open DiP
structure RchAt (wr : World) (gb bb : Nat) (w : World) (n : Nat) (f : Nat → Nat) : Prop where
 row : RowU wr bb f
 ret : RowU wr (gb + 1) zeros
 cell : wr.cell? ⟨gb, 0, none⟩ = some (.int .i64 (n : Int))
 bel : Below w.heap.size w wr
 ge : gb + 1 < bb
 gb : w.heap.size ≤ gb
theorem RchAt.set {wr w : World} {gb bb n : Nat} {f : Nat → Nat} (h : RchAt wr gb bb w n f) (i x : Nat) : RchAt (wr.drew.setCell ⟨bb, i, none⟩ (.int .u64 (x : Int))) gb bb w n (upd f i x) :=
 ⟨h.row.drew.set i x, h.ret.drew.other (by have := h.ge; simp; omega) _,
  by rw [World.cell?_setCell_other _ _ _ _ (fun e => by injection e; have := h.ge; omega)]; exact h.cell,
  (below_drewN h.bel 1).setCell (by have := h.ge; have := h.gb; simp; omega) _, h.ge, h.gb⟩
end Go.Proofs.YtminihiecloglaaGreat
namespace Go.Proofs.YtminihiecloglaaGreat
open Go.RowKit
open DiP
def pcells : List (Nat × Nat) → List Value
 | [] => []
 | e :: r => .int .i64 (e.1 : Int) :: .int .i64 (e.2 : Int) :: pcells r
def OwnP (w : World) (base : Nat) (v : Value) (l : List (Nat × Nat)) : Prop := w.ownsRow base 91 2 v l.length (pcells l)
section
variable {w w' : World} {base : Nat} {v : Value} {l : List (Nat × Nat)}
theorem OwnP.nil_ (w : World) (base : Nat) : OwnP w base (.slice none 0 0) [] := World.ownsRow_nil _ _ _ _
theorem OwnP.shape (h : OwnP w base v l) : ∃ A c, v = .slice A l.length c := by
 rcases h.2 with ⟨rfl, h0⟩ | ⟨g, cap, cur, rfl, _⟩
 ·exact ⟨none, 0, by rw [h0]⟩
 ·exact ⟨some ⟨g, 0, none⟩, cap, rfl⟩
theorem OwnP.ge (h : OwnP w base v l) : ∀ g, v.ownBlock = some g → base ≤ g := by
 intro g hg
 rcases h.2 with ⟨rfl, _⟩ | ⟨g', cap, cur, rfl, hb, _⟩
 ·cases hg
 ·have : g' = g := by simpa [Value.ownBlock] using hg
  omega
theorem OwnP.alloc (h : OwnP w base v l) (o : Obj) : OwnP (w.alloc o) base v l := World.ownsRow.alloc h o
theorem OwnP.less {base' : Nat} (h : OwnP w base v l) (hb : base' ≤ base) : OwnP w base' v l := by
 refine ⟨h.1, ?_⟩
 rcases h.2 with h | ⟨g, cap, cur, hv, hg, r⟩
 ·exact .inl h
 ·exact .inr ⟨g, cap, cur, hv, by omega, r⟩
end
structure ThAt (wr : World) (w : World) (x y base n : Nat) (g : List (Nat × Nat)) (v : Value) (l : List (Nat × Nat)) : Prop where
 rx : RowU wr x (aftG g)
 ry : RowU wr y (rchG n g)
 cell : wr.cell? ⟨w.heap.size, 0, none⟩ = some (.int .i64 (n : Int))
 bel : Below w.heap.size w wr
 own : OwnP wr base v l
 lx : x < base
 ly : y < base
 lw : w.heap.size < base
 lb : base ≤ wr.heap.size
theorem ThAt.step {wr w w1 : World} {x y base n : Nat} {g : List (Nat × Nat)} {v v' : Value} {l l' : List (Nat × Nat)} {o : Obj} (h : ThAt wr w x y base n g v l)
  (ho : OwnP w1 base v' l') (hg : (wr.alloc o).grownBy w1 v.ownBlock) : ThAt w1 w x y base n g v' l' := by
 have hge := h.own.ge
 have hne : ∀ z, z < base → some z ≠ v.ownBlock := fun z hz e => by have := hge z e.symm; omega
 have hlt : ∀ z, z < base → z < (wr.alloc o).heap.size := fun z hz => by have := h.lb; simp; omega
 refine ⟨World.rowIs.of_block (h.rx.alloc o) (hg.block x (hlt x h.lx) (hne x h.lx)), World.rowIs.of_block (h.ry.alloc o) (hg.block y (hlt y h.ly) (hne y h.ly)), ?_, ?_, ho, h.lx, h.ly, h.lw, ?_⟩
 ·have h1 : (wr.alloc o).cell? ⟨w.heap.size, 0, none⟩ = wr.cell? ⟨w.heap.size, 0, none⟩ := World.cell?_alloc_lt wr o _ (by have := h.lb; have := h.lw; simp; omega)
  have h2 : w1.cell? ⟨w.heap.size, 0, none⟩ = (wr.alloc o).cell? ⟨w.heap.size, 0, none⟩ := World.cell?_of_block (hg.block w.heap.size (hlt _ h.lw) (hne _ h.lw))
  rw [h2, h1]; exact h.cell
 ·exact (h.bel.alloc h.bel.size _).grown hg (by have := h.bel.size; simp; omega) (fun z hz => by have := hge z hz; have := h.lw; omega)
 ·have := hg.size; have := h.lb; simp at *; omega
structure ThinI (w : World) (n m c : Nat) (A : Option Addr) (g : List (Nat × Nat)) (b0 b1 b2 b3 b4 b5 b6 b7 : Bool) (v21 v22 v23 v24 v6 v7 : Value) (w' : World) : Prop where
 bel : Below w.heap.size w w'
 box : Boxed w' w.heap.size n A m c
 gt : w.heap.size < w'.heap.size
 h0 : b0 = true → v21 = .agg #[.int .i64 (n : Int), .slice A m c]
 h1 : b1 = true → v22 = .agg (cellsU (aftG g))
 h2 : b2 = true → v23 = .agg #[.int .i64 (n : Int), .slice A m c]
 h3 : b3 = true → v24 = .agg (cellsU (rchG n g))
 h4 : b4 = true → ∃ x, v6 = .pointer (some ⟨x, 0, none⟩) ∧ w.heap.size < x ∧ RowU w' x (if b6 then aftG g else zeros)
 h5 : b5 = true → ∃ y, v7 = .pointer (some ⟨y, 0, none⟩) ∧ w.heap.size < y ∧ RowU w' y (if b7 then rchG n g else zeros)
 ne : b4 = true → b5 = true → v6 ≠ v7
 h6 : b6 = true → b4 = true
 h7 : b7 = true → b5 = true
section
variable {w w' w2 : World} {n m c : Nat} {A : Option Addr} {g : List (Nat × Nat)} {b0 b1 b2 b3 b4 b5 b6 b7 : Bool} {v21 v22 v23 v24 v6 v7 : Value}
theorem ThinI.call (h : ThinI w n m c A g b0 b1 b2 b3 b4 b5 b6 b7 v21 v22 v23 v24 v6 v7 w') (hb : Below w'.heap.size w' w2) : ThinI w n m c A g b0 b1 b2 b3 b4 b5 b6 b7 v21 v22 v23 v24 v6 v7 w2 :=
 ⟨h.bel.trans (hb.mono h.bel.size), h.box.below hb h.gt, Nat.lt_of_lt_of_le h.gt hb.size, h.h0, h.h1, h.h2, h.h3,
  fun hb4 => by
   obtain ⟨x, e, hx, hr⟩ := h.h4 hb4
   exact ⟨x, e, hx, hr.below hb (World.rowIs.lt hr)⟩,
  fun hb5 => by
   obtain ⟨y, e, hy, hr⟩ := h.h5 hb5
   exact ⟨y, e, hy, hr.below hb (World.rowIs.lt hr)⟩, h.ne, h.h6, h.h7⟩
end
end Go.Proofs.YtminihiecloglaaGreat
namespace Go.Proofs.YtminihiecloglaaGreat
open Go.RowKit
open DiP
def levL (n : Nat) (f : Nat → Nat) : List Int := (List.range n).map fun i => (f i : Int)
theorem levL_set {n : Nat} (f : Nat → Nat) {i : Nat} (x : Nat) (h : i < n) : (levL n f).set i (x : Int) = levL n (upd f i x) := by
 apply List.ext_getElem?
 intro j
 rw [List.getElem?_set]
 by_cases hj : i = j
 ·subst hj; simp [levL, h, upd]
 ·rw [if_neg hj]
  unfold levL upd
  rw [List.getElem?_map, List.getElem?_map]
  by_cases hl : j < n
  ·have hji : ¬ j = i := fun e => hj e.symm
   simp [hl, hji]
  ·simp [hl]
structure LvAt (wr : World) (w w3 : World) (bb lb n : Nat) (g : List (Nat × Nat)) (A : Option Addr) (f : Nat → Nat) : Prop where
 row : RowU wr bb (befG g)
 own : Own wr lb (.slice (some ⟨lb, 0, none⟩) n n) n (levL n f)
 ord : Rd wr w3.heap.size A n (ints (ordA (befG g) n))
 cell : wr.cell? ⟨w.heap.size, 0, none⟩ = some (.int .i64 (n : Int))
 bel : Below w.heap.size w wr
 l1 : w.heap.size < w3.heap.size
 l2 : w3.heap.size ≤ bb
 l3 : bb < lb
theorem LvAt.set {wr w w3 : World} {bb lb n : Nat} {g : List (Nat × Nat)} {A : Option Addr} {f : Nat → Nat} (h : LvAt wr w w3 bb lb n g A f) (i x : Nat) (hi : i < n) :
  LvAt (wr.drew.setCell ⟨lb, i, none⟩ (.int .i64 (x : Int))) w w3 bb lb n g A (upd f i x) :=
 ⟨h.row.drew.other (by have := h.l3; simp; omega) _, by rw [← levL_set f x hi]; exact Own.store (Own.drew h.own) i _,
  Rd.setCell (Rd.drew h.ord) (by have := h.l2; have := h.l3; simp; omega) _,
  by rw [World.cell?_setCell_other _ _ _ _ (fun e => by injection e; have := h.l1; have := h.l2; have := h.l3; omega)]; exact h.cell,
  (below_drewN h.bel 1).setCell (by have := h.l1; have := h.l2; have := h.l3; simp; omega) _, h.l1, h.l2, h.l3⟩
end Go.Proofs.YtminihiecloglaaGreat
namespace Go.Proofs.YtminihiecloglaaGreat.DiP
theorem bt_thr (r : Nat → Nat) {mid n v : Nat} (hv : v < n) (u : Nat) : bt (thrJ r mid n v) u = (bt (r v) u || (bt (r v) mid && bt (r mid) u)) := by
 unfold thrJ
 by_cases h : bt (r v) mid = true
 ·rw [if_pos ⟨hv, h⟩, bt_orn, h]; simp
 ·rw [if_neg (fun e => h e.2)]
  simp at h
  rw [h]; simp
inductive Way (g : List (Nat × Nat)) : Nat → Nat → Prop
 | one {u v : Nat} : E g u v → Way g u v
 | more {u v x : Nat} : Way g u v → E g v x → Way g u x
theorem Way.trans {g : List (Nat × Nat)} {u v x : Nat} (h : Way g u v) (k : Way g v x) : Way g u x := by
 induction k with
 | one e => exact .more h e
 | more _ e ih => exact .more ih e
theorem Way.lt {g : List (Nat × Nat)} {n u v : Nat} (hi : InN n g) (h : Way g u v) : u < n ∧ v < n := by
 induction h with
 | one e => exact e.lt hi
 | more _ e ih => exact ⟨ih.1, (e.lt hi).2⟩
theorem rchK_way {g : List (Nat × Nat)} {n : Nat} (hi : InN n g) : ∀ k, k ≤ n → ∀ u v, u < n → bt (rchK n g k u) v = true → Way g u v := by
 intro k
 induction k with
 | zero => intro _ u v _ h; exact .one ((bt_aftG g v u).1 h)
 | succ k ih =>
  intro hk u v hu h
  have h' : bt (thrJ (rchK n g k) k n u) v = true := h
  rw [bt_thr _ hu] at h'
  simp only [Bool.or_eq_true, Bool.and_eq_true] at h'
  rcases h' with h1 | ⟨h1, h2⟩
  ·exact ih (by omega) u v hu h1
  ·exact (ih (by omega) u k hu h1).trans (ih (by omega) k v (by omega) h2)
theorem rchK_trans {g : List (Nat × Nat)} {n : Nat} (hi : InN n g) : ∀ k, k ≤ n → ∀ a b c, a < n → b < k → bt (rchK n g k a) b = true → bt (rchK n g k b) c = true → bt (rchK n g k a) c = true := by
 intro k
 induction k with
 | zero => intro _ a b c _ h; omega
 | succ k ih =>
  intro hk a b c ha hb h1 h2
  have t := ih (by omega)
  have e1 : bt (thrJ (rchK n g k) k n a) b = true := h1
  have e2 : bt (thrJ (rchK n g k) k n b) c = true := h2
  show bt (thrJ (rchK n g k) k n a) c = true
  rw [bt_thr _ ha] at e1 ⊢
  rw [bt_thr _ (show b < n by omega)] at e2
  simp only [Bool.or_eq_true, Bool.and_eq_true] at e1 e2 ⊢
  by_cases hbk : b = k
  ·subst hbk
   have ha1 : bt (rchK n g b a) b = true := by rcases e1 with h | h; exact h; exact h.1
   have hb1 : bt (rchK n g b b) c = true := by rcases e2 with h | h; exact h; exact h.2
   exact .inr ⟨ha1, hb1⟩
  ·have hbl : b < k := by omega
   rcases e1 with p | ⟨p1, p2⟩
   ·rcases e2 with q | ⟨q1, q2⟩
    ·exact .inl (t a b c ha hbl p q)
    ·exact .inr ⟨t a b k ha hbl p q1, q2⟩
   ·rcases e2 with q | ⟨q1, q2⟩
    ·exact .inr ⟨p1, t k b c (by omega) hbl p2 q⟩
    ·exact .inr ⟨p1, q2⟩
theorem rchK_more {g : List (Nat × Nat)} {n : Nat} : ∀ k, ∀ u v, u < n → E g u v → bt (rchK n g k u) v = true := by
 intro k
 induction k with
 | zero => intro u v _ e; exact (bt_aftG g v u).2 e
 | succ k ih =>
  intro u v hu e
  show bt (thrJ (rchK n g k) k n u) v = true
  rw [bt_thr _ hu, ih u v hu e]; rfl
theorem rch_way {g : List (Nat × Nat)} {n : Nat} (hi : InN n g) {u v : Nat} (hu : u < n) : bt (rchG n g u) v = true ↔ Way g u v := by
 constructor
 ·exact rchK_way hi n (Nat.le_refl _) u v hu
 ·intro h
  induction h with
  | one e => exact rchK_more n _ _ hu e
  | more k e ih => exact rchK_trans hi n (Nat.le_refl _) _ _ _ hu (k.lt hi).2 ih (rchK_more n _ _ (k.lt hi).2 e)
theorem goes_of_rank {g : List (Nat × Nat)} {n : Nat} (hi : InN n g) (hn : n ≤ 64) (ρ : Nat → Nat) (h : ∀ u v, E g u v → ρ u < ρ v) : Goes (befG g) n n := by
 have key : ∀ (s : Nat), s < lim → cnt s n < n → ∀ b, (∃ u, u < n ∧ bt s u = false ∧ ρ u ≤ b) → ∃ v, v < n ∧ rdy (befG g) s v = true := by
  intro s hs hc b
  induction b using Nat.strongRecOn with
  | _ b ih =>
   rintro ⟨u, hu, hbu, hr⟩
   by_cases hz : ∀ x, bt (befG g u) x = true → bt s x = true
   ·refine ⟨u, hu, ?_⟩
    unfold rdy
    rw [hbu, (andn_zero (befG_small hi hn u) hs).2 hz]; rfl
   ·obtain ⟨x, hx⟩ := Classical.not_forall.1 hz
    have hx1 : bt (befG g u) x = true := by
     cases hb : bt (befG g u) x with
     | true => rfl
     | false => exact absurd (fun h => by rw [hb] at h; cases h) hx
    have hx2 : bt s x = false := by
     cases hb : bt s x with
     | false => rfl
     | true => exact absurd (fun _ => hb) hx
    have e := (bt_befG g x u).1 hx1
    have hlt := h x u e
    exact ih (ρ x) (by omega) ⟨x, (e.lt hi).1, hx2, Nat.le_refl _⟩
 have step : ∀ k, k ≤ n → Goes (befG g) n k := by
  intro k
  induction k with
  | zero => intro _; exact Goes.zero _ _
  | succ k ih =>
   intro hk
   have hg := ih (by omega)
   have hc : cnt (ordS (befG g) n k).1 n < n := by rw [ordS_cnt, hg]; omega
   have hex : ∃ u, u < n ∧ bt (ordS (befG g) n k).1 u = false := by
    apply Classical.byContradiction
    intro hno
    have hall : ∀ u, u < n → bt (ordS (befG g) n k).1 u = true := fun u hu => by
     cases hb : bt (ordS (befG g) n k).1 u with
     | true => rfl
     | false => exact absurd ⟨u, hu, hb⟩ hno
    have : ∀ m, m ≤ n → cnt (ordS (befG g) n k).1 m = m := by
     intro m
     induction m with
     | zero => intro _; rfl
     | succ m ih => intro hm; unfold cnt; rw [ih (by omega), hall m (by omega)]; rfl
    have := this n (Nat.le_refl _)
    omega
   obtain ⟨u, hu, hbu⟩ := hex
   obtain ⟨v, hv, hr⟩ := key _ (ordS_lt _ hn k) hc (ρ u) ⟨u, hu, hbu, Nat.le_refl _⟩
   cases hl : lowest (befG g) (ordS (befG g) n k).1 n with
   | some x => exact hg.step hl
   | none => have := lowest_no hl v hv; rw [this] at hr; cases hr
 exact step n (Nat.le_refl _)
theorem way_rank {g : List (Nat × Nat)} {ρ : Nat → Nat} (h : ∀ u v, E g u v → ρ u < ρ v) {u v : Nat} (k : Way g u v) : ρ u < ρ v := by
 induction k with
 | one e => exact h _ _ e
 | more _ e ih => exact Nat.lt_trans ih (h _ _ e)
end Go.Proofs.YtminihiecloglaaGreat.DiP
namespace Go.Proofs.YtminihiecloglaaGreat.DiP
def updF (f : Nat → Bool) (i : Nat) : Nat → Bool := fun v => if v = i then true else f v
theorem updF_self (f : Nat → Bool) (i : Nat) : updF f i i = true := if_pos rfl
theorem updF_of {f : Nat → Bool} {i v : Nat} (h : f v = true) : updF f i v = true := by unfold updF; split; rfl; exact h
theorem updF_cases {f : Nat → Bool} {i v : Nat} (h : updF f i v = true) : v = i ∨ f v = true := by
 unfold updF at h; split at h
 ·exact .inl ‹_›
 ·exact .inr h
def cf (f : Nat → Bool) : Nat → Nat
 | 0 => 0
 | k + 1 => cf f k + (if f k = true then 1 else 0)
theorem cf_le (f : Nat → Bool) : ∀ k, cf f k ≤ k := by
 intro k
 induction k with
 | zero => exact Nat.le_refl _
 | succ k ih => unfold cf; split <;> omega
theorem cf_upd {f : Nat → Bool} {i : Nat} (h : f i = false) : ∀ k, cf (updF f i) k = cf f k + (if i < k then 1 else 0) := by
 intro k
 induction k with
 | zero => rfl
 | succ k ih =>
  unfold cf
  rw [ih]
  by_cases e : k = i
  ·subst e
   rw [updF_self, h, if_pos rfl, if_neg (Nat.lt_irrefl k), if_pos (Nat.lt_succ_self k)]
   simp
  ·have e2 : updF f i k = f k := if_neg e
   rw [e2]
   by_cases hl : i < k
   ·rw [if_pos hl, if_pos (show i < k + 1 by omega), Nat.add_right_comm]
   ·rw [if_neg hl, if_neg (show ¬ i < k + 1 by omega)]; rfl
structure FrO (g : List (Nat × Nat)) (N a : Nat) (f : Nat → Bool) (q : List Nat) : Prop where
 inq : ∀ v ∈ q, v < N
 way : ∀ v, f v = true → Way g a v
 known : ∀ v ∈ q, v = a ∨ f v = true
 shut : ∀ v, (v = a ∨ f v = true) → v ∈ q ∨ ∀ u, E g v u → f u = true
 len : q.length ≤ cf f N + 1
structure FrI (g : List (Nat × Nat)) (N a : Nat) (f : Nat → Bool) (q : List Nat) (x i : Nat) : Prop where
 inq : ∀ v ∈ q, v < N
 way : ∀ v, f v = true → Way g a v
 known : ∀ v ∈ q, v = a ∨ f v = true
 xk : x = a ∨ f x = true
 shut : ∀ v, (v = a ∨ f v = true) → v ∈ q ∨ v = x ∨ ∀ u, E g v u → f u = true
 done : ∀ k, k < i → fa g k = x → f (fb g k) = true
 len : q.length ≤ cf f N
theorem FrO.start {g : List (Nat × Nat)} {N a : Nat} (ha : a < N) : FrO g N a (fun _ => false) [a] :=
 ⟨fun v hv => (by simp at hv; omega), fun v h => (by cases h), fun v hv => .inl (by simpa using hv), fun v hv => .inl (by
  rcases hv with rfl | h
  ·simp
  ·cases h), by simp⟩
theorem FrO.pop {g : List (Nat × Nat)} {N a x : Nat} {f : Nat → Bool} {q : List Nat} (h : FrO g N a f (x :: q)) : FrI g N a f q x 0 :=
 ⟨fun v hv => h.inq v (List.mem_cons_of_mem _ hv), h.way, fun v hv => h.known v (List.mem_cons_of_mem _ hv), h.known x (List.mem_cons_self ..), fun v hv => by
  rcases h.shut v hv with h1 | h1
  ·rcases List.mem_cons.1 h1 with h2 | h2
   ·exact .inr (.inl h2)
   ·exact .inl h2
  ·exact .inr (.inr h1), fun k hk => absurd hk (Nat.not_lt_zero _), by have := h.len; simp at this; omega⟩
theorem FrI.skip {g : List (Nat × Nat)} {N a x i : Nat} {f : Nat → Bool} {q : List Nat} (h : FrI g N a f q x i) (hs : fa g i = x → f (fb g i) = true) : FrI g N a f q x (i + 1) :=
 ⟨h.inq, h.way, h.known, h.xk, h.shut, fun k hk he => by
  by_cases e : k = i
  ·subst e; exact hs he
  ·exact h.done k (by omega) he, h.len⟩
theorem FrI.push {g : List (Nat × Nat)} {N a x i : Nat} {f : Nat → Bool} {q : List Nat} (h : FrI g N a f q x i) (hi : InN N g) (hlt : i < g.length) (he : fa g i = x) (hn : f (fb g i) = false) : FrI g N a (updF f (fb g i)) (q ++ [fb g i]) x (i + 1) := by
 have hE : E g x (fb g i) := ⟨i, hlt, he, rfl⟩
 have hb : fb g i < N := (hi i hlt).2
 have hw : Way g a (fb g i) := by
  rcases h.xk with rfl | hx
  ·exact .one hE
  ·exact .more (h.way x hx) hE
 refine ⟨fun v hv => ?_, fun v hv => ?_, fun v hv => ?_, ?_, fun v hv => ?_, fun k hk hk2 => ?_, ?_⟩
 ·rcases List.mem_append.1 hv with hv | hv
  ·exact h.inq v hv
  ·simp at hv; omega
 ·rcases updF_cases hv with rfl | hv
  ·exact hw
  ·exact h.way v hv
 ·rcases List.mem_append.1 hv with hv | hv
  ·rcases h.known v hv with e | e
   ·exact .inl e
   ·exact .inr (updF_of e)
  ·simp at hv; subst hv; exact .inr (updF_self _ _)
 ·rcases h.xk with e | e
  ·exact .inl e
  ·exact .inr (updF_of e)
 ·have hv' : v = fb g i ∨ (v = a ∨ f v = true) := by
   rcases hv with e | e
   ·exact .inr (.inl e)
   ·rcases updF_cases e with e | e
    ·exact .inl e
    ·exact .inr (.inr e)
  rcases hv' with rfl | hv'
  ·exact .inl (List.mem_append.2 (.inr (by simp)))
  ·rcases h.shut v hv' with h1 | h1 | h1
   ·exact .inl (List.mem_append.2 (.inl h1))
   ·exact .inr (.inl h1)
   ·exact .inr (.inr fun u hu => updF_of (h1 u hu))
 ·by_cases e : k = i
  ·subst e; exact updF_self _ _
  ·exact updF_of (h.done k (by omega) hk2)
 ·rw [cf_upd hn, if_pos hb]; have := h.len; simp; omega
theorem FrI.end_ {g : List (Nat × Nat)} {N a x : Nat} {f : Nat → Bool} {q : List Nat} (h : FrI g N a f q x g.length) : FrO g N a f q :=
 ⟨h.inq, h.way, h.known, fun v hv => by
  rcases h.shut v hv with h1 | h1 | h1
  ·exact .inl h1
  ·subst h1
   refine .inr fun u hu => ?_
   obtain ⟨k, hk, h1, h2⟩ := hu
   rw [← h2]; exact h.done k hk h1
  ·exact .inr h1, by have := h.len; omega⟩
theorem FrO.all {g : List (Nat × Nat)} {N a : Nat} {f : Nat → Bool} (h : FrO g N a f []) (hi : InN N g) (ha : a < N) : ∀ v, f v = bt (rchG N g a) v := by
 have hsh : ∀ v, (v = a ∨ f v = true) → ∀ u, E g v u → f u = true := fun v hv => by
  rcases h.shut v hv with h1 | h1
  ·cases h1
  ·exact h1
 intro v
 rw [Bool.eq_iff_iff, rch_way hi ha]
 refine ⟨h.way v, fun hw => ?_⟩
 induction hw with
 | one e => exact hsh a (.inl rfl) _ e
 | more _ e ih => exact hsh _ (.inr ih) _ e
def togo (N : Nat) (f : Nat → Bool) (q : List Nat) : Nat := 2 * (N - cf f N) + q.length
theorem togo_pop (N : Nat) (f : Nat → Bool) (x : Nat) (q : List Nat) : togo N f q + 1 = togo N f (x :: q) := by unfold togo; simp; omega
theorem togo_push {N y : Nat} {f : Nat → Bool} (q : List Nat) (hn : f y = false) (hy : y < N) : togo N (updF f y) (q ++ [y]) + 1 ≤ togo N f q := by
 unfold togo
 have h1 := cf_upd hn N
 rw [if_pos hy] at h1
 have h2 := cf_le (updF f y) N
 simp; omega
end Go.Proofs.YtminihiecloglaaGreat.DiP
namespace Go.Proofs.YtminihiecloglaaGreat
open Go.RowKit
open DiP
theorem infoBool : (Tryz.prog.info? 4).map (fun i => (i.zero, i.size, i.bytes)) = some (some (.bool false), 1, 1) := by kernel_rfl
def bx (bs : List Bool) (i : Nat) : Bool := bs.getD i false
def OwnB (w : World) (base : Nat) (v : Value) (n : Nat) (bs : List Bool) : Prop := w.ownsRow base 4 1 v n (bs.map Value.bool)
section
variable {w w' : World} {base n c g : Nat} {v : Value} {bs : List Bool}
theorem OwnB.len (h : OwnB w base v n bs) : bs.length = n := by simpa using h.1
theorem OwnB.cell (h : OwnB w base (.slice (some ⟨g, 0, none⟩) n c) n bs) {j : Nat} (hj : j < n) : w.cell? ⟨g, j, none⟩ = some (.bool (bx bs j)) := by
 have hl : j < bs.length := by rw [h.len]; exact hj
 rw [h.cellAt j (by omega)]
 simp [bx, List.getD, hl]
theorem OwnB.free (h : OwnB w base (.slice (some ⟨g, 0, none⟩) n c) n bs) (j : Nat) : w.frozen? ⟨g, j, none⟩ = false := h.frozenAt j
theorem OwnB.store (h : OwnB w base (.slice (some ⟨g, 0, none⟩) n c) n bs) (j : Nat) (u : Bool) : OwnB (w.setCell ⟨g, j, none⟩ (.bool u)) base (.slice (some ⟨g, 0, none⟩) n c) n (bs.set j u) := by
 have := (h.stored j (.bool u)).1
 unfold OwnB; rw [List.map_set]; exact this
theorem OwnB.far (h : OwnB w base (.slice (some ⟨g, 0, none⟩) n c) n bs) {p : Addr} (hp : g ≠ p.block) (u : Value) : OwnB (w.setCell p u) base (.slice (some ⟨g, 0, none⟩) n c) n bs := by
 refine ⟨h.1, ?_⟩
 rcases h.2 with h | ⟨g', cap, cur, hv, hbg, hh, r⟩
 ·exact .inl h
 ·refine .inr ⟨g', cap, cur, hv, hbg, ?_, r⟩
  cases hv
  rw [Below.heap_setCell w p u g hp]; exact hh
theorem Own.far {xs : List Int} (h : Own w base (.slice (some ⟨g, 0, none⟩) n c) n xs) {p : Addr} (hp : g ≠ p.block) (u : Value) : Own (w.setCell p u) base (.slice (some ⟨g, 0, none⟩) n c) n xs := by
 refine ⟨h.1, ?_⟩
 rcases h.2 with h | ⟨g', cap, cur, hv, hbg, hh, r⟩
 ·exact .inl h
 ·refine .inr ⟨g', cap, cur, hv, hbg, ?_, r⟩
  cases hv
  rw [Below.heap_setCell w p u g hp]; exact hh
end
theorem wpl_makeB {w : World} {ops : Array Oper} {rest : List Oper} {o : Oper} {a : Act} {Q : Exit → Act → World → Prop} (hgd : o.guard = none) (l c : Operand)
  (ho : o.op = Op.makeSlice 113 l c) (base n : Nat) (hl : a.eval l = .int .i64 (n : Int)) (hc : a.eval c = .int .i64 (n : Int)) (hn : n ≤ 1099511627776) (hbase : base ≤ w.heap.size)
  (h : ∀ w', OwnB w' base (.slice (some ⟨w.heap.size, 0, none⟩) n n) n (List.replicate n false) → w.grownBy w' none → wpList Tryz.prog ops Q rest (a.put o.dst (.slice (some ⟨w.heap.size, 0, none⟩) n n)) w') :
  wpList Tryz.prog ops Q (o :: rest) a w := by
 obtain ⟨i0, hi, hz0, hz1, hz2⟩ := info_parts infoBool
 refine wpList_make_full w hgd l c 113 ho base 4 i0 (.bool false) 1 Tryz.underlying113 hi hz0 hz1 .i64 .i64 n n n hl hc rfl rfl (by rw [hz2]; omega) (by unfold maxLen; omega) hbase ?_
 intro w' hown hg
 refine h w' ?_ hg
 unfold OwnB
 have e : (madeCells (Value.bool false).cells (n * 1)).toList = (List.replicate n false).map Value.bool := by
  simp only [madeCells, Value.cells, Array.toList_map, Array.toList_range, Nat.mul_one, List.map_replicate]
  refine List.eq_replicate_iff.2 ⟨by simp, fun b hb => ?_⟩
  obtain ⟨x, _, rfl⟩ := List.mem_map.1 hb
  have : x % 1 = 0 := Nat.mod_one x
  simp [this]
 rw [← e]; exact hown
def blL (n : Nat) (f : Nat → Bool) : List Bool := (List.range n).map f
theorem blL_bx {n : Nat} (f : Nat → Bool) {i : Nat} (h : i < n) : bx (blL n f) i = f i := by simp [bx, blL, List.getD, h]
def updB (f : Nat → Bool) (i : Nat) (x : Bool) : Nat → Bool := fun v => if v = i then x else f v
theorem blL_set {n : Nat} (f : Nat → Bool) {i : Nat} (x : Bool) (h : i < n) : (blL n f).set i x = blL n (updB f i x) := by
 apply List.ext_getElem?
 intro j
 rw [List.getElem?_set]
 by_cases hj : i = j
 ·subst hj; simp [blL, h, updB]
 ·rw [if_neg hj]
  unfold blL updB
  rw [List.getElem?_map, List.getElem?_map]
  by_cases hl : j < n
  ·have hji : ¬ j = i := fun e => hj e.symm
   simp [hl, hji]
  ·simp [hl]
theorem blL_none (n : Nat) : List.replicate n false = blL n (fun _ => false) := by
 apply List.ext_getElem?
 intro j
 by_cases hl : j < n <;> simp [blL, hl]
structure LlAt (wr w : World) (B lb bb n m : Nat) (A : Option Addr) (g : List (Nat × Nat)) (lev : Nat → Nat) (f : Nat → Bool) : Prop where
 own : OwnB wr bb (.slice (some ⟨bb, 0, none⟩) n n) n (blL n f)
 lev : ∀ i, i < n → wr.cell? ⟨lb, i, none⟩ = some (.int .i64 (lev i : Int))
 rd : RdEg wr B A m g
 bel : Below w.heap.size w wr
 l1 : lb < bb
 l2 : B ≤ bb
 l3 : w.heap.size ≤ bb
 l4 : bb < wr.heap.size
theorem OwnB.below {w w' : World} {B base n : Nat} {v : Value} {bs : List Bool} (h : OwnB w base v n bs) (hb : Below B w w') (hg : ∀ g, v.ownBlock = some g → g < B) : OwnB w' base v n bs := by
 refine ⟨h.1, ?_⟩
 rcases h.2 with h | ⟨g, cap, cur, hv, hbg, hh, r⟩
 ·exact .inl h
 ·refine .inr ⟨g, cap, cur, hv, hbg, ?_, r⟩
  rw [hb.block g (hg g (by rw [hv]; rfl))]
  exact hh
theorem LlAt.set {wr w : World} {B lb bb n m : Nat} {A : Option Addr} {g : List (Nat × Nat)} {lev : Nat → Nat} {f : Nat → Bool} (h : LlAt wr w B lb bb n m A g lev f) (i : Nat) (x : Bool) (hi : i < n) : LlAt (wr.setCell ⟨bb, i, none⟩ (.bool x)) w B lb bb n m A g lev (updB f i x) :=
 ⟨by rw [← blL_set f x hi]; exact h.own.store i x, fun j hj => by rw [World.cell?_setCell_other _ _ _ _ (fun e => by injection e; have := h.l1; omega)]; exact h.lev j hj,
  RdE.keep h.rd (fun p hp => World.cell?_setCell_other _ _ _ _ (fun e => by subst e; have := h.l2; simp at hp; omega)), h.bel.setCell (by have := h.l3; simp; omega) _, h.l1, h.l2, h.l3, by simpa using h.l4⟩
end Go.Proofs.YtminihiecloglaaGreat
