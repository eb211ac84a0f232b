/-
  CONTRACT of Thin of package digraph, over this translation.
-/
import Derived.Test.YtfcabdgidlnljaaDoorDReach
import Derived.Test.YtfcabdgidlnljaaDoorInv
import Derived.Deep.DeepCutAuto
namespace Go.Proofs.YtfcabdgidlnljaaDoor
open Go.RowKit
open DiP
set_option linter.unusedVariables false

set_option maxHeartbeats 1000000 in
theorem order_bad {w : World} {B m c : Nat} {n : Int} {A : Option Addr} {es : List (Int × Int)} (hx : RdE w B A m es) (hr : ¬ GraphR n es) (hm0 : m ≤ 9223372036854775807) (hB : B ≤ w.heap.size) :
    Calls Tryd.prog 29 #[.agg #[.int .i64 n, .slice A m c]] w fun e w' => e = .returned (.tuple #[.slice none 0 0, .int .i64 20]) ∧ Below w.heap.size w w' := by
  have HX := Lib.hid hx
  have HR := Lib.hid hr
  clear hx hr
  go_enter Tryd.func29, Tryd.ntmps29
  go_wp2_with fail
  go_step3
  go_wp2_with fail
  refine (check_no (HX.out.alloc hB _) HR.out hm0 (by simp; omega)).mono ?_
  rintro e w2 ⟨rfl, hb⟩
  have HB := Lib.hid hb
  clear hb
  go_wp2
  try rw [Exit.noGoto_ret]
  go_ret2
  exact ⟨rfl, ((Below.refl _ _).alloc (Nat.le_refl _) _).trans (HB.out.mono (by simp))⟩

theorem infoPair : (Tryd.prog.info? 43).map (fun i => (i.zero, i.size, i.bytes)) = some (some (.agg #[.int .i64 0, .int .i64 0]), 2, 16) := by kernel_rfl
def pcells : List (Nat × Nat) → List Value
  | [] => []
  | e :: r => .int .i64 (e.1 : Int) :: .int .i64 (e.2 : Int) :: pcells r
theorem pcells_len (l : List (Nat × Nat)) : (pcells l).length = l.length * 2 := by
  induction l with
  | nil => rfl
  | cons e r ih => simp [pcells, ih]; omega
theorem pcells_append (l r : List (Nat × Nat)) : pcells (l ++ r) = pcells l ++ pcells r := by
  induction l with
  | nil => rfl
  | cons e l ih => simp [pcells, ih]
/-- The slice value v, of pairs, made by the call itself, reads as l. -/
def OwnP (w : World) (base : Nat) (v : Value) (l : List (Nat × Nat)) : Prop := w.ownsRow base 43 2 v l.length (pcells l)
section
variable {w w' : World} {base : Nat} {v : Value} {l : List (Nat × Nat)}
theorem OwnP.nil_ (w : World) (base : Nat) : OwnP w base (.slice none 0 0) [] := World.ownsRow_nil _ _ _ _
theorem OwnP.shape (h : OwnP w base v l) : ∃ A c, v = .slice A l.length c := by
  rcases h.2 with ⟨rfl, h0⟩ | ⟨g, cap, cur, rfl, _⟩
  · exact ⟨none, 0, by rw [h0]⟩
  · exact ⟨some ⟨g, 0, none⟩, cap, rfl⟩
theorem OwnP.ge (h : OwnP w base v l) : ∀ g, v.ownBlock = some g → base ≤ g := by
  intro g hg
  rcases h.2 with ⟨rfl, _⟩ | ⟨g', cap, cur, rfl, hb, _⟩
  · cases hg
  · have : g' = g := by simpa [Value.ownBlock] using hg
    omega
theorem OwnP.alloc (h : OwnP w base v l) (o : Obj) : OwnP (w.alloc o) base v l := World.ownsRow.alloc h o
theorem OwnP.less {base' : Nat} (h : OwnP w base v l) (hb : base' ≤ base) : OwnP w base' v l := by
  refine ⟨h.1, ?_⟩
  rcases h.2 with h | ⟨g, cap, cur, hv, hg, r⟩
  · exact .inl h
  · exact .inr ⟨g, cap, cur, hv, by omega, r⟩
end
/-- 'append(s, x)', s the call's own: s grows by one pair. -/
theorem wpl_appP {w : World} {ops : Array Oper} {rest : List Oper} {o : Oper} {a : Act} {Q : Exit → Act → World → Prop} (hgd : o.guard = none) (s x : Operand)
    (ho : o.op = .call { callee := .builtin .append, args := #[s, x], argTypes := #[22, 22] })
    (base : Nat) (v : Value) (l : List (Nat × Nat)) (hs : a.eval s = v) (hown : OwnP w base v l)
    (b p q : Nat) (hx : a.eval x = .slice (some ⟨b, 0, none⟩) 1 1) (hc0 : w.cell? ⟨b, 0, none⟩ = some (.int .i64 (p : Int))) (hc1 : w.cell? ⟨b, 1, none⟩ = some (.int .i64 (q : Int))) (hn : l.length ≤ 1099511627776) (hbase : base ≤ w.heap.size)
    (h : ∀ g c w', OwnP w' base (.slice (some ⟨g, 0, none⟩) (l.length + 1) c) (l ++ [(p, q)]) → w.grownBy w' v.ownBlock → wpList Tryd.prog ops Q rest (a.put o.dst (.slice (some ⟨g, 0, none⟩) (l.length + 1) c)) w') :
    wpList Tryd.prog ops Q (o :: rest) a w := by
  obtain ⟨i0, hi, hz0, hz1, hz2⟩ := info_parts infoPair
  refine wpList_append_own_at w hgd s x 22 ho base 43 i0 (.agg #[.int .i64 0, .int .i64 0]) 2 16 Tryd.underlying22 hi hz0 hz1 hz2 rfl (by decide) v l.length _ hs hown ⟨b, 0, none⟩ 1 1 [.int .i64 (p : Int), .int .i64 (q : Int)] hx rfl ?_ ?_ (by unfold maxLen; omega) (by omega) hbase ?_
  · intro j z hj
    match j, hj with
    | 0, hj => simp at hj; subst hj; simpa [Addr.add] using hc0
    | 1, hj => simp at hj; subst hj; simpa [Addr.add] using hc1
  · intro z hz
    simp at hz
    rcases hz with rfl | rfl <;> rfl
  · intro v' w' hown' hg _ hat
    have ho' : w'.ownsRow base 43 2 v' (l ++ [(p, q)]).length (pcells (l ++ [(p, q)])) := by
      rw [pcells_append, List.length_append]; exact hown'
    obtain ⟨g, c, hv, _, _⟩ := World.ownsRow.form ho' (by simp)
    rw [List.length_append] at hv
    have hv' : v' = .slice (some ⟨g, 0, none⟩) (l.length + 1) c := hv
    subst hv'
    exact h g c w' ho' hg

/-- What is left of the edges: of the nodes below k, and of k's first q. -/
def thqK (n : Nat) (aft r : Nat → Nat) (k q : Nat) : List (Nat × Nat) := thnK n aft r k ++ prsK k (andn (aft k) (furK aft r k n)) q
theorem thqK_zero (n : Nat) (aft r : Nat → Nat) (k : Nat) : thqK n aft r k 0 = thnK n aft r k := by unfold thqK; rw [show prsK k (andn (aft k) (furK aft r k n)) 0 = [] from rfl, List.append_nil]
theorem thqK_succ (n : Nat) (aft r : Nat → Nat) (k q : Nat) : thqK n aft r k (q + 1) = if bt (andn (aft k) (furK aft r k n)) q then thqK n aft r k q ++ [(k, q)] else thqK n aft r k q := by
  unfold thqK
  show thnK n aft r k ++ (if bt (andn (aft k) (furK aft r k n)) q then _ else _) = _
  split <;> simp
/-- Where the loops of Thin stand. -/
structure ThAt (wr : World) (w : World) (x y base n : Nat) (g : List (Nat × Nat)) (v : Value) (l : List (Nat × Nat)) : Prop where
  rx : RowU wr x (aftG g)
  ry : RowU wr y (rchG n g)
  cell : wr.cell? ⟨w.heap.size, 0, none⟩ = some (.int .i64 (n : Int))
  bel : Below w.heap.size w wr
  own : OwnP wr base v l
  lx : x < base
  ly : y < base
  lw : w.heap.size < base
  lb : base ≤ wr.heap.size
theorem ThAt.step {wr w w1 : World} {x y base n : Nat} {g : List (Nat × Nat)} {v v' : Value} {l l' : List (Nat × Nat)} {o : Obj} (h : ThAt wr w x y base n g v l)
    (ho : OwnP w1 base v' l') (hg : (wr.alloc o).grownBy w1 v.ownBlock) : ThAt w1 w x y base n g v' l' := by
  have hge := h.own.ge
  have hne : ∀ z, z < base → some z ≠ v.ownBlock := fun z hz e => by have := hge z e.symm; omega
  have hlt : ∀ z, z < base → z < (wr.alloc o).heap.size := fun z hz => by have := h.lb; simp; omega
  refine ⟨World.rowIs.of_block (h.rx.alloc o) (hg.block x (hlt x h.lx) (hne x h.lx)), World.rowIs.of_block (h.ry.alloc o) (hg.block y (hlt y h.ly) (hne y h.ly)), ?_, ?_, ho, h.lx, h.ly, h.lw, ?_⟩
  · have h1 : (wr.alloc o).cell? ⟨w.heap.size, 0, none⟩ = wr.cell? ⟨w.heap.size, 0, none⟩ := World.cell?_alloc_lt wr o _ (by have := h.lb; have := h.lw; simp; omega)
    have h2 : w1.cell? ⟨w.heap.size, 0, none⟩ = (wr.alloc o).cell? ⟨w.heap.size, 0, none⟩ := World.cell?_of_block (hg.block w.heap.size (hlt _ h.lw) (hne _ h.lw))
    rw [h2, h1]; exact h.cell
  · exact (h.bel.alloc h.bel.size _).grown hg (by have := h.bel.size; simp; omega) (fun z hz => by have := hge z hz; have := h.lw; omega)
  · have := hg.size; have := h.lb; simp at *; omega
/-- What Thin answers. -/
def ThinPost (g : List (Nat × Nat)) (n : Nat) (w : World) (e : Ending) (w' : World) : Prop :=
  Below w.heap.size w w' ∧ ∃ A c, e = .returned (.tuple #[.slice A (thnG n g).length c, .int .i64 0]) ∧ OwnP w' w.heap.size (.slice A (thnG n g).length c) (thnG n g)

/-- A whole row stored over another one, as an operation. -/
theorem wp_store_sets {o : Oper} {a : Act} {w : World} {K : Act → World → Prop} {Q : Exit → Act → World → Prop} (tx ty : Operand) (ho : o.op = .store 72 tx ty) (hd : o.dst = none) {b : Nat} {f f' : Nat → Nat}
    (hx : a.eval tx = .pointer (some ⟨b, 0, none⟩)) (hy : a.eval ty = .agg (cellsU f)) (hr : RowU w b f') (h : K a (w.setCells b 0 (cellsU f).toList)) : o.wp Tryd.prog a w K Q := by
  refine wp_store_mid 72 tx ty ho b 0 (cellsU f) hx hy (hr.there _ (cellsU_size _)) (sets_size f) (cellsU_one _) ?_
  rw [hd]; exact h

/-- What the two rows of Thin leave. -/
def ThinIn (w : World) (n m c : Nat) (A : Option Addr) (g : List (Nat × Nat)) (v6 v7 : Value) (w' : World) : Prop :=
  ∃ x y : Nat, v6 = .pointer (some ⟨x, 0, none⟩) ∧ v7 = .pointer (some ⟨y, 0, none⟩) ∧ RowU w' x (aftG g) ∧ RowU w' y (rchG n g) ∧ w.heap.size < x ∧ w.heap.size < y ∧ w'.cell? ⟨w.heap.size, 0, none⟩ = some (.int .i64 (n : Int)) ∧ Below w.heap.size w w'

/-- What holds in the region that makes the two rows, after whatever of its operations. -/
structure ThinI (w : World) (n m c : Nat) (A : Option Addr) (g : List (Nat × Nat)) (b0 b1 b2 b3 b4 b5 b6 b7 : Bool) (v21 v22 v23 v24 v6 v7 : Value) (w' : World) : Prop where
  bel : Below w.heap.size w w'
  box : Boxed w' w.heap.size n A m c
  gt : w.heap.size < w'.heap.size
  h0 : b0 = true → v21 = .agg #[.int .i64 (n : Int), .slice A m c]
  h1 : b1 = true → v22 = .agg (cellsU (aftG g))
  h2 : b2 = true → v23 = .agg #[.int .i64 (n : Int), .slice A m c]
  h3 : b3 = true → v24 = .agg (cellsU (rchG n g))
  h4 : b4 = true → ∃ x, v6 = .pointer (some ⟨x, 0, none⟩) ∧ w.heap.size < x ∧ RowU w' x (if b6 then aftG g else zeros)
  h5 : b5 = true → ∃ y, v7 = .pointer (some ⟨y, 0, none⟩) ∧ w.heap.size < y ∧ RowU w' y (if b7 then rchG n g else zeros)
  ne : b4 = true → b5 = true → v6 ≠ v7
  h6 : b6 = true → b4 = true
  h7 : b7 = true → b5 = true
def ThinJ (w : World) (n m c : Nat) (A A1 : Option Addr) (c1 : Nat) (g : List (Nat × Nat)) (l : Array Bool) (a' : Act) (w' : World) : Prop :=
  ∃ (b0 b1 b2 b3 b4 b5 b6 b7 : Bool) (v21 v22 v23 v24 v6 v7 : Value), l = #[b0, b1, b2, b3, b4, b5, b6, b7] ∧ a' = { tmps := List.toArray ((.agg #[.int .i64 (n : Int), .slice A m c] : Value) :: (.pointer (some ⟨w.heap.size, 0, none⟩) : Value) :: (.slice none 0 0 : Value) :: (.int .i64 0 : Value) :: (.slice A1 n c1 : Value) :: (.int .i64 0 : Value) :: v6 :: v7 :: undef :: undef :: undef :: undef :: undef :: (.tuple #[.slice A1 n c1, .int .i64 0] : Value) :: (.agg #[.int .i64 (n : Int), .slice A m c] : Value) :: (.tuple #[.slice A1 n c1, .int .i64 0] : Value) :: (.slice A1 n c1 : Value) :: (.int .i64 0 : Value) :: (.int .i64 0 : Value) :: (.bool false : Value) :: undef :: v21 :: v22 :: v23 :: v24 :: undef :: undef :: undef :: undef :: undef :: undef :: undef :: undef :: undef :: undef :: undef :: undef :: undef :: undef :: undef :: undef :: undef :: undef :: undef :: undef :: undef :: undef :: undef :: undef :: undef :: undef :: undef :: undef :: undef :: undef :: undef :: undef :: undef :: undef :: undef :: undef :: undef :: undef :: undef :: undef :: undef :: undef :: []), defers := [] } ∧ ThinI w n m c A g b0 b1 b2 b3 b4 b5 b6 b7 v21 v22 v23 v24 v6 v7 w'
section
variable {w w' w2 : World} {n m c : Nat} {A : Option Addr} {g : List (Nat × Nat)} {b0 b1 b2 b3 b4 b5 b6 b7 : Bool} {v21 v22 v23 v24 v6 v7 : Value}
theorem ThinI.call (h : ThinI w n m c A g b0 b1 b2 b3 b4 b5 b6 b7 v21 v22 v23 v24 v6 v7 w') (hb : Below w'.heap.size w' w2) : ThinI w n m c A g b0 b1 b2 b3 b4 b5 b6 b7 v21 v22 v23 v24 v6 v7 w2 :=
  ⟨h.bel.trans (hb.mono h.bel.size), h.box.below hb h.gt, Nat.lt_of_lt_of_le h.gt hb.size, h.h0, h.h1, h.h2, h.h3,
    fun hb4 => by
      obtain ⟨x, e, hx, hr⟩ := h.h4 hb4
      exact ⟨x, e, hx, hr.below hb (World.rowIs.lt hr)⟩,
    fun hb5 => by
      obtain ⟨y, e, hy, hr⟩ := h.h5 hb5
      exact ⟨y, e, hy, hr.below hb (World.rowIs.lt hr)⟩, h.ne, h.h6, h.h7⟩
theorem ThinI.alloc6 (h : ThinI w n m c A g b0 b1 b2 b3 false b5 b6 b7 v21 v22 v23 v24 v6 v7 w') (h6 : b6 = false) : ThinI w n m c A g b0 b1 b2 b3 true b5 b6 b7 v21 v22 v23 v24 (.pointer (some ⟨w'.heap.size, 0, none⟩)) v7 (w'.alloc (.cells (cellsU zeros) 72)) := by
  have h' := h.call ((Below.refl _ _).alloc (Nat.le_refl _) (.cells (cellsU zeros) 72))
  refine ⟨h'.bel, h'.box, h'.gt, h.h0, h.h1, h.h2, h.h3, fun _ => ⟨_, rfl, h.gt, ?_⟩, h'.h5, fun _ hb5 e => ?_, fun _ => rfl, h.h7⟩
  · rw [h6]; exact rowU_new _ _
  · obtain ⟨y, e5, _, hr⟩ := h.h5 hb5
    have := World.rowIs.lt hr
    rw [e5] at e
    injection e with e; injection e with e; injection e with e
    omega
theorem ThinI.alloc7 (h : ThinI w n m c A g b0 b1 b2 b3 b4 false b6 b7 v21 v22 v23 v24 v6 v7 w') (h7 : b7 = false) : ThinI w n m c A g b0 b1 b2 b3 b4 true b6 b7 v21 v22 v23 v24 v6 (.pointer (some ⟨w'.heap.size, 0, none⟩)) (w'.alloc (.cells (cellsU zeros) 72)) := by
  have h' := h.call ((Below.refl _ _).alloc (Nat.le_refl _) (.cells (cellsU zeros) 72))
  refine ⟨h'.bel, h'.box, h'.gt, h.h0, h.h1, h.h2, h.h3, h'.h4, fun _ => ⟨_, rfl, h.gt, ?_⟩, fun hb4 _ e => ?_, h.h6, fun _ => rfl⟩
  · rw [h7]; exact rowU_new _ _
  · obtain ⟨y, e4, _, hr⟩ := h.h4 hb4
    have := World.rowIs.lt hr
    rw [e4] at e
    injection e with e; injection e with e; injection e with e
    omega
theorem rowU_other {b b' : Nat} {f : Nat → Nat} (h : RowU w' b f) (hne : b ≠ b') (vs : List Value) : RowU (w'.setCells b' 0 vs) b f := rowIs_setCells_other hne vs 0 w' h
theorem ThinI.store6 {x : Nat} (h : ThinI w n m c A g b0 b1 b2 b3 b4 b5 false b7 v21 v22 v23 v24 (.pointer (some ⟨x, 0, none⟩)) v7 w') (h4 : b4 = true) :
    ThinI w n m c A g b0 b1 b2 b3 b4 b5 true b7 v21 v22 v23 v24 (.pointer (some ⟨x, 0, none⟩)) v7 (w'.setCells x 0 (cellsU (aftG g)).toList) := by
  obtain ⟨x', e, hx, hr⟩ := h.h4 h4
  obtain rfl : x' = x := by injection e with e; injection e with e; injection e with e; exact e.symm
  have hb : Below x' w' (w'.setCells x' 0 (cellsU (aftG g)).toList) := below_setCells (Nat.le_refl _) _ _ _ (Below.refl _ _)
  refine ⟨h.bel.trans (hb.mono (by omega)), h.box.below hb hx, Nat.lt_of_lt_of_le h.gt hb.size, h.h0, h.h1, h.h2, h.h3, fun _ => ⟨_, rfl, hx, RowU.stored hr⟩, fun hb5 => ?_, h.ne, fun _ => h4, h.h7⟩
  obtain ⟨y, e5, hy, hr5⟩ := h.h5 hb5
  exact ⟨y, e5, hy, rowU_other hr5 (fun e' => h.ne h4 hb5 (by rw [e5, e'])) _⟩
theorem ThinI.store7 {x : Nat} (h : ThinI w n m c A g b0 b1 b2 b3 b4 b5 b6 false v21 v22 v23 v24 v6 (.pointer (some ⟨x, 0, none⟩)) w') (h5 : b5 = true) :
    ThinI w n m c A g b0 b1 b2 b3 b4 b5 b6 true v21 v22 v23 v24 v6 (.pointer (some ⟨x, 0, none⟩)) (w'.setCells x 0 (cellsU (rchG n g)).toList) := by
  obtain ⟨x', e, hx, hr⟩ := h.h5 h5
  obtain rfl : x' = x := by injection e with e; injection e with e; injection e with e; exact e.symm
  have hb : Below x' w' (w'.setCells x' 0 (cellsU (rchG n g)).toList) := below_setCells (Nat.le_refl _) _ _ _ (Below.refl _ _)
  refine ⟨h.bel.trans (hb.mono (by omega)), h.box.below hb hx, Nat.lt_of_lt_of_le h.gt hb.size, h.h0, h.h1, h.h2, h.h3, fun hb4 => ?_, fun _ => ⟨_, rfl, hx, RowU.stored hr⟩, h.ne, h.h6, fun _ => h5⟩
  obtain ⟨y, e4, hy, hr4⟩ := h.h4 hb4
  exact ⟨y, e4, hy, rowU_other hr4 (fun e' => h.ne hb4 h5 (by rw [e4, e'])) _⟩
end

set_option maxRecDepth 100000 in
set_option maxHeartbeats 2000000 in
theorem thin_any {w : World} {B m c n : Nat} {A : Option Addr} {g : List (Nat × Nat)} (hx : RdG w B A m g) (hB : B ≤ w.heap.size) (hi : InN n g) (hn : n ≤ 64) (hm : m ≤ 4096) (hG : Goes (befG g) n n) :
    Calls Tryd.prog 33 #[.agg #[.int .i64 n, .slice A m c]] w (ThinPost g n w) := by
  have HX := Lib.hid hx
  have HI := Lib.hid hi
  have HL := Lib.hid hx.len
  have HG := Lib.hid hG
  have HSM := Lib.hid (aftG_small hi hn)
  have HSR := Lib.hid (show Small (rchG n g) from rchK_small hi hn n)
  clear hx hi hG
  go_enter Tryd.func33, Tryd.ntmps33
  go_wp2_with fail
  refine (order_any (RdE.alloc HX.out hB _) HI.out hn hm (by simp; omega)).mono ?_
  rintro e w1 ⟨hb, ho⟩
  have HO1 : ∃ A1 c1, Hid (e = .returned (.tuple #[.slice A1 n c1, .int .i64 0])) := by
    rcases ho with ⟨_, A1, c1, h, _⟩ | ⟨h, _⟩
    · exact ⟨A1, c1, Lib.hid h⟩
    · exact absurd HG.out h
  clear ho
  obtain ⟨A1, c1, he⟩ := HO1
  obtain rfl := he.out
  clear he
  obtain ⟨hcn, hcs⟩ := (boxed_alloc w (n : Int) A m c 24).below hb (by simp)
  have HBW : Hid (Below w.heap.size w w1) := Lib.hid (((Below.refl _ _).alloc (Nat.le_refl _) _).trans (hb.mono (by simp)))
  have hsz1 : w.heap.size < w1.heap.size := by have := hb.size; simp at this; omega
  clear hb
  go_upto_region 4 with fail
  go_cut [6, 7] (ThinIn w n m c A g)
  case first =>
    have HZA := Lib.hid (sets_size (aftG g))
    have HZR := Lib.hid (sets_size (rchG n g))
    refine wp_region_inv (by kernel_rfl) (I := ThinJ w n m c A A1 c1 g) ?_ ?_ ?_
    · refine ⟨false, false, false, false, false, false, false, false, _, _, _, _, _, _, rfl, rfl, ?_⟩
      exact ⟨below_drewN HBW.out 1, ⟨hcn, hcs⟩, hsz1, (nofun), (nofun), (nofun), (nofun), (nofun), (nofun), (nofun), (nofun), (nofun)⟩
    · rintro l a' w' i ⟨b0, b1, b2, b3, b4, b5, b6, b7, v21, v22, v23, v24, v6, v7, rfl, rfl, HT⟩ hi
      obtain ⟨hi8, hib⟩ := ready_lt hi
      have hcn' := HT.box.1
      have hcs' := HT.box.2
      have HTH := Lib.hid HT
      have hsz' := HT.bel.size
      match i, hi8, hi, hib with
      | 0, _, hi, hib =>
        clear HT
        refine wpOp_one rfl rfl (fun K hK => ?_)
        go_simp
        have HT := HTH.out
        exact hK.out _ _ ⟨true, b1, b2, b3, b4, b5, b6, b7, _, _, _, _, _, _, rfl, rfl, ⟨HT.bel, HT.box, HT.gt, fun _ => rfl, HT.h1, HT.h2, HT.h3, HT.h4, HT.h5, HT.ne, HT.h6, HT.h7⟩⟩
      | 1, _, hi, hib =>
        have d0 : b0 = true := ready_dep hi rfl 0 (by kernel_rfl)
        obtain rfl := HT.h0 d0
        clear HT
        refine wpOp_one rfl rfl (fun K hK => ?_)
        go_simp
        have HT := HTH.out
        refine (after_any (HX.out.below (HT.bel.mono hB)) (by omega) HI.out hn hm).mono ?_
        rintro e w2 ⟨rfl, hb⟩
        have HT := HTH.out.call hb
        exact hK.out _ _ ⟨b0, true, b2, b3, b4, b5, b6, b7, _, _, _, _, _, _, rfl, rfl, ⟨HT.bel, HT.box, HT.gt, HT.h0, fun _ => rfl, HT.h2, HT.h3, HT.h4, HT.h5, HT.ne, HT.h6, HT.h7⟩⟩
      | 2, _, hi, hib =>
        clear HT
        refine wpOp_one rfl rfl (fun K hK => ?_)
        go_simp
        have HT := HTH.out
        exact hK.out _ _ ⟨b0, b1, true, b3, b4, b5, b6, b7, _, _, _, _, _, _, rfl, rfl, ⟨HT.bel, HT.box, HT.gt, HT.h0, HT.h1, fun _ => rfl, HT.h3, HT.h4, HT.h5, HT.ne, HT.h6, HT.h7⟩⟩
      | 3, _, hi, hib =>
        have d0 : b2 = true := ready_dep hi rfl 2 (by kernel_rfl)
        obtain rfl := HT.h2 d0
        clear HT
        refine wpOp_one rfl rfl (fun K hK => ?_)
        go_simp
        have HT := HTH.out
        refine (reach_any (HX.out.below (HT.bel.mono hB)) (by omega) HI.out hn hm).mono ?_
        rintro e w2 ⟨rfl, hb⟩
        have HT := HTH.out.call hb
        exact hK.out _ _ ⟨b0, b1, b2, true, b4, b5, b6, b7, _, _, _, _, _, _, rfl, rfl, ⟨HT.bel, HT.box, HT.gt, HT.h0, HT.h1, HT.h2, fun _ => rfl, HT.h4, HT.h5, HT.ne, HT.h6, HT.h7⟩⟩
      | 4, _, hi, hib =>
        obtain rfl : b4 = false := hib
        have h6 : b6 = false := by
          cases hb6 : b6 with
          | false => rfl
          | true => have := HT.h6 hb6; cases this
        have HN := Lib.hid (HT.alloc6 h6)
        clear HT h6
        refine wpOp_one rfl rfl (fun K hK => ?_)
        go_simp
        have HT := HN.out
        rw [zeros_cells] at HT
        exact hK.out _ _ ⟨b0, b1, b2, b3, true, b5, b6, b7, _, _, _, _, _, _, rfl, rfl, HT⟩
      | 5, _, hi, hib =>
        obtain rfl : b5 = false := hib
        have h7 : b7 = false := by
          cases hb7 : b7 with
          | false => rfl
          | true => have := HT.h7 hb7; cases this
        have HN := Lib.hid (HT.alloc7 h7)
        clear HT h7
        refine wpOp_one rfl rfl (fun K hK => ?_)
        go_simp
        have HT := HN.out
        rw [zeros_cells] at HT
        exact hK.out _ _ ⟨b0, b1, b2, b3, b4, true, b6, b7, _, _, _, _, _, _, rfl, rfl, HT⟩
      | 6, _, hi, hib =>
        obtain rfl : b6 = false := hib
        have d4 : b4 = true := ready_dep hi rfl 4 (by kernel_rfl)
        have d1 : b1 = true := ready_dep hi rfl 1 (by kernel_rfl)
        obtain rfl := HT.h1 d1
        obtain ⟨x, rfl, hx, hr⟩ := HT.h4 d4
        have HR := Lib.hid hr
        have HN := Lib.hid (HT.store6 d4)
        clear HT hr
        refine wpOp_one rfl rfl (fun K hK => ?_)
        simp only [List.getElem_toArray, List.getElem_cons_succ, List.getElem_cons_zero]
        with_reducible refine wp_store_sets (.tmp 6) (.tmp 22) (b := x) (f := aftG g) ?q1 ?q2 ?q3 ?q4 HR.out ?q5
        case q1 => rfl
        case q2 => rfl
        case q3 => rfl
        case q4 => rfl
        exact hK.out _ _ ⟨b0, b1, b2, b3, b4, b5, true, b7, _, _, _, _, _, _, rfl, rfl, HN.out⟩
      | 7, _, hi, hib =>
        obtain rfl : b7 = false := hib
        have d4 : b5 = true := ready_dep hi rfl 5 (by kernel_rfl)
        have d1 : b3 = true := ready_dep hi rfl 3 (by kernel_rfl)
        obtain rfl := HT.h3 d1
        obtain ⟨x, rfl, hx, hr⟩ := HT.h5 d4
        have HR := Lib.hid hr
        have HN := Lib.hid (HT.store7 d4)
        clear HT hr
        refine wpOp_one rfl rfl (fun K hK => ?_)
        simp only [List.getElem_toArray, List.getElem_cons_succ, List.getElem_cons_zero]
        with_reducible refine wp_store_sets (.tmp 7) (.tmp 24) (b := x) (f := rchG n g) ?r1 ?r2 ?r3 ?r4 HR.out ?r5
        case r1 => rfl
        case r2 => rfl
        case r3 => rfl
        case r4 => rfl
        exact hK.out _ _ ⟨b0, b1, b2, b3, b4, b5, b6, true, _, _, _, _, _, _, rfl, rfl, HN.out⟩
    · rintro l a' w' ⟨b0, b1, b2, b3, b4, b5, b6, b7, v21, v22, v23, v24, v6, v7, rfl, rfl, HT⟩ hr
      obtain rfl : b0 = true := by
        cases b0 with
        | true => rfl
        | false => exact (ready_in 0 rfl rfl (by simp [Region.binds]) hr).elim
      obtain rfl : b1 = true := by
        cases b1 with
        | true => rfl
        | false => exact (ready_in 1 rfl rfl (by simp [Region.binds]) hr).elim
      obtain rfl : b2 = true := by
        cases b2 with
        | true => rfl
        | false => exact (ready_in 2 rfl rfl (by simp [Region.binds]) hr).elim
      obtain rfl : b3 = true := by
        cases b3 with
        | true => rfl
        | false => exact (ready_in 3 rfl rfl (by simp [Region.binds]) hr).elim
      obtain rfl : b4 = true := by
        cases b4 with
        | true => rfl
        | false => exact (ready_in 4 rfl rfl (by simp [Region.binds]) hr).elim
      obtain rfl : b5 = true := by
        cases b5 with
        | true => rfl
        | false => exact (ready_in 5 rfl rfl (by simp [Region.binds]) hr).elim
      obtain rfl : b6 = true := by
        cases b6 with
        | true => rfl
        | false => exact (ready_in 6 rfl rfl (by simp [Region.binds]) hr).elim
      obtain rfl : b7 = true := by
        cases b7 with
        | true => rfl
        | false => exact (ready_in 7 rfl rfl (by simp [Region.binds]) hr).elim
      obtain ⟨x, rfl, hx, hrx⟩ := HT.h4 rfl
      obtain ⟨y, rfl, hy, hry⟩ := HT.h5 rfl
      have HC : ThinIn w n m c A g (.pointer (some ⟨x, 0, none⟩)) (.pointer (some ⟨y, 0, none⟩)) w' := ⟨x, y, rfl, rfl, hrx, hry, hx, hy, HT.box.1, HT.bel⟩
      show _
      go_wp2_with fail
      go_meet
      exact HC
  case rest =>
    obtain ⟨x, y, rfl, rfl, hrx, hry, hx0, hy0, hcc, hbel⟩ := hcut
    have hxl := World.rowIs.lt hrx
    have hyl := World.rowIs.lt hry
    have HTH : Hid (ThAt wc w x y wc.heap.size n g (.slice none 0 0) []) := Lib.hid ⟨hrx, hry, hcc, hbel, OwnP.nil_ _ _, hxl, hyl, by omega, Nat.le_refl _⟩
    clear hrx hry hbel hcn hcs hsz1 HBW
    go_wp2_with fail
    generalize hbase : wc.heap.size = base at HTH
    clear hbase hxl hyl
    go_loopw [8, 27] (fun v i wr => ∃ (k cv : Nat) (Av : Option Addr), k ≤ n ∧ i = .int .i64 (k : Int) ∧ v = .slice Av (thnK n (aftG g) (rchG n g) k).length cv ∧ Hid (ThAt wr w x y base n g (.slice Av (thnK n (aftG g) (rchG n g) k).length cv) (thnK n (aftG g) (rchG n g) k))) (fun _ i _ => n - (intOf i).toNat)
    case atStart => exact ⟨0, 0, none, by omega, rfl, rfl, HTH⟩
    case round =>
      clear HTH hcc
      obtain ⟨k, cv, Av, hk, rfl, rfl, HTH⟩ := hrel
      have hcc := HTH.out.cell
      by_cases hlt : k < n
      · have hk64 : k < 64 := by omega
        have hk65 : (k : Int) < 64 := by omega
        have hcx := HTH.out.rx.cell hk64
        go_wp2_with fail
        go_hide hQ
        go_loop [10, 32] (fun r i => ∃ j : Nat, j ≤ n ∧ i = .int .i64 (j : Int) ∧ r = .int .u64 ((furK (aftG g) (rchG n g) k j : Nat) : Int)) (fun _ i => n - (intOf i).toNat)
        case atStart => exact ⟨0, by omega, rfl, rfl⟩
        case round =>
          obtain ⟨j, hj, rfl, rfl⟩ := hrel
          by_cases hlj : j < n
          · have hj64 : j < 64 := by omega
            have hj65 : (j : Int) < 64 := by omega
            have hcy := HTH.out.ry.cell hj64
            have HO := Lib.hid (or_bits (furK_lt HSR.out (aftG g) k j) (HSR.out j))
            have HN : Hid (furK (aftG g) (rchG n g) k (j + 1) = if bt (aftG g k) j then orn (furK (aftG g) (rchG n g) k j) (rchG n g j) else furK (aftG g) (rchG n g) k j) := Lib.hid rfl
            cases hb : bt (aftG g k) j
            all_goals
              have HB := Lib.hid hb
              clear hb
              go_wp2_with (go_at_call 42; refine (has_any (HSM.out k) hj64).mono ?_; rintro e w' ⟨rfl, rfl⟩; rw [HB.out])
              go_round
              case rel => exact ⟨j + 1, by omega, by go_num, by rw [HN.out, HB.out]; first | rfl | (rw [HO.out]; rfl)⟩
              case measure => simp [intOf]; omega
          · subst hQ
            obtain rfl : j = n := by omega
            go_wp2_with fail
            go_hide hQ
            go_loopw [8, 48] (fun v i wr => ∃ (q cv : Nat) (Av : Option Addr), q ≤ j ∧ i = .int .i64 (q : Int) ∧ v = .slice Av (thqK j (aftG g) (rchG j g) k q).length cv ∧ Hid (ThAt wr w x y base j g (.slice Av (thqK j (aftG g) (rchG j g) k q).length cv) (thqK j (aftG g) (rchG j g) k q))) (fun _ i _ => j - (intOf i).toNat)
            case atStart => exact ⟨0, cv, Av, by omega, rfl, by rw [thqK_zero], Lib.hid (by rw [thqK_zero]; exact HTH.out)⟩
            case round =>
              clear HTH hcc hcx
              obtain ⟨q, cq, Aq, hq, rfl, rfl, HTH⟩ := hrel
              have hcc := HTH.out.cell
              have hcx := HTH.out.rx.cell hk64
              have HS := Lib.hid (furK_lt HSR.out (aftG g) k j)
              have HA := Lib.hid (andn_spell (HSM.out k) HS.out)
              have HLN : Hid ((thqK j (aftG g) (rchG j g) k q).length ≤ 4200) := Lib.hid (by
                unfold thqK
                rw [List.length_append]
                have h1 := thnK_len j (aftG g) (rchG j g) k
                have h2 := prsK_len k (andn (aftG g k) (furK (aftG g) (rchG j g) k j)) q
                have h3 : k * j ≤ 64 * 64 := Nat.mul_le_mul (by omega) (by omega)
                omega)
              have HN : Hid (thqK j (aftG g) (rchG j g) k (q + 1) = if bt (andn (aftG g k) (furK (aftG g) (rchG j g) k j)) q then thqK j (aftG g) (rchG j g) k q ++ [(k, q)] else thqK j (aftG g) (rchG j g) k q) := Lib.hid (thqK_succ _ _ _ _ _)
              have HTN : Hid (thnK j (aftG g) (rchG j g) (k + 1) = thqK j (aftG g) (rchG j g) k j) := Lib.hid rfl
              by_cases hlq : q < j
              · have hq64 : q < 64 := by omega
                have hq65 : (q : Int) < 64 := by omega
                cases hb : bt (andn (aftG g k) (furK (aftG g) (rchG j g) k j)) q with
                | false =>
                  have HB := Lib.hid hb
                  clear hb
                  go_wp2_with (go_at_call 42; rw [HA.out]; refine (has_any (andn_lt (HSM.out k)) hq64).mono ?_; rintro e w' ⟨rfl, rfl⟩; rw [HB.out])
                  go_roundw
                  case rel => exact ⟨q + 1, cq, Aq, by omega, by go_num, by rw [HN.out, HB.out]; rfl, Lib.hid (by rw [HN.out, HB.out]; exact HTH.out)⟩
                  case measure => simp [intOf]; omega
                | true =>
                  have HB := Lib.hid hb
                  clear hb
                  go_wp2_with (first
                    | (go_at_call 42; rw [HA.out]; refine (has_any (andn_lt (HSM.out k)) hq64).mono ?_; rintro e w' ⟨rfl, rfl⟩; rw [HB.out])
                    | (at_builtin; refine wpl_appP rfl (.tmp 58) (.tmp 62) rfl base _ _ rfl (HTH.out.own.alloc _) wr.heap.size k q rfl (by simp) (by simp) (by have := HLN.out; omega) (by have := HTH.out.lb; simp; omega) ?_; intro g' c' w1 hown1 hgr1))
                  have HT1 := Lib.hid (HTH.out.step hown1 hgr1)
                  clear hown1 hgr1
                  go_roundw
                  case rel => exact ⟨q + 1, c', some ⟨g', 0, none⟩, by omega, by go_num, by rw [HN.out, HB.out, if_pos rfl, List.length_append]; rfl, Lib.hid (by rw [HN.out, HB.out, if_pos rfl, List.length_append]; exact HT1.out)⟩
                  case measure => simp [intOf]; omega
              · subst hQ
                obtain rfl : q = j := by omega
                go_wp2
                go_roundw
                case rel => exact ⟨k + 1, cq, Aq, by omega, by go_num, by rw [HTN.out], Lib.hid (by rw [HTN.out]; exact HTH.out)⟩
                case measure => simp [intOf]; omega
      · obtain rfl : k = n := by omega
        go_wp2
        go_ret2
        exact ⟨HTH.out.bel, Av, cv, rfl, HTH.out.own.less (by have := HTH.out.lw; omega)⟩
end Go.Proofs.YtfcabdgidlnljaaDoor
