/-
  WORDS FOR MEMORY: edges that are turned round, whatever numbers they hold.
-/
import Derived.Test.YtfcabdgidlnljaaDoorLTurP
namespace Go.Proofs.YtfcabdgidlnljaaDoor
open Go.RowKit
open DiP
set_option linter.unusedVariables false
set_option linter.unusedSimpArgs false
set_option maxRecDepth 100000
def ecells : List (Int × Int) → List Value
  | [] => []
  | e :: r => .int .i64 e.1 :: .int .i64 e.2 :: ecells r
theorem ecells_append (l r : List (Int × Int)) : ecells (l ++ r) = ecells l ++ ecells r := by
  induction l with
  | nil => rfl
  | cons e l ih => simp [ecells, ih]
def OwnE (w : World) (base : Nat) (v : Value) (l : List (Int × Int)) : Prop := w.ownsRow base 43 2 v l.length (ecells l)
section
variable {w w' : World} {base : Nat} {v : Value} {l : List (Int × Int)}
theorem OwnE.nil_ (w : World) (base : Nat) : OwnE w base (.slice none 0 0) [] := World.ownsRow_nil _ _ _ _
theorem OwnE.shape (h : OwnE w base v l) : ∃ A c, v = .slice A l.length c := by
  rcases h.2 with ⟨rfl, h0⟩ | ⟨g, cap, cur, rfl, _⟩
  · exact ⟨none, 0, by rw [h0]⟩
  · exact ⟨some ⟨g, 0, none⟩, cap, rfl⟩
theorem OwnE.ge (h : OwnE w base v l) : ∀ g, v.ownBlock = some g → base ≤ g := by
  intro g hg
  rcases h.2 with ⟨rfl, _⟩ | ⟨g', cap, cur, rfl, hb, _⟩
  · cases hg
  · have : g' = g := by simpa [Value.ownBlock] using hg
    omega
theorem OwnE.alloc (h : OwnE w base v l) (o : Obj) : OwnE (w.alloc o) base v l := World.ownsRow.alloc h o
theorem ecells_get {l : List (Int × Int)} : ∀ {j : Nat}, j < l.length → (ecells l)[j * 2]? = some (.int .i64 (ea l j)) ∧ (ecells l)[j * 2 + 1]? = some (.int .i64 (eb l j)) := by
  induction l with
  | nil => intro j h; simp at h
  | cons e r ih =>
    intro j h
    match j with
    | 0 => exact ⟨rfl, rfl⟩
    | j + 1 =>
      have := ih (j := j) (by simpa using h)
      rw [show (j + 1) * 2 = j * 2 + 1 + 1 by omega]
      exact this
theorem OwnE.rd {A : Option Addr} {m c : Nat} (h : OwnE w base (.slice A m c) l) (hm : l.length = m) : RdE w w.heap.size A m l := by
  refine ⟨hm, fun hn => ?_⟩
  obtain ⟨g, cap, hv, _, hlt⟩ := World.ownsRow.form h (by omega)
  injection hv with h1 h2 h3
  subst h1
  refine ⟨g, 0, rfl, hlt, fun j hj => ?_⟩
  obtain ⟨c0, c1⟩ := ecells_get (l := l) (j := j) (by omega)
  have e : ∀ x, (Addr.add ⟨g, 0, none⟩ x) = ⟨g, 0 + x, none⟩ := fun x => by unfold Addr.add; by_cases h0 : x = 0 <;> simp [h0]
  have k0 := World.ownsRow.cells h (g := g) rfl _ _ c0
  have k1 := World.ownsRow.cells h (g := g) rfl _ _ c1
  rw [e] at k0 k1
  exact ⟨k0, by rw [Nat.add_assoc]; exact k1⟩
end
/-- 'append(s, x)', s the call's own: s grows by one pair. -/
theorem wpl_appE {w : World} {ops : Array Oper} {rest : List Oper} {o : Oper} {a : Act} {Q : Exit → Act → World → Prop} (hgd : o.guard = none) (s x : Operand)
    (ho : o.op = .call { callee := .builtin .append, args := #[s, x], argTypes := #[22, 22] })
    (base : Nat) (v : Value) (l : List (Int × Int)) (hs : a.eval s = v) (hown : OwnE w base v l)
    (b : Nat) (p q : Int) (hx : a.eval x = .slice (some ⟨b, 0, none⟩) 1 1) (hc0 : w.cell? ⟨b, 0, none⟩ = some (.int .i64 p)) (hc1 : w.cell? ⟨b, 1, none⟩ = some (.int .i64 q)) (hn : l.length ≤ 1099511627776) (hbase : base ≤ w.heap.size)
    (h : ∀ g c w', OwnE w' base (.slice (some ⟨g, 0, none⟩) (l.length + 1) c) (l ++ [(p, q)]) → w.grownBy w' v.ownBlock → wpList Tryd.prog ops Q rest (a.put o.dst (.slice (some ⟨g, 0, none⟩) (l.length + 1) c)) w') :
    wpList Tryd.prog ops Q (o :: rest) a w := by
  obtain ⟨i0, hi, hz0, hz1, hz2⟩ := info_parts infoPair
  refine wpList_append_own_at w hgd s x 22 ho base 43 i0 (.agg #[.int .i64 0, .int .i64 0]) 2 16 Tryd.underlying22 hi hz0 hz1 hz2 rfl (by decide) v l.length _ hs hown ⟨b, 0, none⟩ 1 1 [.int .i64 p, .int .i64 q] hx rfl ?_ ?_ (by unfold maxLen; omega) (by omega) hbase ?_
  · intro j z hj
    match j, hj with
    | 0, hj => simp at hj; subst hj; simpa [Addr.add] using hc0
    | 1, hj => simp at hj; subst hj; simpa [Addr.add] using hc1
  · intro z hz
    simp at hz
    rcases hz with rfl | rfl <;> rfl
  · intro v' w' hown' hg _ hat
    have ho' : w'.ownsRow base 43 2 v' (l ++ [(p, q)]).length (ecells (l ++ [(p, q)])) := by
      rw [ecells_append, List.length_append]; exact hown'
    obtain ⟨g, c, hv, _, _⟩ := World.ownsRow.form ho' (by simp)
    rw [List.length_append] at hv
    have hv' : v' = .slice (some ⟨g, 0, none⟩) (l.length + 1) c := hv
    subst hv'
    exact h g c w' ho' hg
def turnE (es : List (Int × Int)) : List (Int × Int) := es.map fun e => (e.2, e.1)
theorem turnE_len (es : List (Int × Int)) : (turnE es).length = es.length := by simp [turnE]
theorem turnE_cast (g : List (Nat × Nat)) : turnE (castE g) = castE (turnG g) := by
  unfold turnE castE turnG
  rw [List.map_map, List.map_map]
  rfl
theorem turnE_turnE (es : List (Int × Int)) : turnE (turnE es) = es := by
  unfold turnE
  rw [List.map_map]
  exact List.map_id'' (fun _ => rfl) es
theorem graphR_turn1 {n : Int} {es : List (Int × Int)} (h : GraphR n es) : GraphR n (turnE es) := by
  obtain ⟨N, g, rfl, rfl, hi, hn, hm⟩ := graph_nat h
  rw [turnE_cast]
  exact graphR_cast (inN_turn hi) hn (by rw [turn_len]; exact hm)
theorem graphR_turn {n : Int} {es : List (Int × Int)} (h : ¬ GraphR n es) : ¬ GraphR n (turnE es) := fun k => h (by have := graphR_turn1 k; rwa [turnE_turnE] at this)
/-- The first k edges, turned round. -/
def tkE (es : List (Int × Int)) (k : Nat) : List (Int × Int) := (turnE es).take k
theorem turnE_take (es : List (Int × Int)) {k : Nat} (h : k < es.length) : tkE es (k + 1) = tkE es k ++ [(eb es k, ea es k)] := by
  unfold tkE
  have hk : k < (turnE es).length := by rw [turnE_len]; exact h
  rw [List.take_succ_eq_append_getElem hk]
  congr 2
  simp [turnE, ea, eb, List.getD, h]
/-- Where the loop that turns the edges stands. -/
structure TnE (wr w : World) (B tb : Nat) (n : Int) (m c : Nat) (A : Option Addr) (es : List (Int × Int)) (k : Nat) (v : Value) : Prop where
  own : OwnE wr (tb + 1) v (tkE es k)
  b0 : wr.cell? ⟨tb, 0, none⟩ = some (.int .i64 n)
  b1 : wr.cell? ⟨tb, 1, none⟩ = some v
  fz : wr.frozen? ⟨tb, 1, none⟩ = false
  o0 : wr.cell? ⟨w.heap.size, 0, none⟩ = some (.int .i64 n)
  o1 : wr.cell? ⟨w.heap.size, 1, none⟩ = some (.slice A m c)
  rd : RdE wr B A m es
  bel : Below w.heap.size w wr
  lw : w.heap.size < tb
  lB : B ≤ w.heap.size
  lt : tb < wr.heap.size
theorem TnE.step {wr w w1 : World} {B tb m c k : Nat} {n : Int} {A : Option Addr} {es : List (Int × Int)} {v v' : Value} {o1 o2 : Obj} (h : TnE wr w B tb n m c A es k v) (hk : k < es.length)
    (ho : OwnE w1 (tb + 1) v' (tkE es k ++ [(eb es k, ea es k)])) (hg : ((wr.alloc o1).alloc o2).grownBy w1 v.ownBlock) :
    (w1.cell? ⟨tb, 1, none⟩ = some v ∧ w1.frozen? ⟨tb, 1, none⟩ = false) ∧ TnE (w1.setCell ⟨tb, 1, none⟩ v') w B tb n m c A es (k + 1) v' := by
  have hge := h.own.ge
  have hge' := ho.ge
  have hne : ∀ z, z ≤ tb → some z ≠ v.ownBlock := fun z hz e => by have := hge z e.symm; omega
  have hsz : ((wr.alloc o1).alloc o2).heap.size = wr.heap.size + 2 := by simp
  have hlt : ∀ z, z ≤ tb → z < ((wr.alloc o1).alloc o2).heap.size := fun z hz => by have := h.lt; omega
  have hcell : ∀ z i, z ≤ tb → w1.cell? ⟨z, i, none⟩ = wr.cell? ⟨z, i, none⟩ := fun z i hz => by
    have h1 := World.cell?_of_block (a := ⟨z, i, none⟩) (hg.block z (hlt z hz) (hne z hz))
    rw [h1, World.cell?_alloc_lt _ _ _ (by have := h.lt; simp; omega), World.cell?_alloc_lt _ _ _ (by have := h.lt; show z < _; omega)]
  have hfz : w1.frozen? ⟨tb, 1, none⟩ = false := by
    have h1 := World.frozen?_of_block (a := ⟨tb, 1, none⟩) (hg.block tb (hlt tb (Nat.le_refl _)) (hne tb (Nat.le_refl _)))
    rw [h1, World.frozen?_alloc_past _ _ _ (by have := h.lt; simp; omega), World.frozen?_alloc_past _ _ _ h.lt]; exact h.fz
  have hc1 : w1.cell? ⟨tb, 1, none⟩ = some v := (hcell tb 1 (Nat.le_refl _)).trans h.b1
  have hlw := h.lw
  refine ⟨⟨hc1, hfz⟩, ⟨?_, ?_, ?_, ?_, ?_, ?_, ?_, ?_, h.lw, h.lB, ?_⟩⟩
  · rw [turnE_take es hk]
    exact World.ownsRow.kept ho (grown_setCell w1 tb 1 v') (by
      cases hb : v'.ownBlock with
      | none => exact .inl rfl
      | some z => right; intro e; injection e with e; have := hge' z hb; omega)
  · rw [World.cell?_setCell_other _ _ _ _ (fun e => by injection e; omega), hcell tb 0 (Nat.le_refl _)]; exact h.b0
  · exact World.cell?_setCell_same _ _ _ hc1
  · rw [World.frozen?_setCell]; exact hfz
  · rw [World.cell?_setCell_other _ _ _ _ (fun e => by injection e; omega), hcell _ 0 (by omega)]; exact h.o0
  · rw [World.cell?_setCell_other _ _ _ _ (fun e => by injection e; omega), hcell _ 1 (by omega)]; exact h.o1
  · refine RdE.keep h.rd (fun p hp => ?_)
    have hB := h.lB
    rw [World.cell?_setCell_other _ _ _ _ (fun e => by subst e; simp at hp; omega)]
    have h1 := World.cell?_of_block (a := p) (hg.block p.block (hlt _ (by omega)) (hne _ (by omega)))
    rw [h1, World.cell?_alloc_lt _ _ _ (by have := h.lt; simp; omega), World.cell?_alloc_lt _ _ _ (by have := h.lt; omega)]
  · refine Below.setCell ?_ (by simp; omega) _
    exact (((h.bel.alloc h.bel.size _).alloc (by have := h.bel.size; simp; omega) _).grown hg (by have := h.bel.size; omega) (fun x hx => by have := hge x hx; omega))
  · have := hg.size; have := h.lt; simp at *; omega
theorem cpl_andn {n s : Nat} (hn : n ≤ 64) (hs : s < 2 ^ n) : andn (2 ^ n - 1) s = cpl n s := by
  have h64 : (2 : Nat) ^ n ≤ lim := by rw [lim_eq]; exact Nat.pow_le_pow_right (by omega) hn
  have hp := Nat.two_pow_pos n
  refine ext64 (andn_lt (by omega)) (by have := cpl_lt n s; omega) fun u hu => ?_
  rw [bt_andn (by omega) hu, bt_cpl hs, bt_full]
end Go.Proofs.YtfcabdgidlnljaaDoor
