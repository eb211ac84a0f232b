/-
  WORDS FOR MEMORY: a dock: its cells, its map of files, and the files' bytes.
-/
import Derived.Test.YtfpcfbolpnfacaaYMem
import Derived.Maps.RangeWalk
import Derived.Maps.OwnSet
import Derived.Laws.Rows
namespace Go.Proofs.Ytfpcfbolpnfacaa
open Go.RowKit
open ByteP
set_option linter.unusedVariables false

/-- 'append(s, x...)', s the call's own, x a slice that is only read (nil too). -/
theorem addrY_add (b off j : Nat) : (Addr.add ⟨b, off, none⟩ j) = ⟨b, off + j, none⟩ := by
  unfold Addr.add
  by_cases h0 : j = 0 <;> simp [h0]
theorem wplY_apps {w : World} {ops : Array Oper} {rest : List Oper} {o : Oper} {a : Act} {Q : Exit → Act → World → Prop} (hgd : o.guard = none) (s x : Operand)
    (ho : o.op = .call { callee := .builtin .append, args := #[s, x], argTypes := #[30, 30] })
    (base : Nat) (v : Value) (n : Nat) (xs : List Int) (hs : a.eval s = v) (hown : OwnY w base v n xs)
    (B : Nat) (D : Option Addr) (m d : Nat) (ys : List Int) (hx : a.eval x = .slice D m d) (hr : RdY w B D m ys) (hn : n + m ≤ 1099511627776) (hbase : base ≤ w.heap.size)
    (h : ∀ v' w', OwnY w' base v' (n + m) (xs ++ ys) → w.grownBy w' v.ownBlock → (v'.ownBlock = v.ownBlock ∨ v'.ownBlock = some w.heap.size) → wpList Try.prog ops Q rest (a.put o.dst v') w') :
    wpList Try.prog ops Q (o :: rest) a w := by
  obtain ⟨i0, hi, hz0, hz1, hz2⟩ := info_parts infoByte
  rcases D with _ | ad
  · have hm : m = 0 := by
      rcases Nat.eq_zero_or_pos m with h0 | h0
      · exact h0
      · obtain ⟨b, off, e, _⟩ := hr.2 h0
        cases e
    subst hm
    have hy : ys = [] := List.eq_nil_of_length_eq_zero hr.1
    subst hy
    have hrun : (Builtin.append_ #[30, 30] o.type #[v, .slice none 0 d]).run Try.prog w = .ok v w := by
      rcases hown.2 with ⟨rfl, rfl⟩ | ⟨g, cap, cur, rfl, _, _, hnc, _⟩
      · simp [Builtin.append_, run_underlying Try.underlying30, sizeOf, typeInfo, hi, Builtin.lenOf, Builtin.firstCells]
      · simp [Builtin.append_, run_underlying Try.underlying30, sizeOf, typeInfo, hi, Builtin.lenOf, Builtin.firstCells, hnc, storeCells]
    refine wpList_plain hgd fun K hK => ?_
    unfold Oper.wp execOp
    simp only [ho, resolve, invoke, builtin, Sem.run_bind, Sem.run_pure, Result.andThen_ok, List.map_toArray, List.map_cons, List.map_nil, hs, hx, hrun]
    exact hK _ _ (h v w (by simpa using hown) (World.grownBy.refl w _) (.inl rfl))
  · refine wpList_append_own_at w hgd s x 30 ho base 5 i0 (.int .u8 0) 1 1 Try.underlying30 hi hz0 hz1 hz2 rfl (by decide) v n _ hs hown ad m d (ys.map (Value.int .u8)) hx (by simp [hr.1]) ?_ ?_ (by unfold maxLen; omega) (by omega) hbase ?_
    · intro j z hj
      have hjm : j < m := by
        have := (List.getElem?_eq_some_iff.1 hj).1
        simpa [hr.1] using this
      obtain ⟨b, off, e, _, hc⟩ := hr.at_ hjm
      cases e
      rw [addrY_add, hc]
      rw [ixY_map ys j (by rw [hr.1]; exact hjm)] at hj
      exact hj
    · intro z hz
      obtain ⟨u, _, rfl⟩ := List.mem_map.1 hz
      rfl
    · intro v' w' hown' hg _ hat
      exact h v' w' (by unfold OwnY; rw [List.map_append]; exact hown') hg hat

/-- A file: the slice of its bytes, its bytes, how many are safe. -/
structure Fi where
  A : Option Addr
  n : Nat
  c : Nat
  bs : List Int
  s : Nat
abbrev Fi.v (f : Fi) : Value := .slice f.A f.n f.c
def fv (f : Fi) : Value := .agg #[.slice f.A f.n f.c, .int .i64 (f.s : Int)]
def noFile : Value := .agg #[.slice none 0 0, .int .i64 0]
def held (v : Value) : Option (DataW Value × List MemPlace) := some (.held v, [])
theorem held_inj {v u : Value} {ps : List MemPlace} (h : held v = some (.held u, ps)) : v = u := by
  unfold held at h
  simp only [Option.some.injEq, Prod.mk.injEq, DataW.held.injEq] at h
  exact h.1
abbrev kI (k : Int) : Lit := .int .i64 k
/-- What a map of files says. -/
def FilesD (D : DataW Value) (F : Int → Option Fi) : Prop := ∀ k, Maps.has D (kI k) = (F k).isSome ∧ ∀ f, F k = some f → ∀ z, D.atKey (kI k) z = .held (fv f)
def putF (F : Int → Option Fi) (k : Int) (f : Fi) : Int → Option Fi := fun x => if x = k then some f else F x
def delF (F : Int → Option Fi) (k : Int) : Int → Option Fi := fun x => if x = k then none else F x
theorem kI_inj {a b : Int} (h : kI a = kI b) : a = b := by injection h
theorem keyLit (k : Int) : WideAt.IsKeyLit (kI k) := by simp [WideAt.IsKeyLit]
theorem filesD_empty : FilesD (.map []) (fun _ => none) := fun k => ⟨rfl, fun f h => by cases h⟩
theorem FilesD.put {D : DataW Value} {F : Int → Option Fi} (h : FilesD D F) (hm : Maps.IsMap D) (k : Int) (f : Fi) : FilesD (D.put (kI k) (.held (fv f))) (putF F k f) := fun x => by
  unfold putF
  by_cases e : x = k
  · subst e
    rw [if_pos rfl]
    exact ⟨Maps.has_put_same hm (keyLit _) _, fun f' hf z => by injection hf with hf; subst hf; exact Maps.atKey_put_same hm (keyLit _) _ z⟩
  · rw [if_neg e]
    have hne : kI x ≠ kI k := fun h => e (kI_inj h)
    exact ⟨(Maps.has_put_other hne _).trans (h x).1, fun f' hf z => (Maps.atKey_put_other hne _ z).trans ((h x).2 f' hf z)⟩
theorem FilesD.del {D : DataW Value} {F : Int → Option Fi} (h : FilesD D F) (k : Int) : FilesD (D.del (kI k)) (delF F k) := fun x => by
  unfold delF
  by_cases e : x = k
  · subst e
    rw [if_pos rfl]
    exact ⟨Maps.has_del_same, fun f' hf => by cases hf⟩
  · rw [if_neg e]
    have hne : kI x ≠ kI k := fun h => e (kI_inj h)
    exact ⟨(Maps.has_del_other hne).trans (h x).1, fun f' hf z => (Maps.atKey_del_other hne z).trans ((h x).2 f' hf z)⟩

theorem keyedInt : Maps.Keyed Try.prog 3 := Maps.int_keyed Try.underlying3
theorem keyI {k : Int} (h0 : -9223372036854775808 ≤ k) (h1 : k ≤ 9223372036854775807) : keyOf Try.prog 3 (.int .i64 k) = some (kI k) :=
  Maps.keyOf_int_mk Try.underlying3 (by simp [Lit.wf]; exact ⟨h0, h1⟩)
theorem zeroFile (w : World) : (zeroValue 57).run Try.prog w = .ok noFile w := by kernel_rfl

/-- A dock's numbers. -/
structure Nm where
  cap : Int
  size : Int
  left : Int
  down : Bool
def cellsK (mb : Nat) (n : Nm) : Array Value := #[.int .i64 n.cap, .int .i64 n.size, .map (some mb), .int .i64 n.left, .bool n.down]

/-- Where a dock stands: db its cells, mb its map; the files' rows lie from db on. K: so many entries at most. -/
structure Dk (w : World) (db mb K : Nat) (n : Nm) (F : Int → Option Fi) : Prop where
  lt : mb < db
  cells : w.heap[db]? = some (.cells (cellsK mb n) 46 (0, 0))
  map : ∃ D, w.ownsMap Try.prog 3 held mb K D ∧ FilesD D F
  own : ∀ k f, F k = some f → OwnY w (db + 1) f.v f.n f.bs
  good : ∀ k f, F k = some f → 0 ≤ k ∧ k ≤ 999999 ∧ f.s ≤ f.n ∧ Bytes f.bs ∧ f.n ≤ 16777216
  apart : ∀ k k' f f', k ≠ k' → F k = some f → F k' = some f' → ∀ g, f.v.ownBlock = some g → f'.v.ownBlock ≠ some g

theorem own_heap {w w' : World} {base n : Nat} {v : Value} {xs : List Int} (h : OwnY w base v n xs) (hk : ∀ g, v.ownBlock = some g → g < w.heap.size → w'.heap[g]? = w.heap[g]?) : OwnY w' base v n xs := by
  refine ⟨h.1, ?_⟩
  rcases h.2 with h' | ⟨g, cap, cur, hv, hb, hg, r⟩
  · exact .inl h'
  · refine .inr ⟨g, cap, cur, hv, hb, ?_, r⟩
    have hlt : g < w.heap.size := by
      rcases Nat.lt_or_ge g w.heap.size with h1 | h1
      · exact h1
      · rw [Array.getElem?_eq_none h1] at hg; cases hg
    rw [hk g (by rw [hv]; rfl) hlt]; exact hg
theorem heapK_lt {w : World} {g : Nat} {o : Obj} (h : w.heap[g]? = some o) : g < w.heap.size := by
  rcases Nat.lt_or_ge g w.heap.size with h' | h'
  · exact h'
  · rw [Array.getElem?_eq_none h'] at h; cases h
section
variable {w w' : World} {db mb K : Nat} {n : Nm} {F : Int → Option Fi}
theorem Dk.dlt (h : Dk w db mb K n F) : db < w.heap.size := heapK_lt h.cells
theorem Dk.rowGe (h : Dk w db mb K n F) {k : Int} {f : Fi} (hf : F k = some f) : ∀ g, f.v.ownBlock = some g → db < g := fun g hg => (h.own k f hf).ge g hg
theorem Dk.rowLt (h : Dk w db mb K n F) {k : Int} {f : Fi} (hf : F k = some f) : ∀ g, f.v.ownBlock = some g → g < w.heap.size := by
  intro g hg
  rcases (h.own k f hf).2 with ⟨hv, _⟩ | ⟨g', cap, cur, hv, _, hh, _⟩
  · rw [hv] at hg; cases hg
  · rw [hv] at hg
    have : g' = g := by simpa [Value.ownBlock] using hg
    subst this; exact heapK_lt hh
/-- What is the dock's is as it was. -/
theorem Dk.of_heap (h : Dk w db mb K n F) (hd : w'.heap[db]? = w.heap[db]?) (hm : w'.heap[mb]? = w.heap[mb]?) (hf : ∀ k f, F k = some f → ∀ g, f.v.ownBlock = some g → w'.heap[g]? = w.heap[g]?) : Dk w' db mb K n F := by
  obtain ⟨D, ⟨es, clock, hb, r⟩, hD⟩ := h.map
  exact ⟨h.lt, hd.trans h.cells, ⟨D, ⟨es, clock, hm.trans hb, r⟩, hD⟩, fun k f hk => own_heap (h.own k f hk) (fun g hg _ => hf k f hk g hg), h.good, h.apart⟩
theorem Dk.below (h : Dk w db mb K n F) (hb : Below w.heap.size w w') : Dk w' db mb K n F :=
  h.of_heap (hb.block db h.dlt) (hb.block mb (Nat.lt_trans h.lt h.dlt)) (fun k f hk g hg => hb.block g (h.rowLt hk g hg))
theorem Dk.alloc (h : Dk w db mb K n F) (o : Obj) : Dk (w.alloc o) db mb K n F := h.below ((Below.refl _ _).alloc (Nat.le_refl _) _)
theorem Dk.drewN (h : Dk w db mb K n F) (k : Nat) : Dk (w.drewN k) db mb K n F := h.of_heap rfl rfl (fun _ _ _ _ _ => rfl)
theorem Dk.cell (h : Dk w db mb K n F) {i : Nat} {x : Value} (hx : (cellsK mb n)[i]? = some x) : w.cell? ⟨db, i, none⟩ = some x := by
  simp [World.cell?, h.cells, hx]
theorem Dk.c0 (h : Dk w db mb K n F) : w.cell? ⟨db, 0, none⟩ = some (.int .i64 n.cap) := h.cell rfl
theorem Dk.c1 (h : Dk w db mb K n F) : w.cell? ⟨db, 1, none⟩ = some (.int .i64 n.size) := h.cell rfl
theorem Dk.c2 (h : Dk w db mb K n F) : w.cell? ⟨db, 2, none⟩ = some (.map (some mb)) := h.cell rfl
theorem Dk.c3 (h : Dk w db mb K n F) : w.cell? ⟨db, 3, none⟩ = some (.int .i64 n.left) := h.cell rfl
theorem Dk.c4 (h : Dk w db mb K n F) : w.cell? ⟨db, 4, none⟩ = some (.bool n.down) := h.cell rfl
theorem Dk.fz (h : Dk w db mb K n F) (i : Nat) : w.frozen? ⟨db, i, none⟩ = false := by simp [World.frozen?, h.cells]
/-- A number of the dock is written. -/
theorem Dk.write (h : Dk w db mb K n F) (i : Nat) (u : Value) (n' : Nm) (hc : (cellsK mb n).setIfInBounds i u = cellsK mb n') : Dk (w.setCell ⟨db, i, none⟩ u) db mb K n' F := by
  obtain ⟨D, ⟨es, clock, hb, r⟩, hD⟩ := h.map
  have ho : ∀ g, g ≠ db → (w.setCell ⟨db, i, none⟩ u).heap[g]? = w.heap[g]? := fun g hg => heap_setCell_other w ⟨db, i, none⟩ g u hg
  refine ⟨h.lt, ?_, ⟨D, ⟨es, clock, (ho mb (Nat.ne_of_lt h.lt)).trans hb, r⟩, hD⟩, fun k f hk => own_heap (h.own k f hk) (fun g hg _ => ho g (by have := h.rowGe hk g hg; omega)), h.good, h.apart⟩
  rw [← hc]
  exact heap_setCell_same w db i _ _ u h.cells
theorem Dk.setSize (h : Dk w db mb K n F) (x : Int) : Dk (w.setCell ⟨db, 1, none⟩ (.int .i64 x)) db mb K { n with size := x } F := h.write 1 _ _ rfl
theorem Dk.setLeft (h : Dk w db mb K n F) (x : Int) : Dk (w.setCell ⟨db, 3, none⟩ (.int .i64 x)) db mb K { n with left := x } F := h.write 3 _ _ rfl
theorem Dk.setDown (h : Dk w db mb K n F) (x : Bool) : Dk (w.setCell ⟨db, 4, none⟩ (.bool x)) db mb K { n with down := x } F := h.write 4 _ _ rfl
theorem Dk.setCap (h : Dk w db mb K n F) (x : Int) : Dk (w.setCell ⟨db, 0, none⟩ (.int .i64 x)) db mb K { n with cap := x } F := h.write 0 _ _ rfl
end

/-- A block of the dock's. -/
def Mine (db mb : Nat) (F : Int → Option Fi) (b : Nat) : Prop := b = db ∨ b = mb ∨ ∃ k f, F k = some f ∧ f.v.ownBlock = some b
/-- Nothing but some blocks, and new ones, is another. -/
structure Fr (w w' : World) (M : Nat → Prop) : Prop where
  os : w'.os = w.os
  tape : w'.tape = w.tape
  output : w'.output = w.output
  size : w.heap.size ≤ w'.heap.size
  block : ∀ b, b < w.heap.size → ¬ M b → w'.heap[b]? = w.heap[b]?
section
variable {w w1 w2 : World} {M M' : Nat → Prop} {db mb K : Nat} {n : Nm} {F : Int → Option Fi}
theorem Fr.refl (w : World) (M : Nat → Prop) : Fr w w M := ⟨rfl, rfl, rfl, Nat.le_refl _, fun _ _ _ => rfl⟩
theorem Fr.trans (h : Fr w w1 M) (k : Fr w1 w2 M') (hm : ∀ b, M' b → M b ∨ w.heap.size ≤ b) : Fr w w2 M :=
  ⟨k.os.trans h.os, k.tape.trans h.tape, k.output.trans h.output, Nat.le_trans h.size k.size, fun b hb hn => by
    rw [k.block b (Nat.lt_of_lt_of_le hb h.size) (fun hm' => by
      rcases hm b hm' with e | e
      · exact hn e
      · omega)]
    exact h.block b hb hn⟩
theorem Fr.of_below (h : Below w.heap.size w w1) : Fr w w1 M := ⟨h.os, h.tape, h.output, h.size, fun b hb _ => h.block b hb⟩
theorem Fr.then_below (h : Fr w w1 M) (k : Below w1.heap.size w1 w2) : Fr w w2 M := h.trans (M' := fun _ => False) ⟨k.os, k.tape, k.output, k.size, fun b hb _ => k.block b hb⟩ (fun b hb => hb.elim)
theorem Fr.of_below_then (h : Below w.heap.size w w1) (k : Fr w1 w2 M) : Fr w w2 M := (Fr.of_below h).trans k (fun b hb => .inl hb)
theorem Fr.setCell (w : World) (M : Nat → Prop) {p : Addr} (hp : M p.block) (u : Value) : Fr w (w.setCell p u) M :=
  ⟨rfl, rfl, rfl, by simp, fun b hb hn => heap_setCell_other w p b u (fun e => hn (by rw [e]; exact hp))⟩
theorem Fr.grown {row : Option Nat} (h : w.grownBy w1 row) (hr : ∀ g, row = some g → M g) : Fr w w1 M :=
  ⟨h.os, h.tape, h.output, h.size, fun b hb hn => h.block b hb (fun e => hn (hr b e.symm))⟩
theorem Fr.drewN (w : World) (M : Nat → Prop) (k : Nat) : Fr w (w.drewN k) M := ⟨rfl, rfl, rfl, Nat.le_refl _, fun _ _ _ => rfl⟩
theorem Fr.below (h : Fr w w1 (Mine db mb F)) (hk : Dk w db mb K n F) : Below mb w w1 :=
  ⟨h.os, h.tape, h.output, h.size, fun b hb => h.block b (Nat.lt_trans hb (Nat.lt_trans hk.lt hk.dlt)) (fun hm => by
    have := hk.lt
    rcases hm with e | e | ⟨k, f, hf, e⟩
    · omega
    · omega
    · have := hk.rowGe hf b e; omega)⟩
end

/-- 'm[k]', with or without ok, of a map of files. -/
theorem look_run {w : World} {mb K : Nat} {D : DataW Value} {F : Int → Option Fi} (hown : w.ownsMap Try.prog 3 held mb K D) (hD : FilesD D F) {k : Int} (h0 : -9223372036854775808 ≤ k) (h1 : k ≤ 9223372036854775807) {f : Fi} (hf : F k = some f) :
    (Instr.lookup 44 (.map (some mb)) (.int .i64 k) true).run Try.prog w = .ok (.tuple #[fv f, .bool true]) w ∧ (Instr.lookup 44 (.map (some mb)) (.int .i64 k) false).run Try.prog w = .ok (fv f) w := by
  obtain ⟨v, ps, hrun, hv⟩ := hown.look_ok keyedInt Try.underlying44 (zeroFile w) (zd := .held noFile) (zp := []) rfl (keyI h0 h1)
  obtain ⟨v2, ps2, hrun2, hv2⟩ := hown.lookup keyedInt Try.underlying44 (zeroFile w) (zd := .held noFile) (zp := []) rfl (keyI h0 h1)
  rw [(hD k).2 f hf] at hv hv2
  have e1 : v = fv f := held_inj hv
  have e2 : v2 = fv f := held_inj hv2
  rw [e1, (hD k).1, hf] at hrun
  rw [e2] at hrun2
  exact ⟨hrun, hrun2⟩
theorem look_miss {w : World} {mb K : Nat} {D : DataW Value} {F : Int → Option Fi} (hown : w.ownsMap Try.prog 3 held mb K D) (hD : FilesD D F) {k : Int} (h0 : -9223372036854775808 ≤ k) (h1 : k ≤ 9223372036854775807) (hf : F k = none) :
    (Instr.lookup 44 (.map (some mb)) (.int .i64 k) true).run Try.prog w = .ok (.tuple #[noFile, .bool false]) w ∧ (Instr.lookup 44 (.map (some mb)) (.int .i64 k) false).run Try.prog w = .ok noFile w := by
  obtain ⟨v, ps, hrun, hv⟩ := hown.look_ok keyedInt Try.underlying44 (zeroFile w) (zd := .held noFile) (zp := []) rfl (keyI h0 h1)
  obtain ⟨v2, ps2, hrun2, hv2⟩ := hown.lookup keyedInt Try.underlying44 (zeroFile w) (zd := .held noFile) (zp := []) rfl (keyI h0 h1)
  have hh : Maps.has D (kI k) = false := by rw [(hD k).1, hf]; rfl
  rw [Maps.atKey_of_not_has hh] at hv hv2
  have e1 : v = noFile := held_inj hv
  have e2 : v2 = noFile := held_inj hv2
  rw [e1, hh] at hrun
  rw [e2] at hrun2
  exact ⟨hrun, hrun2⟩
section
variable {w w' : World} {db mb K : Nat} {n : Nm} {F : Int → Option Fi}
theorem Dk.look (h : Dk w db mb K n F) {k : Int} (h0 : -9223372036854775808 ≤ k) (h1 : k ≤ 9223372036854775807) {f : Fi} (hf : F k = some f) :
    (Instr.lookup 44 (.map (some mb)) (.int .i64 k) true).run Try.prog w = .ok (.tuple #[.agg #[.slice f.A f.n f.c, .int .i64 (f.s : Int)], .bool true]) w ∧ (Instr.lookup 44 (.map (some mb)) (.int .i64 k) false).run Try.prog w = .ok (.agg #[.slice f.A f.n f.c, .int .i64 (f.s : Int)]) w := by
  obtain ⟨D, hown, hD⟩ := h.map
  exact look_run hown hD h0 h1 hf
theorem Dk.miss (h : Dk w db mb K n F) {k : Int} (h0 : -9223372036854775808 ≤ k) (h1 : k ≤ 9223372036854775807) (hf : F k = none) :
    (Instr.lookup 44 (.map (some mb)) (.int .i64 k) true).run Try.prog w = .ok (.tuple #[.agg #[.slice none 0 0, .int .i64 0], .bool false]) w ∧ (Instr.lookup 44 (.map (some mb)) (.int .i64 k) false).run Try.prog w = .ok (.agg #[.slice none 0 0, .int .i64 0]) w := by
  obtain ⟨D, hown, hD⟩ := h.map
  exact look_miss hown hD h0 h1 hf
end
/-- A dock, but for what it says of one file. -/
structure DkX (w : World) (db mb K : Nat) (n : Nm) (F : Int → Option Fi) (k : Int) : Prop where
  lt : mb < db
  cells : w.heap[db]? = some (.cells (cellsK mb n) 46 (0, 0))
  map : ∃ D, w.ownsMap Try.prog 3 held mb K D ∧ FilesD D F
  own : ∀ k' f, k' ≠ k → F k' = some f → OwnY w (db + 1) f.v f.n f.bs
  good : ∀ k' f, k' ≠ k → F k' = some f → 0 ≤ k' ∧ k' ≤ 999999 ∧ f.s ≤ f.n ∧ Bytes f.bs ∧ f.n ≤ 16777216
  apart : ∀ k1 k2 f f', k1 ≠ k → k2 ≠ k → k1 ≠ k2 → F k1 = some f → F k2 = some f' → ∀ g, f.v.ownBlock = some g → f'.v.ownBlock ≠ some g
section
variable {w w' : World} {db mb K : Nat} {n : Nm} {F : Int → Option Fi} {k : Int}
theorem Dk.x (h : Dk w db mb K n F) (k : Int) : DkX w db mb K n F k := ⟨h.lt, h.cells, h.map, fun k' f _ hf => h.own k' f hf, fun k' f _ hf => h.good k' f hf, fun k1 k2 f f' _ _ hne h1 h2 => h.apart k1 k2 f f' hne h1 h2⟩
theorem DkX.c1 (h : DkX w db mb K n F k) : w.cell? ⟨db, 1, none⟩ = some (.int .i64 n.size) := by simp [World.cell?, h.cells, cellsK]
theorem DkX.c2 (h : DkX w db mb K n F k) : w.cell? ⟨db, 2, none⟩ = some (.map (some mb)) := by simp [World.cell?, h.cells, cellsK]
theorem DkX.fz (h : DkX w db mb K n F k) (i : Nat) : w.frozen? ⟨db, i, none⟩ = false := by simp [World.frozen?, h.cells]
theorem DkX.of_heap (h : DkX w db mb K n F k) (hd : w'.heap[db]? = w.heap[db]?) (hm : w'.heap[mb]? = w.heap[mb]?) (hf : ∀ k' f, k' ≠ k → F k' = some f → ∀ g, f.v.ownBlock = some g → w'.heap[g]? = w.heap[g]?) : DkX w' db mb K n F k := by
  obtain ⟨D, ⟨es, clock, hb, r⟩, hD⟩ := h.map
  exact ⟨h.lt, hd.trans h.cells, ⟨D, ⟨es, clock, hm.trans hb, r⟩, hD⟩, fun k' f hne hk => own_heap (h.own k' f hne hk) (fun g hg _ => hf k' f hne hk g hg), h.good, h.apart⟩
theorem DkX.drewN (h : DkX w db mb K n F k) (j : Nat) : DkX (w.drewN j) db mb K n F k := h.of_heap rfl rfl (fun _ _ _ _ _ _ => rfl)
theorem DkX.setSize (h : DkX w db mb K n F k) (x : Int) : DkX (w.setCell ⟨db, 1, none⟩ (.int .i64 x)) db mb K { n with size := x } F k := by
  obtain ⟨D, ⟨es, clock, hb, r⟩, hD⟩ := h.map
  have ho : ∀ g, g ≠ db → (w.setCell ⟨db, 1, none⟩ (.int .i64 x)).heap[g]? = w.heap[g]? := fun g hg => heap_setCell_other w ⟨db, 1, none⟩ g _ hg
  refine ⟨h.lt, heap_setCell_same w db 1 _ _ _ h.cells, ⟨D, ⟨es, clock, (ho mb (Nat.ne_of_lt h.lt)).trans hb, r⟩, hD⟩, fun k' f hne hk => own_heap (h.own k' f hne hk) (fun g hg _ => ho g (by have := (h.own k' f hne hk).ge g hg; omega)), h.good, h.apart⟩
end
/-- 'm[k] = f'. -/
theorem wplK_put {w : World} {ops : Array Oper} {rest : List Oper} {o : Oper} {a : Act} {Q : Exit → Act → World → Prop} (hgd : o.guard = none) (m x v : Operand) (ho : o.op = Op.mapUpdate 44 m x v)
    {db mb K : Nat} {n : Nm} {F : Int → Option Fi} {k : Int} (hk : DkX w db mb K n F k) (hK : K ≤ 1099511627776) (hm : a.eval m = .map (some mb)) (hx : a.eval x = .int .i64 k) (h0 : 0 ≤ k) (h1 : k ≤ 999999) (f : Fi) (hv : a.eval v = .agg #[.slice f.A f.n f.c, .int .i64 (f.s : Int)])
    (ho1 : OwnY w (db + 1) f.v f.n f.bs) (hgood : f.s ≤ f.n ∧ Bytes f.bs ∧ f.n ≤ 16777216) (hap : ∀ k' f', k' ≠ k → F k' = some f' → ∀ g, f.v.ownBlock = some g → f'.v.ownBlock ≠ some g)
    (h : ∀ w', Dk w' db mb (K + 1) n (putF F k f) → Fr w w' (Mine db mb F) → wpList Try.prog ops Q rest (a.put o.dst undef) w') :
    wpList Try.prog ops Q (o :: rest) a w := by
  obtain ⟨D, hown, hD⟩ := hk.map
  refine wpList_mapUpdate_own w hgd m x v 44 ho 3 57 keyedInt Try.underlying44 held mb K D hm hown (by unfold maxLen; omega) (.int .i64 k) (fv f) (kI k) hx hv (keyI (by omega) (by omega)) (.held (fv f)) [] rfl ?_
  intro w' hown' hg
  have hlt := hk.lt
  have hdlt : db < w.heap.size := heapK_lt hk.cells
  have hrow : ∀ g, db < g → g < w.heap.size → w'.heap[g]? = w.heap[g]? := fun g hg1 hg2 => hg.block g hg2 (fun e => by injection e; omega)
  refine h w' ⟨hlt, ?_, ⟨_, hown', hD.put hown.isMap k f⟩, ?_, ?_, ?_⟩ (Fr.grown hg (fun g hg => by injection hg with e; exact .inr (.inl e.symm)))
  · rw [hg.block db hdlt (fun e => by injection e; omega)]; exact hk.cells
  · intro k' f' hf'
    unfold putF at hf'
    by_cases e : k' = k
    · rw [if_pos e] at hf'
      injection hf' with hf'
      subst hf'
      exact own_heap ho1 (fun g hg1 hg2 => hrow g (ho1.ge g hg1) hg2)
    · rw [if_neg e] at hf'
      have ho2 := hk.own k' f' e hf'
      exact own_heap ho2 (fun g hg1 hg2 => hrow g (ho2.ge g hg1) hg2)
  · intro k' f' hf'
    unfold putF at hf'
    by_cases e : k' = k
    · rw [if_pos e] at hf'
      injection hf' with hf'
      subst hf' e
      exact ⟨h0, h1, hgood⟩
    · rw [if_neg e] at hf'
      exact hk.good k' f' e hf'
  · intro k1 k2 f1 f2 hne h1' h2' g hg1
    unfold putF at h1' h2'
    by_cases e1 : k1 = k
    · rw [if_pos e1] at h1'
      have e2 : ¬ k2 = k := fun e => hne (e1.trans e.symm)
      rw [if_neg e2] at h2'
      injection h1' with h1'
      subst h1'
      exact hap k2 f2 e2 h2' g hg1
    · rw [if_neg e1] at h1'
      by_cases e2 : k2 = k
      · rw [if_pos e2] at h2'
        injection h2' with h2'
        subst h2'
        exact fun h3 => hap k1 f1 e1 h1' g h3 hg1
      · rw [if_neg e2] at h2'
        exact hk.apart k1 k2 f1 f2 e1 e2 hne h1' h2' g hg1
end Go.Proofs.Ytfpcfbolpnfacaa
