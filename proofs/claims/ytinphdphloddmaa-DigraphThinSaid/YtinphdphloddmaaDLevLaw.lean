/-
  THE WALK of the statement DigraphLevels: whatever the graph, the call returns true and writes nothing that was there.
-/
import Derived.Test.YtinphdphloddmaaDLev
import Derived.Test.YtinphdphloddmaaDPrefixes
import Derived.Deep.QuietTactic
import Derived.BigQuiet
namespace Go.Proofs.Ytinphdphloddmaa
open Go.RowKit
open DiP
set_option linter.unusedVariables false

/-! ### A slice of bool that the call itself made -/
theorem infoBool : (Try.prog.info? 4).map (fun i => (i.zero, i.size, i.bytes)) = some (some (.bool false), 1, 1) := by kernel_rfl
def bx (bs : List Bool) (i : Nat) : Bool := bs.getD i false
def OwnB (w : World) (base : Nat) (v : Value) (n : Nat) (bs : List Bool) : Prop := w.ownsRow base 4 1 v n (bs.map Value.bool)
section
variable {w w' : World} {base n c g : Nat} {v : Value} {bs : List Bool}
theorem OwnB.len (h : OwnB w base v n bs) : bs.length = n := by simpa using h.1
theorem OwnB.cell (h : OwnB w base (.slice (some ⟨g, 0, none⟩) n c) n bs) {j : Nat} (hj : j < n) : w.cell? ⟨g, j, none⟩ = some (.bool (bx bs j)) := by
  have hl : j < bs.length := by rw [h.len]; exact hj
  rw [h.cellAt j (by omega)]
  simp [bx, List.getD, hl]
theorem OwnB.free (h : OwnB w base (.slice (some ⟨g, 0, none⟩) n c) n bs) (j : Nat) : w.frozen? ⟨g, j, none⟩ = false := h.frozenAt j
theorem OwnB.store (h : OwnB w base (.slice (some ⟨g, 0, none⟩) n c) n bs) (j : Nat) (u : Bool) : OwnB (w.setCell ⟨g, j, none⟩ (.bool u)) base (.slice (some ⟨g, 0, none⟩) n c) n (bs.set j u) := by
  have := (h.stored j (.bool u)).1
  unfold OwnB; rw [List.map_set]; exact this
theorem OwnB.far (h : OwnB w base (.slice (some ⟨g, 0, none⟩) n c) n bs) {p : Addr} (hp : g ≠ p.block) (u : Value) : OwnB (w.setCell p u) base (.slice (some ⟨g, 0, none⟩) n c) n bs := by
  refine ⟨h.1, ?_⟩
  rcases h.2 with h | ⟨g', cap, cur, hv, hbg, hh, r⟩
  · exact .inl h
  · refine .inr ⟨g', cap, cur, hv, hbg, ?_, r⟩
    cases hv
    rw [Below.heap_setCell w p u g hp]; exact hh
theorem Own.far {xs : List Int} (h : Own w base (.slice (some ⟨g, 0, none⟩) n c) n xs) {p : Addr} (hp : g ≠ p.block) (u : Value) : Own (w.setCell p u) base (.slice (some ⟨g, 0, none⟩) n c) n xs := by
  refine ⟨h.1, ?_⟩
  rcases h.2 with h | ⟨g', cap, cur, hv, hbg, hh, r⟩
  · exact .inl h
  · refine .inr ⟨g', cap, cur, hv, hbg, ?_, r⟩
    cases hv
    rw [Below.heap_setCell w p u g hp]; exact hh
theorem Own.home {xs : List Int} (h : Own w base (.slice (some ⟨g, 0, none⟩) n c) n xs) : g < w.heap.size := by
  rcases h.2 with ⟨e, _⟩ | ⟨g', cap, cur, e, _, hh, _⟩
  · cases e
  · cases e
    rcases Nat.lt_or_ge g w.heap.size with hlt | hge
    · exact hlt
    · rw [Array.getElem?_eq_none hge] at hh; cases hh
theorem bx_set (bs : List Bool) (j k : Nat) (u : Bool) (hj : j < bs.length) : bx (bs.set j u) k = if j = k then u else bx bs k := by
  unfold bx
  by_cases h : j = k
  · subst h; simp [List.getD, hj]
  · simp [List.getD, h]
theorem bx_replicate (n j : Nat) : bx (List.replicate n false) j = false := by
  unfold bx
  by_cases h : j < n <;> simp [List.getD, h]
end

theorem wpl_makeB {w : World} {ops : Array Oper} {rest : List Oper} {o : Oper} {a : Act} {Q : Exit → Act → World → Prop} (hgd : o.guard = none) (l c : Operand)
    (ho : o.op = Op.makeSlice 40 l c) (base n : Nat) (hl : a.eval l = .int .i64 (n : Int)) (hc : a.eval c = .int .i64 (n : Int)) (hn : n ≤ 1099511627776) (hbase : base ≤ w.heap.size)
    (h : ∀ w', OwnB w' base (.slice (some ⟨w.heap.size, 0, none⟩) n n) n (List.replicate n false) → w.grownBy w' none → wpList Try.prog ops Q rest (a.put o.dst (.slice (some ⟨w.heap.size, 0, none⟩) n n)) w') :
    wpList Try.prog ops Q (o :: rest) a w := by
  obtain ⟨i0, hi, hz0, hz1, hz2⟩ := info_parts infoBool
  refine wpList_make_full w hgd l c 40 ho base 4 i0 (.bool false) 1 Try.underlying40 hi hz0 hz1 .i64 .i64 n n n hl hc rfl rfl (by rw [hz2]; omega) (by unfold maxLen; omega) hbase ?_
  intro w' hown hg
  refine h w' ?_ hg
  unfold OwnB
  have e : (madeCells (Value.bool false).cells (n * 1)).toList = (List.replicate n false).map Value.bool := by
    simp only [madeCells, Value.cells, Array.toList_map, Array.toList_range, Nat.mul_one, List.map_replicate]
    refine List.eq_replicate_iff.2 ⟨by simp, fun b hb => ?_⟩
    obtain ⟨x, _, rfl⟩ := List.mem_map.1 hb
    have : x % 1 = 0 := Nat.mod_one x
    simp [this]
  rw [← e]; exact hown


def blL (n : Nat) (f : Nat → Bool) : List Bool := (List.range n).map f
theorem blL_bx {n : Nat} (f : Nat → Bool) {i : Nat} (h : i < n) : bx (blL n f) i = f i := by simp [bx, blL, List.getD, h]
def updB (f : Nat → Bool) (i : Nat) (x : Bool) : Nat → Bool := fun v => if v = i then x else f v
theorem blL_set {n : Nat} (f : Nat → Bool) {i : Nat} (x : Bool) (h : i < n) : (blL n f).set i x = blL n (updB f i x) := by
  apply List.ext_getElem?
  intro j
  rw [List.getElem?_set]
  by_cases hj : i = j
  · subst hj; simp [blL, h, updB]
  · rw [if_neg hj]
    unfold blL updB
    rw [List.getElem?_map, List.getElem?_map]
    by_cases hl : j < n
    · have hji : ¬ j = i := fun e => hj e.symm
      simp [hl, hji]
    · simp [hl]
theorem blL_none (n : Nat) : List.replicate n false = blL n (fun _ => false) := by
  apply List.ext_getElem?
  intro j
  by_cases hl : j < n <;> simp [blL, hl]
/-- Has a node, of the first k edges, one from the level below? -/
def blK (g : List (Nat × Nat)) (lev : Nat → Nat) : Nat → Nat → Bool
  | 0 => fun _ => false
  | k + 1 => updB (blK g lev k) (fb g k) (blK g lev k (fb g k) || decide (lev (fa g k) + 1 = lev (fb g k)))
theorem blK_has {g : List (Nat × Nat)} {lev : Nat → Nat} {j : Nat} (h : lev (fa g j) + 1 = lev (fb g j)) : ∀ k, j < k → blK g lev k (fb g j) = true := by
  intro k
  induction k with
  | zero => intro h; omega
  | succ k ih =>
    intro hj
    unfold blK updB
    by_cases e : fb g j = fb g k
    · rw [if_pos e]
      by_cases hjk : j = k
      · subst hjk; simp [h]
      · rw [← e, ih (by omega)]; rfl
    · rw [if_neg e]
      by_cases hjk : j = k
      · subst hjk; exact absurd rfl e
      · exact ih (by omega)

set_option maxHeartbeats 1000000 in
theorem levels_bad {w : World} {B m c : Nat} {n : Int} {A : Option Addr} {es : List (Int × Int)} (hx : RdE w B A m es) (hr : ¬ GraphR n es) (hm0 : m ≤ 9223372036854775807) (hB : B ≤ w.heap.size) :
    Calls Try.prog 18 #[.agg #[.int .i64 n, .slice A m c]] w fun e w' => e = .returned (.tuple #[.slice none 0 0, .int .i64 20]) ∧ Below w.heap.size w w' := by
  have HX := Lib.hid hx
  have HR := Lib.hid hr
  clear hx hr
  go_enter Try.func18, Try.ntmps18
  go_wp2_with fail
  refine (order_bad (HX.out.alloc hB _) HR.out hm0 (by simp; omega)).mono ?_
  rintro e w2 ⟨rfl, hb⟩
  have HB := Lib.hid hb
  clear hb
  go_wp2
  go_ret2
  exact ⟨rfl, ((Below.refl _ _).alloc (Nat.le_refl _) _).trans (HB.out.mono (by simp))⟩
set_option maxHeartbeats 1000000 in
theorem levels_no {w : World} {B m c n : Nat} {A : Option Addr} {g : List (Nat × Nat)} (hx : RdG w B A m g) (hi : InN n g) (hn : n ≤ 64) (hm : m ≤ 4096) (hB : B ≤ w.heap.size) (hG : ¬ Goes (befG g) n n) :
    Calls Try.prog 18 #[.agg #[.int .i64 (n : Int), .slice A m c]] w fun e w' => e = .returned (.tuple #[.slice none 0 0, .int .i64 21]) ∧ Below w.heap.size w w' := by
  have HX := Lib.hid hx
  have HI := Lib.hid hi
  have HG := Lib.hid hG
  clear hx hi hG
  go_enter Try.func18, Try.ntmps18
  go_wp2_with fail
  refine (order_any (RdE.alloc HX.out hB _) HI.out hn hm (by simp; omega)).mono ?_
  rintro e w2 ⟨hb, ho⟩
  have he : Hid (e = .returned (.tuple #[.slice none 0 0, .int .i64 21])) := by
    rcases ho with ⟨h, _⟩ | ⟨_, h⟩
    · exact absurd h HG.out
    · exact Lib.hid h
  clear ho
  obtain rfl := he.out
  have HB := Lib.hid hb
  clear hb he
  go_wp2
  go_ret2
  exact ⟨rfl, ((Below.refl _ _).alloc (Nat.le_refl _) _).trans (HB.out.mono (by simp))⟩

theorem wpStill_want {P : Program} {ops : Array Oper} {w : World} {Q : Act → Prop} {a : Act} {o : Oper} {rest : List Oper} (hw : Region.wanted o (yielded ops a.tmps) = true)
    (h : ∀ K : Act → Prop, (∀ a, wpStill P ops w Q rest a → K a) → o.still P a w K) : wpStill P ops w Q (o :: rest) a :=
  wpStill_step fun K hK => by rw [if_pos hw]; exact h K hK
theorem wpStill_skip {P : Program} {ops : Array Oper} {w : World} {Q : Act → Prop} {a : Act} {o : Oper} {rest : List Oper} (hw : Region.wanted o (yielded ops a.tmps) = false)
    (h : wpStill P ops w Q rest (a.put o.dst undef)) : wpStill P ops w Q (o :: rest) a :=
  wpStill_step fun K hK => by rw [if_neg (by rw [hw]; exact Bool.false_ne_true)]; exact hK _ h

/-- Where the loop over the edges stands. -/
structure LlAt (wr w : World) (B lb bb n m : Nat) (A : Option Addr) (g : List (Nat × Nat)) (lev : Nat → Nat) (f : Nat → Bool) : Prop where
  own : OwnB wr bb (.slice (some ⟨bb, 0, none⟩) n n) n (blL n f)
  lev : ∀ i, i < n → wr.cell? ⟨lb, i, none⟩ = some (.int .i64 (lev i : Int))
  rd : RdG wr B A m g
  bel : Below w.heap.size w wr
  l1 : lb < bb
  l2 : B ≤ bb
  l3 : w.heap.size ≤ bb
  l4 : bb < wr.heap.size
theorem OwnB.below {w w' : World} {B base n : Nat} {v : Value} {bs : List Bool} (h : OwnB w base v n bs) (hb : Below B w w') (hg : ∀ g, v.ownBlock = some g → g < B) : OwnB w' base v n bs := by
  refine ⟨h.1, ?_⟩
  rcases h.2 with h | ⟨g, cap, cur, hv, hbg, hh, r⟩
  · exact .inl h
  · refine .inr ⟨g, cap, cur, hv, hbg, ?_, r⟩
    rw [hb.block g (hg g (by rw [hv]; rfl))]
    exact hh
theorem LlAt.later {wr w w2 : World} {B lb bb n m : Nat} {A : Option Addr} {g : List (Nat × Nat)} {lev : Nat → Nat} {f : Nat → Bool} (h : LlAt wr w B lb bb n m A g lev f) (hb : Below wr.heap.size wr w2) : LlAt w2 w B lb bb n m A g lev f :=
  ⟨h.own.below hb (fun x hx => by cases hx; exact h.l4), fun i hi => (hb.cell (p := ⟨lb, i, none⟩) (by have := h.l1; have := h.l4; show lb < _; omega)).trans (h.lev i hi),
    h.rd.below (hb.mono (by have := h.l2; have := h.l4; omega)), h.bel.trans (hb.mono h.bel.size), h.l1, h.l2, h.l3, Nat.lt_of_lt_of_le h.l4 hb.size⟩
theorem LlAt.set {wr w : World} {B lb bb n m : Nat} {A : Option Addr} {g : List (Nat × Nat)} {lev : Nat → Nat} {f : Nat → Bool} (h : LlAt wr w B lb bb n m A g lev f) (i : Nat) (x : Bool) (hi : i < n) : LlAt (wr.setCell ⟨bb, i, none⟩ (.bool x)) w B lb bb n m A g lev (updB f i x) :=
  ⟨by rw [← blL_set f x hi]; exact h.own.store i x, fun j hj => by rw [World.cell?_setCell_other _ _ _ _ (fun e => by injection e; have := h.l1; omega)]; exact h.lev j hj,
    RdE.keep h.rd (fun p hp => World.cell?_setCell_other _ _ _ _ (fun e => by subst e; have := h.l2; simp at hp; omega)), h.bel.setCell (by have := h.l3; simp; omega) _, h.l1, h.l2, h.l3, by simpa using h.l4⟩

set_option maxRecDepth 100000 in
set_option maxHeartbeats 2000000 in
theorem law_levels_go {w : World} {B m c N : Nat} {A : Option Addr} {g : List (Nat × Nat)} (hx : RdG w B A m g) (hi : InN N g) (hn : N ≤ 20) (hm : m ≤ 100) (hB : B ≤ w.heap.size) (hG : Goes (befG g) N N) :
    Calls Try.prog 10 #[.agg #[.int .i64 (N : Int), .slice A m c]] w fun e w' => e = .returned (.bool true) ∧ Below w.heap.size w w' := by
  have HX := Lib.hid hx
  have HI := Lib.hid hi
  have HG := Lib.hid hG
  have HL := Lib.hid hx.len
  have HR := Lib.hid (graphR_cast hi (show N ≤ 64 by omega) (by rw [hx.len]; omega))
  have HED : Hid (∀ k, k < m → levG N g (fa g k) < levG N g (fb g k)) := Lib.hid (fun k hk => levG_edge hi (by omega) hG ⟨k, by rw [hx.len]; exact hk, rfl, rfl⟩)
  have HFR : Hid (∀ v, v < N → 0 < levG N g v → blK g (levG N g) m v = true) := Lib.hid (fun v hv h0 => by
    obtain ⟨u, ⟨j, hj, rfl, rfl⟩, he⟩ := levG_from hi (by omega) hG hv h0
    exact blK_has he.symm m (by rw [← hx.len]; exact hj))
  have HLE : Hid (∀ v, levG N g v ≤ N) := Lib.hid (fun v => levS_le _ _ _ _ _)
  clear hx hi hG
  go_enter Try.func10, Try.ntmps10
  go_wp2_with fail
  refine (anchor_any _).mono ?_
  rintro e w1 ⟨rfl, hb⟩
  obtain ⟨hcn, hcs⟩ := (boxed_alloc w (N : Int) A m c 24).below hb (by simp)
  have HB1 : Hid (Below w.heap.size w w1) := Lib.hid (((Below.refl _ _).alloc (Nat.le_refl _) _).trans (hb.mono (by simp)))
  have hsz1 : w.heap.size < w1.heap.size := by have := hb.size; simp at this; omega
  clear hb
  go_wp2_with fail
  refine (small_right (HX.out.below (HB1.out.mono hB)) HR.out (by omega)).mono ?_
  rintro e w2 ⟨rfl, hb⟩
  rw [show (decide (m ≤ 100) && decide ((N : Int) ≤ 20)) = true by simp; omega]
  obtain ⟨hcn2, hcs2⟩ := Boxed.below ⟨hcn, hcs⟩ hb hsz1
  have HB2 : Hid (Below w.heap.size w w2) := Lib.hid (HB1.out.trans (hb.mono (by omega)))
  have hsz2 : w.heap.size < w2.heap.size := Nat.lt_of_lt_of_le hsz1 hb.size
  clear hb hcn hcs hsz1 HB1
  go_wp2_with fail
  refine (levels_any (HX.out.below (HB2.out.mono hB)) (by omega) HI.out (by omega) (by omega) HG.out).mono ?_
  rintro e w3 ⟨hb, lb, hlb0, he, hown⟩
  obtain rfl := he
  obtain ⟨hcn3, hcs3⟩ := Boxed.below ⟨hcn2, hcs2⟩ hb hsz2
  have HB3 : Hid (Below w.heap.size w w3) := Lib.hid (HB2.out.trans (hb.mono (by omega)))
  have hsz3 : w.heap.size < w3.heap.size := Nat.lt_of_lt_of_le hsz2 hb.size
  have HLV : Hid (∀ i, i < N → w3.cell? ⟨lb, i, none⟩ = some (.int .i64 (levG N g i : Int))) := Lib.hid (fun i hi => by rw [hown.cell hi, levL_ix _ hi])
  have HOWN := Lib.hid hown
  clear hb hcn2 hcs2 hsz2 HB2 hown
  generalize levG N g = lev at *
  go_wp2_with (at_make; refine wpl_makeB rfl (.tmp 31) (.tmp 31) rfl w3.heap.size N rfl rfl (by omega) (Nat.le_refl _) ?_; intro w4 hown4 hgr4; (have hcn4 := (World.cell?_of_block (a := ⟨w.heap.size, 0, none⟩) (hgr4.block w.heap.size hsz3 (by simp))).trans hcn3); (have hcs4 := (World.cell?_of_block (a := ⟨w.heap.size, 1, none⟩) (hgr4.block w.heap.size hsz3 (by simp))).trans hcs3))
  have hlb : lb < w3.heap.size := HOWN.out.home
  have HLL : Hid (LlAt w4 w B lb w3.heap.size N m A g lev (blK g lev 0)) := Lib.hid
    ⟨by rw [blL_none] at hown4; exact hown4, fun i hi => (World.cell?_of_block (a := ⟨lb, i, none⟩) (hgr4.block lb hlb (by simp))).trans (HLV.out i hi),
      RdE.keep (HX.out.below (HB3.out.mono hB)) (fun p hp => World.cell?_of_block (hgr4.block p.block (by omega) (by simp))),
      HB3.out.grown hgr4 (by omega) (by simp), hlb, by omega, by omega, World.ownsRow.lt hown4 _ rfl |>.2⟩
  have hcB : w.heap.size < w3.heap.size := hsz3
  clear hown4 hgr4 hcn3 hcs3 hsz3 HB3 HLV HOWN HX hlb0 hlb hcs4
  generalize w3.heap.size = bb at *
  go_loopw [36] (fun i wr => ∃ k : Nat, k ≤ m ∧ i = .int .i64 (k : Int) ∧ Hid (LlAt wr w B lb bb N m A g lev (blK g lev k))) (fun i _ => m - (intOf i).toNat)
  case atStart => exact ⟨0, by omega, rfl, HLL⟩
  case round =>
    clear HLL hcn4
    obtain ⟨k, hk, rfl, HLL⟩ := hrel
    by_cases hlt : k < m
    · obtain ⟨b, off, rfl, hbb, hca, hcb⟩ := HLL.out.rd.at_ hlt
      obtain ⟨hfa, hfb⟩ := HI.out k (by rw [HL.out]; exact hlt)
      have hed := HED.out k hlt
      have hle := HLE.out (fb g k)
      have HN : Hid (blK g lev (k + 1) = updB (blK g lev k) (fb g k) (blK g lev k (fb g k) || decide (lev (fa g k) + 1 = lev (fb g k)))) := Lib.hid rfl
      go_wp2_with fail
      obtain ⟨w5, HW5⟩ : ∃ w5, Hid (w5 = wr.alloc (.cells #[.int .i64 (fa g k), .int .i64 (fb g k)] 52)) := ⟨_, Lib.hid rfl⟩
      have HL5 : Hid (LlAt w5 w B lb bb N m (some ⟨b, off, none⟩) g lev (blK g lev k)) := Lib.hid (by rw [HW5.out]; exact HLL.out.later ((Below.refl _ _).alloc (Nat.le_refl _) _))
      have he0 : w5.cell? ⟨wr.heap.size, 0, none⟩ = some (.int .i64 (fa g k : Int)) := by rw [HW5.out]; simp
      have he1 : w5.cell? ⟨wr.heap.size, 1, none⟩ = some (.int .i64 (fb g k : Int)) := by rw [HW5.out]; simp
      rw [← HW5.out]
      have hla := HL5.out.lev (fa g k) hfa
      have hlb5 := HL5.out.lev (fb g k) hfb
      have hbl := HL5.out.own.cell (j := fb g k) hfb
      have hbf := HL5.out.own.free (fb g k)
      rw [blL_bx _ hfb] at hbl
      have hx0 : (0 : Int) ≤ (fa g k : Int) := by omega
      have hx1 : (fa g k : Int) < (N : Int) := by omega
      have hx2 : (0 : Int) ≤ (fb g k : Int) := by omega
      have hx3 : (fb g k : Int) < (N : Int) := by omega
      have hd : decide ((lev (fb g k) : Int) ≤ (lev (fa g k) : Int)) = false := by simp; omega
      go_quiet (fail)
      rename_i nq
      go_wp2_with fail
      obtain ⟨w6, HW6⟩ : ∃ w6, Hid (w6 = (w5.drewN nq).drew) := ⟨_, Lib.hid rfl⟩
      have HL6 : Hid (LlAt w6 w B lb bb N m (some ⟨b, off, none⟩) g lev (blK g lev k)) := Lib.hid (by
        rw [HW6.out]
        have h := HL5.out
        exact ⟨h.own, h.lev, h.rd, below_drewN (below_drewN h.bel nq) 1, h.l1, h.l2, h.l3, h.l4⟩)
      have he06 : w6.cell? ⟨wr.heap.size, 0, none⟩ = some (.int .i64 (fa g k : Int)) := by rw [HW6.out]; exact he0
      have he16 : w6.cell? ⟨wr.heap.size, 1, none⟩ = some (.int .i64 (fb g k : Int)) := by rw [HW6.out]; exact he1
      have hla6 := HL6.out.lev (fa g k) hfa
      have hlb6 := HL6.out.lev (fb g k) hfb
      have hbl6 := HL6.out.own.cell (j := fb g k) hfb
      have hbf6 := HL6.out.own.free (fb g k)
      rw [blL_bx _ hfb] at hbl6
      have h1 : (lev (fb g k) : Int) ≤ 20 := by omega
      have h2 : (0 : Int) ≤ (lev (fb g k) : Int) - 1 := by omega
      refine wp_region_still_tail 23 (by kernel_rfl) (by kernel_rfl) ?_
      have e2 : { (w5.drewN nq) with drawn := (w5.drewN nq).drawn + 1 } = w6 := HW6.out.symm
      rw [e2]
      clear e2 he0 he1 hla hlb5 hbl hbf
      simp only [List.take_succ_cons, List.take_zero, List.drop_succ_cons, List.drop_zero]
      cases hbx : blK g lev k (fb g k) with
      | true =>
        rw [hbx] at hbl6
        have HBX := Lib.hid hbx
        clear hbx
        iterate 9 (refine wpStill_want (by kernel_rfl) (fun K hK => ?_); go_simp; refine hK _ ?_; clear hK K)
        iterate 12 (with_reducible refine wpStill_skip (by kernel_rfl) ?_; simp only [Act.put, List.setIfInBounds_toArray, List.set_cons_zero, List.set_cons_succ])
        iterate 2 (refine wpStill_want (by kernel_rfl) (fun K hK => ?_); go_simp; refine hK _ ?_; clear hK K)
        refine wpStill_nil ?_
        go_wp2_with fail
        go_roundw
        case rel => exact ⟨k + 1, by omega, by go_num, Lib.hid (by
          rw [HN.out, HBX.out, Bool.true_or]
          exact HL6.out.set _ _ hfb)⟩
        case measure => simp [intOf]; omega
      | false =>
        rw [hbx] at hbl6
        have HBX := Lib.hid hbx
        clear hbx
        have HQ : Hid (((lev (fa g k) : Int) == (lev (fb g k) : Int) - 1) = decide (lev (fa g k) + 1 = lev (fb g k))) := Lib.hid (by
          by_cases h : lev (fa g k) + 1 = lev (fb g k)
          · rw [decide_eq_true h]; simp; omega
          · rw [decide_eq_false h]; simp; omega)
        iterate 23 (refine wpStill_want (by kernel_rfl) (fun K hK => ?_); go_simp; refine hK _ ?_; clear hK K)
        refine wpStill_nil ?_
        go_wp2_with fail
        go_roundw
        case rel => exact ⟨k + 1, by omega, by go_num, Lib.hid (by
          rw [HN.out, HBX.out, Bool.false_or, ← HQ.out]
          exact HL6.out.set _ _ hfb)⟩
        case measure => simp [intOf]; omega
    · obtain rfl : k = m := by omega
      go_wp2_with fail
      go_loop [77] (fun i => ∃ v : Nat, v ≤ N ∧ i = .int .i64 (v : Int)) (fun i => N - (intOf i).toNat)
      case atStart => exact ⟨0, by omega, rfl⟩
      case round =>
        obtain ⟨v, hv, rfl⟩ := hrel
        by_cases hlv : v < N
        · have hcv := HLL.out.lev v hlv
          have hbv := HLL.out.own.cell (j := v) hlv
          rw [blL_bx _ hlv] at hbv
          have hle := HLE.out v
          by_cases h0 : lev v = 0
          · have h0' : decide (0 < (lev v : Int)) = false := by simp; omega
            have h1' : (lev v : Int) ≤ 0 := by omega
            clear h0
            go_wp2
            go_round
            case rel => exact ⟨v + 1, by omega, by go_num⟩
            case measure => simp [intOf]; omega
          · have h0' : (0 : Int) < (lev v : Int) := by omega
            rw [HFR.out v hlv (by omega)] at hbv
            clear h0
            go_wp2
            go_round
            case rel => exact ⟨v + 1, by omega, by go_num⟩
            case measure => simp [intOf]; omega
        · go_wp2
          go_ret
          exact ⟨rfl, HLL.out.bel⟩

set_option maxRecDepth 100000 in
set_option maxHeartbeats 1000000 in
theorem law_levels {w : World} {m c : Nat} {n : Int} {A : Option Addr} {es : List (Int × Int)} (hx : RdE w w.heap.size A m es) (hm0 : m ≤ 9223372036854775807) :
    Calls Try.prog 10 #[.agg #[.int .i64 n, .slice A m c]] w fun e w' => e = .returned (.bool true) ∧ Below w.heap.size w w' := by
  by_cases hr : GraphR n es
  · obtain ⟨N, g, rfl, rfl, hi, hN, hl⟩ := graph_nat hr
    by_cases hsm : m ≤ 100 ∧ N ≤ 20
    · by_cases hG : Goes (befG g) N N
      · exact law_levels_go hx hi hsm.2 hsm.1 (Nat.le_refl _) hG
      · obtain ⟨hm, hn⟩ := hsm
        have HX := Lib.hid hx
        have HI := Lib.hid hi
        have HG := Lib.hid hG
        have HR := Lib.hid hr
        clear hx hi hG hr
        go_enter Try.func10, Try.ntmps10
        go_wp2_with fail
        refine (anchor_any _).mono ?_
        rintro e w1 ⟨rfl, hb⟩
        obtain ⟨hcn, hcs⟩ := (boxed_alloc w (N : Int) A m c 24).below hb (by simp)
        have HB1 : Hid (Below w.heap.size w w1) := Lib.hid (((Below.refl _ _).alloc (Nat.le_refl _) _).trans (hb.mono (by simp)))
        have hsz1 : w.heap.size < w1.heap.size := by have := hb.size; simp at this; omega
        clear hb
        go_wp2_with fail
        refine (small_right (HX.out.below HB1.out) HR.out (by omega)).mono ?_
        rintro e w2 ⟨rfl, hb⟩
        rw [show (decide (m ≤ 100) && decide ((N : Int) ≤ 20)) = true by simp; omega]
        obtain ⟨hcn2, hcs2⟩ := Boxed.below ⟨hcn, hcs⟩ hb hsz1
        have HB2 : Hid (Below w.heap.size w w2) := Lib.hid (HB1.out.trans (hb.mono (by omega)))
        have hsz2 : w.heap.size < w2.heap.size := Nat.lt_of_lt_of_le hsz1 hb.size
        clear hb hcn hcs hsz1
        go_wp2_with fail
        refine (levels_no (g := g) (HX.out.below HB2.out) HI.out (by omega) (by omega) (by omega) HG.out).mono ?_
        rintro e w3 ⟨rfl, hb⟩
        have HB3 : Hid (Below w.heap.size w w3) := Lib.hid (HB2.out.trans (hb.mono (by omega)))
        clear hb
        go_wp2
        go_ret
        exact ⟨rfl, HB3.out⟩
    · have HX := Lib.hid hx
      have HR := Lib.hid hr
      have HS : Hid ((decide (m ≤ 100) && decide ((N : Int) ≤ 20)) = false) := Lib.hid (by simp; omega)
      clear hx hi hr hsm
      go_enter Try.func10, Try.ntmps10
      go_wp2_with fail
      refine (anchor_any _).mono ?_
      rintro e w1 ⟨rfl, hb⟩
      obtain ⟨hcn, hcs⟩ := (boxed_alloc w (N : Int) A m c 24).below hb (by simp)
      have HB1 : Hid (Below w.heap.size w w1) := Lib.hid (((Below.refl _ _).alloc (Nat.le_refl _) _).trans (hb.mono (by simp)))
      have hsz1 : w.heap.size < w1.heap.size := by have := hb.size; simp at this; omega
      clear hb
      go_wp2_with fail
      refine (small_right (HX.out.below HB1.out) HR.out (by omega)).mono ?_
      rintro e w2 ⟨rfl, hb⟩
      rw [HS.out]
      have HB2 : Hid (Below w.heap.size w w2) := Lib.hid (HB1.out.trans (hb.mono (by omega)))
      clear hb
      go_wp2
      go_ret
      exact ⟨rfl, HB2.out⟩
  · have HX := Lib.hid hx
    have HR := Lib.hid hr
    clear hx hr
    by_cases hm : m ≤ 100
    · have HS : Hid (decide (m ≤ 100) = true) := Lib.hid (by simp; omega)
      go_enter Try.func10, Try.ntmps10
      go_wp2_with fail
      refine (anchor_any _).mono ?_
      rintro e w1 ⟨rfl, hb⟩
      obtain ⟨hcn, hcs⟩ := (boxed_alloc w n A m c 24).below hb (by simp)
      have HB1 : Hid (Below w.heap.size w w1) := Lib.hid (((Below.refl _ _).alloc (Nat.le_refl _) _).trans (hb.mono (by simp)))
      have hsz1 : w.heap.size < w1.heap.size := by have := hb.size; simp at this; omega
      clear hb
      go_wp2_with fail
      refine (small_wrong (HX.out.below HB1.out) HR.out hm0 (by omega)).mono ?_
      rintro e w2 ⟨rfl, hb⟩
      rw [HS.out]
      obtain ⟨hcn2, hcs2⟩ := Boxed.below ⟨hcn, hcs⟩ hb hsz1
      have HB2 : Hid (Below w.heap.size w w2) := Lib.hid (HB1.out.trans (hb.mono (by omega)))
      have hsz2 : w.heap.size < w2.heap.size := Nat.lt_of_lt_of_le hsz1 hb.size
      clear hb hcn hcs hsz1
      go_wp2_with fail
      refine (levels_bad (HX.out.below HB2.out) HR.out hm0 (by omega)).mono ?_
      rintro e w3 ⟨rfl, hb⟩
      have HB3 : Hid (Below w.heap.size w w3) := Lib.hid (HB2.out.trans (hb.mono (by omega)))
      clear hb
      go_wp2
      go_ret
      exact ⟨rfl, HB3.out⟩
    · have HS : Hid (decide (m ≤ 100) = false) := Lib.hid (by simp; omega)
      go_enter Try.func10, Try.ntmps10
      go_wp2_with fail
      refine (anchor_any _).mono ?_
      rintro e w1 ⟨rfl, hb⟩
      obtain ⟨hcn, hcs⟩ := (boxed_alloc w n A m c 24).below hb (by simp)
      have HB1 : Hid (Below w.heap.size w w1) := Lib.hid (((Below.refl _ _).alloc (Nat.le_refl _) _).trans (hb.mono (by simp)))
      have hsz1 : w.heap.size < w1.heap.size := by have := hb.size; simp at this; omega
      clear hb
      go_wp2_with fail
      refine (small_wrong (HX.out.below HB1.out) HR.out hm0 (by omega)).mono ?_
      rintro e w2 ⟨rfl, hb⟩
      rw [HS.out]
      have HB2 : Hid (Below w.heap.size w w2) := Lib.hid (HB1.out.trans (hb.mono (by omega)))
      clear hb
      go_wp2
      go_ret
      exact ⟨rfl, HB2.out⟩
end Go.Proofs.Ytinphdphloddmaa
