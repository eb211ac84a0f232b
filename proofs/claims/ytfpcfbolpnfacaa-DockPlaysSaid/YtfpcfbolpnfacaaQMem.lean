/-
  WORDS FOR MEMORY: the twin with its files' bytes; appends of bytes in a region that draws.
-/
import Derived.Test.YtfpcfbolpnfacaaQSet
import Derived.Deep.AppendLies
namespace Go.Proofs.Ytfpcfbolpnfacaa
open Go.RowKit
open ByteP
set_option linter.unusedVariables false
set_option maxRecDepth 10000
theorem OwnF.heap {w w' : World} {base : Nat} {v : Value} {l : List TF} (h : OwnF w base v l) (hk : ∀ g, v.ownBlock = some g → g < w.heap.size → w'.heap[g]? = w.heap[g]?) : OwnF w' base v l := by
  refine ⟨h.1, ?_⟩
  rcases h.2 with h' | ⟨g, cap, cur, hv, hb, hg, r⟩
  · exact .inl h'
  · refine .inr ⟨g, cap, cur, hv, hb, ?_, r⟩
    rw [hk g (by rw [hv]; rfl) (heapK_lt hg)]; exact hg
theorem OwnF.lt {w : World} {base : Nat} {v : Value} {l : List TF} (h : OwnF w base v l) : ∀ g, v.ownBlock = some g → base ≤ g ∧ g < w.heap.size := by
  intro g hg
  rcases h.2 with ⟨rfl, _⟩ | ⟨g', cap, cur, rfl, hb, hh, _⟩
  · cases hg
  · have : g' = g := by simpa [Value.ownBlock] using hg
    subst this
    exact ⟨hb, heapK_lt hh⟩
theorem OwnF.more {w : World} {base base' : Nat} {v : Value} {l : List TF} (h : OwnF w base v l) (hb : base' ≤ base) : OwnF w base' v l := by
  refine ⟨h.1, ?_⟩
  rcases h.2 with h' | ⟨g, cap, cur, hv, hg, r⟩
  · exact .inl h'
  · exact .inr ⟨g, cap, cur, hv, by omega, r⟩
theorem OwnF.rdN {w : World} {base n c : Nat} {A : Option Addr} {l : List TF} (h : OwnF w base (.slice A n c) l) : RdF w A l := by
  obtain ⟨A', c', e⟩ := h.shape
  injection e with e1 e2 e3
  subst e1 e2 e3
  exact h.rd
theorem wplF_appsN {w : World} {ops : Array Oper} {rest : List Oper} {o : Oper} {a : Act} {Q : Exit → Act → World → Prop} (hgd : o.guard = none) (s x : Operand)
    (ho : o.op = .call { callee := .builtin .append, args := #[s, x], argTypes := #[27, 27] })
    (base : Nat) (v : Value) (n : Nat) (l : List TF) (hln : l.length = n) (hs : a.eval s = v) (hown : OwnF w base v l)
    (D : Option Addr) (m d : Nat) (l2 : List TF) (hlm : l2.length = m) (hx : a.eval x = .slice D m d) (hr : RdF w D l2) (hn : n + m ≤ 1000000) (hbase : base ≤ w.heap.size)
    (h : ∀ A' c' w', OwnF w' base (.slice A' (n + m) c') (l ++ l2) → w.grownBy w' v.ownBlock → ((Value.slice A' 0 0).ownBlock = v.ownBlock ∨ (Value.slice A' 0 0).ownBlock = some w.heap.size) → wpList Try.prog ops Q rest (a.put o.dst (.slice A' (n + m) c')) w') :
    wpList Try.prog ops Q (o :: rest) a w := by
  subst hln hlm
  exact wplF_apps hgd s x ho base v l hs hown D d l2 hx hr hn hbase (fun A' c' w' h1 h2 h3 => h A' c' w' h1 h2 (by
    have e : (Value.slice A' 0 0).ownBlock = (Value.slice A' (l.length + l2.length) c').ownBlock := by cases A' <;> rfl
    rw [e]; exact h3))
theorem own_some {g x n c : Nat} (h : (Value.slice (some ⟨g, 0, none⟩) n c).ownBlock = some x) : x = g := by
  have e : some g = some x := h
  injection e with e
  exact e.symm
theorem RdF.below {w w' : World} {D : Option Addr} {l : List TF} (h : RdF w D l) (hb : Below w.heap.size w w') : RdF w' D l := fun hl => by
  obtain ⟨b, off, e, hc⟩ := h hl
  have h0 : ∃ u, (fcells l)[0]? = some u := by
    cases l with
    | nil => simp at hl
    | cons x r => exact ⟨_, rfl⟩
  obtain ⟨u, hu⟩ := h0
  have hlt : b < w.heap.size := block_lt_of_cell (hc 0 u hu)
  exact ⟨b, off, e, fun j u hj => (hb.cell (p := ⟨b, off + j, none⟩) hlt).trans (hc j u hj)⟩
theorem ownF_lit (w : World) (base : Nat) (x : TF) (hb : base ≤ w.heap.size) : OwnF (w.alloc (.cells #[.int .i64 x.nm, .slice x.P x.n x.c, .int .i64 (x.s : Int)] 51)) base (.slice (some ⟨w.heap.size, 0, none⟩) 1 1) [x] := by
  have := World.ownsRow_lit (base := base) (e := 51) (size := 3) w #[.int .i64 x.nm, .slice x.P x.n x.c, .int .i64 (x.s : Int)] 1 hb (by unfold maxLen; omega) (by simp)
  simpa [OwnF, fcells] using this
theorem ownF_lit0 (w : World) (base : Nat) (hb : base ≤ w.heap.size) : OwnF (w.alloc (.cells #[] 51)) base (.slice (some ⟨w.heap.size, 0, none⟩) 0 0) [] := by
  have := World.ownsRow_lit (base := base) (e := 51) (size := 3) w #[] 0 hb (by unfold maxLen; omega) (by simp)
  simpa [OwnF, fcells] using this
/-- A block of the twin's own. -/
def Tm (tb : Nat) (A : Option Addr) (b : Nat) : Prop := b = tb ∨ (Value.slice A 0 0).ownBlock = some b
theorem own_block_any (A : Option Addr) (n c n' c' : Nat) : (Value.slice A n c).ownBlock = (Value.slice A n' c').ownBlock := by
  cases A <;> rfl
/-- The twin at tb, its row A, its files' bytes; none of it lies in a block of M. -/
structure TnB (w : World) (M : Nat → Prop) (B0 tb : Nat) (A : Option Addr) (c : Nat) (n : TN) (L : List TF) : Prop where
  tno : TnO w B0 tb A c n L
  tge : B0 ≤ tb
  tm : ¬ M tb
  am : ∀ g, (Value.slice A 0 0).ownBlock = some g → ¬ M g
  rd : ∀ x, x ∈ L → RdK w (fun b => M b ∨ Tm tb A b) x.P x.n x.bs ∧ Bytes x.bs ∧ x.n ≤ x.c ∧ x.c ≤ 9223372036854775807 ∧ (x.P = none → x.c = 0)
theorem mem_tfAt {L : List TF} {x : TF} (h : x ∈ L) : ∃ i, i < L.length ∧ tfAt L i = x := by
  obtain ⟨i, hi, e⟩ := List.mem_iff_getElem.1 h
  exact ⟨i, hi, by unfold tfAt; simp [hi, e]⟩
theorem tfAt_mem {L : List TF} {i : Nat} (h : i < L.length) : tfAt L i ∈ L := by
  unfold tfAt
  have e : L.getD i default = L[i] := by simp [h]
  rw [e]
  exact List.getElem_mem h
section
variable {w w' : World} {M M' : Nat → Prop} {B0 tb c : Nat} {A : Option Addr} {n : TN} {L : List TF}
theorem TnB.tn (h : TnB w M B0 tb A c n L) : Tn w tb A c n L := h.tno.tn
theorem TnB.tlt (h : TnB w M B0 tb A c n L) : tb < w.heap.size := heapK_lt h.tno.cells
theorem TnB.alt (h : TnB w M B0 tb A c n L) : ∀ g, (Value.slice A 0 0).ownBlock = some g → B0 ≤ g ∧ g < w.heap.size := fun g hg => h.tno.own.lt g (by rw [own_block_any A L.length c 0 0]; exact hg)
theorem TnB.tmge (h : TnB w M B0 tb A c n L) : ∀ b, Tm tb A b → B0 ≤ b ∧ b < w.heap.size := fun b hb => by
  rcases hb with rfl | hb
  · exact ⟨h.tge, h.tlt⟩
  · exact h.alt b hb
/-- What is another is none of the twin's. -/
theorem TnB.turn (h : TnB w M B0 tb A c n L) (hf : Fr w w' M) (hM : ∀ b, M' b → M b ∨ w.heap.size ≤ b) : TnB w' M' B0 tb A c n L := by
  have hno : ∀ b, b < w.heap.size → ¬ M b → ¬ M' b := fun b hb hn hm => by
    rcases hM b hm with h1 | h1
    · exact hn h1
    · omega
  refine ⟨⟨(hf.block tb h.tlt h.tm).trans h.tno.cells, h.tno.own.heap (fun g hg hlt => hf.block g hlt (h.am g (by rw [own_block_any A 0 0 L.length c]; exact hg))), h.tno.ne⟩, h.tge, hno tb h.tlt h.tm, fun g hg => hno g (h.alt g hg).2 (h.am g hg), fun i hi => ?_⟩
  obtain ⟨h1, h2⟩ := h.rd i hi
  refine ⟨⟨h1.1, fun hm => ?_⟩, h2⟩
  obtain ⟨b, off, e, hb, hn, hc⟩ := h1.2 hm
  have hnM : ¬ M b := fun h => hn (.inl h)
  exact ⟨b, off, e, Nat.lt_of_lt_of_le hb hf.size, fun hh => by
    rcases hh with hh | hh
    · exact hno b hb hnM hh
    · exact hn (.inr hh), fun j hj => (World.cell?_of_block (a := ⟨b, off + j, none⟩) (hf.block b hb hnM)).trans (hc j hj)⟩
theorem TnB.below (h : TnB w M B0 tb A c n L) (hb : Below w.heap.size w w') : TnB w' M B0 tb A c n L := h.turn (Fr.of_below hb) (fun b hb => .inl hb)
/-- The numbers turned. -/
theorem TnB.nums {n' : TN} (h : TnB w M B0 tb A c n L) (hf : Fr w w' (fun b => b = tb)) (hc : w'.heap[tb]? = some (.cells (tcells A L.length c n') 29 (0, 0))) : TnB w' M B0 tb A c n' L := by
  refine ⟨⟨hc, h.tno.own.heap (fun g hg hlt => hf.block g hlt (h.tno.ne g hg)), h.tno.ne⟩, h.tge, h.tm, h.am, fun i hi => ?_⟩
  obtain ⟨h1, h2⟩ := h.rd i hi
  refine ⟨⟨h1.1, fun hm => ?_⟩, h2⟩
  obtain ⟨b, off, e, hb, hn, hcc⟩ := h1.2 hm
  exact ⟨b, off, e, Nat.lt_of_lt_of_le hb hf.size, hn, fun j hj => (World.cell?_of_block (a := ⟨b, off + j, none⟩) (hf.block b hb (fun e => hn (.inr (.inl e))))).trans (hcc j hj)⟩
theorem RdK.of_own {base : Nat} {nn cc : Nat} {xs : List Int} {S : Nat → Prop} (h : OwnY w base (.slice A nn cc) nn xs) (hS : ∀ b, S b → b < base) : RdK w S A nn xs := by
  obtain ⟨A', c', e, hr⟩ := h.shape
  injection e with e1 e2 e3
  subst e1
  refine ⟨hr.1, fun hm => ?_⟩
  obtain ⟨b, off, e, hb, hc⟩ := hr.2 hm
  refine ⟨b, off, e, hb, fun hs => ?_, hc⟩
  have h1 := h.ge b (by rw [e]; rfl)
  have := hS b hs
  omega
theorem own_caps {base : Nat} {nn cc : Nat} {xs : List Int} (h : OwnY w base (.slice A nn cc) nn xs) : nn ≤ cc ∧ cc ≤ 9223372036854775807 ∧ (A = none → cc = 0) := by
  rcases h.2 with ⟨e, e0⟩ | ⟨g, cap, cur, e, _, _, h1, h2, _⟩
  · injection e with e1 e2 e3
    subst e1 e3
    exact ⟨by omega, by omega, fun _ => rfl⟩
  · injection e with e1 e2 e3
    subst e1 e3
    exact ⟨h1, by unfold maxLen at h2; omega, nofun⟩
theorem Fr.weak {S S' : Nat → Prop} (h : Fr w w' S) (hs : ∀ b, S b → S' b) : Fr w w' S' := ⟨h.os, h.tape, h.output, h.size, fun b hb hn => h.block b hb (fun e => hn (hs b e))⟩
/-- Another row of files: what came in, and files without bytes. -/
theorem TnB.rerow {w4 : World} {A4 : Option Addr} {c4 : Nat} {L4 : List TF} (h : TnB w M B0 tb A c n L) (hM : ∀ b, M b → b < w.heap.size) (hB0 : B0 ≤ w.heap.size) (hb : Below w.heap.size w w4) (ho : OwnF w4 w.heap.size (.slice A4 L4.length c4) L4)
    (hx : ∀ x, x ∈ L4 → x ∈ L ∨ x.n = 0 ∧ x.bs = [] ∧ x.P = none ∧ x.c = 0) :
    TnB (w4.setCell ⟨tb, 0, none⟩ (.slice A4 L4.length c4)) M B0 tb A4 c4 n L4 ∧ Fr w (w4.setCell ⟨tb, 0, none⟩ (.slice A4 L4.length c4)) (Tm tb A) ∧ (∀ b, Tm tb A4 b → Tm tb A b ∨ w.heap.size ≤ b) := by
  have htl := h.tlt
  have hl4 : ∀ g, (Value.slice A4 0 0).ownBlock = some g → w.heap.size ≤ g ∧ g < w4.heap.size := fun g hg => ho.lt g (by rw [own_block_any A4 _ _ 0 0]; exact hg)
  have hf : Fr w4 (w4.setCell ⟨tb, 0, none⟩ (.slice A4 L4.length c4)) (fun b => b = tb) := Fr.setCell w4 (fun b => b = tb) (p := ⟨tb, 0, none⟩) rfl _
  have hf2 : Fr w (w4.setCell ⟨tb, 0, none⟩ (.slice A4 L4.length c4)) (fun b => b = tb) := Fr.of_below_then hb hf
  refine ⟨⟨⟨?_, (ho.more hB0).heap (fun g hg hlt => hf.block g hlt (fun e => by have := hl4 g (by rw [own_block_any A4 0 0 L4.length c4]; exact hg); omega)), fun g hg e => by have := hl4 g (by rw [own_block_any A4 0 0 L4.length c4]; exact hg); omega⟩, h.tge, h.tm, fun g hg hm => by have := hl4 g hg; have := hM g hm; omega, fun x hx4 => ?_⟩, hf2.weak (fun b hb => .inl hb), fun b hb => ?_⟩
  · exact heap_setCell_same w4 tb 0 _ _ _ ((hb.block tb htl).trans h.tno.cells)
  · rcases hx x hx4 with h1 | ⟨h1, h2, h3, h4⟩
    · obtain ⟨k1, k2⟩ := h.rd x h1
      refine ⟨⟨k1.1, fun hm => ?_⟩, k2⟩
      obtain ⟨b, off, e, hbl, hn, hc⟩ := k1.2 hm
      have hnt : b ≠ tb := fun e => hn (.inr (.inl e))
      refine ⟨b, off, e, Nat.lt_of_lt_of_le hbl hf2.size, fun hh => ?_, fun j hj => (World.cell?_of_block (a := ⟨b, off + j, none⟩) (hf2.block b hbl hnt)).trans (hc j hj)⟩
      rcases hh with hh | hh | hh
      · exact hn (.inl hh)
      · exact hnt hh
      · have := hl4 b hh; omega
    · rw [h1, h2]
      exact ⟨⟨rfl, fun h => absurd h (by omega)⟩, fun i => by simp [ix], by omega, by omega, fun _ => h4⟩
  · rcases hb with h1 | h1
    · exact .inl (.inl h1)
    · exact .inr (hl4 b h1).1
/-- Another row of bytes in a file. -/
theorem TnB.setB {w3 : World} {g p pn c2 : Nat} {P : Option Addr} {bs : List Int} (h : TnB w M B0 tb (some ⟨g, 0, none⟩) c n L) (hp : p < L.length) (hb : Below w.heap.size w w3)
    (hx : RdK w3 (fun b => M b ∨ Tm tb (some ⟨g, 0, none⟩) b) P pn bs) (hby : Bytes bs) (hc : pn ≤ c2 ∧ c2 ≤ 9223372036854775807 ∧ (P = none → c2 = 0)) :
    TnB (w3.setCell ⟨g, p * 3 + 1, none⟩ (.slice P pn c2)) M B0 tb (some ⟨g, 0, none⟩) c n (putB L p P pn c2 bs) ∧ Fr w (w3.setCell ⟨g, p * 3 + 1, none⟩ (.slice P pn c2)) (Tm tb (some ⟨g, 0, none⟩)) := by
  have htl := h.tlt
  have hgl := (h.alt g rfl).2
  have hgt : g ≠ tb := h.tno.ne g rfl
  have h3 := h.below hb
  have hf : Fr w3 (w3.setCell ⟨g, p * 3 + 1, none⟩ (.slice P pn c2)) (fun b => b = g) := Fr.setCell w3 (fun b => b = g) (p := ⟨g, p * 3 + 1, none⟩) rfl _
  have hf2 : Fr w3 (w3.setCell ⟨g, p * 3 + 1, none⟩ (.slice P pn c2)) (Tm tb (some ⟨g, 0, none⟩)) := hf.weak (fun b hb => .inr (by rw [hb]; rfl))
  refine ⟨⟨⟨?_, ?_, fun x hx => h.tno.ne x hx⟩, h.tge, h.tm, h.am, fun x hx4 => ?_⟩, Fr.of_below_then hb hf2⟩
  · rw [putB_len]
    exact (hf.block tb h3.tlt (fun e => hgt e.symm)).trans h3.tno.cells
  · rw [putB_len]
    exact h3.tno.own.setB p P pn c2 bs
  · unfold putB at hx4
    rcases List.mem_or_eq_of_mem_set hx4 with h1 | h1
    · obtain ⟨k1, k2⟩ := h3.rd x h1
      exact ⟨k1.fr (hf2.weak (fun b hb => .inr hb)), k2⟩
    · subst h1
      exact ⟨hx.fr (hf2.weak (fun b hb => .inr hb)), hby, hc⟩
/-- Another safe. -/
theorem TnB.setS {g p s : Nat} (h : TnB w M B0 tb (some ⟨g, 0, none⟩) c n L) (hp : p < L.length) :
    TnB (w.setCell ⟨g, p * 3 + 2, none⟩ (.int .i64 (s : Int))) M B0 tb (some ⟨g, 0, none⟩) c n (putS L p s) ∧ Fr w (w.setCell ⟨g, p * 3 + 2, none⟩ (.int .i64 (s : Int))) (Tm tb (some ⟨g, 0, none⟩)) := by
  have hgt : g ≠ tb := h.tno.ne g rfl
  have hf : Fr w (w.setCell ⟨g, p * 3 + 2, none⟩ (.int .i64 (s : Int))) (fun b => b = g) := Fr.setCell w (fun b => b = g) (p := ⟨g, p * 3 + 2, none⟩) rfl _
  have hf2 : Fr w (w.setCell ⟨g, p * 3 + 2, none⟩ (.int .i64 (s : Int))) (Tm tb (some ⟨g, 0, none⟩)) := hf.weak (fun b hb => .inr (by rw [hb]; rfl))
  refine ⟨⟨⟨?_, ?_, fun x hx => h.tno.ne x hx⟩, h.tge, h.tm, h.am, fun x hx4 => ?_⟩, hf2⟩
  · rw [putS_len]
    exact (hf.block tb h.tlt (fun e => hgt e.symm)).trans h.tno.cells
  · rw [putS_len]
    exact h.tno.own.setS p s
  · unfold putS at hx4
    rcases List.mem_or_eq_of_mem_set hx4 with h1 | h1
    · obtain ⟨k1, k2⟩ := h.rd x h1
      exact ⟨k1.fr (hf2.weak (fun b hb => .inr hb)), k2⟩
    · subst h1
      obtain ⟨k1, k2⟩ := h.rd _ (tfAt_mem hp)
      exact ⟨k1.fr (hf2.weak (fun b hb => .inr hb)), k2⟩
theorem low_of_fr {B : Nat} {S : Nat → Prop} (h : Fr w w' S) (hS : ∀ b, S b → B ≤ b) (hB : B ≤ w.heap.size) : Below B w w' :=
  ⟨h.os, h.tape, h.output, h.size, fun b hb => h.block b (by omega) (fun hs => by have := hS b hs; omega)⟩
end
theorem Dk.mlt {w : World} {db mb K : Nat} {n : Nm} {F : Int → Option Fi} (h : Dk w db mb K n F) : ∀ b, Mine db mb F b → b < w.heap.size := fun b hb => by
  rcases hb with rfl | rfl | ⟨k, f, hf, e⟩
  · exact h.dlt
  · exact Nat.lt_trans h.lt h.dlt
  · exact h.rowLt hf b e
/-- The dock behind what turned blocks of others alone. -/
theorem Dk.fr {w w' : World} {db mb K : Nat} {n : Nm} {F : Int → Option Fi} {S : Nat → Prop} (h : Dk w db mb K n F) (hf : Fr w w' S) (hS : ∀ b, S b → ¬ Mine db mb F b) : Dk w' db mb K n F :=
  h.of_heap (hf.block db h.dlt (fun e => hS _ e (.inl rfl))) (hf.block mb (Nat.lt_trans h.lt h.dlt) (fun e => hS _ e (.inr (.inl rfl)))) (fun k f hk g hg => hf.block g (h.rowLt hk g hg) (fun e => hS _ e (.inr (.inr ⟨k, f, hk, hg⟩))))
/-- 'append(s, x...)' of bytes, run. -/
theorem runY_apps {w : World} {ty : TypeId} (base : Nat) (v : Value) (n : Nat) (xs : List Int) (hown : OwnY w base v n xs)
    (B : Nat) (D : Option Addr) (m d : Nat) (ys : List Int) (hr : RdY w B D m ys) (hn : n + m ≤ 1099511627776) (hbase : base ≤ w.heap.size) :
    ∃ v' w', (Builtin.append_ #[30, 30] ty #[v, .slice D m d]).run Try.prog w = .ok v' w' ∧ OwnY w' base v' (n + m) (xs ++ ys) ∧ w.grownBy w' v.ownBlock ∧ (v'.ownBlock = v.ownBlock ∨ v'.ownBlock = some w.heap.size) := by
  obtain ⟨i0, hi, hz0, hz1, hz2⟩ := info_parts infoByte
  rcases D with _ | ad
  · have hm : m = 0 := by
      rcases Nat.eq_zero_or_pos m with h0 | h0
      · exact h0
      · obtain ⟨b, off, e, _⟩ := hr.2 h0
        cases e
    subst hm
    have hy : ys = [] := List.eq_nil_of_length_eq_zero hr.1
    subst hy
    refine ⟨v, w, ?_, by simpa using hown, World.grownBy.refl w _, .inl rfl⟩
    rcases hown.2 with ⟨rfl, rfl⟩ | ⟨g, cap, cur, rfl, _, _, hnc, _⟩
    · simp [Builtin.append_, run_underlying Try.underlying30, sizeOf, typeInfo, hi, Builtin.lenOf, Builtin.firstCells]
    · simp [Builtin.append_, run_underlying Try.underlying30, sizeOf, typeInfo, hi, Builtin.lenOf, Builtin.firstCells, hnc, storeCells]
  · obtain ⟨v', w', hrun, h2, h3, _, h5⟩ := run_append_own_at (P := Try.prog) w base 30 ty 5 i0 (.int .u8 0) 1 1 Try.underlying30 hi hz0 hz1 hz2 rfl (by decide) v n _ hown ad m d (ys.map (Value.int .u8)) (by simp [hr.1]) (by
      intro j z hj
      have hjm : j < m := by
        have := (List.getElem?_eq_some_iff.1 hj).1
        simpa [hr.1] using this
      obtain ⟨b, off, e, _, hc⟩ := hr.at_ hjm
      cases e
      rw [addrY_add, hc]
      rw [ixY_map ys j (by rw [hr.1]; exact hjm)] at hj
      exact hj) (by
      intro z hz
      obtain ⟨u, _, rfl⟩ := List.mem_map.1 hz
      rfl) (by unfold maxLen; omega) (by omega) hbase
    exact ⟨v', w', hrun, by unfold OwnY; rw [List.map_append]; exact h2, h3, h5⟩
/-- The same as a step of a region that draws; the new value written out. -/
theorem stepY_apps {w : World} {ops : Array Oper} {o : Oper} {a : Act} {K : Act → World → Prop} {Q : Exit → Act → World → Prop} {E : Prop} (hgd : o.guard = none) (s x : Operand)
    (ho : o.op = .call { callee := .builtin .append, args := #[s, x], argTypes := #[30, 30] })
    (base : Nat) (v : Value) (n : Nat) (xs : List Int) (hs : a.eval s = v) (hown : OwnY w base v n xs)
    (B : Nat) (D : Option Addr) (m d : Nat) (ys : List Int) (hx : a.eval x = .slice D m d) (hr : RdY w B D m ys) (hn : n + m ≤ 1099511627776) (hbase : base ≤ w.heap.size) (nr : Nat) (hnr : n + m = nr)
    (h : ∀ A' c' w', OwnY w' base (.slice A' nr c') nr (xs ++ ys) → w.grownBy w' v.ownBlock → ((Value.slice A' 0 0).ownBlock = v.ownBlock ∨ (Value.slice A' 0 0).ownBlock = some w.heap.size) → K (a.put o.dst (.slice A' nr c')) w') :
    if Region.wanted o (yielded ops a.tmps) = true then Oper.wp Try.prog o a w K Q else E := by
  subst hnr
  have hw : Region.wanted o (yielded ops a.tmps) = true := by simp [Region.wanted, hgd]
  rw [if_pos hw]
  obtain ⟨v', w', hrun, h2, h3, h5⟩ := runY_apps (ty := o.type) base v n xs hown B D m d ys hr hn hbase
  obtain ⟨A', c', rfl, _⟩ := h2.shape
  unfold Oper.wp
  simp only [execOp, ho, resolve, invoke, builtin, Sem.run_bind, Sem.run_pure, Result.andThen_ok, List.map_toArray, List.map_cons, List.map_nil, hs, hx, hrun]
  exact h A' c' w' h2 h3 (by rw [own_block_any A' 0 0 (n + m) c']; exact h5)
end Go.Proofs.Ytfpcfbolpnfacaa
