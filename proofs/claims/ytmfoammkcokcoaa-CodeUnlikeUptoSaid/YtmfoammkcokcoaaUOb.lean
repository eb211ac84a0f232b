/-
  A CATALOGUE THAT CAME IN, opened, with a bound of its size by the bulk of what was read.
-/
import Derived.Test.YtmfoammkcokcoaaUOg
import Derived.Test.YtmfoammkcokcoaaUCc
import Derived.Test.YtmfoammkcokcoaaRows
namespace Go.Proofs.Ytmfoammkcokcoaa
open Go.RowKit
open ByteP CodeP
open Go.ChangeShapes Go.WideShapes Go.Deep
set_option linter.unusedVariables false
/-! ## How great a thing is -/
def muL {α : Type} (μ : α → Nat) : List α → Nat
  | [] => 1
  | x :: l => μ x + muL μ l
theorem muL_pos {α : Type} (μ : α → Nat) : ∀ l : List α, 1 ≤ muL μ l
  | [] => Nat.le_refl _
  | x :: l => by have := muL_pos μ l; simp only [muL]; omega
theorem muL_mem {α : Type} {μ : α → Nat} : ∀ {l : List α} {x : α}, x ∈ l → μ x ≤ muL μ l
  | y :: l, x, h => by
    simp only [muL]
    rcases List.mem_cons.1 h with e | e
    · subst e; omega
    · have := muL_mem (μ := μ) e; omega
theorem muL_len {α : Type} {μ : α → Nat} (hμ : ∀ x, 1 ≤ μ x) : ∀ l : List α, l.length ≤ muL μ l
  | [] => by simp
  | x :: l => by have := muL_len hμ l; have := hμ x; simp only [muL, List.length_cons]; omega
def muV (v : Ver) : Nat := v.2.2.2.size + 4
def muC (c : CV) : Nat := c.s.size + 5
def muR (r : List (List CV)) : Nat := muL (muL muC) r
def muN (p : Int × List (List CV)) : Nat := 1 + muR p.2
def muRl (r : Rl) : Nat := muV r.1 + 1 + muL muN r.2.2
def muSv (s : Sv) : Nat := (s.1.size + 1) + muL muRl s.2
theorem muN_pos (p : Int × List (List CV)) : 1 ≤ muN p := by unfold muN; omega
theorem muRl_pos (r : Rl) : 1 ≤ muRl r := by unfold muRl; omega
theorem muSv_pos (s : Sv) : 1 ≤ muSv s := by unfold muSv; omega
theorem muC_pos (s : CV) : 1 ≤ muC s := by unfold muC; omega
theorem fl_mu {α : Type} {e : α → List Int} {μ : α → Nat} : ∀ {l : List α}, (∀ x ∈ l, (e x).length ≤ 20 * μ x) → (fl e l).length + 20 ≤ 20 * muL μ l
  | [], _ => by simp [fl, muL]
  | x :: l, h => by
    have h1 := h x (by simp)
    have h2 := fl_mu (e := e) (μ := μ) (l := l) (fun y hy => h y (by simp [hy]))
    rw [fl_cons, List.length_append]
    simp only [muL]
    omega
theorem lsE_mu {α : Type} {e : α → List Int} {μ : α → Nat} {l : List α} (hl : l.length ≤ 2000000) (h : ∀ x ∈ l, (e x).length ≤ 20 * μ x) : (lsE e l).length ≤ 20 * muL μ l := by
  have h1 := fl_mu h
  have h2 := enc_small (n := l.length) hl
  rw [lsE_len]
  omega
theorem compO_mu {x : CV} (h : muC x ≤ 2000000) : (compO x).length ≤ 20 * muC x := by
  unfold muC at h ⊢
  unfold compO
  have h1 := outI_len x.op
  have h2 := verO_len x.a x.b x.c x.s (by omega)
  rw [List.length_append]
  by_cases h0 : x.op = 0
  · rw [if_pos h0]; simp only [List.length_nil]; omega
  · rw [if_neg h0]; omega
theorem lisO_mu {l : List CV} (h : muL muC l ≤ 2000000) : (lisO l).length ≤ 20 * muL muC l ∧ ShC l := by
  have hn := muL_len muC_pos l
  have hm : ∀ x ∈ l, muC x ≤ 2000000 := fun x hx => Nat.le_trans (muL_mem hx) h
  exact ⟨lsE_mu (e := compO) (by omega) (fun x hx => compO_mu (hm x hx)), by omega, fun x hx => by have := hm x hx; unfold muC at this; omega⟩
theorem rngO_mu {r : List (List CV)} (h : muR r ≤ 2000000) : (rngO r).length ≤ 20 * muR r ∧ ShL r := by
  unfold muR at h ⊢
  have hn := muL_len (muL_pos muC) r
  have hm : ∀ x ∈ r, muL muC x ≤ 2000000 := fun x hx => Nat.le_trans (muL_mem hx) h
  exact ⟨lsE_mu (e := lisO) (by omega) (fun x hx => (lisO_mu (hm x hx)).1), by omega, fun x hx => (lisO_mu (hm x hx)).2⟩
theorem pinO_mu {p : Int × List (List CV)} (h : muN p ≤ 2000000) : (pinO p).length ≤ 20 * muN p ∧ ShL p.2 := by
  unfold muN at h ⊢
  have h1 := outI_len p.1
  have h2 := rngO_mu (r := p.2) (by omega)
  unfold pinO
  rw [List.length_append]
  exact ⟨by omega, h2.2⟩
theorem rlO_mu {r : Rl} (h : muRl r ≤ 2000000) : (rlO r).length ≤ 20 * muRl r ∧ ShRl r := by
  unfold muRl muV at h ⊢
  have hn := muL_len muN_pos r.2.2
  have hm : ∀ x ∈ r.2.2, muN x ≤ 2000000 := fun x hx => Nat.le_trans (muL_mem hx) (by omega)
  have h3 := verO_len r.1.1 r.1.2.1 r.1.2.2.1 r.1.2.2.2 (by omega)
  have h4 := outI_len r.2.1
  have h5 := lsE_mu (e := pinO) (l := r.2.2) (by omega) (fun x hx => (pinO_mu (hm x hx)).1)
  have e : (rlO r).length = (verOt r.1).length + ((outI r.2.1).length + (lsE pinO r.2.2).length) := by unfold rlO; rw [List.length_append, List.length_append]
  refine ⟨?_, by omega, by omega, fun x hx => (pinO_mu (hm x hx)).2⟩
  rw [e]
  unfold verOt
  omega
theorem svO_mu {s : Sv} (h : muSv s ≤ 2000000) : (svO s).length ≤ 20 * muSv s ∧ ShSv s := by
  unfold muSv at h ⊢
  have hn := muL_len muRl_pos s.2
  have hm : ∀ x ∈ s.2, muRl x ≤ 2000000 := fun x hx => Nat.le_trans (muL_mem hx) (by omega)
  have h5 := lsE_mu (e := rlO) (l := s.2) (by omega) (fun x hx => (rlO_mu (hm x hx)).1)
  have h6 := enc_small (n := s.1.size) (by omega)
  have e : (svO s).length = (strO s.1).length + (lsE rlO s.2).length := by unfold svO; rw [List.length_append]
  have e4 : (strO s.1).length = (enc s.1.size).length + s.1.size := by unfold strO; rw [List.length_append, bsS_len]
  exact ⟨by rw [e, e4]; omega, by omega, by omega, fun x hx => (rlO_mu (hm x hx)).2⟩
theorem cat_mu {l : List Sv} (h : muL muSv l ≤ 2000000) : (fl svO l).length ≤ 400000000 ∧ ShCat l := by
  have hn := muL_len muSv_pos l
  have hm : ∀ x ∈ l, muSv x ≤ 2000000 := fun x hx => Nat.le_trans (muL_mem hx) h
  have h1 := fl_mu (e := svO) (μ := muSv) (l := l) (fun x hx => (svO_mu (hm x hx)).1)
  exact ⟨by omega, by omega, fun x hx => (svO_mu (hm x hx)).2⟩
/-! ## What was read is at least as great -/
theorem bulk_pos {H : Type} (d : DataW H) : 1 ≤ Rows.uptoBulk d := by
  cases d with
  | lit l => cases l <;> simp [Rows.uptoBulk]
  | nil => simp [Rows.uptoBulk]
  | ptr d => simp [Rows.uptoBulk]
  | slice elems spare => simp [Rows.uptoBulk]
  | agg parts => simp [Rows.uptoBulk]
  | iface t d => simp [Rows.uptoBulk]
  | map entries => simp [Rows.uptoBulk]
  | held h => simp [Rows.uptoBulk]
theorem muL_bulk {α ι H : Type} {μ : α → Nat} {f : ι → α} {D : ι → DataW H} : ∀ L : List ι, (∀ j ∈ L, μ (f j) ≤ Rows.uptoBulk (D j)) → muL μ (L.map f) ≤ Rows.uptoBulkAll (L.map D) + 1
  | [], _ => by simp [muL, Rows.uptoBulkAll]
  | j :: L, h => by
    have h1 := h j (by simp)
    have h2 := muL_bulk (μ := μ) (f := f) (D := D) L (fun k hk => h k (by simp [hk]))
    simp only [List.map_cons, muL, Rows.uptoBulkAll]
    omega
section
variable {H : Type} {enc : TypeId × Value → H} {w : World} {held : Bool}
/-- Cells of type T that came in are a thing, and no greater than what was read. -/
def OpB {α : Type} (μ : α → Nat) (enc : TypeId × Value → H) (w : World) (held : Bool) (T : TypeId) (I : ItT α) : Prop :=
  ∀ {fuel : Nat} {cs : List Value} {x : DataW H × List MemPlace}, DataW.trod enc Try.prog w 0 (fun _ => true) held fuel T cs = some x → ∃ y, I w (fun b => w.heap.size ≤ b) cs y ∧ μ y ≤ Rows.uptoBulk x.1
theorem OpB.int (T : TypeId) (hu : Try.prog.underlying T = some (.int .i64)) : OpB (fun _ => 1) enc w held T inI := fun {fuel cs x} h => by
  obtain ⟨a, ha, _⟩ := DataW.trod_int hu h
  exact ⟨a, ha, bulk_pos x.1⟩
theorem OpB.str (T : TypeId) (hu : Try.prog.underlying T = some .string) : OpB (fun s => s.size + 1) enc w held T stI := fun {fuel cs x} h => by
  obtain ⟨s, hs, rfl, _⟩ := DataW.trod_string hu h
  exact ⟨s, hs, by simp [Rows.uptoBulk]⟩
theorem OpB.sl {α : Type} [Inhabited α] {μ : α → Nat} {S E : TypeId} {z : Nat} {I : ItT α} (hu : Try.prog.underlying S = some (.slice E)) (hz : Try.prog.cellsOf E = z) (hz0 : 0 < z) (hE : OpB μ enc w held E I) : OpB (muL μ) enc w held S (SlI z I) := fun {fuel cs x} h => by
  rcases open_slice hu h with ⟨h0, _⟩ | ⟨a, len, cap, m, n, D, Pl, h0, hb, hl, hm, hmm, rfl, hx⟩
  · exact ⟨[], ⟨none, 0, 0, h0, rfl, fun j hj => absurd hj (by omega)⟩, bulk_pos x.1⟩
  · have hlm : len ≤ m := by rw [hmm]; split <;> omega
    have each : ∀ i, i < len → ∃ q : List Value × α, q.1.length = z ∧ (∀ k v, q.1[k]? = some v → w.cell? (a.add (i * z + k)) = some v) ∧ I w (fun b => w.heap.size ≤ b) q.1 q.2 ∧ μ q.2 ≤ Rows.uptoBulk (D i) := by
      intro i hi
      obtain ⟨cs', h1, h2⟩ := hx i (by omega)
      rw [hz] at h1
      obtain ⟨_, hlen, hcell⟩ := World.cells?_some h1
      obtain ⟨y, hy, hmu⟩ := hE h2
      refine ⟨(cs', y), hlen, fun k v hk => ?_, hy, hmu⟩
      have hkz : k < z := by
        rcases Nat.lt_or_ge k cs'.length with h | h
        · omega
        · rw [List.getElem?_eq_none h] at hk; cases hk
      have e := hcell k hkz
      rw [add_addU] at e
      exact e.trans hk
    obtain ⟨q, hq⟩ := choose_lt each
    have hbulk : muL μ ((List.range len).map (fun j => (q j).2)) ≤ Rows.uptoBulk (.slice ((List.range len).map D) ((List.range (m - len)).map fun j => D (len + j))) := by
      have h1 := muL_bulk (μ := μ) (f := fun j => (q j).2) (D := D) (List.range len) (fun j hj => (hq j (List.mem_range.1 hj)).2.2.2)
      simp only [Rows.uptoBulk]
      omega
    refine ⟨(List.range len).map (fun j => (q j).2), ⟨some a, len, cap, h0, by simp, fun j hj => ?_⟩, hbulk⟩
    obtain ⟨h1, h2, h3, _⟩ := hq j hj
    obtain ⟨g1, g2, _⟩ := hq 0 (by omega)
    obtain ⟨u, hu0⟩ : ∃ u, (q 0).1[0]? = some u := ⟨(q 0).1[0]'(by omega), by rw [List.getElem?_eq_getElem]⟩
    have z0 := g2 0 u hu0
    rw [Nat.zero_mul] at z0
    obtain ⟨b, off, spot⟩ := a
    have hspot : spot = none := by simpa [Addr.add] using World.cell?_spot z0
    subst hspot
    have hbl : b < w.heap.size := by
      have h := block_lt_of_cell z0
      unfold Addr.add at h
      split at h <;> simpa using h
    have e : ∀ k, (Addr.add ⟨b, off, none⟩ k) = ⟨b, off + k, none⟩ := by
      intro k
      unfold Addr.add
      by_cases h0 : k = 0 <;> simp [h0]
    refine ⟨b, off, (q j).1, rfl, hbl, (fun h => by omega), h1, fun i v hv => ?_, ?_⟩
    · have := h2 i v hv
      rw [e] at this
      rw [Nat.add_assoc]; exact this
    · have hea : ((List.range len).map (fun j => (q j).2)).getD j default = (q j).2 := by simp [List.getD, hj]
      rw [hea]; exact h3
theorem OpB.one {α : Type} {μ : α → Nat} {I : ItT α} {T : TypeId} {fs : Array Field} {f : Field} (hu : Try.prog.underlying T = some (.struct fs)) (hs : fs.size = 1) (h1 : fs[0]? = some f) (o1 : f.offset = 0) (c : Try.prog.cellsOf T = Try.prog.cellsOf f.type) (hI : OpB μ enc w held f.type I) : OpB μ enc w held T I := fun {fuel cs x} h => by
  obtain ⟨xs, n, _, rfl, hl, hlen, hf⟩ := DataW.trod_struct hu h
  have g := hf 0 f h1
  rw [o1, List.drop_zero, List.take_of_length_le (by omega)] at g
  obtain ⟨y0, rfl⟩ : ∃ y0, xs = [y0] := by
    match xs, hlen with
    | [a], _ => exact ⟨a, rfl⟩
    | [], h => rw [hs] at h; cases h
    | a :: b :: r, h => rw [hs] at h; simp at h
  obtain ⟨y, hy, hm⟩ := hI g
  exact ⟨y, hy, by simp only [List.map_cons, List.map_nil, Rows.uptoBulk, Rows.uptoBulkAll]; omega⟩
theorem OpB.tw {α β : Type} {μ : α → Nat} {ν : β → Nat} {I : ItT α} {J : ItT β} {T : TypeId} {fs : Array Field} {f g : Field} (hu : Try.prog.underlying T = some (.struct fs)) (hs : fs.size = 2) (h1 : fs[0]? = some f) (h2 : fs[1]? = some g) (o1 : f.offset = 0) (o2 : g.offset = Try.prog.cellsOf f.type) (c : Try.prog.cellsOf T = Try.prog.cellsOf f.type + Try.prog.cellsOf g.type)
    (hI : OpB μ enc w held f.type I) (hJ : OpB ν enc w held g.type J) : OpB (fun p => μ p.1 + ν p.2) enc w held T (TwI I J) := fun {fuel cs x} h => by
  obtain ⟨xs, n, _, rfl, hl, hlen, hf⟩ := DataW.trod_struct hu h
  have k1 := hf 0 f h1
  have k2 := hf 1 g h2
  obtain ⟨y0, y1, rfl⟩ : ∃ y0 y1, xs = [y0, y1] := by
    match xs, hlen with
    | [a, b], _ => exact ⟨a, b, rfl⟩
    | [], h => rw [hs] at h; cases h
    | [a], h => rw [hs] at h; simp at h
    | a :: b :: d :: r, h => rw [hs] at h; simp at h
  rw [o1, List.drop_zero] at k1
  rw [o2, List.take_of_length_le (by rw [List.length_drop]; omega)] at k2
  obtain ⟨a, ha, ma⟩ := hI k1
  obtain ⟨b, hb, mb⟩ := hJ k2
  exact ⟨(a, b), ⟨cs.take (Try.prog.cellsOf f.type), cs.drop (Try.prog.cellsOf f.type), (List.take_append_drop _ _).symm, ha, hb⟩, by simp only [List.map_cons, List.map_nil, Rows.uptoBulk, Rows.uptoBulkAll]; omega⟩
theorem OpB.th {α β γ : Type} {μ : α → Nat} {ν : β → Nat} {ρ : γ → Nat} {I : ItT α} {J : ItT β} {K : ItT γ} {T : TypeId} {fs : Array Field} {f g k : Field} (hu : Try.prog.underlying T = some (.struct fs)) (hs : fs.size = 3) (h1 : fs[0]? = some f) (h2 : fs[1]? = some g) (h3 : fs[2]? = some k) (o1 : f.offset = 0) (o2 : g.offset = Try.prog.cellsOf f.type) (o3 : k.offset = Try.prog.cellsOf f.type + Try.prog.cellsOf g.type) (c : Try.prog.cellsOf T = Try.prog.cellsOf f.type + (Try.prog.cellsOf g.type + Try.prog.cellsOf k.type))
    (hI : OpB μ enc w held f.type I) (hJ : OpB ν enc w held g.type J) (hK : OpB ρ enc w held k.type K) : OpB (fun p => μ p.1 + ν p.2.1 + ρ p.2.2) enc w held T (TwI I (TwI J K)) := fun {fuel cs x} h => by
  obtain ⟨xs, n, _, rfl, hl, hlen, hf⟩ := DataW.trod_struct hu h
  have k1 := hf 0 f h1
  have k2 := hf 1 g h2
  have k3 := hf 2 k h3
  obtain ⟨y0, y1, y2, rfl⟩ : ∃ y0 y1 y2, xs = [y0, y1, y2] := by
    match xs, hlen with
    | [a, b, d], _ => exact ⟨a, b, d, rfl⟩
    | [], h => rw [hs] at h; cases h
    | [a], h => rw [hs] at h; simp at h
    | [a, b], h => rw [hs] at h; simp at h
    | a :: b :: d :: e :: r, h => rw [hs] at h; simp at h
  rw [o1, List.drop_zero] at k1
  rw [o2] at k2
  rw [o3, List.take_of_length_le (by rw [List.length_drop]; omega)] at k3
  obtain ⟨a, ha, ma⟩ := hI k1
  obtain ⟨b, hb, mb⟩ := hJ k2
  obtain ⟨d, hd, md⟩ := hK k3
  refine ⟨(a, b, d), ⟨cs.take (Try.prog.cellsOf f.type), cs.drop (Try.prog.cellsOf f.type), (List.take_append_drop _ _).symm, ha, (cs.drop (Try.prog.cellsOf f.type)).take (Try.prog.cellsOf g.type), (cs.drop (Try.prog.cellsOf f.type)).drop (Try.prog.cellsOf g.type), (List.take_append_drop _ _).symm, hb, ?_⟩, by simp only [List.map_cons, List.map_nil, Rows.uptoBulk, Rows.uptoBulkAll]; omega⟩
  rw [List.drop_drop]; exact hd
theorem OpB.map {α β : Type} {μ : α → Nat} {ν : β → Nat} {I : ItT α} {J : ItT β} {T : TypeId} (hI : OpB μ enc w held T I) (F : α → β) (h : ∀ {w M cs x}, I w M cs x → J w M cs (F x)) (hm : ∀ x, ν (F x) ≤ μ x) : OpB ν enc w held T J := fun hx => by
  obtain ⟨y, hy, hb⟩ := hI hx
  exact ⟨F y, h hy, Nat.le_trans (hm y) hb⟩
set_option maxRecDepth 20000 in
theorem opb_ver : OpB muV enc w held 95 vnI := fun {fuel cs x} h => by
  obtain ⟨xs, n, _, rfl, hl, hlen, hf⟩ := DataW.trod_struct Try.underlying95 h
  rw [show Try.prog.cellsOf 95 = 4 by kernel_rfl] at hl
  obtain ⟨v0, v1, v2, v3, rfl⟩ : ∃ a b c d, cs = [a, b, c, d] := by
    match cs, hl with
    | [a, b, c, d], _ => exact ⟨a, b, c, d, rfl⟩
  obtain ⟨y0, y1, y2, y3, rfl⟩ : ∃ a b c d, xs = [a, b, c, d] := by
    match xs, hlen with
    | [a, b, c, d], _ => exact ⟨a, b, c, d, rfl⟩
  have g0 := hf 0 _ rfl
  have g1 := hf 1 _ rfl
  have g2 := hf 2 _ rfl
  have g3 := hf 3 _ rfl
  have g0' : DataW.trod enc Try.prog w 0 (fun _ => true) held n 3 [v0] = some y0 := by rw [show some y0 = [y0, y1, y2, y3][0]? from rfl, ← g0]; congr 1
  have g1' : DataW.trod enc Try.prog w 0 (fun _ => true) held n 3 [v1] = some y1 := by rw [show some y1 = [y0, y1, y2, y3][1]? from rfl, ← g1]; congr 1
  have g2' : DataW.trod enc Try.prog w 0 (fun _ => true) held n 3 [v2] = some y2 := by rw [show some y2 = [y0, y1, y2, y3][2]? from rfl, ← g2]; congr 1
  have g3' : DataW.trod enc Try.prog w 0 (fun _ => true) held n 9 [v3] = some y3 := by rw [show some y3 = [y0, y1, y2, y3][3]? from rfl, ← g3]; congr 1
  obtain ⟨a, ha, e0, _⟩ := DataW.trod_int Try.underlying3 g0'
  obtain ⟨b, hb, e1, _⟩ := DataW.trod_int Try.underlying3 g1'
  obtain ⟨c, hc, e2, _⟩ := DataW.trod_int Try.underlying3 g2'
  obtain ⟨s, hs, e3, _⟩ := DataW.trod_string Try.underlying9 g3'
  injection ha with ha
  injection hb with hb
  injection hc with hc
  injection hs with hs
  refine ⟨(a, b, c, s), (by show [v0, v1, v2, v3] = _; rw [ha, hb, hc, hs]), ?_⟩
  have es : s.data.toList.length = s.size := by rw [Array.length_toList]; rfl
  subst e0 e1 e2 e3
  simp only [List.map_cons, List.map_nil, Rows.uptoBulk, Rows.uptoBulkAll, muV]
  omega
theorem opb_comp : OpB muC enc w held 155 cmI :=
  OpB.map (OpB.tw Try.underlying155 rfl rfl rfl rfl (by kernel_rfl) (by kernel_rfl) (OpB.int 3 Try.underlying3) opb_ver) (fun x => ⟨x.1, x.2.1, x.2.2.1, x.2.2.2.1, x.2.2.2.2⟩) (fun {w M cs x} h => by
    obtain ⟨us, ts, e, h1, h2⟩ := h
    have h1' : us = [.int .i64 x.1] := h1
    have h2' : ts = [.int .i64 x.2.1, .int .i64 x.2.2.1, .int .i64 x.2.2.2.1, .string x.2.2.2.2] := h2
    subst e h1' h2'
    rfl) (fun x => by unfold muC muV; simp only; omega)
theorem opb_list : OpB (muL muC) enc w held 152 liI := OpB.sl Try.underlying152 (by kernel_rfl) (by omega) opb_comp
theorem opb_range : OpB muR enc w held 105 rgI := OpB.one Try.underlying105 rfl rfl rfl (by kernel_rfl) (OpB.sl Try.underlying103 (by kernel_rfl) (by omega) opb_list)
theorem opb_needs : OpB (muL muN) enc w held 96 psI := OpB.sl Try.underlying96 (by kernel_rfl) (by omega) (OpB.tw Try.underlying107 rfl rfl rfl rfl (by kernel_rfl) (by kernel_rfl) (OpB.int 3 Try.underlying3) opb_range)
theorem opb_release : OpB muRl enc w held 98 reI := OpB.th Try.underlying98 rfl rfl rfl rfl rfl (by kernel_rfl) (by kernel_rfl) (by kernel_rfl) opb_ver (OpB.int 3 Try.underlying3) opb_needs
theorem opb_releases : OpB (muL muRl) enc w held 88 rsI := OpB.sl Try.underlying88 (by kernel_rfl) (by omega) opb_release
theorem opb_service : OpB muSv enc w held 90 svI := OpB.tw Try.underlying90 rfl rfl rfl rfl (by kernel_rfl) (by kernel_rfl) (OpB.str 9 Try.underlying9) opb_releases
theorem opb_catalog : OpB (muL muSv) enc w held 24 ssI := OpB.one Try.underlying24 rfl rfl rfl (by kernel_rfl) (OpB.sl Try.underlying22 (by kernel_rfl) (by omega) opb_service)
set_option maxRecDepth 20000 in
theorem open_catalogB {r : Reach} {base : Nat} {v : Value} {d : DataW H} {ps : List MemPlace} (hval : Value.okWide Try.prog w r base 24 v) (h : DataW.Trod enc Try.prog w 0 (fun _ => true) held 24 v d ps) :
    ∃ (A : Option Addr) (n c : Nat) (l : List Sv), v = .agg #[.slice A n c] ∧ n = l.length ∧ RdG 2 svI w (fun b => w.heap.size ≤ b) A n l ∧ muL muSv l ≤ Rows.uptoBulk d := by
  obtain ⟨cs, rfl, hsz⟩ := okWide_struct Try.underlying24 hval
  obtain ⟨fuel, hf0⟩ := h
  obtain ⟨l, hq, hm⟩ := opb_catalog hf0
  obtain ⟨A, n, c, e, hr⟩ := hq
  refine ⟨A, n, c, l, ?_, hr.1.symm, hr, hm⟩
  have e2 : cs.toList = [.slice A n c] := e
  rw [show cs = (cs.toList).toArray by simp, e2]
end
end Go.Proofs.Ytmfoammkcokcoaa
