/-
  ROWS OF PINS that grow side by side; pins that an answer meets change nothing.
-/
import Derived.Test.YteiknbkigbdfgaaVPz
import Derived.Test.YteiknbkigbdfgaaCCm
namespace Go.Proofs.Yteiknbkigbdfgaa
open Go.RowKit
open SemP DiP FlP GaP SeaP
set_option linter.unusedVariables false
set_option linter.unusedSimpArgs false
set_option maxRecDepth 10000
theorem FrM.more {w w' : World} {M N : Nat → Prop} (h : FrM w w' N) (hN : ∀ b, N b → M b) : FrM w w' M := ⟨h.size, fun b hb hn => h.block b hb (fun q => hn (hN b q))⟩
theorem FrM.trans {w w1 w2 : World} {M : Nat → Prop} (h : FrM w w1 M) (h2 : FrM w1 w2 M) : FrM w w2 M := ⟨Nat.le_trans h.size h2.size, fun b hb hn => (h2.block b (Nat.lt_of_lt_of_le hb h.size) hn).trans (h.block b hb hn)⟩
theorem FrM.kept {w w' : World} (h : Below w.heap.size w w') : FrM w w' (fun _ => False) := ⟨h.size, fun b hb _ => h.block b hb⟩
/-- A row whose items lie in no block of M. -/
def OwnM {α : Type} [Inhabited α] (E : TypeId) (z : Nat) (I : ItT α) (w : World) (base : Nat) (M : Nat → Prop) (v : Value) (l : List α) : Prop :=
  ∃ vals, w.ownsRow base E z v l.length vals ∧ ∀ j, j < l.length → ∃ vs, vs.length = z ∧ (∀ i x, vs[i]? = some x → vals[j * z + i]? = some x) ∧ I w M vs (l.getD j default)
section
variable {α : Type} [Inhabited α] {E : TypeId} {z : Nat} {I : ItT α} {w w' : World} {base : Nat} {M M' N : Nat → Prop} {v : Value} {l : List α}
theorem OwnM.frm (hI : Turns I) (h : OwnM E z I w base M v l) (hf : FrM w w' N) (hv : ∀ g, v.ownBlock = some g → ¬ N g) (hN : ∀ b, N b → M b) (hM : ∀ b, M' b → M b ∨ w.heap.size ≤ b) : OwnM E z I w' base M' v l := by
  obtain ⟨vals, ho, hj⟩ := h
  refine ⟨vals, own_frm ho hf hv, fun j hl => ?_⟩
  obtain ⟨vs, h1, h2, h3⟩ := hj j hl
  exact ⟨vs, h1, h2, hI.go h3 (hf.more hN) hM⟩
theorem OwnM.kept (hI : Turns I) (h : OwnM E z I w base M v l) (hb : Below w.heap.size w w') : OwnM E z I w' base M v l :=
  h.frm hI (FrM.kept hb) (fun _ _ h => h) (fun _ h => h.elim) (fun _ h => .inl h)
theorem OwnM.lt (h : OwnM E z I w base M v l) : ∀ g, v.ownBlock = some g → g < w.heap.size := by
  obtain ⟨vals, ho, _⟩ := h
  exact own_lt ho
theorem OwnM.bears (h : OwnM E z I w base M v l) : ∀ g, v.ownBlock = some g → ∃ cur, w.heap[g]? = some (.cells cur E (0, 0)) := by
  obtain ⟨vals, ho, _⟩ := h
  intro g hg
  rcases ho.2 with ⟨rfl, _⟩ | ⟨g', cap, cur, rfl, _, hh, _⟩
  · cases hg
  · have : g' = g := by simpa [Value.ownBlock] using hg
    subst this; exact ⟨cur, hh⟩
theorem OwnM.far (h : OwnM E z I w base M v l) {b : Nat} {cur : Array Value} {T : TypeId} (hb : w.heap[b]? = some (.cells cur T (0, 0))) (hT : E ≠ T) : ∀ g, v.ownBlock = some g → g ≠ b := by
  intro g hg e
  subst e
  obtain ⟨cur', h2⟩ := h.bears g hg
  rw [hb] at h2
  injection h2 with h2
  injection h2 with _ h2 _
  exact hT h2.symm
theorem OwnM.rd (hI : Turns I) {A : Option Addr} {n c : Nat} (h : OwnM E z I w base M (.slice A n c) l) (hM : ∀ b, M' b → M b ∨ w.heap.size ≤ b) (ho : ∀ g, (Value.slice A n c).ownBlock = some g → ¬ M' g) : RdJ z I w M' A n l := by
  obtain ⟨vals, h, hv⟩ := h
  have hln : l.length = n := by
    rcases h.2 with ⟨e, h0⟩ | ⟨g, cap, cur, e, _⟩
    · injection e with _ e2 _; omega
    · injection e with _ e2 _; omega
  refine ⟨hln, fun j hj => ?_⟩
  obtain ⟨vs, h1, h2, h3⟩ := hv j (by omega)
  obtain ⟨g, cap, hv', hge, hlt⟩ := World.ownsRow.form h (by omega)
  injection hv' with e1 _ _
  subst e1
  refine ⟨g, 0, vs, rfl, hlt, ho g rfl, h1, fun i x hx => ?_, hI.go h3 (FrM.refl w _) hM⟩
  have k := World.ownsRow.cells h (g := g) rfl _ _ (h2 i x hx)
  have ha : (Addr.add ⟨g, 0, none⟩ (j * z + i)) = ⟨g, 0 + j * z + i, none⟩ := by
    unfold Addr.add
    by_cases h0 : j * z + i = 0
    · rw [if_pos h0]; congr 1; omega
    · rw [if_neg h0]; simp
  rw [ha] at k
  exact k
theorem OwnM.push (hI : Turns I) {vals vs : List Value} {v' : Value} {x : α} (hown : w.ownsRow base E z v l.length vals) (hj : ∀ j, j < l.length → ∃ vs, vs.length = z ∧ (∀ i x, vs[i]? = some x → vals[j * z + i]? = some x) ∧ I w M vs (l.getD j default))
    (hz : vs.length = z) (hx : I w M vs x) (hown' : w'.ownsRow base E z v' (l.length + 1) (vals ++ vs)) (hg : FrM w w' M) (hM : ∀ b, M' b → M b ∨ w.heap.size ≤ b) : OwnM E z I w' base M' v' (l ++ [x]) := by
  have hvl : vals.length = l.length * z := hown.1
  refine ⟨vals ++ vs, by rw [List.length_append]; exact hown', fun j hjk => ?_⟩
  rw [List.length_append, List.length_singleton] at hjk
  by_cases hlt : j < l.length
  · obtain ⟨us, h1, h2, h3⟩ := hj j hlt
    have e2 : (l ++ [x]).getD j default = l.getD j default := by
      rw [List.getD_eq_getElem?_getD, List.getElem?_append_left hlt, ← List.getD_eq_getElem?_getD]
    rw [e2]
    refine ⟨us, h1, fun i u hu => ?_, hI.go h3 hg hM⟩
    have h4 := h2 i u hu
    rw [List.getElem?_append_left (by
      rcases Nat.lt_or_ge (j * z + i) vals.length with h | h
      · exact h
      · rw [List.getElem?_eq_none h] at h4; cases h4)]
    exact h4
  · obtain rfl : j = l.length := by omega
    have e2 : (l ++ [x]).getD l.length default = x := by simp [List.getD]
    rw [e2]
    refine ⟨vs, hz, fun i u hu => ?_, hI.go hx hg hM⟩
    rw [← hvl, List.getElem?_append_right (by omega)]
    rw [show vals.length + i - vals.length = i by omega]; exact hu
end
/-- 'append(s, x)', s a row of its own. -/
theorem wplM_app {α : Type} [Inhabited α] {S E : TypeId} {z bytes : Nat} {zero : Value} {I : ItT α} (hI : Turns I) (hu : Try.prog.underlying S = some (.slice E)) (hinfo : (Try.prog.info? E).map (fun i => (i.zero, i.size, i.bytes)) = some (some zero, z, bytes)) (hzs : zero.cells.size = z) (hz0 : 0 < z) (hby : bytes ≤ 100000)
    {w : World} {ops : Array Oper} {rest : List Oper} {o : Oper} {a : Act} {Q : Exit → Act → World → Prop} (hgd : o.guard = none) (s x : Operand)
    (ho : o.op = .call { callee := .builtin .append, args := #[s, x], argTypes := #[S, S] })
    (base : Nat) (M : Nat → Prop) (v : Value) (l : List α) (hs : a.eval s = v) (hown : OwnM E z I w base M v l) (hvM : ∀ g, v.ownBlock = some g → M g)
    (b : Nat) (vs : List Value) (y : α) (hx : a.eval x = .slice (some ⟨b, 0, none⟩) 1 1) (hvz : vs.length = z) (hc : ∀ i u, vs[i]? = some u → w.cell? ⟨b, i, none⟩ = some u) (h1 : ∀ u ∈ vs, u.oneCell' = true) (hy : I w M vs y) (hn : l.length ≤ 1000000000) (hbase : base ≤ w.heap.size)
    (h : ∀ g c w', (∀ M', (∀ b, M' b → M b ∨ w.heap.size ≤ b) → OwnM E z I w' base M' (.slice (some ⟨g, 0, none⟩) (l.length + 1) c) (l ++ [y])) → w.grownBy w' v.ownBlock → (v.ownBlock = some g ∨ g = w.heap.size) → wpList Try.prog ops Q rest (a.put o.dst (.slice (some ⟨g, 0, none⟩) (l.length + 1) c)) w') :
    wpList Try.prog ops Q (o :: rest) a w := by
  obtain ⟨i0, hi, hz0', hz1, hz2⟩ := info_parts hinfo
  obtain ⟨vals, hrow, hj⟩ := hown
  refine wpList_append_own_at w hgd s x S ho base E i0 zero z bytes hu hi hz0' hz1 hz2 hzs hz0 v l.length _ hs hrow ⟨b, 0, none⟩ 1 1 vs hx (by omega) ?_ h1 (by unfold maxLen; omega) (by have := Nat.mul_le_mul (show l.length + 1 ≤ 1000000001 by omega) hby; omega) hbase ?_
  · intro j u hju
    have ha : (Addr.add ⟨b, 0, none⟩ j) = ⟨b, j, none⟩ := by
      unfold Addr.add
      by_cases h0 : j = 0 <;> simp [h0]
    rw [ha]; exact hc j u hju
  · intro v' w' hown' hg _ hat
    obtain ⟨g, c, hv, _, _⟩ := World.ownsRow.form hown' (by omega)
    subst hv
    refine h g c w' (fun M' hM' => OwnM.push hI hrow hj hvz hy hown' (FrM.of_grown hg (fun g' hg' => hvM g' hg')) hM') hg ?_
    rcases hat with h4 | h4
    · exact .inl h4.symm
    · have h5 : some g = some w.heap.size := h4
      injection h5 with h5
      exact .inr h5
theorem nil_apps {w : World} {S E ty : TypeId} {i0 : TypeInfo} {z d base : Nat} {v : Value} (hu : Try.prog.underlying S = some (.slice E)) (hi : Try.prog.info? E = some i0) (hown : w.ownsRow base E z v 0 []) :
    (Builtin.append_ #[S, S] ty #[v, .slice none 0 d]).run Try.prog w = .ok v w := by
  rcases hown.2 with ⟨rfl, _⟩ | ⟨g, cap, cur, rfl, _, _, hnc, _⟩
  · simp [Builtin.append_, run_underlying hu, sizeOf, typeInfo, hi, Builtin.lenOf, Builtin.firstCells]
  · simp [Builtin.append_, run_underlying hu, sizeOf, typeInfo, hi, Builtin.lenOf, Builtin.firstCells, hnc, storeCells]
/-- 'append(s, x...)' as one operation of a drawn region: s empty and the call's own, x only read. -/
theorem opM_apps {α : Type} [Inhabited α] {S E : TypeId} {z bytes : Nat} {zero : Value} {I : ItT α} (hI : Turns I) (h1c : OneI I) (hu : Try.prog.underlying S = some (.slice E)) (hinfo : (Try.prog.info? E).map (fun i => (i.zero, i.size, i.bytes)) = some (some zero, z, bytes)) (hzs : zero.cells.size = z) (hz0 : 0 < z) (hby : bytes ≤ 100000)
    {w : World} {o : Oper} {a : Act} {K : Act → World → Prop} {Q : Exit → Act → World → Prop} (s x : Operand)
    (ho : o.op = .call { callee := .builtin .append, args := #[s, x], argTypes := #[S, S] })
    (base : Nat) (v : Value) (hs : a.eval s = v) (hown : w.ownsRow base E z v 0 [])
    (B : Nat) (A : Option Addr) (m d : Nat) (l : List α) (hx : a.eval x = .slice A m d) (hr : RdJ z I w (fun b => B ≤ b) A m l) (hn : m ≤ 1000000000) (hB : B ≤ base) (hbase : base ≤ w.heap.size) (hvb : ∀ g, v.ownBlock = some g → base ≤ g)
    (h : ∀ v' w', OwnM E z I w' base (fun b => B ≤ b) v' l → w.grownBy w' v.ownBlock → (v'.ownBlock = v.ownBlock ∨ v'.ownBlock = some w.heap.size) → K (a.put o.dst v') w') :
    o.wp Try.prog a w K Q := by
  obtain ⟨i0, hi, hz0', hz1, hz2⟩ := info_parts hinfo
  have hlen := hr.1
  rcases A with _ | ad
  · have hm : m = 0 := by
      rcases Nat.eq_zero_or_pos m with h0 | h0
      · exact h0
      · obtain ⟨b, off, vs, e, _⟩ := hr.2 0 h0
        cases e
    subst hm
    have hl : l = [] := List.eq_nil_of_length_eq_zero hlen
    subst hl
    unfold Oper.wp execOp
    simp only [ho, resolve, invoke, builtin, Sem.run_bind, Sem.run_pure, Result.andThen_ok, List.map_toArray, List.map_cons, List.map_nil, hs, hx, nil_apps hu hi hown]
    exact h v w ⟨[], hown, fun j hj => absurd hj (by simp)⟩ (World.grownBy.refl w _) (.inl rfl)
  have each : ∀ j, j < m → ∃ vs : List Value, vs.length = z ∧ (∀ i u, vs[i]? = some u → w.cell? (ad.add (j * z + i)) = some u) ∧ I w (fun b => B ≤ b) vs (l.getD j default) := by
    intro j hj
    obtain ⟨b, off, vs, e, hb, hnb, hl, hc, hit⟩ := hr.2 j hj
    injection e with e
    subst e
    refine ⟨vs, hl, fun i u hu => ?_, hit⟩
    have ha : (Addr.add ⟨b, off, none⟩ (j * z + i)) = ⟨b, off + j * z + i, none⟩ := by
      unfold Addr.add
      by_cases h0 : j * z + i = 0
      · rw [if_pos h0]; congr 1; omega
      · rw [if_neg h0]; simp; omega
    rw [ha]; exact hc i u hu
  obtain ⟨f, hf⟩ := choose_f each
  have hfl : ∀ j, j < m → (f j).length = z := fun j hj => (hf j hj).1
  have hmz : m * bytes ≤ 1000000000 * 100000 := Nat.mul_le_mul hn hby
  obtain ⟨v', w', hrun, hown', hg, _, hat⟩ := run_append_own_at (P := Try.prog) w base S o.type E i0 zero z bytes hu hi hz0' hz1 hz2 hzs hz0 v 0 [] hown ad m d ((List.range m).flatMap f) (flat_len hfl) (by
    intro q u hq
    have hlt : q < m * z := by rw [← flat_len hfl]; exact (List.getElem?_eq_some_iff.1 hq).1
    have hj : q / z < m := (Nat.div_lt_iff_lt_mul hz0).2 hlt
    have hi2 : q % z < z := Nat.mod_lt _ hz0
    have hd : q = q / z * z + q % z := by rw [Nat.mul_comm]; exact (Nat.div_add_mod q z).symm
    rw [hd] at hq ⊢
    rw [flat_get hfl _ hj _ hi2] at hq
    exact (hf _ hj).2.1 _ _ hq) (by
    intro u hu
    obtain ⟨j, hj, hu2⟩ := List.mem_flatMap.1 hu
    exact h1c (hf j (List.mem_range.1 hj)).2.2 u hu2) (by unfold maxLen; omega) (by rw [Nat.zero_add]; omega) hbase
  unfold Oper.wp execOp
  simp only [ho, resolve, invoke, builtin, Sem.run_bind, Sem.run_pure, Result.andThen_ok, List.map_toArray, List.map_cons, List.map_nil, hs, hx, hrun]
  refine h v' w' ⟨_, by rw [hlen]; rw [Nat.zero_add] at hown'; exact hown', fun j hj => ?_⟩ hg hat
  rw [hlen] at hj
  refine ⟨f j, hfl j hj, fun i u hu => ?_, ?_⟩
  · rw [List.nil_append, flat_get hfl j hj i (by rw [← hfl j hj]; exact (List.getElem?_eq_some_iff.1 hu).1)]; exact hu
  · exact hI.go (hf j hj).2.2 (FrM.of_grown hg (fun g hg' => by have := hvb g hg'; show B ≤ g; omega)) (fun b hb => .inl hb)
-- pure
theorem cmpV_refl (v : Ver) : cmpV v v = 0 := by
  unfold cmpV
  rw [compareInt_tot.refl, compareInt_tot.refl, compareInt_tot.refl]
  simp [orI, cmpPre]
def cvOf (v : VrT) : CV := ⟨1, v.1, v.2.1, v.2.2.1, v.2.2.2⟩
theorem has_one {v : VrT} (h : Ver.right (vOf v) = true) : rightR [[cvOf v]] = true ∧ hasR [[cvOf v]] (vOf v) = true := by
  have h1 : (cvOf v).right = true := by
    unfold CV.right
    rw [if_neg (show ¬ (cvOf v).op = 0 by show ¬ (1 : Int) = 0; omega)]
    have h2 : (cvOf v).ver.right = true := h
    rw [h2]; rfl
  have h2 : rightR [[cvOf v]] = true := by
    unfold rightR rightL
    simp [h1]
  refine ⟨h2, ?_⟩
  unfold hasR
  rw [h2, h]
  have h3 : hasC (cvOf v).op (cvOf v).ver (vOf v) = true := by
    unfold hasC
    rw [if_pos (show (cvOf v).op = 1 from rfl)]
    have : (cvOf v).ver = vOf v := rfl
    rw [this, cmpV_refl]; rfl
  simp [hasL, h3]
def pinx (l : List Sv) (T : List Int) (i : Nat) : Nd := ((i : Int), [[cvOf (rlAt (svAt l i).2 (ix T i).toNat).1]])
theorem pinR_app (l : List Sv) (ps qs : List Nd) (i v : Nat) : pinR l (ps ++ qs) i v = (pinR l ps i v && pinR l qs i v) := by
  unfold pinR; rw [List.all_append]
theorem okS_app {l : List Sv} {ps qs : List Nd} {c : List Int} (h : okS l (ps ++ qs) c = true) : okS l ps c = true := by
  unfold okS okV at h ⊢
  rw [pinR_app, Bool.and_eq_true, Bool.and_eq_true] at h
  rw [Bool.and_eq_true]
  exact ⟨h.1.1, h.2⟩
theorem ck_right {l : List Sv} (h : (chkC l).2.2 = 0) {i v : Nat} (hi : i < l.length) (hv : v < (svAt l i).2.length) : Ver.right (vOf (rlAt (svAt l i).2 v).1) = true := by
  have h1 := (ck_svc ((ck_ok h).1 i hi)).2 v hv
  unfold relE at h1
  by_cases a1 : Ver.right (vOf (rlAt (svAt l i).2 v).1) = false
  · rw [if_pos a1] at h1; exact absurd h1 (by decide)
  · simpa using a1
theorem pinx_has {l : List Sv} {T : List Int} (hck : (chkC l).2.2 = 0) (ht : setB l T = true) {i : Nat} (hi : i < l.length) : rightR (pinx l T i).2 = true ∧ (∀ j, j < l.length → pinP l j (ix T j).toNat (pinx l T i) = true) := by
  have h := setB_at ht hi
  have hr := has_one (ck_right hck hi (v := (ix T i).toNat) (by omega))
  refine ⟨hr.1, fun j hj => ?_⟩
  unfold pinP
  by_cases e : i = j
  · subst e
    show (_ || hasR (pinx l T i).2 _) = true
    rw [show hasR (pinx l T i).2 (vOf (rlAt (svAt l i).2 (ix T i).toNat).1) = true from hr.2]; simp
  · have : decide ((pinx l T i).1 = (j : Int)) = false := decide_eq_false (by show ¬ (i : Int) = (j : Int); omega)
    rw [this]; rfl
theorem solR_pins {l : List Sv} {now : List Int} {ps qs : List Nd} {ms : List Int} {b : Int} (hck : (chkC l).2.2 = 0) (h : (solR l now ps ms b).2 = 0) (hq : ∀ p ∈ qs, ∃ i, i < l.length ∧ p = pinx l (solR l now ps ms b).1 i) (hlen : (ps ++ qs).length ≤ 24) : solR l now (ps ++ qs) ms b = ((solR l now ps ms b).1, 0) := by
  obtain ⟨hc, hb, hd, hle⟩ := solR_ok h
  have ht := solR_tgt (ck_rels hck) h
  obtain ⟨T, hT⟩ : ∃ T, (solR l now ps ms b).1 = T := ⟨_, rfl⟩
  rw [hT] at hd ht hq ⊢
  obtain ⟨h1, h2, h3, h4, h5, h6⟩ := chkR_ok hc
  obtain ⟨t1, t2, t3⟩ := tgtB_iff.1 ht
  have hsv : svcB l (ps ++ qs) = true := by
    unfold svcB at h6 ⊢
    rw [List.all_append, h6, Bool.true_and, List.all_eq_true]
    intro p hp
    obtain ⟨i, hi, rfl⟩ := hq p hp
    show isS l (i : Int) = true
    unfold isS
    rw [decide_eq_true (show (0 : Int) ≤ (i : Int) by omega), decide_eq_true (show (i : Int) < (l.length : Int) by omega)]; rfl
  have hpb : pinsB (ps ++ qs) = true := by
    unfold pinsB at h5 ⊢
    rw [List.all_append, h5, Bool.true_and, List.all_eq_true]
    intro p hp
    obtain ⟨i, hi, rfl⟩ := hq p hp
    exact (pinx_has hck t1 hi).1
  have hTl : T.length = l.length := (setB_iff.1 t1).1
  have ht2 : tgtB l (ps ++ qs) T = true := tgtB_iff.2 ⟨t1, hsv, fun j hj => ⟨by
    rw [pinR_app, (t3 j hj).1, Bool.true_and]
    unfold pinR
    rw [List.all_eq_true]
    intro p hp
    obtain ⟨i, hi, rfl⟩ := hq p hp
    exact (pinx_has hck t1 hi).2 j (by omega), (t3 j hj).2⟩⟩
  obtain ⟨m1, m2⟩ := dfs_more (ok := okS l ps) (ok' := okS l (ps ++ qs)) (fun c hc => okS_app hc) hd ((pre_okS t1 hsv).2 ht2)
  exact solR_of (chkR_of h1 hlen h3 h4 hpb hsv) hb m1 (by omega)
def allP (l : List Sv) (T : List Int) (ps : List Nd) (k : Nat) : List Nd := ps ++ (List.range k).map (pinx l T)
def oneP (l : List Sv) (T : List Int) (ps : List Nd) (q k : Nat) : List Nd := ps ++ (if q < k then [pinx l T q] else [])
theorem allP_succ (l : List Sv) (T : List Int) (ps : List Nd) (k : Nat) : allP l T ps (k + 1) = allP l T ps k ++ [pinx l T k] := by
  unfold allP; rw [List.range_succ, List.map_append, List.append_assoc]; rfl
theorem oneP_yes (l : List Sv) (T : List Int) (ps : List Nd) (k : Nat) : oneP l T ps k (k + 1) = oneP l T ps k k ++ [pinx l T k] := by
  unfold oneP; rw [if_pos (by omega), if_neg (by omega), List.append_nil]
theorem oneP_no (l : List Sv) (T : List Int) (ps : List Nd) {q k : Nat} (h : q ≠ k) : oneP l T ps q (k + 1) = oneP l T ps q k := by
  unfold oneP
  by_cases h1 : q < k
  · rw [if_pos h1, if_pos (by omega)]
  · rw [if_neg h1, if_neg (by omega)]
theorem allP_len (l : List Sv) (T : List Int) (ps : List Nd) (k : Nat) : (allP l T ps k).length = ps.length + k := by simp [allP]
theorem oneP_len (l : List Sv) (T : List Int) (ps : List Nd) (q k : Nat) : (oneP l T ps q k).length ≤ ps.length + 1 := by
  unfold oneP
  rw [List.length_append]
  split <;> simp
theorem sm_cv {l : List Sv} (hs : SmCat l) {i v : Nat} (hi : i < l.length) (hv : v < (svAt l i).2.length) : SmR [[cvOf (rlAt (svAt l i).2 v).1]] := by
  have h := ((hs.2 _ (svAt_mem hi)).2.2 _ (rlAt_mem hv)).2.1
  refine ⟨by show 1 ≤ 12; omega, fun x hx => ?_⟩
  obtain rfl : x = [cvOf (rlAt (svAt l i).2 v).1] := by simpa using hx
  refine ⟨by show 1 ≤ 12; omega, fun y hy => ?_⟩
  obtain rfl : y = cvOf (rlAt (svAt l i).2 v).1 := by simpa using hy
  exact h
end Go.Proofs.Yteiknbkigbdfgaa
