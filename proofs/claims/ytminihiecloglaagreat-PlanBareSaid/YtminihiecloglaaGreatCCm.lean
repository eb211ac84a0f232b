/-
  MERGED: CCl CCm.
-/
import Derived.Test.YtminihiecloglaaGreatCSe
import Derived.Test.YtminihiecloglaaGreatCOw
import Derived.Test.YtminihiecloglaaGreatCAa
import Derived.Lib.SliceRun
namespace Go.Proofs.YtminihiecloglaaGreat
open Go.RowKit
open SemP DiP
set_option linter.unusedVariables false
set_option linter.unusedSimpArgs false
set_option maxRecDepth 10000
def MixJ {α : Type} [Inhabited α] (E : TypeId) (z : Nat) (I I' : ItT α) (w : World) (base B : Nat) (v : Value) (l : List α) (k : Nat) : Prop :=
  ∃ vals, w.ownsRow base E z v l.length vals ∧ ∀ j, j < l.length → ∃ vs, vs.length = z ∧ (∀ i x, vs[i]? = some x → vals[j * z + i]? = some x) ∧ (j < k → I' w (Ap base v) vs (l.getD j default)) ∧ (k ≤ j → I w (fun b => B ≤ b) vs (l.getD j default))
section
variable {α : Type} [Inhabited α] {E : TypeId} {z : Nat} {I I' : ItT α} {w w' : World} {base B k : Nat} {v : Value} {l : List α}
theorem MixJ.own (h : MixJ E z I I' w base B v l l.length) : OwnJ E z I' w base v l := by
  obtain ⟨vals, ho, hj⟩ := h
  refine ⟨vals, ho, fun j hl => ?_⟩
  obtain ⟨vs, h1, h2, h3, _⟩ := hj j hl
  exact ⟨vs, h1, h2, h3 hl⟩
theorem MixJ.kept (hI : Turns I) (hI' : Turns I') (h : MixJ E z I I' w base B v l k) (hb : Below w.heap.size w w') : MixJ E z I I' w' base B v l k := by
  obtain ⟨vals, ho, hj⟩ := h
  refine ⟨vals, ⟨ho.1, ?_⟩, fun j hl => ?_⟩
  · rcases ho.2 with h | ⟨g, cap, cur, hv, hbg, hh, r⟩
    · exact .inl h
    · exact .inr ⟨g, cap, cur, hv, hbg, (hb.block g (heapE_lt hh)).trans hh, r⟩
  · obtain ⟨vs, h1, h2, h3, h4⟩ := hj j hl
    exact ⟨vs, h1, h2, fun q => hI'.kept (h3 q) hb, fun q => hI.kept (h4 q) hb⟩
theorem MixJ.shape (h : MixJ E z I I' w base B v l k) : ∃ A c, v = .slice A l.length c := by
  obtain ⟨vals, h, _⟩ := h
  rcases h.2 with ⟨rfl, h0⟩ | ⟨g, cap, cur, rfl, _⟩
  · exact ⟨none, 0, by rw [h0]⟩
  · exact ⟨some ⟨g, 0, none⟩, cap, rfl⟩
theorem MixJ.at_ (h : MixJ E z I I' w base B v l k) {j : Nat} (hj : j < l.length) (hk : k ≤ j) : ∃ g c vs, v = .slice (some ⟨g, 0, none⟩) l.length c ∧ base ≤ g ∧ g < w.heap.size ∧ vs.length = z ∧ (∀ i x, vs[i]? = some x → w.cell? ⟨g, j * z + i, none⟩ = some x) ∧ (∀ i, w.frozen? ⟨g, i, none⟩ = false) ∧ I w (fun b => B ≤ b) vs (l.getD j default) := by
  obtain ⟨vals, ho, hv⟩ := h
  obtain ⟨vs, h1, h2, _, h3⟩ := hv j hj
  obtain ⟨g, cap, hv', hge, hlt⟩ := World.ownsRow.form ho (by omega)
  subst hv'
  exact ⟨g, cap, vs, rfl, hge, hlt, h1, fun i x hx => row_cell ho (h2 i x hx), fun i => ho.frozenAt i, h3 hk⟩
/-- The k-th element turned by one store. -/
theorem MixJ.store (hI : Turns I) (hI' : Turns I') {g c i : Nat} {u : Value} (h : MixJ E z I I' w base B (.slice (some ⟨g, 0, none⟩) l.length c) l k) (hk : k < l.length) (hi : i < z) (hB : B ≤ base) (hg : base ≤ g)
    (hnew : ∀ vs, vs.length = z → I w (fun b => B ≤ b) vs (l.getD k default) → I' (w.setCell ⟨g, k * z + i, none⟩ u) (Ap base (.slice (some ⟨g, 0, none⟩) l.length c)) (vs.set i u) (l.getD k default)) :
    MixJ E z I I' (w.setCell ⟨g, k * z + i, none⟩ u) base B (.slice (some ⟨g, 0, none⟩) l.length c) l (k + 1) := by
  obtain ⟨vals, ho, hv⟩ := h
  obtain ⟨hs, hgr⟩ := ho.stored (k * z + i) u
  refine ⟨_, hs, fun j hj => ?_⟩
  obtain ⟨vs, h1, h2, h3, h4⟩ := hv j hj
  by_cases e : j = k
  · subst e
    refine ⟨vs.set i u, by rw [List.length_set]; exact h1, fun i' x hx => ?_, fun _ => hnew vs h1 (h4 (Nat.le_refl _)), fun q => absurd q (by omega)⟩
    by_cases ei : i' = i
    · subst ei
      rw [List.getElem?_set_self (by omega)] at hx
      have hlt : j * z + i' < vals.length := by
        rw [ho.1]
        have : (j + 1) * z ≤ l.length * z := Nat.mul_le_mul_right z hj
        rw [Nat.add_mul, Nat.one_mul] at this; omega
      rw [List.getElem?_set_self hlt]; exact hx
    · rw [List.getElem?_set_ne (by omega)] at hx
      rw [List.getElem?_set_ne (by omega)]; exact h2 i' x hx
  · refine ⟨vs, h1, fun i' x hx => ?_, fun q => hI'.go (h3 (by omega)) (FrM.of_grown hgr (fun g' hg' => by injection hg' with hg'; subst hg'; exact .inl rfl)) (fun b hb => .inl hb), fun q => hI.go (h4 (by omega)) (FrM.of_grown hgr (fun g' hg' => by injection hg' with hg'; subst hg'; show B ≤ g; omega)) (fun b hb => .inl hb)⟩
    have hi' : i' < z := by rw [← h1]; exact (List.getElem?_eq_some_iff.1 hx).1
    have hne : k * z + i ≠ j * z + i' := by
      intro e2
      rcases Nat.lt_or_gt_of_ne e with hlt | hgt
      · have : (j + 1) * z ≤ k * z := Nat.mul_le_mul_right z hlt
        rw [Nat.add_mul, Nat.one_mul] at this; omega
      · have : (k + 1) * z ≤ j * z := Nat.mul_le_mul_right z hgt
        rw [Nat.add_mul, Nat.one_mul] at this; omega
    rw [List.getElem?_set_ne hne]; exact h2 i' x hx
end
def OneI {α : Type} (I : ItT α) : Prop := ∀ {w M vs x}, I w M vs x → ∀ u ∈ vs, u.oneCell' = true
theorem cm_one : OneI cmI := fun {w M vs x} h u hu => by
  have e : vs = c5 x := h
  subst e
  simp [c5] at hu
  rcases hu with rfl | rfl | rfl | rfl | rfl <;> rfl
theorem sl_one {α : Type} [Inhabited α] {z : Nat} {I : ItT α} : OneI (SlI z I) := fun {w M vs x} h u hu => by
  obtain ⟨A, n, c, rfl, _⟩ := h
  simp at hu; subst hu; rfl
theorem pn_one : OneI pnI := fun {w M vs x} h u hu => by
  obtain ⟨A, n, c, rfl, _⟩ := h.parts
  simp at hu; rcases hu with rfl | rfl <;> rfl
theorem re_one : OneI reI := fun {w M vs x} h u hu => by
  obtain ⟨A, n, c, rfl, _⟩ := h.parts
  simp at hu; rcases hu with rfl | rfl | rfl | rfl | rfl | rfl <;> rfl
theorem sv_one : OneI svI := fun {w M vs x} h u hu => by
  obtain ⟨A, n, c, rfl, _⟩ := h.parts
  simp at hu; rcases hu with rfl | rfl <;> rfl
/-- 'append(s, x...)', s the call's own and empty, x a slice that is only read. -/
theorem wplJ_apps {α : Type} [Inhabited α] {S E : TypeId} {z bytes : Nat} {zero : Value} {I I' : ItT α} (hI : Turns I) (h1c : OneI I) (hu : Tryz.prog.underlying S = some (.slice E)) (hinfo : (Tryz.prog.info? E).map (fun i => (i.zero, i.size, i.bytes)) = some (some zero, z, bytes)) (hzs : zero.cells.size = z) (hz0 : 0 < z) (hby : bytes ≤ 100000)
    {w : World} {ops : Array Oper} {rest : List Oper} {o : Oper} {a : Act} {Q : Exit → Act → World → Prop} (hgd : o.guard = none) (s x : Operand)
    (ho : o.op = .call { callee := .builtin .append, args := #[s, x], argTypes := #[S, S] })
    (base : Nat) (v : Value) (hs : a.eval s = v) (hown : w.ownsRow base E z v 0 [])
    (B : Nat) (ad : Addr) (m d : Nat) (l : List α) (hx : a.eval x = .slice (some ad) m d) (hr : RdJ z I w (fun b => B ≤ b) (some ad) m l) (hn : m ≤ 1000000000) (hB : B ≤ base) (hbase : base ≤ w.heap.size) (hvb : ∀ g, v.ownBlock = some g → base ≤ g)
    (h : ∀ v' w', MixJ E z I I' w' base B v' l 0 → w.grownBy w' v.ownBlock → wpList Tryz.prog ops Q rest (a.put o.dst v') w') :
    wpList Tryz.prog ops Q (o :: rest) a w := by
  obtain ⟨i0, hi, hz0', hz1, hz2⟩ := info_parts hinfo
  have hlen := hr.1
  have each : ∀ j, j < m → ∃ vs : List Value, vs.length = z ∧ (∀ i u, vs[i]? = some u → w.cell? (ad.add (j * z + i)) = some u) ∧ I w (fun b => B ≤ b) vs (l.getD j default) := by
    intro j hj
    obtain ⟨b, off, vs, e, hb, hnb, hl, hc, hit⟩ := hr.2 j hj
    injection e with e
    subst e
    refine ⟨vs, hl, fun i u hu => ?_, hit⟩
    have ha : (Addr.add ⟨b, off, none⟩ (j * z + i)) = ⟨b, off + j * z + i, none⟩ := by
      unfold Addr.add
      by_cases h0 : j * z + i = 0
      · rw [if_pos h0]; congr 1; omega
      · rw [if_neg h0]; simp; omega
    rw [ha]; exact hc i u hu
  obtain ⟨f, hf⟩ := choose_f each
  have hfl : ∀ j, j < m → (f j).length = z := fun j hj => (hf j hj).1
  have hmz : m * bytes ≤ 1000000000 * 100000 := Nat.mul_le_mul hn hby
  refine wpList_append_own_at w hgd s x S ho base E i0 zero z bytes hu hi hz0' hz1 hz2 hzs hz0 v 0 [] hs hown ad m d ((List.range m).flatMap f) hx (flat_len hfl) ?_ ?_ (by unfold maxLen; omega) (by rw [Nat.zero_add]; omega) hbase ?_
  · intro q u hq
    have hlt : q < m * z := by rw [← flat_len hfl]; exact (List.getElem?_eq_some_iff.1 hq).1
    have hj : q / z < m := (Nat.div_lt_iff_lt_mul hz0).2 hlt
    have hi2 : q % z < z := Nat.mod_lt _ hz0
    have hd : q = q / z * z + q % z := by rw [Nat.mul_comm]; exact (Nat.div_add_mod q z).symm
    rw [hd] at hq ⊢
    rw [flat_get hfl _ hj _ hi2] at hq
    exact (hf _ hj).2.1 _ _ hq
  · intro u hu
    obtain ⟨j, hj, hu2⟩ := List.mem_flatMap.1 hu
    exact h1c (hf j (List.mem_range.1 hj)).2.2 u hu2
  · intro v' w' hown' hg _ hat
    refine h v' w' ⟨_, by rw [hlen]; rw [Nat.zero_add] at hown'; exact hown', fun j hj => ?_⟩ hg
    rw [hlen] at hj
    refine ⟨f j, hfl j hj, fun i u hu => ?_, fun q => absurd q (by omega), fun _ => ?_⟩
    · rw [List.nil_append, flat_get hfl j hj i (by rw [← hfl j hj]; exact (List.getElem?_eq_some_iff.1 hu).1)]; exact hu
    · exact hI.go (hf j hj).2.2 (FrM.of_grown hg (fun g hg' => by have := hvb g hg'; show B ≤ g; omega)) (fun b hb => .inl hb)
theorem empty_row (w : World) (E : TypeId) (z : Nat) : (w.alloc (.cells #[] E)).ownsRow w.heap.size E z (.slice (some ⟨w.heap.size, 0, none⟩) 0 0) 0 [] :=
  ⟨by simp, .inr ⟨w.heap.size, 0, #[], rfl, Nat.le_refl _, heap_new w _, Nat.le_refl _, by unfold maxLen; omega, by simp, by simp⟩⟩
theorem MixJ.nil_ {α : Type} [Inhabited α] (E : TypeId) (z : Nat) (I I' : ItT α) (w : World) (base B k : Nat) : MixJ E z I I' w base B (.slice none 0 0) ([] : List α) k := ⟨[], World.ownsRow_nil _ _ _ _, fun j hj => absurd hj (by simp)⟩
theorem infoSvK : (Tryz.prog.info? 89).map (fun i => (i.zero, i.size, i.bytes)) = some (some (.agg #[.string ⟨#[]⟩, .slice none 0 0]), 2, 40) := by kernel_rfl
set_option maxHeartbeats 4000000 in
theorem cloneSv_any {w : World} {B n c : Nat} {A : Option Addr} {l : List Sv} {I' : ItT Sv} (hr : RdJ 2 svI w (fun b => B ≤ b) A n l) (hcap : CapA A n c) (hB : B ≤ w.heap.size) (hn : n ≤ 1000000000) :
    Calls Tryz.prog 66 #[.slice A n c] w fun e w' => ∃ v, e = .returned v ∧ MixJ 89 2 svI I' w' w.heap.size B v l 0 ∧ Below w.heap.size w w' := by
  rcases hcap with ⟨rfl, rfl, rfl⟩ | ⟨ad, rfl, hnc, hc⟩
  · obtain rfl : l = [] := List.eq_nil_of_length_eq_zero hr.1
    clear hr hB
    have heq := fun (W : World) => Lib.run_eql_slice_nil (P := Tryz.prog) W 22 _ none 0 0 0 0 Tryz.underlying22
    go_enter Tryz.func66, Tryz.ntmps66
    go_wp2_with fail
    refine bodyPost_ret (results_tmp rfl _ _ _) rfl ⟨_, rfl, MixJ.nil_ _ _ _ _ _ _ _ _, Below.refl _ _⟩
  · have hba : Below w.heap.size w (w.alloc (.cells #[] 89)) := (Below.refl _ w).alloc (Nat.le_refl _) _
    have HR := Lib.hid (RdJ.below' sv_turns hr hB hba)
    have HBA := Lib.hid hba
    have HB := Lib.hid hB
    have HN := Lib.hid hn
    have heq := fun (W : World) => Lib.run_eql_slice_nil (P := Tryz.prog) W 22 _ (some ad) n c 0 0 Tryz.underlying22
    clear hr hba hB hn hc hnc
    go_enter Tryz.func66, Tryz.ntmps66
    go_wp2_with (at_builtin; refine wplJ_apps (I' := I') sv_turns sv_one Tryz.underlying22 infoSvK rfl (by decide) (by decide) rfl (.tmp 5) (.tmp 6) rfl w.heap.size _ rfl (empty_row w 89 2) B ad n c l rfl HR.out HN.out HB.out (by simp) (fun g hg => by have h : some w.heap.size = some g := hg; injection h with h; omega) ?_; intro v2 w2 hmix hgr2)
    refine bodyPost_ret (results_tmp rfl _ _ _) rfl ⟨v2, rfl, hmix, HBA.out.grown hgr2 HBA.out.size (fun g hg => by have h : some w.heap.size = some g := hg; injection h with h; omega)⟩
theorem infoRlK : (Tryz.prog.info? 86).map (fun i => (i.zero, i.size, i.bytes)) = some (some (.agg #[.int .i64 0, .int .i64 0, .int .i64 0, .string ⟨#[]⟩, .int .i64 0, .slice none 0 0]), 6, 72) := by kernel_rfl
set_option maxHeartbeats 4000000 in
theorem cloneRl_any {w : World} {B n c : Nat} {A : Option Addr} {l : List Rl} {I' : ItT Rl} (hr : RdJ 6 reI w (fun b => B ≤ b) A n l) (hcap : CapA A n c) (hB : B ≤ w.heap.size) (hn : n ≤ 1000000000) :
    Calls Tryz.prog 91 #[.slice A n c] w fun e w' => ∃ v, e = .returned v ∧ MixJ 86 6 reI I' w' w.heap.size B v l 0 ∧ Below w.heap.size w w' := by
  rcases hcap with ⟨rfl, rfl, rfl⟩ | ⟨ad, rfl, hnc, hc⟩
  · obtain rfl : l = [] := List.eq_nil_of_length_eq_zero hr.1
    clear hr hB
    have heq := fun (W : World) => Lib.run_eql_slice_nil (P := Tryz.prog) W 87 _ none 0 0 0 0 Tryz.underlying87
    go_enter Tryz.func91, Tryz.ntmps91
    go_wp2_with fail
    refine bodyPost_ret (results_tmp rfl _ _ _) rfl ⟨_, rfl, MixJ.nil_ _ _ _ _ _ _ _ _, Below.refl _ _⟩
  · have hba : Below w.heap.size w (w.alloc (.cells #[] 86)) := (Below.refl _ w).alloc (Nat.le_refl _) _
    have HR := Lib.hid (RdJ.below' re_turns hr hB hba)
    have HBA := Lib.hid hba
    have HB := Lib.hid hB
    have HN := Lib.hid hn
    have heq := fun (W : World) => Lib.run_eql_slice_nil (P := Tryz.prog) W 87 _ (some ad) n c 0 0 Tryz.underlying87
    clear hr hba hB hn hc hnc
    go_enter Tryz.func91, Tryz.ntmps91
    go_wp2_with (at_builtin; refine wplJ_apps (I' := I') re_turns re_one Tryz.underlying87 infoRlK rfl (by decide) (by decide) rfl (.tmp 5) (.tmp 6) rfl w.heap.size _ rfl (empty_row w 86 6) B ad n c l rfl HR.out HN.out HB.out (by simp) (fun g hg => by have h : some w.heap.size = some g := hg; injection h with h; omega) ?_; intro v2 w2 hmix hgr2)
    refine bodyPost_ret (results_tmp rfl _ _ _) rfl ⟨v2, rfl, hmix, HBA.out.grown hgr2 HBA.out.size (fun g hg => by have h : some w.heap.size = some g := hg; injection h with h; omega)⟩
theorem infoNdK : (Tryz.prog.info? 99).map (fun i => (i.zero, i.size, i.bytes)) = some (some (.agg #[.int .i64 0, .slice none 0 0]), 2, 32) := by kernel_rfl
set_option maxHeartbeats 4000000 in
theorem cloneNd_any {w : World} {B n c : Nat} {A : Option Addr} {l : List Nd} {I' : ItT Nd} (hr : RdJ 2 pnI w (fun b => B ≤ b) A n l) (hcap : CapA A n c) (hB : B ≤ w.heap.size) (hn : n ≤ 1000000000) :
    Calls Tryz.prog 92 #[.slice A n c] w fun e w' => ∃ v, e = .returned v ∧ MixJ 99 2 pnI I' w' w.heap.size B v l 0 ∧ Below w.heap.size w w' := by
  rcases hcap with ⟨rfl, rfl, rfl⟩ | ⟨ad, rfl, hnc, hc⟩
  · obtain rfl : l = [] := List.eq_nil_of_length_eq_zero hr.1
    clear hr hB
    have heq := fun (W : World) => Lib.run_eql_slice_nil (P := Tryz.prog) W 84 _ none 0 0 0 0 Tryz.underlying84
    go_enter Tryz.func92, Tryz.ntmps92
    go_wp2_with fail
    refine bodyPost_ret (results_tmp rfl _ _ _) rfl ⟨_, rfl, MixJ.nil_ _ _ _ _ _ _ _ _, Below.refl _ _⟩
  · have hba : Below w.heap.size w (w.alloc (.cells #[] 99)) := (Below.refl _ w).alloc (Nat.le_refl _) _
    have HR := Lib.hid (RdJ.below' pn_turns hr hB hba)
    have HBA := Lib.hid hba
    have HB := Lib.hid hB
    have HN := Lib.hid hn
    have heq := fun (W : World) => Lib.run_eql_slice_nil (P := Tryz.prog) W 84 _ (some ad) n c 0 0 Tryz.underlying84
    clear hr hba hB hn hc hnc
    go_enter Tryz.func92, Tryz.ntmps92
    go_wp2_with (at_builtin; refine wplJ_apps (I' := I') pn_turns pn_one Tryz.underlying84 infoNdK rfl (by decide) (by decide) rfl (.tmp 5) (.tmp 6) rfl w.heap.size _ rfl (empty_row w 99 2) B ad n c l rfl HR.out HN.out HB.out (by simp) (fun g hg => by have h : some w.heap.size = some g := hg; injection h with h; omega) ?_; intro v2 w2 hmix hgr2)
    refine bodyPost_ret (results_tmp rfl _ _ _) rfl ⟨v2, rfl, hmix, HBA.out.grown hgr2 HBA.out.size (fun g hg => by have h : some w.heap.size = some g := hg; injection h with h; omega)⟩
theorem infoLsK : (Tryz.prog.info? 94).map (fun i => (i.zero, i.size, i.bytes)) = some (some (.slice none 0 0), 1, 24) := by kernel_rfl
set_option maxHeartbeats 4000000 in
theorem cloneLs_any {w : World} {B n c : Nat} {A : Option Addr} {l : List (List CV)} {I' : ItT (List CV)} (hr : RdJ 1 liI w (fun b => B ≤ b) A n l) (hcap : CapA A n c) (hB : B ≤ w.heap.size) (hn : n ≤ 1000000000) :
    Calls Tryz.prog 113 #[.slice A n c] w fun e w' => ∃ v, e = .returned v ∧ MixJ 94 1 liI I' w' w.heap.size B v l 0 ∧ Below w.heap.size w w' := by
  rcases hcap with ⟨rfl, rfl, rfl⟩ | ⟨ad, rfl, hnc, hc⟩
  · obtain rfl : l = [] := List.eq_nil_of_length_eq_zero hr.1
    clear hr hB
    have heq := fun (W : World) => Lib.run_eql_slice_nil (P := Tryz.prog) W 95 _ none 0 0 0 0 Tryz.underlying95
    go_enter Tryz.func113, Tryz.ntmps113
    go_wp2_with fail
    refine bodyPost_ret (results_tmp rfl _ _ _) rfl ⟨_, rfl, MixJ.nil_ _ _ _ _ _ _ _ _, Below.refl _ _⟩
  · have hba : Below w.heap.size w (w.alloc (.cells #[] 94)) := (Below.refl _ w).alloc (Nat.le_refl _) _
    have HR := Lib.hid (RdJ.below' li_turns hr hB hba)
    have HBA := Lib.hid hba
    have HB := Lib.hid hB
    have HN := Lib.hid hn
    have heq := fun (W : World) => Lib.run_eql_slice_nil (P := Tryz.prog) W 95 _ (some ad) n c 0 0 Tryz.underlying95
    clear hr hba hB hn hc hnc
    go_enter Tryz.func113, Tryz.ntmps113
    go_wp2_with (at_builtin; refine wplJ_apps (I' := I') li_turns sl_one Tryz.underlying95 infoLsK rfl (by decide) (by decide) rfl (.tmp 5) (.tmp 6) rfl w.heap.size _ rfl (empty_row w 94 1) B ad n c l rfl HR.out HN.out HB.out (by simp) (fun g hg => by have h : some w.heap.size = some g := hg; injection h with h; omega) ?_; intro v2 w2 hmix hgr2)
    refine bodyPost_ret (results_tmp rfl _ _ _) rfl ⟨v2, rfl, hmix, HBA.out.grown hgr2 HBA.out.size (fun g hg => by have h : some w.heap.size = some g := hg; injection h with h; omega)⟩
theorem infoCmK : (Tryz.prog.info? 93).map (fun i => (i.zero, i.size, i.bytes)) = some (some (.agg #[.int .i64 0, .int .i64 0, .int .i64 0, .int .i64 0, .string ⟨#[]⟩]), 5, 48) := by kernel_rfl
set_option maxHeartbeats 4000000 in
theorem cloneCm_any {w : World} {B n c : Nat} {A : Option Addr} {l : List CV} {I' : ItT CV} (hr : RdJ 5 cmI w (fun b => B ≤ b) A n l) (hcap : CapA A n c) (hB : B ≤ w.heap.size) (hn : n ≤ 1000000000) :
    Calls Tryz.prog 114 #[.slice A n c] w fun e w' => ∃ v, e = .returned v ∧ MixJ 93 5 cmI I' w' w.heap.size B v l 0 ∧ Below w.heap.size w w' := by
  rcases hcap with ⟨rfl, rfl, rfl⟩ | ⟨ad, rfl, hnc, hc⟩
  · obtain rfl : l = [] := List.eq_nil_of_length_eq_zero hr.1
    clear hr hB
    have heq := fun (W : World) => Lib.run_eql_slice_nil (P := Tryz.prog) W 94 _ none 0 0 0 0 Tryz.underlying94
    go_enter Tryz.func114, Tryz.ntmps114
    go_wp2_with fail
    refine bodyPost_ret (results_tmp rfl _ _ _) rfl ⟨_, rfl, MixJ.nil_ _ _ _ _ _ _ _ _, Below.refl _ _⟩
  · have hba : Below w.heap.size w (w.alloc (.cells #[] 93)) := (Below.refl _ w).alloc (Nat.le_refl _) _
    have HR := Lib.hid (RdJ.below' cm_turns hr hB hba)
    have HBA := Lib.hid hba
    have HB := Lib.hid hB
    have HN := Lib.hid hn
    have heq := fun (W : World) => Lib.run_eql_slice_nil (P := Tryz.prog) W 94 _ (some ad) n c 0 0 Tryz.underlying94
    clear hr hba hB hn hc hnc
    go_enter Tryz.func114, Tryz.ntmps114
    go_wp2_with (at_builtin; refine wplJ_apps (I' := I') cm_turns cm_one Tryz.underlying94 infoCmK rfl (by decide) (by decide) rfl (.tmp 5) (.tmp 6) rfl w.heap.size _ rfl (empty_row w 93 5) B ad n c l rfl HR.out HN.out HB.out (by simp) (fun g hg => by have h : some w.heap.size = some g := hg; injection h with h; omega) ?_; intro v2 w2 hmix hgr2)
    refine bodyPost_ret (results_tmp rfl _ _ _) rfl ⟨v2, rfl, hmix, HBA.out.grown hgr2 HBA.out.size (fun g hg => by have h : some w.heap.size = some g := hg; injection h with h; omega)⟩
end Go.Proofs.YtminihiecloglaaGreat

namespace Go.Proofs.YtminihiecloglaaGreat
open Go.RowKit
open SemP DiP
set_option linter.unusedVariables false
set_option linter.unusedSimpArgs false
set_option maxRecDepth 10000
theorem MixJ.flat {α : Type} [Inhabited α] {E : TypeId} {z : Nat} {I : ItT α} {w : World} {base B k : Nat} {v : Value} {l : List α} (hf : ∀ {M M' vs x}, I w M vs x → I w M' vs x) (h : MixJ E z I I w base B v l k) : OwnJ E z I w base v l := by
  obtain ⟨vals, ho, hj⟩ := h
  refine ⟨vals, ho, fun j hl => ?_⟩
  obtain ⟨vs, h1, h2, h3, h4⟩ := hj j hl
  refine ⟨vs, h1, h2, ?_⟩
  rcases Nat.lt_or_ge j k with q | q
  · exact h3 q
  · exact hf (h4 q)
def liO : ItT (List CV) := OwI 93 5 cmI
theorem liO_turns : Turns liO := OwI.turns cm_turns
def rgO : ItT (List (List CV)) := OwI 94 1 liO
theorem rgO_turns : Turns rgO := OwI.turns liO_turns
def pnO : ItT Nd := TwI inI rgO
theorem pnO_turns : Turns pnO := TwI.turns in_turns rgO_turns
def psO : ItT (List Nd) := OwI 99 2 pnO
theorem psO_turns : Turns psO := OwI.turns pnO_turns
def reO : ItT Rl := TwI vnI (TwI inI psO)
theorem reO_turns : Turns reO := TwI.turns vn_turns (TwI.turns in_turns psO_turns)
def rsO : ItT (List Rl) := OwI 86 6 reO
theorem rsO_turns : Turns rsO := OwI.turns reO_turns
def svO : ItT Sv := TwI stI rsO
theorem svO_turns : Turns svO := TwI.turns st_turns rsO_turns
set_option maxHeartbeats 8000000 in
theorem cloneLists_any {w : World} {B n c : Nat} {A : Option Addr} {r : List (List CV)} (hr : RdJ 1 liI w (fun b => B ≤ b) A n r) (hcap : CapA A n c) (hB : B ≤ w.heap.size) (hs : SmR r) :
    Calls Tryz.prog 93 #[.slice A n c] w fun e w' => ∃ v, e = .returned v ∧ OwnJ 94 1 liO w' w.heap.size v r ∧ Below w.heap.size w w' := by
  have HLN : Hid (r.length = n) := Lib.hid hr.1
  have HN12 : Hid (n ≤ 12) := Lib.hid (by have := hr.1; have := hs.1; omega)
  have HCL := Lib.hid (cloneLs_any (I' := liO) hr hcap hB (by have := HN12.out; omega))
  have HB := Lib.hid hB
  have HS := Lib.hid hs
  clear hr hcap hB hs
  go_enter Tryz.func93, Tryz.ntmps93
  go_wp2_with fail
  refine HCL.out.mono ?_
  rintro e w1 ⟨v, rfl, hmix, hb⟩
  have HB1 := Lib.hid hb
  obtain ⟨A1, c1, hv⟩ := hmix.shape
  subst hv
  have HM1 := Lib.hid hmix
  clear hmix hb HCL
  rw [HLN.out]
  go_wp2_with fail
  go_loopw [4, 9] (fun _ vk wr => ∃ k : Nat, k ≤ n ∧ vk = .int .i64 (k : Int) ∧ Hid (Below w.heap.size w wr) ∧ Hid (MixJ 94 1 liI liO wr w.heap.size B (.slice A1 r.length c1) r k)) (fun _ vk _ => n - (intOf vk).toNat)
  case atStart => exact ⟨0, Nat.zero_le _, rfl, HB1, HM1⟩
  case round =>
    obtain ⟨wo, hwo⟩ : ∃ x, x = wr := ⟨_, rfl⟩
    subst hwo
    obtain ⟨k, hk, rfl, HBo, HM⟩ := hrel
    by_cases hkn : k < n
    · have hd : decide ((k : Int) < (n : Int)) = true := by simp; omega
      have hki : (k : Int) < (n : Int) := by omega
      have hk0 : (0 : Int) ≤ (k : Int) := by omega
      have hadd : IntKind.i64.wrap ((k : Int) + 1) = ((k + 1 : Nat) : Int) := by rw [IntWalk.i64_in _ (by have := HN12.out; omega)]; omega
      have HKL : Hid (k < r.length) := Lib.hid (by rw [HLN.out]; exact hkn)
      obtain ⟨g, c2, vs, hv2, hg1, hg2, hl1, hcell, hfz, hit⟩ := HM.out.at_ HKL.out (Nat.le_refl _)
      injection hv2 with e1 e2 e3
      subst e1 e3
      obtain ⟨Ai, ni, ci, rfl, hci, hri⟩ := hit
      have p0 := hcell 0 _ rfl
      rw [Nat.mul_one, Nat.add_zero] at p0
      have HSC := Lib.hid (HS.out.2 _ (getD_mem HKL.out))
      have hBo : B ≤ wo.heap.size := Nat.le_trans HB.out HBo.out.size
      have HCM := Lib.hid (cloneCm_any (I' := cmI) hri hci hBo (by have h1 := hri.1; have h2 := HSC.out.1; omega))
      have HG := Lib.hid (And.intro hg1 hg2)
      clear hri hci hcell hl1 hBo
      go_wp2_with fail
      refine HCM.out.mono ?_
      rintro e w2 ⟨v2, rfl, hmix2, hb2⟩
      have HO2 := Lib.hid (hmix2.flat (fun h => h))
      have HM2 := Lib.hid (HM.out.kept li_turns liO_turns hb2)
      have HB2 : Hid (Below w.heap.size w w2) := Lib.hid (HBo.out.trans (hb2.mono HBo.out.size))
      have q0 : w2.cell? ⟨g, k, none⟩ = some (.slice Ai ni ci) := (hb2.cell (p := ⟨g, k, none⟩) hg2).trans p0
      have qf : w2.frozen? ⟨g, k, none⟩ = false := (hb2.frozen (p := ⟨g, k, none⟩) hg2).trans (hfz k)
      have HZ2 := Lib.hid hb2.size
      obtain ⟨A2, c2', hv3⟩ := HO2.out.shape
      subst hv3
      have HST : Hid (MixJ 94 1 liI liO (w2.setCell ⟨g, k, none⟩ (.slice A2 (r.getD k default).length c2')) w.heap.size B (.slice (some ⟨g, 0, none⟩) r.length c1) r (k + 1)) := Lib.hid (by
        have := MixJ.store (i := 0) (u := .slice A2 (r.getD k default).length c2') li_turns liO_turns HM2.out HKL.out (by omega) HB.out HG.out.1 (fun vs h1 h3 => by
          obtain ⟨Aq, nq, cq, rfl, _⟩ := h3
          exact liO_turns.go (HO2.out.itemO (M := Ap w.heap.size (.slice (some ⟨g, 0, none⟩) r.length c1)) cm_turns (fun b hb => .inl (by
            rcases hb with hb | hb
            · have h : some g = some b := hb
              injection h with h
              have := HG.out.2; omega
            · have := HBo.out.size; omega))) (FrM.of_grown (grown_set w2 g (k * 1 + 0) _) (fun g' hg' => by injection hg' with hg'; subst hg'; exact .inl rfl)) (fun b hb => .inl hb))
        rw [Nat.mul_one, Nat.add_zero] at this
        exact this)
      have HB5 := Lib.hid (HB2.out.setCell (p := ⟨g, k, none⟩) HG.out.1 (.slice A2 (r.getD k default).length c2'))
      clear hmix2 hb2 p0 hfz HCM hg1 hg2
      go_wp2_with fail
      go_roundw
      case rel => exact ⟨k + 1, by omega, by go_num, HB5, HST⟩
      case measure => simp [intOf]; omega
    · have hd : decide ((k : Int) < (n : Int)) = false := by simp; omega
      obtain rfl : k = n := by omega
      have HOO : Hid (OwnJ 94 1 liO wo w.heap.size (.slice A1 r.length c1) r) := Lib.hid (MixJ.own (by rw [HLN.out]; have := HM.out; rw [HLN.out] at this; exact this))
      rw [HLN.out] at HOO
      go_wp2_with fail
      exact bodyPost_ret (results_tmp rfl _ _ _) rfl ⟨.slice A1 k c1, rfl, HOO.out, HBo.out⟩
set_option maxHeartbeats 16000000 in
theorem cloneReleases_any {w : World} {B n c : Nat} {A : Option Addr} {rl : List Rl} (hr : RdJ 6 reI w (fun b => B ≤ b) A n rl) (hcap : CapA A n c) (hB : B ≤ w.heap.size) (hs : rl.length ≤ 16 ∧ ∀ x ∈ rl, SmRl x) :
    Calls Tryz.prog 67 #[.slice A n c] w fun e w' => ∃ v, e = .returned v ∧ OwnJ 86 6 reO w' w.heap.size v rl ∧ Below w.heap.size w w' := by
  have HLN : Hid (rl.length = n) := Lib.hid hr.1
  have HN16 : Hid (n ≤ 16) := Lib.hid (by have := hr.1; have := hs.1; omega)
  have HCL := Lib.hid (cloneRl_any (I' := reO) hr hcap hB (by have := HN16.out; omega))
  have HB := Lib.hid hB
  have HS := Lib.hid hs
  clear hr hcap hB hs
  go_enter Tryz.func67, Tryz.ntmps67
  go_wp2_with fail
  refine HCL.out.mono ?_
  rintro e w1 ⟨v, rfl, hmix, hb⟩
  have HB1 := Lib.hid hb
  obtain ⟨A1, c1, hv⟩ := hmix.shape
  subst hv
  have HM1 := Lib.hid hmix
  clear hmix hb HCL
  rw [HLN.out]
  go_wp2_with fail
  go_loopw [4, 5, 6, 11] (fun _ _ _ vk wr => ∃ k : Nat, k ≤ n ∧ vk = .int .i64 (k : Int) ∧ Hid (Below w.heap.size w wr) ∧ Hid (MixJ 86 6 reI reO wr w.heap.size B (.slice A1 rl.length c1) rl k)) (fun _ _ _ vk _ => n - (intOf vk).toNat)
  case atStart => exact ⟨0, Nat.zero_le _, rfl, HB1, HM1⟩
  case round =>
    obtain ⟨wo, hwo⟩ : ∃ x, x = wr := ⟨_, rfl⟩
    subst hwo
    obtain ⟨k, hk, rfl, HBo, HM⟩ := hrel
    by_cases hkn : k < n
    · have hd : decide ((k : Int) < (n : Int)) = true := by simp; omega
      have hki : (k : Int) < (n : Int) := by omega
      have hk0 : (0 : Int) ≤ (k : Int) := by omega
      have hadd : IntKind.i64.wrap ((k : Int) + 1) = ((k + 1 : Nat) : Int) := by rw [IntWalk.i64_in _ (by have := HN16.out; omega)]; omega
      have HKL : Hid (k < rl.length) := Lib.hid (by rw [HLN.out]; exact hkn)
      obtain ⟨g, c2, vs, hv2, hg1, hg2, hl1, hcell, hfz, hit⟩ := HM.out.at_ HKL.out (Nat.le_refl _)
      injection hv2 with e1 e2 e3
      subst e1 e3
      obtain ⟨Ai, ni, ci, rfl, hps⟩ := hit.parts
      obtain ⟨hci, hri⟩ := hps.rd
      have p0 := hcell 5 _ rfl
      have HSC := Lib.hid (HS.out.2 _ (getD_mem HKL.out))
      obtain ⟨nds, HNDS⟩ : ∃ y, Hid ((rl.getD k default).2.2 = y) := ⟨_, Lib.hid rfl⟩
      rw [HNDS.out] at hri
      have HNI : Hid (nds.length = ni) := Lib.hid hri.1
      have HSN : Hid (nds.length ≤ 12 ∧ ∀ p ∈ nds, SmR p.2) := Lib.hid (by rw [← HNDS.out]; exact ⟨HSC.out.1, HSC.out.2.2⟩)
      have HN12 : Hid (ni ≤ 12) := Lib.hid (by have := HSN.out.1; have := HNI.out; omega)
      have HBo2 : Hid (B ≤ wo.heap.size) := Lib.hid (Nat.le_trans HB.out HBo.out.size)
      have HCM := Lib.hid (cloneNd_any (I' := pnO) hri hci HBo2.out (by have := HN12.out; omega))
      have HG := Lib.hid (And.intro hg1 hg2)
      have HFZ := Lib.hid hfz
      have P0 := Lib.hid p0
      clear hit hri hci hcell hl1 hps hfz hg1 hg2
      go_wp2_with fail
      refine HCM.out.mono ?_
      rintro e w2 ⟨v2, rfl, hmix2, hb2⟩
      obtain ⟨A2, c2', hv3⟩ := hmix2.shape
      subst hv3
      have HM2 := Lib.hid hmix2
      have HB2 := Lib.hid hb2
      clear hmix2 hb2 HCM p0
      rw [HNI.out]
      go_wp2_with fail
      go_loopw [6, 22] (fun _ vq wr => ∃ q : Nat, q ≤ ni ∧ vq = .int .i64 (q : Int) ∧ Hid (Below wo.heap.size wo wr) ∧ Hid (MixJ 99 2 pnI pnO wr wo.heap.size B (.slice A2 nds.length c2') nds q)) (fun _ vq _ => ni - (intOf vq).toNat)
      case atStart => exact ⟨0, Nat.zero_le _, rfl, HB2, HM2⟩
      case round =>
        obtain ⟨wi, hwi⟩ : ∃ x, x = wr := ⟨_, rfl⟩
        subst hwi
        obtain ⟨q, hq, rfl, HBi, HMi⟩ := hrel
        by_cases hqn : q < ni
        · have hd2 : decide ((q : Int) < (ni : Int)) = true := by simp; omega
          have hqi : (q : Int) < (ni : Int) := by omega
          have hq0 : (0 : Int) ≤ (q : Int) := by omega
          have hadd2 : IntKind.i64.wrap ((q : Int) + 1) = ((q + 1 : Nat) : Int) := by rw [IntWalk.i64_in _ (by have := HN12.out; omega)]; omega
          have HQL : Hid (q < nds.length) := Lib.hid (by rw [HNI.out]; exact hqn)
          obtain ⟨g5, c5', us, hv5, hg3, hg4, hl2, hcell2, hfz2, hit2⟩ := HMi.out.at_ HQL.out (Nat.le_refl _)
          injection hv5 with e1 e2 e3
          subst e1 e3
          obtain ⟨Ar, nr, cr, rfl, hcr, hrr⟩ := hit2.parts
          have p1 := hcell2 1 _ rfl
          have HSR := Lib.hid (HSN.out.2 _ (getD_mem HQL.out))
          have HCX := Lib.hid (cloneLists_any hrr hcr (Nat.le_trans HBo2.out HBi.out.size) HSR.out)
          have HG5 := Lib.hid (And.intro hg3 hg4)
          clear hit2 hrr hcr hcell2 hl2
          go_wp2_with fail
          refine HCX.out.mono ?_
          rintro e w3 ⟨v3, rfl, hown3, hb3⟩
          have HO3 := Lib.hid hown3
          have HM3 := Lib.hid (HMi.out.kept pn_turns pnO_turns hb3)
          have HB3 : Hid (Below wo.heap.size wo w3) := Lib.hid (HBi.out.trans (hb3.mono HBi.out.size))
          have q0 : w3.cell? ⟨g5, q * 2 + 1, none⟩ = some (.slice Ar nr cr) := (hb3.cell (p := ⟨g5, q * 2 + 1, none⟩) hg4).trans p1
          have qf : w3.frozen? ⟨g5, q * 2 + 1, none⟩ = false := (hb3.frozen (p := ⟨g5, q * 2 + 1, none⟩) hg4).trans (hfz2 _)
          obtain ⟨A3, c3', hv6⟩ := HO3.out.shape
          subst hv6
          obtain ⟨rg, HRG⟩ : ∃ y, Hid ((nds.getD q default).2 = y) := ⟨_, Lib.hid rfl⟩
          rw [HRG.out] at HO3
          have HST : Hid (MixJ 99 2 pnI pnO (w3.setCell ⟨g5, q * 2 + 1, none⟩ (.slice A3 rg.length c3')) wo.heap.size B (.slice (some ⟨g5, 0, none⟩) nds.length c2') nds (q + 1)) := Lib.hid (MixJ.store (i := 1) (u := .slice A3 rg.length c3') pn_turns pnO_turns HM3.out HQL.out (by omega) HBo2.out HG5.out.1 (fun us h1 h3 => by
            obtain ⟨Aq, nq, cq, rfl, _⟩ := h3.parts
            refine ⟨[.int .i64 (nds.getD q default).1], [.slice A3 rg.length c3'], rfl, rfl, ?_⟩
            rw [HRG.out]
            exact rgO_turns.go (HO3.out.itemO (M := Ap wo.heap.size (.slice (some ⟨g5, 0, none⟩) nds.length c2')) liO_turns (fun b hb => .inl (by
              rcases hb with hb | hb
              · have h : some g5 = some b := hb
                injection h with h
                have := HG5.out.2; omega
              · have := HBi.out.size; omega))) (FrM.of_grown (grown_set w3 g5 (q * 2 + 1) _) (fun g' hg' => by injection hg' with hg'; subst hg'; exact .inl rfl)) (fun b hb => .inl hb)))
          have HB5 := Lib.hid (HB3.out.setCell (p := ⟨g5, q * 2 + 1, none⟩) HG5.out.1 (.slice A3 rg.length c3'))
          rw [HRG.out]
          clear hown3 hb3 p1 hfz2 HCX hg3 hg4
          go_wp2_with fail
          go_roundw
          case rel => exact ⟨q + 1, by omega, by go_num, HB5, HST⟩
          case measure => simp [intOf]; omega
        · have hd2 : decide ((q : Int) < (ni : Int)) = false := by simp; omega
          obtain rfl : q = ni := by omega
          have HOI : Hid (OwnJ 99 2 pnO wi wo.heap.size (.slice A2 nds.length c2') nds) := Lib.hid (MixJ.own (by rw [HNI.out]; have := HMi.out; rw [HNI.out] at this; exact this))
          have HMr := Lib.hid (HM.out.kept re_turns reO_turns HBi.out)
          have q0 : wi.cell? ⟨g, k * 6 + 5, none⟩ = some (.slice Ai q ci) := (HBi.out.cell (p := ⟨g, k * 6 + 5, none⟩) HG.out.2).trans P0.out
          have qf : wi.frozen? ⟨g, k * 6 + 5, none⟩ = false := (HBi.out.frozen (p := ⟨g, k * 6 + 5, none⟩) HG.out.2).trans (HFZ.out _)
          have HST : Hid (MixJ 86 6 reI reO (wi.setCell ⟨g, k * 6 + 5, none⟩ (.slice A2 q c2')) w.heap.size B (.slice (some ⟨g, 0, none⟩) rl.length c1) rl (k + 1)) := Lib.hid (MixJ.store (i := 5) (u := .slice A2 q c2') re_turns reO_turns HMr.out HKL.out (by omega) HB.out HG.out.1 (fun us h1 h3 => by
            obtain ⟨Aq, nq, cq, rfl, _⟩ := h3.parts
            refine ⟨[.int .i64 (rl.getD k default).1.1, .int .i64 (rl.getD k default).1.2.1, .int .i64 (rl.getD k default).1.2.2.1, .string (rl.getD k default).1.2.2.2], [.int .i64 (rl.getD k default).2.1, .slice A2 q c2'], rfl, rfl, [.int .i64 (rl.getD k default).2.1], [.slice A2 q c2'], rfl, rfl, ?_⟩
            rw [HNDS.out]
            have hit := HOI.out.itemO (M := Ap w.heap.size (.slice (some ⟨g, 0, none⟩) rl.length c1)) pnO_turns (fun b hb => .inl (by
              rcases hb with hb | hb
              · have h : some g = some b := hb
                injection h with h
                have := HG.out.2; omega
              · have := HBo.out.size; omega))
            rw [HNI.out] at hit
            exact psO_turns.go hit (FrM.of_grown (grown_set wi g (k * 6 + 5) _) (fun g' hg' => by injection hg' with hg'; subst hg'; exact .inl rfl)) (fun b hb => .inl hb)))
          have HB5 := Lib.hid ((HBo.out.trans (HBi.out.mono HBo.out.size)).setCell (p := ⟨g, k * 6 + 5, none⟩) HG.out.1 (.slice A2 q c2'))
          go_wp2_with fail
          go_roundw
          case rel => exact ⟨k + 1, by omega, by go_num, HB5, HST⟩
          case measure => simp [intOf]; omega
    · have hd : decide ((k : Int) < (n : Int)) = false := by simp; omega
      obtain rfl : k = n := by omega
      have HOO : Hid (OwnJ 86 6 reO wo w.heap.size (.slice A1 rl.length c1) rl) := Lib.hid (MixJ.own (by rw [HLN.out]; have := HM.out; rw [HLN.out] at this; exact this))
      rw [HLN.out] at HOO
      go_wp2_with fail
      exact bodyPost_ret (results_tmp rfl _ _ _) rfl ⟨.slice A1 k c1, rfl, HOO.out, HBo.out⟩
set_option maxHeartbeats 16000000 in
theorem cloneCat_any {w : World} {B n c : Nat} {A : Option Addr} {l : List Sv} (h : CatAt w B A n c l) :
    Calls Tryz.prog 36 #[.agg #[.slice A n c]] w fun e w' => ∃ v base, e = .returned (.agg #[v]) ∧ w.heap.size ≤ base ∧ OwnJ 89 2 svO w' base v l ∧ Below w.heap.size w w' := by
  have HLN : Hid (l.length = n) := Lib.hid h.rd.1
  have HN16 : Hid (n ≤ 16) := Lib.hid h.n16
  have HS := Lib.hid h.sm
  obtain ⟨W, HW⟩ : ∃ W, Hid (W = (w.alloc (.cells #[.slice A n c] 24)).alloc (.cells #[.slice none 0 0] 24)) := ⟨_, Lib.hid rfl⟩
  have hbW : Below w.heap.size w W := by rw [HW.out]; exact ((Below.refl _ w).alloc (Nat.le_refl _) _).alloc (by simp) _
  have HZ : Hid (W.heap.size = w.heap.size + 2) := Lib.hid (by rw [HW.out]; simp)
  have H0 : Hid (W.heap[w.heap.size]? = some (.cells #[.slice A n c] 24 (0, 0))) := Lib.hid (by
    rw [HW.out, Below.heap_alloc _ _ _ (by simp)]; exact heap_new w _)
  have H1 : Hid (W.heap[w.heap.size + 1]? = some (.cells #[.slice none 0 0] 24 (0, 0))) := Lib.hid (by
    rw [HW.out]
    have h := heap_new (w.alloc (.cells #[.slice A n c] 24)) (.cells #[.slice none 0 0] 24)
    rw [World.size_alloc] at h; exact h)
  have hA := h.below hbW
  have HB : Hid (B ≤ W.heap.size) := Lib.hid hA.le
  have HCL := Lib.hid (cloneSv_any (I' := svO) hA.rd hA.cap hA.le (by have := HN16.out; omega))
  have HBW := Lib.hid hbW
  clear h hbW hA
  obtain ⟨x0, _⟩ := row1f H0.out
  go_enter Tryz.func36, Tryz.ntmps36
  go_upto_region 1 with fail
  change Code.wp _ _ _ _ ((w.alloc (.cells #[.slice A n c] 24)).alloc (.cells #[.slice none 0 0] 24))
  rw [← HW.out]
  go_wp2_with fail
  refine HCL.out.mono ?_
  rintro e w1 ⟨v, rfl, hmix, hb⟩
  have HB1 := Lib.hid hb
  obtain ⟨A1, c1, hv⟩ := hmix.shape
  subst hv
  have HM1 := Lib.hid hmix
  clear hmix hb HCL x0
  rw [HLN.out]
  go_wp2_with fail
  go_loopw [4, 10] (fun _ vk wr => ∃ k : Nat, k ≤ n ∧ vk = .int .i64 (k : Int) ∧ Hid (Below W.heap.size W wr) ∧ Hid (MixJ 89 2 svI svO wr W.heap.size B (.slice A1 l.length c1) l k)) (fun _ vk _ => n - (intOf vk).toNat)
  case atStart => exact ⟨0, Nat.zero_le _, rfl, HB1, HM1⟩
  case round =>
    obtain ⟨wo, hwo⟩ : ∃ x, x = wr := ⟨_, rfl⟩
    subst hwo
    obtain ⟨k, hk, rfl, HBo, HM⟩ := hrel
    by_cases hkn : k < n
    · have hd : decide ((k : Int) < (n : Int)) = true := by simp; omega
      have hki : (k : Int) < (n : Int) := by omega
      have hk0 : (0 : Int) ≤ (k : Int) := by omega
      have hadd : IntKind.i64.wrap ((k : Int) + 1) = ((k + 1 : Nat) : Int) := by rw [IntWalk.i64_in _ (by have := HN16.out; omega)]; omega
      have HKL : Hid (k < l.length) := Lib.hid (by rw [HLN.out]; exact hkn)
      obtain ⟨g, c2, vs, hv2, hg1, hg2, hl1, hcell, hfz, hit⟩ := HM.out.at_ HKL.out (Nat.le_refl _)
      injection hv2 with e1 e2 e3
      subst e1 e3
      obtain ⟨Ai, ni, ci, rfl, hci, hri⟩ := hit.parts
      have p0 := hcell 1 _ rfl
      have HSC := Lib.hid (HS.out.2 _ (getD_mem HKL.out))
      obtain ⟨rls, HRLS⟩ : ∃ y, Hid ((l.getD k default).2 = y) := ⟨_, Lib.hid rfl⟩
      rw [HRLS.out] at hri
      have hBo : B ≤ wo.heap.size := Nat.le_trans HB.out HBo.out.size
      have HCM := Lib.hid (cloneReleases_any hri hci hBo (by rw [← HRLS.out]; exact ⟨HSC.out.2.1, HSC.out.2.2⟩))
      have HG := Lib.hid (And.intro hg1 hg2)
      clear hit hri hci hcell hl1 hBo
      go_wp2_with fail
      refine HCM.out.mono ?_
      rintro e w2 ⟨v2, rfl, hown2, hb2⟩
      have HO2 := Lib.hid hown2
      have HM2 := Lib.hid (HM.out.kept sv_turns svO_turns hb2)
      have HB2 : Hid (Below W.heap.size W w2) := Lib.hid (HBo.out.trans (hb2.mono HBo.out.size))
      have q0 : w2.cell? ⟨g, k * 2 + 1, none⟩ = some (.slice Ai ni ci) := (hb2.cell (p := ⟨g, k * 2 + 1, none⟩) hg2).trans p0
      have qf : w2.frozen? ⟨g, k * 2 + 1, none⟩ = false := (hb2.frozen (p := ⟨g, k * 2 + 1, none⟩) hg2).trans (hfz _)
      obtain ⟨A2, c2', hv3⟩ := HO2.out.shape
      subst hv3
      have HST : Hid (MixJ 89 2 svI svO (w2.setCell ⟨g, k * 2 + 1, none⟩ (.slice A2 rls.length c2')) W.heap.size B (.slice (some ⟨g, 0, none⟩) l.length c1) l (k + 1)) := Lib.hid (MixJ.store (i := 1) (u := .slice A2 rls.length c2') sv_turns svO_turns HM2.out HKL.out (by omega) HB.out HG.out.1 (fun us h1 h3 => by
          obtain ⟨Aq, nq, cq, rfl, _⟩ := h3.parts
          refine ⟨[.string (l.getD k default).1], [.slice A2 rls.length c2'], rfl, rfl, ?_⟩
          rw [HRLS.out]
          exact rsO_turns.go (HO2.out.itemO (M := Ap W.heap.size (.slice (some ⟨g, 0, none⟩) l.length c1)) reO_turns (fun b hb => .inl (by
            rcases hb with hb | hb
            · have h : some g = some b := hb
              injection h with h
              have := HG.out.2; omega
            · have := HBo.out.size; omega))) (FrM.of_grown (grown_set w2 g (k * 2 + 1) _) (fun g' hg' => by injection hg' with hg'; subst hg'; exact .inl rfl)) (fun b hb => .inl hb)))
      have HB5 := Lib.hid (HB2.out.setCell (p := ⟨g, k * 2 + 1, none⟩) HG.out.1 (.slice A2 rls.length c2'))
      clear hown2 hb2 p0 hfz HCM hg1 hg2
      go_wp2_with fail
      go_roundw
      case rel => exact ⟨k + 1, by omega, by go_num, HB5, HST⟩
      case measure => simp [intOf]; omega
    · have hd : decide ((k : Int) < (n : Int)) = false := by simp; omega
      obtain rfl : k = n := by omega
      have HOO : Hid (OwnJ 89 2 svO wo W.heap.size (.slice A1 l.length c1) l) := Lib.hid (MixJ.own (by rw [HLN.out]; have := HM.out; rw [HLN.out] at this; exact this))
      rw [HLN.out] at HOO
      have K1 : Hid (wo.heap[w.heap.size + 1]? = _) := Lib.hid ((HBo.out.block (w.heap.size + 1) (heapE_lt H1.out)).trans H1.out)
      obtain ⟨u0, uf⟩ := row1f K1.out
      have S1 : Hid ((wo.setCell ⟨w.heap.size + 1, 0, none⟩ (.slice A1 k c1)).heap[w.heap.size + 1]? = some (.cells #[.slice A1 k c1] 24 (0, 0))) := Lib.hid (heap_setCell_same wo (w.heap.size + 1) 0 _ _ (.slice A1 k c1) K1.out)
      have HOF := Lib.hid (HOO.out.turn svO_turns (grown_set wo (w.heap.size + 1) 0 (.slice A1 k c1)) (fun g hg => by injection hg with hg; have := HZ.out; omega))
      have HBF := Lib.hid ((HBW.out.trans (HBo.out.mono HBW.out.size)).setCell (p := ⟨w.heap.size + 1, 0, none⟩) (by show w.heap.size ≤ w.heap.size + 1; omega) (.slice A1 k c1))
      go_wp2_with fail
      refine bodyPost_ret (v := .agg #[.slice A1 k c1]) ?_ rfl ⟨.slice A1 k c1, W.heap.size, rfl, by have := HZ.out; omega, HOF.out, HBF.out⟩
      exact results_cell_row rfl _ _ (w.heap.size + 1) _ _ _ _ rfl S1.out Tryz.underlying24 rfl (by kernel_rfl)
end Go.Proofs.YtminihiecloglaaGreat
