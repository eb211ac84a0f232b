/-
  THE STATEMENT 'WalLasts' IS PROVED: whatever its arguments, the call returns true, and each argument reads behind it as it did before; no condition.
  (The walk itself is in the imported texts.)
-/
import Derived.Test.YtadajkgiijpakaaRows
import Derived.Test.YtadajkgiijpakaaWOpO
import Derived.Test.YtadajkgiijpakaaWLas
import Derived.WalkKit
import Derived.ProofKit
import Derived.OpenShut
import Derived.ShutString
import Derived.ChangeOld
import Derived.Below
namespace Go.Proofs.Ytadajkgiijpakaa.walLasts
open Go.ChangeShapes Go.WideShapes Go.ChangeAt Go.RowKit
open Go.ChangeMaps (open_string shut_string)
set_option linter.unusedVariables false

theorem own : ownKnob Try.prog.godebug = none := by kernel_rfl
theorem laidOut : laidOutB Try.prog = true := by kernel_rfl

section
open ByteP Go.Deep
variable {H : Type} {enc : TypeId × Value → H} {w : World} {held : Bool}
theorem open_numsK {fuel : Nat} {v : Value} {x : DataW H × List MemPlace} (h : DataW.trod enc Try.prog w 0 (fun _ => true) held fuel 31 [v] = some x) :
    ∃ (A : Option Addr) (n c : Nat) (zs : List Int), v = .slice A n c ∧ Rd w w.heap.size A n zs ∧ n ≤ 9223372036854775807 := by
  rcases open_ints Try.underlying31 Try.underlying3 (by kernel_rfl) h with ⟨hcs, _⟩ | ⟨x, l, c, zs, hcs, _, hl, hm, hz, _, hcell, hwz⟩
  · simp at hcs
    exact ⟨none, 0, 0, [], hcs, Rd.nil_, by omega⟩
  · simp at hcs
    have hr := rd_of_row (w := w) (a := some x) (len := l) (cap := c) (zs := zs) (.inr ⟨x, rfl, hl, hm, by simpa using hz, hcell, hwz⟩)
    exact ⟨some x, l, c, zs.take l, hcs, hr.1, hr.2⟩

set_option maxRecDepth 20000 in
theorem open_opsK {fuel : Nat} {v : Value} {x : DataW H × List MemPlace} (h : DataW.trod enc Try.prog w 0 (fun _ => true) held fuel 51 [v] = some x) :
    ∃ (A : Option Addr) (m c : Nat) (o : Nat → OpV), v = .slice A m c ∧ RdO w w.heap.size A m o ∧ m ≤ 9223372036854775807 ∧ ∀ j, j < m → (o j).kn ≤ 9223372036854775807 := by
  rcases open_slice Try.underlying51 h with ⟨h0, _⟩ | ⟨a, len, cap, m, n, D, Pl, h0, hb, hl, hm, hmm, _, hx⟩
  · simp at h0
    exact ⟨none, 0, 0, fun _ => ⟨0, none, 0, 0, [], none, 0, 0, []⟩, h0, fun j hj => absurd hj (by omega), by omega, fun j hj => absurd hj (by omega)⟩
  · simp at h0
    have hlm : len ≤ m := by rw [hmm]; split <;> omega
    have each : ∀ i, i < len → ∃ v : OpV, w.cell? (a.add (i * 3)) = some (.int .i64 v.kind) ∧ w.cell? (a.add (i * 3 + 1)) = some (.slice v.dA v.dn v.dc) ∧ w.cell? (a.add (i * 3 + 2)) = some (.slice v.kA v.kn v.kc) ∧
        RdY w w.heap.size v.dA v.dn v.ds ∧ Bytes v.ds ∧ Rd w w.heap.size v.kA v.kn v.ks ∧ v.kn ≤ 9223372036854775807 := by
      intro i hi
      obtain ⟨cs', h1, h2⟩ := hx i (by omega)
      rw [cells_op] at h1
      obtain ⟨_, hlen, hcell⟩ := World.cells?_some h1
      obtain ⟨n', kd, v3, v4, y3, y4, rfl, t3, t4⟩ := open_op h2
      obtain ⟨dA, dn, dc, ds, rfl, hdy, hdb⟩ := open_bytes t3
      obtain ⟨kA, kn, kc, ks, rfl, hks, hkn⟩ := open_numsK t4
      have e0 := hcell 0 (by omega)
      have e3 := hcell 1 (by omega)
      have e4 := hcell 2 (by omega)
      rw [add_add5] at e0 e3 e4
      exact ⟨⟨kd, dA, dn, dc, ds, kA, kn, kc, ks⟩, by simpa using e0, by simpa using e3, by simpa using e4, hdy, hdb, hks, hkn⟩
    have inh : Inhabited OpV := ⟨⟨0, none, 0, 0, [], none, 0, 0, []⟩⟩
    obtain ⟨q, hq⟩ := choose_lt each
    refine ⟨some a, len, cap, q, h0, fun j hj => ?_, by unfold maxLen at hm; omega, fun j hj => (hq j hj).2.2.2.2.2.2⟩
    obtain ⟨c0, c3, c4, h7, h8, h9, _⟩ := hq j hj
    have c00 := (hq 0 (by omega)).1
    obtain ⟨b, off, spot⟩ := a
    have hspot : spot = none := by simpa [Addr.add] using World.cell?_spot c00
    subst hspot
    have hbl : b < w.heap.size := by
      have := block_lt_of_cell c00
      simpa [Addr.add] using this
    have e : ∀ k, (Addr.add ⟨b, off, none⟩ k) = ⟨b, off + k, none⟩ := by
      intro k
      unfold Addr.add
      by_cases h0 : k = 0 <;> simp [h0]
    rw [e] at c0 c3 c4
    exact ⟨b, off, rfl, hbl, c0, by rw [Nat.add_assoc]; exact c3, by rw [Nat.add_assoc]; exact c4, h7, h8, h9⟩
end
/-- A slice of numbers that came in. -/
def IsRow (k : IntKind) (w : World) (a : Option Addr) (len cap : Nat) (zs : List Int) : Prop :=
  (a = none ∧ len = 0 ∧ cap = 0 ∧ zs = []) ∨
  ∃ x, a = some x ∧ len ≤ cap ∧ cap ≤ maxLen ∧ zs.length = cap ∧ (∀ i, i < zs.length → w.cell? (x.add i) = some (.int k (zs.getD i 0))) ∧ ∀ n ∈ zs, (Lit.int k n).wf = true

theorem walk (a0 : Option Addr) (len0 cap0 : Nat) (z0 : List Int) (a1 : Option Addr) (m1 c1 : Nat) (o1 : Nat → OpV) (w : World) (w0 : IsRow .i64 w a0 len0 cap0 z0) (w1 : RdO w w.heap.size a1 m1 o1 ∧ m1 ≤ 9223372036854775807 ∧ ∀ j, j < m1 → (o1 j).kn ≤ 9223372036854775807) :
    Calls Try.prog 5 #[.slice a0 len0 cap0, .slice a1 m1 c1] w fun e w' => e = .returned (.bool true) ∧ Below w.heap.size w w' := by
  exact law_lasts (rd_of_row w0).1 (rd_of_row w0).2 (row_bd w0) w1.1 w1.2.1 w1.2.2

set_option maxRecDepth 100000 in
theorem lifted (os : Os) (started : os.Started) (H : Type) (enc : TypeId × Value → H) :
    ReturnsInHanded {} Try.checked os 5 .any (Rows.walLastsSpec.pre6 enc Try.prog Try.f5 Rows.walLastsRow.domain false) (Rows.walLastsSpec.post enc Try.prog Try.f5 false true false false) := by
  refine returnsInHanded_of_change (C := Try.checked) own started (by kernel_rfl) Try.func5
    (ChangeSpec.witness6 (enc := enc) (C := Try.checked) false ⟨#[], #[.slice none 0 0, .slice none 0 0], []⟩ 8 (by kernel_rfl) (by kernel_rfl) (by kernel_rfl) (by kernel_rfl)) ?_
  intro W base args ds gs before hval0 hW hcnd _
  have hval : ∀ (j : Nat) t v, Try.f5.params[j]? = some t → args[j]? = some v → Value.okWide Try.prog W .any base t v := hval0
  have hW' := hW
  obtain ⟨p, q, hA0, hV, rfl, hfz, hnd⟩ := hW
  have hA : DataW.TrodAll enc Try.prog W 0 (fun _ => true) true Try.f5.params.toList args.toList ds p := hA0
  rw [Try.params5] at hA hval
  obtain ⟨v0, vs0, d0, ds0, p0, q0, hargs, rfl, rfl, h0, r0⟩ := trodAll_cons hA
  obtain ⟨v1, vs1, d1, ds1, p1, q1, rfl, rfl, rfl, h1, r1⟩ := trodAll_cons r0
  obtain ⟨rfl, rfl, rfl⟩ := trodAll_nil r1
  obtain rfl : args = #[v0, v1] := by cases args; simp_all
  obtain ⟨rfl, rfl⟩ := trodVars_none hV
  obtain ⟨a0, len0, cap0, rfl⟩ := okWide_slice Try.underlying31 (hval 0 31 v0 rfl rfl)
  have k0 := h0
  have lt0 : ∀ x ∈ p0, x.block < W.heap.size := by obtain ⟨m, hm⟩ := k0; exact DataW.trod_lt m _ _ _ hm
  obtain ⟨z0, w0⟩ : ∃ zs, IsRow .i64 W a0 len0 cap0 zs := by
    obtain ⟨fuel, hf⟩ := h0
    rcases open_ints Try.underlying31 Try.underlying3 (by kernel_rfl) hf with ⟨hcs, _⟩ | ⟨x, l, c, zs, hcs, _, hl, hm, hz, _, hcell, hwz⟩
    · simp [Value.cells] at hcs
      obtain ⟨rfl, rfl, rfl⟩ := hcs
      exact ⟨[], .inl ⟨rfl, rfl, rfl, rfl⟩⟩
    · simp [Value.cells] at hcs
      obtain ⟨rfl, rfl, rfl⟩ := hcs
      exact ⟨zs, .inr ⟨_, rfl, hl, hm, by simpa using hz, hcell, hwz⟩⟩
  obtain ⟨a1, m1, c1, rfl⟩ := okWide_slice Try.underlying51 (hval 1 51 v1 rfl rfl)
  have k1 := h1
  have lt1 : ∀ x ∈ p1, x.block < W.heap.size := by obtain ⟨m, hm⟩ := k1; exact DataW.trod_lt m _ _ _ hm
  obtain ⟨o1, w1⟩ : ∃ o, RdO W W.heap.size a1 m1 o ∧ m1 ≤ 9223372036854775807 ∧ ∀ j, j < m1 → (o j).kn ≤ 9223372036854775807 := by
    obtain ⟨fuel, hf⟩ := h1
    obtain ⟨A', m', c', o, e, hr, hm, hk⟩ := open_opsK (v := .slice a1 m1 c1) (by simpa [Value.cells] using hf)
    injection e with e1 e2 e3
    subst e1 e2 e3
    exact ⟨o, hr, hm, hk⟩
  clear hA0 hval0
  refine (walk a0 len0 cap0 z0 a1 m1 c1 o1 W w0 w1).mono fun e W' ⟨he, bel⟩ => ?_
  subst he
  exact ⟨_, rfl, _, _, _, [], _, [], hW', trodAll_mk1 (shut_bool Try.underlying4 _), (trodAll_cons_mk (Below.trod laidOut (by kernel_rfl) (of_decide_eq_true (by kernel_rfl)) k0 bel lt0) (trodAll_cons_mk (Below.trod laidOut (by kernel_rfl) (of_decide_eq_true (by kernel_rfl)) k1 bel lt1) trodAll_mk0)), rfl, bel.frame _, fun h => by cases h⟩

theorem over : Rows.walLastsRow.holds Try.pinned (OpenSpec.ofChange Rows.walLastsSpec) :=
  OpenClaim.holds_of_wide 5 Try.f5 rfl rfl rfl rfl rfl rfl rfl ⟨rfl, rfl, rfl, rfl, rfl⟩ rfl rfl rfl rfl rfl (by kernel_rfl) Try.func5 (by kernel_rfl)
    (of_decide_eq_true (by kernel_rfl)) (by unfold Func.isWrapper; first | (rw [if_pos (by decide +kernel)]; kernel_rfl) | (rw [if_neg (by decide +kernel)]; exact ⟨rfl, rfl⟩))
    (fun os started H enc _ => lifted os started H enc)

/-- The statement. -/
theorem proved : Rows.WalLastsSaid := over
end Go.Proofs.Ytadajkgiijpakaa.walLasts
namespace Go.Proofs.Ytadajkgiijpakaa
theorem walLasts_holds : Rows.WalLastsSaid := walLasts.proved
#print axioms walLasts_holds
end Go.Proofs.Ytadajkgiijpakaa
