/-
 WORDS FOR MEMORY: what stores into a few blocks of numbers leave.
-/
import Derived.Test.YtolgmoaoheflcaaGCp
namespace Go.Proofs.Ytolgmoaoheflcaa.Sa
open Go.RowKit
open DiP
set_option linter.unusedVariables false
set_option linter.unusedSimpArgs false
set_option maxRecDepth 10000
structure Upd (lo hi rb : Nat) (X Y : World) : Prop where
 os : Y.os = X.os
 tape : Y.tape = X.tape
 output : Y.output = X.output
 size : Y.heap.size = X.heap.size
 blk : ∀ g, (g < lo ∨ hi ≤ g ∨ g = rb) → Y.heap[g]? = X.heap[g]?
 cel : ∀ p : Addr, (∃ u, X.cell? p = some u) → ∃ u, Y.cell? p = some u
 frz : ∀ p : Addr, Y.frozen? p = X.frozen? p
section
variable {lo hi rb : Nat} {X Y : World}
theorem Upd.refl (lo hi rb : Nat) (X : World) : Upd lo hi rb X X := ⟨rfl, rfl, rfl, rfl, fun _ _ => rfl, fun _ h => h, fun _ => rfl⟩
theorem Upd.set (h : Upd lo hi rb X Y) {b o : Nat} (h1 : lo ≤ b) (h2 : b < hi) (h3 : b ≠ rb) (u : Value) : Upd lo hi rb X (Y.setCell ⟨b, o, none⟩ u) :=
 ⟨h.os, h.tape, h.output, by rw [World.size_setCell]; exact h.size, fun g hg => (Below.heap_setCell _ _ _ g (by show g ≠ b; omega)).trans (h.blk g hg), fun p hp => by
  obtain ⟨r, hr⟩ := h.cel p hp
  by_cases e : p = ⟨b, o, none⟩
  ·subst e; exact ⟨u, World.cell?_setCell_same _ _ _ hr⟩
  ·exact ⟨r, by rw [World.cell?_setCell_other _ _ _ _ (Ne.symm e)]; exact hr⟩, fun p => by rw [World.frozen?_setCell]; exact h.frz p⟩
theorem Upd.below {w : World} {B : Nat} (h : Upd lo hi rb X Y) (hb : Below B w X) (hl : B ≤ lo) : Below B w Y := ⟨h.os.trans hb.os, h.tape.trans hb.tape, h.output.trans hb.output, by rw [h.size]; exact hb.size, fun g hg => (h.blk g (.inl (by omega))).trans (hb.block g hg)⟩
theorem Upd.fresh {l z n : Nat} {A : Option Addr} (h : Upd lo hi rb X Y) (hf : FreshS X l z A n) : FreshS Y l z A n := fun h0 => by
 obtain ⟨b, off, e, h1, h2, hj⟩ := hf h0
 exact ⟨b, off, e, h1, by rw [h.size]; exact h2, fun j hjn => ⟨h.cel _ (hj j hjn).1, (h.frz _).trans (hj j hjn).2⟩⟩
theorem OwnF.upd {α : Type} {E : TypeId} {z : Nat} {f : α → List Value} {base : Nat} {v : Value} {l : List α} (h : OwnF E z f X base v l) (hu : Upd lo hi rb X Y) (hh : hi ≤ base) : OwnF E z f Y base v l := by
 refine ⟨h.1, ?_⟩
 rcases h.2 with h | ⟨g, cap, cur, hv, hbg, hx, r⟩
 ·exact .inl h
 ·exact .inr ⟨g, cap, cur, hv, hbg, (hu.blk g (.inr (.inl (by omega)))).trans hx, r⟩
variable {base : Nat} {num ph : Int} {AF AT AS AE AO AD : Option Addr} {nF nT nS nE nO nD cF cT cS cE cO cD : Nat} {s : StV} {p : PlV}
theorem PlO.upd (h : PlO X base AF nF cF AT nT cT AS nS cS AE nE cE p) (hu : Upd lo hi rb X Y) (hh : hi ≤ base) : PlO Y base AF nF cF AT nT cT AS nS cS AE nE cE p := ⟨h.fs.upd hu hh, h.ts.upd hu hh, h.S.upd hu hh, h.E.upd hu hh, h.sz⟩
theorem StO.upd (h : StO X base num ph AF nF cF AT nT cT AS nS cS AE nE cE AO nO cO AD nD cD s) (hu : Upd lo hi rb X Y) (hh : hi ≤ base) : StO Y base num ph AF nF cF AT nT cT AS nS cS AE nE cE AO nO cO AD nD cD s := ⟨h.pl.upd hu hh, h.op.upd hu hh, h.dn.upd hu hh, h.num, h.ph⟩
theorem FreshS.keep {l z n : Nat} {A : Option Addr} (hf : FreshS X l z A n) (hb : Below X.heap.size X Y) : FreshS Y l z A n := fun h0 => by
 obtain ⟨b, off, e, h1, h2, hj⟩ := hf h0
 exact ⟨b, off, e, h1, Nat.lt_of_lt_of_le h2 hb.size, fun j hjn => ⟨by
  obtain ⟨u, hu⟩ := (hj j hjn).1
  exact ⟨u, (hb.cell (p := ⟨b, off + j, none⟩) h2).trans hu⟩, by
  have e2 := hb.block b h2
  have := (hj j hjn).2
  simp only [World.frozen?] at this ⊢
  rw [e2]; exact this⟩⟩
/-- A store into a row that may be written. -/
theorem FreshS.go {w0 Z1 Z : World} {l z n i d : Nat} {A : Option Addr} (hf : FreshS w0 l z A n) (hb : Below w0.heap.size w0 Z1) (hu : Upd lo hi rb Z1 Z) (hlo : lo ≤ l) (hhi : w0.heap.size ≤ hi) (hrb : w0.heap.size ≤ rb ∨ rb < l) (h0 : i < n) (hd : d < z) (v : Value) :
  ∃ b off u, A = some ⟨b, off, none⟩ ∧ Z.cell? ⟨b, off + (i * z + d), none⟩ = some u ∧ Z.frozen? ⟨b, off + (i * z + d), none⟩ = false ∧ Upd lo hi rb Z1 (Z.setCell ⟨b, off + (i * z + d), none⟩ v) := by
 have hj : i * z + d < n * z := by
  have h1 : (i + 1) * z ≤ n * z := Nat.mul_le_mul_right z h0
  rw [Nat.succ_mul] at h1
  omega
 obtain ⟨b, off, e, h1, h2, _⟩ := hf (by omega)
 obtain ⟨b', off', e', _, _, hc⟩ := (hu.fresh (hf.keep hb)) (by omega)
 rw [e] at e'
 injection e' with e'
 injection e' with e1 e2 _
 subst e1 e2
 obtain ⟨⟨u, hu1⟩, hf1⟩ := hc _ hj
 exact ⟨b, off, u, e, hu1, hf1, hu.set (by omega) (by omega) (by omega) v⟩
end
end Go.Proofs.Ytolgmoaoheflcaa.Sa
