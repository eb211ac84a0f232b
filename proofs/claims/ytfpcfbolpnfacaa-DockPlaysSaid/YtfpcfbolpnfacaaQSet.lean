/-
  WORDS FOR MEMORY: stores into a file of the twin; the twin whose row is its own.
-/
import Derived.Test.YtfpcfbolpnfacaaQApp
namespace Go.Proofs.Ytfpcfbolpnfacaa
open Go.RowKit
open ByteP
set_option linter.unusedVariables false
set_option maxRecDepth 10000
/-- The i-th file with other bytes, with another safe. -/
def putB (L : List TF) (i : Nat) (P : Option Addr) (n c : Nat) (bs : List Int) : List TF := L.set i { tfAt L i with P := P, n := n, c := c, bs := bs }
def putS (L : List TF) (i : Nat) (s : Nat) : List TF := L.set i { tfAt L i with s := s }
theorem fcells_setB : ∀ (L : List TF) (i : Nat) (P : Option Addr) (n c : Nat) (bs : List Int), fcells (putB L i P n c bs) = (fcells L).set (i * 3 + 1) (.slice P n c)
  | [], i, P, n, c, bs => rfl
  | x :: r, 0, P, n, c, bs => rfl
  | x :: r, i + 1, P, n, c, bs => by
    have ih := fcells_setB r i P n c bs
    show fcells (x :: r.set i { tfAt (x :: r) (i + 1) with P := P, n := n, c := c, bs := bs }) = _
    have e : tfAt (x :: r) (i + 1) = tfAt r i := rfl
    rw [e, show (i + 1) * 3 + 1 = i * 3 + 1 + 1 + 1 + 1 by omega]
    show _ :: _ :: _ :: fcells (putB r i P n c bs) = _
    rw [ih]
    rfl
theorem fcells_setS : ∀ (L : List TF) (i s : Nat), fcells (putS L i s) = (fcells L).set (i * 3 + 2) (.int .i64 (s : Int))
  | [], i, s => rfl
  | x :: r, 0, s => rfl
  | x :: r, i + 1, s => by
    have ih := fcells_setS r i s
    show fcells (x :: r.set i { tfAt (x :: r) (i + 1) with s := s }) = _
    have e : tfAt (x :: r) (i + 1) = tfAt r i := rfl
    rw [e, show (i + 1) * 3 + 2 = i * 3 + 2 + 1 + 1 + 1 by omega]
    show _ :: _ :: _ :: fcells (putS r i s) = _
    rw [ih]
    rfl
section
variable {w w' : World} {base c g : Nat} {L : List TF}
theorem putB_len (L : List TF) (i : Nat) (P : Option Addr) (n c : Nat) (bs : List Int) : (putB L i P n c bs).length = L.length := List.length_set
theorem putS_len (L : List TF) (i s : Nat) : (putS L i s).length = L.length := List.length_set
theorem OwnF.setB (h : OwnF w base (.slice (some ⟨g, 0, none⟩) L.length c) L) (i : Nat) (P : Option Addr) (n c' : Nat) (bs : List Int) : OwnF (w.setCell ⟨g, i * 3 + 1, none⟩ (.slice P n c')) base (.slice (some ⟨g, 0, none⟩) L.length c) (putB L i P n c' bs) := by
  have := (World.ownsRow.stored h (i * 3 + 1) (.slice P n c')).1
  unfold OwnF
  rw [fcells_setB, putB_len]
  exact this
theorem OwnF.setS (h : OwnF w base (.slice (some ⟨g, 0, none⟩) L.length c) L) (i s : Nat) : OwnF (w.setCell ⟨g, i * 3 + 2, none⟩ (.int .i64 (s : Int))) base (.slice (some ⟨g, 0, none⟩) L.length c) (putS L i s) := by
  have := (World.ownsRow.stored h (i * 3 + 2) (.int .i64 (s : Int))).1
  unfold OwnF
  rw [fcells_setS, putS_len]
  exact this
theorem OwnF.fz (h : OwnF w base (.slice (some ⟨g, 0, none⟩) L.length c) L) (j : Nat) : w.frozen? ⟨g, j, none⟩ = false := World.ownsRow.frozenAt h j
end
/-- The twin, its row its own, made behind B0. -/
structure TnO (w : World) (B0 tb : Nat) (A : Option Addr) (c : Nat) (n : TN) (L : List TF) : Prop where
  cells : w.heap[tb]? = some (.cells (tcells A L.length c n) 29 (0, 0))
  own : OwnF w B0 (.slice A L.length c) L
  ne : ∀ g, (Value.slice A L.length c).ownBlock = some g → g ≠ tb
theorem TnO.tn {w : World} {B0 tb c : Nat} {A : Option Addr} {n : TN} {L : List TF} (h : TnO w B0 tb A c n L) : Tn w tb A c n L := ⟨h.cells, fun i hi => by
  obtain ⟨g, cap, hv, _, hlt⟩ := World.ownsRow.form h.own (by omega)
  injection hv with h1 h2 h3
  have hne := h.ne
  have hown := h.own
  subst h1
  obtain ⟨c0, c1, c2⟩ := fcells_get L i hi
  have k0 := World.ownsRow.cells hown (g := g) rfl _ _ c0
  have k1 := World.ownsRow.cells hown (g := g) rfl _ _ c1
  have k2 := World.ownsRow.cells hown (g := g) rfl _ _ c2
  rw [addr_addF, Nat.zero_add] at k0 k1 k2
  exact ⟨g, rfl, hne g rfl, k0, k1, k2⟩⟩
end Go.Proofs.Ytfpcfbolpnfacaa
