/-
  WORDS FOR MEMORY: a list of pairs of numbers (edges) that is only read.
-/
import Derived.Test.YtfcabdgidlnljaaDoorChecked
import Derived.WalkKit
import Derived.WalkSpells
import Derived.WalkSmall
import Derived.Below
import Derived.Laws.OwnMore
import Derived.Deep.AppendLies
import Derived.Deep.Draws
import Derived.Lib.Hide
import Derived.Maps.AppendAt
namespace Go.Proofs.YtfcabdgidlnljaaDoor
open Go.RowKit

/-- The k-th edge's ends. -/
def ea (es : List (Int × Int)) (k : Nat) : Int := (es.getD k (0, 0)).1
def eb (es : List (Int × Int)) (k : Nat) : Int := (es.getD k (0, 0)).2

/-- A slice of m pairs reads, in w, as es; it lies below block B. -/
def RdE (w : World) (B : Nat) (A : Option Addr) (m : Nat) (es : List (Int × Int)) : Prop :=
  es.length = m ∧ (0 < m → ∃ b off, A = some ⟨b, off, none⟩ ∧ b < B ∧ ∀ j, j < m → w.cell? ⟨b, off + j * 2, none⟩ = some (.int .i64 (ea es j)) ∧ w.cell? ⟨b, off + j * 2 + 1, none⟩ = some (.int .i64 (eb es j)))

section
variable {w w' : World} {B B' m : Nat} {A : Option Addr} {es : List (Int × Int)}
theorem RdE.at_ {k : Nat} (h : RdE w B A m es) (hk : k < m) :
    ∃ b off, A = some ⟨b, off, none⟩ ∧ b < B ∧ w.cell? ⟨b, off + k * 2, none⟩ = some (.int .i64 (ea es k)) ∧ w.cell? ⟨b, off + k * 2 + 1, none⟩ = some (.int .i64 (eb es k)) := by
  obtain ⟨b, off, e, hb, hc⟩ := h.2 (by omega)
  exact ⟨b, off, e, hb, hc k hk⟩
theorem RdE.keep (h : RdE w B A m es) (hk : ∀ p : Addr, p.block < B → w'.cell? p = w.cell? p) : RdE w' B A m es :=
  ⟨h.1, fun hn => by
    obtain ⟨b, off, e, hb, hc⟩ := h.2 hn
    exact ⟨b, off, e, hb, fun j hj => ⟨(hk _ hb).trans (hc j hj).1, (hk _ hb).trans (hc j hj).2⟩⟩⟩
theorem RdE.more (h : RdE w B A m es) (hB : B ≤ B') : RdE w B' A m es :=
  ⟨h.1, fun hn => by
    obtain ⟨b, off, e, hb, hc⟩ := h.2 hn
    exact ⟨b, off, e, by omega, hc⟩⟩
theorem RdE.below (h : RdE w B A m es) (hb : Below B w w') : RdE w' B A m es := h.keep fun _ hp => hb.cell hp
theorem RdE.drewN (h : RdE w B A m es) (k : Nat) : RdE (w.drewN k) B A m es := h
theorem RdE.alloc (h : RdE w B A m es) (hB : B ≤ w.heap.size) (o : Obj) : RdE (w.alloc o) B A m es := h.keep fun p hp => World.cell?_alloc_lt w o p (by omega)
end
theorem below_drewN {B : Nat} {a w : World} (h : Below B a w) (k : Nat) : Below B a (w.drewN k) := ⟨h.os, h.tape, h.output, h.size, h.block⟩
end Go.Proofs.YtfcabdgidlnljaaDoor
