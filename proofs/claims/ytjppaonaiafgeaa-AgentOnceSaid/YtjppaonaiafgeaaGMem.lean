/-
  WORDS FOR MEMORY: a slice of places (complex numbers of whole parts) that is only read, and one that the call itself made.
-/
import Derived.Test.YtjppaonaiafgeaaChecked
import Derived.Test.YtjppaonaiafgeaaGFlt
import Derived.WalkKit
import Derived.WalkSpells
import Derived.WalkSmall
import Derived.WalkLawsBesides
import Derived.Laws.Externs
import Derived.Below
import Derived.Laws.OwnMore
import Derived.Deep.AppendLies
import Derived.Deep.Draws
import Derived.Lib.Hide
import Derived.Maps.AppendAt
namespace Go.Proofs.Ytjppaonaiafgeaa
open Go.RowKit
open FlP
set_option linter.unusedVariables false

/-- A complex number of whole parts. -/
def cv (p : Int × Int) : Value := .complex .f64 (fl p.1) (fl p.2)
def GaP.at_ (zs : List (Int × Int)) (i : Nat) : Int × Int := zs.getD i (0, 0)

def RdC (w : World) (B : Nat) (A : Option Addr) (n : Nat) (zs : List (Int × Int)) : Prop :=
  zs.length = n ∧ (0 < n → ∃ b off, A = some ⟨b, off, none⟩ ∧ b < B ∧ ∀ j, j < n → w.cell? ⟨b, off + j, none⟩ = some (cv (GaP.at_ zs j)))
section
variable {w w' : World} {B B' n : Nat} {A : Option Addr} {zs : List (Int × Int)}
theorem RdC.len (h : RdC w B A n zs) : zs.length = n := h.1
theorem RdC.at_ {k : Nat} (h : RdC w B A n zs) (hk : k < n) : ∃ b off, A = some ⟨b, off, none⟩ ∧ b < B ∧ w.cell? ⟨b, off + k, none⟩ = some (cv (GaP.at_ zs k)) := by
  obtain ⟨b, off, e, hb, hc⟩ := h.2 (by omega)
  exact ⟨b, off, e, hb, hc k hk⟩
theorem RdC.keep (h : RdC w B A n zs) (hk : ∀ p : Addr, p.block < B → w'.cell? p = w.cell? p) : RdC w' B A n zs :=
  ⟨h.1, fun hn => by
    obtain ⟨b, off, e, hb, hc⟩ := h.2 hn
    exact ⟨b, off, e, hb, fun j hj => (hk _ hb).trans (hc j hj)⟩⟩
theorem RdC.below (h : RdC w B A n zs) (hb : Below B w w') : RdC w' B A n zs := h.keep fun _ hp => hb.cell hp
theorem RdC.more (h : RdC w B A n zs) (hB : B ≤ B') : RdC w B' A n zs :=
  ⟨h.1, fun hn => by
    obtain ⟨b, off, e, hb, hc⟩ := h.2 hn
    exact ⟨b, off, e, by omega, hc⟩⟩
theorem at_map (zs : List (Int × Int)) (j : Nat) (h : j < zs.length) : (zs.map cv)[j]? = some (cv (GaP.at_ zs j)) := by
  simp [GaP.at_, List.getD, h]
theorem RdC.of_own {base e c : Nat} (h : w.ownsRow base e 1 (.slice A n c) n (zs.map cv)) : RdC w w.heap.size A n zs := by
  have hl : zs.length = n := by simpa using h.1
  refine ⟨hl, fun hn => ?_⟩
  obtain ⟨g, cap, hv, _, hlt⟩ := h.form hn
  have hA : A = some ⟨g, 0, none⟩ := by injection hv
  subst hA
  refine ⟨g, 0, rfl, hlt, fun j hj => ?_⟩
  have h1 := h.cells (g := g) rfl j _ (at_map zs j (by omega))
  have h2 : (Addr.add ⟨g, 0, none⟩ j) = ⟨g, 0 + j, none⟩ := by
    unfold Addr.add
    by_cases h0 : j = 0 <;> simp [h0]
  rw [← h2]; exact h1
end
theorem infoCx : (Try.prog.info? 26).map (fun i => (i.zero, i.size, i.bytes)) = some (some (.complex .f64 0 0), 1, 16) := by kernel_rfl

def OwnC (w : World) (base : Nat) (v : Value) (n : Nat) (zs : List (Int × Int)) : Prop := w.ownsRow base 26 1 v n (zs.map cv)
section
variable {w w' : World} {base n c g : Nat} {v : Value} {zs : List (Int × Int)}
theorem OwnC.len (h : OwnC w base v n zs) : zs.length = n := by simpa using h.1
theorem OwnC.alloc (h : OwnC w base v n zs) (o : Obj) : OwnC (w.alloc o) base v n zs := World.ownsRow.alloc h o
theorem OwnC.drewN (h : OwnC w base v n zs) (k : Nat) : OwnC (w.drewN k) base v n zs := h
theorem OwnC.rd {A : Option Addr} (h : OwnC w base (.slice A n c) n zs) : RdC w w.heap.size A n zs := RdC.of_own h
theorem OwnC.form (h : OwnC w base v n zs) (hn : 0 < n) : ∃ g c, v = .slice (some ⟨g, 0, none⟩) n c ∧ base ≤ g ∧ g < w.heap.size := by
  obtain ⟨g, cap, hv, hb, hlt⟩ := World.ownsRow.form h hn
  exact ⟨g, cap, hv, hb, hlt⟩
theorem OwnC.lit (w : World) (base : Nat) (zs : List (Int × Int)) (hb : base ≤ w.heap.size) (hl : zs.length ≤ 1099511627776) :
    OwnC (w.alloc (.cells (zs.map cv).toArray 26)) base (.slice (some ⟨w.heap.size, 0, none⟩) zs.length zs.length) zs.length zs := by
  have := World.ownsRow_lit (base := base) (e := 26) (size := 1) w (zs.map cv).toArray zs.length hb (by unfold maxLen; omega) (by simp)
  simpa [OwnC] using this
theorem OwnC.ge (h : OwnC w base v n zs) : ∀ g, v.ownBlock = some g → base ≤ g := by
  intro g hg
  rcases h.2 with ⟨rfl, _⟩ | ⟨g', cap, cur, rfl, hb, _⟩
  · cases hg
  · have : g' = g := by simpa [Value.ownBlock] using hg
    omega
theorem at_append_lt {xs ys : List (Int × Int)} {k : Nat} (h : k < xs.length) : GaP.at_ (xs ++ ys) k = GaP.at_ xs k := by
  unfold GaP.at_; simp [List.getD, List.getElem?_append_left h]
theorem at_snoc (xs : List (Int × Int)) (u : Int × Int) : GaP.at_ (xs ++ [u]) xs.length = u := by unfold GaP.at_; simp
end

/-- 'append(s, z)', s the call's own: s grows by one. -/
theorem wpl_appC {w : World} {ops : Array Oper} {rest : List Oper} {o : Oper} {a : Act} {Q : Exit → Act → World → Prop} (hgd : o.guard = none) (s x : Operand)
    (ho : o.op = .call { callee := .builtin .append, args := #[s, x], argTypes := #[27, 27] })
    (base : Nat) (v : Value) (n : Nat) (xs : List (Int × Int)) (hs : a.eval s = v) (hown : OwnC w base v n xs)
    (b : Nat) (u : Int × Int) (hx : a.eval x = .slice (some ⟨b, 0, none⟩) 1 1) (hc : w.cell? ⟨b, 0, none⟩ = some (cv u)) (hn : n ≤ 1099511627776) (hbase : base ≤ w.heap.size)
    (h : ∀ g c w', OwnC w' base (.slice (some ⟨g, 0, none⟩) (n + 1) c) (n + 1) (xs ++ [u]) → base ≤ g → w.grownBy w' v.ownBlock → (v.ownBlock = some g ∨ g = w.heap.size) → wpList Try.prog ops Q rest (a.put o.dst (.slice (some ⟨g, 0, none⟩) (n + 1) c)) w') :
    wpList Try.prog ops Q (o :: rest) a w := by
  obtain ⟨i0, hi, hz0, hz1, hz2⟩ := info_parts infoCx
  refine wpList_append_own_at w hgd s x 27 ho base 26 i0 (.complex .f64 0 0) 1 16 Try.underlying27 hi hz0 hz1 hz2 rfl (by decide) v n _ hs hown ⟨b, 0, none⟩ 1 1 [cv u] hx rfl ?_ ?_ (by unfold maxLen; omega) (by omega) hbase ?_
  · intro j z hj
    match j, hj with
    | 0, hj => simp at hj; subst hj; simpa [Addr.add] using hc
  · intro z hz; simp at hz; subst hz; rfl
  · intro v' w' hown' hg _ hat
    have ho' : OwnC w' base v' (n + 1) (xs ++ [u]) := by unfold OwnC; rw [List.map_append]; exact hown'
    obtain ⟨g, c, rfl, hbg, _⟩ := ho'.form (by omega)
    exact h g c w' ho' hbg hg (by
      rcases hat with h | h
      · exact .inl h.symm
      · right; have : some g = some w.heap.size := h; injection this)
end Go.Proofs.Ytjppaonaiafgeaa
