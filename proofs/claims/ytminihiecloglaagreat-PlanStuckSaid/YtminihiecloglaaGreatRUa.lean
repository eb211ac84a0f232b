/-
 MERGED: RTil RUp.
-/
import Derived.Test.YtminihiecloglaaGreatRPa
import Derived.Test.YtminihiecloglaaGreatREa
import Derived.Test.YtminihiecloglaaGreatRHb
import Derived.Test.YtminihiecloglaaGreatSRefK
import Derived.Test.YtminihiecloglaaGreatInv
import Derived.Laws.OwnMore
import Derived.Maps.AppendAt
import Derived.KernelRfl
import Derived.Deep.DeepCutAuto
set_option linter.unusedVariables false
set_option linter.unusedSimpArgs false
namespace Go.Proofs.YtminihiecloglaaGreat
open Go.RowKit
open SemP
set_option maxRecDepth 100000
def sgL : List Str := [[42], [61], [60], [60, 61], [62], [62, 61], [94], [126]]
abbrev sg (i : Nat) : Str := sgL.getD i []
def SignsAt (w : World) : Prop := ∀ i, i < 8 → w.cell? ⟨0, i, none⟩ = some (.string (mk (sg i)))
theorem SignsAt.below {w w' : World} {B : Nat} (h : SignsAt w) (hb : Below B w w') (hB : 0 < B) : SignsAt w' := fun i hi => (hb.cell (p := ⟨0, i, none⟩) hB).trans (h i hi)
end Go.Proofs.YtminihiecloglaaGreat
namespace Go.Proofs.YtminihiecloglaaGreat
open Go.RowKit
open SemP
set_option maxRecDepth 100000
structure At5 (w : World) (g : Nat) (op a b c : Int) (s : ByteArray) : Prop where
 c0 : w.cell? ⟨g, 0, none⟩ = some (.int .i64 op)
 c1 : w.cell? ⟨g, 1, none⟩ = some (.int .i64 a)
 c2 : w.cell? ⟨g, 2, none⟩ = some (.int .i64 b)
 c3 : w.cell? ⟨g, 3, none⟩ = some (.int .i64 c)
 c4 : w.cell? ⟨g, 4, none⟩ = some (.string s)
 f0 : w.frozen? ⟨g, 0, none⟩ = false
 f1 : w.frozen? ⟨g, 1, none⟩ = false
 f2 : w.frozen? ⟨g, 2, none⟩ = false
 f3 : w.frozen? ⟨g, 3, none⟩ = false
 f4 : w.frozen? ⟨g, 4, none⟩ = false
def set5 (w : World) (g : Nat) (op a b c : Int) (s : ByteArray) : World := ((((w.setCell ⟨g, 0, none⟩ (.int .i64 op)).setCell ⟨g, 1, none⟩ (.int .i64 a)).setCell ⟨g, 2, none⟩ (.int .i64 b)).setCell ⟨g, 3, none⟩ (.int .i64 c)).setCell ⟨g, 4, none⟩ (.string s)
theorem At5.of_heap {w : World} {g : Nat} {op a b c : Int} {s : ByteArray} {T : TypeId} (h : w.heap[g]? = some (.cells #[.int .i64 op, .int .i64 a, .int .i64 b, .int .i64 c, .string s] T (0, 0))) : At5 w g op a b c s := by
 obtain ⟨x0, x1, x2, x3, x4⟩ := cells5 h
 exact ⟨x0, x1, x2, x3, x4, by simp only [World.frozen?, h]; rfl, by simp only [World.frozen?, h]; rfl, by simp only [World.frozen?, h]; rfl, by simp only [World.frozen?, h]; rfl, by simp only [World.frozen?, h]; rfl⟩
theorem At5.block {w w' : World} {g : Nat} {op a b c : Int} {s : ByteArray} (h : At5 w g op a b c s) (hb : w'.heap[g]? = w.heap[g]?) : At5 w' g op a b c s :=
 ⟨(World.cell?_of_block hb).trans h.c0, (World.cell?_of_block hb).trans h.c1, (World.cell?_of_block hb).trans h.c2, (World.cell?_of_block hb).trans h.c3, (World.cell?_of_block hb).trans h.c4,
  (World.frozen?_of_block hb).trans h.f0, (World.frozen?_of_block hb).trans h.f1, (World.frozen?_of_block hb).trans h.f2, (World.frozen?_of_block hb).trans h.f3, (World.frozen?_of_block hb).trans h.f4⟩
theorem cset_same {w : World} {g i : Nat} {u v : Value} (h : w.cell? ⟨g, i, none⟩ = some u) : (w.setCell ⟨g, i, none⟩ v).cell? ⟨g, i, none⟩ = some v := World.cell?_setCell_same _ _ _ h
theorem cset_other {w : World} {g i j : Nat} {v : Value} (h : i ≠ j) : (w.setCell ⟨g, i, none⟩ v).cell? ⟨g, j, none⟩ = w.cell? ⟨g, j, none⟩ := World.cell?_setCell_other _ _ _ _ (by simp [h])
theorem At5.set {w : World} {g : Nat} {op a b c op' a' b' c' : Int} {s s' : ByteArray} (h : At5 w g op a b c s) : At5 (set5 w g op' a' b' c' s') g op' a' b' c' s' := by
 unfold set5
 refine ⟨?_, ?_, ?_, ?_, ?_, ?_, ?_, ?_, ?_, ?_⟩
 ·rw [cset_other (by decide), cset_other (by decide), cset_other (by decide), cset_other (by decide)]; exact cset_same h.c0
 ·rw [cset_other (by decide), cset_other (by decide), cset_other (by decide)]; exact cset_same ((cset_other (by decide)).trans h.c1)
 ·rw [cset_other (by decide), cset_other (by decide)]; exact cset_same ((cset_other (by decide)).trans ((cset_other (by decide)).trans h.c2))
 ·rw [cset_other (by decide)]; exact cset_same ((cset_other (by decide)).trans ((cset_other (by decide)).trans ((cset_other (by decide)).trans h.c3)))
 ·exact cset_same ((cset_other (by decide)).trans ((cset_other (by decide)).trans ((cset_other (by decide)).trans ((cset_other (by decide)).trans h.c4))))
 ·simp [h.f0]
 ·simp [h.f1]
 ·simp [h.f2]
 ·simp [h.f3]
 ·simp [h.f4]
def CV.val (x : CV) : Value := compV x.op x.a x.b x.c x.s
end Go.Proofs.YtminihiecloglaaGreat
namespace Go.Proofs.YtminihiecloglaaGreat
open Go.RowKit
open SemP
set_option maxRecDepth 100000
theorem cell1 {w : World} {g : Nat} {x : Value} {T : TypeId} (h : w.heap[g]? = some (.cells #[x] T (0, 0))) : w.cell? ⟨g, 0, none⟩ = some x := by simp [World.cell?, h]
end Go.Proofs.YtminihiecloglaaGreat
namespace Go.Proofs.YtminihiecloglaaGreat
open Go.RowKit
open SemP
set_option maxRecDepth 100000
def ccells : List CV → List Value
 | [] => []
 | x :: r => .int .i64 x.op :: .int .i64 x.a :: .int .i64 x.b :: .int .i64 x.c :: .string x.s :: ccells r
theorem ccells_get : ∀ (l : List CV) (j : Nat), j < l.length → (ccells l)[j * 5]? = some (.int .i64 (cvAt l j).op) ∧ (ccells l)[j * 5 + 1]? = some (.int .i64 (cvAt l j).a) ∧ (ccells l)[j * 5 + 2]? = some (.int .i64 (cvAt l j).b) ∧ (ccells l)[j * 5 + 3]? = some (.int .i64 (cvAt l j).c) ∧ (ccells l)[j * 5 + 4]? = some (.string (cvAt l j).s)
 | [], j, h => by simp at h
 | x :: r, 0, h => by simp [ccells, cvAt]
 | x :: r, j + 1, h => by
  have := ccells_get r j (by simpa using h)
  rw [show (j + 1) * 5 = j * 5 + 5 by omega]
  simpa [ccells, cvAt] using this
def OwnC (w : World) (base : Nat) (v : Value) (l : List CV) : Prop := w.ownsRow base 93 5 v l.length (ccells l)
theorem OwnC.nil_ (w : World) (base : Nat) : OwnC w base (.slice none 0 0) [] := World.ownsRow_nil _ _ _ _
theorem OwnC.shape {w : World} {base : Nat} {v : Value} {l : List CV} (h : OwnC w base v l) : ∃ A c, v = .slice A l.length c := by
 rcases h.2 with ⟨rfl, h0⟩ | ⟨g, cap, cur, rfl, _⟩
 ·exact ⟨none, 0, by rw [h0]⟩
 ·exact ⟨some ⟨g, 0, none⟩, cap, rfl⟩
theorem OwnC.rd {w : World} {base n c : Nat} {A : Option Addr} {l : List CV} (h : OwnC w base (.slice A n c) l) (hn : l.length = n) : RdC w w.heap.size A n l := by
 refine ⟨hn, fun j hj => ?_⟩
 obtain ⟨g, cap, hv, _, hlt⟩ := World.ownsRow.form h (by omega)
 injection hv with h1 h2 h3
 subst h1
 obtain ⟨c0, c1, c2, c3, c4⟩ := ccells_get l j (by omega)
 have e : ∀ x, (Addr.add ⟨g, 0, none⟩ x) = ⟨g, 0 + x, none⟩ := fun x => by unfold Addr.add; by_cases h0 : x = 0 <;> simp [h0]
 have k0 := World.ownsRow.cells h (g := g) rfl _ _ c0
 have k1 := World.ownsRow.cells h (g := g) rfl _ _ c1
 have k2 := World.ownsRow.cells h (g := g) rfl _ _ c2
 have k3 := World.ownsRow.cells h (g := g) rfl _ _ c3
 have k4 := World.ownsRow.cells h (g := g) rfl _ _ c4
 rw [e] at k0 k1 k2 k3 k4
 exact ⟨g, 0, rfl, hlt, k0, by rw [Nat.add_assoc]; exact k1, by rw [Nat.add_assoc]; exact k2, by rw [Nat.add_assoc]; exact k3, by rw [Nat.add_assoc]; exact k4⟩
end Go.Proofs.YtminihiecloglaaGreat
namespace Go.Proofs.YtminihiecloglaaGreat
open Go.RowKit
open SemP
set_option maxRecDepth 100000
theorem RdC.more {w : World} {B B' n : Nat} {A : Option Addr} {l : List CV} (h : RdC w B A n l) (hB : B ≤ B') : RdC w B' A n l := ⟨h.1, fun j hj => by
 obtain ⟨b, off, e, hlt, r⟩ := h.2 j hj
 exact ⟨b, off, e, by omega, r⟩⟩
theorem RdC.keep {w w' : World} {B n : Nat} {A : Option Addr} {l : List CV} (h : RdC w B A n l) (hk : ∀ b off, A = some ⟨b, off, none⟩ → b < B → w'.heap[b]? = w.heap[b]?) : RdC w' B A n l := ⟨h.1, fun j hj => by
 obtain ⟨b, off, e, hlt, h0, h1, h2, h3, h4⟩ := h.2 j hj
 have hb := hk b off e hlt
 exact ⟨b, off, e, hlt, (World.cell?_of_block hb).trans h0, (World.cell?_of_block hb).trans h1, (World.cell?_of_block hb).trans h2, (World.cell?_of_block hb).trans h3, (World.cell?_of_block hb).trans h4⟩⟩
def InL (w : World) (b5 : Nat) (v : Value) (A : Option Addr) (n : Nat) (l : List CV) : Prop := RdC w w.heap.size A n l ∧ ∀ b off, A = some ⟨b, off, none⟩ → v.ownBlock ≠ some b ∧ b5 < b ∧ b < w.heap.size
theorem InL.below {w w' : World} {b5 n : Nat} {v : Value} {A : Option Addr} {l : List CV} (h : InL w b5 v A n l) (hb : Below w.heap.size w w') : InL w' b5 v A n l := ⟨(h.1.below hb).more hb.size, fun b off e => ⟨(h.2 b off e).1, (h.2 b off e).2.1, Nat.lt_of_lt_of_le (h.2 b off e).2.2 hb.size⟩⟩
theorem InL.grown {w w' : World} {b5 n : Nat} {v v' : Value} {A : Option Addr} {l : List CV} (h : InL w b5 v A n l) (hg : w.grownBy w' v.ownBlock) (hv : v'.ownBlock = v.ownBlock ∨ v'.ownBlock = some w.heap.size) : InL w' b5 v' A n l := by
 refine ⟨(h.1.keep fun b off e hlt => hg.block b hlt (fun e2 => (h.2 b off e).1 e2.symm)).more hg.size, fun b off e => ⟨?_, (h.2 b off e).2.1, Nat.lt_of_lt_of_le (h.2 b off e).2.2 hg.size⟩⟩
 rcases hv with hv | hv
 ·rw [hv]; exact (h.2 b off e).1
 ·rw [hv]
  intro e2
  injection e2 with e2
  have := (h.2 b off e).2.2
  omega
def OwnV (w : World) (base : Nat) (v : Value) (vs : List Value) : Prop := w.ownsRow base 94 1 v vs.length vs
theorem OwnV.shape {w : World} {base : Nat} {v : Value} {l : List Value} (h : OwnV w base v l) : ∃ A c, v = .slice A l.length c := by
 rcases h.2 with ⟨rfl, h0⟩ | ⟨g, cap, cur, rfl, _⟩
 ·exact ⟨none, 0, by rw [h0]⟩
 ·exact ⟨some ⟨g, 0, none⟩, cap, rfl⟩
def RowL (w : World) (b5 : Nat) (v : Value) (vs : List Value) (r : List (List CV)) : Prop := vs.length = r.length ∧ ∀ j, j < r.length → ∃ A n c, vs[j]? = some (.slice A n c) ∧ InL w b5 v A n (lsAt r j)
theorem RowL.nil (w : World) (b5 : Nat) (v : Value) : RowL w b5 v [] [] := ⟨rfl, fun j h => absurd h (by simp)⟩
theorem RowL.map {w w' : World} {b5 : Nat} {v v' : Value} {vs : List Value} {r : List (List CV)} (h : RowL w b5 v vs r) (hm : ∀ A n l, InL w b5 v A n l → InL w' b5 v' A n l) : RowL w' b5 v' vs r := ⟨h.1, fun j hj => by
 obtain ⟨A, n, c, e, hi⟩ := h.2 j hj
 exact ⟨A, n, c, e, hm _ _ _ hi⟩⟩
theorem RowL.rd {w : World} {b5 base m c : Nat} {A : Option Addr} {vs : List Value} {r : List (List CV)} (h : RowL w b5 (.slice A m c) vs r) (ho : OwnV w base (.slice A m c) vs) (hm : r.length = m) : RdR w w.heap.size A m r := by
 refine ⟨hm, fun j hj => ?_⟩
 obtain ⟨Aj, nj, cj, e, hi⟩ := h.2 j (by omega)
 obtain ⟨g, cap, hv, _, hlt⟩ := World.ownsRow.form ho (by rw [h.1]; omega)
 injection hv with h1 h2 h3
 subst h1
 have k := World.ownsRow.cells ho (g := g) rfl _ _ e
 have ee : (Addr.add ⟨g, 0, none⟩ j) = ⟨g, 0 + j, none⟩ := by unfold Addr.add; by_cases h0 : j = 0 <;> simp [h0]
 rw [ee] at k
 exact ⟨g, 0, Aj, nj, cj, rfl, hlt, k, hi.1⟩
end Go.Proofs.YtminihiecloglaaGreat
namespace Go.Proofs.YtminihiecloglaaGreat
open Go.RowKit
open SemP
set_option maxRecDepth 100000
def rA : List (List CV) := [[⟨6, 0, 2, 3, ⟨#[]⟩⟩]]
def rB : List (List CV) := [[⟨5, 1, 0, 0, ⟨#[]⟩⟩, ⟨2, 2, 0, 0, ⟨#[]⟩⟩], [⟨1, 3, 0, 0, ⟨#[]⟩⟩]]
theorem hA1 : hasR rA ⟨0, 2, 9, []⟩ = true := by kernel_rfl
theorem hB1 : hasR rB ⟨3, 0, 0, []⟩ = true := by kernel_rfl
theorem hB2 : hasR rB ⟨2, 0, 0, []⟩ = false := by kernel_rfl
end Go.Proofs.YtminihiecloglaaGreat
namespace SemP
open Go.Lib
end SemP
namespace Go.Proofs.YtminihiecloglaaGreat
open Go.RowKit
open SemP
theorem right3 {a b c : Int} : Ver.right ⟨a, b, c, []⟩ = (rightN a && rightN b && rightN c) := by unfold Ver.right; simp
theorem rightN_of {n : Int} (h : 0 ≤ n ∧ n ≤ 999999) : rightN n = true := by unfold rightN; simp; omega
theorem rightN_not {n : Int} (h : ¬ (0 ≤ n ∧ n ≤ 999999)) : rightN n = false := by unfold rightN; simp; omega
theorem right_nums {a b c : Int} {p : Str} (h : Ver.right ⟨a, b, c, p⟩ = true) : (0 ≤ a ∧ a ≤ 999999) ∧ (0 ≤ b ∧ b ≤ 999999) ∧ (0 ≤ c ∧ c ≤ 999999) := by
 unfold Ver.right rightN at h
 simp at h
 omega
theorem end_of {op a b c : Int} {p : Str} {e : Ver} (h : Ver.right ⟨a, b, c, p⟩ = true) (hp : Ver.bump ⟨a, b, c, []⟩ (partOf op ⟨a, b, c, p⟩) = e) : endR op ⟨a, b, c, p⟩ = if e.right = true then some e else none := by
 have hn := right_nums h
 have h0 : Ver.right ⟨a, b, c, []⟩ = true := by rw [right3, rightN_of hn.1, rightN_of hn.2.1, rightN_of hn.2.2]; rfl
 unfold endR
 simp only [hp]
 by_cases he : e.right = true
 ·rw [if_pos ⟨h0, he⟩, if_pos he]
 ·rw [if_neg (fun h => he h.2), if_neg he]
theorem end_tilde {a b c : Int} {p : Str} (h : Ver.right ⟨a, b, c, p⟩ = true) : endR 7 ⟨a, b, c, p⟩ = if b < 999999 then some ⟨a, b + 1, 0, []⟩ else none := by
 have hn := right_nums h
 rw [end_of (e := ⟨a, b + 1, 0, []⟩) h rfl, right3, rightN_of hn.1]
 by_cases hb : b < 999999
 ·rw [rightN_of (by omega), rightN_of (show (0 : Int) ≤ 0 ∧ (0 : Int) ≤ 999999 by omega), if_pos hb]; rfl
 ·rw [rightN_not (by omega), if_neg hb]; rfl
theorem end_caret {a b c : Int} {p : Str} (h : Ver.right ⟨a, b, c, p⟩ = true) : endR 6 ⟨a, b, c, p⟩ =
  if 0 < a then (if a < 999999 then some ⟨a + 1, 0, 0, []⟩ else none) else if 0 < b then (if b < 999999 then some ⟨a, b + 1, 0, []⟩ else none) else (if c < 999999 then some ⟨a, b, c + 1, []⟩ else none) := by
 have hn := right_nums h
 have z : rightN 0 = true := rightN_of (by omega)
 by_cases ha : 0 < a
 ·have hp : partOf 6 ⟨a, b, c, p⟩ = 0 := by unfold partOf; rw [if_neg (by decide), if_pos ha]
  rw [end_of (e := ⟨a + 1, 0, 0, []⟩) h (by rw [hp]; rfl), if_pos ha, right3, z]
  by_cases h9 : a < 999999
  ·rw [rightN_of (by omega), if_pos h9]; rfl
  ·rw [rightN_not (by omega), if_neg h9]; rfl
 ·rw [if_neg ha]
  by_cases hb : 0 < b
  ·have hp : partOf 6 ⟨a, b, c, p⟩ = 1 := by unfold partOf; rw [if_neg (by decide), if_neg ha, if_pos hb]
   rw [end_of (e := ⟨a, b + 1, 0, []⟩) h (by rw [hp]; rfl), if_pos hb, right3, z, rightN_of hn.1]
   by_cases h9 : b < 999999
   ·rw [rightN_of (by omega), if_pos h9]; rfl
   ·rw [rightN_not (by omega), if_neg h9]; rfl
  ·have hp : partOf 6 ⟨a, b, c, p⟩ = 2 := by unfold partOf; rw [if_neg (by decide), if_neg ha, if_neg hb]
   rw [end_of (e := ⟨a, b, c + 1, []⟩) h (by rw [hp]; rfl), if_neg hb, right3, rightN_of hn.1, rightN_of hn.2.1]
   by_cases h9 : c < 999999
   ·rw [rightN_of (by omega), if_pos h9]; rfl
   ·rw [rightN_not (by omega), if_neg h9]; rfl
theorem has6 (c v : Ver) : hasC 6 c v = (decide (0 ≤ cmpV v c) && (match endR 6 c with
  | none => true
  | some e => decide (cmpV v e < 0))) := rfl
theorem has7 (c v : Ver) : hasC 7 c v = (decide (0 ≤ cmpV v c) && (match endR 7 c with
  | none => true
  | some e => decide (cmpV v e < 0))) := rfl
end Go.Proofs.YtminihiecloglaaGreat
namespace Go.Proofs.YtminihiecloglaaGreat
open Go.RowKit
open SemP
def upV (op a b c : Int) : Int × Int × Int := if op = 6 ∧ 0 < a then (a + 1, 0, 0) else if op = 6 ∧ b = 0 then (0, 0, c + 1) else (a, b + 1, 0)
theorem up_endR {op a b c : Int} {p : Str} (h : Ver.right ⟨a, b, c, p⟩ = true) (ho : op = 6 ∨ op = 7) :
  endR op ⟨a, b, c, p⟩ = if Ver.right ⟨(upV op a b c).1, (upV op a b c).2.1, (upV op a b c).2.2, []⟩ = true then some ⟨(upV op a b c).1, (upV op a b c).2.1, (upV op a b c).2.2, []⟩ else none := by
 have hn := right_nums h
 have z : rightN 0 = true := rightN_of (by omega)
 rcases ho with rfl | rfl
 ·rw [end_caret h]
  unfold upV
  by_cases ha : 0 < a
  ·rw [if_pos ha, if_pos (show (6 : Int) = 6 ∧ 0 < a from ⟨rfl, ha⟩)]
   simp only
   rw [right3, z]
   by_cases h9 : a < 999999
   ·rw [rightN_of (by omega), if_pos h9]; rfl
   ·rw [rightN_not (by omega), if_neg h9]; rfl
  ·rw [if_neg ha, if_neg (show ¬ ((6 : Int) = 6 ∧ 0 < a) from fun h => ha h.2)]
   by_cases hb : 0 < b
   ·rw [if_pos hb, if_neg (show ¬ ((6 : Int) = 6 ∧ b = 0) from fun h => by have := h.2; omega)]
    simp only
    rw [right3, z, rightN_of hn.1]
    by_cases h9 : b < 999999
    ·rw [rightN_of (by omega), if_pos h9]; rfl
    ·rw [rightN_not (by omega), if_neg h9]; rfl
   ·have hb0 : b = 0 := by omega
    have ha0 : a = 0 := by omega
    subst hb0 ha0
    rw [if_neg hb, if_pos (show (6 : Int) = 6 ∧ (0 : Int) = 0 from ⟨rfl, rfl⟩)]
    simp only
    rw [right3, z]
    by_cases h9 : c < 999999
    ·rw [rightN_of (by omega), if_pos h9]; rfl
    ·rw [rightN_not (by omega), if_neg h9]; rfl
 ·rw [end_tilde h]
  unfold upV
  rw [if_neg (show ¬ ((7 : Int) = 6 ∧ 0 < a) from fun h => absurd h.1 (by decide)), if_neg (show ¬ ((7 : Int) = 6 ∧ b = 0) from fun h => absurd h.1 (by decide))]
  simp only
  rw [right3, z, rightN_of hn.1]
  by_cases h9 : b < 999999
  ·rw [rightN_of (by omega), if_pos h9]; rfl
  ·rw [rightN_not (by omega), if_neg h9]; rfl
end Go.Proofs.YtminihiecloglaaGreat
namespace Go.Proofs.YtminihiecloglaaGreat
open Go.RowKit
open SemP
set_option maxRecDepth 100000
def OfAt (w : World) (x : CV) (v : Value) : Prop := ∃ g B, v = .agg #[.slice (some ⟨g, 0, none⟩) 1 1] ∧ B ≤ w.heap.size ∧ RdR w B (some ⟨g, 0, none⟩) 1 [[x]]
theorem OfAt.below {w w' : World} {x : CV} {v : Value} (h : OfAt w x v) (hb : Below w.heap.size w w') : OfAt w' x v := by
 obtain ⟨g, B, e, hB, hr⟩ := h
 exact ⟨g, B, e, Nat.le_trans hB hb.size, hr.below (hb.mono hB)⟩
theorem OfAt.drew {w : World} {x : CV} {v : Value} (h : OfAt w x v) : OfAt { w with drawn := w.drawn + 1 } x v := h
section
variable {P : Program} {ops : Array Oper} {Q : Exit → Act → World → Prop}
theorem wpOp_want {i : Nat} {o : Oper} {a : Act} {w : World} {K0 : Act → World → Prop} (ho : ops[i]? = some o) (j : Nat) (b : Bool) (hg : o.guard = some (j, b)) (hy : yielded ops a.tmps j = some b)
  (h : ∀ K : Act → World → Prop, Hid (∀ a' w', K0 a' w' → K a' w') → o.wp P a w K Q) : wpOp P ops Q i K0 a w := by
 unfold wpOp
 rw [ho]
 have hw : Region.wanted o (yielded ops a.tmps) = true := by unfold Region.wanted; rw [hg]; simp [hy]
 simp only [hw, if_true]
 exact .inl (h K0 (Lib.hid fun _ _ h => h))
end
end Go.Proofs.YtminihiecloglaaGreat
namespace Go.Proofs.YtminihiecloglaaGreat
open Go.RowKit
open SemP
set_option maxRecDepth 100000
structure UpSt (w : World) (x y z : Int) (r : Bool) (b0 b1 b2 b3 b4 : Bool) (v3 v41 v42 v43 : Value) (w' : World) : Prop where
 bel : Below w.heap.size w w'
 u : At4 w' (w.heap.size + 1 + 1) x y z ⟨#[]⟩
 z4 : b3 = false → At4 w' (w.heap.size + 1) 0 0 0 ⟨#[]⟩
 h0 : b0 = true → v41 = verV x y z ⟨#[]⟩
 h1 : b1 = true → v42 = verV x y z ⟨#[]⟩
 h2 : b2 = true → v43 = .bool r
 h3 : b3 = true → At4 w' (w.heap.size + 1) x y z ⟨#[]⟩
 h4 : b4 = true → v3 = .bool r
inductive UpJ (w : World) (x y z : Int) (r : Bool) (p0 p1 p2 p4 p5 p6 p7 p8 p9 p10 p11 p12 p13 p14 p15 p16 p17 p18 p19 p20 p21 p22 p23 p24 p25 p26 p27 p28 p29 p30 p31 p32 p33 p34 p35 p36 p37 p38 p39 p40 : Value) : Array Bool → Act → World → Prop where
 | mk (b0 b1 b2 b3 b4 : Bool) (v3 v41 v42 v43 : Value) (w' : World) : UpSt w x y z r b0 b1 b2 b3 b4 v3 v41 v42 v43 w' → UpJ w x y z r p0 p1 p2 p4 p5 p6 p7 p8 p9 p10 p11 p12 p13 p14 p15 p16 p17 p18 p19 p20 p21 p22 p23 p24 p25 p26 p27 p28 p29 p30 p31 p32 p33 p34 p35 p36 p37 p38 p39 p40 #[b0, b1, b2, b3, b4] { tmps := List.toArray (p0 :: p1 :: p2 :: v3 :: p4 :: p5 :: p6 :: p7 :: p8 :: p9 :: p10 :: p11 :: p12 :: p13 :: p14 :: p15 :: p16 :: p17 :: p18 :: p19 :: p20 :: p21 :: p22 :: p23 :: p24 :: p25 :: p26 :: p27 :: p28 :: p29 :: p30 :: p31 :: p32 :: p33 :: p34 :: p35 :: p36 :: p37 :: p38 :: p39 :: p40 :: v41 :: v42 :: v43 :: []), defers := [] } w'
theorem At4.drew {w : World} {g : Nat} {a b c : Int} {s : ByteArray} (h : At4 w g a b c s) : At4 w.drew g a b c s := h.block rfl
set_option maxHeartbeats 4000000 in
theorem Upper_any (op a b c : Int) (s : ByteArray) (w : World) (ha : -9000000000 < a ∧ a < 9000000000) (hb : -9000000000 < b ∧ b < 9000000000) (hc : -9000000000 < c ∧ c < 9000000000) :
  Calls Tryz.prog 146 #[compV op a b c s] w fun e w' => e = .returned (.tuple #[verV (upV op a b c).1 (upV op a b c).2.1 (upV op a b c).2.2 ⟨#[]⟩, .bool (Ver.right ⟨(upV op a b c).1, (upV op a b c).2.1, (upV op a b c).2.2, []⟩)]) ∧ Below w.heap.size w w' := by
 have hwa : IntKind.i64.wrap (a + 1) = a + 1 := by rw [IntWalk.i64_in _ (by omega)]
 have hwb : IntKind.i64.wrap (b + 1) = b + 1 := by rw [IntWalk.i64_in _ (by omega)]
 have hwc : IntKind.i64.wrap (c + 1) = c + 1 := by rw [IntWalk.i64_in _ (by omega)]
 have hX0 : ((w.alloc (.cells #[.int .i64 op, .int .i64 a, .int .i64 b, .int .i64 c, .string s] 172)).alloc (.cells #[.int .i64 0, .int .i64 0, .int .i64 0, .string ⟨#[]⟩] 122)).heap[w.heap.size]? = some (.cells #[.int .i64 op, .int .i64 a, .int .i64 b, .int .i64 c, .string s] 172) := by
  rw [Below.heap_alloc _ _ _ (by simp)]; exact World.alloc_heap_new _ _
 have hX1 : (((w.alloc (.cells #[.int .i64 op, .int .i64 a, .int .i64 b, .int .i64 c, .string s] 172)).alloc (.cells #[.int .i64 0, .int .i64 0, .int .i64 0, .string ⟨#[]⟩] 122)).alloc (.cells #[.int .i64 a, .int .i64 (b + 1), .int .i64 0, .string ⟨#[]⟩] 122)).heap[w.heap.size]? = some (.cells #[.int .i64 op, .int .i64 a, .int .i64 b, .int .i64 c, .string s] 172) := by
  rw [Below.heap_alloc _ _ _ (by simp; omega)]; exact hX0
 obtain ⟨x0, x1, x2, x3, x4⟩ := cells5 hX0
 obtain ⟨y0, y1, y2, y3, y4⟩ := cells5 hX1
 clear hX0 hX1
 have HR := Lib.hid (fun x y z W => RefRight_any x y z ⟨#[]⟩ W (by decide))
 by_cases h6 : op = 6
 ·subst h6
  by_cases ha0 : 0 < a
  ·have da : decide (0 < a) = true := decide_eq_true ha0
   have HU : Hid (upV 6 a b c = ((a + 1), 0, 0)) := Lib.hid (by unfold upV; rw [if_pos ⟨rfl, ha0⟩])
   have hZ : (((w.alloc (.cells #[.int .i64 6, .int .i64 a, .int .i64 b, .int .i64 c, .string s] 172)).alloc (.cells #[.int .i64 0, .int .i64 0, .int .i64 0, .string ⟨#[]⟩] 122)).alloc (.cells #[.int .i64 (a + 1), .int .i64 0, .int .i64 0, .string ⟨#[]⟩] 122)).heap[w.heap.size + 1]? = some (.cells #[.int .i64 0, .int .i64 0, .int .i64 0, .string ⟨#[]⟩] 122) := by
    rw [Below.heap_alloc _ _ _ (by simp)]
    have h := World.alloc_heap_new (w.alloc (.cells #[.int .i64 6, .int .i64 a, .int .i64 b, .int .i64 c, .string s] 172)) (.cells #[.int .i64 0, .int .i64 0, .int .i64 0, .string ⟨#[]⟩] 122)
    rw [World.size_alloc] at h; exact h
   have HZ := Lib.hid (At4.of_heap hZ)
   have HB : Hid (Below w.heap.size w (((w.alloc (.cells #[.int .i64 6, .int .i64 a, .int .i64 b, .int .i64 c, .string s] 172)).alloc (.cells #[.int .i64 0, .int .i64 0, .int .i64 0, .string ⟨#[]⟩] 122)).alloc (.cells #[.int .i64 (a + 1), .int .i64 0, .int .i64 0, .string ⟨#[]⟩] 122))) := Lib.hid ((((Below.refl _ w).alloc (Nat.le_refl _) _).alloc (by simp) _).alloc (by first | (simp; done) | (simp; omega)) _)
   have HLU : Hid (w.heap.size + 1 + 1 < (((w.alloc (.cells #[.int .i64 6, .int .i64 a, .int .i64 b, .int .i64 c, .string s] 172)).alloc (.cells #[.int .i64 0, .int .i64 0, .int .i64 0, .string ⟨#[]⟩] 122)).alloc (.cells #[.int .i64 (a + 1), .int .i64 0, .int .i64 0, .string ⟨#[]⟩] 122)).heap.size) := Lib.hid (by first | (simp; done) | (simp; omega))
   have HLT : Hid (w.heap.size + 1 < (((w.alloc (.cells #[.int .i64 6, .int .i64 a, .int .i64 b, .int .i64 c, .string s] 172)).alloc (.cells #[.int .i64 0, .int .i64 0, .int .i64 0, .string ⟨#[]⟩] 122)).alloc (.cells #[.int .i64 (a + 1), .int .i64 0, .int .i64 0, .string ⟨#[]⟩] 122)).heap.size) := Lib.hid (by first | (simp; done) | (simp; omega))
   have hu0 : _ := World.alloc_heap_new ((w.alloc (.cells #[.int .i64 6, .int .i64 a, .int .i64 b, .int .i64 c, .string s] 172)).alloc (.cells #[.int .i64 0, .int .i64 0, .int .i64 0, .string ⟨#[]⟩] 122)) (.cells #[.int .i64 ((a + 1)), .int .i64 (0), .int .i64 (0), .string ⟨#[]⟩] 122)
   clear hZ
   rw [World.size_alloc, World.size_alloc] at hu0
   obtain ⟨u0, u1, u2, u3⟩ := cells4 hu0
   have HU4 := Lib.hid (At4.of_heap hu0)
   clear hu0
   go_enter Tryz.func146, Tryz.ntmps146
   go_upto_region 6 with fail
   generalize hWW : (((w.alloc (.cells #[.int .i64 6, .int .i64 a, .int .i64 b, .int .i64 c, .string s] 172)).alloc (.cells #[.int .i64 0, .int .i64 0, .int .i64 0, .string ⟨#[]⟩] 122)).alloc (.cells #[.int .i64 (a + 1), .int .i64 0, .int .i64 0, .string ⟨#[]⟩] 122)) = WW at HZ HB HLT HLU HU4 u0 u1 u2 u3 ⊢
   clear hWW x0 x1 x2 x3 x4 y0 y1 y2 y3 y4
   obtain ⟨r, hrr⟩ : ∃ r, Ver.right ⟨(a + 1), 0, 0, []⟩ = r := ⟨_, rfl⟩
   have HRR := Lib.hid hrr
   clear hrr u0 u1 u2 u3
   refine wp_region_inv (by kernel_rfl) (I := UpJ w ((a + 1)) (0) (0) r _ _ _ _ _ _ _ _ _ _ _ _ _ _ _ _ _ _ _ _ _ _ _ _ _ _ _ _ _ _ _ _ _ _ _ _ _ _ _ _) (.mk false false false false false _ _ _ _ _ ⟨HB.out.drew, HU4.out.drew, fun _ => HZ.out.drew, nofun, nofun, nofun, nofun, nofun⟩) ?step ?fin
   case step =>
    rintro l a' w' i ⟨b0, b1, b2, b3, b4, v3, v41, v42, v43, _, HT⟩ hi
    obtain ⟨hi_, hib⟩ := ready_lt hi
    have HTH := Lib.hid HT
    match i, hi_, hi, hib with
    | 0, _, hi, hib =>
     obtain ⟨u0, u1, u2, u3, _, _, _, _⟩ := HT.u
     clear HT
     refine wpOp_one rfl rfl (fun K hK => ?_)
     go_simp
     exact hK.out _ _ (.mk true b1 b2 b3 b4 _ _ _ _ _ { HTH.out with h0 := fun _ => rfl })
    | 1, _, hi, hib =>
     obtain ⟨u0, u1, u2, u3, _, _, _, _⟩ := HT.u
     clear HT
     refine wpOp_one rfl rfl (fun K hK => ?_)
     go_simp
     exact hK.out _ _ (.mk b0 true b2 b3 b4 _ _ _ _ _ { HTH.out with h1 := fun _ => rfl })
    | 2, _, hi, hib =>
     have d1 : b1 = true := ready_dep hi rfl 1 (by kernel_rfl)
     have hd1 := HT.h1 d1
     subst hd1
     have HC := Lib.hid (HR.out ((a + 1)) (0) (0) w')
     rw [show Ver.right ⟨(a + 1), 0, 0, bs ⟨#[]⟩⟩ = r from HRR.out] at HC
     clear HT
     refine wpOp_one rfl rfl (fun K hK => ?_)
     go_simp
     refine HC.out.mono ?_
     rintro e w2 ⟨rfl, hb⟩
     exact hK.out _ _ (.mk b0 b1 true b3 b4 _ _ _ _ _ { HTH.out with bel := HTH.out.bel.trans (hb.mono HTH.out.bel.size), u := HTH.out.u.block (hb.block _ HTH.out.u.lt), z4 := fun h => (HTH.out.z4 h).block (hb.block _ (HTH.out.z4 h).lt), h3 := fun h => (HTH.out.h3 h).block (hb.block _ (HTH.out.h3 h).lt), h2 := fun _ => rfl })
    | 3, _, hi, hib =>
     have d0 : b0 = true := ready_dep hi rfl 0 (by kernel_rfl)
     have hd0 := HT.h0 d0
     subst hd0
     obtain rfl : b3 = false := by simpa using hib
     have h4 := HT.z4 rfl
     obtain ⟨z0, z1, z2, z3, e0, e1, e2, e3⟩ := h4
     clear HT
     refine wpOp_one rfl rfl (fun K hK => ?_)
     go_simp
     refine hK.out _ _ (.mk b0 b1 b2 true b4 _ _ _ _ _ { HTH.out with bel := ?_, u := ?_, z4 := nofun, h3 := fun _ => ?_ })
     ·have h := set4_below HTH.out.bel (show w.heap.size ≤ w.heap.size + 1 by omega) ((a + 1)) (0) (0) ⟨#[]⟩
      simp only [set4] at h
      exact h
     ·have h := HTH.out.u.block (set4_block w' (w.heap.size + 1) ((a + 1)) (0) (0) ⟨#[]⟩ (w.heap.size + 1 + 1) (by omega))
      simp only [set4] at h
      exact h
     ·have h := (HTH.out.z4 rfl).set (a' := (a + 1)) (b' := 0) (c' := 0) (s' := ⟨#[]⟩)
      simp only [set4] at h
      exact h
    | 4, _, hi, hib =>
     have d2 : b2 = true := ready_dep hi rfl 2 (by kernel_rfl)
     have hd2 := HT.h2 d2
     subst hd2
     clear HT
     refine wpOp_one rfl rfl (fun K hK => ?_)
     go_simp
     exact hK.out _ _ (.mk b0 b1 b2 b3 true _ _ _ _ _ { HTH.out with h4 := fun _ => rfl })
   case fin =>
    rintro l a' w' ⟨b0, b1, b2, b3, b4, v3, v41, v42, v43, _, HT⟩ hr
    obtain rfl : b0 = true := by
     cases b0 with
     | true => rfl
     | false => exact (ready_in 0 rfl rfl (by simp [Region.binds]) hr).elim
    obtain rfl : b1 = true := by
     cases b1 with
     | true => rfl
     | false => exact (ready_in 1 rfl rfl (by simp [Region.binds]) hr).elim
    obtain rfl : b2 = true := by
     cases b2 with
     | true => rfl
     | false => exact (ready_in 2 rfl rfl (by simp [Region.binds]) hr).elim
    obtain rfl : b3 = true := by
     cases b3 with
     | true => rfl
     | false => exact (ready_in 3 rfl rfl (by simp [Region.binds]) hr).elim
    obtain rfl : b4 = true := by
     cases b4 with
     | true => rfl
     | false => exact (ready_in 4 rfl rfl (by simp [Region.binds]) hr).elim
    have k0 := HT.h0 rfl
    have k1 := HT.h1 rfl
    have k2 := HT.h2 rfl
    have k4 := HT.h4 rfl
    subst k0 k1 k2 k4
    obtain ⟨g0, g1, g2, g3, _, _, _, _⟩ := HT.h3 rfl
    have HB2 := Lib.hid HT.bel
    clear HT hr
    show _
    go_wp2
    refine bodyPost_ret (v := .tuple #[verV ((a + 1)) (0) (0) ⟨#[]⟩, .bool r]) (by simp [results, Tryz.results146, go_sem, g0, g1, g2, g3]) rfl ⟨by rw [HU.out, HRR.out], HB2.out⟩
  ·have da : decide (0 < a) = false := decide_eq_false ha0
   by_cases hb0 : b = 0
   ·subst hb0
    have HU : Hid (upV 6 a 0 c = (0, 0, (c + 1))) := Lib.hid (by unfold upV; rw [if_neg (fun h => ha0 h.2), if_pos ⟨rfl, rfl⟩])
    have hZ : (((w.alloc (.cells #[.int .i64 6, .int .i64 a, .int .i64 0, .int .i64 c, .string s] 172)).alloc (.cells #[.int .i64 0, .int .i64 0, .int .i64 0, .string ⟨#[]⟩] 122)).alloc (.cells #[.int .i64 0, .int .i64 0, .int .i64 (c + 1), .string ⟨#[]⟩] 122)).heap[w.heap.size + 1]? = some (.cells #[.int .i64 0, .int .i64 0, .int .i64 0, .string ⟨#[]⟩] 122) := by
     rw [Below.heap_alloc _ _ _ (by simp)]
     have h := World.alloc_heap_new (w.alloc (.cells #[.int .i64 6, .int .i64 a, .int .i64 0, .int .i64 c, .string s] 172)) (.cells #[.int .i64 0, .int .i64 0, .int .i64 0, .string ⟨#[]⟩] 122)
     rw [World.size_alloc] at h; exact h
    have HZ := Lib.hid (At4.of_heap hZ)
    have HB : Hid (Below w.heap.size w (((w.alloc (.cells #[.int .i64 6, .int .i64 a, .int .i64 0, .int .i64 c, .string s] 172)).alloc (.cells #[.int .i64 0, .int .i64 0, .int .i64 0, .string ⟨#[]⟩] 122)).alloc (.cells #[.int .i64 0, .int .i64 0, .int .i64 (c + 1), .string ⟨#[]⟩] 122))) := Lib.hid ((((Below.refl _ w).alloc (Nat.le_refl _) _).alloc (by simp) _).alloc (by first | (simp; done) | (simp; omega)) _)
    have HLU : Hid (w.heap.size + 1 + 1 < (((w.alloc (.cells #[.int .i64 6, .int .i64 a, .int .i64 0, .int .i64 c, .string s] 172)).alloc (.cells #[.int .i64 0, .int .i64 0, .int .i64 0, .string ⟨#[]⟩] 122)).alloc (.cells #[.int .i64 0, .int .i64 0, .int .i64 (c + 1), .string ⟨#[]⟩] 122)).heap.size) := Lib.hid (by first | (simp; done) | (simp; omega))
    have HLT : Hid (w.heap.size + 1 < (((w.alloc (.cells #[.int .i64 6, .int .i64 a, .int .i64 0, .int .i64 c, .string s] 172)).alloc (.cells #[.int .i64 0, .int .i64 0, .int .i64 0, .string ⟨#[]⟩] 122)).alloc (.cells #[.int .i64 0, .int .i64 0, .int .i64 (c + 1), .string ⟨#[]⟩] 122)).heap.size) := Lib.hid (by first | (simp; done) | (simp; omega))
    have hu0 : _ := World.alloc_heap_new ((w.alloc (.cells #[.int .i64 6, .int .i64 a, .int .i64 0, .int .i64 c, .string s] 172)).alloc (.cells #[.int .i64 0, .int .i64 0, .int .i64 0, .string ⟨#[]⟩] 122)) (.cells #[.int .i64 (0), .int .i64 (0), .int .i64 ((c + 1)), .string ⟨#[]⟩] 122)
    clear hZ
    rw [World.size_alloc, World.size_alloc] at hu0
    obtain ⟨u0, u1, u2, u3⟩ := cells4 hu0
    have HU4 := Lib.hid (At4.of_heap hu0)
    clear hu0
    go_enter Tryz.func146, Tryz.ntmps146
    go_upto_region 6 with fail
    generalize hWW : (((w.alloc (.cells #[.int .i64 6, .int .i64 a, .int .i64 0, .int .i64 c, .string s] 172)).alloc (.cells #[.int .i64 0, .int .i64 0, .int .i64 0, .string ⟨#[]⟩] 122)).alloc (.cells #[.int .i64 0, .int .i64 0, .int .i64 (c + 1), .string ⟨#[]⟩] 122)) = WW at HZ HB HLT HLU HU4 u0 u1 u2 u3 ⊢
    clear hWW x0 x1 x2 x3 x4 y0 y1 y2 y3 y4
    obtain ⟨r, hrr⟩ : ∃ r, Ver.right ⟨0, 0, (c + 1), []⟩ = r := ⟨_, rfl⟩
    have HRR := Lib.hid hrr
    clear hrr u0 u1 u2 u3
    refine wp_region_inv (by kernel_rfl) (I := UpJ w (0) (0) ((c + 1)) r _ _ _ _ _ _ _ _ _ _ _ _ _ _ _ _ _ _ _ _ _ _ _ _ _ _ _ _ _ _ _ _ _ _ _ _ _ _ _ _) (.mk false false false false false _ _ _ _ _ ⟨HB.out.drew, HU4.out.drew, fun _ => HZ.out.drew, nofun, nofun, nofun, nofun, nofun⟩) ?step ?fin
    case step =>
     rintro l a' w' i ⟨b0, b1, b2, b3, b4, v3, v41, v42, v43, _, HT⟩ hi
     obtain ⟨hi_, hib⟩ := ready_lt hi
     have HTH := Lib.hid HT
     match i, hi_, hi, hib with
     | 0, _, hi, hib =>
      obtain ⟨u0, u1, u2, u3, _, _, _, _⟩ := HT.u
      clear HT
      refine wpOp_one rfl rfl (fun K hK => ?_)
      go_simp
      exact hK.out _ _ (.mk true b1 b2 b3 b4 _ _ _ _ _ { HTH.out with h0 := fun _ => rfl })
     | 1, _, hi, hib =>
      obtain ⟨u0, u1, u2, u3, _, _, _, _⟩ := HT.u
      clear HT
      refine wpOp_one rfl rfl (fun K hK => ?_)
      go_simp
      exact hK.out _ _ (.mk b0 true b2 b3 b4 _ _ _ _ _ { HTH.out with h1 := fun _ => rfl })
     | 2, _, hi, hib =>
      have d1 : b1 = true := ready_dep hi rfl 1 (by kernel_rfl)
      have hd1 := HT.h1 d1
      subst hd1
      have HC := Lib.hid (HR.out (0) (0) ((c + 1)) w')
      rw [show Ver.right ⟨0, 0, (c + 1), bs ⟨#[]⟩⟩ = r from HRR.out] at HC
      clear HT
      refine wpOp_one rfl rfl (fun K hK => ?_)
      go_simp
      refine HC.out.mono ?_
      rintro e w2 ⟨rfl, hb⟩
      exact hK.out _ _ (.mk b0 b1 true b3 b4 _ _ _ _ _ { HTH.out with bel := HTH.out.bel.trans (hb.mono HTH.out.bel.size), u := HTH.out.u.block (hb.block _ HTH.out.u.lt), z4 := fun h => (HTH.out.z4 h).block (hb.block _ (HTH.out.z4 h).lt), h3 := fun h => (HTH.out.h3 h).block (hb.block _ (HTH.out.h3 h).lt), h2 := fun _ => rfl })
     | 3, _, hi, hib =>
      have d0 : b0 = true := ready_dep hi rfl 0 (by kernel_rfl)
      have hd0 := HT.h0 d0
      subst hd0
      obtain rfl : b3 = false := by simpa using hib
      have h4 := HT.z4 rfl
      obtain ⟨z0, z1, z2, z3, e0, e1, e2, e3⟩ := h4
      clear HT
      refine wpOp_one rfl rfl (fun K hK => ?_)
      go_simp
      refine hK.out _ _ (.mk b0 b1 b2 true b4 _ _ _ _ _ { HTH.out with bel := ?_, u := ?_, z4 := nofun, h3 := fun _ => ?_ })
      ·have h := set4_below HTH.out.bel (show w.heap.size ≤ w.heap.size + 1 by omega) (0) (0) ((c + 1)) ⟨#[]⟩
       simp only [set4] at h
       exact h
      ·have h := HTH.out.u.block (set4_block w' (w.heap.size + 1) (0) (0) ((c + 1)) ⟨#[]⟩ (w.heap.size + 1 + 1) (by omega))
       simp only [set4] at h
       exact h
      ·have h := (HTH.out.z4 rfl).set (a' := 0) (b' := 0) (c' := (c + 1)) (s' := ⟨#[]⟩)
       simp only [set4] at h
       exact h
     | 4, _, hi, hib =>
      have d2 : b2 = true := ready_dep hi rfl 2 (by kernel_rfl)
      have hd2 := HT.h2 d2
      subst hd2
      clear HT
      refine wpOp_one rfl rfl (fun K hK => ?_)
      go_simp
      exact hK.out _ _ (.mk b0 b1 b2 b3 true _ _ _ _ _ { HTH.out with h4 := fun _ => rfl })
    case fin =>
     rintro l a' w' ⟨b0, b1, b2, b3, b4, v3, v41, v42, v43, _, HT⟩ hr
     obtain rfl : b0 = true := by
      cases b0 with
      | true => rfl
      | false => exact (ready_in 0 rfl rfl (by simp [Region.binds]) hr).elim
     obtain rfl : b1 = true := by
      cases b1 with
      | true => rfl
      | false => exact (ready_in 1 rfl rfl (by simp [Region.binds]) hr).elim
     obtain rfl : b2 = true := by
      cases b2 with
      | true => rfl
      | false => exact (ready_in 2 rfl rfl (by simp [Region.binds]) hr).elim
     obtain rfl : b3 = true := by
      cases b3 with
      | true => rfl
      | false => exact (ready_in 3 rfl rfl (by simp [Region.binds]) hr).elim
     obtain rfl : b4 = true := by
      cases b4 with
      | true => rfl
      | false => exact (ready_in 4 rfl rfl (by simp [Region.binds]) hr).elim
     have k0 := HT.h0 rfl
     have k1 := HT.h1 rfl
     have k2 := HT.h2 rfl
     have k4 := HT.h4 rfl
     subst k0 k1 k2 k4
     obtain ⟨g0, g1, g2, g3, _, _, _, _⟩ := HT.h3 rfl
     have HB2 := Lib.hid HT.bel
     clear HT hr
     show _
     go_wp2
     refine bodyPost_ret (v := .tuple #[verV (0) (0) ((c + 1)) ⟨#[]⟩, .bool r]) (by simp [results, Tryz.results146, go_sem, g0, g1, g2, g3]) rfl ⟨by rw [HU.out, HRR.out], HB2.out⟩
   ·have db : (b == 0) = false := by rw [beq_eq_false_iff_ne]; exact hb0
    have HU : Hid (upV 6 a b c = (a, (b + 1), 0)) := Lib.hid (by unfold upV; rw [if_neg (fun h => ha0 h.2), if_neg (fun h => hb0 h.2)])
    have hZ : (((w.alloc (.cells #[.int .i64 6, .int .i64 a, .int .i64 b, .int .i64 c, .string s] 172)).alloc (.cells #[.int .i64 0, .int .i64 0, .int .i64 0, .string ⟨#[]⟩] 122)).alloc (.cells #[.int .i64 a, .int .i64 (b + 1), .int .i64 0, .string ⟨#[]⟩] 122)).heap[w.heap.size + 1]? = some (.cells #[.int .i64 0, .int .i64 0, .int .i64 0, .string ⟨#[]⟩] 122) := by
     rw [Below.heap_alloc _ _ _ (by simp)]
     have h := World.alloc_heap_new (w.alloc (.cells #[.int .i64 6, .int .i64 a, .int .i64 b, .int .i64 c, .string s] 172)) (.cells #[.int .i64 0, .int .i64 0, .int .i64 0, .string ⟨#[]⟩] 122)
     rw [World.size_alloc] at h; exact h
    have HZ := Lib.hid (At4.of_heap hZ)
    have HB : Hid (Below w.heap.size w (((w.alloc (.cells #[.int .i64 6, .int .i64 a, .int .i64 b, .int .i64 c, .string s] 172)).alloc (.cells #[.int .i64 0, .int .i64 0, .int .i64 0, .string ⟨#[]⟩] 122)).alloc (.cells #[.int .i64 a, .int .i64 (b + 1), .int .i64 0, .string ⟨#[]⟩] 122))) := Lib.hid ((((Below.refl _ w).alloc (Nat.le_refl _) _).alloc (by simp) _).alloc (by first | (simp; done) | (simp; omega)) _)
    have HLU : Hid (w.heap.size + 1 + 1 < (((w.alloc (.cells #[.int .i64 6, .int .i64 a, .int .i64 b, .int .i64 c, .string s] 172)).alloc (.cells #[.int .i64 0, .int .i64 0, .int .i64 0, .string ⟨#[]⟩] 122)).alloc (.cells #[.int .i64 a, .int .i64 (b + 1), .int .i64 0, .string ⟨#[]⟩] 122)).heap.size) := Lib.hid (by first | (simp; done) | (simp; omega))
    have HLT : Hid (w.heap.size + 1 < (((w.alloc (.cells #[.int .i64 6, .int .i64 a, .int .i64 b, .int .i64 c, .string s] 172)).alloc (.cells #[.int .i64 0, .int .i64 0, .int .i64 0, .string ⟨#[]⟩] 122)).alloc (.cells #[.int .i64 a, .int .i64 (b + 1), .int .i64 0, .string ⟨#[]⟩] 122)).heap.size) := Lib.hid (by first | (simp; done) | (simp; omega))
    have hu0 : _ := World.alloc_heap_new ((w.alloc (.cells #[.int .i64 6, .int .i64 a, .int .i64 b, .int .i64 c, .string s] 172)).alloc (.cells #[.int .i64 0, .int .i64 0, .int .i64 0, .string ⟨#[]⟩] 122)) (.cells #[.int .i64 (a), .int .i64 ((b + 1)), .int .i64 (0), .string ⟨#[]⟩] 122)
    clear hZ
    rw [World.size_alloc, World.size_alloc] at hu0
    obtain ⟨u0, u1, u2, u3⟩ := cells4 hu0
    have HU4 := Lib.hid (At4.of_heap hu0)
    clear hu0
    go_enter Tryz.func146, Tryz.ntmps146
    go_upto_region 6 with fail
    generalize hWW : (((w.alloc (.cells #[.int .i64 6, .int .i64 a, .int .i64 b, .int .i64 c, .string s] 172)).alloc (.cells #[.int .i64 0, .int .i64 0, .int .i64 0, .string ⟨#[]⟩] 122)).alloc (.cells #[.int .i64 a, .int .i64 (b + 1), .int .i64 0, .string ⟨#[]⟩] 122)) = WW at HZ HB HLT HLU HU4 u0 u1 u2 u3 ⊢
    clear hWW x0 x1 x2 x3 x4 y0 y1 y2 y3 y4
    obtain ⟨r, hrr⟩ : ∃ r, Ver.right ⟨a, (b + 1), 0, []⟩ = r := ⟨_, rfl⟩
    have HRR := Lib.hid hrr
    clear hrr u0 u1 u2 u3
    refine wp_region_inv (by kernel_rfl) (I := UpJ w (a) ((b + 1)) (0) r _ _ _ _ _ _ _ _ _ _ _ _ _ _ _ _ _ _ _ _ _ _ _ _ _ _ _ _ _ _ _ _ _ _ _ _ _ _ _ _) (.mk false false false false false _ _ _ _ _ ⟨HB.out.drew, HU4.out.drew, fun _ => HZ.out.drew, nofun, nofun, nofun, nofun, nofun⟩) ?step ?fin
    case step =>
     rintro l a' w' i ⟨b0, b1, b2, b3, b4, v3, v41, v42, v43, _, HT⟩ hi
     obtain ⟨hi_, hib⟩ := ready_lt hi
     have HTH := Lib.hid HT
     match i, hi_, hi, hib with
     | 0, _, hi, hib =>
      obtain ⟨u0, u1, u2, u3, _, _, _, _⟩ := HT.u
      clear HT
      refine wpOp_one rfl rfl (fun K hK => ?_)
      go_simp
      exact hK.out _ _ (.mk true b1 b2 b3 b4 _ _ _ _ _ { HTH.out with h0 := fun _ => rfl })
     | 1, _, hi, hib =>
      obtain ⟨u0, u1, u2, u3, _, _, _, _⟩ := HT.u
      clear HT
      refine wpOp_one rfl rfl (fun K hK => ?_)
      go_simp
      exact hK.out _ _ (.mk b0 true b2 b3 b4 _ _ _ _ _ { HTH.out with h1 := fun _ => rfl })
     | 2, _, hi, hib =>
      have d1 : b1 = true := ready_dep hi rfl 1 (by kernel_rfl)
      have hd1 := HT.h1 d1
      subst hd1
      have HC := Lib.hid (HR.out (a) ((b + 1)) (0) w')
      rw [show Ver.right ⟨a, (b + 1), 0, bs ⟨#[]⟩⟩ = r from HRR.out] at HC
      clear HT
      refine wpOp_one rfl rfl (fun K hK => ?_)
      go_simp
      refine HC.out.mono ?_
      rintro e w2 ⟨rfl, hb⟩
      exact hK.out _ _ (.mk b0 b1 true b3 b4 _ _ _ _ _ { HTH.out with bel := HTH.out.bel.trans (hb.mono HTH.out.bel.size), u := HTH.out.u.block (hb.block _ HTH.out.u.lt), z4 := fun h => (HTH.out.z4 h).block (hb.block _ (HTH.out.z4 h).lt), h3 := fun h => (HTH.out.h3 h).block (hb.block _ (HTH.out.h3 h).lt), h2 := fun _ => rfl })
     | 3, _, hi, hib =>
      have d0 : b0 = true := ready_dep hi rfl 0 (by kernel_rfl)
      have hd0 := HT.h0 d0
      subst hd0
      obtain rfl : b3 = false := by simpa using hib
      have h4 := HT.z4 rfl
      obtain ⟨z0, z1, z2, z3, e0, e1, e2, e3⟩ := h4
      clear HT
      refine wpOp_one rfl rfl (fun K hK => ?_)
      go_simp
      refine hK.out _ _ (.mk b0 b1 b2 true b4 _ _ _ _ _ { HTH.out with bel := ?_, u := ?_, z4 := nofun, h3 := fun _ => ?_ })
      ·have h := set4_below HTH.out.bel (show w.heap.size ≤ w.heap.size + 1 by omega) (a) ((b + 1)) (0) ⟨#[]⟩
       simp only [set4] at h
       exact h
      ·have h := HTH.out.u.block (set4_block w' (w.heap.size + 1) (a) ((b + 1)) (0) ⟨#[]⟩ (w.heap.size + 1 + 1) (by omega))
       simp only [set4] at h
       exact h
      ·have h := (HTH.out.z4 rfl).set (a' := a) (b' := (b + 1)) (c' := 0) (s' := ⟨#[]⟩)
       simp only [set4] at h
       exact h
     | 4, _, hi, hib =>
      have d2 : b2 = true := ready_dep hi rfl 2 (by kernel_rfl)
      have hd2 := HT.h2 d2
      subst hd2
      clear HT
      refine wpOp_one rfl rfl (fun K hK => ?_)
      go_simp
      exact hK.out _ _ (.mk b0 b1 b2 b3 true _ _ _ _ _ { HTH.out with h4 := fun _ => rfl })
    case fin =>
     rintro l a' w' ⟨b0, b1, b2, b3, b4, v3, v41, v42, v43, _, HT⟩ hr
     obtain rfl : b0 = true := by
      cases b0 with
      | true => rfl
      | false => exact (ready_in 0 rfl rfl (by simp [Region.binds]) hr).elim
     obtain rfl : b1 = true := by
      cases b1 with
      | true => rfl
      | false => exact (ready_in 1 rfl rfl (by simp [Region.binds]) hr).elim
     obtain rfl : b2 = true := by
      cases b2 with
      | true => rfl
      | false => exact (ready_in 2 rfl rfl (by simp [Region.binds]) hr).elim
     obtain rfl : b3 = true := by
      cases b3 with
      | true => rfl
      | false => exact (ready_in 3 rfl rfl (by simp [Region.binds]) hr).elim
     obtain rfl : b4 = true := by
      cases b4 with
      | true => rfl
      | false => exact (ready_in 4 rfl rfl (by simp [Region.binds]) hr).elim
     have k0 := HT.h0 rfl
     have k1 := HT.h1 rfl
     have k2 := HT.h2 rfl
     have k4 := HT.h4 rfl
     subst k0 k1 k2 k4
     obtain ⟨g0, g1, g2, g3, _, _, _, _⟩ := HT.h3 rfl
     have HB2 := Lib.hid HT.bel
     clear HT hr
     show _
     go_wp2
     refine bodyPost_ret (v := .tuple #[verV (a) ((b + 1)) (0) ⟨#[]⟩, .bool r]) (by simp [results, Tryz.results146, go_sem, g0, g1, g2, g3]) rfl ⟨by rw [HU.out, HRR.out], HB2.out⟩
 ·have d6 : (op == 6) = false := by rw [beq_eq_false_iff_ne]; exact h6
  have HU : Hid (upV op a b c = (a, (b + 1), 0)) := Lib.hid (by unfold upV; rw [if_neg (fun h => h6 h.1), if_neg (fun h => h6 h.1)])
  have hZ : (((w.alloc (.cells #[.int .i64 op, .int .i64 a, .int .i64 b, .int .i64 c, .string s] 172)).alloc (.cells #[.int .i64 0, .int .i64 0, .int .i64 0, .string ⟨#[]⟩] 122)).alloc (.cells #[.int .i64 a, .int .i64 (b + 1), .int .i64 0, .string ⟨#[]⟩] 122)).heap[w.heap.size + 1]? = some (.cells #[.int .i64 0, .int .i64 0, .int .i64 0, .string ⟨#[]⟩] 122) := by
   rw [Below.heap_alloc _ _ _ (by simp)]
   have h := World.alloc_heap_new (w.alloc (.cells #[.int .i64 op, .int .i64 a, .int .i64 b, .int .i64 c, .string s] 172)) (.cells #[.int .i64 0, .int .i64 0, .int .i64 0, .string ⟨#[]⟩] 122)
   rw [World.size_alloc] at h; exact h
  have HZ := Lib.hid (At4.of_heap hZ)
  have HB : Hid (Below w.heap.size w (((w.alloc (.cells #[.int .i64 op, .int .i64 a, .int .i64 b, .int .i64 c, .string s] 172)).alloc (.cells #[.int .i64 0, .int .i64 0, .int .i64 0, .string ⟨#[]⟩] 122)).alloc (.cells #[.int .i64 a, .int .i64 (b + 1), .int .i64 0, .string ⟨#[]⟩] 122))) := Lib.hid ((((Below.refl _ w).alloc (Nat.le_refl _) _).alloc (by simp) _).alloc (by first | (simp; done) | (simp; omega)) _)
  have HLU : Hid (w.heap.size + 1 + 1 < (((w.alloc (.cells #[.int .i64 op, .int .i64 a, .int .i64 b, .int .i64 c, .string s] 172)).alloc (.cells #[.int .i64 0, .int .i64 0, .int .i64 0, .string ⟨#[]⟩] 122)).alloc (.cells #[.int .i64 a, .int .i64 (b + 1), .int .i64 0, .string ⟨#[]⟩] 122)).heap.size) := Lib.hid (by first | (simp; done) | (simp; omega))
  have HLT : Hid (w.heap.size + 1 < (((w.alloc (.cells #[.int .i64 op, .int .i64 a, .int .i64 b, .int .i64 c, .string s] 172)).alloc (.cells #[.int .i64 0, .int .i64 0, .int .i64 0, .string ⟨#[]⟩] 122)).alloc (.cells #[.int .i64 a, .int .i64 (b + 1), .int .i64 0, .string ⟨#[]⟩] 122)).heap.size) := Lib.hid (by first | (simp; done) | (simp; omega))
  have hu0 : _ := World.alloc_heap_new ((w.alloc (.cells #[.int .i64 op, .int .i64 a, .int .i64 b, .int .i64 c, .string s] 172)).alloc (.cells #[.int .i64 0, .int .i64 0, .int .i64 0, .string ⟨#[]⟩] 122)) (.cells #[.int .i64 (a), .int .i64 ((b + 1)), .int .i64 (0), .string ⟨#[]⟩] 122)
  clear hZ
  rw [World.size_alloc, World.size_alloc] at hu0
  obtain ⟨u0, u1, u2, u3⟩ := cells4 hu0
  have HU4 := Lib.hid (At4.of_heap hu0)
  clear hu0
  go_enter Tryz.func146, Tryz.ntmps146
  go_upto_region 6 with fail
  generalize hWW : (((w.alloc (.cells #[.int .i64 op, .int .i64 a, .int .i64 b, .int .i64 c, .string s] 172)).alloc (.cells #[.int .i64 0, .int .i64 0, .int .i64 0, .string ⟨#[]⟩] 122)).alloc (.cells #[.int .i64 a, .int .i64 (b + 1), .int .i64 0, .string ⟨#[]⟩] 122)) = WW at HZ HB HLT HLU HU4 u0 u1 u2 u3 ⊢
  clear hWW x0 x1 x2 x3 x4 y0 y1 y2 y3 y4
  obtain ⟨r, hrr⟩ : ∃ r, Ver.right ⟨a, (b + 1), 0, []⟩ = r := ⟨_, rfl⟩
  have HRR := Lib.hid hrr
  clear hrr u0 u1 u2 u3
  refine wp_region_inv (by kernel_rfl) (I := UpJ w (a) ((b + 1)) (0) r _ _ _ _ _ _ _ _ _ _ _ _ _ _ _ _ _ _ _ _ _ _ _ _ _ _ _ _ _ _ _ _ _ _ _ _ _ _ _ _) (.mk false false false false false _ _ _ _ _ ⟨HB.out.drew, HU4.out.drew, fun _ => HZ.out.drew, nofun, nofun, nofun, nofun, nofun⟩) ?step ?fin
  case step =>
   rintro l a' w' i ⟨b0, b1, b2, b3, b4, v3, v41, v42, v43, _, HT⟩ hi
   obtain ⟨hi_, hib⟩ := ready_lt hi
   have HTH := Lib.hid HT
   match i, hi_, hi, hib with
   | 0, _, hi, hib =>
    obtain ⟨u0, u1, u2, u3, _, _, _, _⟩ := HT.u
    clear HT
    refine wpOp_one rfl rfl (fun K hK => ?_)
    go_simp
    exact hK.out _ _ (.mk true b1 b2 b3 b4 _ _ _ _ _ { HTH.out with h0 := fun _ => rfl })
   | 1, _, hi, hib =>
    obtain ⟨u0, u1, u2, u3, _, _, _, _⟩ := HT.u
    clear HT
    refine wpOp_one rfl rfl (fun K hK => ?_)
    go_simp
    exact hK.out _ _ (.mk b0 true b2 b3 b4 _ _ _ _ _ { HTH.out with h1 := fun _ => rfl })
   | 2, _, hi, hib =>
    have d1 : b1 = true := ready_dep hi rfl 1 (by kernel_rfl)
    have hd1 := HT.h1 d1
    subst hd1
    have HC := Lib.hid (HR.out (a) ((b + 1)) (0) w')
    rw [show Ver.right ⟨a, (b + 1), 0, bs ⟨#[]⟩⟩ = r from HRR.out] at HC
    clear HT
    refine wpOp_one rfl rfl (fun K hK => ?_)
    go_simp
    refine HC.out.mono ?_
    rintro e w2 ⟨rfl, hb⟩
    exact hK.out _ _ (.mk b0 b1 true b3 b4 _ _ _ _ _ { HTH.out with bel := HTH.out.bel.trans (hb.mono HTH.out.bel.size), u := HTH.out.u.block (hb.block _ HTH.out.u.lt), z4 := fun h => (HTH.out.z4 h).block (hb.block _ (HTH.out.z4 h).lt), h3 := fun h => (HTH.out.h3 h).block (hb.block _ (HTH.out.h3 h).lt), h2 := fun _ => rfl })
   | 3, _, hi, hib =>
    have d0 : b0 = true := ready_dep hi rfl 0 (by kernel_rfl)
    have hd0 := HT.h0 d0
    subst hd0
    obtain rfl : b3 = false := by simpa using hib
    have h4 := HT.z4 rfl
    obtain ⟨z0, z1, z2, z3, e0, e1, e2, e3⟩ := h4
    clear HT
    refine wpOp_one rfl rfl (fun K hK => ?_)
    go_simp
    refine hK.out _ _ (.mk b0 b1 b2 true b4 _ _ _ _ _ { HTH.out with bel := ?_, u := ?_, z4 := nofun, h3 := fun _ => ?_ })
    ·have h := set4_below HTH.out.bel (show w.heap.size ≤ w.heap.size + 1 by omega) (a) ((b + 1)) (0) ⟨#[]⟩
     simp only [set4] at h
     exact h
    ·have h := HTH.out.u.block (set4_block w' (w.heap.size + 1) (a) ((b + 1)) (0) ⟨#[]⟩ (w.heap.size + 1 + 1) (by omega))
     simp only [set4] at h
     exact h
    ·have h := (HTH.out.z4 rfl).set (a' := a) (b' := (b + 1)) (c' := 0) (s' := ⟨#[]⟩)
     simp only [set4] at h
     exact h
   | 4, _, hi, hib =>
    have d2 : b2 = true := ready_dep hi rfl 2 (by kernel_rfl)
    have hd2 := HT.h2 d2
    subst hd2
    clear HT
    refine wpOp_one rfl rfl (fun K hK => ?_)
    go_simp
    exact hK.out _ _ (.mk b0 b1 b2 b3 true _ _ _ _ _ { HTH.out with h4 := fun _ => rfl })
  case fin =>
   rintro l a' w' ⟨b0, b1, b2, b3, b4, v3, v41, v42, v43, _, HT⟩ hr
   obtain rfl : b0 = true := by
    cases b0 with
    | true => rfl
    | false => exact (ready_in 0 rfl rfl (by simp [Region.binds]) hr).elim
   obtain rfl : b1 = true := by
    cases b1 with
    | true => rfl
    | false => exact (ready_in 1 rfl rfl (by simp [Region.binds]) hr).elim
   obtain rfl : b2 = true := by
    cases b2 with
    | true => rfl
    | false => exact (ready_in 2 rfl rfl (by simp [Region.binds]) hr).elim
   obtain rfl : b3 = true := by
    cases b3 with
    | true => rfl
    | false => exact (ready_in 3 rfl rfl (by simp [Region.binds]) hr).elim
   obtain rfl : b4 = true := by
    cases b4 with
    | true => rfl
    | false => exact (ready_in 4 rfl rfl (by simp [Region.binds]) hr).elim
   have k0 := HT.h0 rfl
   have k1 := HT.h1 rfl
   have k2 := HT.h2 rfl
   have k4 := HT.h4 rfl
   subst k0 k1 k2 k4
   obtain ⟨g0, g1, g2, g3, _, _, _, _⟩ := HT.h3 rfl
   have HB2 := Lib.hid HT.bel
   clear HT hr
   show _
   go_wp2
   refine bodyPost_ret (v := .tuple #[verV (a) ((b + 1)) (0) ⟨#[]⟩, .bool r]) (by simp [results, Tryz.results146, go_sem, g0, g1, g2, g3]) rfl ⟨by rw [HU.out, HRR.out], HB2.out⟩
end Go.Proofs.YtminihiecloglaaGreat
