/-
  MERGED: RSign RComp ROf RList RParse RAnch RTilP RUpP ROfAt.
-/
import Derived.Test.YtebflhlgcpbikaaGreatRPure
import Derived.Test.YtebflhlgcpbikaaGreatSAt4
import Derived.Test.YtebflhlgcpbikaaGreatRRHas
import Derived.Test.YtebflhlgcpbikaaGreatSRefK
import Derived.Test.YtebflhlgcpbikaaGreatInv
import Derived.Laws.OwnMore
import Derived.Maps.AppendAt
import Derived.KernelRfl
import Derived.Deep.DeepCutAuto
namespace Go.Proofs.YtebflhlgcpbikaaGreat
open Go.RowKit
open SemP
set_option linter.unusedVariables false
set_option linter.unusedSimpArgs false
set_option maxRecDepth 100000

def sgL : List Str := [[42], [61], [60], [60, 61], [62], [62, 61], [94], [126]]
abbrev sg (i : Nat) : Str := sgL.getD i []
/-- The program's table of signs. -/
def SignsAt (w : World) : Prop := ∀ i, i < 8 → w.cell? ⟨0, i, none⟩ = some (.string (mk (sg i)))
theorem SignsAt.below {w w' : World} {B : Nat} (h : SignsAt w) (hb : Below B w w') (hB : 0 < B) : SignsAt w' := fun i hi => (hb.cell (p := ⟨0, i, none⟩) hB).trans (h i hi)
end Go.Proofs.YtebflhlgcpbikaaGreat

namespace Go.Proofs.YtebflhlgcpbikaaGreat
open Go.RowKit
open SemP
set_option linter.unusedVariables false
set_option linter.unusedSimpArgs false
set_option maxRecDepth 100000

structure At5 (w : World) (g : Nat) (op a b c : Int) (s : ByteArray) : Prop where
  c0 : w.cell? ⟨g, 0, none⟩ = some (.int .i64 op)
  c1 : w.cell? ⟨g, 1, none⟩ = some (.int .i64 a)
  c2 : w.cell? ⟨g, 2, none⟩ = some (.int .i64 b)
  c3 : w.cell? ⟨g, 3, none⟩ = some (.int .i64 c)
  c4 : w.cell? ⟨g, 4, none⟩ = some (.string s)
  f0 : w.frozen? ⟨g, 0, none⟩ = false
  f1 : w.frozen? ⟨g, 1, none⟩ = false
  f2 : w.frozen? ⟨g, 2, none⟩ = false
  f3 : w.frozen? ⟨g, 3, none⟩ = false
  f4 : w.frozen? ⟨g, 4, none⟩ = false
def set5 (w : World) (g : Nat) (op a b c : Int) (s : ByteArray) : World := ((((w.setCell ⟨g, 0, none⟩ (.int .i64 op)).setCell ⟨g, 1, none⟩ (.int .i64 a)).setCell ⟨g, 2, none⟩ (.int .i64 b)).setCell ⟨g, 3, none⟩ (.int .i64 c)).setCell ⟨g, 4, none⟩ (.string s)
theorem At5.of_heap {w : World} {g : Nat} {op a b c : Int} {s : ByteArray} {T : TypeId} (h : w.heap[g]? = some (.cells #[.int .i64 op, .int .i64 a, .int .i64 b, .int .i64 c, .string s] T (0, 0))) : At5 w g op a b c s := by
  obtain ⟨x0, x1, x2, x3, x4⟩ := cells5 h
  exact ⟨x0, x1, x2, x3, x4, by simp only [World.frozen?, h]; rfl, by simp only [World.frozen?, h]; rfl, by simp only [World.frozen?, h]; rfl, by simp only [World.frozen?, h]; rfl, by simp only [World.frozen?, h]; rfl⟩
theorem At5.block {w w' : World} {g : Nat} {op a b c : Int} {s : ByteArray} (h : At5 w g op a b c s) (hb : w'.heap[g]? = w.heap[g]?) : At5 w' g op a b c s :=
  ⟨(World.cell?_of_block hb).trans h.c0, (World.cell?_of_block hb).trans h.c1, (World.cell?_of_block hb).trans h.c2, (World.cell?_of_block hb).trans h.c3, (World.cell?_of_block hb).trans h.c4,
   (World.frozen?_of_block hb).trans h.f0, (World.frozen?_of_block hb).trans h.f1, (World.frozen?_of_block hb).trans h.f2, (World.frozen?_of_block hb).trans h.f3, (World.frozen?_of_block hb).trans h.f4⟩
theorem cset_same {w : World} {g i : Nat} {u v : Value} (h : w.cell? ⟨g, i, none⟩ = some u) : (w.setCell ⟨g, i, none⟩ v).cell? ⟨g, i, none⟩ = some v := World.cell?_setCell_same _ _ _ h
theorem cset_other {w : World} {g i j : Nat} {v : Value} (h : i ≠ j) : (w.setCell ⟨g, i, none⟩ v).cell? ⟨g, j, none⟩ = w.cell? ⟨g, j, none⟩ := World.cell?_setCell_other _ _ _ _ (by simp [h])
theorem At5.set {w : World} {g : Nat} {op a b c op' a' b' c' : Int} {s s' : ByteArray} (h : At5 w g op a b c s) : At5 (set5 w g op' a' b' c' s') g op' a' b' c' s' := by
  unfold set5
  refine ⟨?_, ?_, ?_, ?_, ?_, ?_, ?_, ?_, ?_, ?_⟩
  · rw [cset_other (by decide), cset_other (by decide), cset_other (by decide), cset_other (by decide)]; exact cset_same h.c0
  · rw [cset_other (by decide), cset_other (by decide), cset_other (by decide)]; exact cset_same ((cset_other (by decide)).trans h.c1)
  · rw [cset_other (by decide), cset_other (by decide)]; exact cset_same ((cset_other (by decide)).trans ((cset_other (by decide)).trans h.c2))
  · rw [cset_other (by decide)]; exact cset_same ((cset_other (by decide)).trans ((cset_other (by decide)).trans ((cset_other (by decide)).trans h.c3)))
  · exact cset_same ((cset_other (by decide)).trans ((cset_other (by decide)).trans ((cset_other (by decide)).trans ((cset_other (by decide)).trans h.c4))))
  · simp [h.f0]
  · simp [h.f1]
  · simp [h.f2]
  · simp [h.f3]
  · simp [h.f4]
def CV.val (x : CV) : Value := compV x.op x.a x.b x.c x.s
end Go.Proofs.YtebflhlgcpbikaaGreat

namespace Go.Proofs.YtebflhlgcpbikaaGreat
open Go.RowKit
open SemP
set_option linter.unusedVariables false
set_option linter.unusedSimpArgs false
set_option maxRecDepth 100000

theorem cell1 {w : World} {g : Nat} {x : Value} {T : TypeId} (h : w.heap[g]? = some (.cells #[x] T (0, 0))) : w.cell? ⟨g, 0, none⟩ = some x := by simp [World.cell?, h]
end Go.Proofs.YtebflhlgcpbikaaGreat

namespace Go.Proofs.YtebflhlgcpbikaaGreat
open Go.RowKit
open SemP
set_option linter.unusedVariables false
set_option linter.unusedSimpArgs false
set_option maxRecDepth 100000

def ccells : List CV → List Value
  | [] => []
  | x :: r => .int .i64 x.op :: .int .i64 x.a :: .int .i64 x.b :: .int .i64 x.c :: .string x.s :: ccells r
theorem ccells_get : ∀ (l : List CV) (j : Nat), j < l.length → (ccells l)[j * 5]? = some (.int .i64 (cvAt l j).op) ∧ (ccells l)[j * 5 + 1]? = some (.int .i64 (cvAt l j).a) ∧ (ccells l)[j * 5 + 2]? = some (.int .i64 (cvAt l j).b) ∧ (ccells l)[j * 5 + 3]? = some (.int .i64 (cvAt l j).c) ∧ (ccells l)[j * 5 + 4]? = some (.string (cvAt l j).s)
  | [], j, h => by simp at h
  | x :: r, 0, h => by simp [ccells, cvAt]
  | x :: r, j + 1, h => by
    have := ccells_get r j (by simpa using h)
    rw [show (j + 1) * 5 = j * 5 + 5 by omega]
    simpa [ccells, cvAt] using this
def OwnC (w : World) (base : Nat) (v : Value) (l : List CV) : Prop := w.ownsRow base 112 5 v l.length (ccells l)
theorem OwnC.nil_ (w : World) (base : Nat) : OwnC w base (.slice none 0 0) [] := World.ownsRow_nil _ _ _ _
theorem OwnC.shape {w : World} {base : Nat} {v : Value} {l : List CV} (h : OwnC w base v l) : ∃ A c, v = .slice A l.length c := by
  rcases h.2 with ⟨rfl, h0⟩ | ⟨g, cap, cur, rfl, _⟩
  · exact ⟨none, 0, by rw [h0]⟩
  · exact ⟨some ⟨g, 0, none⟩, cap, rfl⟩
theorem OwnC.rd {w : World} {base n c : Nat} {A : Option Addr} {l : List CV} (h : OwnC w base (.slice A n c) l) (hn : l.length = n) : RdC w w.heap.size A n l := by
  refine ⟨hn, fun j hj => ?_⟩
  obtain ⟨g, cap, hv, _, hlt⟩ := World.ownsRow.form h (by omega)
  injection hv with h1 h2 h3
  subst h1
  obtain ⟨c0, c1, c2, c3, c4⟩ := ccells_get l j (by omega)
  have e : ∀ x, (Addr.add ⟨g, 0, none⟩ x) = ⟨g, 0 + x, none⟩ := fun x => by unfold Addr.add; by_cases h0 : x = 0 <;> simp [h0]
  have k0 := World.ownsRow.cells h (g := g) rfl _ _ c0
  have k1 := World.ownsRow.cells h (g := g) rfl _ _ c1
  have k2 := World.ownsRow.cells h (g := g) rfl _ _ c2
  have k3 := World.ownsRow.cells h (g := g) rfl _ _ c3
  have k4 := World.ownsRow.cells h (g := g) rfl _ _ c4
  rw [e] at k0 k1 k2 k3 k4
  exact ⟨g, 0, rfl, hlt, k0, by rw [Nat.add_assoc]; exact k1, by rw [Nat.add_assoc]; exact k2, by rw [Nat.add_assoc]; exact k3, by rw [Nat.add_assoc]; exact k4⟩
end Go.Proofs.YtebflhlgcpbikaaGreat

namespace Go.Proofs.YtebflhlgcpbikaaGreat
open Go.RowKit
open SemP
set_option linter.unusedVariables false
set_option linter.unusedSimpArgs false
set_option maxRecDepth 100000

theorem RdC.more {w : World} {B B' n : Nat} {A : Option Addr} {l : List CV} (h : RdC w B A n l) (hB : B ≤ B') : RdC w B' A n l := ⟨h.1, fun j hj => by
  obtain ⟨b, off, e, hlt, r⟩ := h.2 j hj
  exact ⟨b, off, e, by omega, r⟩⟩
theorem RdC.keep {w w' : World} {B n : Nat} {A : Option Addr} {l : List CV} (h : RdC w B A n l) (hk : ∀ b off, A = some ⟨b, off, none⟩ → b < B → w'.heap[b]? = w.heap[b]?) : RdC w' B A n l := ⟨h.1, fun j hj => by
  obtain ⟨b, off, e, hlt, h0, h1, h2, h3, h4⟩ := h.2 j hj
  have hb := hk b off e hlt
  exact ⟨b, off, e, hlt, (World.cell?_of_block hb).trans h0, (World.cell?_of_block hb).trans h1, (World.cell?_of_block hb).trans h2, (World.cell?_of_block hb).trans h3, (World.cell?_of_block hb).trans h4⟩⟩
/-- A list of the result so far, apart from the outer row and from the box. -/
def InL (w : World) (b5 : Nat) (v : Value) (A : Option Addr) (n : Nat) (l : List CV) : Prop := RdC w w.heap.size A n l ∧ ∀ b off, A = some ⟨b, off, none⟩ → v.ownBlock ≠ some b ∧ b5 < b ∧ b < w.heap.size
theorem InL.below {w w' : World} {b5 n : Nat} {v : Value} {A : Option Addr} {l : List CV} (h : InL w b5 v A n l) (hb : Below w.heap.size w w') : InL w' b5 v A n l := ⟨(h.1.below hb).more hb.size, fun b off e => ⟨(h.2 b off e).1, (h.2 b off e).2.1, Nat.lt_of_lt_of_le (h.2 b off e).2.2 hb.size⟩⟩
theorem InL.grown {w w' : World} {b5 n : Nat} {v v' : Value} {A : Option Addr} {l : List CV} (h : InL w b5 v A n l) (hg : w.grownBy w' v.ownBlock) (hv : v'.ownBlock = v.ownBlock ∨ v'.ownBlock = some w.heap.size) : InL w' b5 v' A n l := by
  refine ⟨(h.1.keep fun b off e hlt => hg.block b hlt (fun e2 => (h.2 b off e).1 e2.symm)).more hg.size, fun b off e => ⟨?_, (h.2 b off e).2.1, Nat.lt_of_lt_of_le (h.2 b off e).2.2 hg.size⟩⟩
  rcases hv with hv | hv
  · rw [hv]; exact (h.2 b off e).1
  · rw [hv]
    intro e2
    injection e2 with e2
    have := (h.2 b off e).2.2
    omega
/-- The outer row. -/
def OwnV (w : World) (base : Nat) (v : Value) (vs : List Value) : Prop := w.ownsRow base 113 1 v vs.length vs
theorem OwnV.shape {w : World} {base : Nat} {v : Value} {l : List Value} (h : OwnV w base v l) : ∃ A c, v = .slice A l.length c := by
  rcases h.2 with ⟨rfl, h0⟩ | ⟨g, cap, cur, rfl, _⟩
  · exact ⟨none, 0, by rw [h0]⟩
  · exact ⟨some ⟨g, 0, none⟩, cap, rfl⟩
/-- What the outer row bears: a slice value for each list. -/
def RowL (w : World) (b5 : Nat) (v : Value) (vs : List Value) (r : List (List CV)) : Prop := vs.length = r.length ∧ ∀ j, j < r.length → ∃ A n c, vs[j]? = some (.slice A n c) ∧ InL w b5 v A n (lsAt r j)
theorem RowL.nil (w : World) (b5 : Nat) (v : Value) : RowL w b5 v [] [] := ⟨rfl, fun j h => absurd h (by simp)⟩
theorem RowL.map {w w' : World} {b5 : Nat} {v v' : Value} {vs : List Value} {r : List (List CV)} (h : RowL w b5 v vs r) (hm : ∀ A n l, InL w b5 v A n l → InL w' b5 v' A n l) : RowL w' b5 v' vs r := ⟨h.1, fun j hj => by
  obtain ⟨A, n, c, e, hi⟩ := h.2 j hj
  exact ⟨A, n, c, e, hm _ _ _ hi⟩⟩
theorem RowL.rd {w : World} {b5 base m c : Nat} {A : Option Addr} {vs : List Value} {r : List (List CV)} (h : RowL w b5 (.slice A m c) vs r) (ho : OwnV w base (.slice A m c) vs) (hm : r.length = m) : RdR w w.heap.size A m r := by
  refine ⟨hm, fun j hj => ?_⟩
  obtain ⟨Aj, nj, cj, e, hi⟩ := h.2 j (by omega)
  obtain ⟨g, cap, hv, _, hlt⟩ := World.ownsRow.form ho (by rw [h.1]; omega)
  injection hv with h1 h2 h3
  subst h1
  have k := World.ownsRow.cells ho (g := g) rfl _ _ e
  have ee : (Addr.add ⟨g, 0, none⟩ j) = ⟨g, 0 + j, none⟩ := by unfold Addr.add; by_cases h0 : j = 0 <;> simp [h0]
  rw [ee] at k
  exact ⟨g, 0, Aj, nj, cj, rfl, hlt, k, hi.1⟩
end Go.Proofs.YtebflhlgcpbikaaGreat

namespace Go.Proofs.YtebflhlgcpbikaaGreat
open Go.RowKit
open SemP
set_option linter.unusedVariables false
set_option linter.unusedSimpArgs false
set_option maxRecDepth 100000

def rA : List (List CV) := [[⟨6, 0, 2, 3, ⟨#[]⟩⟩]]
def rB : List (List CV) := [[⟨5, 1, 0, 0, ⟨#[]⟩⟩, ⟨2, 2, 0, 0, ⟨#[]⟩⟩], [⟨1, 3, 0, 0, ⟨#[]⟩⟩]]
theorem hA1 : hasR rA ⟨0, 2, 9, []⟩ = true := by kernel_rfl
theorem hB1 : hasR rB ⟨3, 0, 0, []⟩ = true := by kernel_rfl
theorem hB2 : hasR rB ⟨2, 0, 0, []⟩ = false := by kernel_rfl
end Go.Proofs.YtebflhlgcpbikaaGreat

namespace SemP
open Go.Lib
end SemP
namespace Go.Proofs.YtebflhlgcpbikaaGreat
open Go.RowKit
open SemP
set_option linter.unusedSimpArgs false
theorem right3 {a b c : Int} : Ver.right ⟨a, b, c, []⟩ = (rightN a && rightN b && rightN c) := by unfold Ver.right; simp
theorem rightN_of {n : Int} (h : 0 ≤ n ∧ n ≤ 999999) : rightN n = true := by unfold rightN; simp; omega
theorem rightN_not {n : Int} (h : ¬ (0 ≤ n ∧ n ≤ 999999)) : rightN n = false := by unfold rightN; simp; omega
theorem right_nums {a b c : Int} {p : Str} (h : Ver.right ⟨a, b, c, p⟩ = true) : (0 ≤ a ∧ a ≤ 999999) ∧ (0 ≤ b ∧ b ≤ 999999) ∧ (0 ≤ c ∧ c ≤ 999999) := by
  unfold Ver.right rightN at h
  simp at h
  omega
/-- The upper ends, said outright. -/
theorem end_of {op a b c : Int} {p : Str} {e : Ver} (h : Ver.right ⟨a, b, c, p⟩ = true) (hp : Ver.bump ⟨a, b, c, []⟩ (partOf op ⟨a, b, c, p⟩) = e) : endR op ⟨a, b, c, p⟩ = if e.right = true then some e else none := by
  have hn := right_nums h
  have h0 : Ver.right ⟨a, b, c, []⟩ = true := by rw [right3, rightN_of hn.1, rightN_of hn.2.1, rightN_of hn.2.2]; rfl
  unfold endR
  simp only [hp]
  by_cases he : e.right = true
  · rw [if_pos ⟨h0, he⟩, if_pos he]
  · rw [if_neg (fun h => he h.2), if_neg he]
theorem end_tilde {a b c : Int} {p : Str} (h : Ver.right ⟨a, b, c, p⟩ = true) : endR 7 ⟨a, b, c, p⟩ = if b < 999999 then some ⟨a, b + 1, 0, []⟩ else none := by
  have hn := right_nums h
  rw [end_of (e := ⟨a, b + 1, 0, []⟩) h rfl, right3, rightN_of hn.1]
  by_cases hb : b < 999999
  · rw [rightN_of (by omega), rightN_of (show (0 : Int) ≤ 0 ∧ (0 : Int) ≤ 999999 by omega), if_pos hb]; rfl
  · rw [rightN_not (by omega), if_neg hb]; rfl
theorem end_caret {a b c : Int} {p : Str} (h : Ver.right ⟨a, b, c, p⟩ = true) : endR 6 ⟨a, b, c, p⟩ =
    if 0 < a then (if a < 999999 then some ⟨a + 1, 0, 0, []⟩ else none) else if 0 < b then (if b < 999999 then some ⟨a, b + 1, 0, []⟩ else none) else (if c < 999999 then some ⟨a, b, c + 1, []⟩ else none) := by
  have hn := right_nums h
  have z : rightN 0 = true := rightN_of (by omega)
  by_cases ha : 0 < a
  · have hp : partOf 6 ⟨a, b, c, p⟩ = 0 := by unfold partOf; rw [if_neg (by decide), if_pos ha]
    rw [end_of (e := ⟨a + 1, 0, 0, []⟩) h (by rw [hp]; rfl), if_pos ha, right3, z]
    by_cases h9 : a < 999999
    · rw [rightN_of (by omega), if_pos h9]; rfl
    · rw [rightN_not (by omega), if_neg h9]; rfl
  · rw [if_neg ha]
    by_cases hb : 0 < b
    · have hp : partOf 6 ⟨a, b, c, p⟩ = 1 := by unfold partOf; rw [if_neg (by decide), if_neg ha, if_pos hb]
      rw [end_of (e := ⟨a, b + 1, 0, []⟩) h (by rw [hp]; rfl), if_pos hb, right3, z, rightN_of hn.1]
      by_cases h9 : b < 999999
      · rw [rightN_of (by omega), if_pos h9]; rfl
      · rw [rightN_not (by omega), if_neg h9]; rfl
    · have hp : partOf 6 ⟨a, b, c, p⟩ = 2 := by unfold partOf; rw [if_neg (by decide), if_neg ha, if_neg hb]
      rw [end_of (e := ⟨a, b, c + 1, []⟩) h (by rw [hp]; rfl), if_neg hb, right3, rightN_of hn.1, rightN_of hn.2.1]
      by_cases h9 : c < 999999
      · rw [rightN_of (by omega), if_pos h9]; rfl
      · rw [rightN_not (by omega), if_neg h9]; rfl
theorem has6 (c v : Ver) : hasC 6 c v = (decide (0 ≤ cmpV v c) && (match endR 6 c with
    | none => true
    | some e => decide (cmpV v e < 0))) := rfl
theorem has7 (c v : Ver) : hasC 7 c v = (decide (0 ≤ cmpV v c) && (match endR 7 c with
    | none => true
    | some e => decide (cmpV v e < 0))) := rfl
end Go.Proofs.YtebflhlgcpbikaaGreat

namespace Go.Proofs.YtebflhlgcpbikaaGreat
open Go.RowKit
open SemP
set_option linter.unusedSimpArgs false
/-- The version that the document's Upper makes. -/
def upV (op a b c : Int) : Int × Int × Int := if op = 6 ∧ 0 < a then (a + 1, 0, 0) else if op = 6 ∧ b = 0 then (0, 0, c + 1) else (a, b + 1, 0)
theorem up_endR {op a b c : Int} {p : Str} (h : Ver.right ⟨a, b, c, p⟩ = true) (ho : op = 6 ∨ op = 7) :
    endR op ⟨a, b, c, p⟩ = if Ver.right ⟨(upV op a b c).1, (upV op a b c).2.1, (upV op a b c).2.2, []⟩ = true then some ⟨(upV op a b c).1, (upV op a b c).2.1, (upV op a b c).2.2, []⟩ else none := by
  have hn := right_nums h
  have z : rightN 0 = true := rightN_of (by omega)
  rcases ho with rfl | rfl
  · rw [end_caret h]
    unfold upV
    by_cases ha : 0 < a
    · rw [if_pos ha, if_pos (show (6 : Int) = 6 ∧ 0 < a from ⟨rfl, ha⟩)]
      simp only
      rw [right3, z]
      by_cases h9 : a < 999999
      · rw [rightN_of (by omega), if_pos h9]; rfl
      · rw [rightN_not (by omega), if_neg h9]; rfl
    · rw [if_neg ha, if_neg (show ¬ ((6 : Int) = 6 ∧ 0 < a) from fun h => ha h.2)]
      by_cases hb : 0 < b
      · rw [if_pos hb, if_neg (show ¬ ((6 : Int) = 6 ∧ b = 0) from fun h => by have := h.2; omega)]
        simp only
        rw [right3, z, rightN_of hn.1]
        by_cases h9 : b < 999999
        · rw [rightN_of (by omega), if_pos h9]; rfl
        · rw [rightN_not (by omega), if_neg h9]; rfl
      · have hb0 : b = 0 := by omega
        have ha0 : a = 0 := by omega
        subst hb0 ha0
        rw [if_neg hb, if_pos (show (6 : Int) = 6 ∧ (0 : Int) = 0 from ⟨rfl, rfl⟩)]
        simp only
        rw [right3, z]
        by_cases h9 : c < 999999
        · rw [rightN_of (by omega), if_pos h9]; rfl
        · rw [rightN_not (by omega), if_neg h9]; rfl
  · rw [end_tilde h]
    unfold upV
    rw [if_neg (show ¬ ((7 : Int) = 6 ∧ 0 < a) from fun h => absurd h.1 (by decide)), if_neg (show ¬ ((7 : Int) = 6 ∧ b = 0) from fun h => absurd h.1 (by decide))]
    simp only
    rw [right3, z, rightN_of hn.1]
    by_cases h9 : b < 999999
    · rw [rightN_of (by omega), if_pos h9]; rfl
    · rw [rightN_not (by omega), if_neg h9]; rfl
end Go.Proofs.YtebflhlgcpbikaaGreat

namespace Go.Proofs.YtebflhlgcpbikaaGreat
open Go.RowKit
open SemP
set_option linter.unusedVariables false
set_option linter.unusedSimpArgs false
set_option maxRecDepth 100000

/-- The range of one comparison, in memory. -/
def OfAt (w : World) (x : CV) (v : Value) : Prop := ∃ g B, v = .agg #[.slice (some ⟨g, 0, none⟩) 1 1] ∧ B ≤ w.heap.size ∧ RdR w B (some ⟨g, 0, none⟩) 1 [[x]]
theorem OfAt.below {w w' : World} {x : CV} {v : Value} (h : OfAt w x v) (hb : Below w.heap.size w w') : OfAt w' x v := by
  obtain ⟨g, B, e, hB, hr⟩ := h
  exact ⟨g, B, e, Nat.le_trans hB hb.size, hr.below (hb.mono hB)⟩
theorem OfAt.drew {w : World} {x : CV} {v : Value} (h : OfAt w x v) : OfAt { w with drawn := w.drawn + 1 } x v := h
section
variable {P : Program} {ops : Array Oper} {Q : Exit → Act → World → Prop}
theorem wpOp_want {i : Nat} {o : Oper} {a : Act} {w : World} {K0 : Act → World → Prop} (ho : ops[i]? = some o) (j : Nat) (b : Bool) (hg : o.guard = some (j, b)) (hy : yielded ops a.tmps j = some b)
    (h : ∀ K : Act → World → Prop, Hid (∀ a' w', K0 a' w' → K a' w') → o.wp P a w K Q) : wpOp P ops Q i K0 a w := by
  unfold wpOp
  rw [ho]
  have hw : Region.wanted o (yielded ops a.tmps) = true := by unfold Region.wanted; rw [hg]; simp [hy]
  simp only [hw, if_true]
  exact .inl (h K0 (Lib.hid fun _ _ h => h))
end
end Go.Proofs.YtebflhlgcpbikaaGreat
