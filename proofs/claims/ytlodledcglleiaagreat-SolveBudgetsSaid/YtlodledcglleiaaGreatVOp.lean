/-
  A REQUEST THAT CAME IN, opened.
-/
import Derived.Test.YtlodledcglleiaaGreatCOp
import Derived.Test.YtlodledcglleiaaGreatCPv
namespace Go.Proofs.YtlodledcglleiaaGreat
open Go.RowKit
open SemP FlP GaP DiP
open Go.ChangeShapes Go.WideShapes Go.Deep
set_option linter.unusedVariables false
def isI : ItT (List Int) := SlI 1 inI
theorem isI.rd {w : World} {M : Nat → Prop} {A : Option Addr} {n c : Nat} {l : List Int} (h : isI w M [.slice A n c] l) : Rd w w.heap.size A n l := by
  obtain ⟨A', n', c', e, _, hr⟩ := h
  injection e with e _
  injection e with e1 e2 e3
  subst e1 e2 e3
  refine ⟨hr.1, fun hn => ?_⟩
  obtain ⟨b, off, vs, e, hb, _, _, _, _⟩ := hr.2 0 hn
  refine ⟨b, off, e, hb, fun j hj => ?_⟩
  obtain ⟨b', off', vs', e', _, _, hl, hc, hi⟩ := hr.2 j hj
  rw [e] at e'
  injection e' with e'
  injection e' with e1 e2 _
  subst e1 e2
  have hi' : vs' = [.int .i64 (l.getD j default)] := hi
  subst hi'
  have := hc 0 _ rfl
  rw [Nat.mul_one, Nat.add_zero] at this
  exact this
theorem capI_of_row {w : World} {a : Option Addr} {len cap : Nat} {zs : List Int}
    (h : (a = none ∧ len = 0 ∧ cap = 0 ∧ zs = []) ∨ ∃ x, a = some x ∧ len ≤ cap ∧ cap ≤ maxLen ∧ zs.length = cap ∧ (∀ i, i < zs.length → w.cell? (x.add i) = some (.int .i64 (zs.getD i 0))) ∧ ∀ n ∈ zs, (Lit.int .i64 n).wf = true) : CapA a len cap := by
  rcases h with ⟨rfl, rfl, rfl, rfl⟩ | ⟨x, rfl, hl, hm, hz, hcell, hwz⟩
  · exact .inl ⟨rfl, rfl, rfl⟩
  · exact .inr ⟨x, rfl, hl, by unfold maxLen at hm; omega⟩
section
variable {H : Type} {enc : TypeId × Value → H} {w : World} {held : Bool}
theorem opn_ints : Opn enc w held 39 isI := Opn.sl Tryz.underlying39 (by kernel_rfl) (by omega) (Opn.int 3 Tryz.underlying3)
theorem opn_pins : Opn enc w held 44 psI := Opn.sl Tryz.underlying44 (by kernel_rfl) (by omega) (Opn.tw Tryz.underlying97 rfl rfl rfl rfl (by kernel_rfl) (by kernel_rfl) (Opn.int 3 Tryz.underlying3) opn_range)
theorem opn_request : Opn enc w held 46 (TwI psI isI) := Opn.tw Tryz.underlying46 rfl rfl rfl rfl (by kernel_rfl) (by kernel_rfl) opn_pins opn_ints
set_option maxRecDepth 20000 in
theorem open_request {r : Reach} {base : Nat} {v : Value} {d : DataW H} {ps : List MemPlace} (hval : Value.okWide Tryz.prog w r base 46 v) (h : DataW.Trod enc Tryz.prog w 0 (fun _ => true) held 46 v d ps) :
    ∃ (A1 A2 : Option Addr) (n1 n2 c1 c2 : Nat) (l : List Nd) (ms : List Int), v = .agg #[.slice A1 n1 c1, .slice A2 n2 c2] ∧ (CapA A1 n1 c1 ∧ CapA A2 n2 c2) ∧ RdJ 2 pnI w (fun b => w.heap.size ≤ b) A1 n1 l ∧ Rd w w.heap.size A2 n2 ms := by
  obtain ⟨cs, rfl, hsz⟩ := okWide_struct Tryz.underlying46 hval
  obtain ⟨fuel, hf0⟩ := h
  obtain ⟨⟨l, ms⟩, hq⟩ := opn_request hf0
  obtain ⟨us, ts, e, h1, h2⟩ := hq
  have h20 := h2
  obtain ⟨A1, n1, c1, rfl, k1, r1⟩ := h1
  obtain ⟨A2, n2, c2, rfl, k2, _⟩ := h2
  refine ⟨A1, A2, n1, n2, c1, c2, l, ms, ?_, ⟨k1, k2⟩, r1, isI.rd h20⟩
  have e2 : cs.toList = [.slice A1 n1 c1, .slice A2 n2 c2] := e
  rw [show cs = (cs.toList).toArray by simp, e2]
end
end Go.Proofs.YtlodledcglleiaaGreat
