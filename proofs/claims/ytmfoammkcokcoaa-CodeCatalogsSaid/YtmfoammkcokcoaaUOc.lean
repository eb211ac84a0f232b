/-
  A CATALOGUE THAT CAME IN, opened.
-/
import Derived.Test.YtmfoammkcokcoaaUOg
import Derived.Deep.Slices
import Derived.ChangeSame
import Derived.OpenShut
namespace Go.Proofs.Ytmfoammkcokcoaa
open Go.RowKit
open ByteP CodeP
open Go.ChangeShapes Go.WideShapes Go.Deep
set_option linter.unusedVariables false
section
variable {H : Type} {enc : TypeId × Value → H} {w : World} {held : Bool}
theorem opn_needs : Opn enc w held 96 psI := Opn.sl Try.underlying96 (by kernel_rfl) (by omega) (Opn.tw Try.underlying107 rfl rfl rfl rfl (by kernel_rfl) (by kernel_rfl) (Opn.int 3 Try.underlying3) opn_range)
theorem opn_release : Opn enc w held 98 reI := Opn.th Try.underlying98 rfl rfl rfl rfl rfl (by kernel_rfl) (by kernel_rfl) (by kernel_rfl) opn_ver (Opn.int 3 Try.underlying3) opn_needs
theorem opn_releases : Opn enc w held 88 rsI := Opn.sl Try.underlying88 (by kernel_rfl) (by omega) opn_release
theorem opn_service : Opn enc w held 90 svI := Opn.tw Try.underlying90 rfl rfl rfl rfl (by kernel_rfl) (by kernel_rfl) (Opn.str 9 Try.underlying9) opn_releases
theorem opn_services : Opn enc w held 22 ssI := Opn.sl Try.underlying22 (by kernel_rfl) (by omega) opn_service
theorem opn_catalog : Opn enc w held 24 ssI := Opn.one Try.underlying24 rfl rfl rfl (by kernel_rfl) opn_services
set_option maxRecDepth 20000 in
theorem open_catalog {r : Reach} {base : Nat} {v : Value} {d : DataW H} {ps : List MemPlace} (hval : Value.okWide Try.prog w r base 24 v) (h : DataW.Trod enc Try.prog w 0 (fun _ => true) held 24 v d ps) :
    ∃ (A : Option Addr) (n c : Nat) (l : List Sv), v = .agg #[.slice A n c] ∧ n = l.length ∧ RdG 2 svI w (fun b => w.heap.size ≤ b) A n l := by
  obtain ⟨cs, rfl, hsz⟩ := okWide_struct Try.underlying24 hval
  obtain ⟨fuel, hf0⟩ := h
  obtain ⟨l, hq⟩ := opn_catalog hf0
  obtain ⟨A, n, c, e, hr⟩ := hq
  refine ⟨A, n, c, l, ?_, hr.1.symm, hr⟩
  have e2 : cs.toList = [.slice A n c] := e
  rw [show cs = (cs.toList).toArray by simp, e2]
end
end Go.Proofs.Ytmfoammkcokcoaa
