/-
  CONTRACT of package choose: Place, for a count of one at least.
-/
import Derived.Test.YtfcabdgidlnljaaDoorLLaw0
import Derived.Test.YtfcabdgidlnljaaDoorLWayP
namespace Go.Proofs.YtfcabdgidlnljaaDoor
open Go.RowKit
open DiP
set_option linter.unusedVariables false
set_option linter.unusedSimpArgs false
set_option maxRecDepth 100000
set_option maxHeartbeats 1000000 in
theorem place_any {w : World} {n : Nat} {p : Int} (h1 : 1 ≤ n) (h2 : n ≤ 64) (hp : -9223372036854775808 ≤ p ∧ p ≤ 9223372036854775807) :
    Calls Tryd.prog 32 #[.int .i64 (n : Int), .int .i64 p] w fun e w' => e = .returned (.int .i64 (plc n p : Int)) ∧ w = w' := by
  have hd1 : decide ((n : Int) < 1) = false := decide_eq_false (by omega)
  have hcn : IntKind.u64.wrap (n : Int) = (n : Int) := by rw [IntKind.wrap_u64]; omega
  have hn0 : ¬ n = 0 := by omega
  have HP := Lib.hid hp
  have HN := Lib.hid (And.intro h1 h2)
  clear h1 h2
  by_cases h : p < 0
  · have hd : decide (p < 0) = true := decide_eq_true h
    have e1 : IntKind.u64.wrap p = p + 18446744073709551616 := by rw [IntKind.wrap_u64]; omega
    have e2 : IntKind.u64.wrap (-(p + 18446744073709551616)) = -p := by rw [IntKind.wrap_u64]; omega
    clear hp
    go_enter Tryd.func32, Tryd.ntmps32
    go_wp2_with fail
    go_ret
    refine ⟨?_, rfl⟩
    have e3 : -p.tmod (n : Int) = ((plc n p : Nat) : Int) := by
      obtain ⟨q, rfl⟩ : ∃ q : Nat, p = -(q : Int) := ⟨p.natAbs, by omega⟩
      unfold plc
      rw [Int.neg_tmod, Int.neg_neg, Int.natAbs_neg, Int.natAbs_natCast, ← Int.ofNat_tmod]
    have h3 := plc_lt (by have := HN.out; omega) p (n := n)
    rw [e3, show wrap64 ((plc n p : Nat) : Int) = ((plc n p : Nat) : Int) by have := HN.out; unfold wrap64; omega]
    rfl
  · have hd : decide (p < 0) = false := decide_eq_false h
    have e1 : IntKind.u64.wrap p = p := by rw [IntKind.wrap_u64]; omega
    clear hp
    go_enter Tryd.func32, Tryd.ntmps32
    go_wp2_with fail
    go_ret
    refine ⟨?_, rfl⟩
    have e3 : p % (n : Int) = ((plc n p : Nat) : Int) := by
      obtain ⟨q, rfl⟩ : ∃ q : Nat, p = (q : Int) := ⟨p.natAbs, by omega⟩
      unfold plc
      rw [Int.natAbs_natCast, Int.natCast_emod]
    have h3 := plc_lt (by have := HN.out; omega) p (n := n)
    rw [e3, show wrap64 ((plc n p : Nat) : Int) = ((plc n p : Nat) : Int) by have := HN.out; unfold wrap64; omega]
    rfl
end Go.Proofs.YtfcabdgidlnljaaDoor
