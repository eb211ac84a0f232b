/-
  CONTRACTS: slices.Equal at Step, leads.
-/
import Derived.Test.YtminihiecloglaaGreatPCl
namespace Go.Proofs.YtminihiecloglaaGreat
open Go.RowKit
open SemP FlP GaP DiP
set_option linter.unusedVariables false
set_option linter.unusedSimpArgs false
set_option maxRecDepth 10000
theorem neSt (a b c d : Int) (W : World) : (binOp .neq 64 (.agg #[.int .i64 a, .int .i64 b]) (.agg #[.int .i64 c, .int .i64 d])).run Tryz.prog W = .ok (.bool (!((a == c) && (b == d)))) W := by
  have u3 := Tryz.underlying3
  have a3 := Tryz.isAgg3
  have z3 := Tryz.sizeOf3
  have hS : Tryz.prog.underlying 64 = some (.struct (Tryz.prog.fieldsOf 64)) := by kernel_rfl
  have hp : Tryz.prog.stoodInHeld 64 = false := by kernel_rfl
  rw [run_neq_struct, show (10000 : Nat) = 9999 + 1 from rfl, run_equalIn_agg W 9999 64 _ _ hS hp]
  simp only [Program.fieldsOf, Tryz.underlying64]
  go_simp
  by_cases h1 : a = c <;> by_cases h2 : b = d <;> simp [h1, h2]
theorem steps_ext {a b : List StP} (hl : a.length = b.length) (h : ∀ i < a.length, sAt a i = sAt b i) : a = b := by
  apply List.ext_getElem hl
  intro i h1 h2
  have := h i h1
  simpa [sAt, List.getD, h1, h2] using this
set_option maxHeartbeats 4000000 in
theorem equalS_any {w : World} {B B2 n m c d : Nat} {A A2 : Option Addr} {S T : List StP} (hS : RdS w B A n S) (hT : RdS w B2 A2 m T) (hB : B ≤ w.heap.size) (hB2 : B2 ≤ w.heap.size) (hn : n ≤ 1000000) (hm : m ≤ 1000000) :
    Calls Tryz.prog 51 #[.slice A n c, .slice A2 m d] w fun e w' => e = .returned (.bool (decide (S = T))) ∧ Below w.heap.size w w' := by
  have HX := Lib.hid hS
  have HY := Lib.hid hT
  have HXL := Lib.hid hS.len
  have HYL := Lib.hid hT.len
  have HB := Lib.hid hB
  have HB2 := Lib.hid hB2
  clear hS hT hB hB2
  by_cases hmn : n = m
  rotate_left
  · have hne : ((n : Int) != (m : Int)) = true := by rw [bne_iff_ne]; omega
    have HF : Hid (decide (S = T) = false) := Lib.hid (decide_eq_false (fun e => hmn (by rw [← HXL.out, ← HYL.out, e])))
    go_enter Tryz.func51, Tryz.ntmps51
    go_wp2_with fail
    refine bodyPost_ret (results_tmp rfl _ _ _) rfl ⟨?_, Below.refl _ _⟩
    exact congrArg (fun b => Ending.returned (.bool b)) HF.out.symm
  subst hmn
  go_enter Tryz.func51, Tryz.ntmps51
  go_wp2_with fail
  go_loopw [5, 13] (fun _ v wr => ∃ k : Nat, k ≤ n ∧ v = .int .i64 (k : Int) ∧ Hid (Below w.heap.size w wr) ∧ Hid (∀ i, i < k → sAt S i = sAt T i)) (fun _ v _ => n - (intOf v).toNat)
  case atStart => exact ⟨0, Nat.zero_le _, rfl, Lib.hid (Below.refl _ _), Lib.hid (fun i h => absurd h (by omega))⟩
  case round =>
    obtain ⟨wo, hwo⟩ : ∃ x, x = wr := ⟨_, rfl⟩
    subst hwo
    obtain ⟨k, hk, rfl, HBo, HOK⟩ := hrel
    by_cases hkn : k < n
    · have hd : decide ((k : Int) < (n : Int)) = true := by simp; omega
      have hki : (k : Int) < (n : Int) := by omega
      have hk0 : (0 : Int) ≤ (k : Int) := by omega
      have hadd : IntKind.i64.wrap ((k : Int) + 1) = ((k + 1 : Nat) : Int) := by rw [IntWalk.i64_in _ (by omega)]; omega
      obtain ⟨b1, o1, rfl, _, s0, s1⟩ := (HX.out.below (HBo.out.mono HB.out) HB.out).at_ k hkn
      obtain ⟨b2, o2, rfl, _, t0, t1⟩ := (HY.out.below (HBo.out.mono HB2.out) HB2.out).at_ k hkn
      obtain ⟨p1, p2, HP⟩ : ∃ q1 q2, Hid (sAt S k = (q1, q2)) := ⟨_, _, Lib.hid rfl⟩
      obtain ⟨q1, q2, HQ⟩ : ∃ q1 q2, Hid (sAt T k = (q1, q2)) := ⟨_, _, Lib.hid rfl⟩
      rw [HP.out] at s0 s1
      rw [HQ.out] at t0 t1
      replace s0 : wo.cell? ⟨b1, o1 + k * 2, none⟩ = some (.int .i64 p1) := s0
      replace s1 : wo.cell? ⟨b1, o1 + k * 2 + 1, none⟩ = some (.int .i64 p2) := s1
      replace t0 : wo.cell? ⟨b2, o2 + k * 2, none⟩ = some (.int .i64 q1) := t0
      replace t1 : wo.cell? ⟨b2, o2 + k * 2 + 1, none⟩ = some (.int .i64 q2) := t1
      by_cases he : p1 = q1 ∧ p2 = q2
      · obtain ⟨rfl, rfl⟩ := he
        have hEq := fun W => neSt p1 p2 p1 p2 W
        simp only [beq_self_eq_true, Bool.and_self, Bool.not_true] at hEq
        have HE : Hid (sAt S k = sAt T k) := Lib.hid (by rw [HP.out, HQ.out])
        go_wp2_with fail
        go_quiet (fail)
        go_wp2_with fail
        go_roundw
        case rel => exact ⟨k + 1, by omega, by go_num, Lib.hid (by first | exact HBo.out | exact Below.drewN' HBo.out _), Lib.hid (fun i hi => by
          by_cases e : i = k
          · subst e; exact HE.out
          · exact HOK.out i (by omega))⟩
        case measure => simp [intOf]; omega
      · have hne : ((p1 == q1) && (p2 == q2)) = false := by rw [← Bool.not_eq_true, Bool.and_eq_true, beq_iff_eq, beq_iff_eq]; exact he
        have hEq := fun W => neSt p1 p2 q1 q2 W
        simp only [hne, Bool.not_false] at hEq
        have HF : Hid (decide (S = T) = false) := Lib.hid (decide_eq_false (fun e => he (by
          have h1 := HP.out
          rw [e, HQ.out] at h1
          injection h1 with h1 h2
          exact ⟨h1.symm, h2.symm⟩)))
        clear he
        go_wp2_with fail
        go_quiet (fail)
        go_wp2_with fail
        refine bodyPost_ret (results_tmp rfl _ _ _) rfl ⟨?_, by first | exact HBo.out | exact Below.drewN' HBo.out _⟩
        exact congrArg (fun b => Ending.returned (.bool b)) HF.out.symm
    · have hd : decide ((k : Int) < (n : Int)) = false := by simp; omega
      have HF : Hid (decide (S = T) = true) := Lib.hid (decide_eq_true (steps_ext (by rw [HXL.out, HYL.out]) (fun i hi => HOK.out i (by have := HXL.out; omega))))
      go_wp2_with fail
      refine bodyPost_ret (results_tmp rfl _ _ _) rfl ⟨?_, HBo.out⟩
      exact congrArg (fun b => Ending.returned (.bool b)) HF.out.symm
end Go.Proofs.YtminihiecloglaaGreat
