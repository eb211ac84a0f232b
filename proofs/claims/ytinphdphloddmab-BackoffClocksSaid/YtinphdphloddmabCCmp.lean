/-
  CONTRACTS of the clock's closure over this translation: cmp.Compare, cmp.Or, and the closure of Due.
-/
import Derived.Test.YtinphdphloddmabCClock
import Derived.Maps.RangeWalk
import Derived.StillTailTactics
import Derived.Deep.QuietTactic
import Derived.BigQuiet
import Derived.IntWalk
import Derived.Lib.Hide
namespace Go.Proofs.Ytinphdphloddmab
open Go.RowKit Go.Maps
set_option linter.unusedVariables false
set_option maxRecDepth 10000

def cmpI (x y : Int) : Int := if x < y then -1 else if y < x then 1 else 0
theorem nan_any (x : Int) (w : World) : Calls Try.prog 69 #[.int .i64 x] w fun e w' => e = .returned (.bool false) ∧ w = w' := by
  go_enter Try.func69, Try.ntmps69
  go_wp2
  go_ret
  exact ⟨rfl, rfl⟩
theorem cmp_any (x y : Int) (w : World) : Calls Try.prog 57 #[.int .i64 x, .int .i64 y] w fun e w' => e = .returned (.int .i64 (cmpI x y)) ∧ w' = w := by
  by_cases h1 : x < y
  · have d1 : decide (x < y) = true := by simp; omega
    have e : cmpI x y = -1 := by unfold cmpI; rw [if_pos h1]
    rw [e]
    clear e
    go_enter Try.func57, Try.ntmps57
    go_wp2_with (go_at_call 69; refine (nan_any _ _).mono ?_; rintro e w' ⟨rfl, rfl⟩)
    go_ret
    exact ⟨rfl, rfl⟩
  · have d1 : decide (x < y) = false := by simp; omega
    by_cases h2 : y < x
    · have d2 : decide (y < x) = true := by simp; omega
      have e : cmpI x y = 1 := by unfold cmpI; rw [if_neg h1, if_pos h2]
      rw [e]
      clear e
      go_enter Try.func57, Try.ntmps57
      go_wp2_with (go_at_call 69; refine (nan_any _ _).mono ?_; rintro e w' ⟨rfl, rfl⟩)
      go_ret
      exact ⟨rfl, rfl⟩
    · have d2 : decide (y < x) = false := by simp; omega
      have e : cmpI x y = 0 := by unfold cmpI; rw [if_neg h1, if_neg h2]
      rw [e]
      clear e
      go_enter Try.func57, Try.ntmps57
      go_wp2_with (go_at_call 69; refine (nan_any _ _).mono ?_; rintro e w' ⟨rfl, rfl⟩)
      go_ret
      exact ⟨rfl, rfl⟩
def orI (a b : Int) : Int := if a = 0 then b else a
theorem or_any {w : World} {g : Nat} {a b : Int} (h0 : w.cell? ⟨g, 0, none⟩ = some (.int .i64 a)) (h1 : w.cell? ⟨g, 1, none⟩ = some (.int .i64 b)) :
    Calls Try.prog 56 #[.slice (some ⟨g, 0, none⟩) 2 2] w fun e w' => e = .returned (.int .i64 (orI a b)) ∧ w' = w := by
  by_cases ha : a = 0
  · subst ha
    rw [show orI 0 b = b from if_pos rfl]
    by_cases hb : b = 0
    · subst hb
      go_enter Try.func56, Try.ntmps56
      go_wp2
      refine wp_loop_rounds 3 ?_
      rw [rounds_succ]
      go_wp2
      rw [rounds_succ]
      go_wp2
      rw [rounds_succ]
      go_wp2
      go_ret
      exact ⟨rfl, rfl⟩
    · have hbe : (b == 0) = false := by simp; omega
      go_enter Try.func56, Try.ntmps56
      go_wp2
      refine wp_loop_rounds 2 ?_
      rw [rounds_succ]
      go_wp2
      rw [rounds_succ]
      go_wp2
      go_ret
      exact ⟨rfl, rfl⟩
  · have hae : (a == 0) = false := by simp; omega
    rw [show orI a b = a from if_neg ha]
    go_enter Try.func56, Try.ntmps56
    go_wp2
    refine wp_loop_rounds 1 ?_
    rw [rounds_succ]
    go_wp2
    go_ret
    exact ⟨rfl, rfl⟩

/-- The closure: it reads the alarms, and makes one block. -/
theorem closure_any {W : World} {vb cb bm : Nat} {x y tx ty : Int} (hv : W.cell? ⟨vb, 0, none⟩ = some (.pointer (some ⟨cb, 0, none⟩))) (h1 : W.cell? ⟨cb, 1, none⟩ = some (.map (some bm)))
    (hx : (Instr.lookup 95 (.map (some bm)) (.int .i64 x) false).run Try.prog W.drew = .ok (.int .i64 tx) W.drew) (hy : (Instr.lookup 95 (.map (some bm)) (.int .i64 y) false).run Try.prog W.drew = .ok (.int .i64 ty) W.drew) :
    Calls Try.prog 55 #[.int .i64 x, .int .i64 y, .pointer (some ⟨vb, 0, none⟩)] W fun e w' => e = .returned (.int .i64 (orI (cmpI tx ty) (cmpI x y))) ∧ ∃ o, w' = (W.drewN 1).alloc o := by
  go_enter Try.func55, Try.ntmps55
  go_wp2_with fail
  refine wp_region_still_tail 16 (by kernel_rfl) (by kernel_rfl) ?_
  simp only [List.take_succ_cons, List.take_zero, List.drop_succ_cons, List.drop_zero]
  repeat still_step
  still_call (cmp_any tx ty _)
  repeat still_step
  still_call (cmp_any x y _)
  try refine wpStill_nil ?_
  obtain ⟨W1, HW1⟩ : ∃ W1, Hid (W1 = W.drewN 1) := ⟨_, Lib.hid rfl⟩
  have e1 : ({ heap := W.heap, tape := W.tape, drawn := W.drawn + 1, os := W.os, output := W.output } : World) = W1 := HW1.out.symm
  rw [e1]
  generalize hp : cmpI tx ty = p
  generalize hq : cmpI x y = q
  have HP := Lib.hid hp
  have HQ := Lib.hid hq
  clear hp hq
  have hb := heap_alloc_new W1 (.cells #[.int .i64 p, .int .i64 q] 3)
  have b0 : (W1.alloc (.cells #[.int .i64 p, .int .i64 q] 3)).cell? ⟨W1.heap.size, 0, none⟩ = some (.int .i64 p) := by simp only [World.cell?, hb]; rfl
  have b1 : (W1.alloc (.cells #[.int .i64 p, .int .i64 q] 3)).cell? ⟨W1.heap.size, 1, none⟩ = some (.int .i64 q) := by simp only [World.cell?, hb]; rfl
  have HOR := Lib.hid (or_any b0 b1)
  clear hb b0 b1 e1 hv h1 hx hy
  go_wp2_with (go_at_call 56; refine HOR.out.mono ?_; rintro e w' ⟨rfl, rfl⟩)
  go_ret
  exact ⟨by rw [HP.out, HQ.out]; rfl, _, by rw [HW1.out]⟩
end Go.Proofs.Ytinphdphloddmab
