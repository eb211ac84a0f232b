/-
  CONTRACTS of the clock over this translation: Clear, Ready; Set and Tick that refuse.
-/
import Derived.Test.YtinphdphloddmabCSort
namespace Go.Proofs.Ytinphdphloddmab
open Go.RowKit
open ByteP
set_option linter.unusedVariables false
set_option maxRecDepth 10000

def delG (G : Int → Option Int) (k : Int) : Int → Option Int := fun x => if x = k then none else G x
theorem AlD.del {D : DataW Unit} {G : Int → Option Int} (h : AlD D G) (k : Int) : AlD (D.del (kI k)) (delG G k) := fun x => by
  unfold delG
  by_cases e : x = k
  · subst e
    rw [if_pos rfl]
    exact ⟨Maps.has_del_same, fun f' hf => by cases hf⟩
  · rw [if_neg e]
    have hne : kI x ≠ kI k := fun h => e (kI_inj h)
    exact ⟨(Maps.has_del_other hne).trans (h x).1, fun f' hf z => (Maps.atKey_del_other hne z).trans ((h x).2 f' hf z)⟩
theorem look_alok {w : World} {bm n : Nat} {D : DataW Unit} {G : Int → Option Int} (hown : w.ownsMap Try.prog 3 (plainElem Try.prog 3) bm n D) (hG : AlD D G) (x : I64) :
    (Instr.lookup 95 (.map (some bm)) (.int .i64 x.1) true).run Try.prog w = .ok (.tuple #[.int .i64 (tOf G x.1), .bool (G x.1).isSome]) w := by
  obtain ⟨v2, ps2, hrun2, hv2⟩ := hown.look_ok lawI Try.underlying95 (zeroI w) (zd := .lit (.int .i64 0)) (zp := []) (plainElem_int Try.underlying3 (i64_wf 0 (by omega) (by omega))) (keyI x.2.1 x.2.2)
  have hat : D.atKey (kI x.1) (.lit (.int .i64 0)) = .lit (.int .i64 (tOf G x.1)) := by
    unfold tOf
    cases hg : G x.1 with
    | some t => exact (hG x.1).2 t hg _
    | none => rw [Maps.atKey_of_not_has (by rw [(hG x.1).1, hg]; rfl)]; rfl
  rw [hat] at hv2
  obtain ⟨c, rfl, hcc⟩ := plainElem_int_inv Try.underlying3 hv2
  have e : tOf G x.1 = c := by
    have h := hcc.1
    injection h with h1 h2
    injection h1 with h1
    injection h1
  rw [e, ← (hG x.1).1]; exact hrun2
section
variable {w : World} {cb bm n : Nat} {now : Int} {D : DataW Unit} {G : Int → Option Int}
theorem clear_any (hc : Clk w cb bm now n D) (hG : AlD D G) (x : I64) :
    Calls Try.prog 33 #[.pointer (some ⟨cb, 0, none⟩), .int .i64 x.1] w fun e w' => e = .returned (.bool (G x.1).isSome) ∧ Clk w' cb bm now n (D.del (kI x.1)) ∧ AlD (D.del (kI x.1)) (delG G x.1) ∧ w.grownBy w' (some bm) := by
  have HC := Lib.hid hc
  have HG := Lib.hid hG
  have c1 := hc.c1
  have hl := look_alok hc.own hG x
  clear hc hG
  go_enter Try.func33, Try.ntmps33
  go_wp2_with (first | (at_delete; refine wpList_delete_own _ rfl _ _ 95 3 rfl 3 lawI Try.underlying95 _ bm n D rfl HC.out.own _ (kI x.1) rfl (keyI x.2.1 x.2.2) ?_; intro w1 hown1 hg1))
  obtain ⟨es, clock, es', clock', hb0, rfl⟩ := hg1
  have hb : ∀ g, g ≠ bm → (ChangeMaps.setBlock w bm (.map es' clock')).heap[g]? = w.heap[g]? := fun g hg2 => by
    show (w.heap.setIfInBounds bm (.map es' clock'))[g]? = _
    rw [Array.getElem?_setIfInBounds_ne (fun e => hg2 e.symm)]
  have HG1 : Hid (w.grownBy (ChangeMaps.setBlock w bm (.map es' clock')) (some bm)) := Lib.hid ⟨rfl, rfl, rfl, by show w.heap.size ≤ (w.heap.setIfInBounds bm (.map es' clock')).size; simp, fun i hi hne => hb i (fun e => hne (by rw [e]))⟩
  have HC1 : Hid (Clk (ChangeMaps.setBlock w bm (.map es' clock')) cb bm now n (D.del (kI x.1))) := Lib.hid ⟨(hb cb HC.out.ne).trans HC.out.row, hown1, HC.out.ne⟩
  clear hown1 hb hb0
  go_wp2
  go_ret
  exact ⟨rfl, HC1.out, HG.out.del x.1, HG1.out⟩
theorem set_bad (hc : Clk w cb bm now n D) (id at_ : Int) (h : id < 0 ∨ 999999 < id ∨ at_ < 0 ∨ 1125899906842624 < at_) :
    Calls Try.prog 32 #[.pointer (some ⟨cb, 0, none⟩), .int .i64 id, .int .i64 at_] w fun e w' => e = .returned (.int .i64 12) ∧ w = w' := by
  clear hc
  by_cases a1 : id < 0
  · have d1 : decide (id < 0) = true := by simp; omega
    go_enter Try.func32, Try.ntmps32
    go_wp2
    go_ret
    exact ⟨rfl, rfl⟩
  have d1 : decide (id < 0) = false := by simp; omega
  by_cases a2 : 999999 < id
  · have d2 : decide (999999 < id) = true := by simp; omega
    go_enter Try.func32, Try.ntmps32
    go_wp2
    go_ret
    exact ⟨rfl, rfl⟩
  have d2 : decide (999999 < id) = false := by simp; omega
  by_cases a3 : at_ < 0
  · have d3 : decide (at_ < 0) = true := by simp; omega
    go_enter Try.func32, Try.ntmps32
    go_wp2
    go_ret
    exact ⟨rfl, rfl⟩
  have d3 : decide (at_ < 0) = false := by simp; omega
  have d4 : decide (1125899906842624 < at_) = true := by simp; omega
  go_enter Try.func32, Try.ntmps32
  go_wp2
  go_ret
  exact ⟨rfl, rfl⟩
theorem tick_form (hc : Clk w cb bm now n D) (k : Int) (h : k < 0 ∨ 1099511627776 < k) :
    Calls Try.prog 34 #[.pointer (some ⟨cb, 0, none⟩), .int .i64 k] w fun e w' => e = .returned (.int .i64 12) ∧ w = w' := by
  clear hc
  by_cases a1 : k < 0
  · have d1 : decide (k < 0) = true := by simp; omega
    go_enter Try.func34, Try.ntmps34
    go_wp2
    go_ret
    exact ⟨rfl, rfl⟩
  have d1 : decide (k < 0) = false := by simp; omega
  have d2 : decide (1099511627776 < k) = true := by simp; omega
  go_enter Try.func34, Try.ntmps34
  go_wp2
  go_ret
  exact ⟨rfl, rfl⟩
theorem tick_big (hc : Clk w cb bm now n D) (k : Int) (h0 : 0 ≤ k) (h1 : k ≤ 1099511627776) (h2 : 0 ≤ now) (h3 : now ≤ 1125899906842624) (h4 : 1125899906842624 < now + k) :
    Calls Try.prog 34 #[.pointer (some ⟨cb, 0, none⟩), .int .i64 k] w fun e w' => e = .returned (.int .i64 11) ∧ w = w' := by
  have c0 := hc.c0
  have d1 : decide (k < 0) = false := by simp; omega
  have d2 : decide (1099511627776 < k) = false := by simp; omega
  have hs : IntKind.i64.wrap (now + k) = now + k := IntWalk.i64_in _ (by omega)
  have d3 : decide (1125899906842624 < now + k) = true := by simp; omega
  clear hc
  go_enter Try.func34, Try.ntmps34
  go_wp2
  go_ret
  exact ⟨rfl, rfl⟩
theorem ready_al (hc : Clk w cb bm now n D) (hG : AlD D G) (x : I64) :
    Calls Try.prog 52 #[.pointer (some ⟨cb, 0, none⟩), .int .i64 x.1] w fun e w' => e = .returned (.bool (!(G x.1).isSome || decide (tOf G x.1 ≤ now))) ∧ w = w' := by
  have c0 := hc.c0
  have c1 := hc.c1
  have hl := look_alok hc.own hG x
  clear hc hG
  cases hs : (G x.1).isSome with
  | false =>
    rw [hs] at hl
    go_enter Try.func52, Try.ntmps52
    go_wp2
    go_ret
    exact ⟨rfl, rfl⟩
  | true =>
    rw [hs] at hl
    by_cases hle : tOf G x.1 ≤ now
    · have d1 : decide (tOf G x.1 ≤ now) = true := by simp; omega
      go_enter Try.func52, Try.ntmps52
      go_wp2
      go_ret
      exact ⟨by rw [d1]; rfl, rfl⟩
    · have d1 : decide (tOf G x.1 ≤ now) = false := by simp; omega
      go_enter Try.func52, Try.ntmps52
      go_wp2
      go_ret
      exact ⟨(by first | rfl | (rw [decide_eq_false hle]; rfl) | (have e2 : decide (tOf G x.1 ≤ now) = false := decide_eq_false hle; simp [e2])), rfl⟩
end
end Go.Proofs.Ytinphdphloddmab
