/-
 CONTRACTS: slices.Index, Contains at numbers; IndexFunc, ContainsFunc at pairs.
-/
import Derived.Test.YtolgmoaoheflcaaGMe
import Derived.Test.YtolgmoaoheflcaaGPu
namespace Go.Proofs.Ytolgmoaoheflcaa.Sa
open Go.RowKit
open DiP
set_option linter.unusedVariables false
set_option linter.unusedSimpArgs false
set_option maxRecDepth 10000
theorem mem_ix {xs : List Int} {k : Int} : k ∈ xs ↔ ∃ i, i < xs.length ∧ ix xs i = k := by
 constructor
 ·intro h
  obtain ⟨i, hi, e⟩ := List.getElem_of_mem h
  exact ⟨i, hi, by unfold ix; simp [List.getD, hi, e]⟩
 ·rintro ⟨i, hi, e⟩
  have : ix xs i = xs[i] := by unfold ix; simp [List.getD, hi]
  rw [← e, this]
  exact List.getElem_mem hi
set_option maxHeartbeats 4000000 in
theorem indexI_any {w : World} {B n c : Nat} {A : Option Addr} {xs : List Int} (h : Rd w B A n xs) (hn : n ≤ 1000000) (k : Int) :
 Calls Try.prog 74 #[.slice A n c, .int .i64 k] w fun e w' => ∃ r : Int, e = .returned (.int .i64 r) ∧ (0 ≤ r ↔ k ∈ xs) ∧ Below w.heap.size w w' := by
 have HX := Lib.hid h
 have HL : Hid (xs.length = n) := Lib.hid h.len
 clear h
 go_enter Try.func74, Try.ntmps74
 go_wp2_with fail
 go_loop [5, 8] (fun _ v => ∃ j : Nat, j ≤ n ∧ v = .int .i64 (j : Int) ∧ Hid (∀ i, i < j → ix xs i ≠ k)) (fun _ v => n - (intOf v).toNat)
 case atStart => exact ⟨0, Nat.zero_le _, rfl, Lib.hid (fun i h => absurd h (by omega))⟩
 case round =>
  obtain ⟨j, hj, rfl, HOK⟩ := hrel
  by_cases hjn : j < n
  ·have hd : decide ((j : Int) < (n : Int)) = true := by simp; omega
   have hi : (j : Int) < (n : Int) := by omega
   have hadd : IntKind.i64.wrap ((j : Int) + 1) = ((j + 1 : Nat) : Int) := by rw [IntWalk.i64_in _ (by omega)]; omega
   obtain ⟨b, off, rfl, _, k1⟩ := HX.out.at_ hjn
   obtain ⟨u, HU⟩ : ∃ u, Hid (ix xs j = u) := ⟨_, Lib.hid rfl⟩
   rw [HU.out] at k1
   by_cases he : k = u
   ·have hne : (k == u) = true := by rw [beq_iff_eq]; exact he
    have HY : Hid (k ∈ xs) := Lib.hid (mem_ix.2 ⟨j, by have := HL.out; omega, by rw [HU.out]; exact he.symm⟩)
    clear he
    go_wp2_with fail
    refine bodyPost_ret (results_tmp rfl _ _ _) rfl ⟨_, rfl, ⟨fun _ => HY.out, fun _ => by omega⟩, Below.refl _ _⟩
   ·have hne : (k == u) = false := by rw [beq_eq_false_iff_ne]; exact he
    have HE : Hid (ix xs j ≠ k) := Lib.hid (by rw [HU.out]; exact fun e => he e.symm)
    clear he
    go_wp2_with fail
    go_round
    case rel => exact ⟨j + 1, by omega, by go_num, Lib.hid (fun i hi => by
     by_cases e : i = j
     ·subst e; exact HE.out
     ·exact HOK.out i (by omega))⟩
    case measure => simp [intOf]; omega
  ·have hd : decide ((j : Int) < (n : Int)) = false := by simp; omega
   have HY : Hid (k ∉ xs) := Lib.hid (fun h => by
    obtain ⟨i, hi, e⟩ := mem_ix.1 h
    exact HOK.out i (by have := HL.out; omega) e)
   go_wp2_with fail
   refine bodyPost_ret (results_tmp rfl _ _ _) rfl ⟨_, rfl, ⟨fun h => absurd h (by decide), fun h => absurd h HY.out⟩, Below.refl _ _⟩
set_option maxHeartbeats 4000000 in
theorem contains_any {w : World} {B n c : Nat} {A : Option Addr} {xs : List Int} (h : Rd w B A n xs) (hn : n ≤ 1000000) (k : Int) :
 Calls Try.prog 49 #[.slice A n c, .int .i64 k] w fun e w' => e = .returned (.bool (inB xs k)) ∧ Below w.heap.size w w' := by
 have HI := Lib.hid (indexI_any (c := c) h hn k)
 clear h
 go_enter Try.func49, Try.ntmps49
 go_wp2_with fail
 refine HI.out.mono ?_
 rintro e w1 ⟨r, rfl, hr, hb⟩
 have HR := Lib.hid hr
 have HBB := Lib.hid hb
 clear hr hb
 by_cases h0 : 0 ≤ r
 ·have hd : decide (0 ≤ r) = true := decide_eq_true h0
  go_wp2_with fail
  go_ret
  exact ⟨congrArg (fun b => Ending.returned (.bool b)) (inB_iff.2 (HR.out.1 h0)).symm, HBB.out⟩
 ·have hd : decide (0 ≤ r) = false := decide_eq_false h0
  have HF : Hid (inB xs k = false) := Lib.hid (inB_no.2 (fun h => h0 (HR.out.2 h)))
  go_wp2_with fail
  go_ret
  exact ⟨congrArg (fun b => Ending.returned (.bool b)) HF.out.symm, HBB.out⟩
def prA (l : List Pr) (j : Nat) : Pr := (ea l j, eb l j)
theorem mem_pr {l : List Pr} {x : Pr} : x ∈ l ↔ ∃ i, i < l.length ∧ prA l i = x := by
 have e : ∀ i (h : i < l.length), prA l i = l[i] := fun i hi => by
  unfold prA ea eb; simp [List.getD, hi]
 constructor
 ·intro h
  obtain ⟨i, hi, k⟩ := List.getElem_of_mem h
  exact ⟨i, hi, by rw [e i hi]; exact k⟩
 ·rintro ⟨i, hi, k⟩
  rw [← k, e i hi]
  exact List.getElem_mem hi
set_option maxHeartbeats 4000000 in
theorem idxP_any {w : World} {B n c : Nat} {A : Option Addr} {l : List Pr} (p : Pr → Bool) (g : Nat) (lb : Array Value) (hr : RdE w B A n l) (hB : B ≤ w.heap.size) (hn : n ≤ 1000000)
  (eg : ∀ args w, (callFunc g args).run Try.prog w = .ok (.enter g args) w)
  (hp : ∀ (W : World) (x : Pr), x ∈ l → Below w.heap.size w W → Calls Try.prog g (#[.agg #[.int .i64 x.1, .int .i64 x.2]] ++ lb) W fun e w' => e = .returned (.bool (p x)) ∧ Below w.heap.size w w') :
  Calls Try.prog 75 #[.slice A n c, .func (.func g) #[] lb] w fun e w' => ∃ r : Int, e = .returned (.int .i64 r) ∧ (0 ≤ r ↔ l.any p = true) ∧ Below w.heap.size w w' := by
 have HR := Lib.hid hr
 have HP := Lib.hid hp
 have HB := Lib.hid hB
 have HL := Lib.hid hr.1
 clear hr hp hB
 go_enter Try.func75, Try.ntmps75
 go_wp2_with fail
 go_loopw [5, 8] (fun _ v wr => ∃ j : Nat, j ≤ n ∧ v = .int .i64 (j : Int) ∧ Hid (Below w.heap.size w wr) ∧ Hid (∀ i, i < j → p (prA l i) = false)) (fun _ v _ => n - (intOf v).toNat)
 case atStart => exact ⟨0, Nat.zero_le _, rfl, Lib.hid (Below.refl _ _), Lib.hid (fun i h => absurd h (by omega))⟩
 case round =>
  obtain ⟨j, hj, rfl, HW, HN⟩ := hrel
  by_cases hjn : j < n
  ·have hd : decide ((j : Int) < (n : Int)) = true := by simp; omega
   have hi : (j : Int) < (n : Int) := by omega
   have hadd : IntKind.i64.wrap ((j : Int) + 1) = ((j + 1 : Nat) : Int) := by rw [IntWalk.i64_in _ (by omega)]; omega
   obtain ⟨b, off, rfl, _, k0, k1⟩ := (HR.out.below (HW.out.mono HB.out)).at_ hjn
   have HM : Hid (prA l j ∈ l) := Lib.hid (mem_pr.2 ⟨j, by rw [HL.out]; exact hjn, rfl⟩)
   have hcall := HP.out wr _ HM.out HW.out
   obtain ⟨x1, x2, HX⟩ : ∃ x1 x2, Hid (ea l j = x1 ∧ eb l j = x2) := ⟨_, _, Lib.hid ⟨rfl, rfl⟩⟩
   have HXP : Hid (prA l j = (x1, x2)) := Lib.hid (by unfold prA; rw [HX.out.1, HX.out.2])
   rw [HXP.out] at hcall
   rw [HX.out.1] at k0
   rw [HX.out.2] at k1
   simp only at hcall
   have HC := Lib.hid hcall
   clear hcall
   cases hq : p (x1, x2) with
   | true =>
    have HC2 : Hid (Calls Try.prog g (#[.agg #[.int .i64 x1, .int .i64 x2]] ++ lb) wr fun e w' => e = .returned (.bool true) ∧ Below w.heap.size w w') := Lib.hid (by have := HC.out; rw [hq] at this; exact this)
    have HY : Hid (0 ≤ (j : Int) ↔ l.any p = true) := Lib.hid ⟨fun _ => List.any_eq_true.2 ⟨_, HM.out, by rw [HXP.out]; exact hq⟩, fun _ => by omega⟩
    clear hq HC
    go_wp2_with (go_at_fn g; refine HC2.out.mono ?_; rintro e w' ⟨rfl, hb'⟩)
    go_ret
    exact ⟨_, rfl, HY.out, hb'⟩
   | false =>
    have HC2 : Hid (Calls Try.prog g (#[.agg #[.int .i64 x1, .int .i64 x2]] ++ lb) wr fun e w' => e = .returned (.bool false) ∧ Below w.heap.size w w') := Lib.hid (by have := HC.out; rw [hq] at this; exact this)
    have HY := Lib.hid hq
    clear hq HC
    go_wp2_with (go_at_fn g; refine HC2.out.mono ?_; rintro e w' ⟨rfl, hb'⟩)
    go_roundw
    case rel => exact ⟨j + 1, by omega, by go_num, Lib.hid hb', Lib.hid (fun i hi => by
     by_cases e : i = j
     ·subst e; rw [HXP.out]; exact HY.out
     ·exact HN.out i (by omega))⟩
    case measure => simp [intOf]; omega
  ·have hd : decide ((j : Int) < (n : Int)) = false := by simp; omega
   have HY : Hid (l.any p = false) := Lib.hid (List.any_eq_false.2 fun x hx => by
    obtain ⟨i, hi, rfl⟩ := mem_pr.1 hx
    rw [HN.out i (by have := HL.out; omega)]; simp)
   go_wp2_with fail
   go_ret
   exact ⟨_, rfl, ⟨fun h => absurd h (by decide), fun h => by rw [HY.out] at h; cases h⟩, HW.out⟩
set_option maxHeartbeats 4000000 in
theorem conP_any {w : World} {B n c : Nat} {A : Option Addr} {l : List Pr} (p : Pr → Bool) (g : Nat) (lb : Array Value) (hr : RdE w B A n l) (hB : B ≤ w.heap.size) (hn : n ≤ 1000000)
  (eg : ∀ args w, (callFunc g args).run Try.prog w = .ok (.enter g args) w)
  (hp : ∀ (W : World) (x : Pr), x ∈ l → Below w.heap.size w W → Calls Try.prog g (#[.agg #[.int .i64 x.1, .int .i64 x.2]] ++ lb) W fun e w' => e = .returned (.bool (p x)) ∧ Below w.heap.size w w') :
  Calls Try.prog 51 #[.slice A n c, .func (.func g) #[] lb] w fun e w' => e = .returned (.bool (l.any p)) ∧ Below w.heap.size w w' := by
 have HI := Lib.hid (idxP_any (c := c) p g lb hr hB hn eg hp)
 clear hr hp
 go_enter Try.func51, Try.ntmps51
 go_wp2_with fail
 refine HI.out.mono ?_
 rintro e w1 ⟨r, rfl, hr, hb⟩
 have HR := Lib.hid hr
 have HBB := Lib.hid hb
 clear hr hb
 by_cases h0 : 0 ≤ r
 ·have hd : decide (0 ≤ r) = true := decide_eq_true h0
  go_wp2_with fail
  go_ret
  exact ⟨congrArg (fun b => Ending.returned (.bool b)) (HR.out.1 h0).symm, HBB.out⟩
 ·have hd : decide (0 ≤ r) = false := decide_eq_false h0
  have HF : Hid (l.any p = false) := Lib.hid (by
   cases h : l.any p with
   | false => rfl
   | true => exact absurd (HR.out.2 h) h0)
  go_wp2_with fail
  go_ret
  exact ⟨congrArg (fun b => Ending.returned (.bool b)) HF.out.symm, HBB.out⟩
/-- The closure of May, over what it captured: the step, and the state. -/
theorem mayF_any {w W : World} {B kb sb nD cD : Nat} {AD : Option Addr} {k num ph : Int} {v1 v2 v3 v4 v5 : Value} {dn : List Int} {T T' : TypeId} (hk : w.heap[kb]? = some (.cells #[.int .i64 k] T (0, 0))) (hs : w.heap[sb]? = some (.cells #[.int .i64 num, .int .i64 ph, v1, v2, v3, v4, v5, .slice AD nD cD] T' (0, 0))) (hb : Below w.heap.size w W) (hB : B ≤ w.heap.size)
  (hd : Rd w B AD nD dn) (hn : nD ≤ 1000000) (x : Pr) :
  Calls Try.prog 50 (#[.agg #[.int .i64 x.1, .int .i64 x.2]] ++ #[.pointer (some ⟨kb, 0, none⟩), .pointer (some ⟨sb, 0, none⟩)]) W fun e w' => e = .returned (.bool (decide (x.2 = k) && !inB dn x.1)) ∧ Below w.heap.size w w' := by
 have hkb := heapE_lt hk
 have hsb := heapE_lt hs
 obtain ⟨x1, x2⟩ := x
 simp only
 obtain ⟨W1, HW1⟩ : ∃ W1, Hid (W1 = W.alloc (.cells #[.int .i64 x1, .int .i64 x2] 90)) := ⟨_, Lib.hid rfl⟩
 have hb1 : Below W.heap.size W W1 := by rw [HW1.out]; exact (Below.refl _ W).alloc (Nat.le_refl _) _
 have hn0 : W1.heap[W.heap.size]? = some (.cells #[.int .i64 x1, .int .i64 x2] 90 (0, 0)) := by rw [HW1.out]; exact heap_new W _
 have HB1 : Hid (Below w.heap.size w W1) := Lib.hid (hb.trans (hb1.mono hb.size))
 obtain ⟨k0, _⟩ := row1f ((HB1.out.block kb hkb).trans hk)
 obtain ⟨_, _, _, _, _, _, _, y7⟩ := row8 ((HB1.out.block sb hsb).trans hs)
 obtain ⟨n0, n1, _, _⟩ := row2 hn0
 have HZ : Hid (w.heap.size ≤ W1.heap.size) := Lib.hid HB1.out.size
 have HCO := Lib.hid (contains_any (c := cD) (hd.below (HB1.out.mono hB)) hn x1)
 clear hk hs hb hd hb1 hn0
 show Calls Try.prog 50 #[.agg #[.int .i64 x1, .int .i64 x2], .pointer (some ⟨kb, 0, none⟩), .pointer (some ⟨sb, 0, none⟩)] W _
 go_enter Try.func50, Try.ntmps50
 go_upto_region 1 with fail
 change Code.wp _ _ _ _ (W.alloc (.cells #[.int .i64 x1, .int .i64 x2] 90))
 rw [← HW1.out]
 by_cases h : x2 = k
 ·subst h
  have HV : Hid ((decide (x2 = x2) && !inB dn x1) = !inB dn x1) := Lib.hid (by simp)
  obtain ⟨q, HQ⟩ : ∃ q, Hid (inB dn x1 = q) := ⟨_, Lib.hid rfl⟩
  rw [HQ.out] at HCO
  go_wp2_with fail
  refine HCO.out.mono ?_
  rintro e w2 ⟨rfl, hb2⟩
  have HB2 : Hid (Below w.heap.size w w2) := Lib.hid (HB1.out.trans (hb2.mono HZ.out))
  clear hb2 k0 y7 n0 n1
  go_wp2_with fail
  refine bodyPost_ret (results_tmp rfl _ _ _) rfl ⟨?_, HB2.out⟩
  exact congrArg (fun b => Ending.returned (.bool b)) (by rw [← HQ.out])
 ·have HV : Hid ((decide (x2 = k) && !inB dn x1) = false) := Lib.hid (by rw [decide_eq_false h]; rfl)
  have h3 : (x2 == k) = false := by rw [beq_eq_false_iff_ne]; exact h
  go_wp2_with fail
  refine bodyPost_ret (results_tmp rfl _ _ _) rfl ⟨?_, HB1.out⟩
  exact congrArg (fun b => Ending.returned (.bool b)) HV.out.symm
theorem enters_mayF : ∀ args w, (callFunc 50 args).run Try.prog w = .ok (.enter 50 args) w := enters_of Try.func50 (by kernel_rfl) rfl
end Go.Proofs.Ytolgmoaoheflcaa.Sa
