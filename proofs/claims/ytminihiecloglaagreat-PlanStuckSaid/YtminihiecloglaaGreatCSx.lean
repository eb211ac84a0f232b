/-
 MERGED: CIx CSv CSw.
-/
import Derived.Test.YtminihiecloglaaGreatCMe
import Derived.Test.YtminihiecloglaaGreatCAa
import Derived.CallAlone
import Derived.Shelf.Abstract
set_option linter.unusedVariables false
set_option linter.unusedSimpArgs false
namespace Go.Proofs.YtminihiecloglaaGreat
open Go.RowKit
open SemP
set_option maxRecDepth 10000
set_option maxHeartbeats 4000000 in
theorem idx_nd {w : World} {B n c : Nat} {A : Option Addr} {l : List Nd} (p : Nd → Bool) (g : Nat) (lb : Array Value) (hr : RdJ 2 pnI w (fun b => B ≤ b) A n l) (hB : B ≤ w.heap.size) (hn : n ≤ 1000000)
  (eg : ∀ args w, (callFunc g args).run Tryz.prog w = .ok (.enter g args) w)
  (hp : ∀ (W : World) (vs : List Value) (x : Nd), x ∈ l → Below w.heap.size w W → vs.length = 2 → pnI W (fun b => B ≤ b) vs x → Calls Tryz.prog g (#[.agg vs.toArray] ++ lb) W fun e w' => e = .returned (.bool (p x)) ∧ Below w.heap.size w w') :
  Calls Tryz.prog 148 #[.slice A n c, .func (.func g) #[] lb] w fun e w' => ∃ r : Int, e = .returned (.int .i64 r) ∧ (0 ≤ r ↔ l.any p = true) ∧ Below w.heap.size w w' := by
 have HR := Lib.hid hr
 have HP := Lib.hid hp
 have HB := Lib.hid hB
 have HL := Lib.hid hr.1
 clear hr hp hB
 go_enter Tryz.func148, Tryz.ntmps148
 go_wp2_with fail
 go_loopw [5, 8] (fun _ v wr => ∃ j : Nat, j ≤ n ∧ v = .int .i64 (j : Int) ∧ Hid (Below w.heap.size w wr) ∧ Hid (∀ i, i < j → p (l.getD i default) = false)) (fun _ v _ => n - (intOf v).toNat)
 case atStart => exact ⟨0, Nat.zero_le _, rfl, Lib.hid (Below.refl _ _), Lib.hid (fun i h => absurd h (by omega))⟩
 case round =>
  obtain ⟨j, hj, rfl, HW, HN⟩ := hrel
  by_cases hjn : j < n
  ·have hd : decide ((j : Int) < (n : Int)) = true := by simp; omega
   have hi : (j : Int) < (n : Int) := by omega
   have hadd : IntKind.i64.wrap ((j : Int) + 1) = ((j + 1 : Nat) : Int) := by rw [IntWalk.i64_in _ (by omega)]; omega
   have hjl : j < l.length := by rw [HL.out]; exact hjn
   obtain ⟨b, off, vs, rfl, hb, hnb, hlen, hc, hit⟩ := (HR.out.below pn_turns (HW.out.mono HB.out)).2 j hjn
   have hcall := HP.out wr vs _ (getD_mem hjl) HW.out hlen hit
   obtain ⟨x, HX⟩ : ∃ x, Hid (l.getD j default = x) := ⟨_, Lib.hid rfl⟩
   rw [HX.out] at hcall
   match vs, hlen with
   | [v0, v1], _ =>
   have k0 : wr.cell? ⟨b, off + j * 2, none⟩ = some v0 := hc 0 _ rfl
   have k1 : wr.cell? ⟨b, off + j * 2 + 1, none⟩ = some v1 := hc 1 _ rfl
   have HC := Lib.hid hcall
   clear hcall hit hc
   cases hq : p x with
   | true =>
    have HC2 : Hid (Calls Tryz.prog g (#[.agg #[v0, v1]] ++ lb) wr fun e w' => e = .returned (.bool true) ∧ Below w.heap.size w w') := Lib.hid (by have := HC.out; rw [hq] at this; exact this)
    have HY : Hid (0 ≤ (j : Int) ↔ l.any p = true) := Lib.hid ⟨fun _ => List.any_eq_true.2 ⟨x, by rw [← HX.out]; exact getD_mem hjl, hq⟩, fun _ => by omega⟩
    clear hq HC
    go_wp2_with (go_at_fn g; refine HC2.out.mono ?_; rintro e w' ⟨rfl, hb'⟩)
    go_ret
    exact ⟨_, rfl, HY.out, hb'⟩
   | false =>
    have HC2 : Hid (Calls Tryz.prog g (#[.agg #[v0, v1]] ++ lb) wr fun e w' => e = .returned (.bool false) ∧ Below w.heap.size w w') := Lib.hid (by have := HC.out; rw [hq] at this; exact this)
    have HY := Lib.hid hq
    clear hq HC
    go_wp2_with (go_at_fn g; refine HC2.out.mono ?_; rintro e w' ⟨rfl, hb'⟩)
    go_roundw
    case rel => exact ⟨j + 1, by omega, by go_num, Lib.hid hb', Lib.hid (fun i hi => by
     by_cases e : i = j
     ·subst e; rw [HX.out]; exact HY.out
     ·exact HN.out i (by omega))⟩
    case measure => simp [intOf]; omega
  ·have hd : decide ((j : Int) < (n : Int)) = false := by simp; omega
   have HY : Hid (l.any p = false) := Lib.hid (List.any_eq_false.2 fun x hx => by
    obtain ⟨i, hi, rfl⟩ := List.getElem_of_mem hx
    have h := HN.out i (by have := HL.out; omega)
    rw [show l.getD i default = l[i] by simp [List.getD, hi]] at h
    rw [h]; simp)
   go_wp2_with fail
   go_ret
   exact ⟨_, rfl, ⟨fun h => absurd h (by decide), fun h => by rw [HY.out] at h; cases h⟩, HW.out⟩
set_option maxHeartbeats 4000000 in
theorem con_nd {w : World} {B n c : Nat} {A : Option Addr} {l : List Nd} (p : Nd → Bool) (g : Nat) (lb : Array Value) (hr : RdJ 2 pnI w (fun b => B ≤ b) A n l) (hB : B ≤ w.heap.size) (hn : n ≤ 1000000)
  (eg : ∀ args w, (callFunc g args).run Tryz.prog w = .ok (.enter g args) w)
  (hp : ∀ (W : World) (vs : List Value) (x : Nd), x ∈ l → Below w.heap.size w W → vs.length = 2 → pnI W (fun b => B ≤ b) vs x → Calls Tryz.prog g (#[.agg vs.toArray] ++ lb) W fun e w' => e = .returned (.bool (p x)) ∧ Below w.heap.size w w') :
  Calls Tryz.prog 137 #[.slice A n c, .func (.func g) #[] lb] w fun e w' => e = .returned (.bool (l.any p)) ∧ Below w.heap.size w w' := by
 have HI := Lib.hid (idx_nd (c := c) p g lb hr hB hn eg hp)
 clear hr hp
 go_enter Tryz.func137, Tryz.ntmps137
 go_wp2_with fail
 refine HI.out.mono ?_
 rintro e w1 ⟨r, rfl, hr, hb⟩
 have HR := Lib.hid hr
 have HBB := Lib.hid hb
 clear hr hb
 by_cases h0 : 0 ≤ r
 ·have hd : decide (0 ≤ r) = true := decide_eq_true h0
  go_wp2_with fail
  go_ret
  exact ⟨congrArg (fun b => Ending.returned (.bool b)) (HR.out.1 h0).symm, HBB.out⟩
 ·have hd : decide (0 ≤ r) = false := decide_eq_false h0
  have HF : Hid (l.any p = false) := Lib.hid (by
   cases h : l.any p with
   | false => rfl
   | true => exact absurd (HR.out.2 h) h0)
  go_wp2_with fail
  go_ret
  exact ⟨congrArg (fun b => Ending.returned (.bool b)) HF.out.symm, HBB.out⟩
end Go.Proofs.YtminihiecloglaaGreat
namespace Go.Proofs.YtminihiecloglaaGreat
open Go.RowKit
open SemP
set_option maxRecDepth 10000
theorem dash_at (s : ByteArray) (i : Nat) (h : i < s.size) : ((bs s).getD i 0 == 45) = decide (s[i].toNat = 45) := by
 have e : (bs s).getD i 0 = s[i] := (Lib.getD_at s i h).symm
 rw [e]
 by_cases hb : s[i] = 45
 ·rw [hb]; rfl
 ·have : s[i].toNat ≠ 45 := fun e => hb (UInt8.toNat_inj.1 (by rw [e]; rfl))
  simp [hb, this]
theorem nameB_no {l : Str} {i : Nat} (hi : i < l.length) (h : nameC (l.getD i 0) = false) : nameB l = false := by
 have : l.all nameC = false := by
  rw [List.all_eq_false]
  exact ⟨l.getD i 0, by simp [List.getD, hi], by rw [h]; simp⟩
 unfold nameB; rw [this, Bool.and_false]
theorem nameB_yes {l : Str} (h0 : 0 < l.length) (h1 : l.length ≤ 20) (h2 : low (l.getD 0 0) = true) (h : ∀ i, i < l.length → nameC (l.getD i 0) = true) : nameB l = true := by
 have h3 : l.all nameC = true := by
  rw [List.all_eq_true]
  intro x hx
  obtain ⟨j, hj, rfl⟩ := List.getElem_of_mem hx
  have := h j hj
  simpa [List.getD, hj] using this
 have h4 : l.isEmpty = false := by cases l; simp at h0; rfl
 unfold nameB; rw [h2, h3, h4, decide_eq_true h1]; rfl
end Go.Proofs.YtminihiecloglaaGreat
namespace Go.Proofs.YtminihiecloglaaGreat
open Go.RowKit
open SemP
set_option maxRecDepth 10000
end Go.Proofs.YtminihiecloglaaGreat
