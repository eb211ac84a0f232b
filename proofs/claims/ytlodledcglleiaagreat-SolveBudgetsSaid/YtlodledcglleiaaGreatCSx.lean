/-
  MERGED: CIx CSv CSw.
-/
import Derived.Test.YtlodledcglleiaaGreatCMe
import Derived.Test.YtlodledcglleiaaGreatCAa
import Derived.CallAlone
import Derived.Shelf.Abstract
namespace Go.Proofs.YtlodledcglleiaaGreat
open Go.RowKit
open SemP
set_option linter.unusedVariables false
set_option linter.unusedSimpArgs false
set_option maxRecDepth 10000

set_option maxHeartbeats 4000000 in
theorem idx_sv {w : World} {B n c : Nat} {A : Option Addr} {l : List Sv} (p : Sv → Bool) (g : Nat) (lb : Array Value) (hr : RdJ 2 svI w (fun b => B ≤ b) A n l) (hB : B ≤ w.heap.size) (hn : n ≤ 1000000)
    (eg : ∀ args w, (callFunc g args).run Tryz.prog w = .ok (.enter g args) w)
    (hp : ∀ (W : World) (vs : List Value) (x : Sv), x ∈ l → Below w.heap.size w W → vs.length = 2 → svI W (fun b => B ≤ b) vs x → Calls Tryz.prog g (#[.agg vs.toArray] ++ lb) W fun e w' => e = .returned (.bool (p x)) ∧ Below w.heap.size w w') :
    Calls Tryz.prog 97 #[.slice A n c, .func (.func g) #[] lb] w fun e w' => ∃ r : Int, e = .returned (.int .i64 r) ∧ (0 ≤ r ↔ l.any p = true) ∧ Below w.heap.size w w' := by
  have HR := Lib.hid hr
  have HP := Lib.hid hp
  have HB := Lib.hid hB
  have HL := Lib.hid hr.1
  clear hr hp hB
  go_enter Tryz.func97, Tryz.ntmps97
  go_wp2_with fail
  go_loopw [5, 8] (fun _ v wr => ∃ j : Nat, j ≤ n ∧ v = .int .i64 (j : Int) ∧ Hid (Below w.heap.size w wr) ∧ Hid (∀ i, i < j → p (l.getD i default) = false)) (fun _ v _ => n - (intOf v).toNat)
  case atStart => exact ⟨0, Nat.zero_le _, rfl, Lib.hid (Below.refl _ _), Lib.hid (fun i h => absurd h (by omega))⟩
  case round =>
    obtain ⟨j, hj, rfl, HW, HN⟩ := hrel
    by_cases hjn : j < n
    · have hd : decide ((j : Int) < (n : Int)) = true := by simp; omega
      have hi : (j : Int) < (n : Int) := by omega
      have hadd : IntKind.i64.wrap ((j : Int) + 1) = ((j + 1 : Nat) : Int) := by rw [IntWalk.i64_in _ (by omega)]; omega
      have hjl : j < l.length := by rw [HL.out]; exact hjn
      obtain ⟨b, off, vs, rfl, hb, hnb, hlen, hc, hit⟩ := (HR.out.below sv_turns (HW.out.mono HB.out)).2 j hjn
      have hcall := HP.out wr vs _ (getD_mem hjl) HW.out hlen hit
      obtain ⟨x, HX⟩ : ∃ x, Hid (l.getD j default = x) := ⟨_, Lib.hid rfl⟩
      rw [HX.out] at hcall
      match vs, hlen with
      | [v0, v1], _ =>
      have k0 : wr.cell? ⟨b, off + j * 2, none⟩ = some v0 := hc 0 _ rfl
      have k1 : wr.cell? ⟨b, off + j * 2 + 1, none⟩ = some v1 := hc 1 _ rfl
      have HC := Lib.hid hcall
      clear hcall hit hc
      cases hq : p x with
      | true =>
        have HC2 : Hid (Calls Tryz.prog g (#[.agg #[v0, v1]] ++ lb) wr fun e w' => e = .returned (.bool true) ∧ Below w.heap.size w w') := Lib.hid (by have := HC.out; rw [hq] at this; exact this)
        have HY : Hid (0 ≤ (j : Int) ↔ l.any p = true) := Lib.hid ⟨fun _ => List.any_eq_true.2 ⟨x, by rw [← HX.out]; exact getD_mem hjl, hq⟩, fun _ => by omega⟩
        clear hq HC
        go_wp2_with (go_at_fn g; refine HC2.out.mono ?_; rintro e w' ⟨rfl, hb'⟩)
        go_ret
        exact ⟨_, rfl, HY.out, hb'⟩
      | false =>
        have HC2 : Hid (Calls Tryz.prog g (#[.agg #[v0, v1]] ++ lb) wr fun e w' => e = .returned (.bool false) ∧ Below w.heap.size w w') := Lib.hid (by have := HC.out; rw [hq] at this; exact this)
        have HY := Lib.hid hq
        clear hq HC
        go_wp2_with (go_at_fn g; refine HC2.out.mono ?_; rintro e w' ⟨rfl, hb'⟩)
        go_roundw
        case rel => exact ⟨j + 1, by omega, by go_num, Lib.hid hb', Lib.hid (fun i hi => by
          by_cases e : i = j
          · subst e; rw [HX.out]; exact HY.out
          · exact HN.out i (by omega))⟩
        case measure => simp [intOf]; omega
    · have hd : decide ((j : Int) < (n : Int)) = false := by simp; omega
      have HY : Hid (l.any p = false) := Lib.hid (List.any_eq_false.2 fun x hx => by
        obtain ⟨i, hi, rfl⟩ := List.getElem_of_mem hx
        have h := HN.out i (by have := HL.out; omega)
        rw [show l.getD i default = l[i] by simp [List.getD, hi]] at h
        rw [h]; simp)
      go_wp2_with fail
      go_ret
      exact ⟨_, rfl, ⟨fun h => absurd h (by decide), fun h => by rw [HY.out] at h; cases h⟩, HW.out⟩
set_option maxHeartbeats 4000000 in
theorem con_sv {w : World} {B n c : Nat} {A : Option Addr} {l : List Sv} (p : Sv → Bool) (g : Nat) (lb : Array Value) (hr : RdJ 2 svI w (fun b => B ≤ b) A n l) (hB : B ≤ w.heap.size) (hn : n ≤ 1000000)
    (eg : ∀ args w, (callFunc g args).run Tryz.prog w = .ok (.enter g args) w)
    (hp : ∀ (W : World) (vs : List Value) (x : Sv), x ∈ l → Below w.heap.size w W → vs.length = 2 → svI W (fun b => B ≤ b) vs x → Calls Tryz.prog g (#[.agg vs.toArray] ++ lb) W fun e w' => e = .returned (.bool (p x)) ∧ Below w.heap.size w w') :
    Calls Tryz.prog 74 #[.slice A n c, .func (.func g) #[] lb] w fun e w' => e = .returned (.bool (l.any p)) ∧ Below w.heap.size w w' := by
  have HI := Lib.hid (idx_sv (c := c) p g lb hr hB hn eg hp)
  clear hr hp
  go_enter Tryz.func74, Tryz.ntmps74
  go_wp2_with fail
  refine HI.out.mono ?_
  rintro e w1 ⟨r, rfl, hr, hb⟩
  have HR := Lib.hid hr
  have HBB := Lib.hid hb
  clear hr hb
  by_cases h0 : 0 ≤ r
  · have hd : decide (0 ≤ r) = true := decide_eq_true h0
    go_wp2_with fail
    go_ret
    exact ⟨congrArg (fun b => Ending.returned (.bool b)) (HR.out.1 h0).symm, HBB.out⟩
  · have hd : decide (0 ≤ r) = false := decide_eq_false h0
    have HF : Hid (l.any p = false) := Lib.hid (by
      cases h : l.any p with
      | false => rfl
      | true => exact absurd (HR.out.2 h) h0)
    go_wp2_with fail
    go_ret
    exact ⟨congrArg (fun b => Ending.returned (.bool b)) HF.out.symm, HBB.out⟩

set_option maxHeartbeats 4000000 in
theorem idx_rl {w : World} {B n c : Nat} {A : Option Addr} {l : List Rl} (p : Rl → Bool) (g : Nat) (lb : Array Value) (hr : RdJ 6 reI w (fun b => B ≤ b) A n l) (hB : B ≤ w.heap.size) (hn : n ≤ 1000000)
    (eg : ∀ args w, (callFunc g args).run Tryz.prog w = .ok (.enter g args) w)
    (hp : ∀ (W : World) (vs : List Value) (x : Rl), x ∈ l → Below w.heap.size w W → vs.length = 6 → reI W (fun b => B ≤ b) vs x → Calls Tryz.prog g (#[.agg vs.toArray] ++ lb) W fun e w' => e = .returned (.bool (p x)) ∧ Below w.heap.size w w') :
    Calls Tryz.prog 85 #[.slice A n c, .func (.func g) #[] lb] w fun e w' => ∃ r : Int, e = .returned (.int .i64 r) ∧ (0 ≤ r ↔ l.any p = true) ∧ Below w.heap.size w w' := by
  have HR := Lib.hid hr
  have HP := Lib.hid hp
  have HB := Lib.hid hB
  have HL := Lib.hid hr.1
  clear hr hp hB
  go_enter Tryz.func85, Tryz.ntmps85
  go_wp2_with fail
  go_loopw [5, 8] (fun _ v wr => ∃ j : Nat, j ≤ n ∧ v = .int .i64 (j : Int) ∧ Hid (Below w.heap.size w wr) ∧ Hid (∀ i, i < j → p (l.getD i default) = false)) (fun _ v _ => n - (intOf v).toNat)
  case atStart => exact ⟨0, Nat.zero_le _, rfl, Lib.hid (Below.refl _ _), Lib.hid (fun i h => absurd h (by omega))⟩
  case round =>
    obtain ⟨j, hj, rfl, HW, HN⟩ := hrel
    by_cases hjn : j < n
    · have hd : decide ((j : Int) < (n : Int)) = true := by simp; omega
      have hi : (j : Int) < (n : Int) := by omega
      have hadd : IntKind.i64.wrap ((j : Int) + 1) = ((j + 1 : Nat) : Int) := by rw [IntWalk.i64_in _ (by omega)]; omega
      have hjl : j < l.length := by rw [HL.out]; exact hjn
      obtain ⟨b, off, vs, rfl, hb, hnb, hlen, hc, hit⟩ := (HR.out.below re_turns (HW.out.mono HB.out)).2 j hjn
      have hcall := HP.out wr vs _ (getD_mem hjl) HW.out hlen hit
      obtain ⟨x, HX⟩ : ∃ x, Hid (l.getD j default = x) := ⟨_, Lib.hid rfl⟩
      rw [HX.out] at hcall
      match vs, hlen with
      | [v0, v1, v2, v3, v4, v5], _ =>
      have k0 : wr.cell? ⟨b, off + j * 6, none⟩ = some v0 := hc 0 _ rfl
      have k1 : wr.cell? ⟨b, off + j * 6 + 1, none⟩ = some v1 := hc 1 _ rfl
      have k2 : wr.cell? ⟨b, off + j * 6 + 2, none⟩ = some v2 := hc 2 _ rfl
      have k3 : wr.cell? ⟨b, off + j * 6 + 3, none⟩ = some v3 := hc 3 _ rfl
      have k4 : wr.cell? ⟨b, off + j * 6 + 4, none⟩ = some v4 := hc 4 _ rfl
      have k5 : wr.cell? ⟨b, off + j * 6 + 5, none⟩ = some v5 := hc 5 _ rfl
      have HC := Lib.hid hcall
      clear hcall hit hc
      cases hq : p x with
      | true =>
        have HC2 : Hid (Calls Tryz.prog g (#[.agg #[v0, v1, v2, v3, v4, v5]] ++ lb) wr fun e w' => e = .returned (.bool true) ∧ Below w.heap.size w w') := Lib.hid (by have := HC.out; rw [hq] at this; exact this)
        have HY : Hid (0 ≤ (j : Int) ↔ l.any p = true) := Lib.hid ⟨fun _ => List.any_eq_true.2 ⟨x, by rw [← HX.out]; exact getD_mem hjl, hq⟩, fun _ => by omega⟩
        clear hq HC
        go_wp2_with (go_at_fn g; refine HC2.out.mono ?_; rintro e w' ⟨rfl, hb'⟩)
        go_ret
        exact ⟨_, rfl, HY.out, hb'⟩
      | false =>
        have HC2 : Hid (Calls Tryz.prog g (#[.agg #[v0, v1, v2, v3, v4, v5]] ++ lb) wr fun e w' => e = .returned (.bool false) ∧ Below w.heap.size w w') := Lib.hid (by have := HC.out; rw [hq] at this; exact this)
        have HY := Lib.hid hq
        clear hq HC
        go_wp2_with (go_at_fn g; refine HC2.out.mono ?_; rintro e w' ⟨rfl, hb'⟩)
        go_roundw
        case rel => exact ⟨j + 1, by omega, by go_num, Lib.hid hb', Lib.hid (fun i hi => by
          by_cases e : i = j
          · subst e; rw [HX.out]; exact HY.out
          · exact HN.out i (by omega))⟩
        case measure => simp [intOf]; omega
    · have hd : decide ((j : Int) < (n : Int)) = false := by simp; omega
      have HY : Hid (l.any p = false) := Lib.hid (List.any_eq_false.2 fun x hx => by
        obtain ⟨i, hi, rfl⟩ := List.getElem_of_mem hx
        have h := HN.out i (by have := HL.out; omega)
        rw [show l.getD i default = l[i] by simp [List.getD, hi]] at h
        rw [h]; simp)
      go_wp2_with fail
      go_ret
      exact ⟨_, rfl, ⟨fun h => absurd h (by decide), fun h => by rw [HY.out] at h; cases h⟩, HW.out⟩
set_option maxHeartbeats 4000000 in
theorem con_rl {w : World} {B n c : Nat} {A : Option Addr} {l : List Rl} (p : Rl → Bool) (g : Nat) (lb : Array Value) (hr : RdJ 6 reI w (fun b => B ≤ b) A n l) (hB : B ≤ w.heap.size) (hn : n ≤ 1000000)
    (eg : ∀ args w, (callFunc g args).run Tryz.prog w = .ok (.enter g args) w)
    (hp : ∀ (W : World) (vs : List Value) (x : Rl), x ∈ l → Below w.heap.size w W → vs.length = 6 → reI W (fun b => B ≤ b) vs x → Calls Tryz.prog g (#[.agg vs.toArray] ++ lb) W fun e w' => e = .returned (.bool (p x)) ∧ Below w.heap.size w w') :
    Calls Tryz.prog 57 #[.slice A n c, .func (.func g) #[] lb] w fun e w' => e = .returned (.bool (l.any p)) ∧ Below w.heap.size w w' := by
  have HI := Lib.hid (idx_rl (c := c) p g lb hr hB hn eg hp)
  clear hr hp
  go_enter Tryz.func57, Tryz.ntmps57
  go_wp2_with fail
  refine HI.out.mono ?_
  rintro e w1 ⟨r, rfl, hr, hb⟩
  have HR := Lib.hid hr
  have HBB := Lib.hid hb
  clear hr hb
  by_cases h0 : 0 ≤ r
  · have hd : decide (0 ≤ r) = true := decide_eq_true h0
    go_wp2_with fail
    go_ret
    exact ⟨congrArg (fun b => Ending.returned (.bool b)) (HR.out.1 h0).symm, HBB.out⟩
  · have hd : decide (0 ≤ r) = false := decide_eq_false h0
    have HF : Hid (l.any p = false) := Lib.hid (by
      cases h : l.any p with
      | false => rfl
      | true => exact absurd (HR.out.2 h) h0)
    go_wp2_with fail
    go_ret
    exact ⟨congrArg (fun b => Ending.returned (.bool b)) HF.out.symm, HBB.out⟩

set_option maxHeartbeats 4000000 in
theorem idx_nd {w : World} {B n c : Nat} {A : Option Addr} {l : List Nd} (p : Nd → Bool) (g : Nat) (lb : Array Value) (hr : RdJ 2 pnI w (fun b => B ≤ b) A n l) (hB : B ≤ w.heap.size) (hn : n ≤ 1000000)
    (eg : ∀ args w, (callFunc g args).run Tryz.prog w = .ok (.enter g args) w)
    (hp : ∀ (W : World) (vs : List Value) (x : Nd), x ∈ l → Below w.heap.size w W → vs.length = 2 → pnI W (fun b => B ≤ b) vs x → Calls Tryz.prog g (#[.agg vs.toArray] ++ lb) W fun e w' => e = .returned (.bool (p x)) ∧ Below w.heap.size w w') :
    Calls Tryz.prog 86 #[.slice A n c, .func (.func g) #[] lb] w fun e w' => ∃ r : Int, e = .returned (.int .i64 r) ∧ (0 ≤ r ↔ l.any p = true) ∧ Below w.heap.size w w' := by
  have HR := Lib.hid hr
  have HP := Lib.hid hp
  have HB := Lib.hid hB
  have HL := Lib.hid hr.1
  clear hr hp hB
  go_enter Tryz.func86, Tryz.ntmps86
  go_wp2_with fail
  go_loopw [5, 8] (fun _ v wr => ∃ j : Nat, j ≤ n ∧ v = .int .i64 (j : Int) ∧ Hid (Below w.heap.size w wr) ∧ Hid (∀ i, i < j → p (l.getD i default) = false)) (fun _ v _ => n - (intOf v).toNat)
  case atStart => exact ⟨0, Nat.zero_le _, rfl, Lib.hid (Below.refl _ _), Lib.hid (fun i h => absurd h (by omega))⟩
  case round =>
    obtain ⟨j, hj, rfl, HW, HN⟩ := hrel
    by_cases hjn : j < n
    · have hd : decide ((j : Int) < (n : Int)) = true := by simp; omega
      have hi : (j : Int) < (n : Int) := by omega
      have hadd : IntKind.i64.wrap ((j : Int) + 1) = ((j + 1 : Nat) : Int) := by rw [IntWalk.i64_in _ (by omega)]; omega
      have hjl : j < l.length := by rw [HL.out]; exact hjn
      obtain ⟨b, off, vs, rfl, hb, hnb, hlen, hc, hit⟩ := (HR.out.below pn_turns (HW.out.mono HB.out)).2 j hjn
      have hcall := HP.out wr vs _ (getD_mem hjl) HW.out hlen hit
      obtain ⟨x, HX⟩ : ∃ x, Hid (l.getD j default = x) := ⟨_, Lib.hid rfl⟩
      rw [HX.out] at hcall
      match vs, hlen with
      | [v0, v1], _ =>
      have k0 : wr.cell? ⟨b, off + j * 2, none⟩ = some v0 := hc 0 _ rfl
      have k1 : wr.cell? ⟨b, off + j * 2 + 1, none⟩ = some v1 := hc 1 _ rfl
      have HC := Lib.hid hcall
      clear hcall hit hc
      cases hq : p x with
      | true =>
        have HC2 : Hid (Calls Tryz.prog g (#[.agg #[v0, v1]] ++ lb) wr fun e w' => e = .returned (.bool true) ∧ Below w.heap.size w w') := Lib.hid (by have := HC.out; rw [hq] at this; exact this)
        have HY : Hid (0 ≤ (j : Int) ↔ l.any p = true) := Lib.hid ⟨fun _ => List.any_eq_true.2 ⟨x, by rw [← HX.out]; exact getD_mem hjl, hq⟩, fun _ => by omega⟩
        clear hq HC
        go_wp2_with (go_at_fn g; refine HC2.out.mono ?_; rintro e w' ⟨rfl, hb'⟩)
        go_ret
        exact ⟨_, rfl, HY.out, hb'⟩
      | false =>
        have HC2 : Hid (Calls Tryz.prog g (#[.agg #[v0, v1]] ++ lb) wr fun e w' => e = .returned (.bool false) ∧ Below w.heap.size w w') := Lib.hid (by have := HC.out; rw [hq] at this; exact this)
        have HY := Lib.hid hq
        clear hq HC
        go_wp2_with (go_at_fn g; refine HC2.out.mono ?_; rintro e w' ⟨rfl, hb'⟩)
        go_roundw
        case rel => exact ⟨j + 1, by omega, by go_num, Lib.hid hb', Lib.hid (fun i hi => by
          by_cases e : i = j
          · subst e; rw [HX.out]; exact HY.out
          · exact HN.out i (by omega))⟩
        case measure => simp [intOf]; omega
    · have hd : decide ((j : Int) < (n : Int)) = false := by simp; omega
      have HY : Hid (l.any p = false) := Lib.hid (List.any_eq_false.2 fun x hx => by
        obtain ⟨i, hi, rfl⟩ := List.getElem_of_mem hx
        have h := HN.out i (by have := HL.out; omega)
        rw [show l.getD i default = l[i] by simp [List.getD, hi]] at h
        rw [h]; simp)
      go_wp2_with fail
      go_ret
      exact ⟨_, rfl, ⟨fun h => absurd h (by decide), fun h => by rw [HY.out] at h; cases h⟩, HW.out⟩
set_option maxHeartbeats 4000000 in
theorem con_nd {w : World} {B n c : Nat} {A : Option Addr} {l : List Nd} (p : Nd → Bool) (g : Nat) (lb : Array Value) (hr : RdJ 2 pnI w (fun b => B ≤ b) A n l) (hB : B ≤ w.heap.size) (hn : n ≤ 1000000)
    (eg : ∀ args w, (callFunc g args).run Tryz.prog w = .ok (.enter g args) w)
    (hp : ∀ (W : World) (vs : List Value) (x : Nd), x ∈ l → Below w.heap.size w W → vs.length = 2 → pnI W (fun b => B ≤ b) vs x → Calls Tryz.prog g (#[.agg vs.toArray] ++ lb) W fun e w' => e = .returned (.bool (p x)) ∧ Below w.heap.size w w') :
    Calls Tryz.prog 59 #[.slice A n c, .func (.func g) #[] lb] w fun e w' => e = .returned (.bool (l.any p)) ∧ Below w.heap.size w w' := by
  have HI := Lib.hid (idx_nd (c := c) p g lb hr hB hn eg hp)
  clear hr hp
  go_enter Tryz.func59, Tryz.ntmps59
  go_wp2_with fail
  refine HI.out.mono ?_
  rintro e w1 ⟨r, rfl, hr, hb⟩
  have HR := Lib.hid hr
  have HBB := Lib.hid hb
  clear hr hb
  by_cases h0 : 0 ≤ r
  · have hd : decide (0 ≤ r) = true := decide_eq_true h0
    go_wp2_with fail
    go_ret
    exact ⟨congrArg (fun b => Ending.returned (.bool b)) (HR.out.1 h0).symm, HBB.out⟩
  · have hd : decide (0 ≤ r) = false := decide_eq_false h0
    have HF : Hid (l.any p = false) := Lib.hid (by
      cases h : l.any p with
      | false => rfl
      | true => exact absurd (HR.out.2 h) h0)
    go_wp2_with fail
    go_ret
    exact ⟨congrArg (fun b => Ending.returned (.bool b)) HF.out.symm, HBB.out⟩
end Go.Proofs.YtlodledcglleiaaGreat

namespace Go.Proofs.YtlodledcglleiaaGreat
open Go.RowKit
open SemP
set_option linter.unusedVariables false
set_option linter.unusedSimpArgs false
set_option maxRecDepth 10000
theorem isLetter_is (k : Nat) (q : Bool) (h : (decide (97 ≤ k) && decide (k ≤ 122)) = q) (w : World) : Calls Tryz.prog 96 #[.int .u8 (k : Int)] w fun e w' => e = .returned (.bool q) ∧ w' = w := by
  have H := Lib.hid h
  clear h
  go_enter Tryz.func96, Tryz.ntmps96
  go_wp2
  all_goals (refine bodyPost_ret (results_tmp rfl _ _ _) rfl ⟨?_, rfl⟩)
  all_goals (refine congrArg (fun b => Ending.returned (.bool b)) ?_; rw [← H.out])
  all_goals (rw [Bool.eq_iff_iff]; simp; omega)
theorem dash_at (s : ByteArray) (i : Nat) (h : i < s.size) : ((bs s).getD i 0 == 45) = decide (s[i].toNat = 45) := by
  have e : (bs s).getD i 0 = s[i] := (Lib.getD_at s i h).symm
  rw [e]
  by_cases hb : s[i] = 45
  · rw [hb]; rfl
  · have : s[i].toNat ≠ 45 := fun e => hb (UInt8.toNat_inj.1 (by rw [e]; rfl))
    simp [hb, this]
theorem nameB_no {l : Str} {i : Nat} (hi : i < l.length) (h : nameC (l.getD i 0) = false) : nameB l = false := by
  have : l.all nameC = false := by
    rw [List.all_eq_false]
    exact ⟨l.getD i 0, by simp [List.getD, hi], by rw [h]; simp⟩
  unfold nameB; rw [this, Bool.and_false]
theorem nameB_yes {l : Str} (h0 : 0 < l.length) (h1 : l.length ≤ 20) (h2 : low (l.getD 0 0) = true) (h : ∀ i, i < l.length → nameC (l.getD i 0) = true) : nameB l = true := by
  have h3 : l.all nameC = true := by
    rw [List.all_eq_true]
    intro x hx
    obtain ⟨j, hj, rfl⟩ := List.getElem_of_mem hx
    have := h j hj
    simpa [List.getD, hj] using this
  have h4 : l.isEmpty = false := by cases l; simp at h0; rfl
  unfold nameB; rw [h2, h3, h4, decide_eq_true h1]; rfl
set_option maxHeartbeats 4000000 in
theorem rightName_any (s : ByteArray) (w : World) (hs : s.size ≤ 1000000) :
    Calls Tryz.prog 73 #[.string s] w fun e w' => e = .returned (.bool (nameB (bs s))) ∧ w' = w := by
  have HZ : Hid (s.size = (bs s).length) := Lib.hid (Lib.size_eq s)
  by_cases h0 : s.size = 0
  · have hse : s.toList.isEmpty = true := by
      have h : (bs s).length = 0 := by have := HZ.out; omega
      rw [ByteArray.toList_eq]; exact List.isEmpty_iff_length_eq_zero.2 h
    have HV : Hid (nameB (bs s) = false) := Lib.hid (by
      have h := hse
      rw [ByteArray.toList_eq] at h
      unfold nameB; rw [show (bs s).isEmpty = true from h]; rfl)
    go_enter Tryz.func73, Tryz.ntmps73
    go_wp2
    refine bodyPost_ret (results_tmp rfl _ _ _) rfl ⟨?_, rfl⟩; exact congrArg (fun b => Ending.returned (.bool b)) HV.out.symm
  have hse : s.toList.isEmpty = false := by
    have h : ¬ (bs s).length = 0 := by have := HZ.out; omega
    rw [ByteArray.toList_eq]
    cases he : s.data.toList.isEmpty with
    | false => rfl
    | true => exact absurd (List.isEmpty_iff_length_eq_zero.1 he) h
  by_cases h20 : 20 < s.size
  · have d1 : decide ((20 : Int) < (s.size : Int)) = true := by simp; omega
    have HV : Hid (nameB (bs s) = false) := Lib.hid (by
      unfold nameB; rw [decide_eq_false (by have := HZ.out; omega)]; simp)
    go_enter Tryz.func73, Tryz.ntmps73
    go_wp2
    refine bodyPost_ret (results_tmp rfl _ _ _) rfl ⟨?_, rfl⟩; exact congrArg (fun b => Ending.returned (.bool b)) HV.out.symm
  have d1 : decide ((20 : Int) < (s.size : Int)) = false := by simp; omega
  have hpos : 0 < s.size := by omega
  have HL0 := Lib.hid (low_at s 0 hpos)
  cases hq0 : (decide (97 ≤ (s[0]'hpos).toNat) && decide ((s[0]'hpos).toNat ≤ 122)) with
  | false =>
    have HV : Hid (nameB (bs s) = false) := Lib.hid (by
      unfold nameB; rw [HL0.out, hq0]; simp)
    have HI := Lib.hid (isLetter_is _ _ hq0)
    clear hq0
    go_enter Tryz.func73, Tryz.ntmps73
    go_wp2_with (go_at_call 96; refine (HI.out _).mono ?_; rintro e w' ⟨rfl, rfl⟩)
    refine bodyPost_ret (results_tmp rfl _ _ _) rfl ⟨?_, rfl⟩; exact congrArg (fun b => Ending.returned (.bool b)) HV.out.symm
  | true =>
    have HQ0 : Hid (low ((bs s).getD 0 0) = true) := Lib.hid (by rw [HL0.out, hq0])
    have HI := Lib.hid (isLetter_is _ _ hq0)
    clear hq0
    go_enter Tryz.func73, Tryz.ntmps73
    go_wp2_with (go_at_call 96; refine (HI.out _).mono ?_; rintro e w' ⟨rfl, rfl⟩)
    clear HI
    obtain ⟨w1, hw1⟩ : ∃ w1 : World, w1 = w' := ⟨_, rfl⟩
    subst hw1
    go_loopw [3, 4, 20] (fun _ _ v wr => ∃ i : Nat, i ≤ s.size ∧ v = .int .i64 (i : Int) ∧ wr = w1 ∧ Hid (∀ j, j < i → nameC ((bs s).getD j 0) = true)) (fun _ _ v _ => s.size - (intOf v).toNat)
    case atStart => exact ⟨0, Nat.zero_le _, rfl, rfl, Lib.hid (fun j h => absurd h (by omega))⟩
    case round =>
      obtain ⟨i, hi, rfl, rfl, HN⟩ := hrel
      by_cases him : i < s.size
      · have hd : decide ((i : Int) < (s.size : Int)) = true := by simp; omega
        have hadd : IntKind.i64.wrap ((i : Int) + 1) = ((i + 1 : Nat) : Int) := by rw [IntWalk.i64_in _ (by omega)]; omega
        have HL := Lib.hid (low_at s i him)
        have HD := Lib.hid (dig_at s i him)
        have HS := Lib.hid (dash_at s i him)
        have HNE : Hid (nameC ((bs s).getD i 0) = ((decide (97 ≤ (s[i]'him).toNat) && decide ((s[i]'him).toNat ≤ 122)) || (decide (48 ≤ (s[i]'him).toNat) && decide ((s[i]'him).toNat ≤ 57)) || decide ((s[i]'him).toNat = 45))) := Lib.hid (by unfold nameC; rw [HL.out, HD.out, HS.out])
        have HIL : Hid (i < (bs s).length) := Lib.hid (by rw [← HZ.out]; exact him)
        by_cases c1 : 48 ≤ (s[i]'him).toNat ∧ (s[i]'him).toNat ≤ 57
        · have e1 : decide ((48 : Int) ≤ (((s[i]'him).toNat : Nat) : Int)) = true := by simp; omega
          have e2 : decide ((((s[i]'him).toNat : Nat) : Int) ≤ 57) = true := by simp; omega
          have e2p : ((((s[i]'him).toNat : Nat) : Int) ≤ 57) := by omega
          have HOK : Hid (nameC ((bs s).getD i 0) = true) := Lib.hid (by have hc := c1; rw [HNE.out]; simp; omega)
          clear c1
          go_wp2_with fail
          go_roundw
          case rel => exact ⟨i + 1, by omega, by go_num, trivial, Lib.hid (fun j hj => by
            by_cases e : j = i
            · subst e; exact HOK.out
            · exact HN.out j (by omega))⟩
          case measure => simp [intOf]; omega
        · cases hq : (decide (97 ≤ (s[i]'him).toNat) && decide ((s[i]'him).toNat ≤ 122)) with
          | true =>
            have HI := Lib.hid (isLetter_is _ _ hq)
            have HOK : Hid (nameC ((bs s).getD i 0) = true) := Lib.hid (by rw [HNE.out]; simp at hq; simp; omega)
            have hx : 57 < (s[i]'him).toNat := by simp at hq; omega
            have e1 : decide ((48 : Int) ≤ (((s[i]'him).toNat : Nat) : Int)) = true := by simp; omega
            have e1p : ((48 : Int) ≤ (((s[i]'him).toNat : Nat) : Int)) := by omega
            have e2 : decide ((((s[i]'him).toNat : Nat) : Int) ≤ 57) = false := by simp; omega
            have e2p : ¬ ((((s[i]'him).toNat : Nat) : Int) ≤ 57) := by omega
            clear c1 hq hx
            go_wp2_with (go_at_call 96; refine (HI.out _).mono ?_; rintro e w' ⟨rfl, rfl⟩)
            go_roundw
            case rel => exact ⟨i + 1, by omega, by go_num, trivial, Lib.hid (fun j hj => by
              by_cases e : j = i
              · subst e; exact HOK.out
              · exact HN.out j (by omega))⟩
            case measure => simp [intOf]; omega
          | false =>
            have HI := Lib.hid (isLetter_is _ _ hq)
            by_cases c3 : (s[i]'him).toNat = 45
            · have HOK : Hid (nameC ((bs s).getD i 0) = true) := Lib.hid (by rw [HNE.out]; simp; omega)
              have e1 : decide ((48 : Int) ≤ (((s[i]'him).toNat : Nat) : Int)) = false := by simp; omega
              have e1p : ¬ ((48 : Int) ≤ (((s[i]'him).toNat : Nat) : Int)) := by omega
              have e3 : ((((s[i]'him).toNat : Nat) : Int) != 45) = false := by simp; omega
              clear c1 hq c3
              go_wp2_with (go_at_call 96; refine (HI.out _).mono ?_; rintro e w' ⟨rfl, rfl⟩)
              go_roundw
              case rel => exact ⟨i + 1, by omega, by go_num, trivial, Lib.hid (fun j hj => by
                by_cases e : j = i
                · subst e; exact HOK.out
                · exact HN.out j (by omega))⟩
              case measure => simp [intOf]; omega
            · have e3 : ((((s[i]'him).toNat : Nat) : Int) != 45) = true := by simp; omega
              have HNO : Hid (nameC ((bs s).getD i 0) = false) := Lib.hid (by
                rw [HNE.out]; simp at hq; simp; omega)
              have HV : Hid (nameB (bs s) = false) := Lib.hid (nameB_no HIL.out HNO.out)
              by_cases h48 : 48 ≤ (s[i]'him).toNat
              · have e1 : decide ((48 : Int) ≤ (((s[i]'him).toNat : Nat) : Int)) = true := by simp; omega
                have e2 : decide ((((s[i]'him).toNat : Nat) : Int) ≤ 57) = false := by simp; omega
                have e2p : ¬ ((((s[i]'him).toNat : Nat) : Int) ≤ 57) := by omega
                clear c1 hq c3 h48
                go_wp2_with (go_at_call 96; refine (HI.out _).mono ?_; rintro e w' ⟨rfl, rfl⟩)
                refine bodyPost_ret (results_tmp rfl _ _ _) rfl ⟨?_, rfl⟩; exact congrArg (fun b => Ending.returned (.bool b)) HV.out.symm
              · have e1 : decide ((48 : Int) ≤ (((s[i]'him).toNat : Nat) : Int)) = false := by simp; omega
                clear c1 hq c3 h48
                go_wp2_with (go_at_call 96; refine (HI.out _).mono ?_; rintro e w' ⟨rfl, rfl⟩)
                refine bodyPost_ret (results_tmp rfl _ _ _) rfl ⟨?_, rfl⟩; exact congrArg (fun b => Ending.returned (.bool b)) HV.out.symm
      · have hd : decide ((i : Int) < (s.size : Int)) = false := by simp; omega
        have HV : Hid (nameB (bs s) = true) := Lib.hid (nameB_yes (by rw [← HZ.out]; omega) (by rw [← HZ.out]; omega) HQ0.out (fun j hj => HN.out j (by rw [← HZ.out] at hj; omega)))
        go_wp2_with fail
        refine bodyPost_ret (results_tmp rfl _ _ _) rfl ⟨?_, rfl⟩; exact congrArg (fun b => Ending.returned (.bool b)) HV.out.symm
/-- other.Name == s.Name. -/
theorem sameName_any {w : World} {W : World} {g Bx : Nat} {s t : ByteArray} {v1 v2 : Value} {T : TypeId} (hk : w.heap[g]? = some (.cells #[.string s, v2] T (0, 0))) (hb : Below w.heap.size w W) :
    Calls Tryz.prog 72 #[.agg #[.string t, v1], .pointer (some ⟨g, 0, none⟩)] W fun e w' => e = .returned (.bool (decide (t = s))) ∧ Below w.heap.size w w' := by
  have hg : g < w.heap.size := heapE_lt hk
  obtain ⟨k0, k1, _, _⟩ := row2 ((hb.block g hg).trans hk)
  have hne : g ≠ W.heap.size := by have := hb.size; omega
  have hgW : g < W.heap.size := by have := hb.size; omega
  have HX : Hid (Below w.heap.size w (W.alloc (.cells #[.string t, v1] 94))) := Lib.hid (hb.alloc hb.size _)
  clear hk hb
  by_cases h : t = s
  · subst h
    have HD : Hid (decide (t = t) = true) := Lib.hid (by simp)
    go_enter Tryz.func72, Tryz.ntmps72
    go_wp2_with fail
    go_ret
    exact ⟨congrArg (fun b => Ending.returned (.bool b)) HD.out.symm, HX.out⟩
  · have HD : Hid (decide (t = s) = false) := Lib.hid (decide_eq_false h)
    have h2 : ¬ t.toList = s.toList := fun e => h (toL_inj e)
    have h3 : (t.toList == s.toList) = false := by rw [beq_eq_false_iff_ne]; exact h2
    go_enter Tryz.func72, Tryz.ntmps72
    go_wp2_with fail
    go_ret
    exact ⟨congrArg (fun b => Ending.returned (.bool b)) HD.out.symm, HX.out⟩
end Go.Proofs.YtlodledcglleiaaGreat

namespace Go.Proofs.YtlodledcglleiaaGreat
open Go.RowKit
open SemP
set_option linter.unusedVariables false
set_option linter.unusedSimpArgs false
set_option maxRecDepth 10000
theorem enters_sameName : ∀ args w, (callFunc 72 args).run Tryz.prog w = .ok (.enter 72 args) w := enters_of Tryz.func72 (by kernel_rfl) rfl
set_option maxHeartbeats 4000000 in
theorem checkService_any {w : World} {B n c i : Nat} {A : Option Addr} {l : List Sv} (h : CatAt w B A n c l) (hi : i < n) :
    Calls Tryz.prog 46 #[.agg #[.slice A n c], .int .i64 (i : Int)] w fun e w' => e = .returned (.int .i64 (svcE l i)) ∧ Below w.heap.size w w' := by
  have HN : Hid (l.length = n) := Lib.hid h.rd.1
  have hn16 := h.n16
  obtain ⟨b1, o1, Aj, nj, cj, rfl, hb1, k0, k1, hcap, hrr⟩ := sv_at h.rd hi
  have hb1w : b1 < w.heap.size := by have := h.le; omega
  have hsm := h.sm.2 _ (svAt_mem (i := i) (by rw [HN.out]; exact hi))
  have HNJ : Hid ((svAt l i).2.length = nj) := Lib.hid hrr.1
  have hnj : nj ≤ 16 := by have := hsm.2.1; have := HNJ.out; omega
  have HSZ : Hid ((svAt l i).1.size ≤ 100) := Lib.hid hsm.1
  obtain ⟨nm, HNM⟩ : ∃ nm, Hid ((svAt l i).1 = nm) := ⟨_, Lib.hid rfl⟩
  rw [HNM.out] at k0 HSZ
  have HV : Hid (svcE l i = if nameB (bs nm) = false then 30 else if (l.take i).any (fun o => decide (o.1 = nm)) then 31 else if nj < 1 ∨ 12 < nj then 36 else 0) := Lib.hid (by unfold svcE; rw [HNM.out, HNJ.out])
  obtain ⟨W, HW⟩ : ∃ W, Hid (W = (w.alloc (.cells #[.slice (some ⟨b1, o1, none⟩) n c] 24)).alloc (.cells #[.string nm, .slice Aj nj cj] 94)) := ⟨_, Lib.hid rfl⟩
  have hbl : Below w.heap.size w W := by rw [HW.out]; exact ((Below.refl _ w).alloc (Nat.le_refl _) _).alloc (by simp) _
  have hz : W.heap.size = w.heap.size + 2 := by rw [HW.out]; simp
  have h0 : W.heap[w.heap.size]? = some (.cells #[.slice (some ⟨b1, o1, none⟩) n c] 24 (0, 0)) := by
    rw [HW.out, Below.heap_alloc _ _ _ (by simp)]; exact heap_new w _
  have h1 : W.heap[w.heap.size + 1]? = some (.cells #[.string nm, .slice Aj nj cj] 94 (0, 0)) := by
    rw [HW.out]
    have h := heap_new (w.alloc (.cells #[.slice (some ⟨b1, o1, none⟩) n c] 24)) (.cells #[.string nm, .slice Aj nj cj] 94)
    rw [World.size_alloc] at h; exact h
  have HA := Lib.hid (h.below hbl)
  have HBL := Lib.hid hbl
  have HCO : Hid (∀ c', Calls Tryz.prog 74 #[.slice (some ⟨b1, o1, none⟩) i c', .func (.func 72) #[] #[.pointer (some ⟨w.heap.size + 1, 0, none⟩)]] W fun e w' => e = .returned (.bool ((l.take i).any (fun o => decide (o.1 = nm)))) ∧ Below W.heap.size W w') := Lib.hid (fun c' => con_sv (fun o => decide (o.1 = nm)) _ _ (RdJ.take (k := i) HA.out.rd (by omega)) HA.out.le (by omega) enters_sameName (fun W2 vs x hx hb2 hl2 hit => by
    obtain ⟨A2, n2, c2, rfl, _, _⟩ := hit.parts
    exact sameName_any (Bx := 0) h1 hb2))
  have HSL := Lib.hid (fun w => slice_svc (q := i) h.cap (by omega) w)
  have HRN := Lib.hid (rightName_any nm W (by have := HSZ.out; omega))
  have H0 := Lib.hid h0
  have H1 := Lib.hid h1
  clear hbl h0 h1 h hrr hsm
  go_enter Tryz.func46, Tryz.ntmps46
  go_upto_region 2 with fail
  change Code.wp _ _ _ _ ((w.alloc (.cells #[.slice (some ⟨b1, o1, none⟩) n c] 24)).alloc (.cells #[.string nm, .slice Aj nj cj] 94))
  rw [← HW.out]
  clear k0 k1
  obtain ⟨y0, y1, _, _⟩ := row2 H1.out
  go_wp2_with fail
  refine HRN.out.mono ?_
  rintro e w' ⟨rfl, hw'⟩
  subst hw'
  cases hq : nameB (bs nm) with
  | false =>
    have HX : Hid (svcE l i = 30) := Lib.hid (by rw [HV.out, hq]; rfl)
    clear hq
    go_wp2_with fail
    refine bodyPost_ret (results_tmp rfl _ _ _) rfl ⟨?_, HBL.out⟩
    exact congrArg (fun b => Ending.returned (.int .i64 b)) HX.out.symm
  | true =>
    have HQ := Lib.hid hq
    obtain ⟨x0, _⟩ := row1f H0.out
    have hsl := HSL.out
    clear hq
    go_wp2_with fail
    refine (HCO.out _).mono ?_
    rintro e w2 ⟨rfl, hb2⟩
    have hB2 : Below w.heap.size w w2 := HBL.out.trans (hb2.mono (by omega))
    obtain ⟨z0, z1, _, _⟩ := row2 ((hb2.block (w.heap.size + 1) (by omega)).trans H1.out)
    have HB2 := Lib.hid hB2
    clear hb2 hB2 x0 hsl y0 y1
    cases hq : (l.take i).any (fun o => decide (o.1 = nm)) with
    | true =>
      have HX : Hid (svcE l i = 31) := Lib.hid (by rw [HV.out, HQ.out, hq]; rfl)
      clear hq
      go_wp2_with fail
      refine bodyPost_ret (results_tmp rfl _ _ _) rfl ⟨?_, HB2.out⟩
      exact congrArg (fun b => Ending.returned (.int .i64 b)) HX.out.symm
    | false =>
      have HQ2 := Lib.hid hq
      clear hq
      by_cases c1 : nj < 1
      · have HX : Hid (svcE l i = 36) := Lib.hid (by rw [HV.out, HQ.out, HQ2.out, if_neg (by decide), if_neg (by decide), if_pos (.inl c1)])
        have d1 : decide ((nj : Int) < 1) = true := by simp; omega
        clear c1
        go_wp2_with fail
        refine bodyPost_ret (results_tmp rfl _ _ _) rfl ⟨?_, HB2.out⟩
        exact congrArg (fun b => Ending.returned (.int .i64 b)) HX.out.symm
      · have d1 : decide ((nj : Int) < 1) = false := by simp; omega
        by_cases c2 : 12 < nj
        · have HX : Hid (svcE l i = 36) := Lib.hid (by rw [HV.out, HQ.out, HQ2.out, if_neg (by decide), if_neg (by decide), if_pos (.inr c2)])
          have d2 : decide ((12 : Int) < (nj : Int)) = true := by simp; omega
          clear c1 c2
          go_wp2_with fail
          refine bodyPost_ret (results_tmp rfl _ _ _) rfl ⟨?_, HB2.out⟩
          exact congrArg (fun b => Ending.returned (.int .i64 b)) HX.out.symm
        · have HX : Hid (svcE l i = 0) := Lib.hid (by rw [HV.out, HQ.out, HQ2.out, if_neg (by decide), if_neg (by decide), if_neg (by omega)])
          have d2 : decide ((12 : Int) < (nj : Int)) = false := by simp; omega
          clear c1 c2
          go_wp2_with fail
          refine bodyPost_ret (results_tmp rfl _ _ _) rfl ⟨?_, HB2.out⟩
          exact congrArg (fun b => Ending.returned (.int .i64 b)) HX.out.symm
end Go.Proofs.YtlodledcglleiaaGreat
