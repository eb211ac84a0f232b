/-
  CONTRACTS: slices.IndexFunc and slices.ContainsFunc at services, releases and needs, whatever the predicate.
-/
import Derived.Test.YtebflhlgcpbikaaGreatCMe
import Derived.CallAlone
namespace Go.Proofs.YtebflhlgcpbikaaGreat
open Go.RowKit
open SemP
set_option linter.unusedVariables false
set_option linter.unusedSimpArgs false
set_option maxRecDepth 10000

set_option maxHeartbeats 4000000 in
theorem idx_sv {w : World} {B n c : Nat} {A : Option Addr} {l : List Sv} (p : Sv → Bool) (g : Nat) (lb : Array Value) (hr : RdJ 2 svI w (fun b => B ≤ b) A n l) (hB : B ≤ w.heap.size) (hn : n ≤ 1000000)
    (eg : ∀ args w, (callFunc g args).run Tryz.prog w = .ok (.enter g args) w)
    (hp : ∀ (W : World) (vs : List Value) (x : Sv), x ∈ l → Below w.heap.size w W → vs.length = 2 → svI W (fun b => B ≤ b) vs x → Calls Tryz.prog g (#[.agg vs.toArray] ++ lb) W fun e w' => e = .returned (.bool (p x)) ∧ Below w.heap.size w w') :
    Calls Tryz.prog 74 #[.slice A n c, .func (.func g) #[] lb] w fun e w' => ∃ r : Int, e = .returned (.int .i64 r) ∧ (0 ≤ r ↔ l.any p = true) ∧ Below w.heap.size w w' := by
  have HR := Lib.hid hr
  have HP := Lib.hid hp
  have HB := Lib.hid hB
  have HL := Lib.hid hr.1
  clear hr hp hB
  go_enter Tryz.func74, Tryz.ntmps74
  go_wp2_with fail
  go_loopw [5, 8] (fun _ v wr => ∃ j : Nat, j ≤ n ∧ v = .int .i64 (j : Int) ∧ Hid (Below w.heap.size w wr) ∧ Hid (∀ i, i < j → p (l.getD i default) = false)) (fun _ v _ => n - (intOf v).toNat)
  case atStart => exact ⟨0, Nat.zero_le _, rfl, Lib.hid (Below.refl _ _), Lib.hid (fun i h => absurd h (by omega))⟩
  case round =>
    obtain ⟨j, hj, rfl, HW, HN⟩ := hrel
    by_cases hjn : j < n
    · have hd : decide ((j : Int) < (n : Int)) = true := by simp; omega
      have hi : (j : Int) < (n : Int) := by omega
      have hadd : IntKind.i64.wrap ((j : Int) + 1) = ((j + 1 : Nat) : Int) := by rw [IntWalk.i64_in _ (by omega)]; omega
      have hjl : j < l.length := by rw [HL.out]; exact hjn
      obtain ⟨b, off, vs, rfl, hb, hnb, hlen, hc, hit⟩ := (HR.out.below sv_turns (HW.out.mono HB.out)).2 j hjn
      have hcall := HP.out wr vs _ (getD_mem hjl) HW.out hlen hit
      obtain ⟨x, HX⟩ : ∃ x, Hid (l.getD j default = x) := ⟨_, Lib.hid rfl⟩
      rw [HX.out] at hcall
      match vs, hlen with
      | [v0, v1], _ =>
      have k0 : wr.cell? ⟨b, off + j * 2, none⟩ = some v0 := hc 0 _ rfl
      have k1 : wr.cell? ⟨b, off + j * 2 + 1, none⟩ = some v1 := hc 1 _ rfl
      have HC := Lib.hid hcall
      clear hcall hit hc
      cases hq : p x with
      | true =>
        have HC2 : Hid (Calls Tryz.prog g (#[.agg #[v0, v1]] ++ lb) wr fun e w' => e = .returned (.bool true) ∧ Below w.heap.size w w') := Lib.hid (by have := HC.out; rw [hq] at this; exact this)
        have HY : Hid (0 ≤ (j : Int) ↔ l.any p = true) := Lib.hid ⟨fun _ => List.any_eq_true.2 ⟨x, by rw [← HX.out]; exact getD_mem hjl, hq⟩, fun _ => by omega⟩
        clear hq HC
        go_wp2_with (go_at_fn g; refine HC2.out.mono ?_; rintro e w' ⟨rfl, hb'⟩)
        go_ret
        exact ⟨_, rfl, HY.out, hb'⟩
      | false =>
        have HC2 : Hid (Calls Tryz.prog g (#[.agg #[v0, v1]] ++ lb) wr fun e w' => e = .returned (.bool false) ∧ Below w.heap.size w w') := Lib.hid (by have := HC.out; rw [hq] at this; exact this)
        have HY := Lib.hid hq
        clear hq HC
        go_wp2_with (go_at_fn g; refine HC2.out.mono ?_; rintro e w' ⟨rfl, hb'⟩)
        go_roundw
        case rel => exact ⟨j + 1, by omega, by go_num, Lib.hid hb', Lib.hid (fun i hi => by
          by_cases e : i = j
          · subst e; rw [HX.out]; exact HY.out
          · exact HN.out i (by omega))⟩
        case measure => simp [intOf]; omega
    · have hd : decide ((j : Int) < (n : Int)) = false := by simp; omega
      have HY : Hid (l.any p = false) := Lib.hid (List.any_eq_false.2 fun x hx => by
        obtain ⟨i, hi, rfl⟩ := List.getElem_of_mem hx
        have h := HN.out i (by have := HL.out; omega)
        rw [show l.getD i default = l[i] by simp [List.getD, hi]] at h
        rw [h]; simp)
      go_wp2_with fail
      go_ret
      exact ⟨_, rfl, ⟨fun h => absurd h (by decide), fun h => by rw [HY.out] at h; cases h⟩, HW.out⟩
set_option maxHeartbeats 4000000 in
theorem con_sv {w : World} {B n c : Nat} {A : Option Addr} {l : List Sv} (p : Sv → Bool) (g : Nat) (lb : Array Value) (hr : RdJ 2 svI w (fun b => B ≤ b) A n l) (hB : B ≤ w.heap.size) (hn : n ≤ 1000000)
    (eg : ∀ args w, (callFunc g args).run Tryz.prog w = .ok (.enter g args) w)
    (hp : ∀ (W : World) (vs : List Value) (x : Sv), x ∈ l → Below w.heap.size w W → vs.length = 2 → svI W (fun b => B ≤ b) vs x → Calls Tryz.prog g (#[.agg vs.toArray] ++ lb) W fun e w' => e = .returned (.bool (p x)) ∧ Below w.heap.size w w') :
    Calls Tryz.prog 51 #[.slice A n c, .func (.func g) #[] lb] w fun e w' => e = .returned (.bool (l.any p)) ∧ Below w.heap.size w w' := by
  have HI := Lib.hid (idx_sv (c := c) p g lb hr hB hn eg hp)
  clear hr hp
  go_enter Tryz.func51, Tryz.ntmps51
  go_wp2_with fail
  refine HI.out.mono ?_
  rintro e w1 ⟨r, rfl, hr, hb⟩
  have HR := Lib.hid hr
  have HBB := Lib.hid hb
  clear hr hb
  by_cases h0 : 0 ≤ r
  · have hd : decide (0 ≤ r) = true := decide_eq_true h0
    go_wp2_with fail
    go_ret
    exact ⟨congrArg (fun b => Ending.returned (.bool b)) (HR.out.1 h0).symm, HBB.out⟩
  · have hd : decide (0 ≤ r) = false := decide_eq_false h0
    have HF : Hid (l.any p = false) := Lib.hid (by
      cases h : l.any p with
      | false => rfl
      | true => exact absurd (HR.out.2 h) h0)
    go_wp2_with fail
    go_ret
    exact ⟨congrArg (fun b => Ending.returned (.bool b)) HF.out.symm, HBB.out⟩

set_option maxHeartbeats 4000000 in
theorem idx_rl {w : World} {B n c : Nat} {A : Option Addr} {l : List Rl} (p : Rl → Bool) (g : Nat) (lb : Array Value) (hr : RdJ 6 reI w (fun b => B ≤ b) A n l) (hB : B ≤ w.heap.size) (hn : n ≤ 1000000)
    (eg : ∀ args w, (callFunc g args).run Tryz.prog w = .ok (.enter g args) w)
    (hp : ∀ (W : World) (vs : List Value) (x : Rl), x ∈ l → Below w.heap.size w W → vs.length = 6 → reI W (fun b => B ≤ b) vs x → Calls Tryz.prog g (#[.agg vs.toArray] ++ lb) W fun e w' => e = .returned (.bool (p x)) ∧ Below w.heap.size w w') :
    Calls Tryz.prog 86 #[.slice A n c, .func (.func g) #[] lb] w fun e w' => ∃ r : Int, e = .returned (.int .i64 r) ∧ (0 ≤ r ↔ l.any p = true) ∧ Below w.heap.size w w' := by
  have HR := Lib.hid hr
  have HP := Lib.hid hp
  have HB := Lib.hid hB
  have HL := Lib.hid hr.1
  clear hr hp hB
  go_enter Tryz.func86, Tryz.ntmps86
  go_wp2_with fail
  go_loopw [5, 8] (fun _ v wr => ∃ j : Nat, j ≤ n ∧ v = .int .i64 (j : Int) ∧ Hid (Below w.heap.size w wr) ∧ Hid (∀ i, i < j → p (l.getD i default) = false)) (fun _ v _ => n - (intOf v).toNat)
  case atStart => exact ⟨0, Nat.zero_le _, rfl, Lib.hid (Below.refl _ _), Lib.hid (fun i h => absurd h (by omega))⟩
  case round =>
    obtain ⟨j, hj, rfl, HW, HN⟩ := hrel
    by_cases hjn : j < n
    · have hd : decide ((j : Int) < (n : Int)) = true := by simp; omega
      have hi : (j : Int) < (n : Int) := by omega
      have hadd : IntKind.i64.wrap ((j : Int) + 1) = ((j + 1 : Nat) : Int) := by rw [IntWalk.i64_in _ (by omega)]; omega
      have hjl : j < l.length := by rw [HL.out]; exact hjn
      obtain ⟨b, off, vs, rfl, hb, hnb, hlen, hc, hit⟩ := (HR.out.below re_turns (HW.out.mono HB.out)).2 j hjn
      have hcall := HP.out wr vs _ (getD_mem hjl) HW.out hlen hit
      obtain ⟨x, HX⟩ : ∃ x, Hid (l.getD j default = x) := ⟨_, Lib.hid rfl⟩
      rw [HX.out] at hcall
      match vs, hlen with
      | [v0, v1, v2, v3, v4, v5], _ =>
      have k0 : wr.cell? ⟨b, off + j * 6, none⟩ = some v0 := hc 0 _ rfl
      have k1 : wr.cell? ⟨b, off + j * 6 + 1, none⟩ = some v1 := hc 1 _ rfl
      have k2 : wr.cell? ⟨b, off + j * 6 + 2, none⟩ = some v2 := hc 2 _ rfl
      have k3 : wr.cell? ⟨b, off + j * 6 + 3, none⟩ = some v3 := hc 3 _ rfl
      have k4 : wr.cell? ⟨b, off + j * 6 + 4, none⟩ = some v4 := hc 4 _ rfl
      have k5 : wr.cell? ⟨b, off + j * 6 + 5, none⟩ = some v5 := hc 5 _ rfl
      have HC := Lib.hid hcall
      clear hcall hit hc
      cases hq : p x with
      | true =>
        have HC2 : Hid (Calls Tryz.prog g (#[.agg #[v0, v1, v2, v3, v4, v5]] ++ lb) wr fun e w' => e = .returned (.bool true) ∧ Below w.heap.size w w') := Lib.hid (by have := HC.out; rw [hq] at this; exact this)
        have HY : Hid (0 ≤ (j : Int) ↔ l.any p = true) := Lib.hid ⟨fun _ => List.any_eq_true.2 ⟨x, by rw [← HX.out]; exact getD_mem hjl, hq⟩, fun _ => by omega⟩
        clear hq HC
        go_wp2_with (go_at_fn g; refine HC2.out.mono ?_; rintro e w' ⟨rfl, hb'⟩)
        go_ret
        exact ⟨_, rfl, HY.out, hb'⟩
      | false =>
        have HC2 : Hid (Calls Tryz.prog g (#[.agg #[v0, v1, v2, v3, v4, v5]] ++ lb) wr fun e w' => e = .returned (.bool false) ∧ Below w.heap.size w w') := Lib.hid (by have := HC.out; rw [hq] at this; exact this)
        have HY := Lib.hid hq
        clear hq HC
        go_wp2_with (go_at_fn g; refine HC2.out.mono ?_; rintro e w' ⟨rfl, hb'⟩)
        go_roundw
        case rel => exact ⟨j + 1, by omega, by go_num, Lib.hid hb', Lib.hid (fun i hi => by
          by_cases e : i = j
          · subst e; rw [HX.out]; exact HY.out
          · exact HN.out i (by omega))⟩
        case measure => simp [intOf]; omega
    · have hd : decide ((j : Int) < (n : Int)) = false := by simp; omega
      have HY : Hid (l.any p = false) := Lib.hid (List.any_eq_false.2 fun x hx => by
        obtain ⟨i, hi, rfl⟩ := List.getElem_of_mem hx
        have h := HN.out i (by have := HL.out; omega)
        rw [show l.getD i default = l[i] by simp [List.getD, hi]] at h
        rw [h]; simp)
      go_wp2_with fail
      go_ret
      exact ⟨_, rfl, ⟨fun h => absurd h (by decide), fun h => by rw [HY.out] at h; cases h⟩, HW.out⟩
set_option maxHeartbeats 4000000 in
theorem con_rl {w : World} {B n c : Nat} {A : Option Addr} {l : List Rl} (p : Rl → Bool) (g : Nat) (lb : Array Value) (hr : RdJ 6 reI w (fun b => B ≤ b) A n l) (hB : B ≤ w.heap.size) (hn : n ≤ 1000000)
    (eg : ∀ args w, (callFunc g args).run Tryz.prog w = .ok (.enter g args) w)
    (hp : ∀ (W : World) (vs : List Value) (x : Rl), x ∈ l → Below w.heap.size w W → vs.length = 6 → reI W (fun b => B ≤ b) vs x → Calls Tryz.prog g (#[.agg vs.toArray] ++ lb) W fun e w' => e = .returned (.bool (p x)) ∧ Below w.heap.size w w') :
    Calls Tryz.prog 61 #[.slice A n c, .func (.func g) #[] lb] w fun e w' => e = .returned (.bool (l.any p)) ∧ Below w.heap.size w w' := by
  have HI := Lib.hid (idx_rl (c := c) p g lb hr hB hn eg hp)
  clear hr hp
  go_enter Tryz.func61, Tryz.ntmps61
  go_wp2_with fail
  refine HI.out.mono ?_
  rintro e w1 ⟨r, rfl, hr, hb⟩
  have HR := Lib.hid hr
  have HBB := Lib.hid hb
  clear hr hb
  by_cases h0 : 0 ≤ r
  · have hd : decide (0 ≤ r) = true := decide_eq_true h0
    go_wp2_with fail
    go_ret
    exact ⟨congrArg (fun b => Ending.returned (.bool b)) (HR.out.1 h0).symm, HBB.out⟩
  · have hd : decide (0 ≤ r) = false := decide_eq_false h0
    have HF : Hid (l.any p = false) := Lib.hid (by
      cases h : l.any p with
      | false => rfl
      | true => exact absurd (HR.out.2 h) h0)
    go_wp2_with fail
    go_ret
    exact ⟨congrArg (fun b => Ending.returned (.bool b)) HF.out.symm, HBB.out⟩

set_option maxHeartbeats 4000000 in
theorem idx_nd {w : World} {B n c : Nat} {A : Option Addr} {l : List Nd} (p : Nd → Bool) (g : Nat) (lb : Array Value) (hr : RdJ 2 pnI w (fun b => B ≤ b) A n l) (hB : B ≤ w.heap.size) (hn : n ≤ 1000000)
    (eg : ∀ args w, (callFunc g args).run Tryz.prog w = .ok (.enter g args) w)
    (hp : ∀ (W : World) (vs : List Value) (x : Nd), x ∈ l → Below w.heap.size w W → vs.length = 2 → pnI W (fun b => B ≤ b) vs x → Calls Tryz.prog g (#[.agg vs.toArray] ++ lb) W fun e w' => e = .returned (.bool (p x)) ∧ Below w.heap.size w w') :
    Calls Tryz.prog 87 #[.slice A n c, .func (.func g) #[] lb] w fun e w' => ∃ r : Int, e = .returned (.int .i64 r) ∧ (0 ≤ r ↔ l.any p = true) ∧ Below w.heap.size w w' := by
  have HR := Lib.hid hr
  have HP := Lib.hid hp
  have HB := Lib.hid hB
  have HL := Lib.hid hr.1
  clear hr hp hB
  go_enter Tryz.func87, Tryz.ntmps87
  go_wp2_with fail
  go_loopw [5, 8] (fun _ v wr => ∃ j : Nat, j ≤ n ∧ v = .int .i64 (j : Int) ∧ Hid (Below w.heap.size w wr) ∧ Hid (∀ i, i < j → p (l.getD i default) = false)) (fun _ v _ => n - (intOf v).toNat)
  case atStart => exact ⟨0, Nat.zero_le _, rfl, Lib.hid (Below.refl _ _), Lib.hid (fun i h => absurd h (by omega))⟩
  case round =>
    obtain ⟨j, hj, rfl, HW, HN⟩ := hrel
    by_cases hjn : j < n
    · have hd : decide ((j : Int) < (n : Int)) = true := by simp; omega
      have hi : (j : Int) < (n : Int) := by omega
      have hadd : IntKind.i64.wrap ((j : Int) + 1) = ((j + 1 : Nat) : Int) := by rw [IntWalk.i64_in _ (by omega)]; omega
      have hjl : j < l.length := by rw [HL.out]; exact hjn
      obtain ⟨b, off, vs, rfl, hb, hnb, hlen, hc, hit⟩ := (HR.out.below pn_turns (HW.out.mono HB.out)).2 j hjn
      have hcall := HP.out wr vs _ (getD_mem hjl) HW.out hlen hit
      obtain ⟨x, HX⟩ : ∃ x, Hid (l.getD j default = x) := ⟨_, Lib.hid rfl⟩
      rw [HX.out] at hcall
      match vs, hlen with
      | [v0, v1], _ =>
      have k0 : wr.cell? ⟨b, off + j * 2, none⟩ = some v0 := hc 0 _ rfl
      have k1 : wr.cell? ⟨b, off + j * 2 + 1, none⟩ = some v1 := hc 1 _ rfl
      have HC := Lib.hid hcall
      clear hcall hit hc
      cases hq : p x with
      | true =>
        have HC2 : Hid (Calls Tryz.prog g (#[.agg #[v0, v1]] ++ lb) wr fun e w' => e = .returned (.bool true) ∧ Below w.heap.size w w') := Lib.hid (by have := HC.out; rw [hq] at this; exact this)
        have HY : Hid (0 ≤ (j : Int) ↔ l.any p = true) := Lib.hid ⟨fun _ => List.any_eq_true.2 ⟨x, by rw [← HX.out]; exact getD_mem hjl, hq⟩, fun _ => by omega⟩
        clear hq HC
        go_wp2_with (go_at_fn g; refine HC2.out.mono ?_; rintro e w' ⟨rfl, hb'⟩)
        go_ret
        exact ⟨_, rfl, HY.out, hb'⟩
      | false =>
        have HC2 : Hid (Calls Tryz.prog g (#[.agg #[v0, v1]] ++ lb) wr fun e w' => e = .returned (.bool false) ∧ Below w.heap.size w w') := Lib.hid (by have := HC.out; rw [hq] at this; exact this)
        have HY := Lib.hid hq
        clear hq HC
        go_wp2_with (go_at_fn g; refine HC2.out.mono ?_; rintro e w' ⟨rfl, hb'⟩)
        go_roundw
        case rel => exact ⟨j + 1, by omega, by go_num, Lib.hid hb', Lib.hid (fun i hi => by
          by_cases e : i = j
          · subst e; rw [HX.out]; exact HY.out
          · exact HN.out i (by omega))⟩
        case measure => simp [intOf]; omega
    · have hd : decide ((j : Int) < (n : Int)) = false := by simp; omega
      have HY : Hid (l.any p = false) := Lib.hid (List.any_eq_false.2 fun x hx => by
        obtain ⟨i, hi, rfl⟩ := List.getElem_of_mem hx
        have h := HN.out i (by have := HL.out; omega)
        rw [show l.getD i default = l[i] by simp [List.getD, hi]] at h
        rw [h]; simp)
      go_wp2_with fail
      go_ret
      exact ⟨_, rfl, ⟨fun h => absurd h (by decide), fun h => by rw [HY.out] at h; cases h⟩, HW.out⟩
set_option maxHeartbeats 4000000 in
theorem con_nd {w : World} {B n c : Nat} {A : Option Addr} {l : List Nd} (p : Nd → Bool) (g : Nat) (lb : Array Value) (hr : RdJ 2 pnI w (fun b => B ≤ b) A n l) (hB : B ≤ w.heap.size) (hn : n ≤ 1000000)
    (eg : ∀ args w, (callFunc g args).run Tryz.prog w = .ok (.enter g args) w)
    (hp : ∀ (W : World) (vs : List Value) (x : Nd), x ∈ l → Below w.heap.size w W → vs.length = 2 → pnI W (fun b => B ≤ b) vs x → Calls Tryz.prog g (#[.agg vs.toArray] ++ lb) W fun e w' => e = .returned (.bool (p x)) ∧ Below w.heap.size w w') :
    Calls Tryz.prog 63 #[.slice A n c, .func (.func g) #[] lb] w fun e w' => e = .returned (.bool (l.any p)) ∧ Below w.heap.size w w' := by
  have HI := Lib.hid (idx_nd (c := c) p g lb hr hB hn eg hp)
  clear hr hp
  go_enter Tryz.func63, Tryz.ntmps63
  go_wp2_with fail
  refine HI.out.mono ?_
  rintro e w1 ⟨r, rfl, hr, hb⟩
  have HR := Lib.hid hr
  have HBB := Lib.hid hb
  clear hr hb
  by_cases h0 : 0 ≤ r
  · have hd : decide (0 ≤ r) = true := decide_eq_true h0
    go_wp2_with fail
    go_ret
    exact ⟨congrArg (fun b => Ending.returned (.bool b)) (HR.out.1 h0).symm, HBB.out⟩
  · have hd : decide (0 ≤ r) = false := decide_eq_false h0
    have HF : Hid (l.any p = false) := Lib.hid (by
      cases h : l.any p with
      | false => rfl
      | true => exact absurd (HR.out.2 h) h0)
    go_wp2_with fail
    go_ret
    exact ⟨congrArg (fun b => Ending.returned (.bool b)) HF.out.symm, HBB.out⟩
end Go.Proofs.YtebflhlgcpbikaaGreat
