/-
  BackoffReaches, over this translation.
-/
import Derived.Test.YtinphdphloddmabCDue
namespace Go.Proofs.Ytinphdphloddmab
open Go.RowKit
open ByteP
set_option linter.unusedVariables false
set_option maxRecDepth 10000

theorem nodup_sub : ∀ {a b : List Int}, a.Nodup → (∀ x, x ∈ a → x ∈ b) → a.length ≤ b.length
  | [], _, _, _ => Nat.zero_le _
  | x :: a, b, hn, hs => by
    have h1 := List.nodup_cons.1 hn
    have hx : x ∈ b := hs x (by simp)
    have ih := nodup_sub (a := a) (b := b.erase x) h1.2 (fun y hy => (List.mem_erase_of_ne (fun e => by subst e; exact h1.1 hy)).2 (hs y (by simp [hy])))
    rw [List.length_erase_of_mem hx] at ih
    have : 0 < b.length := List.length_pos_of_mem hx
    simp only [List.length_cons]
    omega
theorem nodup_same {a b : List Int} (ha : a.Nodup) (hb : b.Nodup) (h : ∀ x, x ∈ a ↔ x ∈ b) : a.length = b.length :=
  Nat.le_antisymm (nodup_sub ha fun x hx => (h x).1 hx) (nodup_sub hb fun x hx => (h x).2 hx)
def Gk (ats : List Int) (j : Nat) : Int → Option Int := fun x => if 0 ≤ x ∧ x < (j : Int) then some (ix ats x.toNat) else none
theorem gk_zero (ats : List Int) : Gk ats 0 = fun _ => none := by
  funext x; unfold Gk; rw [if_neg (by omega)]
theorem gk_succ (ats : List Int) (j : Nat) : putG (Gk ats j) (j : Int) (ix ats j) = Gk ats (j + 1) := by
  funext x
  unfold putG Gk
  by_cases e : x = (j : Int)
  · subst e; rw [if_pos rfl, if_pos (by omega)]; simp
  · rw [if_neg e]
    by_cases h : 0 ≤ x ∧ x < (j : Int)
    · rw [if_pos h, if_pos (by omega)]
    · rw [if_neg h, if_neg (by omega)]
theorem gk_some {ats : List Int} {j : Nat} {x t : Int} (h : Gk ats j x = some t) : (0 ≤ x ∧ x < (j : Int)) ∧ t = ix ats x.toNat := by
  unfold Gk at h
  by_cases hc : 0 ≤ x ∧ x < (j : Int)
  · rw [if_pos hc] at h; injection h with h; exact ⟨hc, h.symm⟩
  · rw [if_neg hc] at h; cases h
theorem due_len {ats : List Int} {m : Nat} {now : Int} {xs : List Int} (h : DueL (Gk ats m) now xs) : xs.length ≤ m := by
  have h1 : ((List.range m).map (fun i : Nat => (i : Int))).length = m := by simp
  rw [← h1]
  exact nodup_sub h.1 fun x hx => by
    obtain ⟨t, ht, _⟩ := (h.2 x).1 hx
    have := (gk_some ht).1
    exact List.mem_map.2 ⟨x.toNat, List.mem_range.2 (by omega), by omega⟩
theorem due_all {ats : List Int} {m : Nat} {now : Int} {xs : List Int} (h : DueL (Gk ats m) now xs) (ha : ∀ x t, Gk ats m x = some t → t ≤ now) : xs.length = m := by
  refine Nat.le_antisymm (due_len h) ?_
  have h1 : ((List.range m).map (fun i : Nat => (i : Int))).length = m := by simp
  rw [← h1]
  have hnd : ((List.range m).map (fun i : Nat => (i : Int))).Nodup := by
    unfold List.Nodup
    rw [List.pairwise_map]
    exact (List.nodup_range (n := m)).imp (fun hab e => hab (by omega))
  have hsub : ∀ x, x ∈ (List.range m).map (fun i : Nat => (i : Int)) → x ∈ xs := fun x hx => by
    obtain ⟨i, hi, rfl⟩ := List.mem_map.1 hx
    have hi' := List.mem_range.1 hi
    have hg : Gk ats m (i : Int) = some (ix ats i) := by unfold Gk; rw [if_pos (by omega)]; simp
    exact (h.2 _).2 ⟨_, hg, ha _ _ hg⟩
  have := nodup_sub hnd hsub
  exact this
theorem due_exists (ats : List Int) (m : Nat) (now : Int) : ∃ xs, DueL (Gk ats m) now xs := by
  refine ⟨((List.range m).map (fun i : Nat => (i : Int))).filter (fun x => decide (ix ats x.toNat ≤ now)), ?_, fun x => ?_⟩
  · refine List.Nodup.sublist List.filter_sublist ?_
    unfold List.Nodup
    rw [List.pairwise_map]
    exact (List.nodup_range (n := m)).imp (fun hab e => hab (by omega))
  · rw [List.mem_filter, List.mem_map]
    constructor
    · rintro ⟨⟨i, hi, rfl⟩, hd⟩
      have hi' := List.mem_range.1 hi
      exact ⟨ix ats i, by unfold Gk; rw [if_pos (by omega)]; simp, by simpa using hd⟩
    · rintro ⟨t, ht, hl⟩
      obtain ⟨h1, h2⟩ := gk_some ht
      exact ⟨⟨x.toNat, List.mem_range.2 (by omega), by omega⟩, by simp; omega⟩
theorem due_same {G : Int → Option Int} {n1 n2 : Int} {xs ys : List Int} (h1 : DueL G n1 xs) (h2 : DueL G n2 ys) (h : ∀ x t, G x = some t → (t ≤ n1 ↔ t ≤ n2)) : xs.length = ys.length :=
  nodup_same h1.1 h2.1 fun x => by
    rw [h1.2 x, h2.2 x]
    exact ⟨fun ⟨t, ht, hl⟩ => ⟨t, ht, (h x t ht).1 hl⟩, fun ⟨t, ht, hl⟩ => ⟨t, ht, (h x t ht).2 hl⟩⟩
theorem due_more {G : Int → Option Int} {n1 n2 a : Int} {xs ys : List Int} {x0 : Int} (h1 : DueL G n1 xs) (h2 : DueL G n2 ys) (hle : n1 ≤ n2) (hx : G x0 = some a) (ha : n1 < a) (ha2 : a ≤ n2) : xs.length < ys.length := by
  have hn : x0 ∉ xs := fun hm => by
    obtain ⟨t, ht, hl⟩ := (h1.2 x0).1 hm
    rw [hx] at ht
    injection ht with ht
    omega
  have := nodup_sub (a := x0 :: xs) (b := ys) (List.nodup_cons.2 ⟨hn, h1.1⟩) (fun x hm => by
    rcases List.mem_cons.1 hm with e | e
    · subst e; exact (h2.2 x).2 ⟨a, hx, ha2⟩
    · obtain ⟨t, ht, hl⟩ := (h1.2 x).1 e
      exact (h2.2 x).2 ⟨t, ht, by omega⟩)
  simp only [List.length_cons] at this
  omega

section
variable [Inhabited I64]
set_option maxHeartbeats 4000000 in
theorem law_reaches {w : World} {A : Option Addr} {m c : Nat} {ats : List Int} (hr : Rd w w.heap.size A m ats) (hm : m ≤ 9223372036854775807) :
    Calls Try.prog 8 #[.slice A m c] w fun e w' => e = .returned (.bool true) ∧ Below w.heap.size w w' := by
  have HA := Lib.hid hr
  clear hr
  go_enter Try.func8, Try.ntmps8
  go_wp2_with fail
  refine (anchor_any w).mono ?_
  rintro e w0 ⟨rfl, hb0⟩
  have HB0 := Lib.hid hb0
  clear hb0
  by_cases hm0 : 40 < m
  · have d2 : decide ((40 : Int) < (m : Int)) = true := by simp; omega
    go_wp2
    go_ret
    exact ⟨rfl, HB0.out⟩
  have d2 : decide ((40 : Int) < (m : Int)) = false := by simp; omega
  go_wp2_with fail
  refine (new_any w0).mono ?_
  rintro e w1 ⟨rfl, hc1, hb1⟩
  obtain ⟨cb, bm, HCB, HBM, H1⟩ : ∃ cb bm, Hid (cb = w0.heap.size + 1) ∧ Hid (w.heap.size ≤ cb ∧ w.heap.size ≤ bm) ∧ Hid (Clk w1 cb bm 0 0 (.map [])) := ⟨_, _, Lib.hid rfl, Lib.hid (by have := HB0.out.size; omega), Lib.hid hc1⟩
  rw [← HCB.out]
  have HB1 : Hid (Below w.heap.size w w1) := Lib.hid (HB0.out.trans (hb1.mono HB0.out.size))
  clear hc1 hb1 HCB
  go_wp2
  go_loopw [19] (fun i wr => ∃ (j : Nat) (D : DataW Unit), j ≤ m ∧ i = .int .i64 (j : Int) ∧ Hid (Clk wr cb bm 0 j D) ∧ Hid (AlD D (Gk ats j)) ∧ Hid (∀ i, i < j → 0 ≤ ix ats i ∧ ix ats i ≤ 1073741824) ∧ Hid (Below w.heap.size w wr)) (fun i _ => m - (intOf i).toNat)
  case atStart => exact ⟨0, .map [], by omega, rfl, H1, Lib.hid (by rw [gk_zero]; exact alD_empty), Lib.hid (fun i hi => absurd hi (by omega)), HB1⟩
  case round =>
    obtain ⟨j, D, hj, rfl, hclk, hal, hats, hbel⟩ := hrel
    by_cases hjm : j < m
    · have hd : decide ((j : Int) < (m : Int)) = true := by simp; omega
      have hi : (j : Int) < (m : Int) := by omega
      have hadd : IntKind.i64.wrap ((j : Int) + 1) = ((j + 1 : Nat) : Int) := by rw [IntWalk.i64_in _ (by omega)]; omega
      obtain ⟨b, off, rfl, _, hcell⟩ := (HA.out.below hbel.out).at_ hjm
      generalize hx : ix ats j = x at *
      have HX := Lib.hid hx
      clear hx
      by_cases h0 : x < 0
      · have e1 : decide (x < 0) = true := by simp; omega
        go_wp2
        go_ret
        exact ⟨rfl, hbel.out⟩
      have e1 : decide (x < 0) = false := by simp; omega
      by_cases h9 : 1073741824 < x
      · have e2 : decide (1073741824 < x) = true := by simp; omega
        go_wp2
        go_ret
        exact ⟨rfl, hbel.out⟩
      have e2 : decide (1073741824 < x) = false := by simp; omega
      go_wp2_with fail
      refine (set_ok hclk.out (by omega) (j : Int) x (by omega) (by omega) (by omega) (by omega)).mono ?_
      rintro e w5 ⟨rfl, hc5, hg5⟩
      have HC5 := Lib.hid hc5
      have HA5 : Hid (AlD (D.put (.int .i64 (j : Int)) (.lit (.int .i64 x))) (Gk ats (j + 1))) := Lib.hid (by
        rw [← gk_succ, HX.out]
        exact hal.out.put hclk.out.own.isMap (j : Int) x)
      have HT5 : Hid (∀ i, i < j + 1 → 0 ≤ ix ats i ∧ ix ats i ≤ 1073741824) := Lib.hid (fun i hi => by
        by_cases e : i = j
        · subst e; rw [HX.out]; omega
        · exact hats.out i (by omega))
      have HB5 : Hid (Below w.heap.size w w5) := Lib.hid (hbel.out.grown hg5 hbel.out.size (fun g hg => by injection hg with e; have := HBM.out; omega))
      clear hc5 hg5
      go_wp2
      go_roundw
      case rel => exact ⟨j + 1, _, by omega, rfl, HC5, HA5, HT5, HB5⟩
      case measure => simp [intOf]; omega
    · have hd : decide ((j : Int) < (m : Int)) = false := by simp; omega
      obtain rfl : j = m := by omega
      have hadd1 : IntKind.i64.wrap ((j : Int) + 1) = ((j + 1 : Nat) : Int) := by rw [IntWalk.i64_in _ (by omega)]; omega
      have HG : Hid (∀ x t, Gk ats j x = some t → (0 ≤ x ∧ x ≤ 999999) ∧ 0 ≤ t ∧ t ≤ 1073741824) := Lib.hid (fun x t hx => by
        obtain ⟨h1, h2⟩ := gk_some hx
        have := hats.out x.toNat (by omega)
        rw [h2]
        omega)
      go_wp2
      go_loopw [38] (fun i wr => ∃ (k : Nat) (now : Int) (xs : List Int), i = .int .i64 (k : Int) ∧ k ≤ xs.length ∧ Hid (DueL (Gk ats j) now xs) ∧ 0 ≤ now ∧ now ≤ 1073741824 ∧ Hid (Clk wr cb bm now j D) ∧ Hid (Below w.heap.size w wr)) (fun i _ => j + 1 - (intOf i).toNat)
      case atStart =>
        obtain ⟨xs, hxs⟩ := due_exists ats j 0
        exact ⟨0, 0, xs, rfl, by omega, Lib.hid hxs, by omega, by omega, hclk, hbel⟩
      case round =>
        obtain ⟨k, now, xs, rfl, hk, hxs, hn0, hn1, hclk2, hbel2⟩ := hrel
        have hkj := due_len hxs.out
        have hd3 : decide ((k : Int) < ((j + 1 : Nat) : Int)) = true := by simp; omega
        have hadd3 : IntKind.i64.wrap ((k : Int) + 1) = ((k + 1 : Nat) : Int) := by rw [IntWalk.i64_in _ (by omega)]; omega
        go_wp2_with fail
        refine (next_any hclk2.out hal.out).mono ?_
        rintro e w5 ⟨a, ok, rfl, hok, hlo, hb5⟩
        have HC5 := Lib.hid (hclk2.out.below hb5 hclk2.out.lt hclk2.out.own.lt)
        have HB5 : Hid (Below w.heap.size w w5) := Lib.hid (hbel2.out.trans (hb5.mono hbel2.out.size))
        have HLO := Lib.hid hlo
        clear hb5 hlo
        cases ok with
        | false =>
          go_wp2_with fail
          refine (due_any HC5.out hal.out (fun x t hx => (HG.out x t hx).1) (by omega)).mono ?_
          rintro e w6 ⟨A6, c6, xs6, rfl, hx6, hb6⟩
          have hl6 : xs6.length = j := due_all hx6 (fun x t hx => by
            rcases Int.lt_or_le now t with h | h
            · have := (HLO.out x t hx h).1; cases this
            · exact h)
          have HB6 : Hid (Below w.heap.size w w6) := Lib.hid (HB5.out.trans (hb6.mono HB5.out.size))
          clear hx6 hb6
          rw [hl6]
          go_wp2
          go_ret
          exact ⟨rfl, HB6.out⟩
        | true =>
          obtain ⟨hna, x0, hx0⟩ := hok rfl
          have ha1 := (HG.out x0 a hx0).2.2
          have HX0 := Lib.hid hx0
          clear hok hx0
          have hs1 : IntKind.i64.wrap (a - now) = a - now := IntWalk.i64_in _ (by omega)
          have hs2 : IntKind.i64.wrap (a - now - 1) = a - now - 1 := IntWalk.i64_in _ (by omega)
          go_wp2_with fail
          refine (due_any HC5.out hal.out (fun x t hx => (HG.out x t hx).1) (by omega)).mono ?_
          rintro e w6 ⟨A6, c6, xs6, rfl, hx6, hb6⟩
          have HX6 := Lib.hid hx6
          have HC6 := Lib.hid (HC5.out.below hb6 HC5.out.lt HC5.out.own.lt)
          have HB6 : Hid (Below w.heap.size w w6) := Lib.hid (HB5.out.trans (hb6.mono HB5.out.size))
          have hl6 := due_len hx6
          clear hx6 hb6
          go_wp2_with fail
          refine (now_any HC6.out).mono ?_
          rintro e w7 ⟨rfl, rfl⟩
          go_wp2_with fail
          refine (tick_ok HC6.out (a - now - 1) (by omega) (by omega) hn0 (by omega)).mono ?_
          rintro e w7 ⟨rfl, hc7, hg7⟩
          rw [show now + (a - now - 1) = a - 1 by omega] at hc7
          have HC7 := Lib.hid hc7
          have HB7 : Hid (Below w.heap.size w w7) := Lib.hid (HB6.out.grown hg7 HB6.out.size (fun g hg => by injection hg with e; have := HBM.out; omega))
          clear hc7 hg7
          go_wp2_with fail
          refine (due_any HC7.out hal.out (fun x t hx => (HG.out x t hx).1) (by omega)).mono ?_
          rintro e w8 ⟨A8, c8, xs8, rfl, hx8, hb8⟩
          have hl8 : xs8.length = xs6.length := due_same hx8 HX6.out (fun x t hx => by
            rcases Int.lt_or_le now t with h | h
            · have := (HLO.out x t hx h).2; omega
            · omega)
          have HC8 := Lib.hid (HC7.out.below hb8 HC7.out.lt HC7.out.own.lt)
          have HB8 : Hid (Below w.heap.size w w8) := Lib.hid (HB7.out.trans (hb8.mono HB7.out.size))
          clear hx8 hb8
          rw [hl8]
          go_wp2_with fail
          refine (tick_ok HC8.out 1 (by omega) (by omega) (by omega) (by omega)).mono ?_
          rintro e w9 ⟨rfl, hc9, hg9⟩
          rw [show a - 1 + 1 = a by omega] at hc9
          have HC9 := Lib.hid hc9
          have HB9 : Hid (Below w.heap.size w w9) := Lib.hid (HB8.out.grown hg9 HB8.out.size (fun g hg => by injection hg with e; have := HBM.out; omega))
          clear hc9 hg9
          go_wp2_with fail
          refine (due_any HC9.out hal.out (fun x t hx => (HG.out x t hx).1) (by omega)).mono ?_
          rintro e wa ⟨Aa, ca, xsa, rfl, hxa, hba⟩
          have hla : xs6.length < xsa.length := due_more HX6.out hxa (by omega) HX0.out hna (Int.le_refl _)
          have hlk : xs.length = xs6.length := due_same hxs.out HX6.out (fun _ _ _ => Iff.rfl)
          have hda : decide ((xsa.length : Int) ≤ (xs6.length : Int)) = false := by simp; omega
          have HXA := Lib.hid hxa
          have HCA := Lib.hid (HC9.out.below hba HC9.out.lt HC9.out.own.lt)
          have HBA : Hid (Below w.heap.size w wa) := Lib.hid (HB9.out.trans (hba.mono HB9.out.size))
          clear hxa hba
          go_wp2_with fail
          refine (now_any HCA.out).mono ?_
          rintro e wb ⟨rfl, rfl⟩
          go_wp2
          go_roundw
          case rel => exact ⟨k + 1, a, xsa, rfl, by omega, HXA, by omega, by omega, HCA, HBA⟩
          case measure => simp [intOf]; omega
end
end Go.Proofs.Ytinphdphloddmab
