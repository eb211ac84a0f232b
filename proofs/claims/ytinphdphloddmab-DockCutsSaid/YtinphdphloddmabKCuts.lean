/-
  DockCuts, over this translation.
-/
import Derived.Test.YtinphdphloddmabKWords
namespace Go.Proofs.Ytinphdphloddmab
open Go.RowKit
open ByteP
set_option linter.unusedVariables false
set_option maxRecDepth 10000

set_option maxHeartbeats 8000000 in
theorem law_cuts {w : World} {A1 A4 : Option Addr} {n1 n4 c1 c4 : Nat} {xs ys : List Int} {n : Int} (sync : Bool) (h1 : RdY w w.heap.size A1 n1 xs) (h4 : RdY w w.heap.size A4 n4 ys) (hb1 : Bytes xs) (hb4 : Bytes ys) (hl1 : n1 ≤ 9223372036854775807) (hl4 : n4 ≤ 9223372036854775807)
    (hA1 : (A1 = none ∧ n1 = 0 ∧ c1 = 0) ∨ ∃ x, A1 = some x ∧ n1 ≤ c1 ∧ c1 ≤ 9223372036854775807) (hk : -9223372036854775808 ≤ n ∧ n ≤ 9223372036854775807) :
    Calls Try.prog 5 #[.slice A1 n1 c1, .bool sync, .int .i64 n, .slice A4 n4 c4] w fun e w' => e = .returned (.bool true) ∧ Below w.heap.size w w' := by
  have HX := Lib.hid h1
  have HY := Lib.hid h4
  have HBX := Lib.hid hb1
  have HBY := Lib.hid hb4
  have HA1 := Lib.hid hA1
  have hlx := h1.len
  have hly := h4.len
  clear h1 h4 hb1 hb4 hA1
  go_enter Try.func5, Try.ntmps5
  go_wp2_with fail
  refine (anchor_any w).mono ?_
  rintro e w0 ⟨rfl, hb0⟩
  have HB0 := Lib.hid hb0
  clear hb0
  by_cases hn1 : 1000 < n1
  · have d1 : decide ((1000 : Int) < (n1 : Int)) = true := by simp; omega
    go_wp2
    go_ret
    exact ⟨rfl, HB0.out⟩
  have d1 : decide ((1000 : Int) < (n1 : Int)) = false := by simp; omega
  by_cases hn2 : 1000 < n4
  · have d2 : decide ((1000 : Int) < (n4 : Int)) = true := by simp; omega
    go_wp2
    go_ret
    exact ⟨rfl, HB0.out⟩
  have d2 : decide ((1000 : Int) < (n4 : Int)) = false := by simp; omega
  go_wp2_with fail
  refine (new_any w0 2000 (by omega) (by omega)).mono ?_
  rintro e w1 ⟨db, mb, rfl, hmb, hk1, hb1⟩
  have H1 := Lib.hid hk1
  have HB1 : Hid (Below w.heap.size w w1) := Lib.hid (HB0.out.trans (hb1.mono HB0.out.size))
  have HMB : Hid (w.heap.size ≤ mb) := Lib.hid (by have := HB0.out.size; omega)
  have HR1 : Hid (RdK w1 (Mine db mb (fun _ => none)) A1 n1 xs) := Lib.hid (RdK.of_rd (HX.out.below HB1.out) HB1.out.size (fun b hb => hk1.low (by have := HB0.out.size; omega)))
  clear hk1 hb1 hmb
  go_wp2_with fail
  refine (append_any (k := 0) H1.out (by omega) rfl (by decide) (by decide) (by decide) (by decide) (by decide) (by decide) HR1.out HBX.out (by simp only; omega) (by show 0 + n1 ≤ _; omega)).mono ?_
  rintro e w2 ⟨rfl, f1, hbs1, hn1', hs1, hk2, hfr2, hmi2⟩
  obtain ⟨F1, HF1e⟩ : ∃ F1, Hid (F1 = putF (fun _ => none) 0 f1) := ⟨_, Lib.hid rfl⟩
  rw [← HF1e.out] at hk2
  have H2 : Hid (Dk w2 db mb 1 ⟨2000, (n1 : Int), -1, false⟩ F1) := Lib.hid (by have h := hk2; rw [gd_off _ rfl] at h; simpa using h)
  have HB2 : Hid (Below w.heap.size w w2) := Lib.hid (HB1.out.trans ((hfr2.below H1.out).mono HMB.out))
  have HF1 : Hid (f1.bs = xs ∧ f1.n = n1 ∧ f1.s = 0) := Lib.hid ⟨by rw [hbs1]; rfl, by rw [hn1']; show 0 + n1 = n1; omega, hs1⟩
  have HE1 : Hid (F1 0 = some f1) := Lib.hid (by rw [HF1e.out]; exact putF_same _ _ _)
  clear hbs1 hn1' hs1 hk2 hfr2 hmi2 HF1e
  cases sync with
  | true =>
    go_wp2_with fail
    refine (sync_ok (k := 0) H2.out (by omega) rfl (by simp only; omega) (by simp only; omega) (by simp only; omega) HE1.out).mono ?_
    rintro e w3 ⟨rfl, hk3, hfr3⟩
    obtain ⟨F2, f2, HF2e, Hf2e⟩ : ∃ F2 f2, Hid (F2 = putF F1 0 f2) ∧ Hid (f2 = { f1 with s := f1.n }) := ⟨_, _, Lib.hid rfl, Lib.hid rfl⟩
    rw [← Hf2e.out, ← HF2e.out] at hk3
    have H3 : Hid (Dk w3 db mb 2 ⟨2000, (n1 : Int), -1, false⟩ F2) := Lib.hid (by have h := hk3; rw [gd_off _ rfl] at h; exact h)
    have HB3 : Hid (Below w.heap.size w w3) := Lib.hid (HB2.out.trans ((hfr3.below H2.out).mono HMB.out))
    have HE3 : Hid (F2 0 = some f2) := Lib.hid (by rw [HF2e.out]; exact putF_same _ _ _)
    have HF3 : Hid (f2.bs = xs ∧ f2.n = n1 ∧ f2.s = n1) := Lib.hid (by rw [Hf2e.out]; exact ⟨HF1.out.1, HF1.out.2.1, HF1.out.2.1⟩)
    clear hk3 hfr3 HF2e Hf2e
    have HOK : ∀ p : Nat, p ≤ n1 → 0 = 0 := fun _ _ => rfl
    clear HOK
    by_cases hn0 : n < 0
    · have e1 : decide (n < 0) = true := by simp; omega
      go_wp2_with fail
      refine (cut_big H3.out rfl HE3.out (p := n) (.inl hn0)).mono ?_
      rintro e w4 ⟨rfl, hb4⟩
      have H4 := Lib.hid (H3.out.below hb4)
      have HB4 : Hid (Below w.heap.size w w4) := Lib.hid (HB3.out.trans (hb4.mono HB3.out.size))
      clear hb4
      go_wp2_with fail
      refine (size_any H4.out).mono ?_
      rintro e w5 ⟨rfl, rfl⟩
      go_wp2
      go_ret
      exact ⟨rfl, HB4.out⟩
    have e1 : decide (n < 0) = false := by simp; omega
    by_cases hn9 : (n1 : Int) < n
    · have e2 : decide ((n1 : Int) < n) = true := by simp; omega
      go_wp2_with fail
      refine (cut_big H3.out rfl HE3.out (p := n) (.inr (by rw [HF3.out.2.1]; exact hn9))).mono ?_
      rintro e w4 ⟨rfl, hb4⟩
      have H4 := Lib.hid (H3.out.below hb4)
      have HB4 : Hid (Below w.heap.size w w4) := Lib.hid (HB3.out.trans (hb4.mono HB3.out.size))
      clear hb4
      go_wp2_with fail
      refine (size_any H4.out).mono ?_
      rintro e w5 ⟨rfl, rfl⟩
      go_wp2
      go_ret
      exact ⟨rfl, HB4.out⟩
    obtain ⟨p, rfl⟩ : ∃ p : Nat, n = (p : Int) := ⟨n.toNat, by omega⟩
    have hp : p ≤ n1 := by omega
    have e2 : decide ((n1 : Int) < (p : Int)) = false := by simp; omega
    clear e1 hn0
    go_wp2_with fail
    refine (cut_ok H3.out (by omega) rfl (by simp only; omega) (by simp only; omega) (by simp only; omega) (by simp only; omega) (by simp only; omega) HE3.out (p := p) (by rw [HF3.out.2.1]; exact hp)).mono ?_
    rintro e w4 ⟨rfl, hk4, hfr4⟩
    obtain ⟨F3, HF3e⟩ : ∃ F3, Hid (F3 = putF F2 0 (cutTo f2 p (min f2.s p))) := ⟨_, Lib.hid rfl⟩
    rw [← HF3e.out] at hk4
    have H4 : Hid (Dk w4 db mb (3) ⟨2000, (p : Int), -1, false⟩ F3) := Lib.hid (by
      have h := hk4
      rw [gd_off _ rfl, HF3.out.2.1] at h
      rw [show (n1 : Int) - ((n1 : Int) - (p : Int)) = (p : Int) by omega] at h
      exact h)
    have HB4 : Hid (Below w.heap.size w w4) := Lib.hid (HB3.out.trans ((hfr4.below H3.out).mono HMB.out))
    have HA4 : Hid (fileAt F3 0 = cutTo f2 p (min f2.s p)) := Lib.hid (by unfold fileAt; rw [HF3e.out, putF_same]; rfl)
    have HR4 : Hid (RdK w4 (Mine db mb F3) A4 n4 ys) := Lib.hid (RdK.of_rd (HY.out.below HB4.out) HB4.out.size (fun b hb => H4.out.low (by have := HMB.out; omega)))
    clear hk4 hfr4 HF3e
    go_wp2_with fail
    refine (append_any (k := 0) H4.out (by omega) rfl (by simp only; omega) (by simp only; omega) (by simp only; omega) (by simp only; omega) (by decide) (by decide) HR4.out HBY.out (by simp only; omega) (by rw [HA4.out]; show p + n4 ≤ _; omega)).mono ?_
    rintro e w5 ⟨rfl, f5, hbs5, hn5, hs5, hk5, hfr5, hmi5⟩
    rw [HA4.out] at hbs5 hn5 hs5
    obtain ⟨F5, HF5e⟩ : ∃ F5, Hid (F5 = putF F3 0 f5) := ⟨_, Lib.hid rfl⟩
    rw [← HF5e.out] at hk5
    have H5 : Hid (Dk w5 db mb (4) ⟨2000, (p : Int) + (n4 : Int), -1, false⟩ F5) := Lib.hid (by have h := hk5; rw [gd_off _ rfl] at h; exact h)
    have HB5 : Hid (Below w.heap.size w w5) := Lib.hid (HB4.out.trans ((hfr5.below H4.out).mono HMB.out))
    have HE5 : Hid (F5 0 = some f5) := Lib.hid (by rw [HF5e.out]; exact putF_same _ _ _)
    have HF5 : Hid (f5.bs = xs.take p ++ ys ∧ f5.n = p + n4 ∧ f5.s = min n1 p) := Lib.hid ⟨by rw [hbs5]; show f2.bs.take p ++ ys = _; rw [HF3.out.1], by rw [hn5]; rfl, by rw [hs5]; show min f2.s p = _; rw [HF3.out.2.2]⟩
    clear hbs5 hn5 hs5 hk5 hfr5 hmi5 HF5e
    go_wp2_with fail
    refine (safe_same H5.out (by omega) (by omega) HE5.out).mono ?_
    rintro e w6 ⟨rfl, rfl⟩
    rw [HF5.out.2.2]
    by_cases hsp : n1 ≤ p
    · have m1 : min n1 p = n1 := by omega
      have m2 : decide ((n1 : Int) ≤ (p : Int)) = true := by simp; omega
      have m3 : decide ((p : Int) < (n1 : Int)) = false := by simp; omega
      rw [m1]
      clear m1
      go_wp2_with fail
      refine (read_some H5.out rfl HE5.out).mono ?_
      rintro e w7 ⟨A7, c7, rfl, hown7, hb7⟩
      rw [HF5.out.1, HF5.out.2.1] at hown7
      rw [HF5.out.2.1]
      have HB7 : Hid (Below w.heap.size w w7) := Lib.hid (HB5.out.trans (hb7.mono HB5.out.size))
      have hst7 : ∀ k, (convert 29 9 (.slice A7 (p + n4) c7)).run Try.prog (w7.drewN k) = .ok (.string (strOfNums (xs.take p) ++ strOfNums ys)) (w7.drewN k) := fun k => by
        obtain ⟨A9, c9, hv, hr⟩ := hown7.shape
        injection hv with e1 e2 e3
        subst e1
        rw [← strOf_append]
        exact str_run (c := c7) (hr.drewN k)
      have hst1 : ∀ k, (convert 29 9 (.slice A1 p c1)).run Try.prog (w7.drewN k) = .ok (.string (strOfNums (xs.take p))) (w7.drewN k) := fun k => str_run (c := c1) (((HX.out.below HB7.out).take hp).drewN k)
      have hst4 : ∀ k, (convert 29 9 (.slice A4 n4 c4)).run Try.prog (w7.drewN k) = .ok (.string (strOfNums ys)) (w7.drewN k) := fun k => str_run (c := c4) ((HY.out.below HB7.out).drewN k)
      have hsl := fun w => hsl_any HA1.out hp w
      have hcat := fun (w : World) => run_string_add_sum (P := Try.prog) (w := w) (strOfNums (xs.take p)) (strOfNums ys) (by rw [strOfNums_size, strOfNums_size, List.length_take]; omega)
      clear hown7 hb7
      go_wp2_with fail
      go_quiet (fail)
      go_wp2
      go_ret
      exact ⟨rfl, ⟨HB7.out.os, HB7.out.tape, HB7.out.output, HB7.out.size, HB7.out.block⟩⟩
    · have m1 : min n1 p = p := by omega
      have m2 : decide ((n1 : Int) ≤ (p : Int)) = false := by simp; omega
      have m3 : decide ((p : Int) < (n1 : Int)) = true := by simp; omega
      rw [m1]
      clear m1
      go_wp2_with fail
      refine (read_some H5.out rfl HE5.out).mono ?_
      rintro e w7 ⟨A7, c7, rfl, hown7, hb7⟩
      rw [HF5.out.1, HF5.out.2.1] at hown7
      rw [HF5.out.2.1]
      have HB7 : Hid (Below w.heap.size w w7) := Lib.hid (HB5.out.trans (hb7.mono HB5.out.size))
      have hst7 : ∀ k, (convert 29 9 (.slice A7 (p + n4) c7)).run Try.prog (w7.drewN k) = .ok (.string (strOfNums (xs.take p) ++ strOfNums ys)) (w7.drewN k) := fun k => by
        obtain ⟨A9, c9, hv, hr⟩ := hown7.shape
        injection hv with e1 e2 e3
        subst e1
        rw [← strOf_append]
        exact str_run (c := c7) (hr.drewN k)
      have hst1 : ∀ k, (convert 29 9 (.slice A1 p c1)).run Try.prog (w7.drewN k) = .ok (.string (strOfNums (xs.take p))) (w7.drewN k) := fun k => str_run (c := c1) (((HX.out.below HB7.out).take hp).drewN k)
      have hst4 : ∀ k, (convert 29 9 (.slice A4 n4 c4)).run Try.prog (w7.drewN k) = .ok (.string (strOfNums ys)) (w7.drewN k) := fun k => str_run (c := c4) ((HY.out.below HB7.out).drewN k)
      have hsl := fun w => hsl_any HA1.out hp w
      have hcat := fun (w : World) => run_string_add_sum (P := Try.prog) (w := w) (strOfNums (xs.take p)) (strOfNums ys) (by rw [strOfNums_size, strOfNums_size, List.length_take]; omega)
      clear hown7 hb7
      go_wp2_with fail
      go_quiet (fail)
      go_wp2
      go_ret
      exact ⟨rfl, ⟨HB7.out.os, HB7.out.tape, HB7.out.output, HB7.out.size, HB7.out.block⟩⟩

  | false =>
    obtain ⟨F2, f2, w3, rfl, rfl, rfl⟩ : ∃ F2 f2 w3, F1 = F2 ∧ f1 = f2 ∧ w2 = w3 := ⟨_, _, _, rfl, rfl, rfl⟩
    have H3 := H2
    have HB3 := HB2
    have HE3 := HE1
    have HF3 := HF1
    clear H2 HB2 HE1 HF1
    have HOK : ∀ p : Nat, p ≤ n1 → 0 = 0 := fun _ _ => rfl
    clear HOK
    by_cases hn0 : n < 0
    · have e1 : decide (n < 0) = true := by simp; omega
      go_wp2_with fail
      refine (cut_big H3.out rfl HE3.out (p := n) (.inl hn0)).mono ?_
      rintro e w4 ⟨rfl, hb4⟩
      have H4 := Lib.hid (H3.out.below hb4)
      have HB4 : Hid (Below w.heap.size w w4) := Lib.hid (HB3.out.trans (hb4.mono HB3.out.size))
      clear hb4
      go_wp2_with fail
      refine (size_any H4.out).mono ?_
      rintro e w5 ⟨rfl, rfl⟩
      go_wp2
      go_ret
      exact ⟨rfl, HB4.out⟩
    have e1 : decide (n < 0) = false := by simp; omega
    by_cases hn9 : (n1 : Int) < n
    · have e2 : decide ((n1 : Int) < n) = true := by simp; omega
      go_wp2_with fail
      refine (cut_big H3.out rfl HE3.out (p := n) (.inr (by rw [HF3.out.2.1]; exact hn9))).mono ?_
      rintro e w4 ⟨rfl, hb4⟩
      have H4 := Lib.hid (H3.out.below hb4)
      have HB4 : Hid (Below w.heap.size w w4) := Lib.hid (HB3.out.trans (hb4.mono HB3.out.size))
      clear hb4
      go_wp2_with fail
      refine (size_any H4.out).mono ?_
      rintro e w5 ⟨rfl, rfl⟩
      go_wp2
      go_ret
      exact ⟨rfl, HB4.out⟩
    obtain ⟨p, rfl⟩ : ∃ p : Nat, n = (p : Int) := ⟨n.toNat, by omega⟩
    have hp : p ≤ n1 := by omega
    have e2 : decide ((n1 : Int) < (p : Int)) = false := by simp; omega
    clear e1 hn0
    go_wp2_with fail
    refine (cut_ok H3.out (by omega) rfl (by simp only; omega) (by simp only; omega) (by simp only; omega) (by simp only; omega) (by simp only; omega) HE3.out (p := p) (by rw [HF3.out.2.1]; exact hp)).mono ?_
    rintro e w4 ⟨rfl, hk4, hfr4⟩
    obtain ⟨F3, HF3e⟩ : ∃ F3, Hid (F3 = putF F1 0 (cutTo f1 p (min f1.s p))) := ⟨_, Lib.hid rfl⟩
    rw [← HF3e.out] at hk4
    have H4 : Hid (Dk w4 db mb (2) ⟨2000, (p : Int), -1, false⟩ F3) := Lib.hid (by
      have h := hk4
      rw [gd_off _ rfl, HF3.out.2.1] at h
      rw [show (n1 : Int) - ((n1 : Int) - (p : Int)) = (p : Int) by omega] at h
      exact h)
    have HB4 : Hid (Below w.heap.size w w4) := Lib.hid (HB3.out.trans ((hfr4.below H3.out).mono HMB.out))
    have HA4 : Hid (fileAt F3 0 = cutTo f1 p (min f1.s p)) := Lib.hid (by unfold fileAt; rw [HF3e.out, putF_same]; rfl)
    have HR4 : Hid (RdK w4 (Mine db mb F3) A4 n4 ys) := Lib.hid (RdK.of_rd (HY.out.below HB4.out) HB4.out.size (fun b hb => H4.out.low (by have := HMB.out; omega)))
    clear hk4 hfr4 HF3e
    go_wp2_with fail
    refine (append_any (k := 0) H4.out (by omega) rfl (by simp only; omega) (by simp only; omega) (by simp only; omega) (by simp only; omega) (by decide) (by decide) HR4.out HBY.out (by simp only; omega) (by rw [HA4.out]; show p + n4 ≤ _; omega)).mono ?_
    rintro e w5 ⟨rfl, f5, hbs5, hn5, hs5, hk5, hfr5, hmi5⟩
    rw [HA4.out] at hbs5 hn5 hs5
    obtain ⟨F5, HF5e⟩ : ∃ F5, Hid (F5 = putF F3 0 f5) := ⟨_, Lib.hid rfl⟩
    rw [← HF5e.out] at hk5
    have H5 : Hid (Dk w5 db mb (3) ⟨2000, (p : Int) + (n4 : Int), -1, false⟩ F5) := Lib.hid (by have h := hk5; rw [gd_off _ rfl] at h; exact h)
    have HB5 : Hid (Below w.heap.size w w5) := Lib.hid (HB4.out.trans ((hfr5.below H4.out).mono HMB.out))
    have HE5 : Hid (F5 0 = some f5) := Lib.hid (by rw [HF5e.out]; exact putF_same _ _ _)
    have HF5 : Hid (f5.bs = xs.take p ++ ys ∧ f5.n = p + n4 ∧ f5.s = min 0 p) := Lib.hid ⟨by rw [hbs5]; show f1.bs.take p ++ ys = _; rw [HF3.out.1], by rw [hn5]; rfl, by rw [hs5]; show min f1.s p = _; rw [HF3.out.2.2]⟩
    clear hbs5 hn5 hs5 hk5 hfr5 hmi5 HF5e
    go_wp2_with fail
    refine (safe_same H5.out (by omega) (by omega) HE5.out).mono ?_
    rintro e w6 ⟨rfl, rfl⟩
    rw [HF5.out.2.2]
    rw [show min 0 p = 0 by omega]
    go_wp2_with fail
    refine (read_some H5.out rfl HE5.out).mono ?_
    rintro e w7 ⟨A7, c7, rfl, hown7, hb7⟩
    rw [HF5.out.1, HF5.out.2.1] at hown7
    rw [HF5.out.2.1]
    have HB7 : Hid (Below w.heap.size w w7) := Lib.hid (HB5.out.trans (hb7.mono HB5.out.size))
    have hst7 : ∀ k, (convert 29 9 (.slice A7 (p + n4) c7)).run Try.prog (w7.drewN k) = .ok (.string (strOfNums (xs.take p) ++ strOfNums ys)) (w7.drewN k) := fun k => by
      obtain ⟨A9, c9, hv, hr⟩ := hown7.shape
      injection hv with e1 e2 e3
      subst e1
      rw [← strOf_append]
      exact str_run (c := c7) (hr.drewN k)
    have hst1 : ∀ k, (convert 29 9 (.slice A1 p c1)).run Try.prog (w7.drewN k) = .ok (.string (strOfNums (xs.take p))) (w7.drewN k) := fun k => str_run (c := c1) (((HX.out.below HB7.out).take hp).drewN k)
    have hst4 : ∀ k, (convert 29 9 (.slice A4 n4 c4)).run Try.prog (w7.drewN k) = .ok (.string (strOfNums ys)) (w7.drewN k) := fun k => str_run (c := c4) ((HY.out.below HB7.out).drewN k)
    have hsl := fun w => hsl_any HA1.out hp w
    have hcat := fun (w : World) => run_string_add_sum (P := Try.prog) (w := w) (strOfNums (xs.take p)) (strOfNums ys) (by rw [strOfNums_size, strOfNums_size, List.length_take]; omega)
    clear hown7 hb7
    go_wp2_with fail
    go_quiet (fail)
    go_wp2
    go_ret
    exact ⟨rfl, ⟨HB7.out.os, HB7.out.tape, HB7.out.output, HB7.out.size, HB7.out.block⟩⟩

end Go.Proofs.Ytinphdphloddmab
