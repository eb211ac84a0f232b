/-
  DockSafe, over this translation.
-/
import Derived.Test.YtinphdphloddmaaKAnch
import Derived.Test.YtinphdphloddmaaYRow
import Derived.Laws.Concat
namespace Go.Proofs.Ytinphdphloddmaa
open Go.RowKit
open ByteP
set_option linter.unusedVariables false
set_option maxRecDepth 10000

theorem hsl_any {a : Option Addr} {len cap : Nat} (h : (a = none ∧ len = 0 ∧ cap = 0) ∨ ∃ x, a = some x ∧ len ≤ cap ∧ cap ≤ 9223372036854775807) {q : Nat} (hq : q ≤ len) (w : World) :
    (Instr.slice 75 (.slice a len cap) none (some (.int .i64 (q : Int))) none).run Try.prog w = .ok (.slice a q cap) w := by
  have hqc : (q : Int) ≤ (cap : Int) := by
    rcases h with ⟨_, h1, h2⟩ | ⟨_, _, h1, _⟩
    · omega
    · omega
  have hr := run_slice_h (P := Try.prog) w 75 a len cap Try.underlying75 .i64 (q : Int) (by omega) hqc
  rw [hr]
  rcases h with ⟨rfl, _, rfl⟩ | ⟨x, rfl, _, _⟩
  · simp [sizeOf, sliced, go_sem]
  · simp [sizeOf, sliced, go_sem]
theorem Dk.low {w : World} {db mb K : Nat} {n : Nm} {F : Int → Option Fi} (h : Dk w db mb K n F) {b : Nat} (hb : b < mb) : ¬ Mine db mb F b := fun hm => by
  have h1 := h.lt
  rcases hm with e | e | ⟨k, f, hf, e⟩
  · omega
  · omega
  · have := h.rowGe hf b e; omega
theorem safe_same {w : World} {db mb K : Nat} {n : Nm} {F : Int → Option Fi} (h : Dk w db mb K n F) {k : Int} (h0 : -9223372036854775808 ≤ k) (h1 : k ≤ 9223372036854775807) {f : Fi} (hf : F k = some f) :
    Calls Try.prog 49 #[.pointer (some ⟨db, 0, none⟩), .int .i64 k] w fun e w' => e = .returned (.int .i64 (f.s : Int)) ∧ w' = w := by
  have c2 := h.c2
  have hl := (h.look h0 h1 hf).2
  have hfs := fun w => fieldSafe (.slice f.A f.n f.c) (f.s : Int) w
  clear h
  go_enter Try.func49, Try.ntmps49
  go_wp2
  go_ret
  exact ⟨rfl, rfl⟩
theorem down_same {w : World} {db mb K : Nat} {n : Nm} {F : Int → Option Fi} (h : Dk w db mb K n F) : Calls Try.prog 50 #[.pointer (some ⟨db, 0, none⟩)] w fun e w' => e = .returned (.bool n.down) ∧ w' = w :=
  (down_any h).mono fun e w' hh => ⟨hh.1, hh.2.symm⟩

theorem safe_crash {F : Int → Option Fi} {f : Fi} {keep : Int} {xs ys : List Int} {q : Nat} (hq : min (max keep 0) (ys.length : Int) = (q : Int)) (hf : F 7 = some f) (hs : f.s = xs.length) (hn : f.n = xs.length + ys.length) (hbs : f.bs = xs ++ ys) :
    ∃ f', (crK F [keep] [7] 1).F 7 = some f' ∧ f'.n = xs.length + q ∧ f'.s = f'.n ∧ f'.bs = xs ++ ys.take q := by
  show ∃ f', (crS [keep] (7 : Int) ⟨F, 0, 0⟩).F 7 = some f' ∧ _
  by_cases h0 : ys.length = 0
  · have hy : ys = [] := List.eq_nil_of_length_eq_zero h0
    subst hy
    have : q = 0 := by simp at hq; omega
    subst this
    rw [crS_same (f := f) hf (by simp at hn; omega)]
    exact ⟨f, hf, by simpa using hn, by simp at hn; omega, by simpa using hbs⟩
  · rw [crS_cut (f := f) hf (by omega)]
    have hk : kpt [keep] 0 f = q := by
      unfold kpt
      rw [if_pos (by simp), show ix [keep] 0 = keep from rfl]
      have : (f.n : Int) - (f.s : Int) = (ys.length : Int) := by omega
      rw [this, hq]; simp
    rw [hk]
    refine ⟨cutTo f (f.s + q) (f.s + q), (show putF F 7 (cutTo f (f.s + q) (f.s + q)) 7 = _ from putF_same _ _ _), by show f.s + q = _; omega, rfl, ?_⟩
    show f.bs.take (f.s + q) = _
    rw [hbs, hs, List.take_length_add_append]

theorem capY_of_row {w : World} {a : Option Addr} {len cap : Nat} {zs : List Int}
    (h : (a = none ∧ len = 0 ∧ cap = 0 ∧ zs = []) ∨ ∃ x, a = some x ∧ len ≤ cap ∧ cap ≤ maxLen ∧ zs.length = cap ∧ (∀ i, i < zs.length → w.cell? (x.add i) = some (.int .u8 (zs.getD i 0))) ∧ ∀ n ∈ zs, (Lit.int .u8 n).wf = true) :
    (a = none ∧ len = 0 ∧ cap = 0) ∨ ∃ x, a = some x ∧ len ≤ cap ∧ cap ≤ 9223372036854775807 := by
  rcases h with ⟨rfl, rfl, rfl, rfl⟩ | ⟨x, rfl, hl, hm, hz, hcell, hwz⟩
  · exact .inl ⟨rfl, rfl, rfl⟩
  · exact .inr ⟨x, rfl, hl, by unfold maxLen at hm; omega⟩
set_option maxHeartbeats 4000000 in
theorem law_safe {w : World} {A1 A2 : Option Addr} {n1 n2 c1 c2 : Nat} {xs ys : List Int} {keep : Int} (h1 : RdY w w.heap.size A1 n1 xs) (h2 : RdY w w.heap.size A2 n2 ys) (hb1 : Bytes xs) (hb2 : Bytes ys) (hl1 : n1 ≤ 9223372036854775807) (hl2 : n2 ≤ 9223372036854775807)
    (hA2 : (A2 = none ∧ n2 = 0 ∧ c2 = 0) ∨ ∃ x, A2 = some x ∧ n2 ≤ c2 ∧ c2 ≤ 9223372036854775807) (hk : -9223372036854775808 ≤ keep ∧ keep ≤ 9223372036854775807) :
    Calls Try.prog 14 #[.slice A1 n1 c1, .slice A2 n2 c2, .int .i64 keep] w fun e w' => e = .returned (.bool true) ∧ Below w.heap.size w w' := by
  have HX := Lib.hid h1
  have HY := Lib.hid h2
  have HBX := Lib.hid hb1
  have HBY := Lib.hid hb2
  have HA2 := Lib.hid hA2
  have hlx := h1.len
  have hly := h2.len
  clear h1 h2 hb1 hb2 hA2
  go_enter Try.func14, Try.ntmps14
  go_wp2_with fail
  refine (anchor_any w).mono ?_
  rintro e w0 ⟨rfl, hb0⟩
  have HB0 := Lib.hid hb0
  clear hb0
  by_cases hn1 : 1500 < n1
  · have d1 : decide ((1500 : Int) < (n1 : Int)) = true := by simp; omega
    go_wp2
    go_ret
    exact ⟨rfl, HB0.out⟩
  have d1 : decide ((1500 : Int) < (n1 : Int)) = false := by simp; omega
  by_cases hn2 : 1500 < n2
  · have d2 : decide ((1500 : Int) < (n2 : Int)) = true := by simp; omega
    go_wp2
    go_ret
    exact ⟨rfl, HB0.out⟩
  have d2 : decide ((1500 : Int) < (n2 : Int)) = false := by simp; omega
  go_wp2_with fail
  refine (new_any w0 4000 (by omega) (by omega)).mono ?_
  rintro e w1 ⟨db, mb, rfl, hmb, hk1, hb1⟩
  have H1 := Lib.hid hk1
  have HB1 : Hid (Below w.heap.size w w1) := Lib.hid (HB0.out.trans (hb1.mono HB0.out.size))
  have HMB : Hid (w.heap.size ≤ mb) := Lib.hid (by have := HB0.out.size; omega)
  have HR1 : Hid (RdK w1 (Mine db mb (fun _ => none)) A1 n1 xs) := Lib.hid (RdK.of_rd (HX.out.below HB1.out) HB1.out.size (fun b hb => hk1.low (by have := HB0.out.size; omega)))
  clear hk1 hb1 hmb
  go_wp2_with fail
  refine (append_any (k := 7) H1.out (by omega) rfl (by decide) (by decide) (by decide) (by decide) (by decide) (by decide) HR1.out HBX.out (by simp only; omega) (by show 0 + n1 ≤ _; omega)).mono ?_
  rintro e w2 ⟨rfl, f1, hbs1, hn1', hs1, hk2, hfr2, hmi2⟩
  obtain ⟨F1, HF1e⟩ : ∃ F1, Hid (F1 = putF (fun _ => none) 7 f1) := ⟨_, Lib.hid rfl⟩
  rw [← HF1e.out] at hk2
  have H2 : Hid (Dk w2 db mb 1 ⟨4000, (n1 : Int), -1, false⟩ F1) := Lib.hid (by have h := hk2; rw [gd_off _ rfl] at h; simpa using h)
  have HB2 : Hid (Below w.heap.size w w2) := Lib.hid (HB1.out.trans ((hfr2.below H1.out).mono HMB.out))
  have HF1 : Hid (f1.bs = xs ∧ f1.n = n1 ∧ f1.s = 0) := Lib.hid ⟨by rw [hbs1]; rfl, by rw [hn1']; show 0 + n1 = n1; omega, hs1⟩
  have HE1 : Hid (F1 7 = some f1) := Lib.hid (by rw [HF1e.out]; exact putF_same _ _ _)
  have HM1 : Hid (∀ x, x ≠ 7 → F1 x = none) := Lib.hid (fun x hx => by rw [HF1e.out, putF_other _ _ hx])
  clear hbs1 hn1' hs1 hk2 hfr2 hmi2 HF1e
  go_wp2_with fail
  refine (sync_ok (k := 7) H2.out (by omega) rfl (by simp only; omega) (by simp only; omega) (by simp only; omega) HE1.out).mono ?_
  rintro e w3 ⟨rfl, hk3, hfr3⟩
  obtain ⟨F2, HF2e⟩ : ∃ F2, Hid (F2 = putF F1 7 { f1 with s := f1.n }) := ⟨_, Lib.hid rfl⟩
  rw [← HF2e.out] at hk3
  have H3 : Hid (Dk w3 db mb 2 ⟨4000, (n1 : Int), -1, false⟩ F2) := Lib.hid (by have h := hk3; rw [gd_off _ rfl] at h; exact h)
  have HB3 : Hid (Below w.heap.size w w3) := Lib.hid (HB2.out.trans ((hfr3.below H2.out).mono HMB.out))
  have HA3 : Hid (fileAt F2 7 = { f1 with s := f1.n }) := Lib.hid (by unfold fileAt; rw [HF2e.out, putF_same]; rfl)
  have HM2 : Hid (∀ x, x ≠ 7 → F2 x = none) := Lib.hid (fun x hx => by rw [HF2e.out, putF_other _ _ hx]; exact HM1.out x hx)
  have HR3 : Hid (RdK w3 (Mine db mb F2) A2 n2 ys) := Lib.hid (RdK.of_rd (HY.out.below HB3.out) HB3.out.size (fun b hb => H3.out.low (by have := HMB.out; omega)))
  clear hk3 hfr3 HF2e
  go_wp2_with fail
  refine (append_any (k := 7) H3.out (by omega) rfl (by simp only; omega) (by simp only; omega) (by simp only; omega) (by simp only; omega) (by decide) (by decide) HR3.out HBY.out (by simp only; omega) (by rw [HA3.out]; have := HF1.out; simp only; omega)).mono ?_
  rintro e w4 ⟨rfl, f3, hbs3, hn3, hs3, hk4, hfr4, hmi4⟩
  rw [HA3.out] at hbs3 hn3 hs3
  have HF3 : Hid (f3.bs = xs ++ ys ∧ f3.n = xs.length + ys.length ∧ f3.s = xs.length) := Lib.hid ⟨by rw [hbs3]; simp only; rw [HF1.out.1], by rw [hn3]; simp only; have := HF1.out; omega, by rw [hs3]; simp only; have := HF1.out; omega⟩
  obtain ⟨F3, HF3e⟩ : ∃ F3, Hid (F3 = putF F2 7 f3) := ⟨_, Lib.hid rfl⟩
  rw [← HF3e.out] at hk4
  have H4 : Hid (Dk w4 db mb 3 ⟨4000, (n1 : Int) + (n2 : Int), -1, false⟩ F3) := Lib.hid (by have h := hk4; rw [gd_off _ rfl] at h; exact h)
  have HB4 : Hid (Below w.heap.size w w4) := Lib.hid (HB3.out.trans ((hfr4.below H3.out).mono HMB.out))
  have HE3 : Hid (F3 7 = some f3) := Lib.hid (by rw [HF3e.out]; exact putF_same _ _ _)
  have HM3 : Hid (∀ x, x ≠ 7 → F3 x = none) := Lib.hid (fun x hx => by rw [HF3e.out, putF_other _ _ hx]; exact HM2.out x hx)
  have HZ4 : Hid (RdZ (w4.alloc (.cells #[.int .i64 keep] 3)) (Mine db mb F3) (some ⟨w4.heap.size, 0, none⟩) 1 [keep]) := Lib.hid (rdz_new H4.out 3 [keep] _ rfl)
  clear hbs3 hn3 hs3 hk4 hfr4 hmi4 HF3e
  go_wp2_with fail
  refine (crash_any (H4.out.alloc _) (by omega) (by simp only; omega) (by simp only; omega) HZ4.out (by decide)).mono ?_
  rintro e w6 ⟨rfl, ns, hasc, hmem, hnl, hk6, hfr6, hmi6⟩
  have hns : ns = [7] := asc_ext hasc (by unfold Asc; simp) (fun x => by
    rw [hmem x]
    by_cases h1 : x = 7
    · subst h1; rw [HE3.out]; simp
    · rw [HM3.out x h1]; simp [h1])
  subst hns
  obtain ⟨q, hq⟩ : ∃ q : Nat, min (max keep 0) (ys.length : Int) = (q : Int) := ⟨(min (max keep 0) (ys.length : Int)).toNat, by omega⟩
  obtain ⟨f6, he6, hn6, hs6, hbs6⟩ := safe_crash hq HE3.out HF3.out.2.2 HF3.out.2.1 HF3.out.1
  have hk6' : Dk w6 db mb 4 ⟨4000, (n1 : Int) + (n2 : Int) + (crK F3 [keep] [7] 1).d, -1, false⟩ (crK F3 [keep] [7] 1).F := hk6
  obtain ⟨z6, F6, H6, HE6⟩ : ∃ (z6 : Int) (F6 : Int → Option Fi), Hid (Dk w6 db mb 4 ⟨4000, z6, -1, false⟩ F6) ∧ Hid (F6 7 = some f6) := ⟨_, _, Lib.hid hk6', Lib.hid he6⟩
  clear hk6'
  have HB6 : Hid (Below w.heap.size w w6) := Lib.hid (HB4.out.trans ((((Below.refl _ _).alloc (by have := HB4.out.size; omega) _).trans ((hfr6.below (H4.out.alloc _)).mono HMB.out))))
  have hqn : q ≤ n2 := by omega
  have HQ : Hid (min (max keep 0) (n2 : Int) = (q : Int)) := Lib.hid (by rw [← hly]; exact hq)
  have HF6 : Hid (f6.n = n1 + q ∧ f6.s = n1 + q ∧ f6.bs = xs ++ ys.take q) := Lib.hid ⟨by omega, by omega, hbs6⟩
  clear hasc hmem hnl hk6 hfr6 hmi6 he6 hq hn6 hs6 hbs6
  go_wp2_with fail
  refine (read_some H6.out rfl HE6.out).mono ?_
  rintro e w7 ⟨A7, c7, rfl, hown7, hb7⟩
  rw [HF6.out.1, HF6.out.2.2] at hown7
  rw [HF6.out.1]
  have H7 := Lib.hid (H6.out.below hb7)
  have HB7 : Hid (Below w.heap.size w w7) := Lib.hid (HB6.out.trans (hb7.mono HB6.out.size))
  have hst7 : ∀ k, (convert 75 9 (.slice A7 (n1 + q) c7)).run Try.prog (w7.drewN k) = .ok (.string (strOfNums xs ++ strOfNums (ys.take q))) (w7.drewN k) := fun k => by
    obtain ⟨A9, c9, hv, hr⟩ := hown7.shape
    injection hv with e1 e2 e3
    subst e1
    rw [← strOf_append]
    exact str_run (c := c7) (hr.drewN k)
  have hst1 : ∀ k, (convert 75 9 (.slice A1 n1 c1)).run Try.prog (w7.drewN k) = .ok (.string (strOfNums xs)) (w7.drewN k) := fun k => str_run (c := c1) ((HX.out.below HB7.out).drewN k)
  have hst2 : ∀ k, (convert 75 9 (.slice A2 q c2)).run Try.prog (w7.drewN k) = .ok (.string (strOfNums (ys.take q))) (w7.drewN k) := fun k => by
    have hr : RdY (w7.drewN k) w.heap.size A2 q (ys.take q) := by
      have h := (HY.out.below HB7.out).drewN k
      refine ⟨by rw [List.length_take]; omega, fun hp => ?_⟩
      obtain ⟨b, off, e, hb, hc⟩ := h.2 (by omega)
      refine ⟨b, off, e, hb, fun j hj => ?_⟩
      rw [hc j (by omega)]
      have : ix (ys.take q) j = ix ys j := by unfold ix; simp [List.getD, hj]
      rw [this]
    exact str_run (c := c2) hr
  have hsl := fun w => hsl_any HA2.out hqn w
  have hmm := HQ.out
  clear hown7 hb7
  have hsafe : ∀ k, Calls Try.prog 49 #[.pointer (some ⟨db, 0, none⟩), .int .i64 7] (w7.drewN k) fun e w' => e = .returned (.int .i64 ((n1 + q : Nat) : Int)) ∧ w' = w7.drewN k := fun k => by
    have h := safe_same (H7.out.drewN k) (by omega) (by omega) HE6.out
    rw [HF6.out.2.1] at h
    exact h
  have HSAFE := Lib.hid hsafe
  have hcat := fun (w : World) => run_string_add_sum (P := Try.prog) (w := w) (strOfNums xs) (strOfNums (ys.take q)) (by rw [strOfNums_size, strOfNums_size, List.length_take]; omega)
  clear hsafe
  go_wp2_with fail
  go_quiet (first | (go_at_call 49; refine Calls.quiet_of_same (HSAFE.out _)) | (go_at_call 50; refine Calls.quiet_of_same (down_same (H7.out.drewN _))))
  go_wp2
  go_ret
  exact ⟨rfl, ⟨HB7.out.os, HB7.out.tape, HB7.out.output, HB7.out.size, HB7.out.block⟩⟩
end Go.Proofs.Ytinphdphloddmaa
