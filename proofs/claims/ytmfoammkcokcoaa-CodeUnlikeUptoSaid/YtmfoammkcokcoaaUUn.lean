/-
  CodeUnlike, over this translation.
-/
import Derived.Test.YtmfoammkcokcoaaUCc
import Derived.Test.YtmfoammkcokcoaaUAf
namespace Go.Proofs.Ytmfoammkcokcoaa
open Go.RowKit
open ByteP CodeP
set_option linter.unusedVariables false
set_option maxRecDepth 10000
theorem cat_inj {l1 l2 : List Sv} (h1 : okCat l1) (h2 : okCat l2) (e : catO l1 = catO l2) : l1 = l2 := by
  have a := cat_both.enc h1 []
  have b := cat_both.enc h2 []
  rw [e] at a
  rw [a] at b
  injection b with c
  exact (Prod.mk.inj c).1
set_option maxHeartbeats 8000000 in
theorem law_unlike {w : World} {n1 n2 c1 c2 : Nat} {A1 A2 : Option Addr} {l1 l2 : List Sv}
    (hr1 : RdG 2 svI w (fun b => w.heap.size ≤ b) A1 n1 l1) (hr2 : RdG 2 svI w (fun b => w.heap.size ≤ b) A2 n2 l2)
    (hs1 : ShCat l1) (hs2 : ShCat l2) (hl1 : (fl svO l1).length ≤ 400000000) (hl2 : (fl svO l2).length ≤ 400000000) :
    Calls Try.prog 8 #[.agg #[.slice A1 n1 c1], .agg #[.slice A2 n2 c2]] w fun e w' => e = .returned (.bool true) ∧ Below w.heap.size w w' := by
  obtain rfl : l1.length = n1 := hr1.1
  obtain rfl : l2.length = n2 := hr2.1
  have HR1 := Lib.hid hr1
  have HR2 := Lib.hid hr2
  have HS1 := Lib.hid hs1
  have HS2 := Lib.hid hs2
  have HL1 := Lib.hid hl1
  have HL2 := Lib.hid hl2
  obtain ⟨W, HWE⟩ : ∃ W, Hid (W = (w.alloc (.cells #[.slice A1 l1.length c1] 24)).alloc (.cells #[.slice A2 l2.length c2] 24)) := ⟨_, Lib.hid rfl⟩
  have HB0 : Hid (Below w.heap.size w W) := Lib.hid (by rw [HWE.out]; exact ((Below.refl _ w).alloc (Nat.le_refl _) _).alloc (by simp) _)
  have hWz : W.heap.size = w.heap.size + 2 := by rw [HWE.out]; simp
  have h0 : W.heap[w.heap.size]? = some (.cells #[.slice A1 l1.length c1] 24 (0, 0)) := by
    rw [HWE.out, Below.heap_alloc _ _ _ (by simp)]; exact heap_alloc_new w _
  have h1 : W.heap[w.heap.size + 1]? = some (.cells #[.slice A2 l2.length c2] 24 (0, 0)) := by
    rw [HWE.out]
    have h := heap_alloc_new (w.alloc (.cells #[.slice A1 l1.length c1] 24)) (.cells #[.slice A2 l2.length c2] 24)
    rw [World.size_alloc] at h; exact h
  have K0 := Lib.hid h0
  have J0 := Lib.hid h1
  have HWZ := Lib.hid hWz
  clear hr1 hr2 hs1 hs2 hl1 hl2 h0 h1 hWz
  go_enter Try.func8, Try.ntmps8
  go_upto_region 1 with fail
  change Code.wp _ _ _ _ ((w.alloc (.cells #[.slice A1 l1.length c1] 24)).alloc (.cells #[.slice A2 l2.length c2] 24))
  rw [← HWE.out]
  go_wp2_with fail
  refine (anchorE_any _).mono ?_
  rintro e w1 ⟨rfl, hb1⟩
  have HB1 : Hid (Below w.heap.size w w1) := Lib.hid (HB0.out.trans (hb1.mono HB0.out.size))
  have hk1 : w1.heap[w.heap.size]? = _ := (hb1.block w.heap.size (by have := HWZ.out; omega)).trans K0.out
  have hj1 : w1.heap[w.heap.size + 1]? = _ := (hb1.block (w.heap.size + 1) (by have := HWZ.out; omega)).trans J0.out
  obtain ⟨x0, _⟩ := row1f hk1
  have K1 := Lib.hid hk1
  have J1 := Lib.hid hj1
  have HZ1 : Hid (w.heap.size + 2 ≤ w1.heap.size) := Lib.hid (by have := hb1.size; have := HWZ.out; omega)
  have HMC := Lib.hid (catM_all (c := c1) (HR1.out.below sv_turns HB1.out) HB1.out.size)
  clear hb1 hk1 hj1
  go_wp2_with fail
  refine HMC.out.mono ?_
  rintro e z1 ⟨A3, n3, c3, ok1, rfl, hbz, hit, _⟩
  obtain ⟨w2, HW2E⟩ : ∃ w2, Hid (w2 = z1.alloc (.cells #[.slice A3 n3 c3] 28)) := ⟨_, Lib.hid rfl⟩
  have HBZ2 : Hid (Below z1.heap.size z1 w2) := Lib.hid (by rw [HW2E.out]; exact (Below.refl _ z1).alloc (Nat.le_refl _) _)
  have KX2 : Hid (w2.heap[z1.heap.size]? = some (.cells #[.slice A3 n3 c3] 28 (0, 0))) := Lib.hid (by rw [HW2E.out]; exact heap_new z1 _)
  have HB12 : Hid (Below w1.heap.size w1 w2) := Lib.hid (hbz.trans (HBZ2.out.mono hbz.size))
  have HB2 : Hid (Below w.heap.size w w2) := Lib.hid (HB1.out.trans (HB12.out.mono HB1.out.size))
  have K2 : Hid (w2.heap[w.heap.size]? = _) := Lib.hid ((HB12.out.block w.heap.size (by have := HZ1.out; omega)).trans K1.out)
  have hj2 : w2.heap[w.heap.size + 1]? = _ := (HB12.out.block (w.heap.size + 1) (by have := HZ1.out; omega)).trans J1.out
  have J2 := Lib.hid hj2
  have HIT1 := Lib.hid (fun h => And.intro (hit h).1 (ss_turns.kept (hit h).2 HBZ2.out))
  have HZ2 : Hid (w.heap.size + 2 ≤ z1.heap.size ∧ w2.heap.size = z1.heap.size + 1) := Lib.hid ⟨by have := HZ1.out; have := hbz.size; omega, by rw [HW2E.out]; simp⟩
  clear hbz hit x0 HMC
  go_upto_region 4 with fail
  change Code.wp _ _ _ _ (z1.alloc (.cells #[.slice A3 n3 c3] 28))
  rw [← HW2E.out]
  obtain ⟨x1, _⟩ := row1f hj2
  have HMD := Lib.hid (catM_all (c := c2) (HR2.out.below sv_turns HB2.out) HB2.out.size)
  clear hj2
  go_wp2_with fail
  refine HMD.out.mono ?_
  rintro e z2 ⟨A4, n4, c4, ok2, rfl, hbz, hit, _⟩
  obtain ⟨w3, HW3E⟩ : ∃ w3, Hid (w3 = z2.alloc (.cells #[.slice A4 n4 c4] 28)) := ⟨_, Lib.hid rfl⟩
  have HBZ3 : Hid (Below z2.heap.size z2 w3) := Lib.hid (by rw [HW3E.out]; exact (Below.refl _ z2).alloc (Nat.le_refl _) _)
  have KY3 : Hid (w3.heap[z2.heap.size]? = some (.cells #[.slice A4 n4 c4] 28 (0, 0))) := Lib.hid (by rw [HW3E.out]; exact heap_new z2 _)
  have HB23 : Hid (Below w2.heap.size w2 w3) := Lib.hid (hbz.trans (HBZ3.out.mono hbz.size))
  have HB3 : Hid (Below w.heap.size w w3) := Lib.hid (HB2.out.trans (HB23.out.mono HB2.out.size))
  have hk3 : w3.heap[w.heap.size]? = _ := (HB23.out.block w.heap.size (by have := HZ2.out; omega)).trans K2.out
  have J3 : Hid (w3.heap[w.heap.size + 1]? = _) := Lib.hid ((HB23.out.block (w.heap.size + 1) (by have := HZ2.out; omega)).trans J2.out)
  have KX3 : Hid (w3.heap[z1.heap.size]? = _) := Lib.hid ((HB23.out.block z1.heap.size (by have := HZ2.out; omega)).trans KX2.out)
  have HIT2 := Lib.hid (fun h => And.intro (hit h).1 (ss_turns.kept (hit h).2 HBZ3.out))
  have HZ3 : Hid (w2.heap.size ≤ z2.heap.size ∧ w3.heap.size = z2.heap.size + 1) := Lib.hid ⟨hbz.size, by rw [HW3E.out]; simp⟩
  have HZW3 : Hid (z1.heap.size < w3.heap.size ∧ z2.heap.size < w3.heap.size ∧ w.heap.size + 1 < w3.heap.size) := Lib.hid (by have := HZ3.out; have := HZ2.out; omega)
  clear hbz hit x1 HMD
  go_upto_region 5 with fail
  change Code.wp _ _ _ _ (z2.alloc (.cells #[.slice A4 n4 c4] 28))
  rw [← HW3E.out]
  obtain ⟨x2, _⟩ := row1f hk3
  have HPP := Lib.hid (putCat_any (c1 := c1) (HR1.out.below sv_turns HB3.out) HB3.out.size HS1.out HL1.out)
  clear hk3
  go_wp2_with fail
  refine HPP.out.mono ?_
  rintro e w4 ⟨⟨A5, n5, c5, e5, rfl, hend⟩, hb4⟩
  have HE5 := Lib.hid hend
  have HB34 := Lib.hid hb4
  have HB4 : Hid (Below w.heap.size w w4) := Lib.hid (HB3.out.trans (hb4.mono HB3.out.size))
  have hj4 : w4.heap[w.heap.size + 1]? = _ := (hb4.block (w.heap.size + 1) HZW3.out.2.2).trans J3.out
  clear hend hb4 x2 HPP
  obtain ⟨x3, _⟩ := row1f hj4
  have HPQ := Lib.hid (putCat_any (c1 := c2) (HR2.out.below sv_turns HB4.out) HB4.out.size HS2.out HL2.out)
  clear hj4
  go_upto_region 6 with fail
  go_wp2_with fail
  refine HPQ.out.mono ?_
  rintro e w5 ⟨⟨A6, n6, c6, e6, rfl, hend⟩, hb5⟩
  have HE6 := Lib.hid hend
  have HB45 := Lib.hid hb5
  have HB5 : Hid (Below w.heap.size w w5) := Lib.hid (HB4.out.trans (hb5.mono HB4.out.size))
  clear hend hb5 x3 HPQ
  cases ok1 with
  | false =>
    go_wp2
    go_ret
    exact ⟨rfl, HB5.out⟩
  | true =>
  cases ok2 with
  | false =>
    go_wp2
    go_ret
    exact ⟨rfl, HB5.out⟩
  | true =>
  cases hbad : badSv l1 with
  | true =>
    have he := HE5.out
    rw [hbad] at he
    obtain ⟨e4, rfl⟩ := he.1 rfl
    clear he hbad
    go_wp2
    go_ret
    exact ⟨rfl, HB5.out⟩
  | false =>
  cases hbad2 : badSv l2 with
  | true =>
    have he := HE6.out
    rw [hbad2] at he
    obtain ⟨e4, rfl⟩ := he.1 rfl
    have he5 := HE5.out
    rw [hbad] at he5
    obtain ⟨rfl, _⟩ := he5.2 rfl
    clear he he5 hbad hbad2 e4
    go_wp2
    go_ret
    exact ⟨rfl, HB5.out⟩
  | false =>
  have he5 := HE5.out
  rw [hbad] at he5
  obtain ⟨rfl, hown5⟩ := he5.2 rfl
  have he6 := HE6.out
  rw [hbad2] at he6
  obtain ⟨rfl, hown6⟩ := he6.2 rfl
  obtain ⟨hsm1, hss1⟩ := HIT1.out rfl
  obtain ⟨hn3, hrd1⟩ := ssI.rd hss1
  obtain ⟨hsm2, hss2⟩ := HIT2.out rfl
  obtain ⟨hn4, hrd2⟩ := ssI.rd hss2
  subst hn3 hn4
  have HINJ : Hid (catO l1 = catO l2 ↔ l1 = l2) := Lib.hid ⟨cat_inj (shCat_ok hbad HS1.out) (shCat_ok hbad2 HS2.out), fun e => by rw [e]⟩
  have HLE1 := Lib.hid (catO_le hsm1)
  have HLE2 := Lib.hid (catO_le hsm2)
  have HSM1 := Lib.hid hsm1
  have HSM2 := Lib.hid hsm2
  obtain ⟨xs, HXS⟩ : ∃ xs, Hid (catO l1 = xs) := ⟨_, Lib.hid rfl⟩
  obtain ⟨ys, HYS⟩ : ∃ ys, Hid (catO l2 = ys) := ⟨_, Lib.hid rfl⟩
  rw [HXS.out] at hown5
  rw [HYS.out] at hown6
  have hxl : xs.length ≤ 900000000 := by rw [← HXS.out]; exact HLE1.out.2.1
  have hyl : ys.length ≤ 900000000 := by rw [← HYS.out]; exact HLE2.out.2.1
  obtain ⟨A5', c5', e4, _⟩ := OwnY.shape hown5
  injection e4 with e5 e6 e7
  subst e5 e6 e7
  obtain ⟨A6', c6', e4, _⟩ := OwnY.shape hown6
  injection e4 with e5 e6 e7
  subst e5 e6 e7
  have hsa := sameY_any (w := w5.drewN 1) (c := c5) (d := c6) (rdY_own (hown5.kept (Below.drewN' HB45.out 1))) (rdY_own (hown6.kept (Below.drewN' (Below.refl _ w5) 1))) (by omega) (by omega)
  obtain ⟨sb, HSB⟩ : ∃ sb, Hid (sameY xs ys = sb) := ⟨_, Lib.hid rfl⟩
  rw [HSB.out] at hsa
  have HSA := Lib.hid hsa
  have HB35 : Hid (Below w3.heap.size w3 w5) := Lib.hid (HB34.out.trans (HB45.out.mono HB34.out.size))
  have HB25 : Hid (Below w2.heap.size w2 w5) := Lib.hid (HB23.out.trans (HB35.out.mono HB23.out.size))
  have HRD1 : Hid (RdG 2 svI w5 (fun b => w5.heap.size ≤ b) A3 l1.length l1) := Lib.hid ((RdG.below sv_turns hrd1 HB25.out).turn sv_turns (FrM.refl w5 _) (fun b hb => .inr hb))
  have HRD2 : Hid (RdG 2 svI w5 (fun b => w5.heap.size ≤ b) A4 l2.length l2) := Lib.hid ((RdG.below sv_turns hrd2 HB35.out).turn sv_turns (FrM.refl w5 _) (fun b hb => .inr hb))
  have KX5 : Hid (w5.heap[z1.heap.size]? = _) := Lib.hid ((HB35.out.block z1.heap.size HZW3.out.1).trans KX3.out)
  have KY5 : Hid (w5.heap[z2.heap.size]? = _) := Lib.hid ((HB35.out.block z2.heap.size HZW3.out.2.1).trans KY3.out)
  have HALK : Hid (∀ w6, Below w5.heap.size w5 w6 → Calls Try.prog 15 #[.agg #[.slice A3 l1.length c3], .agg #[.slice A4 l2.length c4]] w6 fun e w' => e = .returned (.bool sb) ∧ Below w6.heap.size w6 w') := Lib.hid (fun w6 hd => by
    obtain ⟨bb, hbb, hcall⟩ := alike_any (c1 := c3) (c2 := c4) (RdG.below sv_turns HRD1.out hd) (RdG.below sv_turns HRD2.out hd) hd.size HSM1.out HSM2.out
    have hsame : bb = sb := by
      have h := HINJ.out
      rw [HXS.out, HYS.out] at h
      rw [← HSB.out]
      unfold sameY
      rw [Bool.eq_iff_iff, decide_eq_true_eq, hbb]; exact h.symm
    rw [hsame] at hcall
    exact hcall)
  clear he5 he6 hown5 hown6 hsm1 hsm2 hss1 hss2 hrd1 hrd2 hbad hbad2 hxl hyl hsa
  obtain ⟨s0, _⟩ := row1f KX5.out
  obtain ⟨s1, _⟩ := row1f KY5.out
  go_wp2_with fail
  go_region_law (first
    | (go_simp; go_at_call 14; refine HSA.out.mono ?_; rintro en w6 ⟨rfl, hw6⟩; (have HD6 : Hid (Below w5.heap.size w5 w6) := Lib.hid (by obtain ⟨q, rfl⟩ := hw6; exact ⟨rfl, rfl, rfl, Nat.le_refl _, fun _ _ => rfl⟩)); (obtain ⟨t0, _⟩ := row1f ((HD6.out.block z1.heap.size (heapE_lt KX5.out)).trans KX5.out)); (obtain ⟨t1, _⟩ := row1f ((HD6.out.block z2.heap.size (heapE_lt KY5.out)).trans KY5.out)); clear hw6)
    | (go_simp; go_at_call 15; refine (HALK.out _ HD6.out).mono ?_; rintro en w7 ⟨rfl, hb7⟩; (have HB7 : Hid (Below w5.heap.size w5 w7) := Lib.hid (HD6.out.trans (hb7.mono HD6.out.size))); clear hb7))
  all_goals (clear s0 s1 t0 t1)
  all_goals (go_wp2_with fail; go_ret)
  all_goals (exact ⟨by first | rfl | (simp; done) | (cases sb <;> rfl), HB5.out.trans (HB7.out.mono HB5.out.size)⟩)
end Go.Proofs.Ytmfoammkcokcoaa
