/-
 MERGED: CLk CFi.
-/
import Derived.Test.YtminihiecloglaaGreatCNa
import Derived.Test.YtminihiecloglaaGreatRHb
set_option linter.unusedVariables false
set_option linter.unusedSimpArgs false
namespace Go.Proofs.YtminihiecloglaaGreat
open Go.RowKit
open SemP
set_option maxRecDepth 10000
theorem isS_is {w : World} {B n c : Nat} {A : Option Addr} {l : List Sv} (h : CatAt w B A n c l) (x : Int) (q : Bool) (hq : isS l x = q) :
  Calls Tryz.prog 85 #[.agg #[.slice A n c], .int .i64 x] w fun e w' => e = .returned (.bool q) ∧ Below w.heap.size w w' := by
 have e : (decide (0 ≤ x) && decide (x < (n : Int))) = q := by rw [← hq]; unfold isS; rw [h.rd.1]
 refine isService_any.mono ?_
 rintro en w' ⟨rfl, hb⟩
 exact ⟨by rw [e], hb⟩
theorem isS_nat {l : List Sv} {x : Int} (h : isS l x = true) : ∃ a : Nat, x = (a : Int) ∧ a < l.length := by
 unfold isS at h
 simp at h
 exact ⟨x.toNat, by omega, by omega⟩
set_option maxHeartbeats 8000000 in
theorem isRelease_any {w : World} {B n c : Nat} {i v : Int} {A : Option Addr} {l : List Sv} (h : CatAt w B A n c l) :
  Calls Tryz.prog 55 #[.agg #[.slice A n c], .int .i64 i, .int .i64 v] w fun e w' => e = .returned (.bool (isR l i v)) ∧ Below w.heap.size w w' := by
 have HN : Hid (l.length = n) := Lib.hid h.rd.1
 have hbl : Below w.heap.size w (w.alloc (.cells #[.slice A n c] 24)) := (Below.refl _ w).alloc (Nat.le_refl _) _
 obtain ⟨W, HW⟩ : ∃ W, Hid (W = w.alloc (.cells #[.slice A n c] 24)) := ⟨_, Lib.hid rfl⟩
 rw [← HW.out] at hbl
 have H0 : Hid (W.heap[w.heap.size]? = some (.cells #[.slice A n c] 24 (0, 0))) := Lib.hid (by rw [HW.out]; exact heap_new w _)
 have HA := Lib.hid (h.below hbl)
 have HBL := Lib.hid hbl
 have hsz := hbl.size
 clear h hbl
 obtain ⟨x0, _⟩ := row1f H0.out
 go_enter Tryz.func55, Tryz.ntmps55
 go_upto_region 1 with fail
 change Code.wp _ _ _ _ (w.alloc (.cells #[.slice A n c] 24))
 rw [← HW.out]
 cases hq : isS l i with
 | false =>
  have HI := Lib.hid (isS_is HA.out i false hq)
  have HV : Hid (isR l i v = false) := Lib.hid (by unfold isR; rw [hq]; rfl)
  clear hq
  go_wp2_with fail
  refine HI.out.mono ?_
  rintro e w1 ⟨rfl, hb⟩
  have HB1 : Hid (Below w.heap.size w w1) := Lib.hid (HBL.out.trans (hb.mono hsz))
  clear hb x0
  go_wp2_with fail
  refine bodyPost_ret (results_tmp rfl _ _ _) rfl ⟨?_, HB1.out⟩
  exact congrArg (fun b => Ending.returned (.bool b)) HV.out.symm
 | true =>
  have HI := Lib.hid (isS_is HA.out i true hq)
  have HV2 : Hid (isR l i v = (decide (0 ≤ v) && decide (v < ((svAt l i.toNat).2.length : Int)))) := Lib.hid (by unfold isR; rw [hq]; rfl)
  obtain ⟨a, rfl, ha⟩ := isS_nat hq
  have HAN : Hid (a < n) := Lib.hid (by rw [← HN.out]; exact ha)
  clear hq ha
  go_wp2_with fail
  refine HI.out.mono ?_
  rintro e w1 ⟨rfl, hb⟩
  have HB1 : Hid (Below w.heap.size w w1) := Lib.hid (HBL.out.trans (hb.mono hsz))
  have HA1 := Lib.hid (HA.out.below hb)
  have K1 : Hid (w1.heap[w.heap.size]? = _) := Lib.hid ((hb.block w.heap.size (heapE_lt H0.out)).trans H0.out)
  clear hb x0 HI
  by_cases hv : 0 ≤ v
  ·obtain ⟨b1, o1, Aj, nj, cj, hA, hb1, k0, k1, hcap, hrr⟩ := sv_at HA1.out.rd HAN.out
   subst hA
   obtain ⟨x0, _⟩ := row1f K1.out
   have HV : Hid (isR l (a : Int) v = decide (v < (nj : Int))) := Lib.hid (by rw [HV2.out, decide_eq_true hv, Int.toNat_natCast, hrr.1]; rfl)
   have hai : (a : Int) < (n : Int) := by have := HAN.out; omega
   have d1 : decide (0 ≤ v) = true := decide_eq_true hv
   clear hrr
   go_wp2_with fail
   refine bodyPost_ret (results_tmp rfl _ _ _) rfl ⟨?_, HB1.out⟩
   exact congrArg (fun b => Ending.returned (.bool b)) HV.out.symm
  ·have HV : Hid (isR l (a : Int) v = false) := Lib.hid (by rw [HV2.out, decide_eq_false hv]; rfl)
   have d1 : decide (0 ≤ v) = false := decide_eq_false hv
   go_wp2_with fail
   refine bodyPost_ret (results_tmp rfl _ _ _) rfl ⟨?_, HB1.out⟩
   exact congrArg (fun b => Ending.returned (.bool b)) HV.out.symm
set_option maxHeartbeats 4000000 in
theorem bears1_any {w W : World} {B jb vb : Nat} {j a b c : Int} {s : ByteArray} {T T' : TypeId} {vs : List Value} {x : Nd} (hk : w.heap[jb]? = some (.cells #[.int .i64 j] T (0, 0))) (hv : w.heap[vb]? = some (.cells #[.int .i64 a, .int .i64 b, .int .i64 c, .string s] T' (0, 0))) (hb : Below w.heap.size w W) (hB : B ≤ w.heap.size)
  (hit : pnI W (fun b => B ≤ b) vs x) (hx : SmR x.2) (hs : s.size ≤ 100) (hm : LenAt W) (h1 : 1 < W.heap.size) :
  Calls Tryz.prog 138 (#[.agg vs.toArray] ++ #[.pointer (some ⟨jb, 0, none⟩), .pointer (some ⟨vb, 0, none⟩)]) W fun e w' => e = .returned (.bool (decide (x.1 = j) && !hasR x.2 ⟨a, b, c, bs s⟩)) ∧ Below w.heap.size w w' := by
 obtain ⟨A3, n3, c3, rfl, hcap, hr⟩ := hit.parts
 have hjb : jb < w.heap.size := heapE_lt hk
 have hvb : vb < w.heap.size := heapE_lt hv
 have hsz := hb.size
 obtain ⟨sv, rg⟩ := x
 simp only at hr hx ⊢
 obtain ⟨W1, HW1⟩ : ∃ W1, Hid (W1 = W.alloc (.cells #[.int .i64 sv, .slice A3 n3 c3] 99)) := ⟨_, Lib.hid rfl⟩
 have hb1 : Below W.heap.size W W1 := by rw [HW1.out]; exact (Below.refl _ W).alloc (Nat.le_refl _) _
 have hn0 : W1.heap[W.heap.size]? = some (.cells #[.int .i64 sv, .slice A3 n3 c3] 99 (0, 0)) := by rw [HW1.out]; exact heap_new W _
 have HB1 : Hid (Below w.heap.size w W1) := Lib.hid (hb.trans (hb1.mono (by omega)))
 obtain ⟨k0, _⟩ := row1f ((HB1.out.block jb hjb).trans hk)
 obtain ⟨y0, y1, y2, y3⟩ := cells4 ((HB1.out.block vb hvb).trans hv)
 obtain ⟨n0, n1, _, _⟩ := row2 hn0
 have HZ : Hid (w.heap.size ≤ W1.heap.size) := Lib.hid HB1.out.size
 have hl := LenAt.below hm h1 hb1
 have HHAS := Lib.hid (RgHas_any A3 n3 c3 rg a b c s W1 B (hr.r.below (hb1.mono (by omega))) (by have := HZ.out; omega) hx.fits (by omega) (by have := hr.1; have := hx.1; omega) hl.1 hl.2)
 clear hk hv hb hit hr hb1 hn0 hm h1 hl
 show Calls Tryz.prog 138 #[.agg #[.int .i64 sv, .slice A3 n3 c3], .pointer (some ⟨jb, 0, none⟩), .pointer (some ⟨vb, 0, none⟩)] W _
 go_enter Tryz.func138, Tryz.ntmps138
 go_upto_region 1 with fail
 change Code.wp _ _ _ _ (W.alloc (.cells #[.int .i64 sv, .slice A3 n3 c3] 99))
 rw [← HW1.out]
 by_cases h : sv = j
 ·subst h
  have HV : Hid ((decide (sv = sv) && !hasR rg ⟨a, b, c, bs s⟩) = !hasR rg ⟨a, b, c, bs s⟩) := Lib.hid (by simp)
  go_wp2_with fail
  refine HHAS.out.mono ?_
  rintro e w2 ⟨rfl, hb2⟩
  have HB2 : Hid (Below w.heap.size w w2) := Lib.hid (HB1.out.trans (hb2.mono HZ.out))
  clear hb2 k0 y0 y1 y2 y3 n0 n1
  go_wp2_with fail
  refine bodyPost_ret (results_tmp rfl _ _ _) rfl ⟨?_, HB2.out⟩
  exact congrArg (fun b => Ending.returned (.bool b)) HV.out.symm
 ·have HV : Hid ((decide (sv = j) && !hasR rg ⟨a, b, c, bs s⟩) = false) := Lib.hid (by rw [decide_eq_false h]; rfl)
  have h3 : (sv == j) = false := by rw [beq_eq_false_iff_ne]; exact h
  go_wp2_with fail
  refine bodyPost_ret (results_tmp rfl _ _ _) rfl ⟨?_, HB1.out⟩
  exact congrArg (fun b => Ending.returned (.bool b)) HV.out.symm
theorem enters_bears1 : ∀ args w, (callFunc 138 args).run Tryz.prog w = .ok (.enter 138 args) w := enters_of Tryz.func138 (by kernel_rfl) rfl
end Go.Proofs.YtminihiecloglaaGreat
namespace Go.Proofs.YtminihiecloglaaGreat
open Go.RowKit
open SemP
set_option maxRecDepth 10000
theorem isR_nat {l : List Sv} {i v : Int} (h : isR l i v = true) : ∃ a b : Nat, i = (a : Int) ∧ v = (b : Int) ∧ a < l.length ∧ b < (svAt l a).2.length := by
 unfold isR at h
 rw [Bool.and_eq_true] at h
 obtain ⟨a, rfl, ha⟩ := isS_nat h.1
 have h2 := h.2
 rw [Int.toNat_natCast] at h2
 simp only [Bool.and_eq_true, decide_eq_true_eq] at h2
 exact ⟨a, v.toNat, rfl, by omega, ha, by omega⟩
theorem isR_of {l : List Sv} {a b : Nat} (ha : a < l.length) (hb : b < (svAt l a).2.length) : isR l (a : Int) (b : Int) = true := by
 have hb' : (b : Int) < ((svAt l a).2.length : Int) := by omega
 unfold isR isS
 rw [Int.toNat_natCast]
 simp only [Bool.and_eq_true, decide_eq_true_eq]
 exact ⟨⟨by omega, by omega⟩, by omega, hb'⟩
set_option maxHeartbeats 8000000 in
theorem bears_any {w : World} {B n c i v j x : Nat} {A : Option Addr} {l : List Sv} (h : CatAt w B A n c l) (hi : i < n) (hv : v < (svAt l i).2.length) (hj : j < n) (hx : x < (svAt l j).2.length) :
  Calls Tryz.prog 119 #[.agg #[.slice A n c], .int .i64 (i : Int), .int .i64 (v : Int), .int .i64 (j : Int), .int .i64 (x : Int)] w fun e w' => e = .returned (.bool (bearsB l i v j x)) ∧ Below w.heap.size w w' := by
 have HN : Hid (l.length = n) := Lib.hid h.rd.1
 have hn16 := h.n16
 have hle := h.le
 have hii : (i : Int) < (n : Int) := by omega
 have hjj : (j : Int) < (n : Int) := by omega
 obtain ⟨b1, o1, Aj, nj, cj, rfl, hb1, _, k1, _, hrj⟩ := sv_at h.rd hj
 obtain ⟨b1', o1', Ai, ni, ci, he, _, _, k2, _, hri⟩ := sv_at h.rd hi
 injection he with he
 injection he with e1 e2
 subst e1 e2
 have hsj := h.sm.2 _ (svAt_mem (i := j) (by rw [HN.out]; exact hj))
 have hsi := h.sm.2 _ (svAt_mem (i := i) (by rw [HN.out]; exact hi))
 have hxj : x < nj := by rw [← hrj.1]; exact hx
 have hvi : v < ni := by rw [← hri.1]; exact hv
 have hxI : (x : Int) < (nj : Int) := by omega
 have hvI : (v : Int) < (ni : Int) := by omega
 obtain ⟨b2, o2, A3, n3, c3, rfl, hb2, q0, q1, q2, q3, _, _, _, _⟩ := rl_at hrj hxj
 obtain ⟨b4, o4, A5, n5, c5, rfl, hb4, _, _, _, _, _, r5, _, hnd⟩ := rl_at hri hvi
 have hsxr := hsj.2.2 _ (rlAt_mem hx)
 have hsvr := hsi.2.2 _ (rlAt_mem hv)
 obtain ⟨y, HY⟩ : ∃ y, Hid (rlAt (svAt l j).2 x = y) := ⟨_, Lib.hid rfl⟩
 rw [HY.out] at q0 q1 q2 q3 hsxr
 obtain ⟨⟨va, vb, vc, vs⟩, lv, nd2⟩ := y
 simp only at q0 q1 q2 q3
 have hvs : vs.size ≤ 100 := hsxr.2.1
 obtain ⟨nds, HNDS⟩ : ∃ y, Hid ((rlAt (svAt l i).2 v).2.2 = y) := ⟨_, Lib.hid rfl⟩
 rw [HNDS.out] at hnd
 have hsn : nds.length ≤ 12 ∧ ∀ p ∈ nds, SmR p.2 := by rw [← HNDS.out]; exact ⟨hsvr.1, hsvr.2.2⟩
 have HV : Hid (bearsB l (i : Int) (v : Int) (j : Int) (x : Int) = !(nds.any (fun n => decide (n.1 = (j : Int)) && !hasR n.2 ⟨va, vb, vc, bs vs⟩))) := Lib.hid (by
  unfold bearsB
  rw [Int.toNat_natCast, Int.toNat_natCast, Int.toNat_natCast, Int.toNat_natCast, HNDS.out, HY.out]; rfl)
 have hb1w : b1 < w.heap.size := by omega
 have hb2w : b2 < w.heap.size := by omega
 have hb4w : b4 < w.heap.size := by omega
 obtain ⟨W, HW⟩ : ∃ W, Hid (W = ((w.alloc (.cells #[.slice (some ⟨b1, o1, none⟩) n c] 24)).alloc (.cells #[.int .i64 (j : Int)] 3)).alloc (.cells #[.int .i64 va, .int .i64 vb, .int .i64 vc, .string vs] 83)) := ⟨_, Lib.hid rfl⟩
 have hbl : Below w.heap.size w W := by rw [HW.out]; exact (((Below.refl _ w).alloc (Nat.le_refl _) _).alloc (by simp) _).alloc (by simp; omega) _
 have hz : W.heap.size = w.heap.size + 3 := by rw [HW.out]; simp
 have h0 : W.heap[w.heap.size]? = some (.cells #[.slice (some ⟨b1, o1, none⟩) n c] 24 (0, 0)) := by
  rw [HW.out, Below.heap_alloc _ _ _ (by simp; omega), Below.heap_alloc _ _ _ (by simp)]
  exact heap_new w _
 have h1 : W.heap[w.heap.size + 1]? = some (.cells #[.int .i64 (j : Int)] 3 (0, 0)) := by
  rw [HW.out, Below.heap_alloc _ _ _ (by simp)]
  have h := heap_new (w.alloc (.cells #[.slice (some ⟨b1, o1, none⟩) n c] 24)) (.cells #[.int .i64 (j : Int)] 3)
  rw [World.size_alloc] at h; exact h
 have h2 : W.heap[w.heap.size + 1 + 1]? = some (.cells #[.int .i64 va, .int .i64 vb, .int .i64 vc, .string vs] 83 (0, 0)) := by
  rw [HW.out]
  have h := heap_new ((w.alloc (.cells #[.slice (some ⟨b1, o1, none⟩) n c] 24)).alloc (.cells #[.int .i64 (j : Int)] 3)) (.cells #[.int .i64 va, .int .i64 vb, .int .i64 vc, .string vs] 83)
  rw [World.size_alloc, World.size_alloc] at h; exact h
 have hA := h.below hbl
 obtain ⟨x0, _⟩ := row1f h0
 obtain ⟨x1, _⟩ := row1f h1
 have k1W := (hbl.cell (p := ⟨b1, o1 + j * 2 + 1, none⟩) hb1w).trans k1
 have k2W := (hbl.cell (p := ⟨b1, o1 + i * 2 + 1, none⟩) hb1w).trans k2
 have r5W := (hbl.cell (p := ⟨b4, o4 + v * 6 + 5, none⟩) hb4w).trans r5
 have HBL := Lib.hid hbl
 have HCO : Hid (Calls Tryz.prog 137 #[.slice A5 n5 c5, .func (.func 138) #[] #[.pointer (some ⟨w.heap.size + 1, 0, none⟩), .pointer (some ⟨w.heap.size + 1 + 1, 0, none⟩)]] W fun e w' => e = .returned (.bool (nds.any (fun n => decide (n.1 = (j : Int)) && !hasR n.2 ⟨va, vb, vc, bs vs⟩))) ∧ Below W.heap.size W w') := Lib.hid (con_nd (B := B) (fun n => decide (n.1 = (j : Int)) && !hasR n.2 ⟨va, vb, vc, bs vs⟩) _ _ (RdJ.below' pn_turns hnd hle hbl) hA.le (by have := hnd.1; have := hsn.1; omega) enters_bears1 (fun W2 vs' x' hx' hb2 hl2 hit => by
  have hA2 := hA.below hb2
  exact bears1_any h1 h2 hb2 hA.le hit (hsn.2 _ hx') hvs hA2.len hA2.one))
 clear hbl h hrj hri hnd hsj hsi hsxr hsvr h0 h1 h2 hA
 go_enter Tryz.func119, Tryz.ntmps119
 go_upto_region 2 with fail
 change Code.wp _ _ _ _ (((w.alloc (.cells #[.slice (some ⟨b1, o1, none⟩) n c] 24)).alloc (.cells #[.int .i64 (j : Int)] 3)).alloc (.cells #[.int .i64 va, .int .i64 vb, .int .i64 vc, .string vs] 83))
 rw [← HW.out]
 clear k1 k2 r5 q0 q1 q2 q3
 go_wp2_with fail
 refine HCO.out.mono ?_
 rintro e w2 ⟨rfl, hb2⟩
 have HB2 : Hid (Below w.heap.size w w2) := Lib.hid (HBL.out.trans (hb2.mono (by omega)))
 clear hb2
 go_wp2_with fail
 refine bodyPost_ret (results_tmp rfl _ _ _) rfl ⟨?_, HB2.out⟩
 exact congrArg (fun b => Ending.returned (.bool b)) HV.out.symm
set_option maxHeartbeats 8000000 in
theorem fits_any {w : World} {B n c : Nat} {i v j x : Int} {A : Option Addr} {l : List Sv} (h : CatAt w B A n c l) :
  Calls Tryz.prog 101 #[.agg #[.slice A n c], .int .i64 i, .int .i64 v, .int .i64 j, .int .i64 x] w fun e w' => e = .returned (.bool (fitsC l i v j x)) ∧ Below w.heap.size w w' := by
 have HN : Hid (l.length = n) := Lib.hid h.rd.1
 have hbl : Below w.heap.size w (w.alloc (.cells #[.slice A n c] 24)) := (Below.refl _ w).alloc (Nat.le_refl _) _
 obtain ⟨W, HW⟩ : ∃ W, Hid (W = w.alloc (.cells #[.slice A n c] 24)) := ⟨_, Lib.hid rfl⟩
 rw [← HW.out] at hbl
 have H0 : Hid (W.heap[w.heap.size]? = some (.cells #[.slice A n c] 24 (0, 0))) := Lib.hid (by rw [HW.out]; exact heap_new w _)
 have HA := Lib.hid (h.below hbl)
 have HBL := Lib.hid hbl
 have hsz := hbl.size
 clear h hbl
 by_cases hij : i = j
 ·subst hij
  have HV : Hid (fitsC l i v i x = false) := Lib.hid (by unfold fitsC; simp)
  have hd : (i != i) = false := by simp
  go_enter Tryz.func101, Tryz.ntmps101
  go_wp2_with fail
  refine bodyPost_ret (results_tmp rfl _ _ _) rfl ⟨?_, ?_⟩
  ·exact congrArg (fun b => Ending.returned (.bool b)) HV.out.symm
  ·have := HBL.out; rw [HW.out] at this; exact this
 have hd : (i != j) = true := by rw [bne_iff_ne]; exact hij
 have HV1 : Hid (fitsC l i v j x = (isR l i v && (isR l j x && (bearsB l i v j x && bearsB l j x i v)))) := Lib.hid (by unfold fitsC; rw [decide_eq_true hij]; rfl)
 obtain ⟨x0, _⟩ := row1f H0.out
 go_enter Tryz.func101, Tryz.ntmps101
 go_upto_region 1 with fail
 change Code.wp _ _ _ _ (w.alloc (.cells #[.slice A n c] 24))
 rw [← HW.out]
 have HI := Lib.hid (isRelease_any (i := i) (v := v) HA.out)
 go_wp2_with fail
 refine HI.out.mono ?_
 rintro e w1 ⟨rfl, hb⟩
 have HB1 : Hid (Below w.heap.size w w1) := Lib.hid (HBL.out.trans (hb.mono hsz))
 have HA1 := Lib.hid (HA.out.below hb)
 have K1 : Hid (w1.heap[w.heap.size]? = _) := Lib.hid ((hb.block w.heap.size (heapE_lt H0.out)).trans H0.out)
 clear hb x0 HI
 cases hq : isR l i v with
 | false =>
  have HV : Hid (fitsC l i v j x = false) := Lib.hid (by rw [HV1.out, hq]; rfl)
  clear hq
  go_wp2_with fail
  refine bodyPost_ret (results_tmp rfl _ _ _) rfl ⟨?_, HB1.out⟩
  exact congrArg (fun b => Ending.returned (.bool b)) HV.out.symm
 | true =>
  have HQ1 := Lib.hid hq
  have HV2 : Hid (fitsC l i v j x = (isR l j x && (bearsB l i v j x && bearsB l j x i v))) := Lib.hid (by rw [HV1.out, hq]; rfl)
  obtain ⟨x0, _⟩ := row1f K1.out
  have HI := Lib.hid (isRelease_any (i := j) (v := x) HA1.out)
  clear hq
  go_wp2_with fail
  refine HI.out.mono ?_
  rintro e w2 ⟨rfl, hb⟩
  have HB2 : Hid (Below w.heap.size w w2) := Lib.hid (HB1.out.trans (hb.mono HB1.out.size))
  have HA2 := Lib.hid (HA1.out.below hb)
  have K2 : Hid (w2.heap[w.heap.size]? = _) := Lib.hid ((hb.block w.heap.size (heapE_lt K1.out)).trans K1.out)
  clear hb x0 HI
  cases hq : isR l j x with
  | false =>
   have HV : Hid (fitsC l i v j x = false) := Lib.hid (by rw [HV2.out, hq]; rfl)
   clear hq
   go_wp2_with fail
   refine bodyPost_ret (results_tmp rfl _ _ _) rfl ⟨?_, HB2.out⟩
   exact congrArg (fun b => Ending.returned (.bool b)) HV.out.symm
  | true =>
   have HV3 : Hid (fitsC l i v j x = (bearsB l i v j x && bearsB l j x i v)) := Lib.hid (by rw [HV2.out, hq]; rfl)
   obtain ⟨i', v', rfl, rfl, hi', hv'⟩ := isR_nat HQ1.out
   obtain ⟨j', x', rfl, rfl, hj', hx'⟩ := isR_nat hq
   obtain ⟨x0, _⟩ := row1f K2.out
   have HIN : Hid (i' < n) := Lib.hid (by rw [← HN.out]; exact hi')
   have HJN : Hid (j' < n) := Lib.hid (by rw [← HN.out]; exact hj')
   have HVN := Lib.hid hv'
   have HXN := Lib.hid hx'
   have HI := Lib.hid (bears_any HA2.out HIN.out HVN.out HJN.out HXN.out)
   clear hq hi' hv' hj' hx'
   go_wp2_with fail
   refine HI.out.mono ?_
   rintro e w3 ⟨rfl, hb⟩
   have HB3 : Hid (Below w.heap.size w w3) := Lib.hid (HB2.out.trans (hb.mono HB2.out.size))
   have HA3 := Lib.hid (HA2.out.below hb)
   have K3 : Hid (w3.heap[w.heap.size]? = _) := Lib.hid ((hb.block w.heap.size (heapE_lt K2.out)).trans K2.out)
   clear hb x0 HI
   cases hq : bearsB l (i' : Int) (v' : Int) (j' : Int) (x' : Int) with
   | false =>
    have HV : Hid (fitsC l (i' : Int) (v' : Int) (j' : Int) (x' : Int) = false) := Lib.hid (by rw [HV3.out, hq]; rfl)
    clear hq
    go_wp2_with fail
    refine bodyPost_ret (results_tmp rfl _ _ _) rfl ⟨?_, HB3.out⟩
    exact congrArg (fun b => Ending.returned (.bool b)) HV.out.symm
   | true =>
    have HV : Hid (fitsC l (i' : Int) (v' : Int) (j' : Int) (x' : Int) = bearsB l (j' : Int) (x' : Int) (i' : Int) (v' : Int)) := Lib.hid (by rw [HV3.out, hq]; rfl)
    obtain ⟨x0, _⟩ := row1f K3.out
    have HI := Lib.hid (bears_any HA3.out HJN.out HXN.out HIN.out HVN.out)
    clear hq
    go_wp2_with fail
    refine HI.out.mono ?_
    rintro e w4 ⟨rfl, hb⟩
    have HB4 : Hid (Below w.heap.size w w4) := Lib.hid (HB3.out.trans (hb.mono HB3.out.size))
    clear hb x0 HI
    go_wp2_with fail
    refine bodyPost_ret (results_tmp rfl _ _ _) rfl ⟨?_, HB4.out⟩
    exact congrArg (fun b => Ending.returned (.bool b)) HV.out.symm
end Go.Proofs.YtminihiecloglaaGreat
