/-
  CONTRACTS: Linked, isRelease, bears and its closure, Fits.
-/
import Derived.Test.YtebflhlgcpbikaaGreatCNs
import Derived.Test.YtebflhlgcpbikaaGreatRRHas
namespace Go.Proofs.YtebflhlgcpbikaaGreat
open Go.RowKit
open SemP
set_option linter.unusedVariables false
set_option linter.unusedSimpArgs false
set_option maxRecDepth 10000
theorem isS_is {w : World} {B n c : Nat} {A : Option Addr} {l : List Sv} (h : CatAt w B A n c l) (x : Int) (q : Bool) (hq : isS l x = q) :
    Calls Tryz.prog 36 #[.agg #[.slice A n c], .int .i64 x] w fun e w' => e = .returned (.bool q) ∧ Below w.heap.size w w' := by
  have e : (decide (0 ≤ x) && decide (x < (n : Int))) = q := by rw [← hq]; unfold isS; rw [h.rd.1]
  refine isService_any.mono ?_
  rintro en w' ⟨rfl, hb⟩
  exact ⟨by rw [e], hb⟩
theorem isS_nat {l : List Sv} {x : Int} (h : isS l x = true) : ∃ a : Nat, x = (a : Int) ∧ a < l.length := by
  unfold isS at h
  simp at h
  exact ⟨x.toNat, by omega, by omega⟩
set_option maxHeartbeats 8000000 in
theorem linked_any {w : World} {B n c : Nat} {i j : Int} {A : Option Addr} {l : List Sv} (h : CatAt w B A n c l) :
    Calls Tryz.prog 16 #[.agg #[.slice A n c], .int .i64 i, .int .i64 j] w fun e w' => e = .returned (.bool (linkC l i j)) ∧ Below w.heap.size w w' := by
  have HN : Hid (l.length = n) := Lib.hid h.rd.1
  have hbl : Below w.heap.size w (w.alloc (.cells #[.slice A n c] 24)) := (Below.refl _ w).alloc (Nat.le_refl _) _
  obtain ⟨W, HW⟩ : ∃ W, Hid (W = w.alloc (.cells #[.slice A n c] 24)) := ⟨_, Lib.hid rfl⟩
  rw [← HW.out] at hbl
  have H0 : Hid (W.heap[w.heap.size]? = some (.cells #[.slice A n c] 24 (0, 0))) := Lib.hid (by rw [HW.out]; exact heap_new w _)
  have HA := Lib.hid (h.below hbl)
  have HBL := Lib.hid hbl
  have hsz := hbl.size
  clear h hbl
  by_cases hij : i = j
  · subst hij
    have HV : Hid (linkC l i i = false) := Lib.hid (by unfold linkC; simp)
    have hd : (i != i) = false := by simp
    go_enter Tryz.func16, Tryz.ntmps16
    go_wp2_with fail
    refine bodyPost_ret (results_tmp rfl _ _ _) rfl ⟨?_, ?_⟩
    · exact congrArg (fun b => Ending.returned (.bool b)) HV.out.symm
    · have := HBL.out; rw [HW.out] at this; exact this
  have hd : (i != j) = true := by rw [bne_iff_ne]; exact hij
  have HV1 : Hid (linkC l i j = (isS l i && (isS l j && (asks l i.toNat j || asks l j.toNat i)))) := Lib.hid (by unfold linkC; rw [decide_eq_true hij]; rfl)
  obtain ⟨x0, _⟩ := row1f H0.out
  go_enter Tryz.func16, Tryz.ntmps16
  go_upto_region 1 with fail
  change Code.wp _ _ _ _ (w.alloc (.cells #[.slice A n c] 24))
  rw [← HW.out]
  cases hq : isS l i with
  | false =>
    have HI := Lib.hid (isS_is HA.out i false hq)
    have HV : Hid (linkC l i j = false) := Lib.hid (by rw [HV1.out, hq]; rfl)
    clear hq
    go_wp2_with fail
    refine HI.out.mono ?_
    rintro e w1 ⟨rfl, hb⟩
    have HB1 : Hid (Below w.heap.size w w1) := Lib.hid (HBL.out.trans (hb.mono hsz))
    clear hb x0
    go_wp2_with fail
    refine bodyPost_ret (results_tmp rfl _ _ _) rfl ⟨?_, HB1.out⟩
    exact congrArg (fun b => Ending.returned (.bool b)) HV.out.symm
  | true =>
    have HI := Lib.hid (isS_is HA.out i true hq)
    have HV2 : Hid (linkC l i j = (isS l j && (asks l i.toNat j || asks l j.toNat i))) := Lib.hid (by rw [HV1.out, hq]; rfl)
    obtain ⟨a, rfl, ha⟩ := isS_nat hq
    have HAN : Hid (a < n) := Lib.hid (by rw [← HN.out]; exact ha)
    clear hq ha
    go_wp2_with fail
    refine HI.out.mono ?_
    rintro e w1 ⟨rfl, hb⟩
    have HB1 : Hid (Below w.heap.size w w1) := Lib.hid (HBL.out.trans (hb.mono hsz))
    have HA1 := Lib.hid (HA.out.below hb)
    have K1 : Hid (w1.heap[w.heap.size]? = _) := Lib.hid ((hb.block w.heap.size (heapE_lt H0.out)).trans H0.out)
    clear hb x0 HI
    obtain ⟨x0, _⟩ := row1f K1.out
    cases hq : isS l j with
    | false =>
      have HI := Lib.hid (isS_is HA1.out j false hq)
      have HV : Hid (linkC l (a : Int) j = false) := Lib.hid (by rw [HV2.out, hq]; rfl)
      clear hq
      go_wp2_with fail
      refine HI.out.mono ?_
      rintro e w2 ⟨rfl, hb⟩
      have HB2 : Hid (Below w.heap.size w w2) := Lib.hid (HB1.out.trans (hb.mono HB1.out.size))
      clear hb x0
      go_wp2_with fail
      refine bodyPost_ret (results_tmp rfl _ _ _) rfl ⟨?_, HB2.out⟩
      exact congrArg (fun b => Ending.returned (.bool b)) HV.out.symm
    | true =>
      have HI := Lib.hid (isS_is HA1.out j true hq)
      obtain ⟨b, rfl, hbl⟩ := isS_nat hq
      have HBN : Hid (b < n) := Lib.hid (by rw [← HN.out]; exact hbl)
      have HV3 : Hid (linkC l (a : Int) (b : Int) = (asks l a (b : Int) || asks l b (a : Int))) := Lib.hid (by rw [HV2.out, hq, Int.toNat_natCast, Int.toNat_natCast]; rfl)
      clear hq hbl
      go_wp2_with fail
      refine HI.out.mono ?_
      rintro e w2 ⟨rfl, hb⟩
      have HB2 : Hid (Below w.heap.size w w2) := Lib.hid (HB1.out.trans (hb.mono HB1.out.size))
      have HA2 := Lib.hid (HA1.out.below hb)
      have K2 : Hid (w2.heap[w.heap.size]? = _) := Lib.hid ((hb.block w.heap.size (heapE_lt K1.out)).trans K1.out)
      clear hb x0 HI
      obtain ⟨x0, _⟩ := row1f K2.out
      have HND := Lib.hid (needs_any (j := (b : Int)) HA2.out HAN.out)
      go_wp2_with fail
      refine HND.out.mono ?_
      rintro e w3 ⟨rfl, hb⟩
      have HB3 : Hid (Below w.heap.size w w3) := Lib.hid (HB2.out.trans (hb.mono HB2.out.size))
      have HA3 := Lib.hid (HA2.out.below hb)
      have K3 : Hid (w3.heap[w.heap.size]? = _) := Lib.hid ((hb.block w.heap.size (heapE_lt K2.out)).trans K2.out)
      clear hb x0 HND
      cases hq : asks l a (b : Int) with
      | true =>
        have HV : Hid (linkC l (a : Int) (b : Int) = true) := Lib.hid (by rw [HV3.out, hq]; rfl)
        clear hq
        go_wp2_with fail
        refine bodyPost_ret (results_tmp rfl _ _ _) rfl ⟨?_, HB3.out⟩
        exact congrArg (fun b => Ending.returned (.bool b)) HV.out.symm
      | false =>
        have HV : Hid (linkC l (a : Int) (b : Int) = asks l b (a : Int)) := Lib.hid (by rw [HV3.out, hq]; rfl)
        obtain ⟨x0, _⟩ := row1f K3.out
        have HND := Lib.hid (needs_any (j := (a : Int)) HA3.out HBN.out)
        clear hq
        go_wp2_with fail
        refine HND.out.mono ?_
        rintro e w4 ⟨rfl, hb⟩
        have HB4 : Hid (Below w.heap.size w w4) := Lib.hid (HB3.out.trans (hb.mono HB3.out.size))
        clear hb x0 HND
        go_wp2_with fail
        refine bodyPost_ret (results_tmp rfl _ _ _) rfl ⟨?_, HB4.out⟩
        exact congrArg (fun b => Ending.returned (.bool b)) HV.out.symm
set_option maxHeartbeats 8000000 in
theorem isRelease_any {w : World} {B n c : Nat} {i v : Int} {A : Option Addr} {l : List Sv} (h : CatAt w B A n c l) :
    Calls Tryz.prog 41 #[.agg #[.slice A n c], .int .i64 i, .int .i64 v] w fun e w' => e = .returned (.bool (isR l i v)) ∧ Below w.heap.size w w' := by
  have HN : Hid (l.length = n) := Lib.hid h.rd.1
  have hbl : Below w.heap.size w (w.alloc (.cells #[.slice A n c] 24)) := (Below.refl _ w).alloc (Nat.le_refl _) _
  obtain ⟨W, HW⟩ : ∃ W, Hid (W = w.alloc (.cells #[.slice A n c] 24)) := ⟨_, Lib.hid rfl⟩
  rw [← HW.out] at hbl
  have H0 : Hid (W.heap[w.heap.size]? = some (.cells #[.slice A n c] 24 (0, 0))) := Lib.hid (by rw [HW.out]; exact heap_new w _)
  have HA := Lib.hid (h.below hbl)
  have HBL := Lib.hid hbl
  have hsz := hbl.size
  clear h hbl
  obtain ⟨x0, _⟩ := row1f H0.out
  go_enter Tryz.func41, Tryz.ntmps41
  go_upto_region 1 with fail
  change Code.wp _ _ _ _ (w.alloc (.cells #[.slice A n c] 24))
  rw [← HW.out]
  cases hq : isS l i with
  | false =>
    have HI := Lib.hid (isS_is HA.out i false hq)
    have HV : Hid (isR l i v = false) := Lib.hid (by unfold isR; rw [hq]; rfl)
    clear hq
    go_wp2_with fail
    refine HI.out.mono ?_
    rintro e w1 ⟨rfl, hb⟩
    have HB1 : Hid (Below w.heap.size w w1) := Lib.hid (HBL.out.trans (hb.mono hsz))
    clear hb x0
    go_wp2_with fail
    refine bodyPost_ret (results_tmp rfl _ _ _) rfl ⟨?_, HB1.out⟩
    exact congrArg (fun b => Ending.returned (.bool b)) HV.out.symm
  | true =>
    have HI := Lib.hid (isS_is HA.out i true hq)
    have HV2 : Hid (isR l i v = (decide (0 ≤ v) && decide (v < ((svAt l i.toNat).2.length : Int)))) := Lib.hid (by unfold isR; rw [hq]; rfl)
    obtain ⟨a, rfl, ha⟩ := isS_nat hq
    have HAN : Hid (a < n) := Lib.hid (by rw [← HN.out]; exact ha)
    clear hq ha
    go_wp2_with fail
    refine HI.out.mono ?_
    rintro e w1 ⟨rfl, hb⟩
    have HB1 : Hid (Below w.heap.size w w1) := Lib.hid (HBL.out.trans (hb.mono hsz))
    have HA1 := Lib.hid (HA.out.below hb)
    have K1 : Hid (w1.heap[w.heap.size]? = _) := Lib.hid ((hb.block w.heap.size (heapE_lt H0.out)).trans H0.out)
    clear hb x0 HI
    by_cases hv : 0 ≤ v
    · obtain ⟨b1, o1, Aj, nj, cj, hA, hb1, k0, k1, hcap, hrr⟩ := sv_at HA1.out.rd HAN.out
      subst hA
      obtain ⟨x0, _⟩ := row1f K1.out
      have HV : Hid (isR l (a : Int) v = decide (v < (nj : Int))) := Lib.hid (by rw [HV2.out, decide_eq_true hv, Int.toNat_natCast, hrr.1]; rfl)
      have hai : (a : Int) < (n : Int) := by have := HAN.out; omega
      have d1 : decide (0 ≤ v) = true := decide_eq_true hv
      clear hrr
      go_wp2_with fail
      refine bodyPost_ret (results_tmp rfl _ _ _) rfl ⟨?_, HB1.out⟩
      exact congrArg (fun b => Ending.returned (.bool b)) HV.out.symm
    · have HV : Hid (isR l (a : Int) v = false) := Lib.hid (by rw [HV2.out, decide_eq_false hv]; rfl)
      have d1 : decide (0 ≤ v) = false := decide_eq_false hv
      go_wp2_with fail
      refine bodyPost_ret (results_tmp rfl _ _ _) rfl ⟨?_, HB1.out⟩
      exact congrArg (fun b => Ending.returned (.bool b)) HV.out.symm
set_option maxHeartbeats 4000000 in
theorem bears1_any {w W : World} {B jb vb : Nat} {j a b c : Int} {s : ByteArray} {T T' : TypeId} {vs : List Value} {x : Nd} (hk : w.heap[jb]? = some (.cells #[.int .i64 j] T (0, 0))) (hv : w.heap[vb]? = some (.cells #[.int .i64 a, .int .i64 b, .int .i64 c, .string s] T' (0, 0))) (hb : Below w.heap.size w W) (hB : B ≤ w.heap.size)
    (hit : pnI W (fun b => B ≤ b) vs x) (hx : SmR x.2) (hs : s.size ≤ 100) (hm : LenAt W) (h1 : 1 < W.heap.size) :
    Calls Tryz.prog 65 (#[.agg vs.toArray] ++ #[.pointer (some ⟨jb, 0, none⟩), .pointer (some ⟨vb, 0, none⟩)]) W fun e w' => e = .returned (.bool (decide (x.1 = j) && !hasR x.2 ⟨a, b, c, bs s⟩)) ∧ Below w.heap.size w w' := by
  obtain ⟨A3, n3, c3, rfl, hcap, hr⟩ := hit.parts
  have hjb : jb < w.heap.size := heapE_lt hk
  have hvb : vb < w.heap.size := heapE_lt hv
  have hsz := hb.size
  obtain ⟨sv, rg⟩ := x
  simp only at hr hx ⊢
  obtain ⟨W1, HW1⟩ : ∃ W1, Hid (W1 = W.alloc (.cells #[.int .i64 sv, .slice A3 n3 c3] 84)) := ⟨_, Lib.hid rfl⟩
  have hb1 : Below W.heap.size W W1 := by rw [HW1.out]; exact (Below.refl _ W).alloc (Nat.le_refl _) _
  have hn0 : W1.heap[W.heap.size]? = some (.cells #[.int .i64 sv, .slice A3 n3 c3] 84 (0, 0)) := by rw [HW1.out]; exact heap_new W _
  have HB1 : Hid (Below w.heap.size w W1) := Lib.hid (hb.trans (hb1.mono (by omega)))
  obtain ⟨k0, _⟩ := row1f ((HB1.out.block jb hjb).trans hk)
  obtain ⟨y0, y1, y2, y3⟩ := cells4 ((HB1.out.block vb hvb).trans hv)
  obtain ⟨n0, n1, _, _⟩ := row2 hn0
  have HZ : Hid (w.heap.size ≤ W1.heap.size) := Lib.hid HB1.out.size
  have hl := LenAt.below hm h1 hb1
  have HHAS := Lib.hid (RgHas_any A3 n3 c3 rg a b c s W1 B (hr.r.below (hb1.mono (by omega))) (by have := HZ.out; omega) hx.fits (by omega) (by have := hr.1; have := hx.1; omega) hl.1 hl.2)
  clear hk hv hb hit hr hb1 hn0 hm h1 hl
  show Calls Tryz.prog 65 #[.agg #[.int .i64 sv, .slice A3 n3 c3], .pointer (some ⟨jb, 0, none⟩), .pointer (some ⟨vb, 0, none⟩)] W _
  go_enter Tryz.func65, Tryz.ntmps65
  go_upto_region 1 with fail
  change Code.wp _ _ _ _ (W.alloc (.cells #[.int .i64 sv, .slice A3 n3 c3] 84))
  rw [← HW1.out]
  by_cases h : sv = j
  · subst h
    have HV : Hid ((decide (sv = sv) && !hasR rg ⟨a, b, c, bs s⟩) = !hasR rg ⟨a, b, c, bs s⟩) := Lib.hid (by simp)
    go_wp2_with fail
    refine HHAS.out.mono ?_
    rintro e w2 ⟨rfl, hb2⟩
    have HB2 : Hid (Below w.heap.size w w2) := Lib.hid (HB1.out.trans (hb2.mono HZ.out))
    clear hb2 k0 y0 y1 y2 y3 n0 n1
    go_wp2_with fail
    refine bodyPost_ret (results_tmp rfl _ _ _) rfl ⟨?_, HB2.out⟩
    exact congrArg (fun b => Ending.returned (.bool b)) HV.out.symm
  · have HV : Hid ((decide (sv = j) && !hasR rg ⟨a, b, c, bs s⟩) = false) := Lib.hid (by rw [decide_eq_false h]; rfl)
    have h3 : (sv == j) = false := by rw [beq_eq_false_iff_ne]; exact h
    go_wp2_with fail
    refine bodyPost_ret (results_tmp rfl _ _ _) rfl ⟨?_, HB1.out⟩
    exact congrArg (fun b => Ending.returned (.bool b)) HV.out.symm
theorem enters_bears1 : ∀ args w, (callFunc 65 args).run Tryz.prog w = .ok (.enter 65 args) w := enters_of Tryz.func65 (by kernel_rfl) rfl
end Go.Proofs.YtebflhlgcpbikaaGreat
