/-
  CONTRACT of the document's own package of layer 2: Right (printed by genrrr.py).
-/
import Derived.Test.YtpnbbbhbbnemlaaGreatDoorRMa
import Derived.Test.YtpnbbbhbbnemlaaGreatDoorRMb
namespace Go.Proofs.YtpnbbbhbbnemlaaGreatDoor
open Go.RowKit
open SemP
set_option linter.unusedVariables false
set_option linter.unusedSimpArgs false
set_option maxRecDepth 100000
theorem eqVer1 (w : World) (a b c : Int) (s : ByteArray) (a' b' c' : Int) (s' : ByteArray) : (Op.equalIn 10000 74 (.agg #[.int .i64 a, .int .i64 b, .int .i64 c, .string s]) (.agg #[.int .i64 a', .int .i64 b', .int .i64 c', .string s'])).run Tryz.prog w = .ok (verEq a b c s a' b' c' s') w := by
  unfold verEq
  rw [show (10000 : Nat) = 9999 + 1 from rfl]
  go_simp
  by_cases h1 : a = a'
  · by_cases h2 : b = b'
    · by_cases h3 : c = c'
      · by_cases h4 : s = s'
        · subst h1 h2 h3 h4; simp
        · have h5 : s.toList ≠ s'.toList := fun e => h4 (toL_inj e)
          simp [h1, h2, h3, h4, h5]
      · simp [h1, h2, h3]
    · simp [h1, h2]
  · simp [h1]
attribute [local go_sem ↓] eqVer1
theorem lsAt_all {r : List (List CV)} {p : List CV → Bool} {j : Nat} (hj : j < r.length) : lsAt r j ∈ r := lsAt_mem hj
/-- Sizes that the document's functions bear. -/
def Small (r : List (List CV)) : Prop := ∀ l ∈ r, ∀ x ∈ l, x.s.size ≤ 1000000
set_option maxHeartbeats 8000000 in
theorem RefRgRight_any (A : Option Addr) (m cp : Nat) (r : List (List CV)) (w : World) (B : Nat) (hr : RdR w B A m r) (hB : B ≤ w.heap.size) (hf : Small r) :
    Calls Tryz.prog 14 #[.agg #[.slice A m cp]] w fun e w' => e = .returned (.bool (rightR r)) ∧ Below w.heap.size w w' := by
  obtain ⟨W0, hW0⟩ : ∃ W0, w.alloc (.cells #[.slice A m cp] 28) = W0 := ⟨_, rfl⟩
  have hb0 : Below w.heap.size w W0 := by rw [← hW0]; exact (Below.refl _ w).alloc (Nat.le_refl _) _
  have HX0 : Hid (W0.heap[w.heap.size]? = some (.cells #[.slice A m cp] 28)) := Lib.hid (by rw [← hW0]; exact World.alloc_heap_new _ _)
  have HL0 : Hid (w.heap.size < W0.heap.size) := Lib.hid (by rw [← hW0]; simp)
  have HR0 : Hid (RdR W0 B A m r) := Lib.hid (hr.below (hb0.mono hB))
  have HBB : Hid (B ≤ W0.heap.size) := Lib.hid (Nat.le_trans hB hb0.size)
  have HF := Lib.hid hf
  have HLE := Lib.hid hr.1
  have HB0 := Lib.hid hb0
  have HW0 := Lib.hid hW0
  have HV := Lib.hid (show rightR r = (decide (1 ≤ r.length) && decide (r.length ≤ 8) && r.all rightL) from rfl)
  have c1 : W0.cell? ⟨w.heap.size, 0, none⟩ = some (.slice A m cp) := cell1 HX0.out
  rw [← hW0] at c1
  clear hr hf hB hb0 hW0
  by_cases hn1 : m < 1
  · have d1 : decide ((m : Int) < 1) = true := decide_eq_true (by omega)
    have HQ : Hid (rightR r = false) := Lib.hid (by rw [HV.out, HLE.out, decide_eq_false (show ¬ 1 ≤ m by omega)]; rfl)
    have HBx : Hid (Below w.heap.size w (w.alloc (.cells #[.slice A m cp] 28))) := Lib.hid (by rw [HW0.out]; exact HB0.out)
    go_enter Tryz.func14, Tryz.ntmps14
    go_wp2
    refine bodyPost_ret (results_tmp rfl _ _ _) rfl ⟨by rw [HQ.out]; rfl, HBx.out⟩
  · have d1 : decide ((m : Int) < 1) = false := decide_eq_false (by omega)
    by_cases hn8 : 8 < m
    · have d2 : decide (8 < (m : Int)) = true := decide_eq_true (by omega)
      have HQ : Hid (rightR r = false) := Lib.hid (by rw [HV.out, HLE.out, decide_eq_false (show ¬ m ≤ 8 by omega), Bool.and_false]; rfl)
      have HBx : Hid (Below w.heap.size w (w.alloc (.cells #[.slice A m cp] 28))) := Lib.hid (by rw [HW0.out]; exact HB0.out)
      go_enter Tryz.func14, Tryz.ntmps14
      go_wp2
      refine bodyPost_ret (results_tmp rfl _ _ _) rfl ⟨by rw [HQ.out]; rfl, HBx.out⟩
    · have d2 : decide (8 < (m : Int)) = false := decide_eq_false (by omega)
      have HV2 : Hid (rightR r = r.all rightL) := Lib.hid (by rw [HV.out, HLE.out, decide_eq_true (show 1 ≤ m by omega), decide_eq_true (show m ≤ 8 by omega)]; rfl)
      have HM8 : Hid (m ≤ 8) := Lib.hid (by omega)
      go_enter Tryz.func14, Tryz.ntmps14
      go_wp2
      try rw [show w.alloc (.cells #[.slice A m cp] 28) = W0 from HW0.out]
      clear c1 hn1 hn8 d1 d2
      go_loopw [3, 4, 5, 6] (fun v3 v4 v5 v6 wr => ∃ (i : Nat), i ≤ m ∧ v3 = .int .i64 (i : Int) ∧ Hid (∀ j, j < i → rightL (lsAt r j) = true) ∧ Hid (Below W0.heap.size W0 wr)) (fun v _ _ _ _ => m - (intOf v).toNat)
      case atStart => exact ⟨0, Nat.zero_le _, rfl, Lib.hid (fun j hj => absurd hj (by omega)), Lib.hid (Below.refl _ _)⟩
      case round =>
        obtain ⟨i, hi, rfl, HD, HB⟩ := hrel
        obtain ⟨wo, hwo⟩ : ∃ x, x = wr := ⟨_, rfl⟩
        subst hwo
        have c1 : wo.cell? ⟨w.heap.size, 0, none⟩ = some (.slice A m cp) := cell1 ((HB.out.block _ HL0.out).trans HX0.out)
        by_cases him : i < m
        · have hd : decide ((i : Int) < (m : Int)) = true := decide_eq_true (by omega)
          have hadd : IntKind.i64.wrap ((i : Int) + 1) = ((i + 1 : Nat) : Int) := by rw [IntWalk.i64_in _ (by have := HM8.out; omega)]; omega
          have HRr : Hid (RdR wo B A m r) := Lib.hid (HR0.out.below (HB.out.mono HBB.out))
          obtain ⟨b, off, Aj, nj, cj, rfl, hlt, q0, hrc⟩ := HRr.out.2 i him
          have HRC := Lib.hid hrc
          have HIL : Hid (i < r.length) := Lib.hid (by rw [HLE.out]; exact him)
          obtain ⟨l, hl⟩ : ∃ l, lsAt r i = l := ⟨_, rfl⟩
          have HLL := Lib.hid hl
          rw [hl] at HRC
          have HSM : Hid (∀ x ∈ l, x.s.size ≤ 1000000) := Lib.hid (by rw [← hl]; exact HF.out _ (lsAt_mem HIL.out))
          have HNL : Hid (l.length = nj) := Lib.hid HRC.out.1
          have HVL := Lib.hid (show rightL l = (decide (1 ≤ l.length) && decide (l.length ≤ 8) && l.all CV.right) from rfl)
          have HLT := Lib.hid (And.intro hlt (And.intro him hi))
          clear hrc hl
          by_cases hk1 : nj < 1
          · have d1 : decide ((nj : Int) < 1) = true := decide_eq_true (by omega)
            have HQ : Hid (rightR r = false) := Lib.hid (by rw [HV2.out]; exact allR_not HIL.out (by rw [HLL.out, HVL.out, HNL.out, decide_eq_false (show ¬ 1 ≤ nj by omega)]; rfl))
            go_wp2
            refine bodyPost_ret (results_tmp rfl _ _ _) rfl ⟨by rw [HQ.out]; rfl, HB0.out.trans (HB.out.mono HB0.out.size)⟩
          · have d1 : decide ((nj : Int) < 1) = false := decide_eq_false (by omega)
            by_cases hk8 : 8 < nj
            · have d2 : decide (8 < (nj : Int)) = true := decide_eq_true (by omega)
              have HQ : Hid (rightR r = false) := Lib.hid (by rw [HV2.out]; exact allR_not HIL.out (by rw [HLL.out, HVL.out, HNL.out, decide_eq_false (show ¬ nj ≤ 8 by omega), Bool.and_false]; rfl))
              go_wp2
              refine bodyPost_ret (results_tmp rfl _ _ _) rfl ⟨by rw [HQ.out]; rfl, HB0.out.trans (HB.out.mono HB0.out.size)⟩
            · have d2 : decide (8 < (nj : Int)) = false := decide_eq_false (by omega)
              have HVL2 : Hid (rightL l = l.all CV.right) := Lib.hid (by rw [HVL.out, HNL.out, decide_eq_true (show 1 ≤ nj by omega), decide_eq_true (show nj ≤ 8 by omega)]; rfl)
              have HK8 : Hid (nj ≤ 8) := Lib.hid (by omega)
              have HBr := Lib.hid (Nat.le_trans HBB.out HB.out.size)
              have HC1 : Hid (wo.heap[w.heap.size]? = some (.cells #[.slice (some ⟨b, off, none⟩) m cp] 28)) := Lib.hid ((HB.out.block _ HL0.out).trans HX0.out)
              have HQ0 := Lib.hid q0
              have HLr : Hid (w.heap.size < wo.heap.size ∧ b < wo.heap.size) := Lib.hid ⟨Nat.lt_of_lt_of_le HL0.out HB.out.size, block_lt_of_cell q0⟩
              go_wp2
              clear d1 d2 hk1 hk8 q0 c1
              go_loopw [4, 5, 6] (fun v4 v5 v6 wr => ∃ (k : Nat), k ≤ nj ∧ v4 = .int .i64 (k : Int) ∧ Hid (∀ j, j < k → (cvAt l j).right = true) ∧ Hid (Below wo.heap.size wo wr)) (fun v _ _ _ => nj - (intOf v).toNat)
              case atStart => exact ⟨0, Nat.zero_le _, rfl, Lib.hid (fun j hj => absurd hj (by omega)), Lib.hid (Below.refl _ _)⟩
              case round =>
                obtain ⟨k, hk, rfl, HDk, HBq⟩ := hrel
                have c1 : wr.cell? ⟨w.heap.size, 0, none⟩ = some (.slice (some ⟨b, off, none⟩) m cp) := cell1 ((HBq.out.block _ HLr.out.1).trans HC1.out)
                have q0 : wr.cell? ⟨b, off + i, none⟩ = some (.slice Aj nj cj) := (HBq.out.cell (p := ⟨b, off + i, none⟩) HLr.out.2).trans HQ0.out
                by_cases hkn : k < nj
                · have hdk : decide ((k : Int) < (nj : Int)) = true := decide_eq_true (by omega)
                  have haddk : IntKind.i64.wrap ((k : Int) + 1) = ((k + 1 : Nat) : Int) := by rw [IntWalk.i64_in _ (by have := HK8.out; omega)]; omega
                  obtain ⟨b2, off2, rfl, hlt2, p0, p1, p2, p3, p4⟩ := (HRC.out.below (HBq.out.mono HBr.out)).2 k hkn
                  have HIK : Hid (k < l.length) := Lib.hid (by rw [HNL.out]; exact hkn)
                  have HSZ : Hid ((cvAt l k).s.size ≤ 1000000) := Lib.hid (HSM.out _ (cvAt_mem HIK.out))
                  obtain ⟨x, hx⟩ : ∃ x, cvAt l k = x := ⟨_, rfl⟩
                  have HX := Lib.hid hx
                  rw [hx] at p0 p1 p2 p3 p4 HSZ
                  have HBq2 : Hid (∀ o1 o2 : Obj, Below wo.heap.size wo ((wr.alloc o1).alloc o2)) := Lib.hid (fun o1 o2 => (HBq.out.alloc HBq.out.size o1).alloc (by have := HBq.out.size; simp; omega) o2)
                  have HFALSE : Hid (x.right = false → rightR r = false) := Lib.hid (fun h => by rw [HV2.out]; exact allR_not HIL.out (by rw [HLL.out, HVL2.out]; exact all_not HIK.out (by rw [HX.out]; exact h)))
                  have HCR : Hid (x.right = if x.op = 0 then verEq x.a x.b x.c x.s 0 0 0 ⟨#[]⟩ else decide (0 < x.op) && decide (x.op ≤ 7) && x.ver.right) := Lib.hid rfl
                  have HLT2 := Lib.hid hlt2
                  have HRR := Lib.hid (fun a b c s W h => RefRight_any a b c s W h)
                  clear hx
                  by_cases hlo : x.op < 0
                  · have dlo : decide (x.op < 0) = true := decide_eq_true hlo
                    have HQ : Hid (rightR r = false) := Lib.hid (HFALSE.out (by rw [HCR.out, if_neg (by omega), decide_eq_false (show ¬ 0 < x.op by omega)]; rfl))
                    go_wp2
                    refine bodyPost_ret (results_tmp rfl _ _ _) rfl ⟨by rw [HQ.out]; rfl, HB0.out.trans ((HB.out.trans ((HBq2.out _ _).mono HB.out.size)).mono HB0.out.size)⟩
                  · have dlo : decide (x.op < 0) = false := decide_eq_false hlo
                    by_cases hhi : 7 < x.op
                    · have dhi : decide (7 < x.op) = true := decide_eq_true hhi
                      have HQ : Hid (rightR r = false) := Lib.hid (HFALSE.out (by rw [HCR.out, if_neg (by omega), decide_eq_false (show ¬ x.op ≤ 7 by omega), Bool.and_false]; rfl))
                      go_wp2
                      refine bodyPost_ret (results_tmp rfl _ _ _) rfl ⟨by rw [HQ.out]; rfl, HB0.out.trans ((HB.out.trans ((HBq2.out _ _).mono HB.out.size)).mono HB0.out.size)⟩
                    · have dhi : decide (7 < x.op) = false := decide_eq_false hhi
                      by_cases h00 : x.op = 0
                      · have d00 : (x.op == 0) = true := by rw [h00]; rfl
                        cases hve : verEq x.a x.b x.c x.s 0 0 0 ⟨#[]⟩ with
                        | false =>
                          have HQ : Hid (rightR r = false) := Lib.hid (HFALSE.out (by rw [HCR.out, if_pos h00]; exact hve))
                          go_wp2
                          refine bodyPost_ret (results_tmp rfl _ _ _) rfl ⟨by rw [HQ.out]; rfl, HB0.out.trans ((HB.out.trans ((HBq2.out _ _).mono HB.out.size)).mono HB0.out.size)⟩
                        | true =>
                          have HC := Lib.hid (fun W => HRR.out x.a x.b x.c x.s W (by have := HSZ.out; omega))
                          go_wp2_with fail
                          refine (HC.out _).mono ?_
                          rintro e w2 ⟨rfl, hb⟩
                          have HB2 : Hid (Below wo.heap.size wo w2) := Lib.hid ((HBq2.out _ _).trans (hb.mono (HBq2.out _ _).size))
                          clear hb HC c1 q0 p0 p1 p2 p3 p4
                          cases hxr : Ver.right ⟨x.a, x.b, x.c, bs x.s⟩ with
                          | true =>
                            have HD2 : Hid (∀ j, j < k + 1 → (cvAt l j).right = true) := Lib.hid (fun j hj => by
                              rcases Nat.lt_succ_iff_lt_or_eq.1 hj with h | h
                              · exact HDk.out j h
                              · subst h; rw [HX.out]; rw [HCR.out, if_pos h00]; exact hve)
                            clear hxr
                            go_wp2
                            go_roundw
                            case rel => exact ⟨k + 1, by omega, rfl, HD2, HB2⟩
                            case measure => simp [intOf]; omega
                          | false =>
                            have HQ : Hid (rightR r = false) := Lib.hid (HFALSE.out (by exfalso; have h := of_decide_eq_true hve; rw [h.1, h.2.1, h.2.2.1, h.2.2.2] at hxr; exact absurd hxr (by decide)))
                            clear hxr
                            go_wp2
                            refine bodyPost_ret (results_tmp rfl _ _ _) rfl ⟨by rw [HQ.out]; rfl, HB0.out.trans ((HB.out.trans (HB2.out.mono HB.out.size)).mono HB0.out.size)⟩
                      · have d00 : (x.op == 0) = false := by rw [beq_eq_false_iff_ne]; exact h00
                        have HC := Lib.hid (fun W => HRR.out x.a x.b x.c x.s W (by have := HSZ.out; omega))
                        go_wp2_with fail
                        refine (HC.out _).mono ?_
                        rintro e w2 ⟨rfl, hb⟩
                        have HB2 : Hid (Below wo.heap.size wo w2) := Lib.hid ((HBq2.out _ _).trans (hb.mono (HBq2.out _ _).size))
                        clear hb HC c1 q0 p0 p1 p2 p3 p4
                        cases hxr : Ver.right ⟨x.a, x.b, x.c, bs x.s⟩ with
                        | true =>
                          have HD2 : Hid (∀ j, j < k + 1 → (cvAt l j).right = true) := Lib.hid (fun j hj => by
                            rcases Nat.lt_succ_iff_lt_or_eq.1 hj with h | h
                            · exact HDk.out j h
                            · subst h; rw [HX.out]; rw [HCR.out, if_neg h00, decide_eq_true (show 0 < x.op by omega), decide_eq_true (show x.op ≤ 7 by omega)]; exact hxr)
                          clear hxr
                          go_wp2
                          go_roundw
                          case rel => exact ⟨k + 1, by omega, rfl, HD2, HB2⟩
                          case measure => simp [intOf]; omega
                        | false =>
                          have HQ : Hid (rightR r = false) := Lib.hid (HFALSE.out (by rw [HCR.out, if_neg h00, show x.ver.right = false from hxr, Bool.and_false]))
                          clear hxr
                          go_wp2
                          refine bodyPost_ret (results_tmp rfl _ _ _) rfl ⟨by rw [HQ.out]; rfl, HB0.out.trans ((HB.out.trans (HB2.out.mono HB.out.size)).mono HB0.out.size)⟩
                · have hdk : decide ((k : Int) < (nj : Int)) = false := decide_eq_false (by omega)
                  have HOK : Hid (∀ j, j < i + 1 → rightL (lsAt r j) = true) := Lib.hid (fun j hj => by
                    rcases Nat.lt_succ_iff_lt_or_eq.1 hj with h | h
                    · exact HD.out j h
                    · subst h; rw [HLL.out, HVL2.out]; exact all_at (fun j hj => HDk.out j (by rw [HNL.out] at hj; omega)))
                  go_wp2
                  go_roundw
                  case rel => exact ⟨i + 1, by have := HLT.out.2.1; omega, rfl, HOK, Lib.hid (HB.out.trans (HBq.out.mono HB.out.size))⟩
                  case measure => simp [intOf]; omega
        · have hd : decide ((i : Int) < (m : Int)) = false := decide_eq_false (by omega)
          have HT : Hid (rightR r = true) := Lib.hid (by rw [HV2.out]; exact allR_at (fun j hj => HD.out j (by rw [HLE.out] at hj; omega)))
          go_wp2
          refine bodyPost_ret (results_tmp rfl _ _ _) rfl ⟨by rw [HT.out]; rfl, HB0.out.trans (HB.out.mono HB0.out.size)⟩
end Go.Proofs.YtpnbbbhbbnemlaaGreatDoor
