/-
  RANGES: contracts: listHas, Has, and the law's 'of'.
  RANGES: contract: the law's 'of'.
-/
import Derived.Test.YtpnbbbhbbnemlaaGreatDoorRHas
namespace Go.Proofs.YtpnbbbhbbnemlaaGreatDoor
section
open Go.RowKit
open SemP
set_option linter.unusedVariables false
set_option linter.unusedSimpArgs false
set_option maxRecDepth 100000

def hasL (l : List CV) (v : Ver) : Bool := l.all (fun x => hasC x.op x.ver v)
def hasR (r : List (List CV)) (v : Ver) : Bool := rightR r && v.right && r.any (fun l => hasL l v)
theorem any_not {r : List (List CV)} {p : List CV → Bool} (h : ∀ j, j < r.length → p (lsAt r j) = false) : r.any p = false := by
  rw [List.any_eq_false]
  intro x hx
  obtain ⟨j, hj, rfl⟩ := List.getElem_of_mem hx
  have := h j hj
  simpa [lsAt, List.getD, hj] using this
theorem any_at {r : List (List CV)} {p : List CV → Bool} {j : Nat} (hj : j < r.length) (h : p (lsAt r j) = true) : r.any p = true := List.any_eq_true.2 ⟨_, lsAt_mem hj, h⟩
set_option maxHeartbeats 4000000 in
theorem listHas_any (A : Option Addr) (n cp : Nat) (l : List CV) (a b c : Int) (s : ByteArray) (w : World) (B : Nat) (hr : RdC w B A n l) (hB : B ≤ w.heap.size) (hs : Short l) (hss : s.size < 4294967281) (hn : n ≤ 1000000) (hm : LenAt w) (h1 : 1 < w.heap.size) :
    Calls Tryz.prog 55 #[.slice A n cp, verV a b c s] w fun e w' => e = .returned (.bool (hasL l ⟨a, b, c, bs s⟩)) ∧ Below w.heap.size w w' := by
  obtain ⟨W0, hW0⟩ : ∃ W0, w.alloc (verC a b c s) = W0 := ⟨_, rfl⟩
  have hb0 : Below w.heap.size w W0 := by rw [← hW0]; exact (Below.refl _ w).alloc (Nat.le_refl _) _
  have HX0 : Hid (W0.heap[w.heap.size]? = some (verC a b c s)) := Lib.hid (by rw [← hW0]; exact World.alloc_heap_new _ _)
  have HL0 : Hid (w.heap.size < W0.heap.size) := Lib.hid (by rw [← hW0]; simp)
  have HM0 := Lib.hid (hm.below h1 hb0)
  have HB0 := Lib.hid hb0
  have HW0 := Lib.hid hW0
  have HR0 : Hid (RdC W0 B A n l) := Lib.hid (hr.below (hb0.mono hB))
  have HS := Lib.hid hs
  have HSS := Lib.hid hss
  have HLE := Lib.hid hr.1
  have HBB : Hid (B ≤ W0.heap.size) := Lib.hid (Nat.le_trans hB hb0.size)
  clear hr hs hss hm h1 hB hb0 hW0
  go_enter Tryz.func55, Tryz.ntmps55
  go_wp2
  try rw [show w.alloc (.cells #[.int .i64 a, .int .i64 b, .int .i64 c, .string s] 69) = W0 from HW0.out]
  go_loopw [6, 9] (fun v6 v9 wr => ∃ (i : Nat), i ≤ n ∧ v9 = .int .i64 (i : Int) ∧ Hid (∀ j, j < i → hasC (cvAt l j).op (cvAt l j).ver ⟨a, b, c, bs s⟩ = true) ∧ Hid (Below W0.heap.size W0 wr)) (fun _ v _ => n - (intOf v).toNat)
  case atStart => exact ⟨0, Nat.zero_le _, rfl, Lib.hid (fun j hj => absurd hj (by omega)), Lib.hid (Below.refl _ _)⟩
  case round =>
    obtain ⟨i, hi, rfl, HD, HB⟩ := hrel
    by_cases him : i < n
    · have hd : decide ((i : Int) < (n : Int)) = true := decide_eq_true (by omega)
      have hadd : IntKind.i64.wrap ((i : Int) + 1) = ((i + 1 : Nat) : Int) := by rw [IntWalk.i64_in _ (by omega)]; omega
      obtain ⟨bk, off, rfl, hlt, q0, q1, q2, q3, q4⟩ := (HR0.out.below (HB.out.mono HBB.out)).2 i him
      have HMr := Lib.hid (HM0.out.1.below HM0.out.2 HB.out)
      have HIL : Hid (i < l.length) := Lib.hid (by rw [HLE.out]; exact him)
      have HSZ : Hid ((cvAt l i).s.size < 4294967281) := Lib.hid (HS.out _ (cvAt_mem HIL.out))
      obtain ⟨x, hx⟩ : ∃ x, cvAt l i = x := ⟨_, rfl⟩
      have HX := Lib.hid hx
      rw [hx] at q0 q1 q2 q3 q4 HSZ
      have hba : Below wr.heap.size wr (wr.alloc (compC x.op x.a x.b x.c x.s)) := (Below.refl _ wr).alloc (Nat.le_refl _) _
      have HMa := Lib.hid (HMr.out.1.below HMr.out.2 hba)
      have HBa : Hid (Below W0.heap.size W0 (wr.alloc (compC x.op x.a x.b x.c x.s))) := Lib.hid (HB.out.trans (hba.mono HB.out.size))
      have HC := Lib.hid (has_any x.op x.a x.b x.c x.s a b c s (wr.alloc (compC x.op x.a x.b x.c x.s)) HSZ.out HSS.out HMa.out.1 HMa.out.2)
      obtain ⟨y0, y1, y2, y3⟩ := cells4 ((HBa.out.block _ HL0.out).trans HX0.out)
      simp only [compC] at y0 y1 y2 y3
      clear hx hba
      go_wp2_with fail
      refine HC.out.mono ?_
      rintro e W2 ⟨rfl, hb⟩
      have HB2 : Hid (Below W0.heap.size W0 W2) := Lib.hid (HBa.out.trans (hb.mono HBa.out.size))
      clear hb HC
      cases hcr : hasC x.op ⟨x.a, x.b, x.c, bs x.s⟩ ⟨a, b, c, bs s⟩ with
      | true =>
        have HD2 : Hid (∀ j, j < i + 1 → hasC (cvAt l j).op (cvAt l j).ver ⟨a, b, c, bs s⟩ = true) := Lib.hid (fun j hj => by
          rcases Nat.lt_succ_iff_lt_or_eq.1 hj with h | h
          · exact HD.out j h
          · subst h; rw [HX.out]; exact hcr)
        clear hcr q0 q1 q2 q3 q4 y0 y1 y2 y3
        go_wp2
        go_roundw
        case rel => exact ⟨i + 1, by omega, rfl, HD2, HB2⟩
        case measure => simp [intOf]; omega
      | false =>
        have HF : Hid (hasL l ⟨a, b, c, bs s⟩ = false) := Lib.hid (all_not (p := fun x => hasC x.op x.ver ⟨a, b, c, bs s⟩) HIL.out (by show hasC (cvAt l i).op (cvAt l i).ver ⟨a, b, c, bs s⟩ = false; rw [HX.out]; exact hcr))
        clear hcr q0 q1 q2 q3 q4 y0 y1 y2 y3
        go_wp2
        refine bodyPost_ret (results_tmp rfl _ _ _) rfl ⟨by rw [HF.out]; rfl, HB0.out.trans (HB2.out.mono HB0.out.size)⟩
    · have hd : decide ((i : Int) < (n : Int)) = false := decide_eq_false (by omega)
      have HT : Hid (hasL l ⟨a, b, c, bs s⟩ = true) := Lib.hid (all_at (p := fun x => hasC x.op x.ver ⟨a, b, c, bs s⟩) (fun j hj => HD.out j (by rw [HLE.out] at hj; omega)))
      go_wp2
      refine bodyPost_ret (results_tmp rfl _ _ _) rfl ⟨by rw [HT.out]; rfl, HB0.out.trans (HB.out.mono HB0.out.size)⟩
set_option maxHeartbeats 4000000 in
theorem RgHas_any (A : Option Addr) (m cp : Nat) (r : List (List CV)) (a b c : Int) (s : ByteArray) (w : World) (B : Nat) (hr : RdR w B A m r) (hB : B ≤ w.heap.size) (hf : Fits r) (hss : s.size < 4294967281) (hmm : m ≤ 1000000) (hm : LenAt w) (h1 : 1 < w.heap.size) :
    Calls Tryz.prog 27 #[.agg #[.slice A m cp], verV a b c s] w fun e w' => e = .returned (.bool (hasR r ⟨a, b, c, bs s⟩)) ∧ Below w.heap.size w w' := by
  obtain ⟨W0, hW0⟩ : ∃ W0, (w.alloc (.cells #[.slice A m cp] 24)).alloc (verC a b c s) = W0 := ⟨_, rfl⟩
  have hz0 : W0.heap.size = w.heap.size + 2 := by rw [← hW0]; simp
  have hb0 : Below w.heap.size w W0 := by rw [← hW0]; exact ((Below.refl _ w).alloc (Nat.le_refl _) _).alloc (by simp) _
  have HX0 : Hid (W0.heap[w.heap.size]? = some (.cells #[.slice A m cp] 24)) := Lib.hid (by
    rw [← hW0, Below.heap_alloc _ _ _ (by simp)]; exact World.alloc_heap_new _ _)
  have HX1 : Hid (W0.heap[w.heap.size + 1]? = some (verC a b c s)) := Lib.hid (by
    rw [← hW0]
    have := World.alloc_heap_new (w.alloc (.cells #[.slice A m cp] 24)) (verC a b c s)
    rw [World.size_alloc] at this; exact this)
  have HL0 : Hid (w.heap.size < W0.heap.size) := Lib.hid (by omega)
  have HL1 : Hid (w.heap.size + 1 < W0.heap.size) := Lib.hid (by omega)
  have HM0 := Lib.hid (hm.below h1 hb0)
  have HB0 := Lib.hid hb0
  have HW0 := Lib.hid hW0
  have HR0 : Hid (RdR W0 B A m r) := Lib.hid (hr.below (hb0.mono hB))
  have HF := Lib.hid hf
  have HSS := Lib.hid hss
  have HLE := Lib.hid hr.1
  have HBB : Hid (B ≤ W0.heap.size) := Lib.hid (Nat.le_trans hB hb0.size)
  have HC := Lib.hid (RgRight_any A m cp r W0 B HR0.out HBB.out hf hmm HM0.out.1 HM0.out.2)
  have x0 : W0.cell? ⟨w.heap.size, 0, none⟩ = some (.slice A m cp) := by simp [World.cell?, HX0.out]
  obtain ⟨y0, y1, y2, y3⟩ := cells4 HX1.out
  rw [← hW0] at x0 y0 y1 y2 y3
  simp only [verC] at x0 y0 y1 y2 y3
  clear hr hf hss hm h1 hB hb0 hW0 hz0
  go_enter Tryz.func27, Tryz.ntmps27
  go_wp2_with fail
  try rw [show (w.alloc (.cells #[.slice A m cp] 24)).alloc (.cells #[.int .i64 a, .int .i64 b, .int .i64 c, .string s] 69) = W0 from HW0.out]
  refine HC.out.mono ?_
  rintro e W1 ⟨rfl, hb⟩
  have HB1 : Hid (Below W0.heap.size W0 W1) := Lib.hid hb
  have HM1 := Lib.hid (HM0.out.1.below HM0.out.2 hb)
  clear hb HC x0 y0 y1 y2 y3
  cases hrr : rightR r with
  | false =>
    have HV : Hid (hasR r ⟨a, b, c, bs s⟩ = false) := Lib.hid (by unfold hasR; rw [hrr]; rfl)
    clear hrr
    go_wp2
    refine bodyPost_ret (results_tmp rfl _ _ _) rfl ⟨by rw [HV.out]; rfl, HB0.out.trans (HB1.out.mono HB0.out.size)⟩
  | true =>
    have HRR := Lib.hid hrr
    clear hrr
    obtain ⟨y0, y1, y2, y3⟩ := cells4 ((HB1.out.block _ HL1.out).trans HX1.out)
    have HC := Lib.hid (Right_any a b c s W1 HSS.out HM1.out.1 HM1.out.2)
    go_wp2_with fail
    refine HC.out.mono ?_
    rintro e W2 ⟨rfl, hb⟩
    have HB2 : Hid (Below W0.heap.size W0 W2) := Lib.hid (HB1.out.trans (hb.mono HB1.out.size))
    have HM2 := Lib.hid (HM1.out.1.below HM1.out.2 hb)
    clear hb HC y0 y1 y2 y3
    cases hvr : Ver.right ⟨a, b, c, bs s⟩ with
    | false =>
      have HV : Hid (hasR r ⟨a, b, c, bs s⟩ = false) := Lib.hid (by unfold hasR; rw [hvr, Bool.and_false]; rfl)
      clear hvr
      go_wp2
      refine bodyPost_ret (results_tmp rfl _ _ _) rfl ⟨by rw [HV.out]; rfl, HB0.out.trans (HB2.out.mono HB0.out.size)⟩
    | true =>
      have HV : Hid (hasR r ⟨a, b, c, bs s⟩ = r.any (fun l => hasL l ⟨a, b, c, bs s⟩)) := Lib.hid (by unfold hasR; rw [HRR.out, hvr]; rfl)
      clear hvr
      have x0 : W2.cell? ⟨w.heap.size, 0, none⟩ = some (.slice A m cp) := by simp [World.cell?, (HB2.out.block _ HL0.out).trans HX0.out]
      go_wp2
      go_loopw [6, 18] (fun v6 v18 wr => ∃ (i : Nat), i ≤ m ∧ v18 = .int .i64 (i : Int) ∧ Hid (∀ j, j < i → hasL (lsAt r j) ⟨a, b, c, bs s⟩ = false) ∧ Hid (Below W0.heap.size W0 wr)) (fun _ v _ => m - (intOf v).toNat)
      case atStart => exact ⟨0, Nat.zero_le _, rfl, Lib.hid (fun j hj => absurd hj (by omega)), HB2⟩
      case round =>
        obtain ⟨i, hi, rfl, HD, HB⟩ := hrel
        by_cases him : i < m
        · have hd : decide ((i : Int) < (m : Int)) = true := decide_eq_true (by omega)
          have hadd : IntKind.i64.wrap ((i : Int) + 1) = ((i + 1 : Nat) : Int) := by rw [IntWalk.i64_in _ (by omega)]; omega
          have HRr : Hid (RdR wr B A m r) := Lib.hid (HR0.out.below (HB.out.mono HBB.out))
          obtain ⟨bk, off, Aj, nj, cj, rfl, hlt, q0, hrc⟩ := HRr.out.2 i him
          have HMr := Lib.hid (HM0.out.1.below HM0.out.2 HB.out)
          have HIL : Hid (i < r.length) := Lib.hid (by rw [HLE.out]; exact him)
          have HFI := Lib.hid (HF.out _ (lsAt_mem HIL.out))
          have HC := Lib.hid (listHas_any Aj nj cj (lsAt r i) a b c s wr B hrc (Nat.le_trans HBB.out HB.out.size) HFI.out.1 HSS.out (by rw [← hrc.1]; exact HFI.out.2) HMr.out.1 HMr.out.2)
          obtain ⟨y0, y1, y2, y3⟩ := cells4 ((HB.out.block _ HL1.out).trans HX1.out)
          clear hrc x0
          go_wp2_with fail
          refine HC.out.mono ?_
          rintro e W4 ⟨rfl, hb⟩
          have HB4 : Hid (Below W0.heap.size W0 W4) := Lib.hid (HB.out.trans (hb.mono HB.out.size))
          clear hb HC y0 y1 y2 y3
          cases hcr : hasL (lsAt r i) ⟨a, b, c, bs s⟩ with
          | false =>
            have HD2 : Hid (∀ j, j < i + 1 → hasL (lsAt r j) ⟨a, b, c, bs s⟩ = false) := Lib.hid (fun j hj => by
              rcases Nat.lt_succ_iff_lt_or_eq.1 hj with h | h
              · exact HD.out j h
              · subst h; exact hcr)
            clear hcr q0
            go_wp2
            go_roundw
            case rel => exact ⟨i + 1, by omega, rfl, HD2, HB4⟩
            case measure => simp [intOf]; omega
          | true =>
            have HT : Hid (hasR r ⟨a, b, c, bs s⟩ = true) := Lib.hid (by rw [HV.out]; exact any_at HIL.out hcr)
            clear hcr q0
            go_wp2
            refine bodyPost_ret (results_tmp rfl _ _ _) rfl ⟨by rw [HT.out]; rfl, HB0.out.trans (HB4.out.mono HB0.out.size)⟩
        · have hd : decide ((i : Int) < (m : Int)) = false := decide_eq_false (by omega)
          have HT : Hid (hasR r ⟨a, b, c, bs s⟩ = false) := Lib.hid (by rw [HV.out]; exact any_not (fun j hj => HD.out j (by rw [HLE.out] at hj; omega)))
          go_wp2
          refine bodyPost_ret (results_tmp rfl _ _ _) rfl ⟨by rw [HT.out]; rfl, HB0.out.trans (HB.out.mono HB0.out.size)⟩
end
section
open Go.RowKit
open SemP
set_option linter.unusedVariables false
set_option linter.unusedSimpArgs false
set_option maxRecDepth 100000

theorem cell1 {w : World} {g : Nat} {x : Value} {T : TypeId} (h : w.heap[g]? = some (.cells #[x] T (0, 0))) : w.cell? ⟨g, 0, none⟩ = some x := by simp [World.cell?, h]
theorem rdr_one {w' : World} {g1 g2 : Nat} {op a b c : Int} {s : ByteArray} {T : TypeId} (h1 : w'.heap[g1]? = some (.cells #[.int .i64 op, .int .i64 a, .int .i64 b, .int .i64 c, .string s] T (0, 0))) (h2 : w'.cell? ⟨g2, 0, none⟩ = some (.slice (some ⟨g1, 0, none⟩) 1 1)) : RdR w' w'.heap.size (some ⟨g2, 0, none⟩) 1 [[⟨op, a, b, c, s⟩]] := by
  refine ⟨rfl, fun j hj => ?_⟩
  have hj0 : j = 0 := by omega
  subst hj0
  refine ⟨g2, 0, some ⟨g1, 0, none⟩, 1, 1, rfl, block_lt_of_cell h2, h2, rfl, fun k hk => ?_⟩
  have hk0 : k = 0 := by omega
  subst hk0
  obtain ⟨x0, x1, x2, x3, x4⟩ := cells5 h1
  exact ⟨g1, 0, rfl, block_lt_of_cell x0, x0, x1, x2, x3, x4⟩
end
end Go.Proofs.YtpnbbbhbbnemlaaGreatDoor
