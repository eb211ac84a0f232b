/-
  CONTRACTS: Parts of what is no place; Stands; Settled.
-/
import Derived.Test.YtebflhlgcpbikaaGreatCFi
import Derived.Test.YtebflhlgcpbikaaGreatCGa
import Derived.Test.YtebflhlgcpbikaaGreatDOrder
namespace Go.Proofs.YtebflhlgcpbikaaGreat
open Go.RowKit
open SemP FlP GaP DiP
set_option linter.unusedVariables false
set_option linter.unusedSimpArgs false
set_option maxRecDepth 10000
/-- Levels of a right catalogue. -/
def LevOK (l : List Sv) : Prop := ∀ s ∈ l, ∀ r ∈ s.2, 0 ≤ r.2.1 ∧ r.2.1 ≤ 1000
def plB (p : Int × Int) : Bool := decide (0 ≤ p.1) && decide (p.1 ≤ 1048576) && (decide (0 ≤ p.2) && decide (p.2 ≤ 1048576))
theorem plB_yes {p : Int × Int} : plB p = true ↔ Pl p := by
  unfold plB Pl
  simp only [Bool.and_eq_true, decide_eq_true_eq]
  exact ⟨fun ⟨⟨a, b⟩, c, d⟩ => ⟨a, b, c, d⟩, fun ⟨a, b, c, d⟩ => ⟨⟨a, b⟩, c, d⟩⟩
abbrev levAt (l : List Sv) (i v : Nat) : Int := (rlAt (svAt l i).2 v).2.1
def standC (l : List Sv) (i : Int) (p : Int × Int) : Bool := plB p && (isR l i p.1 && (decide (-1 ≤ p.2 - 2 * levAt l i.toNat p.1.toNat) && decide (p.2 - 2 * levAt l i.toNat p.1.toNat ≤ 1)))
theorem isPlace_no (p : Int × Int) (h : ¬ Pl p) (h1 : p.1.natAbs < 2 ^ 53) (h2 : p.2.natAbs < 2 ^ 53) (w : World) : Calls Tryz.prog 69 #[cv p] w fun e w' => e = .returned (.bool false) ∧ w = w' := by
  obtain ⟨x, y⟩ := p
  simp only at h1 h2
  have H1 := Lib.hid h1
  have H2 := Lib.hid h2
  by_cases hx : 0 ≤ x ∧ x ≤ 1048576
  · have HX := Lib.hid hx
    have HY : Hid (y < 0 ∨ 1048576 < y) := Lib.hid (by
      apply Classical.byContradiction
      intro hc
      exact h ⟨hx.1, hx.2, by show 0 ≤ y; omega, by show y ≤ _; omega⟩)
    clear h h1 h2 hx
    unfold cv
    go_enter Tryz.func69, Tryz.ntmps69
    go_wp2_with fail
    refine (whole_yes x 0 1048576 _ _ H1.out (by decide) (by decide) fl0 flP HX.out.1 HX.out.2 _).mono ?_; rintro e w' ⟨rfl, rfl⟩
    go_wp2_with fail
    refine (whole_no y 0 1048576 _ _ H2.out (by decide) (by decide) fl0 flP HY.out _).mono ?_; rintro e w' ⟨rfl, rfl⟩
    go_wp2
    go_ret
    exact ⟨rfl, rfl⟩
  · have HX : Hid (x < 0 ∨ 1048576 < x) := Lib.hid (by omega)
    clear h h1 h2 hx
    unfold cv
    go_enter Tryz.func69, Tryz.ntmps69
    go_wp2_with fail
    refine (whole_no x 0 1048576 _ _ H1.out (by decide) (by decide) fl0 flP HX.out _).mono ?_; rintro e w' ⟨rfl, rfl⟩
    go_wp2
    go_ret
    exact ⟨rfl, rfl⟩
theorem parts_no (p : Int × Int) (h : ¬ Pl p) (h1 : p.1.natAbs < 2 ^ 53) (h2 : p.2.natAbs < 2 ^ 53) (w : World) : Calls Tryz.prog 45 #[cv p] w fun e w' => e = .returned (.tuple #[.int .i64 0, .int .i64 0, .int .i64 12]) ∧ w = w' := by
  have HP := Lib.hid (isPlace_no p h h1 h2)
  clear h h1 h2
  have hcv : ∀ p, cv p = .complex .f64 (fl p.1) (fl p.2) := fun _ => rfl
  go_enter Tryz.func45, Tryz.ntmps45
  go_wp2_with fail
  refine (HP.out _).mono ?_; rintro e w' ⟨rfl, rfl⟩
  go_wp2
  go_ret3
  exact ⟨rfl, rfl⟩
set_option maxHeartbeats 8000000 in
theorem stands_any {w : World} {B n c : Nat} {i : Int} {p : Int × Int} {A : Option Addr} {l : List Sv} (h : CatAt w B A n c l) (hlv : LevOK l) (h1 : p.1.natAbs < 2 ^ 53) (h2 : p.2.natAbs < 2 ^ 53) :
    Calls Tryz.prog 24 #[.agg #[.slice A n c], .int .i64 i, cv p] w fun e w' => e = .returned (.bool (standC l i p)) ∧ Below w.heap.size w w' := by
  have HN : Hid (l.length = n) := Lib.hid h.rd.1
  have hcv : ∀ p, cv p = .complex .f64 (fl p.1) (fl p.2) := fun _ => rfl
  obtain ⟨W, HW⟩ : ∃ W, Hid (W = w.alloc (.cells #[.slice A n c] 24)) := ⟨_, Lib.hid rfl⟩
  have hbl : Below w.heap.size w W := by rw [HW.out]; exact (Below.refl _ w).alloc (Nat.le_refl _) _
  have H0 : Hid (W.heap[w.heap.size]? = some (.cells #[.slice A n c] 24 (0, 0))) := Lib.hid (by rw [HW.out]; exact heap_new w _)
  have HA := Lib.hid (h.below hbl)
  have HBL := Lib.hid hbl
  have hsz := hbl.size
  have HLV := Lib.hid hlv
  clear h hbl hlv
  obtain ⟨x0, _⟩ := row1f H0.out
  go_enter Tryz.func24, Tryz.ntmps24
  go_upto_region 1 with fail
  change Code.wp _ _ _ _ (w.alloc (.cells #[.slice A n c] 24))
  rw [← HW.out]
  by_cases hp : Pl p
  · have HPT := Lib.hid (parts_yes p hp)
    have HPB : Hid (plB p = true) := Lib.hid (plB_yes.2 hp)
    have HPL := Lib.hid hp
    obtain ⟨pv, pf⟩ := p
    clear hp h1 h2
    go_wp2_with fail
    refine (HPT.out _).mono ?_
    rintro e w' ⟨rfl, hw'⟩
    subst hw'
    have HI := Lib.hid (isRelease_any (i := i) (v := pv) HA.out)
    go_wp2_with fail
    refine HI.out.mono ?_
    rintro e w1 ⟨rfl, hb⟩
    have HB1 : Hid (Below w.heap.size w w1) := Lib.hid (HBL.out.trans (hb.mono hsz))
    have HA1 := Lib.hid (HA.out.below hb)
    have K1 : Hid (w1.heap[w.heap.size]? = _) := Lib.hid ((hb.block w.heap.size (heapE_lt H0.out)).trans H0.out)
    clear hb x0 HI HPT
    cases hq : isR l i pv with
    | false =>
      have HV : Hid (standC l i (pv, pf) = false) := Lib.hid (by unfold standC; simp only; rw [hq]; simp)
      clear hq
      go_wp2_with fail
      refine bodyPost_ret (results_tmp rfl _ _ _) rfl ⟨?_, HB1.out⟩
      exact congrArg (fun b => Ending.returned (.bool b)) HV.out.symm
    | true =>
      obtain ⟨a, b, rfl, rfl, ha, hbb⟩ := isR_nat hq
      have HAN : Hid (a < n) := Lib.hid (by rw [← HN.out]; exact ha)
      have han : (a : Int) < (n : Int) := by have := HAN.out; omega
      obtain ⟨b1, o1, Aj, nj, cj, hA, hb1, k0, k1, hcap, hrr⟩ := sv_at HA1.out.rd HAN.out
      subst hA
      have hbn : b < nj := by rw [← hrr.1]; exact hbb
      have hbI : (b : Int) < (nj : Int) := by omega
      obtain ⟨b2, o2, A3, n3, c3, rfl, hb2, q0, q1, q2, q3, q4, q5, _, _⟩ := rl_at hrr hbn
      have HLL := HLV.out _ (svAt_mem ha) _ (rlAt_mem hbb)
      obtain ⟨lv, HLVL⟩ : ∃ lv, Hid (levAt l a b = lv) := ⟨_, Lib.hid rfl⟩
      have q4' : w1.cell? ⟨b2, o2 + b * 6 + 4, none⟩ = some (.int .i64 lv) := by rw [← HLVL.out]; exact q4
      have HLB : Hid (0 ≤ lv ∧ lv ≤ 1000) := Lib.hid (by rw [← HLVL.out]; exact HLL)
      have HV1 : Hid (standC l (a : Int) ((b : Int), pf) = (decide (-1 ≤ pf - 2 * lv) && decide (pf - 2 * lv ≤ 1))) := Lib.hid (by
        unfold standC
        rw [HPB.out, hq]
        show (true && (true && (decide (-1 ≤ pf - 2 * levAt l a b) && decide (pf - 2 * levAt l a b ≤ 1)))) = _
        rw [HLVL.out]; rfl)
      have hpf : 0 ≤ pf ∧ pf ≤ 1048576 := ⟨HPL.out.2.2.1, HPL.out.2.2.2⟩
      have hm1 : IntKind.i64.wrap (2 * lv) = 2 * lv := IntWalk.i64_in _ (by have := HLB.out; omega)
      have hm2 : IntKind.i64.wrap (pf - 2 * lv) = pf - 2 * lv := IntWalk.i64_in _ (by have := HLB.out; omega)
      obtain ⟨x0, _⟩ := row1f K1.out
      clear hq ha hbb hrr k0 q0 q1 q2 q3 q4 q5 HLL
      obtain ⟨d, hd⟩ : ∃ d, pf - 2 * lv = d := ⟨_, rfl⟩
      rw [hd] at hm2
      have HD := Lib.hid hd
      by_cases e1 : -1 ≤ d
      · have d1 : decide (-1 ≤ d) = true := decide_eq_true e1
        have HV : Hid (standC l (a : Int) ((b : Int), pf) = decide (d ≤ 1)) := Lib.hid (by rw [HV1.out, HD.out, d1]; rfl)
        go_wp2_with fail
        refine bodyPost_ret (results_tmp rfl _ _ _) rfl ⟨?_, HB1.out⟩
        exact congrArg (fun b => Ending.returned (.bool b)) HV.out.symm
      · have d1 : decide (-1 ≤ d) = false := decide_eq_false e1
        have HV : Hid (standC l (a : Int) ((b : Int), pf) = false) := Lib.hid (by rw [HV1.out, HD.out, d1]; rfl)
        go_wp2_with fail
        refine bodyPost_ret (results_tmp rfl _ _ _) rfl ⟨?_, HB1.out⟩
        exact congrArg (fun b => Ending.returned (.bool b)) HV.out.symm
  · have HPT := Lib.hid (parts_no p hp h1 h2)
    have HV : Hid (standC l i p = false) := Lib.hid (by
      unfold standC
      rw [show plB p = false by cases h : plB p with | false => rfl | true => exact absurd (plB_yes.1 h) hp]; rfl)
    clear hp h1 h2
    go_wp2_with fail
    refine (HPT.out _).mono ?_
    rintro e w' ⟨rfl, hw'⟩
    subst hw'
    go_wp2_with fail
    refine bodyPost_ret (results_tmp rfl _ _ _) rfl ⟨?_, HBL.out⟩
    exact congrArg (fun b => Ending.returned (.bool b)) HV.out.symm
end Go.Proofs.YtebflhlgcpbikaaGreat
