/-
  CONTRACTS: the document's Digits; strconv.Itoa of a number that isn't less than 0; the table that it reads.
-/
import Derived.Test.YtpnbbbhbbnemlaaGreatDoorRMd
import Derived.Lib.LaidTab
import Derived.Lib.SmallJoins
namespace Go.Proofs.YtpnbbbhbbnemlaaGreatDoor
open Go.RowKit
open SemP
set_option linter.unusedVariables false
set_option linter.unusedSimpArgs false
set_option maxRecDepth 100000

/-- A number's digits as a value. -/
abbrev digS (n : Nat) : ByteArray := mk (Lib.decDigits n)
theorem digS_size {n : Nat} (h : n ≤ 999999) : (digS n).size ≤ 6 := by rw [mk_size]; exact dec_len n h
theorem digS_small {n : Nat} (h : n < 10) : digS n = strOfNums [48 + (n : Int)] := by
  rw [← mk_bs (strOfNums [48 + (n : Int)]), show (48 + (n : Int)) = ((48 + n : Nat) : Int) by omega, bs_nums1 _ (by omega), ← dec_small h]
theorem digS_step {n : Nat} (h : 10 ≤ n) : digS n = digS (n / 10) ++ digS (n % 10) := by
  rw [← mk_bs (digS (n / 10) ++ digS (n % 10)), bs_app]
  show mk (Lib.decDigits n) = mk (Lib.decDigits (n / 10) ++ Lib.decDigits (n % 10))
  rw [dec_step h, dec_small (show n % 10 < 10 by omega)]
set_option maxHeartbeats 4000000 in
theorem Digits_any (n : Nat) : ∀ (w : World), n ≤ 999999 →
    Calls Tryz.prog 53 #[.int .i64 (n : Int)] w fun e w' => e = .returned (.string (digS n)) ∧ Below w.heap.size w w' := by
  induction n using Nat.strongRecOn with
  | _ n ih =>
    intro w hn
    by_cases h : n < 10
    · have d : decide ((n : Int) < 10) = true := decide_eq_true (by omega)
      have hconv : (convert 61 9 (.slice (some ⟨w.heap.size, 0, none⟩) 1 1)).run Tryz.prog (w.alloc (.cells #[.int .u8 (48 + (n : Int))] 5)) = .ok (.string (strOfNums [48 + (n : Int)])) _ := conv1 _ _ _ (by simp)
      have HB : Hid (∀ o : Obj, Below w.heap.size w (w.alloc o)) := Lib.hid (fun o => (Below.refl _ w).alloc (Nat.le_refl _) o)
      have HV := Lib.hid (digS_small h)
      clear ih
      go_enter Tryz.func53, Tryz.ntmps53
      go_wp2
      refine bodyPost_ret (results_tmp rfl _ _ _) rfl ⟨by rw [HV.out]; rfl, HB.out _⟩
    · have d : decide ((n : Int) < 10) = false := decide_eq_false (by omega)
      have hq : IntKind.i64.wrap ((n : Int) / 10) = ((n / 10 : Nat) : Int) := by rw [IntWalk.i64_in _ (by omega)]; omega
      have HQ : Hid ((n : Int) / 10 = ((n / 10 : Nat) : Int)) := Lib.hid (by omega)
      have HM : Hid ((n : Int) % 10 = ((n % 10 : Nat) : Int)) := Lib.hid (by omega)
      have HV := Lib.hid (digS_step (show 10 ≤ n by omega))
      have H1 := Lib.hid (ih (n / 10) (by omega) w (by omega))
      have H2 := Lib.hid (fun W => ih (n % 10) (by omega) W (by omega))
      have hcat := fun (w : World) => run_string_add_sum (P := Tryz.prog) (w := w) (digS (n / 10)) (digS (n % 10)) (by have := digS_size (show n / 10 ≤ 999999 by omega); have := digS_size (show n % 10 ≤ 999999 by omega); omega)
      clear ih
      go_enter Tryz.func53, Tryz.ntmps53
      go_wp2_with fail
      refine H1.out.mono ?_
      rintro e w1 ⟨rfl, hb1⟩
      have HB1 := Lib.hid hb1
      clear hb1
      go_wp2_with fail
      try rw [HM.out]
      refine (H2.out w1).mono ?_
      rintro e w2 ⟨rfl, hb2⟩
      have HB2 : Hid (Below w.heap.size w w2) := Lib.hid (HB1.out.trans (hb2.mono HB1.out.size))
      clear hb2
      go_wp2
      refine bodyPost_ret (results_tmp rfl _ _ _) rfl ⟨by rw [HV.out]; rfl, HB2.out⟩

/-- The table that strconv.Itoa reads. -/
abbrev PowAt (w : World) : Prop := Lib.TabIs Tryz.prog w "internal/strconv.uint64pow10" .u64 Lib.pow10Tab
theorem PowAt.below {w w' : World} (h : PowAt w) (hb : Below w.heap.size w w') : PowAt w' := Go.Joins.tab_stays (g := 2) (by kernel_rfl) h hb (Nat.le_refl _)
theorem itoa_any (n : Int) (w : World) (hn : 0 ≤ n ∧ n ≤ 999999) (hp : PowAt w) :
    Calls Tryz.prog 47 #[.int .i64 n] w fun e w' => e = .returned (.string (digS n.toNat)) ∧ Below w.heap.size w w' := by
  refine (Tryz.strconv_Itoa n (by omega) (by omega) w hp).mono ?_
  rintro e w' ⟨he, k, os, hw⟩
  refine ⟨?_, ?_⟩
  · rw [he]
    show Ending.returned (.string (mk (Lib.itoa n))) = _
    unfold Lib.itoa
    rw [if_neg (by omega)]
  · rw [hw]
    refine ⟨rfl, rfl, rfl, ?_, ?_⟩
    · show w.heap.size ≤ (w.heap ++ os).size
      simp
    · intro j hj
      show (w.heap ++ os)[j]? = w.heap[j]?
      rw [Array.getElem?_append_left hj]
end Go.Proofs.YtpnbbbhbbnemlaaGreatDoor
