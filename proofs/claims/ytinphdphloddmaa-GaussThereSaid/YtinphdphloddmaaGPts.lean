/-
  CONTRACTS of Parts and Apart of package gauss, and of math.Abs, over this translation.
-/
import Derived.Test.YtinphdphloddmaaGWay
import Derived.Laws.BitsAllLaws
namespace FlP
open Ieee
theorem nearest_mod (neg : Bool) (a : Nat) (p : Int) : double.nearest neg a p % double.signWeight = double.nearest false a p := by
  have hi := double.infRung_lt
  unfold Format.nearest
  by_cases h : a = 0
  · rw [if_pos h, if_pos h]
    cases neg <;> simp [Format.word]
  · rw [if_neg h, if_neg h]
    simp only
    generalize (max (p + (a.log2 : Int) - (double.fractionBits : Int)) double.leastPlace) = last
    have hm : Min.min ((last - double.leastPlace).toNat * double.binade + Toward.even.cut neg (a <<< (p - last).toNat) (last - p).toNat) double.infRung ≤ double.infRung := Nat.min_le_right _ _
    have hc : Toward.even.cut false (a <<< (p - last).toNat) (last - p).toNat = Toward.even.cut neg (a <<< (p - last).toNat) (last - p).toNat := rfl
    rw [hc]
    cases neg
    · simp only [Format.word, Bool.false_eq_true, if_false]; exact Nat.mod_eq_of_lt (by omega)
    · simp only [Format.word, Bool.false_eq_true, if_false, if_true]; rw [Nat.add_mod_left]; exact Nat.mod_eq_of_lt (by omega)
theorem fl_lt (n : Int) : fl n < 18446744073709551616 := by
  have := double.nearest_lt (decide (n < 0)) n.natAbs 0
  exact this
theorem fl_abs (n : Int) : fl n &&& 9223372036854775807 = fl (n.natAbs : Int) := by
  have h := nearest_mod (decide (n < 0)) n.natAbs 0
  have e : double.signWeight = 2 ^ 63 := by decide
  rw [e] at h
  have h2 : fl n &&& (2 ^ 63 - 1) = fl n % 2 ^ 63 := Nat.and_two_pow_sub_one_eq_mod _ _
  have h3 : fl n % 2 ^ 63 = fl (n.natAbs : Int) := by
    unfold fl
    rw [h]
    have : ¬ ((n.natAbs : Int) < 0) := by omega
    simp only [this, decide_false, Int.natAbs_natCast]
  rw [← h3, ← h2]
end FlP
namespace Go.Proofs.Ytinphdphloddmaa
open Go.RowKit
open FlP GaP
set_option linter.unusedVariables false

theorem conv_fl (n : Int) (h0 : -9007199254740992 < n) (h1 : n < 9007199254740992) (w : World) : (convert 57 3 (.float .f64 (fl n))).run Try.prog w = .ok (.int .i64 n) w :=
  run_convert_float_int w _ _ .f64 .i64 _ _ (by rw [Try.underlying57]; rfl) Try.underlying3 (by
    unfold floatToIntVal
    have e : (FloatKind.f64.decode (fl n)).toInt .zero = some n := toInt_fl .zero (by omega)
    rw [e]
    have e1 : IntKind.i64.min = -9223372036854775808 := by decide
    have e2 : IntKind.i64.max = 9223372036854775807 := by decide
    simp only
    rw [if_pos ⟨by rw [e1]; omega, by rw [e2]; omega⟩])

theorem parts_yes (p : Int × Int) (h : Pl p) (w : World) : Calls Try.prog 39 #[cv p] w fun e w' => e = .returned (.tuple #[.int .i64 p.1, .int .i64 p.2, .int .i64 0]) ∧ w = w' := by
  have HP := Lib.hid h
  obtain ⟨x, y⟩ := p
  obtain ⟨h1, h2, h3, h4⟩ := h
  simp only at h1 h2 h3 h4
  have c1 := conv_fl x (by omega) (by omega)
  have c2 := conv_fl y (by omega) (by omega)
  clear h1 h2 h3 h4
  have hcv : ∀ p, cv p = .complex .f64 (fl p.1) (fl p.2) := fun _ => rfl
  go_enter Try.func39, Try.ntmps39
  go_wp2_with fail
  refine (isPlace_yes (x, y) HP.out _).mono ?_; rintro e w' ⟨rfl, rfl⟩
  go_wp2
  go_ret3
  exact ⟨rfl, rfl⟩

theorem call_bits (b : Nat) (w : World) : (callFunc 84 #[.float .f64 b]).run Try.prog w = .ok (.value (.int .u64 (b : Int))) w := by
  rw [run_callFunc_extern (e := Extern.MathFloatBits.float64bits) Try.func84 (by kernel_rfl) (by kernel_rfl) (by kernel_rfl) (by kernel_rfl)]
  rfl
theorem call_frombits (n : Int) (w : World) : (callFunc 83 #[.int .u64 n]).run Try.prog w = .ok (.value (.float .f64 n.toNat)) w := by
  rw [run_callFunc_extern (e := Extern.MathFloatBits.float64frombits) Try.func83 (by kernel_rfl) (by kernel_rfl) (by kernel_rfl) (by kernel_rfl)]
  rfl
theorem abs_any (n : Int) (w : World) : Calls Try.prog 64 #[.float .f64 (fl n)] w fun e w' => e = .returned (.float .f64 (fl (n.natAbs : Int))) ∧ w = w' := by
  have hb := call_bits (fl n)
  have hf := call_frombits (fl (n.natAbs : Int) : Int)
  have ha : bits .andNot .u64 (fl n : Int) 9223372036854775808 = (fl (n.natAbs : Int) : Int) := by
    have := u64_andNot_nat (fl n) 9223372036854775808 (fl_lt n) (by decide)
    rw [← fl_abs]
    exact this
  rw [Int.toNat_natCast] at hf
  go_enter Try.func64, Try.ntmps64
  go_wp2
  go_ret
  exact ⟨rfl, rfl⟩

/-- How far two places are apart. -/
def GaP.far (p q : Int × Int) : Int := ((p.1 - q.1).natAbs : Int) + ((p.2 - q.2).natAbs : Int)
theorem apart_yes (p q : Int × Int) (hp : Pl p) (hq : Pl q) (w : World) : Calls Try.prog 40 #[cv p, cv q] w fun e w' => e = .returned (.tuple #[.int .i64 (far p q), .int .i64 0]) ∧ w = w' := by
  have HP := Lib.hid hp
  have HQ := Lib.hid hq
  obtain ⟨x, y⟩ := p
  obtain ⟨u, v⟩ := q
  obtain ⟨h1, h2, h3, h4⟩ := hp
  obtain ⟨g1, g2, g3, g4⟩ := hq
  simp only at h1 h2 h3 h4 g1 g2 g3 g4
  have s1 : ∀ w, (binOp .sub 57 (.float .f64 (fl x)) (.float .f64 (fl u))).run Try.prog w = .ok (.float .f64 (fl (x - u))) w := fun w =>
    run_float_arith w .sub _ .f64 _ _ _ (sub_fl (by omega) (by omega) (by omega))
  have s2 : ∀ w, (binOp .sub 57 (.float .f64 (fl y)) (.float .f64 (fl v))).run Try.prog w = .ok (.float .f64 (fl (y - v))) w := fun w =>
    run_float_arith w .sub _ .f64 _ _ _ (sub_fl (by omega) (by omega) (by omega))
  have s3 : ∀ w, (binOp .add 57 (.float .f64 (fl ((x - u).natAbs : Int))) (.float .f64 (fl ((y - v).natAbs : Int)))).run Try.prog w = .ok (.float .f64 (fl (far (x, y) (u, v)))) w := fun w =>
    run_float_arith w .add _ .f64 _ _ _ (add_fl (by omega) (by omega) (by omega))
  have s4 := conv_fl (far (x, y) (u, v)) (by unfold far; simp only; omega) (by unfold far; simp only; omega)
  have hcv : ∀ p, cv p = .complex .f64 (fl p.1) (fl p.2) := fun _ => rfl
  clear h1 h2 h3 h4 g1 g2 g3 g4
  go_enter Try.func40, Try.ntmps40
  go_wp2_with fail
  refine (isPlace_yes (x, y) HP.out _).mono ?_; rintro e w' ⟨rfl, rfl⟩
  go_wp2_with fail
  refine (isPlace_yes (u, v) HQ.out _).mono ?_; rintro e w' ⟨rfl, rfl⟩
  go_wp2_with fail
  refine (abs_any (x - u) _).mono ?_; rintro e w' ⟨rfl, rfl⟩
  go_wp2_with fail
  refine (abs_any (y - v) _).mono ?_; rintro e w' ⟨rfl, rfl⟩
  go_wp2
  go_ret2
  exact ⟨rfl, rfl⟩
end Go.Proofs.Ytinphdphloddmaa
