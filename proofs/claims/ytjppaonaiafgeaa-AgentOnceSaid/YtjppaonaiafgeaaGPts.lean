/-
  CONTRACTS of Parts and Apart of package gauss, and of math.Abs, over this translation.
-/
import Derived.Test.YtjppaonaiafgeaaGWay
import Derived.Laws.BitsAllLaws
namespace FlP
open Ieee
end FlP
namespace Go.Proofs.Ytjppaonaiafgeaa
open Go.RowKit
open FlP GaP
set_option linter.unusedVariables false

theorem conv_fl (n : Int) (h0 : -9007199254740992 < n) (h1 : n < 9007199254740992) (w : World) : (convert 54 3 (.float .f64 (fl n))).run Try.prog w = .ok (.int .i64 n) w :=
  run_convert_float_int w _ _ .f64 .i64 _ _ (by rw [Try.underlying54]; rfl) Try.underlying3 (by
    unfold floatToIntVal
    have e : (FloatKind.f64.decode (fl n)).toInt .zero = some n := toInt_fl .zero (by omega)
    rw [e]
    have e1 : IntKind.i64.min = -9223372036854775808 := by decide
    have e2 : IntKind.i64.max = 9223372036854775807 := by decide
    simp only
    rw [if_pos ⟨by rw [e1]; omega, by rw [e2]; omega⟩])

theorem parts_yes (p : Int × Int) (h : Pl p) (w : World) : Calls Try.prog 11 #[cv p] w fun e w' => e = .returned (.tuple #[.int .i64 p.1, .int .i64 p.2, .int .i64 0]) ∧ w = w' := by
  have HP := Lib.hid h
  obtain ⟨x, y⟩ := p
  obtain ⟨h1, h2, h3, h4⟩ := h
  simp only at h1 h2 h3 h4
  have c1 := conv_fl x (by omega) (by omega)
  have c2 := conv_fl y (by omega) (by omega)
  clear h1 h2 h3 h4
  have hcv : ∀ p, cv p = .complex .f64 (fl p.1) (fl p.2) := fun _ => rfl
  go_enter Try.func11, Try.ntmps11
  go_wp2_with fail
  refine (isPlace_yes (x, y) HP.out _).mono ?_; rintro e w' ⟨rfl, rfl⟩
  go_wp2
  go_ret3
  exact ⟨rfl, rfl⟩

end Go.Proofs.Ytjppaonaiafgeaa
