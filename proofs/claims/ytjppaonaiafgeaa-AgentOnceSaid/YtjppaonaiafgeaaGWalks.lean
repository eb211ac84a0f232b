/-
  CONTRACTS of the functions of package gauss that only compute, over this translation.
-/
import Derived.Test.YtjppaonaiafgeaaGMem
namespace Go.Proofs.Ytjppaonaiafgeaa
open Go.RowKit
open FlP
set_option linter.unusedVariables false

theorem ret_boolG {a b : Bool} (h : a = b) : Ending.returned (.bool a) = .returned (.bool b) := by rw [h]

theorem ord_lt {a b : Int} (ha : a.natAbs < 2 ^ 53) (hb : b.natAbs < 2 ^ 53) (h : a < b) : FloatKind.f64.format.order (fl a) (fl b) = some .lt := by
  show Ieee.double.order _ _ = _
  rw [order_fl ha hb, Int.compare_eq_lt.2 h]
theorem ord_gt {a b : Int} (ha : a.natAbs < 2 ^ 53) (hb : b.natAbs < 2 ^ 53) (h : b < a) : FloatKind.f64.format.order (fl a) (fl b) = some .gt := by
  show Ieee.double.order _ _ = _
  rw [order_fl ha hb, Int.compare_eq_gt.2 h]
theorem ord_eq {a : Int} (ha : a.natAbs < 2 ^ 53) : FloatKind.f64.format.order (fl a) (fl a) = some .eq := by
  show Ieee.double.order _ _ = _
  rw [order_fl ha ha, Int.compare_eq_eq.2 rfl]

theorem fl0 : fl 0 = 0 := by decide +kernel
theorem fl1 : fl 1 = 4607182418800017408 := by decide +kernel
theorem flm1 : fl (-1) = 13830554455654793216 := by decide +kernel
theorem flP : fl 1048576 = 4697254411347427328 := by decide +kernel
theorem flM : fl (-1048576) = 13920626448202203136 := by decide +kernel

theorem toIntegral_num (nm : String) (way : Ieee.Toward) (x : Nat) {s : Bool} {m : Nat} {p : Int} (e : FloatKind.f64.decode x = .number s m p) :
    Extern.MathFloor.toIntegral nm way #[.float .f64 x] = pure (.float .f64 (FloatKind.f64.encode ((Ieee.Datum.number s m p).integral way))) := by
  have h := show Extern.MathFloor.toIntegral nm way #[.float .f64 x] = Extern.MathFloor.toIntegral.match_1 (fun _ => Sem Value) (FloatKind.f64.decode x) _ _ from rfl
  rw [h, e]
theorem call_trunc (n : Int) (h : n.natAbs < 2 ^ 53) (w : World) : (callFunc 28 #[.float .f64 (fl n)]).run Try.prog w = .ok (.value (.float .f64 (fl n))) w := by
  rw [run_callFunc_extern (e := Extern.MathFloor.toIntegral "math.archTrunc" .zero) Try.func28 (by kernel_rfl) (by kernel_rfl) (by kernel_rfl) (by kernel_rfl)]
  obtain ⟨s, m, p, e⟩ := isNum_fl h
  have e' : FloatKind.f64.decode (fl n) = .number s m p := e
  have t := trunc_fl h
  rw [e] at t
  have t' : FloatKind.f64.encode ((Ieee.Datum.number s m p).integral .zero) = fl n := t
  rw [toIntegral_num _ _ _ e', t']
  rfl

theorem trunc_any (n : Int) (h : n.natAbs < 2 ^ 53) (w : World) : Calls Try.prog 26 #[.float .f64 (fl n)] w fun e w' => e = .returned (.float .f64 (fl n)) ∧ w = w' := by
  have hc := call_trunc n h
  go_enter Try.func26, Try.ntmps26
  go_wp2
  go_ret
  exact ⟨rfl, rfl⟩

/-- A whole number between two others. -/
theorem whole_yes (n a b : Int) (la lb : Nat) (hn : n.natAbs < 2 ^ 53) (ha : a.natAbs < 2 ^ 53) (hb : b.natAbs < 2 ^ 53) (ea : fl a = la) (eb : fl b = lb) (h0 : a ≤ n) (h1 : n ≤ b) (w : World) :
    Calls Try.prog 23 #[.float .f64 (fl n), .float .f64 la, .float .f64 lb] w fun e w' => e = .returned (.bool true) ∧ w = w' := by
  have hnn := ord_eq hn
  have h2 : FloatKind.f64.format.order (fl n) la = some .gt ∨ FloatKind.f64.format.order (fl n) la = some .eq := by
    rw [← ea]
    by_cases h : a = n
    · subst h; exact .inr (ord_eq ha)
    · exact .inl (ord_gt hn ha (by omega))
  have h3 : FloatKind.f64.format.order (fl n) lb = some .lt ∨ FloatKind.f64.format.order (fl n) lb = some .eq := by
    rw [← eb]
    by_cases h : n = b
    · subst h; exact .inr (ord_eq hb)
    · exact .inl (ord_lt hn hb (by omega))
  have HN := Lib.hid hn
  clear ea eb h0 h1 ha hb hn
  rcases h2 with h2 | h2 <;> rcases h3 with h3 | h3
  all_goals
    go_enter Try.func23, Try.ntmps23
    go_wp2_with (go_at_call 26; refine (trunc_any n HN.out _).mono ?_; rintro e w' ⟨rfl, rfl⟩)
    go_ret
    exact ⟨rfl, rfl⟩
theorem whole_no (n a b : Int) (la lb : Nat) (hn : n.natAbs < 2 ^ 53) (ha : a.natAbs < 2 ^ 53) (hb : b.natAbs < 2 ^ 53) (ea : fl a = la) (eb : fl b = lb) (h : n < a ∨ b < n) (w : World) :
    Calls Try.prog 23 #[.float .f64 (fl n), .float .f64 la, .float .f64 lb] w fun e w' => e = .returned (.bool false) ∧ w = w' := by
  by_cases hlt : n < a
  · have h2 : FloatKind.f64.format.order (fl n) la = some .lt := by rw [← ea]; exact ord_lt hn ha hlt
    clear ea eb h ha hb hn hlt
    go_enter Try.func23, Try.ntmps23
    go_wp2
    go_ret
    exact ⟨rfl, rfl⟩
  · have h3 : FloatKind.f64.format.order (fl n) lb = some .gt := by rw [← eb]; exact ord_gt hn hb (by omega)
    have h2 : FloatKind.f64.format.order (fl n) la = some .gt ∨ FloatKind.f64.format.order (fl n) la = some .eq := by
      rw [← ea]
      by_cases h : a = n
      · subst h; exact .inr (ord_eq ha)
      · exact .inl (ord_gt hn ha (by omega))
    clear ea eb h ha hb hn hlt
    rcases h2 with h2 | h2
    all_goals
      go_enter Try.func23, Try.ntmps23
      go_wp2
      go_ret
      exact ⟨rfl, rfl⟩

/-- A place: both parts from 0 to the greatest. -/
def Pl (p : Int × Int) : Prop := 0 ≤ p.1 ∧ p.1 ≤ 1048576 ∧ 0 ≤ p.2 ∧ p.2 ≤ 1048576
/-- A step. -/
def St (p : Int × Int) : Prop := -1048576 ≤ p.1 ∧ p.1 ≤ 1048576 ∧ -1048576 ≤ p.2 ∧ p.2 ≤ 1048576

theorem isPlace_yes (p : Int × Int) (h : Pl p) (w : World) : Calls Try.prog 17 #[cv p] w fun e w' => e = .returned (.bool true) ∧ w = w' := by
  obtain ⟨x, y⟩ := p
  obtain ⟨h1, h2, h3, h4⟩ := h
  simp only at h1 h2 h3 h4
  have H1 := Lib.hid h1
  have H2 := Lib.hid h2
  have H3 := Lib.hid h3
  have H4 := Lib.hid h4
  clear h1 h2 h3 h4
  unfold cv
  go_enter Try.func17, Try.ntmps17
  go_wp2_with fail
  refine (whole_yes x 0 1048576 _ _ (by have := H1.out; have := H2.out; omega) (by decide) (by decide) fl0 flP H1.out H2.out _).mono ?_; rintro e w' ⟨rfl, rfl⟩
  go_wp2_with fail
  refine (whole_yes y 0 1048576 _ _ (by have := H3.out; have := H4.out; omega) (by decide) (by decide) fl0 flP H3.out H4.out _).mono ?_; rintro e w' ⟨rfl, rfl⟩
  go_wp2
  go_ret
  exact ⟨rfl, rfl⟩
theorem isStep_yes (p : Int × Int) (h : St p) (w : World) : Calls Try.prog 20 #[cv p] w fun e w' => e = .returned (.bool true) ∧ w = w' := by
  obtain ⟨x, y⟩ := p
  obtain ⟨h1, h2, h3, h4⟩ := h
  simp only at h1 h2 h3 h4
  have H1 := Lib.hid h1
  have H2 := Lib.hid h2
  have H3 := Lib.hid h3
  have H4 := Lib.hid h4
  clear h1 h2 h3 h4
  unfold cv
  go_enter Try.func20, Try.ntmps20
  go_wp2_with fail
  refine (whole_yes x (-1048576) 1048576 _ _ (by have := H1.out; have := H2.out; omega) (by decide) (by decide) flM flP H1.out H2.out _).mono ?_; rintro e w' ⟨rfl, rfl⟩
  go_wp2_with fail
  refine (whole_yes y (-1048576) 1048576 _ _ (by have := H3.out; have := H4.out; omega) (by decide) (by decide) flM flP H3.out H4.out _).mono ?_; rintro e w' ⟨rfl, rfl⟩
  go_wp2
  go_ret
  exact ⟨rfl, rfl⟩

theorem rightPart_yes (n : Int) (w : World) (h0 : 0 ≤ n) (h1 : n ≤ 1048576) : Calls Try.prog 18 #[.int .i64 n] w fun e w' => e = .returned (.bool true) ∧ w = w' := by
  go_enter Try.func18, Try.ntmps18
  go_wp2
  go_ret
  exact ⟨rfl, rfl⟩
theorem rightPart_no (n : Int) (w : World) (h : n < 0 ∨ 1048576 < n) : Calls Try.prog 18 #[.int .i64 n] w fun e w' => e = .returned (.bool false) ∧ w = w' := by
  rcases h with h | h
  · go_enter Try.func18, Try.ntmps18
    go_wp2
    go_ret
    exact ⟨rfl, rfl⟩
  · have h0 : 0 ≤ n := by omega
    have hd : decide (n ≤ 1048576) = false := by simp; omega
    go_enter Try.func18, Try.ntmps18
    go_wp2
    go_ret
    exact ⟨rfl, rfl⟩
theorem at_yes (v f : Int) (w : World) (h : Pl (v, f)) : Calls Try.prog 12 #[.int .i64 v, .int .i64 f] w fun e w' => e = .returned (.tuple #[cv (v, f), .int .i64 0]) ∧ w = w' := by
  obtain ⟨h1, h2, h3, h4⟩ := h
  simp only at h1 h2 h3 h4
  go_enter Try.func12, Try.ntmps12
  go_wp2_with (go_at_call 18; refine (rightPart_yes _ _ (by omega) (by omega)).mono ?_; rintro e w' ⟨rfl, rfl⟩)
  go_ret2
  exact ⟨rfl, rfl⟩
theorem unsigned_any (p : Int × Int) (h1 : p.1.natAbs < 2 ^ 53) (h2 : p.2.natAbs < 2 ^ 53) (w : World) : Calls Try.prog 27 #[cv p] w fun e w' => e = .returned (cv p) ∧ w = w' := by
  obtain ⟨x, y⟩ := p
  have e1 : ∀ w, (binOp .add 54 (.float .f64 (fl x)) (.float .f64 0)).run Try.prog w = .ok (.float .f64 (fl x)) w := fun w =>
    run_float_arith w .add _ .f64 _ _ _ (by show Ieee.double.add _ _ = _; rw [← fl0, add_fl h1 (by decide) (by simpa using h1)]; simp)
  have e2 : ∀ w, (binOp .add 54 (.float .f64 (fl y)) (.float .f64 0)).run Try.prog w = .ok (.float .f64 (fl y)) w := fun w =>
    run_float_arith w .add _ .f64 _ _ _ (by show Ieee.double.add _ _ = _; rw [← fl0, add_fl h2 (by decide) (by simpa using h2)]; simp)
  clear h1 h2
  unfold cv
  go_enter Try.func27, Try.ntmps27
  go_wp2
  go_ret
  exact ⟨rfl, rfl⟩
end Go.Proofs.Ytjppaonaiafgeaa
