/-
  THE WALKS of the statements' anchor and of GaussSteps.
-/
import Derived.Test.YtinphdphloddmaaGWay
namespace Go.Proofs.Ytinphdphloddmaa
open Go.RowKit
open FlP GaP
set_option linter.unusedVariables false

/-- The anchor's steps. -/
def ancS : List (Int × Int) := [(0, 1), (-1, 0), (0, 1)]

theorem rdC_lit (w : World) (zs : List (Int × Int)) (hl : zs.length ≤ 1099511627776) :
    RdC (w.alloc (.cells (zs.map cv).toArray 54)) (w.heap.size + 1) (some ⟨w.heap.size, 0, none⟩) zs.length zs := by
  have := (OwnC.lit w w.heap.size zs (Nat.le_refl _) hl).rd
  have e : (w.alloc (.cells (zs.map cv).toArray 54)).heap.size = w.heap.size + 1 := by simp
  rw [e] at this
  exact this

set_option maxHeartbeats 1000000 in
theorem anchor_any (w : World) : Calls Try.prog 35 #[] w fun e w' => e = .returned (.bool true) ∧ Below w.heap.size w w' := by
  have hcv : ∀ p, cv p = .complex .f64 (fl p.1) (fl p.2) := fun _ => rfl
  have o1 : FloatKind.f64.format.order (fl 2) 4611686018427387904 = some .eq := by decide +kernel
  have o2 : FloatKind.f64.format.order (fl 3) 4613937818241073152 = some .eq := by decide +kernel
  have o3 : FloatKind.f64.format.order (fl 1) 4607182418800017408 = some .eq := by decide +kernel
  have o4 : FloatKind.f64.format.order (fl 4) 4616189618054758400 = some .eq := by decide +kernel
  have o5 : FloatKind.f64.format.order (fl 5) 4617315517961601024 = some .eq := by decide +kernel
  go_enter Try.func35, Try.ntmps35
  go_wp2_with fail
  refine (at_yes 2 3 _ (by unfold Pl; decide)).mono ?_
  rintro e w' ⟨rfl, rfl⟩
  go_wp2_with fail
  have hz := rdC_lit w ancS (by decide)
  have e0 : (ancS.map cv).toArray = #[.complex .f64 0 4607182418800017408, .complex .f64 13830554455654793216 0, .complex .f64 0 4607182418800017408] := by
    unfold ancS cv
    simp [fl0, fl1, flm1]
  rw [e0] at hz
  refine (walk_yes (B := w.heap.size + 1) (n := 3) (zs := ancS) (2, 3) hz (by simp) (by omega) (by
    intro k hk
    match k, hk with
    | 0, _ => unfold St; decide
    | 1, _ => unfold St; decide
    | 2, _ => unfold St; decide) (by
    intro k hk
    match k, hk with
    | 0, _ => unfold Pl; decide
    | 1, _ => unfold Pl; decide
    | 2, _ => unfold Pl; decide
    | 3, _ => unfold Pl; decide)).mono ?_
  rintro e w1 ⟨A, c, rfl, ho, hb⟩
  have HB := Lib.hid (((Below.refl _ _).alloc (Nat.le_refl _) _).trans (hb.mono (by simp)))
  obtain ⟨b, off, rfl, hbb, hc⟩ := ho.rd.2 (by omega)
  have c2 := hc 2 (by omega)
  have c3 := hc 3 (by omega)
  have e2 : at_ (way (2, 3) ancS 3) 2 = (1, 4) := by decide
  have e3 : at_ (way (2, 3) ancS 3) 3 = (1, 5) := by decide
  rw [e2] at c2
  rw [e3] at c3
  unfold cv at c2 c3
  clear ho hb hc hz e0 e2 e3
  go_wp2
  go_ret
  exact ⟨rfl, HB.out⟩

theorem order_00 : FloatKind.f64.format.order 0 0 = some .eq := by decide +kernel
theorem order_11 : FloatKind.f64.format.order 4607182418800017408 4607182418800017408 = some .eq := by decide +kernel

set_option maxHeartbeats 1000000 in
theorem law_gaussSteps (k v t : Int) (w : World) (hk : (Lit.int .i64 k).wf = true) (hv : (Lit.int .i64 v).wf = true) (ht : (Lit.int .i64 t).wf = true) :
    Calls Try.prog 11 #[.int .i64 k, .int .i64 v, .int .i64 t] w fun e w' => e = .returned (.bool true) ∧ Below w.heap.size w w' := by
  clear hk hv ht
  have hcv : ∀ p, cv p = .complex .f64 (fl p.1) (fl p.2) := fun _ => rfl
  have f0 := fl0
  have f1 := fl1
  have q0 := order_00
  have q1 := order_11
  by_cases h13 : k = 1 ∨ k = 3
  · rcases h13 with rfl | rfl
    all_goals
      go_enter Try.func11, Try.ntmps11
      go_wp2_with fail
      refine (anchor_any _).mono ?_
      rintro e w1 ⟨rfl, hb⟩
      have HB := Lib.hid hb
      clear hb
      go_wp2_with fail
      refine (step_one _ _ _ _ (by decide)).mono ?_
      rintro e w' ⟨rfl, rfl⟩
      go_wp2
      go_ret
      exact ⟨rfl, HB.out⟩
  · have h1 : k ≠ 1 := fun e => h13 (.inl e)
    have h3 : k ≠ 3 := fun e => h13 (.inr e)
    clear h13
    by_cases h2 : k = 2
    · subst h2
      by_cases hp : v < 0 ∨ t < 0 ∨ 1048576 < v ∨ 1048576 < t
      · have HP := Lib.hid hp
        clear h1 h3
        go_enter Try.func11, Try.ntmps11
        go_wp2_with fail
        refine (anchor_any _).mono ?_
        rintro e w1 ⟨rfl, hb⟩
        have HB := Lib.hid hb
        clear hb hp
        go_wp2_with fail
        refine (step_big _ _ _ HP.out).mono ?_
        rintro e w' ⟨rfl, rfl⟩
        by_cases c1 : v < 0
        · go_wp2
          go_ret
          exact ⟨rfl, HB.out⟩
        · by_cases c2 : t < 0
          · go_wp2
            go_ret
            exact ⟨rfl, HB.out⟩
          · by_cases c3 : 1048576 < v
            · go_wp2
              go_ret
              exact ⟨rfl, HB.out⟩
            · have c4 : 1048576 < t := by have := HP.out; omega
              go_wp2
              go_ret
              exact ⟨rfl, HB.out⟩
      · have b1 : 0 ≤ v := by omega
        have b2 : 0 ≤ t := by omega
        have b3 : v ≤ 1048576 := by omega
        have b4 : t ≤ 1048576 := by omega
        have qd : FloatKind.f64.format.order (fl (t - v)) (fl (t - v)) = some .eq := ord_eq (by omega)
        have qe : FloatKind.f64.format.order (fl (t - v)) (floatOfInt .f64 (t - v)) = some .eq := qd
        clear h1 h3 hp
        go_enter Try.func11, Try.ntmps11
        go_wp2_with fail
        refine (anchor_any _).mono ?_
        rintro e w1 ⟨rfl, hb⟩
        have HB := Lib.hid hb
        clear hb
        go_wp2_with fail
        refine (step_deploy v t _ b1 b3 b2 b4).mono ?_
        rintro e w' ⟨rfl, rfl⟩
        go_wp2
        go_ret
        exact ⟨rfl, HB.out⟩
    · have hb1 : (k == 1) = false := by simpa using h1
      have hb2 : (k == 2) = false := by simpa using h2
      have hb3 : (k == 3) = false := by simpa using h3
      have hb4 : (k != 2) = true := by simpa using h2
      go_enter Try.func11, Try.ntmps11
      go_wp2_with fail
      refine (anchor_any _).mono ?_
      rintro e w1 ⟨rfl, hb⟩
      have HB := Lib.hid hb
      clear hb
      go_wp2_with fail
      refine (step_none k v t _ h1 h2 h3).mono ?_
      rintro e w' ⟨rfl, rfl⟩
      go_wp2
      go_ret
      exact ⟨rfl, HB.out⟩
end Go.Proofs.Ytinphdphloddmaa
