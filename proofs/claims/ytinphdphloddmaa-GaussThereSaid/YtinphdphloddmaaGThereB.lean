/-
  THE WALK of the statement GaussThere, where nothing is let go.
-/
import Derived.Test.YtinphdphloddmaaGThere
namespace Go.Proofs.Ytinphdphloddmaa
open Go.RowKit
open FlP GaP
set_option linter.unusedVariables false

set_option maxRecDepth 100000 in
set_option maxHeartbeats 1000000 in
theorem law_gaussThere_good (f t p : Int) (u : Nat) (w : World) (f0 : 0 ≤ f) (t0 : 0 ≤ t) (p0 : 0 ≤ p) (f1 : f ≤ 524288) (t1 : t ≤ 524288) (p1 : p ≤ 524288) (u1 : u ≤ 50) :
    Calls Try.prog 12 #[.int .i64 f, .int .i64 t, .int .i64 p, .int .i64 (u : Int)] w fun e w' => e = .returned (.bool true) ∧ Below w.heap.size w w' := by
  have hcv : ∀ p, cv p = .complex .f64 (fl p.1) (fl p.2) := fun _ => rfl
  go_enter Try.func12, Try.ntmps12
  go_wp2_with fail
  refine (anchor_any _).mono ?_
  rintro e w1 ⟨rfl, hb⟩
  have HB := Lib.hid hb
  clear hb
  go_upto_region 3 with fail
  go_cut [50] (fun v w' => v = .bool false ∧ w' = w1)
  case first =>
    by_cases d1 : f < t
    · by_cases d3 : t < p
      · go_wp2_with fail
        go_meet
        exact ⟨congrArg Value.bool (by simp; omega), rfl⟩
      · go_wp2_with fail
        go_meet
        exact ⟨congrArg Value.bool (by simp; omega), rfl⟩
    · by_cases d2 : f < p
      · go_wp2_with fail
        go_meet
        exact ⟨congrArg Value.bool (by simp; omega), rfl⟩
      · go_wp2_with fail
        go_meet
        exact ⟨congrArg Value.bool (by simp; omega), rfl⟩
  case rest =>
    obtain ⟨rfl, rfl⟩ := hcut
    go_wp2_with fail
    refine (at_yes f p _ ⟨f0, by simp only; omega, p0, by simp only; omega⟩).mono ?_
    rintro e w' ⟨rfl, rfl⟩
    go_wp2_with fail
    refine (step_deploy f t _ f0 (by omega) t0 (by omega)).mono ?_
    rintro e w' ⟨rfl, rfl⟩
    go_wp2_with fail
    go_loopw [13, 66] (fun v i wr => ∃ k : Nat, k ≤ u ∧ i = .int .i64 (k : Int) ∧ Hid (OwnC wr wc.heap.size v (k + 1) (goes f t k)) ∧ Hid (Below wc.heap.size wc wr)) (fun _ i _ => u - (intOf i).toNat)
    case atStart =>
      refine ⟨0, Nat.zero_le _, rfl, Lib.hid ?_, Lib.hid ((Below.refl _ _).alloc (Nat.le_refl _) _)⟩
      exact OwnC.lit wc wc.heap.size [(t - f, 0)] (Nat.le_refl _) (by simp)
    case round =>
      obtain ⟨k, hk, rfl, HO, HW⟩ := hrel
      by_cases hlt : k < u
      · have hsz := HW.out.size
        go_wp2_with (first
          | (go_at_call 36; refine (step_one _ _ _ _ (by omega)).mono ?_; rintro e w' ⟨rfl, rfl⟩)
          | (at_builtin; refine wpl_appC rfl (.tmp 79) (.tmp 81) rfl wc.heap.size _ (k + 1) _ rfl (HO.out.alloc _) wr.heap.size (0, 1) rfl (by simp [cv]) (by omega) (by simp; omega) ?_; intro g' c' w2 hown1 hge1 hgr1 hat1))
        rw [goes_snoc] at hown1
        have HO1 := Lib.hid hown1
        have HW1 : Hid (Below wc.heap.size wc w2) := Lib.hid ((HW.out.alloc HW.out.size _).grown hgr1 (by simp; omega) (fun x hx => HO.out.ge x hx))
        clear hown1 hge1 hgr1 hat1
        go_wp2
        go_roundw
        case rel => exact ⟨k + 1, by omega, by go_num, HO1, HW1⟩
        case measure => simp [intOf]; omega
      · obtain rfl : k = u := by omega
        have ho := HO.out
        obtain ⟨g, c', rfl, _, _⟩ := ho.form (by omega)
        clear ho
        have HS : Hid (∀ j, j < k + 1 → St (at_ (goes f t k) j)) := Lib.hid (by
          intro j hj
          match j, hj with
          | 0, _ => unfold St; simp [at_, goes]; omega
          | j + 1, hj => rw [at_goes f t k j (by omega)]; unfold St; decide)
        have HP : Hid (∀ j, j ≤ k + 1 → Pl (pos (f, p) (goes f t k) j)) := Lib.hid (by
          intro j hj
          match j, hj with
          | 0, _ => unfold Pl; simp [pos]; omega
          | j + 1, hj => rw [pos_goes f t p k j (by omega)]; unfold Pl; simp only; omega)
        have HE := Lib.hid (pos_goes f t p k k (Nat.le_refl _))
        have HPE : Hid (Pl (t, p + (k : Int))) := Lib.hid (by rw [← HE.out]; exact HP.out (k + 1) (Nat.le_refl _))
        have hszr := HW.out.size
        go_wp2_with fail
        refine (walk_yes (f, p) HO.out.rd (Nat.le_refl _) (by omega) HS.out HP.out).mono ?_
        rintro e w3 ⟨A3, c3, rfl, ho, hb⟩
        obtain ⟨b, off, rfl, hbb, hc⟩ := ho.rd.2 (by omega)
        have hce := hc (k + 1) (by omega)
        rw [at_way _ _ _ _ (Nat.le_refl _), HE.out] at hce
        unfold cv at hce
        have HB3 : Hid (Below w.heap.size w w3) := Lib.hid (HB.out.trans ((HW.out.mono HB.out.size).trans (hb.mono (by have := HB.out.size; omega))))
        clear ho hb hc
        go_wp2_with fail
        refine (parts_yes (t, p + (k : Int)) HPE.out _).mono ?_
        rintro e w' ⟨rfl, rfl⟩
        go_wp2_with fail
        refine (apart_yes (f, p) (t, p + (k : Int)) ⟨f0, by simp only; omega, p0, by simp only; omega⟩ HPE.out _).mono ?_
        rintro e w' ⟨rfl, rfl⟩
        by_cases hft : f < t
        · have hf : far (f, p) (t, p + (k : Int)) = t - f + k := by unfold far; simp only; omega
          rw [hf]
          clear hf
          go_wp2
          go_ret
          exact ⟨rfl, HB3.out⟩
        · have hf : far (f, p) (t, p + (k : Int)) = f - t + k := by unfold far; simp only; omega
          rw [hf]
          clear hf
          go_wp2
          go_ret
          exact ⟨rfl, HB3.out⟩

theorem law_gaussThere (f t p u : Int) (w : World) : Calls Try.prog 12 #[.int .i64 f, .int .i64 t, .int .i64 p, .int .i64 u] w fun e w' => e = .returned (.bool true) ∧ Below w.heap.size w w' := by
  by_cases h : badT f t p u
  · exact law_gaussThere_bad f t p u w h
  · unfold badT at h
    obtain ⟨k, rfl⟩ := Int.eq_ofNat_of_zero_le (show 0 ≤ u by omega)
    exact law_gaussThere_good f t p k w (by omega) (by omega) (by omega) (by omega) (by omega) (by omega) (by omega)
end Go.Proofs.Ytinphdphloddmaa
