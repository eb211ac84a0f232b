/-
  CONTRACTS of package semver: a number of a version; two marks; cmp.Or.
-/
import Derived.Test.YtpnbbbhbbnemlaaGreatDoorSDig
import Derived.RangeFuncRecord
import Derived.Lib.AtoiErrMem
namespace Go.Proofs.YtpnbbbhbbnemlaaGreatDoor
open Go.RowKit
open SemP
set_option linter.unusedVariables false
set_option linter.unusedSimpArgs false
set_option maxRecDepth 100000

/-- The cell of the library's own variable that strings.Cut reads. -/
abbrev LenAt (w : World) : Prop := ∃ m, w.cell? ⟨1, 0, none⟩ = some (.int .i64 m)
def numV (l : Str) : Value := match num l with
  | some n => .tuple #[.int .i64 (n : Int), .bool true]
  | none => .tuple #[.int .i64 0, .bool false]
theorem number_any (s : ByteArray) (w : World) (hs : s.size ≤ 9223372036854775807) :
    Calls Tryz.prog 124 #[.string s] w fun e w' => e = .returned (numV (bs s)) ∧ Below w.heap.size w w' := by
  have HZ : Hid (s.size = (bs s).length) := Lib.hid (Lib.size_eq s)
  cases hA : allDig (bs s) with
  | false =>
    have HN : Hid (numV (bs s) = .tuple #[.int .i64 0, .bool false]) := Lib.hid (by unfold numV num; rw [hA]; rfl)
    have HA := Lib.hid hA
    clear hA
    go_enter Tryz.func124, Tryz.ntmps124
    go_wp2_with fail
    refine (allDigits_any s w hs).mono ?_
    rintro e w' ⟨rfl, rfl⟩
    rw [HA.out]
    go_wp2
    refine bodyPost_ret (results_tmp2 rfl _ _ _) rfl ?_
    exact ⟨by rw [HN.out]; rfl, Below.refl _ _⟩
  | true =>
    have h0 : 0 < s.size := by
      have := (allDig_all hA).1
      have h2 := HZ.out
      rcases Nat.eq_zero_or_pos s.size with h | h
      · exact absurd (List.eq_nil_of_length_eq_zero (h2.symm.trans h)) this
      · exact h
    cases hP : plainN (bs s) with
    | false =>
      have HN : Hid (numV (bs s) = .tuple #[.int .i64 0, .bool false]) := Lib.hid (by unfold numV num; rw [hA, hP]; rfl)
      have HA := Lib.hid hA
      have HP := Lib.hid hP
      clear hA hP
      go_enter Tryz.func124, Tryz.ntmps124
      go_wp2_with fail
      refine (allDigits_any s w hs).mono ?_
      rintro e w' ⟨rfl, rfl⟩
      rw [HA.out]
      go_wp2_with fail
      refine (plainNumber_any s _ hs h0).mono ?_
      rintro e w' ⟨rfl, rfl⟩
      rw [HP.out]
      go_wp2
      refine bodyPost_ret (results_tmp2 rfl _ _ _) rfl ?_
      exact ⟨by rw [HN.out]; rfl, Below.refl _ _⟩
    | true =>
      have HN : Hid (numV (bs s) = .tuple #[.int .i64 (numOf (bs s) : Int), .bool true]) := Lib.hid (by unfold numV num; rw [hA, hP]; rfl)
      have h6 : s.size ≤ 6 := by
        unfold plainN at hP; simp at hP
        have := HZ.out; have := hP.1; omega
      have HAT := Lib.hid (Tryz.strconv_Atoi s (numOf (bs s)) (by omega) (atoi_num _ hA) w)
      have hle : decide ((numOf (bs s) : Int) ≤ 999999) = true := by
        have := (digits_of_num (l := bs s) (n := numOf (bs s)) (by unfold num; rw [hA, hP]; rfl)).2
        simp; omega
      have HA := Lib.hid hA
      have HP := Lib.hid hP
      clear hA hP
      go_enter Tryz.func124, Tryz.ntmps124
      go_wp2_with fail
      refine (allDigits_any s w hs).mono ?_
      rintro e w' ⟨rfl, rfl⟩
      rw [HA.out]
      go_wp2_with fail
      refine (plainNumber_any s _ hs h0).mono ?_
      rintro e w' ⟨rfl, rfl⟩
      rw [HP.out]
      go_wp2_with fail
      refine HAT.out.mono ?_
      rintro e w1 ⟨rfl, t, rfl⟩
      have HB := Lib.hid (Lib.bytesWorld_below w' 5 t)
      generalize Lib.bytesWorld w' 5 t = w2 at HB
      go_wp2
      refine bodyPost_ret (results_tmp2 rfl _ _ _) rfl ?_
      exact ⟨by rw [HN.out]; rfl, HB.out⟩
def orL (l : List Int) : Int := l.foldr orI 0
/-- cmp.Or of two, of four. -/
theorem or2_any {w : World} {g : Nat} {a b : Int} (h0 : w.cell? ⟨g, 0, none⟩ = some (.int .i64 a)) (h1 : w.cell? ⟨g, 1, none⟩ = some (.int .i64 b)) :
    Calls Tryz.prog 133 #[.slice (some ⟨g, 0, none⟩) 2 2] w fun e w' => e = .returned (.int .i64 (orI a b)) ∧ w' = w := by
  by_cases ha : a = 0
  · subst ha
    rw [orI_zero]
    by_cases hb : b = 0
    · subst hb
      go_enter Tryz.func133, Tryz.ntmps133
      go_wp2
      refine wp_loop_rounds 3 ?_
      rw [rounds_succ]
      go_wp2
      rw [rounds_succ]
      go_wp2
      rw [rounds_succ]
      go_wp2
      go_ret
      exact ⟨rfl, rfl⟩
    · have hbe : (b == 0) = false := by simp; omega
      go_enter Tryz.func133, Tryz.ntmps133
      go_wp2
      refine wp_loop_rounds 2 ?_
      rw [rounds_succ]
      go_wp2
      rw [rounds_succ]
      go_wp2
      go_ret
      exact ⟨rfl, rfl⟩
  · have hae : (a == 0) = false := by simp; omega
    rw [orI_ne ha]
    go_enter Tryz.func133, Tryz.ntmps133
    go_wp2
    refine wp_loop_rounds 1 ?_
    rw [rounds_succ]
    go_wp2
    go_ret
    exact ⟨rfl, rfl⟩
theorem or4_any {w : World} {g : Nat} {a b c d : Int} (h0 : w.cell? ⟨g, 0, none⟩ = some (.int .i64 a)) (h1 : w.cell? ⟨g, 1, none⟩ = some (.int .i64 b)) (h2 : w.cell? ⟨g, 2, none⟩ = some (.int .i64 c)) (h3 : w.cell? ⟨g, 3, none⟩ = some (.int .i64 d)) :
    Calls Tryz.prog 133 #[.slice (some ⟨g, 0, none⟩) 4 4] w fun e w' => e = .returned (.int .i64 (orI a (orI b (orI c d)))) ∧ w' = w := by
  by_cases ha : a = 0
  · subst ha
    rw [orI_zero]
    by_cases hb : b = 0
    · subst hb
      rw [orI_zero]
      by_cases hc : c = 0
      · subst hc
        rw [orI_zero]
        by_cases hd : d = 0
        · subst hd
          go_enter Tryz.func133, Tryz.ntmps133
          go_wp2
          refine wp_loop_rounds 5 ?_
          iterate 5 (rw [rounds_succ]; go_wp2)
          go_ret
          exact ⟨rfl, rfl⟩
        · have hde : (d == 0) = false := by simp; omega
          go_enter Tryz.func133, Tryz.ntmps133
          go_wp2
          refine wp_loop_rounds 4 ?_
          iterate 4 (rw [rounds_succ]; go_wp2)
          go_ret
          exact ⟨rfl, rfl⟩
      · have hce : (c == 0) = false := by simp; omega
        rw [orI_ne hc]
        go_enter Tryz.func133, Tryz.ntmps133
        go_wp2
        refine wp_loop_rounds 3 ?_
        iterate 3 (rw [rounds_succ]; go_wp2)
        go_ret
        exact ⟨rfl, rfl⟩
    · have hbe : (b == 0) = false := by simp; omega
      rw [orI_ne hb]
      go_enter Tryz.func133, Tryz.ntmps133
      go_wp2
      refine wp_loop_rounds 2 ?_
      iterate 2 (rw [rounds_succ]; go_wp2)
      go_ret
      exact ⟨rfl, rfl⟩
  · have hae : (a == 0) = false := by simp; omega
    rw [orI_ne ha]
    go_enter Tryz.func133, Tryz.ntmps133
    go_wp2
    refine wp_loop_rounds 1 ?_
    rw [rounds_succ]
    go_wp2
    go_ret
    exact ⟨rfl, rfl⟩
theorem cells2 (w : World) (p q : Int) : (w.alloc (.cells #[.int .i64 p, .int .i64 q] 3)).cell? ⟨w.heap.size, 0, none⟩ = some (.int .i64 p) ∧ (w.alloc (.cells #[.int .i64 p, .int .i64 q] 3)).cell? ⟨w.heap.size, 1, none⟩ = some (.int .i64 q) := by
  have hb := World.alloc_heap_new w (.cells #[.int .i64 p, .int .i64 q] 3)
  exact ⟨by simp only [World.cell?, hb]; rfl, by simp only [World.cell?, hb]; rfl⟩
theorem compareMarks_any (s t : ByteArray) (w : World) (hs : s.size ≤ 9223372036854775807) (ht : t.size ≤ 9223372036854775807) :
    Calls Tryz.prog 155 #[.string s, .string t] w fun e w' => e = .returned (.int .i64 (cmpMarks (bs s) (bs t))) ∧ Below w.heap.size w w' := by
  have HZ : Hid (s.size = (bs s).length) := Lib.hid (Lib.size_eq s)
  have HZt : Hid (t.size = (bs t).length) := Lib.hid (Lib.size_eq t)
  cases hA : allDig (bs s) <;> cases hB : allDig (bs t)
  all_goals
    have HA := Lib.hid hA
    have HB := Lib.hid hB
    have HC := Lib.hid (show cmpMarks (bs s) (bs t) = _ from rfl)
    simp only [cmpMarks, hA, hB, Bool.and_self, Bool.and_false, Bool.false_and, Bool.and_true, Bool.false_eq_true, if_false, if_true]
    clear hA hB HC
    go_enter Tryz.func155, Tryz.ntmps155
    go_wp2_with fail
    refine (allDigits_any s w hs).mono ?_
    rintro e w' ⟨rfl, rfl⟩
    rw [HA.out]
    go_wp2_with fail
    refine (allDigits_any t _ ht).mono ?_
    rintro e w' ⟨rfl, rfl⟩
    rw [HB.out]
  · go_wp2_with fail
    refine (Tryz.strings_Compare s t _).mono ?_
    rintro e w' ⟨rfl, rfl⟩
    go_wp2
    refine bodyPost_ret (results_tmp rfl _ _ _) rfl ?_
    exact ⟨rfl, Below.refl _ _⟩
  · go_wp2
    refine bodyPost_ret (results_tmp rfl _ _ _) rfl ?_
    exact ⟨rfl, Below.refl _ _⟩
  · go_wp2
    refine bodyPost_ret (results_tmp rfl _ _ _) rfl ?_
    exact ⟨rfl, Below.refl _ _⟩
  · go_wp2_with fail
    refine (Tryz.cmp_Compare_int _ _ _).mono ?_
    rintro e w1 ⟨rfl, rfl⟩
    go_wp2_with fail
    refine (Tryz.strings_Compare s t _).mono ?_
    rintro e w2 ⟨rfl, rfl⟩
    obtain ⟨c0, c1⟩ := cells2 w2 (Lib.compareInt (s.size : Int) (t.size : Int)) (Lib.compareBytes (bs s) (bs t))
    have HOR := Lib.hid (or2_any c0 c1)
    clear c0 c1
    go_wp2_with fail
    refine HOR.out.mono ?_
    rintro e w3 ⟨rfl, rfl⟩
    go_wp2
    refine bodyPost_ret (results_tmp rfl _ _ _) rfl ?_
    exact ⟨by rw [← HZ.out, ← HZt.out]; rfl, (Below.refl _ _).alloc (Nat.le_refl _) _⟩
end Go.Proofs.YtpnbbbhbbnemlaaGreatDoor
