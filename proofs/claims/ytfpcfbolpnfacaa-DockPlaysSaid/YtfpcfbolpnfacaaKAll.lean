/-
  CONTRACTS of package dock, over this translation: the answers that change nothing, or only put it down.
-/
import Derived.Test.YtfpcfbolpnfacaaKMore
import Derived.Test.YtfpcfbolpnfacaaKCrash
namespace Go.Proofs.Ytfpcfbolpnfacaa
open Go.RowKit
open ByteP
set_option linter.unusedVariables false
set_option maxRecDepth 10000
section
variable {w : World} {db mb K : Nat} {n : Nm} {F : Int → Option Fi}
theorem append_name (h : Dk w db mb K n F) (hd : n.down = false) {k : Int} (hk : k < 0 ∨ 999999 < k) (D : Option Addr) (m d : Nat) : Calls Try.prog 8 #[.pointer (some ⟨db, 0, none⟩), .int .i64 k, .slice D m d] w fun e w' => e = .returned (.int .i64 52) ∧ w' = w := by
  have c4 := h.c4
  rw [hd] at c4
  clear h
  by_cases h0 : k < 0
  · have d1 : decide (k < 0) = true := by simp; omega
    go_enter Try.func8, Try.ntmps8
    go_wp2
    go_ret
    exact ⟨rfl, rfl⟩
  · have d1 : decide (k < 0) = false := by simp; omega
    have d2 : decide (999999 < k) = true := by simp; omega
    go_enter Try.func8, Try.ntmps8
    go_wp2
    go_ret
    exact ⟨rfl, rfl⟩
theorem append_full (h : Dk w db mb K n F) (hd : n.down = false) {k : Int} (hk0 : 0 ≤ k) (hk1 : k ≤ 999999) (D : Option Addr) (m d : Nat) (hm : m ≤ 1099511627776) (hs0 : -4611686018427387904 ≤ n.size) (hs1 : n.size ≤ 4611686018427387904) (hfull : n.cap < n.size + (m : Int)) :
    Calls Try.prog 8 #[.pointer (some ⟨db, 0, none⟩), .int .i64 k, .slice D m d] w fun e w' => e = .returned (.int .i64 50) ∧ ∃ q, w' = w.drewN q := by
  have c0 := h.c0
  have c1 := h.c1
  have c4 := h.c4
  rw [hd] at c4
  have hsum : IntKind.i64.wrap (n.size + (m : Int)) = n.size + (m : Int) := IntWalk.i64_in _ (by omega)
  have hgt : decide (n.cap < n.size + (m : Int)) = true := by simp; omega
  have d1 : decide (k < 0) = false := by simp; omega
  have d2 : decide (999999 < k) = false := by simp; omega
  clear h
  go_enter Try.func8, Try.ntmps8
  go_wp2_with fail
  go_quiet (fail)
  rename_i nq
  go_wp2
  go_ret
  exact ⟨rfl, nq, rfl⟩
theorem remove_down (h : Dk w db mb K n F) (hd : n.down = true) (k : Int) : Calls Try.prog 15 #[.pointer (some ⟨db, 0, none⟩), .int .i64 k] w fun e w' => e = .returned (.int .i64 51) ∧ Below w.heap.size w w' := by
  have H := Lib.hid h
  have HD := Lib.hid hd
  clear h hd
  go_enter Try.func15, Try.ntmps15
  go_wp2_with fail
  refine (find_down H.out HD.out k).mono ?_
  rintro e w1 ⟨rfl, hb⟩
  have HB := Lib.hid hb
  have hsz := hb.size
  clear hb
  go_wp2
  go_ret
  exact ⟨rfl, HB.out.trans ((Below.refl _ _).alloc hsz _)⟩
theorem remove_none (h : Dk w db mb K n F) (hd : n.down = false) {k : Int} (h0 : -9223372036854775808 ≤ k) (h1 : k ≤ 9223372036854775807) (hf : F k = none) : Calls Try.prog 15 #[.pointer (some ⟨db, 0, none⟩), .int .i64 k] w fun e w' => e = .returned (.int .i64 52) ∧ Below w.heap.size w w' := by
  have H := Lib.hid h
  have HD := Lib.hid hd
  have HF := Lib.hid hf
  clear h hd hf
  go_enter Try.func15, Try.ntmps15
  go_wp2_with fail
  refine (find_none H.out HD.out h0 h1 HF.out).mono ?_
  rintro e w1 ⟨rfl, hb⟩
  have HB := Lib.hid hb
  have hsz := hb.size
  clear hb
  go_wp2
  go_ret
  exact ⟨rfl, HB.out.trans ((Below.refl _ _).alloc hsz _)⟩
theorem remove_now (h : Dk w db mb K n F) (hd : n.down = false) (hl : n.left = 0) {k : Int} {f : Fi} (hf : F k = some f) : Calls Try.prog 15 #[.pointer (some ⟨db, 0, none⟩), .int .i64 k] w fun e w' => e = .returned (.int .i64 51) ∧ Dk w' db mb K (gd n) F ∧ Fr w w' (Mine db mb F) := by
  have H := Lib.hid h
  have HD := Lib.hid hd
  have HF := Lib.hid hf
  have HL := Lib.hid hl
  have HG := Lib.hid (h.good k f hf)
  clear h hd hf hl
  go_enter Try.func15, Try.ntmps15
  go_wp2_with fail
  refine (find_some H.out HD.out (by have := HG.out; omega) (by have := HG.out; omega) HF.out).mono ?_
  rintro e w1 ⟨rfl, hb⟩
  have HB := Lib.hid hb
  have H1 := Lib.hid (H.out.below hb)
  clear hb
  go_wp2_with fail
  refine (goesDown_any (H1.out.alloc _) (by rw [HL.out]; omega) (by rw [HL.out]; omega)).mono ?_
  rintro e w2 ⟨rfl, hk, hfr⟩
  rw [HL.out, show (decide ((0 : Int) = 0)) = true from rfl]
  have HK := Lib.hid hk
  have HFR := Lib.hid hfr
  clear hk hfr
  go_wp2
  go_ret
  exact ⟨rfl, HK.out, Fr.of_below_then HB.out (Fr.of_below_then ((Below.refl _ _).alloc (Nat.le_refl _) _) HFR.out)⟩
theorem cut_down (h : Dk w db mb K n F) (hd : n.down = true) (k : Int) (p : Int) : Calls Try.prog 19 #[.pointer (some ⟨db, 0, none⟩), .int .i64 k, .int .i64 p] w fun e w' => e = .returned (.int .i64 51) ∧ Below w.heap.size w w' := by
  have H := Lib.hid h
  have HD := Lib.hid hd
  clear h hd
  go_enter Try.func19, Try.ntmps19
  go_wp2_with fail
  refine (find_down H.out HD.out k).mono ?_
  rintro e w1 ⟨rfl, hb⟩
  have HB := Lib.hid hb
  have hsz := hb.size
  clear hb
  go_wp2
  go_ret
  exact ⟨rfl, HB.out.trans ((Below.refl _ _).alloc hsz _)⟩
theorem cut_none (h : Dk w db mb K n F) (hd : n.down = false) {k : Int} (h0 : -9223372036854775808 ≤ k) (h1 : k ≤ 9223372036854775807) (hf : F k = none) (p : Int) : Calls Try.prog 19 #[.pointer (some ⟨db, 0, none⟩), .int .i64 k, .int .i64 p] w fun e w' => e = .returned (.int .i64 52) ∧ Below w.heap.size w w' := by
  have H := Lib.hid h
  have HD := Lib.hid hd
  have HF := Lib.hid hf
  clear h hd hf
  go_enter Try.func19, Try.ntmps19
  go_wp2_with fail
  refine (find_none H.out HD.out h0 h1 HF.out).mono ?_
  rintro e w1 ⟨rfl, hb⟩
  have HB := Lib.hid hb
  have hsz := hb.size
  clear hb
  go_wp2
  go_ret
  exact ⟨rfl, HB.out.trans ((Below.refl _ _).alloc hsz _)⟩
theorem cut_now (h : Dk w db mb K n F) (hd : n.down = false) (hl : n.left = 0) {k : Int} {f : Fi} (hf : F k = some f) {p : Nat} (hp : p ≤ f.n) : Calls Try.prog 19 #[.pointer (some ⟨db, 0, none⟩), .int .i64 k, .int .i64 (p : Int)] w fun e w' => e = .returned (.int .i64 51) ∧ Dk w' db mb K (gd n) F ∧ Fr w w' (Mine db mb F) := by
  have H := Lib.hid h
  have HD := Lib.hid hd
  have HF := Lib.hid hf
  have HL := Lib.hid hl
  have HG := Lib.hid (h.good k f hf)
  have d1 : decide ((p : Int) < 0) = false := by simp
  have d2 : decide ((f.n : Int) < (p : Int)) = false := by simp; omega
  clear h hd hf hl
  go_enter Try.func19, Try.ntmps19
  go_wp2_with fail
  refine (find_some H.out HD.out (by have := HG.out; omega) (by have := HG.out; omega) HF.out).mono ?_
  rintro e w1 ⟨rfl, hb⟩
  have HB := Lib.hid hb
  have H1 := Lib.hid (H.out.below hb)
  clear hb
  go_wp2_with fail
  refine (goesDown_any (H1.out.alloc _) (by rw [HL.out]; omega) (by rw [HL.out]; omega)).mono ?_
  rintro e w2 ⟨rfl, hk, hfr⟩
  rw [HL.out, show (decide ((0 : Int) = 0)) = true from rfl]
  have HK := Lib.hid hk
  have HFR := Lib.hid hfr
  clear hk hfr
  go_wp2
  go_ret
  exact ⟨rfl, HK.out, Fr.of_below_then HB.out (Fr.of_below_then ((Below.refl _ _).alloc (Nat.le_refl _) _) HFR.out)⟩
end
/-- What a crash leaves as it is, and what it makes no greater. -/
theorem crK_keep {F : Int → Option Fi} {ks ns : List Int} {k : Int} {f : Fi} (hf : F k = some f) (hs : f.s = f.n) : ∀ j, (crK F ks ns j).F k = some f
  | 0 => hf
  | j + 1 => by
    have ih := crK_keep (ks := ks) (ns := ns) hf hs j
    show (crS ks (ix ns j) (crK F ks ns j)).F k = some f
    by_cases e : ix ns j = k
    · rw [e, crS_same ih hs]; exact ih
    · by_cases h : (fileAt (crK F ks ns j).F (ix ns j)).s = (fileAt (crK F ks ns j).F (ix ns j)).n
      · unfold crS; rw [if_pos h]; exact ih
      · unfold crS; rw [if_neg h]
        show putF _ _ _ k = _
        unfold putF
        rw [if_neg (fun h => e h.symm)]
        exact ih
theorem crS_less {ks : List Int} {x : Int} {c : Cr} {b : Nat} (hx : (c.F x).isSome = true) (hg : ∀ k f, c.F k = some f → f.s ≤ f.n ∧ f.n ≤ b) : ∀ k f, (crS ks x c).F k = some f → f.s ≤ f.n ∧ f.n ≤ b := by
  intro k f hf
  obtain ⟨g, hgx⟩ := Option.isSome_iff_exists.1 hx
  by_cases h : g.s = g.n
  · rw [crS_same hgx h] at hf; exact hg k f hf
  · rw [crS_cut hgx h] at hf
    have hf' : putF c.F x (cutTo g (g.s + kpt ks c.l g) (g.s + kpt ks c.l g)) k = some f := hf
    unfold putF at hf'
    by_cases e : k = x
    · rw [if_pos e] at hf'
      injection hf' with hf'
      subst hf'
      have h1 := hg x g hgx
      have h2 := kpt_le ks c.l g h1.1
      exact ⟨Nat.le_refl _, Nat.le_trans h2 h1.2⟩
    · rw [if_neg e] at hf'; exact hg k f hf'
theorem crK_less {F : Int → Option Fi} {ks ns : List Int} {b : Nat} (hns : ∀ x, x ∈ ns → (F x).isSome = true) (hg : ∀ k f, F k = some f → f.s ≤ f.n ∧ f.n ≤ b) : ∀ j, j ≤ ns.length → ∀ k f, (crK F ks ns j).F k = some f → f.s ≤ f.n ∧ f.n ≤ b
  | 0, _ => hg
  | j + 1, hj => crS_less (by rw [crK_some hns j (by omega)]; exact hns _ (ix_mem (by omega))) (crK_less hns hg j (by omega))
theorem crK_d {F : Int → Option Fi} {ks ns : List Int} (hns : ∀ x, x ∈ ns → (F x).isSome = true) (hg : ∀ k f, F k = some f → f.s ≤ f.n ∧ f.n ≤ 16777216) : ∀ j, j ≤ ns.length → -(16777216 * (j : Int)) ≤ (crK F ks ns j).d ∧ (crK F ks ns j).d ≤ 0
  | 0, _ => by simp [crK]
  | j + 1, hj => by
    have ih := crK_d (ks := ks) hns hg j (by omega)
    have hx : ((crK F ks ns j).F (ix ns j)).isSome = true := by rw [crK_some hns j (by omega)]; exact hns _ (ix_mem (by omega))
    obtain ⟨g, hgx⟩ := Option.isSome_iff_exists.1 hx
    have hgg := crK_less (ks := ks) hns hg j (by omega) _ g hgx
    show -(16777216 * ((j + 1 : Nat) : Int)) ≤ (crS ks (ix ns j) (crK F ks ns j)).d ∧ (crS ks (ix ns j) (crK F ks ns j)).d ≤ 0
    by_cases h : g.s = g.n
    · rw [crS_same hgx h]; omega
    · rw [crS_cut hgx h]
      have h2 := kpt_le ks (crK F ks ns j).l g hgg.1
      simp only
      omega
theorem asc_len : ∀ (ns : List Int) (a : Int), Asc ns → (∀ x, x ∈ ns → a ≤ x ∧ x ≤ 999999) → (ns.length : Int) ≤ max 0 (1000000 - a)
  | [], a, _, _ => by simp; omega
  | x :: ns, a, hs, hm => by
    have h1 := List.pairwise_cons.1 hs
    have ih := asc_len ns (x + 1) h1.2 (fun y hy => ⟨by have := h1.1 y hy; omega, (hm y (by simp [hy])).2⟩)
    have hx := hm x (by simp)
    simp only [List.length_cons]
    omega
end Go.Proofs.Ytfpcfbolpnfacaa
