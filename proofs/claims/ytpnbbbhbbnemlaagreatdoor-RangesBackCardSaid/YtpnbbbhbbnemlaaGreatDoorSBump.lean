/-
  CONTRACTS of package semver: above, Bump.
-/
import Derived.Test.YtpnbbbhbbnemlaaGreatDoorSParse
import Derived.Test.YtpnbbbhbbnemlaaGreatDoorSGd
import Derived.Test.YtpnbbbhbbnemlaaGreatDoorSAnch
namespace Go.Proofs.YtpnbbbhbbnemlaaGreatDoor
open Go.RowKit
open SemP
set_option linter.unusedVariables false
set_option linter.unusedSimpArgs false
set_option maxRecDepth 100000

def Ver.val (v : Ver) : Value := verV v.major v.minor v.patch (mk v.pre)
set_option maxHeartbeats 4000000 in
theorem above_any (a b c : Int) (s : ByteArray) (part : Int) (w : World) (ha : 0 ≤ a ∧ a ≤ 999999) (hb : 0 ≤ b ∧ b ≤ 999999) (hc : 0 ≤ c ∧ c ≤ 999999) :
    Calls Tryz.prog 161 #[verV a b c s, .int .i64 part] w fun e w' => e = .returned (Ver.val (Ver.bump ⟨a, b, c, bs s⟩ part)) ∧ Below w.heap.size w w' := by
  have e1 : IntKind.i64.wrap (a + 1) = a + 1 := IntWalk.i64_in _ (by omega)
  have e2 : IntKind.i64.wrap (b + 1) = b + 1 := IntWalk.i64_in _ (by omega)
  have e3 : IntKind.i64.wrap (c + 1) = c + 1 := IntWalk.i64_in _ (by omega)
  have HSE := Lib.hid (show s.toList.isEmpty = (bs s).isEmpty by rw [ByteArray.toList_eq])
  have fin : ∀ (x y z : Int) (u : ByteArray), Below w.heap.size w ((w.alloc (verC a b c s)).alloc (verC x y z u)) := fun x y z u => ((Below.refl _ w).alloc (Nat.le_refl _) _).alloc (by simp) _
  have HFIN := Lib.hid fin
  clear fin
  by_cases h0 : part = 0
  · subst h0
    have HV : Hid (Ver.val (Ver.bump ⟨a, b, c, bs s⟩ 0) = verV (a + 1) 0 0 ⟨#[]⟩) := Lib.hid rfl
    go_enter Tryz.func161, Tryz.ntmps161
    go_wp2
    refine bodyPost_ret (v := verV (a + 1) 0 0 ⟨#[]⟩) (by simp [results, Tryz.results161, go_sem]) rfl ⟨by rw [HV.out], HFIN.out _ _ _ _⟩
  · have q0 : (part == 0) = false := by simp [h0]
    by_cases h1 : part = 1
    · subst h1
      have HV : Hid (Ver.val (Ver.bump ⟨a, b, c, bs s⟩ 1) = verV a (b + 1) 0 ⟨#[]⟩) := Lib.hid rfl
      clear h0 q0
      go_enter Tryz.func161, Tryz.ntmps161
      go_wp2
      refine bodyPost_ret (v := verV a (b + 1) 0 ⟨#[]⟩) (by simp [results, Tryz.results161, go_sem]) rfl ⟨by rw [HV.out], HFIN.out _ _ _ _⟩
    · have q1 : (part == 1) = false := by simp [h1]
      cases hee : (bs s).isEmpty with
      | true =>
        have hse : s.toList.isEmpty = true := by rw [HSE.out]; exact hee
        have HV : Hid (Ver.val (Ver.bump ⟨a, b, c, bs s⟩ part) = verV a b (c + 1) ⟨#[]⟩) := Lib.hid (by
          unfold Ver.bump; rw [if_neg h0, if_neg h1, if_pos (List.isEmpty_iff.1 hee)]; rfl)
        clear h0 h1 hee
        go_enter Tryz.func161, Tryz.ntmps161
        go_wp2
        refine bodyPost_ret (v := verV a b (c + 1) ⟨#[]⟩) (by simp [results, Tryz.results161, go_sem]) rfl ⟨by rw [HV.out], HFIN.out _ _ _ _⟩
      | false =>
        have hse : s.toList.isEmpty = false := by rw [HSE.out]; exact hee
        have HV : Hid (Ver.val (Ver.bump ⟨a, b, c, bs s⟩ part) = verV a b c ⟨#[]⟩) := Lib.hid (by
          unfold Ver.bump
          rw [if_neg h0, if_neg h1, if_neg (fun e => by rw [List.isEmpty_iff.2 e] at hee; cases hee)]; rfl)
        clear h0 h1 hee
        go_enter Tryz.func161, Tryz.ntmps161
        go_wp2
        refine bodyPost_ret (v := verV a b c ⟨#[]⟩) (by simp [results, Tryz.results161, go_sem]) rfl ⟨by rw [HV.out], HFIN.out _ _ _ _⟩
def bumpR (v : Ver) (part : Int) : Value :=
  if v.right = true ∧ 0 ≤ part ∧ part ≤ 2 then (if (v.bump part).right = true then .tuple #[Ver.val (v.bump part), .int .i64 0] else .tuple #[verV 0 0 0 ⟨#[]⟩, .int .i64 11])
  else .tuple #[verV 0 0 0 ⟨#[]⟩, .int .i64 12]
theorem bump_len (v : Ver) (part : Int) : (v.bump part).pre = [] := by
  unfold Ver.bump; split
  · rfl
  · split
    · rfl
    · split <;> rfl
set_option maxHeartbeats 4000000 in
theorem Bump_any (a b c : Int) (s : ByteArray) (part : Int) (w : World) (hs : s.size < 4294967281) (hm : LenAt w) (h1 : 1 < w.heap.size) :
    Calls Tryz.prog 148 #[verV a b c s, .int .i64 part] w fun e w' => e = .returned (bumpR ⟨a, b, c, bs s⟩ part) ∧ Below w.heap.size w w' := by
  have hb0 : Below w.heap.size w ((w.alloc (verC a b c s)).alloc (verC 0 0 0 ⟨#[]⟩)) := ((Below.refl _ w).alloc (Nat.le_refl _) _).alloc (by simp) _
  have hA : ((w.alloc (verC a b c s)).alloc (verC 0 0 0 ⟨#[]⟩)).heap[w.heap.size]? = some (verC a b c s) := by
    rw [Below.heap_alloc _ _ _ (by simp)]; exact World.alloc_heap_new _ _
  have hB : ((w.alloc (verC a b c s)).alloc (verC 0 0 0 ⟨#[]⟩)).heap[w.heap.size + 1]? = some (verC 0 0 0 ⟨#[]⟩) := by
    have := World.alloc_heap_new (w.alloc (verC a b c s)) (verC 0 0 0 ⟨#[]⟩)
    rw [World.size_alloc] at this; exact this
  obtain ⟨W0, hW0⟩ : ∃ W0, (w.alloc (verC a b c s)).alloc (verC 0 0 0 ⟨#[]⟩) = W0 := ⟨_, rfl⟩
  have hz0 : W0.heap.size = w.heap.size + 2 := by rw [← hW0]; simp
  rw [hW0] at hb0 hA hB
  have hM0 := hm.below h1 hb0
  have HRG := Lib.hid (Right_any a b c s W0 hs hM0.1 hM0.2)
  have HW0 := Lib.hid hW0
  have HAB := Lib.hid (And.intro hA hB)
  have HB0 := Lib.hid hb0
  have HM0 := Lib.hid hM0
  clear hA hB hW0 hb0 hM0 hm
  go_enter Tryz.func148, Tryz.ntmps148
  go_wp2_with fail
  try rw [show (w.alloc (.cells #[.int .i64 a, .int .i64 b, .int .i64 c, .string s] 69)).alloc (.cells #[.int .i64 0, .int .i64 0, .int .i64 0, .string ⟨#[]⟩] 69) = W0 from HW0.out]
  refine HRG.out.mono ?_
  rintro e W1 ⟨rfl, h2⟩
  have hA1 := (h2.block _ (show w.heap.size < W0.heap.size by omega)).trans HAB.out.1
  have hB1 := (h2.block _ (show w.heap.size + 1 < W0.heap.size by omega)).trans HAB.out.2
  obtain ⟨x0, x1, x2, x3⟩ := cells4 hA1
  obtain ⟨y0, y1, y2, y3⟩ := cells4 hB1
  obtain ⟨f0, f1, f2, f3⟩ := froz4 hB1
  have HAB1 := Lib.hid (And.intro hA1 hB1)
  have HB1 : Hid (Below w.heap.size w W1) := Lib.hid (HB0.out.trans (h2.mono (by omega)))
  have HM1 := Lib.hid (HM0.out.1.below HM0.out.2 h2)
  have hz1 := h2.size
  clear h2 HRG hA1 hB1
  have HSET : Hid (∀ (W : World) (u0 u1 u2 u3 : Value), Below w.heap.size w W → Below w.heap.size w ((((W.setCell ⟨w.heap.size + 1, 0, none⟩ u0).setCell ⟨w.heap.size + 1, 1, none⟩ u1).setCell ⟨w.heap.size + 1, 2, none⟩ u2).setCell ⟨w.heap.size + 1, 3, none⟩ u3)) := Lib.hid (fun W u0 u1 u2 u3 h => (((h.setCell (p := ⟨w.heap.size + 1, 0, none⟩) (by simp) _).setCell (p := ⟨w.heap.size + 1, 1, none⟩) (by simp) _).setCell (p := ⟨w.heap.size + 1, 2, none⟩) (by simp) _).setCell (p := ⟨w.heap.size + 1, 3, none⟩) (by simp) _)
  cases hr : Ver.right ⟨a, b, c, bs s⟩ with
  | false =>
    have HV : Hid (bumpR ⟨a, b, c, bs s⟩ part = .tuple #[verV 0 0 0 ⟨#[]⟩, .int .i64 12]) := Lib.hid (by unfold bumpR; rw [if_neg]; intro h; rw [hr] at h; cases h.1)
    clear hr
    go_wp2
    refine bodyPost_ret (v := .tuple #[verV 0 0 0 ⟨#[]⟩, .int .i64 12]) (by simp [results, Tryz.results148, go_sem, y0, y1, y2, y3]) rfl ⟨by rw [HV.out], HSET.out _ _ _ _ _ HB1.out⟩
  | true =>
    have HR := Lib.hid hr
    by_cases hp : 0 ≤ part ∧ part ≤ 2
    · have d0 : decide (part < 0) = false := by simp; omega
      have d2 : decide (2 < part) = false := by simp; omega
      have HV : Hid (bumpR ⟨a, b, c, bs s⟩ part = if (Ver.bump ⟨a, b, c, bs s⟩ part).right = true then .tuple #[Ver.val (Ver.bump ⟨a, b, c, bs s⟩ part), .int .i64 0] else .tuple #[verV 0 0 0 ⟨#[]⟩, .int .i64 11]) := Lib.hid (by unfold bumpR; rw [if_pos ⟨hr, hp⟩])
      have hrr : (0 ≤ a ∧ a ≤ 999999) ∧ (0 ≤ b ∧ b ≤ 999999) ∧ (0 ≤ c ∧ c ≤ 999999) := by
        have := hr
        unfold Ver.right rightN at this
        simp at this
        omega
      have HAV := Lib.hid (above_any a b c s part W1 hrr.1 hrr.2.1 hrr.2.2)
      have HPE := Lib.hid (bump_len ⟨a, b, c, bs s⟩ part)
      obtain ⟨x, y, z, hV⟩ : ∃ x y z, Ver.bump ⟨a, b, c, bs s⟩ part = ⟨x, y, z, []⟩ := by
        have h := HPE.out
        cases hv : Ver.bump ⟨a, b, c, bs s⟩ part with
        | mk x y z q => rw [hv] at h; simp only at h; subst h; exact ⟨x, y, z, rfl⟩
      rw [hV] at HV HAV
      clear hr hrr hp HPE hV
      go_wp2_with fail
      refine HAV.out.mono ?_
      rintro e W2 ⟨rfl, h3⟩
      rw [show Ver.val ⟨x, y, z, []⟩ = verV x y z ⟨#[]⟩ from rfl]
      have hB2 := (h3.block _ (show w.heap.size + 1 < W1.heap.size by omega)).trans HAB1.out.2
      have hC0 := World.alloc_heap_new W2 (verC x y z ⟨#[]⟩)
      have hz2 := h3.size
      have hB3 : (W2.alloc (verC x y z ⟨#[]⟩)).heap[w.heap.size + 1]? = some (verC 0 0 0 ⟨#[]⟩) := (Below.heap_alloc _ _ _ (by omega)).trans hB2
      obtain ⟨W3, hW3⟩ : ∃ W3, W2.alloc (verC x y z ⟨#[]⟩) = W3 := ⟨_, rfl⟩
      have hlt3 : W2.heap.size < W3.heap.size := by rw [← hW3]; simp
      have HB3 : Hid (Below W1.heap.size W1 W3) := Lib.hid (by rw [← hW3]; exact h3.alloc h3.size _)
      have HM3 := Lib.hid (HM1.out.1.below HM1.out.2 HB3.out)
      have HW3 := Lib.hid hW3
      have HR3 := Lib.hid (Right_any x y z ⟨#[]⟩ W3 (by decide) HM3.out.1 HM3.out.2)
      have HH3 : Hid (W3.heap[W2.heap.size]? = some (verC x y z ⟨#[]⟩) ∧ W3.heap[w.heap.size + 1]? = some (verC 0 0 0 ⟨#[]⟩)) := Lib.hid (by rw [← hW3]; exact ⟨hC0, hB3⟩)
      have HB03 : Hid (Below w.heap.size w W3) := Lib.hid (HB1.out.trans (HB3.out.mono (by have := HB1.out.size; omega)))
      clear h3 hB2 hC0 hB3 hW3 x0 x1 x2 x3 y0 y1 y2 y3 f0 f1 f2 f3 HAV
      go_wp2_with fail
      try rw [show W2.alloc (.cells #[.int .i64 x, .int .i64 y, .int .i64 z, .string ⟨#[]⟩] 69) = W3 from HW3.out]
      refine HR3.out.mono ?_
      rintro e W4 ⟨rfl, h4⟩
      have hC4 := (h4.block _ hlt3).trans HH3.out.1
      have hB4 := (h4.block _ (show w.heap.size + 1 < W3.heap.size by omega)).trans HH3.out.2
      obtain ⟨x0, x1, x2, x3⟩ := cells4 hC4
      obtain ⟨y0, y1, y2, y3⟩ := cells4 hB4
      obtain ⟨f0, f1, f2, f3⟩ := froz4 hB4
      have HB04 : Hid (Below w.heap.size w W4) := Lib.hid (HB03.out.trans (h4.mono HB03.out.size))
      rw [show Ver.right ⟨x, y, z, bs ⟨#[]⟩⟩ = Ver.right ⟨x, y, z, []⟩ from rfl]
      have hne : w.heap.size + 1 ≠ W2.heap.size := by omega
      have hne2 : W2.heap.size ≠ w.heap.size + 1 := by omega
      clear h4 hC4 hB4 HR3
      cases hq : Ver.right ⟨x, y, z, []⟩ with
      | false =>
        have HV2 : Hid (bumpR ⟨a, b, c, bs s⟩ part = .tuple #[verV 0 0 0 ⟨#[]⟩, .int .i64 11]) := Lib.hid (by rw [HV.out, hq]; rfl)
        clear hq
        go_wp2
        refine bodyPost_ret (v := .tuple #[verV 0 0 0 ⟨#[]⟩, .int .i64 11]) (by simp [results, Tryz.results148, go_sem, y0, y1, y2, y3]) rfl ⟨by rw [HV2.out], HSET.out _ _ _ _ _ HB04.out⟩
      | true =>
        have HV2 : Hid (bumpR ⟨a, b, c, bs s⟩ part = .tuple #[verV x y z ⟨#[]⟩, .int .i64 0]) := Lib.hid (by rw [HV.out, hq]; rfl)
        clear hq
        go_wp2
        refine bodyPost_ret (v := .tuple #[verV x y z ⟨#[]⟩, .int .i64 0]) (by simp [results, Tryz.results148, go_sem, y0, y1, y2, y3]) rfl ⟨by rw [HV2.out], HSET.out _ _ _ _ _ HB04.out⟩
    · have HV : Hid (bumpR ⟨a, b, c, bs s⟩ part = .tuple #[verV 0 0 0 ⟨#[]⟩, .int .i64 12]) := Lib.hid (by unfold bumpR; rw [if_neg]; intro h; exact hp h.2)
      clear hr
      go_wp2
      all_goals (refine bodyPost_ret (v := .tuple #[verV 0 0 0 ⟨#[]⟩, .int .i64 12]) (by simp [results, Tryz.results148, go_sem, y0, y1, y2, y3]) rfl ⟨by rw [HV.out], HSET.out _ _ _ _ _ HB1.out⟩)
end Go.Proofs.YtpnbbbhbbnemlaaGreatDoor
