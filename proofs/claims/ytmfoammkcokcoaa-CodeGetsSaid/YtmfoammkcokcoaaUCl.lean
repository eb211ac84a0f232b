/-
  CodeGets, over this translation.
-/
import Derived.Test.YtmfoammkcokcoaaUCb
import Derived.Test.YtmfoammkcokcoaaUCQ
namespace Go.Proofs.Ytmfoammkcokcoaa
open Go.RowKit
open ByteP CodeP
set_option linter.unusedVariables false
set_option maxRecDepth 10000
set_option maxHeartbeats 8000000 in
theorem law_gets {w : World} {n c : Nat} {A : Option Addr} {bs : List Int}
    (hr : RdY w w.heap.size A n bs) (hb : Bytes bs) (hc : CapA A n c) (hn0 : n ≤ 9223372036854775807) :
    Calls Try.prog 4 #[.slice A n c] w fun e w' => e = .returned (.bool true) ∧ Below w.heap.size w w' := by
  have HR := Lib.hid hr
  have HBY := Lib.hid hb
  have HC := Lib.hid hc
  have HLL := Lib.hid hr.len
  clear hr hb hc
  go_enter Try.func4, Try.ntmps4
  go_wp2_with fail
  refine (anchorE_any _).mono ?_
  rintro e w1 ⟨rfl, hb1⟩
  have HB1 := Lib.hid hb1
  clear hb1
  by_cases h5 : 1500 < n
  · have d5 : decide ((1500 : Int) < (n : Int)) = true := by simp; omega
    go_wp2
    go_ret
    exact ⟨rfl, HB1.out⟩
  have d5 : decide ((1500 : Int) < (n : Int)) = false := by simp; omega
  have hz8 := HB1.out.size
  have hbl : bs.length ≤ 1500 := by have := HLL.out; omega
  have HG9 := Lib.hid (getCat_any (HR.out.below HB1.out) HC.out hz8 HBY.out (by omega))
  go_wp2_with fail
  refine HG9.out.mono ?_
  rintro e w9 ⟨F1, m1, g1, rfl, hb9, hz9, hl9⟩
  obtain ⟨h, HH⟩ : ∃ h, Hid (endP catP bs = h) := ⟨_, Lib.hid rfl⟩
  rw [HH.out] at hz9 hl9 ⊢
  have HBW9 : Hid (Below w.heap.size w w9) := Lib.hid (HB1.out.trans (hb9.mono hz8))
  have HZ9 := Lib.hid hz9
  have HL9 := Lib.hid hl9
  have hzw9 := HBW9.out.size
  clear hb9 hz9 hl9 HG9
  obtain ⟨X, HX⟩ : ∃ X, Hid (X = (w9.alloc (.cells #[.slice F1 m1 g1] 24)).alloc (.cells #[.slice A n c, .int .i64 0, .int .i64 0] 46)) := ⟨_, Lib.hid rfl⟩
  have hXs : X.heap.size = w9.heap.size + 2 := by rw [HX.out]; simp
  have HBX : Hid (Below w9.heap.size w9 X) := Lib.hid (by rw [HX.out]; exact ((Below.refl _ w9).alloc (Nat.le_refl _) _).alloc (by simp) _)
  have HBWX : Hid (Below w.heap.size w X) := Lib.hid (HBW9.out.trans (HBX.out.mono hzw9))
  have KX : Hid (X.heap[w9.heap.size]? = some (.cells #[.slice F1 m1 g1] 24 (0, 0))) := Lib.hid (by rw [HX.out, Below.heap_alloc _ _ _ (by simp)]; exact heap_new w9 _)
  have HRF : Hid (StQ X (w9.heap.size + 1) w.heap.size bs (.inr bs)) := Lib.hid (by
    refine ⟨0, ⟨⟨A, c, ?_, ?_, ?_⟩, Nat.zero_le _, by omega⟩, List.drop_zero⟩
    · rw [HX.out, HLL.out]
      have h := heap_alloc_new (w9.alloc (.cells #[.slice F1 m1 g1] 24)) (.cells #[.slice A n c, .int .i64 0, .int .i64 0] 46)
      rw [World.size_alloc] at h; exact h
    · rw [HLL.out]; exact HR.out.below HBWX.out
    · rw [HLL.out]; exact HC.out)
  have HPR := Lib.hid (catalogQ_any HRF.out (by omega) HBY.out (by omega))
  rw [HX.out] at HPR
  go_wp2_with fail
  refine HPR.out.mono ?_
  rintro e w10 ⟨⟨v10, rfl⟩, hst, hg10⟩
  rw [← HX.out] at hg10
  have HEQ := Lib.hid (endQ_any hst (by omega))
  rw [show endS (restS (upS catP (.inr bs))) = h from HH.out] at HEQ
  have HG10 := Lib.hid hg10
  clear hst hg10 HPR
  go_wp2_with fail
  refine HEQ.out.mono ?_
  rintro e w11 ⟨rfl, hg11, hcE⟩
  have hgx : X.grownBy w11 (some (w9.heap.size + 1)) := grown_add HG10.out hg11
  have HBX11 : Hid (Below w9.heap.size w9 w11) := Lib.hid (HBX.out.grown hgx (by omega) (fun g hg => by injection hg with hg; omega))
  have HBW11 : Hid (Below w.heap.size w w11) := Lib.hid (HBW9.out.trans (HBX11.out.mono hzw9))
  have hk11 : w11.heap[w9.heap.size]? = _ := (hgx.block w9.heap.size (by omega) (fun e => by injection e with e; omega)).trans KX.out
  obtain ⟨t0, _⟩ := row1f hk11
  clear hgx hg11 hk11 HEQ hXs hcE
  by_cases h0 : h = 0
  · subst h0
    obtain ⟨l', o1, o2, o3, o4, o5⟩ := cat_odd HBY.out hbl HH.out
    obtain ⟨rfl, hrd⟩ := ssI.rd (HL9.out _ _ rfl o1)
    have HP12 := Lib.hid (putCat_any (c1 := g1) (hrd.below sv_turns HBX11.out) HBX11.out.size o4 o5)
    rw [o2, o3] at HP12
    clear hrd o1 o2 o3 o4 o5 HL9 HZ9
    go_wp2_with fail
    refine HP12.out.mono ?_
    rintro e w12 ⟨⟨A7, n7, c7, e7, rfl, hend⟩, hb12⟩
    obtain ⟨rfl, hown7⟩ := hend.2 rfl
    obtain ⟨A7', c7', e4, _⟩ := OwnY.shape hown7
    injection e4 with e5 e6 e7
    subst e5 e6 e7
    have HO7 := Lib.hid hown7
    have HBW12 : Hid (Below w.heap.size w w12) := Lib.hid (HBW11.out.trans (hb12.mono HBW11.out.size))
    have HSO := Lib.hid (sameY_any (c := c7) (d := c) (rdY_own HO7.out) ((HR.out.below HBW12.out).more HBW12.out.size) (by omega) hn0)
    clear hown7 hend hb12 HP12
    go_wp2_with fail
    refine HSO.out.mono ?_
    rintro e w13 ⟨rfl, q3, rfl⟩
    rw [sameY_refl]
    go_wp2
    go_ret
    exact ⟨rfl, ⟨HBW12.out.os, HBW12.out.tape, HBW12.out.output, HBW12.out.size, HBW12.out.block⟩⟩
  · obtain rfl := HZ9.out h0
    have hne2 : (h != 0) = true := by simp [h0]
    have hself : (h == h) = true := by simp
    clear HL9 HZ9
    go_wp2
    go_ret
    exact ⟨rfl, HBW11.out⟩
end Go.Proofs.Ytmfoammkcokcoaa
