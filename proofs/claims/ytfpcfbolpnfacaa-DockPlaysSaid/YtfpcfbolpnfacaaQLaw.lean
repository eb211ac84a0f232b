/-
  DockPlays, over this translation.
-/
import Derived.Test.YtfpcfbolpnfacaaQOpn
import Derived.Test.YtfpcfbolpnfacaaKAnch
namespace Go.Proofs.Ytfpcfbolpnfacaa
open Go.RowKit
open ByteP
set_option linter.unusedVariables false
set_option maxRecDepth 10000
theorem new_none (w : World) (c : Int) (h : c < 0 ∨ 16777216 < c) : Calls Try.prog 5 #[.int .i64 c] w fun e w' => e = .returned (.pointer none) ∧ w' = w := by
  by_cases h0 : c < 0
  · have d1 : decide (c < 0) = true := by simp; omega
    go_enter Try.func5, Try.ntmps5
    go_wp2
    go_ret
    exact ⟨rfl, rfl⟩
  · have d1 : decide (c < 0) = false := by simp; omega
    have d2 : decide (16777216 < c) = true := by simp; omega
    go_enter Try.func5, Try.ntmps5
    go_wp2
    go_ret
    exact ⟨rfl, rfl⟩
/-- The beginning. -/
theorem pl_start {w w1 : World} {db mb : Nat} {c : Int} (hk : Dk w1 db mb 0 ⟨c, 0, -1, false⟩ (fun _ => none)) (hb : Below w.heap.size w w1) (hmb : w.heap.size ≤ mb) (h0 : 0 ≤ c) (h1 : c ≤ 16777216) :
    PlE (w1.alloc (.cells #[.slice none 0 0, .int .i64 c, .int .i64 0, .bool false, .bool false] 29)) w db mb w1.heap.size 0 := by
  have hs := hb.size
  refine ⟨0, _, _, none, 0, ⟨c, 0, false, false⟩, [], ⟨hk.alloc _, ⟨⟨?_, OwnF.nil_ _ _, (fun g hg => by cases hg)⟩, hs, fun hm => ?_, (fun g hg => by cases hg), (fun x hx => by cases hx)⟩, hb.alloc hs _, hmb⟩,
    ⟨(fun i j hij hj => by simp at hj), (fun i hi => by simp at hi), (fun k hk => by cases hk)⟩, ⟨rfl, rfl, rfl, nofun, (by show (0 : Int) ≤ _; omega)⟩, rfl, by omega, by omega, by simp, (fun i hi => by simp at hi), h0, h1⟩
  · exact heap_alloc_new w1 _
  · have := hk.mlt _ hm; omega
set_option maxHeartbeats 40000000 in
theorem law_dockplays {w : World} {cap : Int} {A : Option Addr} {m c : Nat} {o : Nat → OpV} (ho : RdO w w.heap.size A m o) (hm : m ≤ 9223372036854775807) :
    Calls Try.prog 3 #[.int .i64 cap, .slice A m c] w fun e w' => e = .returned (.bool true) ∧ Below w.heap.size w w' := by
  have HO := Lib.hid ho
  clear ho
  go_enter Try.func3, Try.ntmps3
  go_wp2_with fail
  refine (anchor_any w).mono ?_
  rintro e w0 ⟨rfl, hb0⟩
  have HB0 := Lib.hid hb0
  have hz0 := hb0.size
  clear hb0
  by_cases hc : cap < 0 ∨ 16777216 < cap
  · by_cases h0 : cap < 0
    · have d1 : decide (cap < 0) = true := by simp; omega
      go_wp2_with fail
      refine (new_none w0 cap hc).mono ?_
      rintro e w1 ⟨rfl, rfl⟩
      go_wp2
      go_ret
      exact ⟨rfl, HB0.out⟩
    · have d1 : decide (cap < 0) = false := by simp; omega
      have d2 : decide (16777216 < cap) = true := by simp; omega
      go_wp2_with fail
      refine (new_none w0 cap hc).mono ?_
      rintro e w1 ⟨rfl, rfl⟩
      go_wp2
      go_ret
      exact ⟨rfl, HB0.out⟩
  have d1 : decide (cap < 0) = false := by simp; omega
  have d2 : decide (16777216 < cap) = false := by simp; omega
  go_wp2_with fail
  refine (new_any w0 cap (by omega) (by omega)).mono ?_
  rintro e w1 ⟨db, mb, rfl, hmb, hk1, hb1⟩
  have HB1 : Hid (Below w.heap.size w w1) := Lib.hid (HB0.out.trans (hb1.mono hz0))
  have HST := Lib.hid (pl_start hk1 HB1.out (Nat.le_trans hz0 hmb) (by omega) (by omega))
  clear hk1 hb1 hmb
  by_cases hm0 : 100 < m
  · have d3 : decide ((100 : Int) < (m : Int)) = true := by simp; omega
    go_wp2
    go_ret
    exact ⟨rfl, HB1.out⟩
  have d3 : decide ((100 : Int) < (m : Int)) = false := by simp; omega
  go_wp2_with fail
  obtain ⟨tb, htb⟩ : ∃ tb, tb = w1.heap.size := ⟨_, rfl⟩
  rw [← htb] at HST ⊢
  generalize w1.alloc (.cells #[.slice none 0 0, .int .i64 cap, .int .i64 0, .bool false, .bool false] 29) = w2 at HST ⊢
  clear htb
  go_wp2_with fail
  go_loopw [8, 34] (fun v8 i wr => ∃ j : Nat, j ≤ m ∧ i = .int .i64 (j : Int) ∧ Hid (PlE wr w db mb tb j)) (fun _ i _ => m - (intOf i).toNat)
  case atStart => exact ⟨0, by omega, rfl, HST⟩
  case round =>
    clear HST
    obtain ⟨j, hj, rfl, hat⟩ := hrel
    obtain ⟨wo, hwo⟩ : ∃ x, x = wr := ⟨_, rfl⟩
    subst hwo
    obtain ⟨K, nm, F, A2, c2, n2, L, hpm, hpp⟩ := hat.out
    have HPM := Lib.hid hpm
    have HPP := Lib.hid hpp
    have HBW := Lib.hid hpm.bel
    have hz := hpm.bel.size
    clear hat hpm hpp
    by_cases hjm : j < m
    · have hi : (j : Int) < (m : Int) := by omega
      obtain ⟨b, off, rfl, hlt, x0, x1, x2, x3, x4, hnb, hnn, hdy, hdb, hks⟩ := (HO.out.below HBW.out) j hjm
      have hdyw := HO.out.data hjm
      have hksw := HO.out.keeps hjm
      generalize o j = v at *
      obtain ⟨kd, nme, nn, dA, dn, dc, ds, kA, kn, kc, ks⟩ := v
      simp only at x0 x1 x2 x3 x4 hnb hnn hdy hdb hks hdyw hksw
      have HDB := Lib.hid hdb
      have HDY := Lib.hid hdyw
      have HKS := Lib.hid hksw
      have hn1 := hnb.1
      have hn2 := hnb.2
      clear hdyw hksw hdb hdy hks hlt hnb
      by_cases hdn : 500 < dn
      · have e1 : decide ((500 : Int) < (dn : Int)) = true := by simp; omega
        go_wp2
        go_ret
        exact ⟨rfl, HBW.out.alloc hz _⟩
      have e1 : decide ((500 : Int) < (dn : Int)) = false := by simp; omega
      by_cases hkn : 100 < kn
      · have e2 : decide ((100 : Int) < (kn : Int)) = true := by simp; omega
        go_wp2
        go_ret
        exact ⟨rfl, HBW.out.alloc hz _⟩
      have e2 : decide ((100 : Int) < (kn : Int)) = false := by simp; omega
      have HA := Lib.hid (HPM.out.below ((Below.refl _ wo).alloc (Nat.le_refl _) (.cells #[.int .i64 kd, .int .i64 nme, .int .i64 nn, .slice dA dn dc, .slice kA kn kc] 33)))
      have HSTEP : Hid (Calls Try.prog 6 #[.pointer (some ⟨db, 0, none⟩), .pointer (some ⟨tb, 0, none⟩), opVal kd nme nn dA dn dc kA kn kc] (wo.alloc (.cells #[.int .i64 kd, .int .i64 nme, .int .i64 nn, .slice dA dn dc, .slice kA kn kc] 33)) fun e w' => e = .returned (.bool true) ∧ PlE w' w db mb tb (j + 1)) := Lib.hid (by
        by_cases h1 : kd = 1
        · subst h1; exact step1 HA.out HPP.out (by omega) hn1 hn2 hnn (by omega) HDY.out HDB.out HKS.out (by omega)
        by_cases h2 : kd = 2
        · subst h2; exact step2 HA.out HPP.out (by omega) hn1 hn2 hnn (by omega) HDY.out HDB.out HKS.out (by omega)
        by_cases h3 : kd = 3
        · subst h3; exact step3 HA.out HPP.out (by omega) hn1 hn2 hnn (by omega) HDY.out HDB.out HKS.out (by omega)
        by_cases h4 : kd = 4
        · subst h4; exact step4 HA.out HPP.out (by omega) hn1 hn2 hnn (by omega) HDY.out HDB.out HKS.out (by omega)
        by_cases h5 : kd = 5
        · subst h5; exact step5 HA.out HPP.out (by omega) hn1 hn2 hnn (by omega) HDY.out HDB.out HKS.out (by omega)
        by_cases h6 : kd = 6
        · subst h6; exact step6 HA.out HPP.out (by omega) hn1 hn2 hnn (by omega) HDY.out HDB.out HKS.out (by omega)
        by_cases h7 : kd = 7
        · subst h7; exact step7 HA.out HPP.out (by omega) hn1 hn2 hnn (by omega) HDY.out HDB.out HKS.out (by omega)
        by_cases h8 : kd = 8
        · subst h8; exact step8 HA.out HPP.out (by omega) hn1 hn2 hnn (by omega) HDY.out HDB.out HKS.out (by omega)
        exact step0 HA.out HPP.out (by omega) hn1 hn2 hnn (by omega) HDY.out HDB.out HKS.out (by omega) h1 h2 h3 h4 h5 h6 h7 h8)
      unfold opVal at HSTEP
      go_wp2_with fail
      refine HSTEP.out.mono ?_
      rintro e w5 ⟨rfl, hpe⟩
      obtain ⟨K', nm', F', A3, c3, n3, L', hpm, hpp⟩ := hpe
      have HPM5 := Lib.hid hpm
      have HPP5 := Lib.hid hpp
      clear hpm hpp HSTEP x0 x1 x2 x3 x4
      go_wp2_with fail
      refine (like_any HPM5.out HPP5.out).mono ?_
      rintro e w6 ⟨rfl, hpm⟩
      have HPE : Hid (PlE w6 w db mb tb (j + 1)) := Lib.hid ⟨K', nm', F', A3, c3, n3, L', hpm, HPP5.out⟩
      clear hpm
      go_wp2_with fail
      exact ⟨⟨j + 1, by omega, by go_num, HPE⟩, by simp [intOf]; omega⟩
    · have hi : ¬ (j : Int) < (m : Int) := by omega
      go_wp2
      go_ret
      exact ⟨rfl, HBW.out⟩
end Go.Proofs.Ytfpcfbolpnfacaa
