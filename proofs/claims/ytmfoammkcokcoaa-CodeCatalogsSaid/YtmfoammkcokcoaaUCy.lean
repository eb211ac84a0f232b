/-
  CodeCatalogs, over this translation.
-/
import Derived.Test.YtmfoammkcokcoaaUCc
import Derived.Test.YtmfoammkcokcoaaUWc
import Derived.Test.YtmfoammkcokcoaaUAl
namespace Go.Proofs.Ytmfoammkcokcoaa
open Go.RowKit
open ByteP CodeP
set_option linter.unusedVariables false
set_option maxRecDepth 10000
set_option maxHeartbeats 8000000 in
theorem law_catalogs {w : World} {c1 : Nat} {A1 : Option Addr} {l : List Sv}
    (hr : RdG 2 svI w (fun b => w.heap.size ≤ b) A1 l.length l) :
    Calls Try.prog 3 #[.agg #[.slice A1 l.length c1]] w fun e w' => e = .returned (.bool true) ∧ Below w.heap.size w w' := by
  have HR := Lib.hid hr
  have HB0 : Hid (Below w.heap.size w (w.alloc (.cells #[.slice A1 l.length c1] 24))) := Lib.hid ((Below.refl _ w).alloc (Nat.le_refl _) _)
  clear hr
  go_enter Try.func3, Try.ntmps3
  go_wp2_with fail
  refine (anchorE_any _).mono ?_
  rintro e w1 ⟨rfl, hb1⟩
  have HB1 : Hid (Below w.heap.size w w1) := Lib.hid (HB0.out.trans (hb1.mono (by simp)))
  have hk1 : w1.heap[w.heap.size]? = some (.cells #[.slice A1 l.length c1] 24 (0, 0)) := (hb1.block w.heap.size (by simp)).trans (heap_alloc_new w _)
  obtain ⟨x0, _⟩ := row1f hk1
  have K1 := Lib.hid hk1
  have hz1 : w.heap.size < w1.heap.size := heapE_lt hk1
  have HMC := Lib.hid (catM_all (c := c1) (HR.out.below sv_turns HB1.out) (by omega))
  clear hb1 hk1
  go_wp2_with fail
  refine HMC.out.mono ?_
  rintro e z1 ⟨A', n', c', ok, rfl, hbz, hit, hyes⟩
  obtain ⟨w2, HW2E⟩ : ∃ w2, Hid (w2 = z1.alloc (.cells #[.slice A' n' c'] 28)) := ⟨_, Lib.hid rfl⟩
  have hzw2 : w2.heap.size = z1.heap.size + 1 := by rw [HW2E.out]; simp
  have hbz2 : Below z1.heap.size z1 w2 := by rw [HW2E.out]; exact (Below.refl _ z1).alloc (Nat.le_refl _) _
  have KT3 : Hid (w2.heap[z1.heap.size]? = some (.cells #[.slice A' n' c'] 28 (0, 0))) := Lib.hid (by rw [HW2E.out]; exact heap_new z1 _)
  have hbw12 : Below w1.heap.size w1 w2 := hbz.trans (hbz2.mono hbz.size)
  have HBW2 : Hid (Below w.heap.size w w2) := Lib.hid (HB1.out.trans (hbw12.mono (by omega)))
  have K2 : Hid (w2.heap[w.heap.size]? = _) := Lib.hid ((hbw12.block w.heap.size hz1).trans K1.out)
  have HIT := Lib.hid (fun h => And.intro (hit h).1 (ss_turns.kept (hit h).2 hbz2))
  have hzz : w.heap.size < z1.heap.size := Nat.lt_of_lt_of_le hz1 hbz.size
  have HZW2 := Lib.hid hzw2
  clear hbz hit hyes hbz2 hbw12 HMC x0 hzw2
  go_upto_region 4 with fail
  change Code.wp _ _ _ _ (z1.alloc (.cells #[.slice A' n' c'] 28))
  rw [← HW2E.out]
  cases ok with
  | false =>
    go_wp2
    go_ret
    exact ⟨rfl, HBW2.out⟩
  | true =>
    obtain ⟨hsm, hss⟩ := HIT.out rfl
    obtain ⟨hn', hrd⟩ := ssI.rd hss
    subst hn'
    have HSM := Lib.hid hsm
    have HRD := Lib.hid hrd
    clear HIT hsm hss hrd
    have HLN := Lib.hid (catO_le HSM.out)
    have hzr := HBW2.out.size
    have HBA := Lib.hid ((Below.refl w2.heap.size w2).alloc (Nat.le_refl _) (.cells #[.slice none 0 0, .bool false] 34))
    have HPW := Lib.hid (catalogW_any (c1 := c') (Wr.new (T := 34) w2) (HRD.out.below sv_turns HBA.out) (Nat.le_refl _) HSM.out.sh HLN.out.1)
    have KT3a : Hid ((w2.alloc (.cells #[.slice none 0 0, .bool false] 34)).heap[z1.heap.size]? = _) := Lib.hid ((HBA.out.block z1.heap.size (by have := HZW2.out; omega)).trans KT3.out)
    obtain ⟨t0, _⟩ := row1f KT3a.out
    go_wp2_with fail
    refine HPW.out.mono ?_
    rintro e w3 ⟨rfl, hw3, hb3, _⟩
    have HW3 := Lib.hid hw3
    have HB3 : Hid (Below w2.heap.size w2 w3) := Lib.hid (HBA.out.trans hb3)
    have HBW3 : Hid (Below w.heap.size w w3) := Lib.hid (HBW2.out.trans (HB3.out.mono hzr))
    have hp3 : w3.heap[w.heap.size]? = _ := (HB3.out.block w.heap.size (by have := HZW2.out; omega)).trans K2.out
    have KT33 : Hid (w3.heap[z1.heap.size]? = _) := Lib.hid ((HB3.out.block z1.heap.size (by have := HZW2.out; omega)).trans KT3.out)
    have KP3 := Lib.hid hp3
    obtain ⟨p0, _⟩ := row1f hp3
    clear hw3 hb3 hp3 HPW HBA t0
    have HPP := Lib.hid (putCat_any (c1 := c1) (HR.out.below sv_turns HBW3.out) HBW3.out.size HSM.out.sh HLN.out.1)
    go_wp2_with fail
    refine HPP.out.mono ?_
    rintro e w4 ⟨⟨A5, n5, c5, e5, rfl, hend⟩, hb4⟩
    have HEND := Lib.hid hend
    have HB34 := Lib.hid hb4
    have HW4 := Lib.hid (HW3.out.kept hb4)
    have HBW4 : Hid (Below w.heap.size w w4) := Lib.hid (HBW3.out.trans (hb4.mono HBW3.out.size))
    obtain ⟨AW, cW, hrow, hownW⟩ := HW4.out.row
    obtain ⟨hx0, hx1, _, _⟩ := row2 hrow
    have KW4 := Lib.hid hrow
    have HOW := Lib.hid hownW
    clear hrow hownW hend hb4 HPP p0
    cases hbad : badSv l with
    | true =>
      rw [hbad] at hx1
      have he := HEND.out
      rw [hbad] at he
      obtain ⟨e4, rfl⟩ := he.1 rfl
      injection e4 with e5 e6 e7
      subst e5 e6 e7
      clear he hbad
      go_wp2
      go_ret
      exact ⟨rfl, HBW4.out⟩
    | false =>
      rw [hbad] at hx1
      have he := HEND.out
      rw [hbad] at he
      obtain ⟨rfl, hown⟩ := he.2 rfl
      obtain ⟨zs, HZS⟩ : ∃ zs, Hid (catO l = zs) := ⟨_, Lib.hid rfl⟩
      have HWR := Lib.hid (cat_written hbad HSM.out.sh)
      rw [HZS.out] at HWR
      have hzl : zs.length ≤ 1000000000 := by rw [← HZS.out]; have := HLN.out.2.1; omega
      rw [HZS.out] at hown hx0 HOW KW4
      obtain ⟨A5', c5', e4, _⟩ := OwnY.shape hown
      injection e4 with e5 e6 e7
      subst e5 e6 e7
      have HO5 := Lib.hid hown
      have HGP := Lib.hid (getCat_any (rdY_own HO5.out) (capA_own HO5.out) (Nat.le_refl _) HWR.out.1 hzl)
      clear he hbad hown HEND
      go_wp2_with fail
      refine HGP.out.mono ?_
      rintro e w5 ⟨B1, n1, d1, rfl, hb5, hz5, hl5⟩
      have hE0 := HWR.out.2.1
      rw [hE0] at hl5 ⊢
      obtain ⟨rfl, hrd5⟩ := ssI.rd (hl5 _ _ rfl HWR.out.2.2)
      have HB5 := Lib.hid hb5
      have HBA5 := Lib.hid ((Below.refl w5.heap.size w5).alloc (Nat.le_refl _) (.cells #[.slice B1 l.length d1] 24))
      have HM2 := Lib.hid (catM_all (c := d1) (RdG.below sv_turns hrd5 HBA5.out) (by simp))
      clear hrd5 hb5 hl5 hE0 HGP hx0 hx1 hz5
      go_wp2_with fail
      refine HM2.out.mono ?_
      rintro e z6 ⟨A7, n7, c7, ok7, rfl, hbz6, hit6, hyes6⟩
      obtain rfl := hyes6 HSM.out
      obtain ⟨hn7, hrd7⟩ := ssI.rd (hit6 rfl).2
      subst hn7
      obtain ⟨w6, HW6E⟩ : ∃ w6, Hid (w6 = z6.alloc (.cells #[.slice A7 l.length c7] 28)) := ⟨_, Lib.hid rfl⟩
      have hzw6 : w6.heap.size = z6.heap.size + 1 := by rw [HW6E.out]; simp
      have hbz66 : Below z6.heap.size z6 w6 := by rw [HW6E.out]; exact (Below.refl _ z6).alloc (Nat.le_refl _) _
      have KT10 : Hid (w6.heap[z6.heap.size]? = some (.cells #[.slice A7 l.length c7] 28 (0, 0))) := Lib.hid (by rw [HW6E.out]; exact heap_new z6 _)
      have HB56 : Hid (Below w5.heap.size w5 w6) := Lib.hid (HBA5.out.trans ((hbz6.trans (hbz66.mono hbz6.size)).mono (by simp)))
      have HB46 : Hid (Below w4.heap.size w4 w6) := Lib.hid (HB5.out.trans (HB56.out.mono HB5.out.size))
      have HB26 : Hid (Below w2.heap.size w2 w6) := Lib.hid ((HB3.out.trans (HB34.out.mono HB3.out.size)).trans (HB46.out.mono (Nat.le_trans HB3.out.size HB34.out.size)))
      have HBW6 : Hid (Below w.heap.size w w6) := Lib.hid (HBW4.out.trans (HB46.out.mono HBW4.out.size))
      have KT36 : Hid (w6.heap[z1.heap.size]? = _) := Lib.hid ((HB26.out.block z1.heap.size (by have := HZW2.out; omega)).trans KT3.out)
      have KW6 : Hid (w6.heap[w2.heap.size]? = _) := Lib.hid ((HB46.out.block w2.heap.size (heapE_lt KW4.out)).trans KW4.out)
      have HO56 := Lib.hid (HO5.out.kept HB46.out)
      have HOW6 := Lib.hid (HOW.out.kept HB46.out)
      have HRD6 : Hid (RdG 2 svI w6 (fun b => w6.heap.size ≤ b) A' l.length l) := Lib.hid ((RdG.below sv_turns HRD.out HB26.out).turn sv_turns (FrM.refl w6 _) (fun b hb => .inr hb))
      have HRD7 : Hid (RdG 2 svI w6 (fun b => w6.heap.size ≤ b) A7 l.length l) := Lib.hid ((RdG.below sv_turns hrd7 hbz66).turn sv_turns (FrM.refl w6 _) (fun b hb => .inr hb))
      have HS1 := Lib.hid (sameY_any (c := c5) (d := cW) (rdY_own HO56.out) (rdY_own HOW6.out) (by omega) (by omega))
      obtain ⟨hx0, hx1, _, _⟩ := row2 KW6.out
      clear hbz6 hit6 hyes6 hrd7 hzw6 hbz66 HM2
      go_upto_region 13 with fail
      change Code.wp _ _ _ _ (z6.alloc (.cells #[.slice A7 l.length c7] 28))
      rw [← HW6E.out]
      go_wp2_with fail
      refine HS1.out.mono ?_
      rintro e w7 ⟨rfl, q, hw7⟩
      rw [sameY_refl]
      have HD7 : Hid (Below w6.heap.size w6 w7) := Lib.hid (by rw [hw7]; exact ⟨rfl, rfl, rfl, Nat.le_refl _, fun _ _ => rfl⟩)
      have HBW7 : Hid (Below w.heap.size w w7) := Lib.hid (HBW6.out.trans (HD7.out.mono HBW6.out.size))
      obtain ⟨s0, _⟩ := row1f ((HD7.out.block z1.heap.size (heapE_lt KT36.out)).trans KT36.out)
      obtain ⟨s1, _⟩ := row1f ((HD7.out.block z6.heap.size (heapE_lt KT10.out)).trans KT10.out)
      have HAL := Lib.hid (alike_yes (c1 := c7) (c2 := c') (RdG.below sv_turns HRD7.out HD7.out) (RdG.below sv_turns HRD6.out HD7.out) HD7.out.size HSM.out)
      clear hw7 HS1 hx0 hx1
      go_wp2_with fail
      refine HAL.out.mono ?_
      rintro e w8 ⟨rfl, hb8⟩
      have HBW8 : Hid (Below w.heap.size w w8) := Lib.hid (HBW7.out.trans (hb8.mono HBW7.out.size))
      clear hb8
      go_wp2
      go_ret
      exact ⟨rfl, HBW8.out⟩
end Go.Proofs.Ytmfoammkcokcoaa
