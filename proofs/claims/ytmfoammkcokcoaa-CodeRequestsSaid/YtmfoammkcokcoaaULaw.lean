/-
  CodeRequests, over this translation.
-/
import Derived.Test.YtmfoammkcokcoaaULb
namespace Go.Proofs.Ytmfoammkcokcoaa
open Go.RowKit
open ByteP CodeP
set_option linter.unusedVariables false
set_option maxRecDepth 10000
set_option maxHeartbeats 16000000 in
theorem law_requests {w : World} {n c c1 c2 : Nat} {A A1 A2 : Option Addr} {l : List (Int × List (List CV))} {ms bs : List Int}
    (r1 : RdN w w.heap.size A1 l.length l) (r2 : Rd w w.heap.size A2 ms.length ms)
    (hr : RdY w w.heap.size A n bs) (hb : Bytes bs) (hc : CapA A n c) (hn0 : n ≤ 9223372036854775807) :
    Calls Try.prog 5 #[.agg #[.slice A1 l.length c1, .slice A2 ms.length c2], .slice A n c] w fun e w' => e = .returned (.bool true) ∧ Below w.heap.size w w' := by
  have HR := Lib.hid hr
  have HBY := Lib.hid hb
  have HC := Lib.hid hc
  have HLL := Lib.hid hr.len
  have R1 := Lib.hid r1
  have R2 := Lib.hid r2
  have HB0 : Hid (Below w.heap.size w (w.alloc (.cells #[.slice A1 l.length c1, .slice A2 ms.length c2] 53))) := Lib.hid ((Below.refl _ w).alloc (Nat.le_refl _) _)
  clear hr hb hc r1 r2
  go_enter Try.func5, Try.ntmps5
  go_wp2_with fail
  refine (anchorE_any _).mono ?_
  rintro e w1 ⟨rfl, hb1⟩
  have HB1 : Hid (Below w.heap.size w w1) := Lib.hid (HB0.out.trans (hb1.mono (by simp)))
  have hk1 : w1.heap[w.heap.size]? = some (.cells #[.slice A1 l.length c1, .slice A2 ms.length c2] 53 (0, 0)) := (hb1.block w.heap.size (by simp)).trans (heap_alloc_new w _)
  obtain ⟨x0, x1, _, _⟩ := row2 hk1
  have K1 := Lib.hid hk1
  have hz1 : w.heap.size < w1.heap.size := heapE_lt hk1
  have HM := Lib.hid (requestM_any (m := ms.length) (c1 := c1) (c2 := c2) (A2 := A2) (R1.out.below HB1.out) (by omega))
  clear hb1 hk1
  go_wp2_with fail
  refine HM.out.mono ?_
  rintro e z1 ⟨A', n', c', ok, rfl, hbz, hit⟩
  obtain ⟨w2, HW2E⟩ : ∃ w2, Hid (w2 = z1.alloc (.cells #[.slice A' n' c', .slice A2 ms.length c2] 56)) := ⟨_, Lib.hid rfl⟩
  have hzw2 : w2.heap.size = z1.heap.size + 1 := by rw [HW2E.out]; simp
  have hbz2 : Below z1.heap.size z1 w2 := by rw [HW2E.out]; exact (Below.refl _ z1).alloc (Nat.le_refl _) _
  have KT5 : Hid (w2.heap[z1.heap.size]? = some (.cells #[.slice A' n' c', .slice A2 ms.length c2] 56 (0, 0))) := Lib.hid (by rw [HW2E.out]; exact heap_new z1 _)
  have hbw12 : Below w1.heap.size w1 w2 := hbz.trans (hbz2.mono hbz.size)
  have HBW2 : Hid (Below w.heap.size w w2) := Lib.hid (HB1.out.trans (hbw12.mono (by omega)))
  have K2 : Hid (w2.heap[w.heap.size]? = _) := Lib.hid ((hbw12.block w.heap.size hz1).trans K1.out)
  have HIT := Lib.hid (fun h => And.intro (hit h).1 (And.intro (hit h).2.1 (ps_turns.kept (hit h).2.2 hbz2)))
  have hzz : w.heap.size < z1.heap.size := Nat.lt_of_lt_of_le hz1 hbz.size
  have HZW2 := Lib.hid hzw2
  clear hbz hit hbz2 hbw12 HM x0 x1 hzw2
  go_upto_region 4 with fail
  change Code.wp _ _ _ _ (z1.alloc (.cells #[.slice A' n' c', .slice A2 ms.length c2] 56))
  rw [← HW2E.out]
  cases ok with
  | false =>
    go_wp2
    go_ret
    exact ⟨rfl, HBW2.out⟩
  | true =>
    obtain ⟨hsm, hm100, hps⟩ := HIT.out rfl
    have HSM := Lib.hid hsm
    have HPS := Lib.hid hps.rd
    have hn' := hps.rd.1
    subst hn'
    clear HIT hsm hps
    by_cases h5 : 1000 < n
    · have d5 : decide ((1000 : Int) < (n : Int)) = true := by simp; omega
      go_wp2
      go_ret
      exact ⟨rfl, HBW2.out⟩
    have d5 : decide ((1000 : Int) < (n : Int)) = false := by simp; omega
    have hlen := rqO_len HSM.out hm100
    have HLN := Lib.hid hlen
    have hzr := HBW2.out.size
    have HRD : Hid (RdRq w2 w2.heap.size A' A2 l ms) := Lib.hid ⟨HPS.out, (R2.out.below HBW2.out).more hzr, HSM.out.sh, by omega, hlen.1⟩
    have HR0 : Hid (RdRq w w.heap.size A1 A2 l ms) := Lib.hid ⟨R1.out, R2.out, HSM.out.sh, by omega, hlen.1⟩
    have HBA := Lib.hid ((Below.refl w2.heap.size w2).alloc (Nat.le_refl _) (.cells #[.slice none 0 0, .bool false] 34))
    have HPW := Lib.hid (requestW_any (xs := []) (c1 := c') (c2 := c2) (Wr.new (T := 34) w2) (HRD.out.below HBA.out) (Nat.le_refl _))
    have KT5a : Hid ((w2.alloc (.cells #[.slice none 0 0, .bool false] 34)).heap[z1.heap.size]? = _) := Lib.hid ((HBA.out.block z1.heap.size (by have := HZW2.out; omega)).trans KT5.out)
    obtain ⟨t0, t1, _, _⟩ := row2 KT5a.out
    clear hlen HRD
    go_wp2_with fail
    refine HPW.out.mono ?_
    rintro e w3 ⟨rfl, hw3, hb3, _⟩
    have HW3 := Lib.hid hw3
    have HB3 : Hid (Below w2.heap.size w2 w3) := Lib.hid (HBA.out.trans hb3)
    have hz3 := HB3.out.size
    have HBW3 : Hid (Below w.heap.size w w3) := Lib.hid (HBW2.out.trans (HB3.out.mono hzr))
    have hp3 : w3.heap[w.heap.size]? = _ := (HB3.out.block w.heap.size (by have := HZW2.out; omega)).trans K2.out
    have KP3 := Lib.hid hp3
    obtain ⟨p0, p1, _, _⟩ := row2 hp3
    clear hw3 hb3 hp3 HPW HBA t0 t1
    have HPP := Lib.hid (putRq_any (c1 := c1) (c2 := c2) (HR0.out.below HBW3.out) HBW3.out.size)
    go_wp2_with fail
    refine HPP.out.mono ?_
    rintro e w4 ⟨⟨A5, n5, c5, e5, rfl, hend⟩, hb4⟩
    have HEND := Lib.hid hend
    have HW4 := Lib.hid (HW3.out.kept hb4)
    have HBW4 : Hid (Below w.heap.size w w4) := Lib.hid (HBW3.out.trans (hb4.mono HBW3.out.size))
    have hp4 : w4.heap[w.heap.size]? = _ := (hb4.block w.heap.size (heapE_lt KP3.out)).trans KP3.out
    have KP4 := Lib.hid hp4
    obtain ⟨s0, s1, _, _⟩ := row2 hp4
    obtain ⟨AW, cW, hrow, hownW⟩ := HW4.out.row
    obtain ⟨hx0, hx1, _, _⟩ := row2 hrow
    have KW4 := Lib.hid hrow
    have HOW := Lib.hid hownW
    clear hrow hownW hend hb4 hp4 HPP p0 p1
    cases hbad : rqB l ms with
    | true =>
      rw [hbad] at hx1
      have he := HEND.out
      rw [hbad] at he
      obtain ⟨e4, rfl⟩ := he.1 rfl
      injection e4 with e5 e6 e7
      subst e5 e6 e7
      clear he hbad
      go_wp2
      go_ret
      exact ⟨rfl, HBW4.out⟩
    | false =>
      rw [hbad] at hx1
      have he := HEND.out
      rw [hbad] at he
      obtain ⟨rfl, hown⟩ := he.2 rfl
      obtain ⟨zs, HZS⟩ : ∃ zs, Hid (rqO l ms = zs) := ⟨_, Lib.hid rfl⟩
      have HWR := Lib.hid (rq_written hbad HSM.out.sh (show ms.length ≤ 10000 by omega))
      rw [HZS.out] at HWR
      have hzl : zs.length ≤ 1000000000 := by rw [← HZS.out]; exact HLN.out.2
      rw [HZS.out] at hown hx0 HOW KW4
      obtain ⟨A5', c5', e4, _⟩ := OwnY.shape hown
      injection e4 with e5 e6 e7
      subst e5 e6 e7
      have HO5 := Lib.hid hown
      have HBAD := Lib.hid hbad
      have HGP := Lib.hid (getRq_any (rdY_own HO5.out) (capA_own HO5.out) (Nat.le_refl _) HWR.out.1 hzl)
      clear he hbad hown HEND
      go_wp2_with fail
      refine HGP.out.mono ?_
      rintro e w5 ⟨B1, n1, d1, B2, n2, d2, rfl, hb5, _, hl5⟩
      have hE0 := HWR.out.2.1
      rw [hE0] at hl5 ⊢
      obtain ⟨rfl, rfl, hrd5⟩ := rqI.rd (hl5 _ _ rfl HWR.out.2.2) HR0.out.sh HR0.out.l2 HR0.out.ln
      have HRD5 := Lib.hid hrd5
      have HB5 := Lib.hid hb5
      have HBA5 := Lib.hid ((Below.refl w5.heap.size w5).alloc (Nat.le_refl _) (.cells #[.slice B1 l.length d1, .slice B2 ms.length d2] 53))
      have HPQ := Lib.hid (putRq_any (c1 := d1) (c2 := d2) (HRD5.out.below HBA5.out) (by simp))
      clear hrd5 hb5 hl5 hE0 HGP s0 s1 hx0 hx1
      go_wp2_with fail
      refine HPQ.out.mono ?_
      rintro e w6 ⟨⟨A6, n6, c6, e6, rfl, hend⟩, hb6⟩
      rw [HZS.out, HBAD.out] at hend
      obtain ⟨rfl, hown6⟩ := hend.2 rfl
      obtain ⟨A6', c6', e4, _⟩ := OwnY.shape hown6
      injection e4 with e5 e6 e7
      subst e5 e6 e7
      have HO6 := Lib.hid hown6
      have HB56 : Hid (Below w5.heap.size w5 w6) := Lib.hid (HBA5.out.trans (hb6.mono (by simp)))
      have HB46 : Hid (Below w4.heap.size w4 w6) := Lib.hid (HB5.out.trans (HB56.out.mono HB5.out.size))
      have HBW6 : Hid (Below w.heap.size w w6) := Lib.hid (HBW4.out.trans (HB46.out.mono HBW4.out.size))
      have KP6 : Hid (w6.heap[w.heap.size]? = _) := Lib.hid ((HB46.out.block w.heap.size (heapE_lt KP4.out)).trans KP4.out)
      have KQ6 : Hid (w6.heap[w5.heap.size]? = _) := Lib.hid ((hb6.block w5.heap.size (by simp)).trans (heap_new w5 _))
      have KW6 : Hid (w6.heap[w2.heap.size]? = _) := Lib.hid ((HB46.out.block w2.heap.size (heapE_lt KW4.out)).trans KW4.out)
      have HO56 := Lib.hid (HO5.out.kept HB46.out)
      have HOW6 := Lib.hid (HOW.out.kept HB46.out)
      have HRD6 : Hid (Rd w6 w5.heap.size B2 ms.length ms) := Lib.hid (HRD5.out.r2.below HB56.out)
      have HS1 := Lib.hid (sameY_any (c := c5) (d := cW) (rdY_own HO56.out) (rdY_own HOW6.out) (by omega) (by omega))
      obtain ⟨hx0, hx1, _, _⟩ := row2 KW6.out
      clear hown6 hend hb6 HPQ
      go_wp2_with fail
      refine HS1.out.mono ?_
      rintro e w7 ⟨rfl, q, hw7⟩
      rw [sameY_refl]
      have HD7 : Hid (Below w6.heap.size w6 w7) := Lib.hid (by rw [hw7]; exact ⟨rfl, rfl, rfl, Nat.le_refl _, fun _ _ => rfl⟩)
      have HS2 := Lib.hid (sameY_any (c := c6) (d := c5) (rdY_own (HO6.out.kept HD7.out)) (rdY_own (HO56.out.kept HD7.out)) (by omega) (by omega))
      clear hw7 HS1 hx0 hx1
      go_wp2_with fail
      refine HS2.out.mono ?_
      rintro e w8 ⟨rfl, q2, hw8⟩
      rw [sameY_refl]
      have HD8 : Hid (Below w6.heap.size w6 w8) := Lib.hid (HD7.out.trans (by rw [hw8]; exact ⟨rfl, rfl, rfl, Nat.le_refl _, fun _ _ => rfl⟩))
      have HBW8 : Hid (Below w.heap.size w w8) := Lib.hid (HBW6.out.trans (HD8.out.mono HBW6.out.size))
      obtain ⟨s0, s1, _, _⟩ := row2 ((HD8.out.block w.heap.size (heapE_lt KP6.out)).trans KP6.out)
      obtain ⟨t0, t1, _, _⟩ := row2 ((HD8.out.block w5.heap.size (heapE_lt KQ6.out)).trans KQ6.out)
      have HIY := Lib.hid (ints_yes (c1 := d2) (c2 := c2) (HRD6.out.below (HD8.out.mono HB56.out.size)) (R2.out.below HBW8.out) (by omega))
      clear hw8 HS2
      go_wp2_with fail
      refine HIY.out.mono ?_
      rintro e w8' ⟨rfl, hw8'⟩
      obtain rfl : w8 = w8' := hw8'
      have hz8 := HBW8.out.size
      have hbl : bs.length ≤ 1000 := by have := HLL.out; omega
      have HG9 := Lib.hid (getRq_any (HR.out.below HBW8.out) HC.out hz8 HBY.out (by omega))
      clear HIY
      go_wp2_with fail
      refine HG9.out.mono ?_
      rintro e w9 ⟨F1, m1, g1, F2, m2, g2, rfl, hb9, hz9, hl9⟩
      obtain ⟨h, HH⟩ : ∃ h, Hid (endP rqP bs = h) := ⟨_, Lib.hid rfl⟩
      rw [HH.out] at hz9 hl9 ⊢
      have HBW9 : Hid (Below w.heap.size w w9) := Lib.hid (HBW8.out.trans (hb9.mono hz8))
      have HZ9 := Lib.hid hz9
      have HL9 := Lib.hid hl9
      have hzw9 := HBW9.out.size
      clear hb9 hz9 hl9 s0 s1 t0 t1
      obtain ⟨X, HX⟩ : ∃ X, Hid (X = (w9.alloc (.cells #[.slice F1 m1 g1, .slice F2 m2 g2] 53)).alloc (.cells #[.slice A n c, .int .i64 0, .int .i64 0] 46)) := ⟨_, Lib.hid rfl⟩
      have hXs : X.heap.size = w9.heap.size + 2 := by rw [HX.out]; simp
      have HBX : Hid (Below w9.heap.size w9 X) := Lib.hid (by rw [HX.out]; exact ((Below.refl _ w9).alloc (Nat.le_refl _) _).alloc (by simp) _)
      have HBWX : Hid (Below w.heap.size w X) := Lib.hid (HBW9.out.trans (HBX.out.mono hzw9))
      have KX : Hid (X.heap[w9.heap.size]? = some (.cells #[.slice F1 m1 g1, .slice F2 m2 g2] 53 (0, 0))) := Lib.hid (by rw [HX.out, Below.heap_alloc _ _ _ (by simp)]; exact heap_new w9 _)
      have HRF : Hid (StQ X (w9.heap.size + 1) w.heap.size bs (.inr bs)) := Lib.hid (by
        refine ⟨0, ⟨⟨A, c, ?_, ?_, ?_⟩, Nat.zero_le _, by omega⟩, List.drop_zero⟩
        · rw [HX.out, HLL.out]
          have h := heap_alloc_new (w9.alloc (.cells #[.slice F1 m1 g1, .slice F2 m2 g2] 53)) (.cells #[.slice A n c, .int .i64 0, .int .i64 0] 46)
          rw [World.size_alloc] at h; exact h
        · rw [HLL.out]; exact HR.out.below HBWX.out
        · rw [HLL.out]; exact HC.out)
      have HPR := Lib.hid (requestQ_any HRF.out (by omega) HBY.out (by omega))
      rw [HX.out] at HPR
      go_wp2_with fail
      refine HPR.out.mono ?_
      rintro e w10 ⟨⟨v10, rfl⟩, hst, hg10⟩
      rw [← HX.out] at hg10
      have HEQ := Lib.hid (endQ_any hst (by omega))
      rw [show endS (restS (upS rqP (.inr bs))) = h from HH.out] at HEQ
      have HG10 := Lib.hid hg10
      clear hst hg10 HPR
      go_wp2_with fail
      refine HEQ.out.mono ?_
      rintro e w11 ⟨rfl, hg11, hcE⟩
      have hgx : X.grownBy w11 (some (w9.heap.size + 1)) := grown_add HG10.out hg11
      have HBX11 : Hid (Below w9.heap.size w9 w11) := Lib.hid (HBX.out.grown hgx (by omega) (fun g hg => by injection hg with hg; omega))
      have HBW11 : Hid (Below w.heap.size w w11) := Lib.hid (HBW9.out.trans (HBX11.out.mono hzw9))
      have hk11 : w11.heap[w9.heap.size]? = _ := (hgx.block w9.heap.size (by omega) (fun e => by injection e with e; omega)).trans KX.out
      obtain ⟨t0, t1, _, _⟩ := row2 hk11
      clear hgx hg11 hk11 HEQ hXs
      by_cases h0 : h = 0
      · subst h0
        obtain ⟨l', ms', o1, o2, o3, o4, o5, o6⟩ := rq_odd HBY.out hbl HH.out
        obtain ⟨rfl, rfl, hrd⟩ := rqI.rd (HL9.out _ _ rfl o1) o4 o5 o6
        have HP12 := Lib.hid (putRq_any (c1 := g1) (c2 := g2) (hrd.below HBX11.out) HBX11.out.size)
        rw [o2, o3] at HP12
        clear hrd o1 o2 o3 o4 o5 o6 HL9 HZ9
        go_wp2_with fail
        refine HP12.out.mono ?_
        rintro e w12 ⟨⟨A7, n7, c7, e7, rfl, hend⟩, hb12⟩
        obtain ⟨rfl, hown7⟩ := hend.2 rfl
        obtain ⟨A7', c7', e4, _⟩ := OwnY.shape hown7
        injection e4 with e5 e6 e7
        subst e5 e6 e7
        have HO7 := Lib.hid hown7
        have HBW12 : Hid (Below w.heap.size w w12) := Lib.hid (HBW11.out.trans (hb12.mono HBW11.out.size))
        have HSO := Lib.hid (sameY_any (c := c7) (d := c) (rdY_own HO7.out) ((HR.out.below HBW12.out).more HBW12.out.size) (by omega) hn0)
        clear hown7 hend hb12 HP12
        go_wp2_with fail
        refine HSO.out.mono ?_
        rintro e w13 ⟨rfl, q3, rfl⟩
        rw [sameY_refl]
        go_wp2
        go_ret
        exact ⟨rfl, ⟨HBW12.out.os, HBW12.out.tape, HBW12.out.output, HBW12.out.size, HBW12.out.block⟩⟩
      · obtain ⟨rfl, rfl⟩ := HZ9.out h0
        have hne2 : (h != 0) = true := by simp [h0]
        have hself : (h == h) = true := by simp
        clear HL9 HZ9
        go_wp2
        go_ret
        exact ⟨rfl, HBW11.out⟩
end Go.Proofs.Ytmfoammkcokcoaa
