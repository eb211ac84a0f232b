/-
  THE WALK of the statement WalOwn, over this translation.
-/
import Derived.Test.YticklaophgekeaaWJE
import Derived.Test.YticklaophgekeaaWOpe
import Derived.Test.YticklaophgekeaaWSam
import Derived.Test.YticklaophgekeaaWAnc
namespace Go.Proofs.Yticklaophgekeaa
open Go.RowKit
open ByteP
set_option linter.unusedVariables false
set_option maxRecDepth 10000
def firstR (PX : Nat → List Int) (j : Nat) : List (List Int) := (List.range j).map PX
theorem firstR_succ (PX : Nat → List Int) (j : Nat) : firstR PX (j + 1) = firstR PX j ++ [PX j] := by unfold firstR; rw [List.range_succ, List.map_append]; rfl
theorem firstR_len (PX : Nat → List Int) (j : Nat) : (firstR PX j).length = j := by simp [firstR]
theorem firstR_getD (PX : Nat → List Int) {j i : Nat} (h : i < j) : (firstR PX j).getD i [] = PX i := by
  unfold firstR; simp [List.getD, h]
theorem Rd2.below {w w' : World} {B m : Nat} {A : Option Addr} {PA : Nat → Option Addr} {PN PC : Nat → Nat} {PX : Nat → List Int} (h : Rd2 w B A m PA PN PC PX) (hb : Below B w w') : Rd2 w' B A m PA PN PC PX :=
  ⟨fun hm => by
    obtain ⟨b, off, e, hlt, hc⟩ := h.1 hm
    exact ⟨b, off, e, hlt, fun j hj => (hb.cell (p := ⟨b, off + j, none⟩) hlt).trans (hc j hj)⟩, fun j hj => ⟨(h.2 j hj).1.below hb, (h.2 j hj).2⟩⟩
set_option maxHeartbeats 16000000 in
theorem law_own {w : World} {n1 c1 m2 c2 : Nat} {A1 A2 : Option Addr} {bx : List Int} {PA2 : Nat → Option Addr} {PN2 PC2 : Nat → Nat} {PX2 : Nat → List Int} (hx : RdY w w.heap.size A1 n1 bx) (hb : Bytes bx) (hy : Rd2 w w.heap.size A2 m2 PA2 PN2 PC2 PX2) (hm1 : n1 ≤ 9223372036854775807) (hm2 : m2 ≤ 9223372036854775807) :
    Calls Try.prog 8 #[.slice A1 n1 c1, .slice A2 m2 c2] w fun e w' => e = .returned (.bool true) ∧ Below w.heap.size w w' := by
  have HX := Lib.hid hx
  have HBX := Lib.hid hb
  have HY := Lib.hid hy
  have HXL : Hid (bx.length = n1) := Lib.hid hx.1
  clear hx hb hy
  go_enter Try.func8, Try.ntmps8
  go_wp2_with fail
  refine (anchor_any w).mono ?_
  rintro e w0 ⟨rfl, hb0⟩
  have HB0 := Lib.hid hb0
  clear hb0
  by_cases hc1 : 300 < n1
  · have d1 : decide ((300 : Int) < (n1 : Int)) = true := by simp; omega
    go_wp2
    go_ret
    exact ⟨rfl, HB0.out⟩
  have d1 : decide ((300 : Int) < (n1 : Int)) = false := by simp; omega
  by_cases hc2 : 20 < m2
  · have d2 : decide ((20 : Int) < (m2 : Int)) = true := by simp; omega
    go_wp2
    go_ret
    exact ⟨rfl, HB0.out⟩
  have d2 : decide ((20 : Int) < (m2 : Int)) = false := by simp; omega
  go_wp2_with fail
  refine (new_any w0 1048576 (by omega) (by omega)).mono ?_
  rintro e w1 ⟨db, mb, rfl, hmb, hk1, hb1⟩
  have H1 := Lib.hid hk1
  have HB1 : Hid (Below w.heap.size w w1) := Lib.hid (HB0.out.trans (hb1.mono HB0.out.size))
  have HMB : Hid (w.heap.size ≤ mb) := Lib.hid (by have := HB0.out.size; omega)
  clear hk1 hb1 hmb
  go_wp2_with fail
  refine (open_new (B0 := w.heap.size) H1.out (by omega) rfl rfl (show (0 : Int) ≤ 0 by omega) (show (1048576 : Int) ≤ 16777216 by omega) (show (0 : Int) + 9 ≤ 1048576 by omega) HB1.out.size).mono ?_
  rintro e w2 ⟨lb, f1, rfl, hle, hbs1, hn1, hs1, hk2, hL2, hF2, hM2⟩
  have HW2 := Lib.hid (wj_new H1.out HB1.out HMB.out hbs1 hn1 hk2 hL2 hF2)
  have HB2 : Hid (Below w.heap.size w w2) := Lib.hid (HB1.out.trans ((hF2.below H1.out).mono HMB.out))
  clear hk2 hL2 hF2 hM2 hbs1 hn1 hs1 hle d1 d2
  have HX2 : Hid (RdY (w2.alloc (.cells #[] 5)) w.heap.size A1 n1 bx) := Lib.hid ((HX.out.below HB2.out).alloc HB2.out.size _)
  have HO2 := Lib.hid (OwnY.empty w2 w2.heap.size (Nat.le_refl _))
  go_wp2_with (at_builtin; go_must (refine wplY_apps rfl _ _ rfl w2.heap.size _ 0 [] rfl HO2.out w.heap.size A1 n1 c1 bx rfl HX2.out (by omega) (by simp) ?_); intro v3 w3 hown hg hat)
  obtain ⟨A3, c3, rfl, _⟩ := hown.shape
  have HO3 : Hid (OwnY w3 w2.heap.size (.slice A3 n1 c3) n1 bx) := Lib.hid (by
    have h := hown
    rw [Nat.zero_add, List.nil_append] at h
    exact h)
  rw [Nat.zero_add]
  have hb3 : Below w2.heap.size w2 w3 := ((Below.refl _ w2).alloc (Nat.le_refl _) _).grown hg (by simp) (fun k h => by have h' : some w2.heap.size = some k := h; cases h'; exact Nat.le_refl _)
  have HB3 : Hid (Below w.heap.size w w3) := Lib.hid (HB2.out.trans (hb3.mono HB2.out.size))
  have HS3 := Lib.hid hb3.size
  obtain ⟨hw3, hl3, hin3, hr3⟩ := HW2.out.given hb3 HO3.out
  have HIN3 := Lib.hid hin3
  have HRT := Lib.hid (hw3.rotateE (c := c3) hl3 (fun b hb => (hin3 b hb).2) (by omega) (by omega) (by omega) hr3 HBX.out (by omega) (by rw [logL_length_nil]; simp; omega))
  have HWB : Hid (WJ w3 w.heap.size db mb lb 2 1048576 0 (putF (fun _ => none) 0 f1) f1 (lgNew db 9) [] []) := Lib.hid hw3
  clear hown hg hat hb3 hw3 hl3 hin3 hr3 HO2 HX2
  go_wp2_with fail
  refine HRT.out.mono ?_
  rintro e w4 ⟨rfl, F4, f4, v4, hw4, hf4, hl4, hmi4⟩
  have HSP := Lib.hid (HW2.out.spoilt HO3.out HIN3.out HS3.out hw4 hl4 hf4 hmi4)
  have HB4 : Hid (Below w.heap.size w w4) := Lib.hid (HB3.out.trans (HWB.out.bel hf4))
  clear hw4 hf4 hl4 hmi4 HRT
  go_wp2_with fail
  refine (spoil_any (c := c3) HSP.out.1 (by omega)).mono ?_
  rintro e w5 ⟨rfl, _, hf5⟩
  have HW5 := Lib.hid (HSP.out.2 w5 hf5).1
  have HB5 : Hid (Below w.heap.size w w5) := Lib.hid (HB4.out.trans (HSP.out.2 w5 hf5).2)
  clear hf5 HSP HIN3 HS3 HO3 HWB
  go_wp2_with fail
  go_loopw [53] (fun i wr => ∃ (q K : Nat) (F : Int → Option Fi) (f : Fi) (v : LgV), q ≤ m2 ∧ i = .int .i64 (q : Int) ∧ Hid (K ≤ 100 + q) ∧ Hid ((logL bx (firstR PX2 q)).length ≤ 310 * (q + 1)) ∧ Hid (WJ wr w.heap.size db mb lb K 1048576 1 F f v bx (firstR PX2 q)) ∧ Hid (Below w.heap.size w wr)) (fun i _ => m2 - (intOf i).toNat)
  case atStart =>
    refine ⟨0, 2 + 2, F4, f4, v4, Nat.zero_le _, rfl, Lib.hid (by omega), Lib.hid ?_, HW5, HB5⟩
    show (logL bx []).length ≤ _
    rw [logL_length_nil, HXL.out]; omega
  case round =>
    obtain ⟨q, K, F, f, v, hq, rfl, HK, HZ, HW, HB⟩ := hrel
    by_cases hlt : q < m2
    · obtain ⟨b, off, hA2, hbl, hcw⟩ := HY.out.at_ hlt
      have HP := Lib.hid (HY.out.2 q hlt)
      subst hA2
      have hc : wr.cell? ⟨b, off + q, none⟩ = some (.slice (PA2 q) (PN2 q) (PC2 q)) := (HB.out.cell (p := ⟨b, off + q, none⟩) hbl).trans hcw
      obtain ⟨pn, hpn⟩ : ∃ pn, PN2 q = pn := ⟨_, rfl⟩
      rw [hpn] at hc HP
      clear hcw hpn
      by_cases hbig : 300 < pn
      · have d3 : decide ((300 : Int) < (pn : Int)) = true := by simp; omega
        go_wp2
        go_ret
        exact ⟨rfl, HB.out⟩
      have d3 : decide ((300 : Int) < (pn : Int)) = false := by simp; omega
      have HX6 : Hid (RdY (wr.alloc (.cells #[] 5)) w.heap.size (PA2 q) pn (PX2 q)) := Lib.hid ((HP.out.1.below HB.out).alloc HB.out.size _)
      have HO6 := Lib.hid (OwnY.empty wr wr.heap.size (Nat.le_refl _))
      go_wp2_with (at_builtin; go_must (refine wplY_apps rfl _ _ rfl wr.heap.size _ 0 [] rfl HO6.out w.heap.size (PA2 q) pn (PC2 q) (PX2 q) rfl HX6.out (by omega) (by simp) ?_); intro v7 w7 hown hg hat)
      obtain ⟨A7, c7, rfl, _⟩ := hown.shape
      have HO7 : Hid (OwnY w7 wr.heap.size (.slice A7 pn c7) pn (PX2 q)) := Lib.hid (by
        have h := hown
        rw [Nat.zero_add, List.nil_append] at h
        exact h)
      rw [Nat.zero_add]
      have hb7 : Below wr.heap.size wr w7 := ((Below.refl _ wr).alloc (Nat.le_refl _) _).grown hg (by simp) (fun k h => by have h' : some wr.heap.size = some k := h; cases h'; exact Nat.le_refl _)
      have HB7 : Hid (Below w.heap.size w w7) := Lib.hid (HB.out.trans (hb7.mono HB.out.size))
      have HS7 := Lib.hid hb7.size
      obtain ⟨hw7, hl7, hin7, hr7⟩ := HW.out.given hb7 HO7.out
      have HIN7 := Lib.hid hin7
      have HAP := Lib.hid (hw7.appendE (c := c7) hl7 (fun b hb => (hin7 b hb).2) (by have := HK.out; omega) (by omega) hr7 HP.out.2.1 (by omega) (by have := HZ.out; omega))
      have HWB := Lib.hid hw7
      clear hown hg hat hb7 hw7 hl7 hin7 hr7 HO6 HX6
      go_wp2_with fail
      refine HAP.out.mono ?_
      rintro e w8 ⟨rfl, F8, f8, v8, hw8, hf8, hl8, hmi8⟩
      have HSP := Lib.hid (HW.out.spoilt HO7.out HIN7.out HS7.out hw8 hl8 hf8 hmi8)
      have HB8 : Hid (Below w.heap.size w w8) := Lib.hid (HB7.out.trans (HWB.out.bel hf8))
      clear hw8 hf8 hl8 hmi8 HAP
      go_wp2_with fail
      refine (spoil_any (c := c7) HSP.out.1 (by omega)).mono ?_
      rintro e w9 ⟨rfl, _, hf9⟩
      have HW9 := Lib.hid (HSP.out.2 w9 hf9).1
      have HB9 : Hid (Below w.heap.size w w9) := Lib.hid (HB8.out.trans (HSP.out.2 w9 hf9).2)
      clear hf9 HSP HIN7 HS7 HO7 HWB
      go_wp2_with fail
      go_roundw
      case rel =>
        refine ⟨q + 1, K + 1, F8, f8, v8, by omega, by go_num, Lib.hid (by have := HK.out; omega), Lib.hid ?_, Lib.hid ?_, HB9⟩
        · rw [firstR_succ, logL_length_snoc, HP.out.1.1]; have := HZ.out; omega
        · rw [firstR_succ]; exact HW9.out
      case measure => simp [intOf]; omega
    · obtain rfl : q = m2 := by omega
      have HLR : Hid ((firstR PX2 q).length = q) := Lib.hid (firstR_len _ _)
      have HBA := Lib.hid (base_any HW.out.lg)
      have hbn : v.bn = n1 := by rw [← HW.out.lg.base.1, HXL.out]
      rw [hbn] at HBA
      clear hbn
      go_wp2_with (first
        | (go_at_call 19; refine HBA.out.mono ?_; rintro e w3 ⟨A3', c3', rfl, ho3, hb3⟩; (have HU3 : Hid (U8F w3 A3' n1) := Lib.hid (U8F.of (RdK.of_own ho3 (M := fun _ => False) (fun _ _ h => h)) (Fz.own ho3))); (have HS3 : Hid (∀ w4, Fr w3 w4 (InB A3' n1) → Below wr.heap.size wr w4) := Lib.hid (fun w4 h4 => hb3.trans (fr_base h4 (fun b hb => by
            obtain ⟨hn, off, e⟩ := hb
            subst e
            exact ho3.ge b rfl) hb3.size))); clear ho3 hb3 HBA)
        | (go_at_call 31; refine (spoil_any (c := c3') HU3.out (by omega)).mono ?_; rintro e w4 ⟨rfl, _, hf4⟩; (have hb4 := HS3.out w4 hf4); (have HW4 := Lib.hid (HW.out.below hb4)); (have HB4 : Hid (Below w.heap.size w w4) := Lib.hid (HB.out.trans (hb4.mono HB.out.size))); clear hf4 hb4 HS3 HU3))
      have HRC := Lib.hid (records_free HW4.out.lg (by rw [HLR.out]; omega))
      rw [HLR.out] at HRC
      clear HW
      go_wp2_with fail
      refine HRC.out.mono ?_
      rintro e w5 ⟨A5, c5, rfl, hrow5, hb5⟩
      have HROW := Lib.hid hrow5
      have HB5 := Lib.hid hb5
      clear hrow5 hb5 HRC
      go_wp2_with fail
      go_loopw [78] (fun i wr => ∃ j : Nat, j ≤ q ∧ i = .int .i64 (j : Int) ∧ Hid (∀ A' n', U8F w5 A' n' → U8F wr A' n') ∧ Hid (Fr w5 wr (fun b => w4.heap.size ≤ b ∧ (Value.slice A5 q c5).ownBlock ≠ some b))) (fun i _ => q - (intOf i).toNat)
      case atStart => exact ⟨0, Nat.zero_le _, rfl, Lib.hid (fun _ _ h => h), Lib.hid (Fr.refl _ _)⟩
      case round =>
        obtain ⟨j, hj, rfl, HU, HF⟩ := hrel
        by_cases hlt2 : j < q
        · obtain ⟨b, P, pn, pd, e5, hc, hr, hpn, hfz, hnb, hbl⟩ := HROW.out.at_ (by rw [HLR.out]; exact hlt2)
          have hc2 : wr.cell? ⟨b, j, none⟩ = some (.slice P pn pd) := (World.cell?_of_block (HF.out.block b hbl (fun h => h.2 (by rw [e5]; rfl)))).trans hc
          have HUP : Hid (U8F wr P pn) := Lib.hid (HU.out P pn (U8F.of hr hfz))
          have HIN : Hid (∀ b', InB P pn b' → w4.heap.size ≤ b' ∧ (Value.slice A5 q c5).ownBlock ≠ some b') := Lib.hid (fun b' hb' => by
            obtain ⟨hn, off, e⟩ := hb'
            obtain ⟨b2, off2, e2, _, hnm, _⟩ := hr.2 hn
            rw [e] at e2
            injection e2 with e2
            injection e2 with e3 e4
            subst e3
            refine ⟨Nat.le_of_not_lt (fun h => hnm (.inl h)), fun h => hnm (.inr ?_)⟩
            rw [e5] at h
            have h' : some b = some b' := h
            injection h')
          clear hc hr hfz hnb hbl
          subst e5
          go_wp2_with fail
          refine (spoil_any (c := pd) HUP.out (by omega)).mono ?_
          rintro e w6 ⟨rfl, hu6, hf6⟩
          have HU6 : Hid (∀ A' n', U8F w5 A' n' → U8F w6 A' n') := Lib.hid (fun A' n' h => hu6 A' n' (HU.out A' n' h))
          have HF6 : Hid (Fr w5 w6 (fun b' => w4.heap.size ≤ b' ∧ (Value.slice (some ⟨b, 0, none⟩) q c5).ownBlock ≠ some b')) := Lib.hid (HF.out.trans (hf6.less HIN.out) (fun b hb => .inl hb))
          clear hu6 hf6 HUP HIN
          go_wp2_with fail
          go_roundw
          case rel => exact ⟨j + 1, by omega, by go_num, HU6, HF6⟩
          case measure => simp [intOf]; omega
        · obtain rfl : j = q := by omega
          have hb6 : Below w4.heap.size w4 wr := HB5.out.trans (fr_base HF.out (fun b hb => hb.1) HB5.out.size)
          have HW6 := Lib.hid (HW4.out.below hb6)
          have HB6 : Hid (Below w.heap.size w wr) := Lib.hid (HB4.out.trans (hb6.mono HB4.out.size))
          have HOP := Lib.hid (open_one HW6.out (by have := HK.out; omega))
          clear hb6 HU HF HROW HB5
          go_wp2_with fail
          refine HOP.out.mono ?_
          rintro e w7 ⟨lb7, v7, rfl, _, hw7, hf7⟩
          have HW7 := Lib.hid hw7
          have HB7 : Hid (Below w.heap.size w w7) := Lib.hid (HB6.out.trans ((hf7.below HW6.out.dk).mono HW6.out.mbge))
          have HBA7 := Lib.hid (base_any hw7.lg)
          have hbn : v7.bn = n1 := by rw [← hw7.lg.base.1, HXL.out]
          rw [hbn] at HBA7
          clear hbn hw7 hf7 HOP
          go_wp2_with (first
            | (go_at_call 19; refine HBA7.out.mono ?_; rintro e w8 ⟨A8, c8, rfl, ho8, hb8⟩; (have HB8 : Hid (Below w.heap.size w w8) := Lib.hid (HB7.out.trans (hb8.mono HB7.out.size))); (have HW8 := Lib.hid (HW7.out.below hb8)); (have HSB := Lib.hid (sameY_any (c := c8) (d := c1) (ho8.rd (Below.refl _ _)) ((HX.out.below HB8.out).more HB8.out.size) (by omega) (by omega))); rw [sameY_refl bx] at HSB; clear ho8 hb8 HBA7)
            | (go_at_call 18; refine HSB.out.mono ?_; rintro e w9 ⟨rfl, q9, hq9⟩; (have hb9 : Below w8.heap.size w8 w9 := by rw [hq9]; exact below_drewN (Below.refl _ _) q9); (have HB9 : Hid (Below w.heap.size w w9) := Lib.hid (HB8.out.trans (hb9.mono HB8.out.size))); (have HRC := Lib.hid (records_any (HW8.out.below hb9).lg (by rw [HLR.out]; omega))); rw [HLR.out] at HRC; clear hb9 hq9 HSB)
            | (go_at_call 21; refine HRC.out.mono ?_; rintro e wa ⟨Aa, ca, rfl, hrowa, hba⟩; (have HBa : Hid (Below w.heap.size w wa) := Lib.hid (HB9.out.trans (hba.mono HB9.out.size))); (have HS14 := Lib.hid (same14_any (c := ca) (d := c2) hrowa.rdT ((HY.out.below HBa.out).rdT HBa.out.size) (by rw [HLR.out]; omega) (by omega))); (have HYES : Hid (sameT (firstR PX2 j).length (fun i => (firstR PX2 j).getD i []) j PX2 = true) := Lib.hid (by rw [firstR_len]; exact sameT_yes (fun i hi => firstR_getD PX2 hi))); rw [HYES.out, HLR.out] at HS14; clear hrowa hba HRC)
            | (go_at_call 20; refine HS14.out.mono ?_; rintro e wb ⟨rfl, qb, hqb⟩; (have HBb : Hid (Below w.heap.size w wb) := Lib.hid (by rw [hqb]; exact below_drewN HBa.out qb)); clear hqb HS14))
          go_ret
          exact ⟨rfl, HBb.out⟩
end Go.Proofs.Yticklaophgekeaa
