/-
  CONTRACT of the statements' anchor (the document's example of layer 14), over this translation.
-/
import Derived.Test.YtadajkgiijpakaaWOpe
import Derived.Test.YtadajkgiijpakaaWApp
import Derived.Test.YtadajkgiijpakaaWRec
import Derived.Test.YtadajkgiijpakaaWSam
import Derived.Lib.SlBytesConst
namespace Go.Proofs.Ytadajkgiijpakaa
open Go.RowKit
open ByteP
set_option linter.unusedVariables false
set_option maxRecDepth 10000
set_option maxHeartbeats 4000000 in
theorem anchor_any (w : World) : Calls Try.prog 9 #[] w fun e w' => e = .returned (.bool true) ∧ Below w.heap.size w w' := by
  go_enter Try.func9, Try.ntmps9
  go_wp2_with fail
  refine (new_any w 100 (by omega) (by omega)).mono ?_
  rintro e w1 ⟨db, mb, rfl, hmb, hk1, hb1⟩
  have H1 := Lib.hid hk1
  have HB1 := Lib.hid hb1
  have HMB := Lib.hid hmb
  clear hk1 hb1
  go_wp2_with fail
  refine (open_new (B0 := w.heap.size) H1.out (by omega) rfl rfl (by show (0 : Int) ≤ 0; omega) (by show (100 : Int) ≤ 16777216; omega) (by show (0 : Int) + 9 ≤ 100; omega) HB1.out.size).mono ?_
  rintro e w2 ⟨lb, f1, rfl, hle, hbs1, hn1, hs1, hk2, hL2, hF2, hM2⟩
  obtain ⟨F1, hF1⟩ : ∃ F1, putF (fun _ => none) 0 f1 = F1 := ⟨_, rfl⟩
  rw [hF1] at hk2 hL2 hM2
  have HE1 : Hid (F1 0 = some f1) := Lib.hid (by rw [← hF1]; exact putF_same _ _ _)
  have HP1 := Lib.hid (And.intro hbs1 (And.intro hn1 hs1))
  have H2 := Lib.hid hk2
  have HL2 := Lib.hid hL2
  have HB2 : Hid (Below w.heap.size w w2) := Lib.hid (HB1.out.trans ((hF2.below H1.out).mono HMB.out))
  clear hk2 hL2 hF2 hM2 hF1 hbs1 hn1 hs1 hmb
  have HSZ := Lib.hid (lsize_any HL2.out)
  have HNM := Lib.hid (name_any HL2.out)
  have kc := fun (w : World) (C : Array Value) (n c : Nat) => Lib.run_convert_bytes_const (P := Try.prog) w 26 5 C n c Try.underlying26 Try.underlying5
  have hbl : Below w2.heap.size w2 (w2.alloc (.cells #[.int .u8 97] 5 (1, 2))) := (Below.refl _ _).alloc (Nat.le_refl _) _
  have HAP := Lib.hid (lappend_ok (k := 0) (f := f1) (c := 1) (m := 1) (xs := [97]) (A := some ⟨w2.heap.size, 0, none⟩) (H2.out.below hbl) (HL2.out.below hbl) rfl rfl (by omega) rfl rfl (by show (0 : Int) ≤ 0 + 9; omega) (by show (100 : Int) ≤ 16777216; omega) rfl HE1.out (by simp) (by show (0 : Int) ≤ 9; omega) (by show (9 : Int) ≤ _; omega) HMB.out
    ⟨rfl, fun _ => ⟨w2.heap.size, 0, rfl, by simp, H2.out.notMine (Nat.le_refl _), fun j hj => by
      have : j = 0 := by omega
      subst this
      rw [World.cell?_alloc_mark]; rfl⟩⟩ (bytes_one (by omega) (by omega)) (by omega) (by show (0 : Int) + 9 + ((1 + 9 : Nat) : Int) ≤ 100; omega) (by rw [HP1.out.2.1]; omega))
  clear hbl
  go_wp2_with (first
    | (go_at_call 17; refine HSZ.out.mono ?_; rintro e w9 ⟨rfl, rfl⟩)
    | (go_at_call 16; refine HNM.out.mono ?_; rintro e w9 ⟨rfl, rfl⟩)
    | (go_at_call 24; refine HAP.out.mono ?_; rintro e w3 ⟨rfl, f2, rv2, hbs2, hn2, hs2, hk3, hL3, hF3, hM3⟩; (have HP2 := Lib.hid (And.intro hbs2 hn2)); (have H3 := Lib.hid hk3); (have HL3 := Lib.hid hL3); (have HF3 := Lib.hid hF3); clear hbs2 hn2 hs2 hk3 hL3 hF3 hM3 HAP))
  have HDL : Hid (∀ b, LM (Mine db mb F1) lb (lgNew db 9) b → w.heap.size ≤ b) := Lib.hid (HL2.out.frow (fun b hb => Nat.le_of_not_lt (fun h2 => H2.out.low (by have := HMB.out; omega) hb)))
  have HB3 : Hid (Below w.heap.size w w3) := Lib.hid ((HB2.out.alloc HB2.out.size _).trans (fr_base HF3.out HDL.out (by have := HB2.out.size; simp; omega)))
  have HRD := Lib.hid (read_some H3.out rfl (putF_same F1 0 f2))
  refine HRD.out.mono ?_
  rintro e w4 ⟨A4, c4, rfl, ho4, hb4⟩
  have HO4 := Lib.hid ho4
  have HB4 : Hid (Below w.heap.size w w4) := Lib.hid (HB3.out.trans (hb4.mono HB3.out.size))
  have HL4 := Lib.hid (HL3.out.below hb4)
  clear ho4 hb4 HRD
  have HN2 : Hid (f2.n = 19 ∧ f2.bs = frmP 0 [] ++ frmP 1 [97]) := Lib.hid ⟨by rw [HP2.out.2, HP1.out.2.1], by rw [HP2.out.1, HP1.out.1]⟩
  rw [HN2.out.1, HN2.out.2] at HO4
  rw [HN2.out.1]
  go_wp2_with fail
  refine (refFrm_any (w := w4) (mk := 0) (A := none) (n := 0) (c := 0) (xs := []) (B := w4.heap.size) RdY.nil_ bytes_nil (by omega) (by omega) (by omega) (Nat.le_refl _)).mono ?_
  rintro e w5 ⟨A5, c5, rfl, ho5, hb5⟩
  have HO5 := Lib.hid ho5
  have HB5 := Lib.hid hb5
  have HO45 := Lib.hid (HO4.out.kept hb5)
  clear ho5 hb5
  have hr97 : RdY (w5.alloc (.cells #[.int .u8 97] 5 (1, 2))) (w5.heap.size + 1) (some ⟨w5.heap.size, 0, none⟩) 1 [97] := ⟨rfl, fun _ => ⟨w5.heap.size, 0, rfl, by omega, fun j hj => by
    have : j = 0 := by omega
    subst this
    rw [World.cell?_alloc_mark]; rfl⟩⟩
  have HFR := Lib.hid (refFrm_any (mk := 1) (c := 1) hr97 (bytes_one (by omega) (by omega)) (by omega) (by omega) (by omega) (by simp))
  clear hr97
  go_wp2_with fail
  refine HFR.out.mono ?_
  rintro e w6 ⟨A6, c6, rfl, ho6, hb6⟩
  have hb56 : Below w5.heap.size w5 w6 := ((Below.refl _ _).alloc (Nat.le_refl _) _).trans (hb6.mono (by simp))
  have hr5 : RdY w6 w6.heap.size A5 9 (frmP 0 []) := by
    obtain ⟨A9, c9, hv, hr⟩ := (HO5.out.kept hb56).shape
    injection hv with e1 e2 e3
    subst e1
    exact hr
  have hr6 : RdY w6 w6.heap.size A6 10 (frmP 1 [97]) := by
    obtain ⟨A9, c9, hv, hr⟩ := ho6.shape
    injection hv with e1 e2 e3
    subst e1
    exact hr
  have HJ := Lib.hid (refJoin_any (c := c5) (d := c6) hr5 hr6 (Nat.le_refl _) (by omega))
  have HO46 := Lib.hid (HO45.out.kept hb56)
  have HB6 : Hid (Below w4.heap.size w4 w6) := Lib.hid (HB5.out.trans (hb56.mono HB5.out.size))
  clear ho6 hb6 hb56 hr5 hr6 HFR kc
  go_wp2_with fail
  refine HJ.out.mono ?_
  rintro e w7 ⟨v7, rfl, ho7, hb7⟩
  obtain ⟨A7, c7, rfl, hr7⟩ := ho7.shape
  have hr4 : RdY w7 w7.heap.size A4 19 (frmP 0 [] ++ frmP 1 [97]) := by
    obtain ⟨A9, c9, hv, hr⟩ := (HO46.out.kept hb7).shape
    injection hv with e1 e2 e3
    subst e1
    exact hr
  have HSM := Lib.hid (sameY_any (c := c4) (d := c7) hr4 hr7 (by omega) (by omega))
  rw [sameY_refl] at HSM
  have HB7 : Hid (Below w4.heap.size w4 w7) := Lib.hid (HB6.out.trans (hb7.mono HB6.out.size))
  clear ho7 hb7 hr7 hr4 HJ
  go_wp2_with fail
  refine HSM.out.mono ?_
  rintro e w8 ⟨rfl, q, hq⟩
  have hb48 : Below w4.heap.size w4 w8 := by rw [hq]; exact below_drewN HB7.out q
  have HRC := Lib.hid (records_any (HL4.out.below hb48) (by simp))
  have HB8 : Hid (Below w.heap.size w w8) := Lib.hid (HB4.out.trans (hb48.mono HB4.out.size))
  clear hq hb48 HSM
  go_wp2_with fail
  refine HRC.out.mono ?_
  rintro e w10 ⟨A10, c10, rfl, hrow, hb10⟩
  have HB10 : Hid (Below w.heap.size w w10) := Lib.hid (HB8.out.trans (hb10.mono HB8.out.size))
  clear hrow hb10 HRC
  go_wp2
  go_ret
  exact ⟨rfl, HB10.out⟩
end Go.Proofs.Ytadajkgiijpakaa
