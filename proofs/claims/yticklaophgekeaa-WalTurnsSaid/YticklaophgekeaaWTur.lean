/-
  THE WALK of the statement WalTurns, over this translation.
-/
import Derived.Test.YticklaophgekeaaWJ
namespace Go.Proofs.Yticklaophgekeaa
open Go.RowKit
open ByteP
set_option linter.unusedVariables false
set_option maxRecDepth 10000
def lastOf (PX : Nat → List Int) (i : Nat) : List Int := if i = 0 then [] else PX (i - 1)
def firstOf (PX : Nat → List Int) (j : Nat) : List (List Int) := (List.range j).map PX
theorem firstOf_succ (PX : Nat → List Int) (j : Nat) : firstOf PX (j + 1) = firstOf PX j ++ [PX j] := by unfold firstOf; rw [List.range_succ, List.map_append]; rfl
theorem firstOf_len (PX : Nat → List Int) (j : Nat) : (firstOf PX j).length = j := by simp [firstOf]
theorem firstOf_getD (PX : Nat → List Int) {j i : Nat} (h : i < j) : (firstOf PX j).getD i [] = PX i := by
  unfold firstOf; simp [List.getD, h]
theorem one_name {F : Int → Option Fi} {k : Int} {f : Fi} {ns : List Int} (h1 : F k = some f) (h2 : ∀ x, x ≠ k → F x = none) (ha : Asc ns) (hm : ∀ x, x ∈ ns ↔ (F x).isSome = true) : ns = [k] := by
  refine asc_ext ha (List.pairwise_singleton _ _) fun x => ?_
  rw [hm, List.mem_singleton]
  constructor
  · intro h
    by_cases e : x = k
    · exact e
    · rw [h2 x e] at h; cases h
  · rintro rfl; rw [h1]; rfl
theorem Rd2.below {w w' : World} {B m : Nat} {A : Option Addr} {PA : Nat → Option Addr} {PN PC : Nat → Nat} {PX : Nat → List Int} (h : Rd2 w B A m PA PN PC PX) (hb : Below B w w') : Rd2 w' B A m PA PN PC PX :=
  ⟨fun hm => by
    obtain ⟨b, off, e, hlt, hc⟩ := h.1 hm
    exact ⟨b, off, e, hlt, fun j hj => (hb.cell (p := ⟨b, off + j, none⟩) hlt).trans (hc j hj)⟩, fun j hj => ⟨(h.2 j hj).1.below hb, (h.2 j hj).2⟩⟩
set_option maxHeartbeats 8000000 in
theorem law_turns {w : World} {m1 c1 m2 c2 : Nat} {A1 A2 : Option Addr} {PA1 PA2 : Nat → Option Addr} {PN1 PC1 PN2 PC2 : Nat → Nat} {PX1 PX2 : Nat → List Int} (hx : Rd2 w w.heap.size A1 m1 PA1 PN1 PC1 PX1) (hy : Rd2 w w.heap.size A2 m2 PA2 PN2 PC2 PX2) (hm1 : m1 ≤ 9223372036854775807) (hm2 : m2 ≤ 9223372036854775807) :
    Calls Try.prog 7 #[.slice A1 m1 c1, .slice A2 m2 c2] w fun e w' => e = .returned (.bool true) ∧ Below w.heap.size w w' := by
  have HX := Lib.hid hx
  have HY := Lib.hid hy
  clear hx hy
  go_enter Try.func7, Try.ntmps7
  go_wp2_with fail
  refine (anchor_any w).mono ?_
  rintro e w0 ⟨rfl, hb0⟩
  have HB0 := Lib.hid hb0
  clear hb0
  by_cases hc1 : 20 < m1
  · have d1 : decide ((20 : Int) < (m1 : Int)) = true := by simp; omega
    go_wp2
    go_ret
    exact ⟨rfl, HB0.out⟩
  have d1 : decide ((20 : Int) < (m1 : Int)) = false := by simp; omega
  by_cases hc2 : 20 < m2
  · have d2 : decide ((20 : Int) < (m2 : Int)) = true := by simp; omega
    go_wp2
    go_ret
    exact ⟨rfl, HB0.out⟩
  have d2 : decide ((20 : Int) < (m2 : Int)) = false := by simp; omega
  go_wp2_with fail
  refine (new_any w0 1048576 (by omega) (by omega)).mono ?_
  rintro e w1 ⟨db, mb, rfl, hmb, hk1, hb1⟩
  have H1 := Lib.hid hk1
  have HB1 : Hid (Below w.heap.size w w1) := Lib.hid (HB0.out.trans (hb1.mono HB0.out.size))
  have HMB : Hid (w.heap.size ≤ mb) := Lib.hid (by have := HB0.out.size; omega)
  clear hk1 hb1 hmb
  go_wp2_with fail
  refine (open_new (B0 := w.heap.size) H1.out (by omega) rfl rfl (show (0 : Int) ≤ 0 by omega) (show (1048576 : Int) ≤ 16777216 by omega) (show (0 : Int) + 9 ≤ 1048576 by omega) HB1.out.size).mono ?_
  rintro e w2 ⟨lb, f1, rfl, hle, hbs1, hn1, hs1, hk2, hL2, hF2, hM2⟩
  have HW2 := Lib.hid (wj_new H1.out HB1.out HMB.out hbs1 hn1 hk2 hL2 hF2)
  have HB2 : Hid (Below w.heap.size w w2) := Lib.hid (HB1.out.trans ((hF2.below H1.out).mono HMB.out))
  clear hk2 hL2 hF2 hM2 hbs1 hn1 hs1 hle
  go_wp2_with fail
  go_loopw [8, 42] (fun s i wr => ∃ (j K : Nat) (F : Int → Option Fi) (f : Fi) (v : LgV) (LA : Option Addr) (ln lc : Nat), j ≤ m1 ∧ i = .int .i64 (j : Int) ∧ s = .slice LA ln lc ∧ ln ≤ 300 ∧ Hid (K ≤ 2 + 3 * j) ∧ Hid (RdY w w.heap.size LA ln (lastOf PX1 j)) ∧ Hid (WJ wr w.heap.size db mb lb K 1048576 j F f v (lastOf PX1 j) []) ∧ Hid (Below w.heap.size w wr)) (fun _ i _ => m1 - (intOf i).toNat)
  case atStart => exact ⟨0, 2, _, f1, _, none, 0, 0, Nat.zero_le _, rfl, rfl, by omega, Lib.hid (by omega), Lib.hid RdY.nil_, HW2, HB2⟩
  case round =>
    obtain ⟨j, K, F, f, v, LA, ln, lc, hj, rfl, rfl, hln, HK, HLS, HW, HB⟩ := hrel
    by_cases hlt : j < m1
    · obtain ⟨b, off, hA1, hbl, hcw⟩ := HX.out.at_ hlt
      have HP := Lib.hid (HX.out.2 j hlt)
      subst hA1
      have hc : wr.cell? ⟨b, off + j, none⟩ = some (.slice (PA1 j) (PN1 j) (PC1 j)) := (HB.out.cell (p := ⟨b, off + j, none⟩) hbl).trans hcw
      obtain ⟨pn, hpn⟩ : ∃ pn, PN1 j = pn := ⟨_, rfl⟩
      rw [hpn] at hc HP
      have hadd : IntKind.i64.wrap ((j : Int) + 1) = ((j + 1 : Nat) : Int) := by rw [IntWalk.i64_in _ (by omega)]; omega
      clear hcw hpn
      by_cases hbig : 300 < pn
      · have d3 : decide ((300 : Int) < (pn : Int)) = true := by simp; omega
        go_wp2
        go_ret
        exact ⟨rfl, HB.out⟩
      have d3 : decide ((300 : Int) < (pn : Int)) = false := by simp; omega
      have HLL : Hid ((lastOf PX1 j).length = ln) := Lib.hid HLS.out.1
      have HAP := Lib.hid (HW.out.append (c := PC1 j) (by have := HK.out; omega) (by omega) (HW.out.input (HP.out.1.below HB.out)) HP.out.2.1 (by omega) (by rw [logL_length_nil, HLL.out]; omega))
      have hHJ := hadd
      go_wp2_with (first
        | (go_at_call 24; refine HAP.out.mono ?_; rintro e w5 ⟨rfl, F5, f5, v5, hw5, hf5, hm5, _⟩; (have HB5 : Hid (Below w.heap.size w w5) := Lib.hid (HB.out.trans (HW.out.bel hf5))); (have HRT := Lib.hid (hw5.rotate (c := PC1 j) (by have := HK.out; omega) (by omega) (by omega) (hw5.input (HP.out.1.below HB5.out)) HP.out.2.1 (by omega) (by rw [logL_length_snoc, logL_length_nil, HLL.out, HP.out.1.1]; omega))); (have HW5 := Lib.hid hw5); clear hw5 hf5 hm5 HAP)
        | (go_at_call 26; refine HRT.out.mono ?_; rintro e w6 ⟨rfl, F6, f6, v6, hw6, hf6, hm6, _⟩; (have HB6 : Hid (Below w.heap.size w w6) := Lib.hid (HB5.out.trans (HW5.out.bel hf6))); (have HW6 := Lib.hid hw6); (have HNM := Lib.hid (name_any hw6.lg)); (have HRC := Lib.hid (records_any hw6.lg (by simp))); rw [hw6.vnm] at HNM; clear hw6 hf6 hm6 HRT)
        | (go_at_call 16; refine HNM.out.mono ?_; rintro e w7 ⟨rfl, hw7⟩; subst hw7; clear HNM)
        | (go_at_call 21; refine HRC.out.mono ?_; rintro e w8 ⟨A8, c8, rfl, hrow8, hb8⟩; (have HW8 := Lib.hid (HW6.out.below hb8)); (have HB8 : Hid (Below w.heap.size w w8) := Lib.hid (HB6.out.trans (hb8.mono HB6.out.size))); clear hrow8 hb8 HRC))
      go_roundw
      case rel =>
        refine ⟨j + 1, K + 1 + 2, F6, f6, v6, PA1 j, pn, PC1 j, by omega, by go_num, rfl, by omega, Lib.hid (by have := HK.out; omega), Lib.hid ?_, Lib.hid ?_, HB8⟩
        · exact HP.out.1
        · exact HW8.out
      case measure => simp [intOf]; omega
    · obtain rfl : j = m1 := by omega
      have HLL : Hid ((lastOf PX1 j).length = ln) := Lib.hid HLS.out.1
      obtain ⟨lx, hlx⟩ : ∃ lx, lastOf PX1 j = lx := ⟨_, rfl⟩
      rw [hlx] at HLS HW HLL
      have h9 : IntKind.i64.wrap (9 + (ln : Int)) = ((logL lx (firstOf PX2 0)).length : Int) := by
        show _ = ((logL lx []).length : Int)
        rw [IntWalk.i64_in _ (by omega), logL_length_nil, HLL.out]
        omega
      have HK9 : Hid (9 + (ln : Int) = ((logL lx (firstOf PX2 0)).length : Int)) := Lib.hid (by
        show _ = ((logL lx []).length : Int)
        rw [logL_length_nil, HLL.out]
        omega)
      clear hlx
      go_wp2_with fail
      obtain ⟨W0, hW0⟩ : ∃ W0, wr = W0 := ⟨_, rfl⟩
      rw [hW0] at HW HB ⊢
      clear hW0
      go_loopw [11, 80] (fun s i wr => ∃ (q z K F : _) (f : Fi) (v : LgV), (q : Nat) ≤ m2 ∧ i = .int .i64 (q : Int) ∧ s = .int .i64 ((z : Nat) : Int) ∧ z ≤ 400 * (q + 1) ∧ Hid (z = (logL lx (firstOf PX2 q)).length) ∧ Hid ((K : Nat) ≤ 100 + q) ∧ Hid (WJ wr w.heap.size db mb lb K 1048576 j F f v lx (firstOf PX2 q)) ∧ Hid (Below w.heap.size w wr)) (fun _ i _ => m2 - (intOf i).toNat)
      case atStart =>
        refine ⟨0, (logL lx (firstOf PX2 0)).length, K, F, f, v, Nat.zero_le _, rfl, ?_, ?_, Lib.hid rfl, Lib.hid (by have := HK.out; omega), HW, HB⟩
        · rw [← HK9.out]
        · show (logL lx []).length ≤ _
          rw [logL_length_nil, HLL.out]; omega
      case round =>
        obtain ⟨q, z, K2, F2, f2, v2, hq, rfl, rfl, hz, HZ, HK2, HW2', HB2'⟩ := hrel
        by_cases hlt2 : q < m2
        · obtain ⟨b, off, hA2, hbl, hcw⟩ := HY.out.at_ hlt2
          have HP := Lib.hid (HY.out.2 q hlt2)
          subst hA2
          have hc : wr.cell? ⟨b, off + q, none⟩ = some (.slice (PA2 q) (PN2 q) (PC2 q)) := (HB2'.out.cell (p := ⟨b, off + q, none⟩) hbl).trans hcw
          obtain ⟨pn, hpn⟩ : ∃ pn, PN2 q = pn := ⟨_, rfl⟩
          rw [hpn] at hc HP
          clear hcw hpn
          by_cases hbig : 300 < pn
          · have d3 : decide ((300 : Int) < (pn : Int)) = true := by simp; omega
            go_wp2
            go_ret
            exact ⟨rfl, HB2'.out⟩
          have d3 : decide ((300 : Int) < (pn : Int)) = false := by simp; omega
          have HZS : Hid (z + (pn + 9) = (logL lx (firstOf PX2 (q + 1))).length) := Lib.hid (by rw [firstOf_succ, logL_length_snoc, ← HZ.out, HP.out.1.1])
          have HAP := Lib.hid (HW2'.out.append (c := PC2 q) (by have := HK2.out; omega) (by omega) (HW2'.out.input (HP.out.1.below HB2'.out)) HP.out.2.1 (by omega) (by rw [← HZ.out]; omega))
          have e9 : IntKind.i64.wrap (9 + (pn : Int)) = ((pn + 9 : Nat) : Int) := by rw [IntWalk.i64_in _ (by omega)]; omega
          have ez : IntKind.i64.wrap ((z : Int) + ((pn + 9 : Nat) : Int)) = ((z + (pn + 9) : Nat) : Int) := by rw [IntWalk.i64_in _ (by omega)]; omega
          go_wp2_with (go_at_call 24; refine HAP.out.mono ?_; rintro e w5 ⟨rfl, F5, f5, v5, hw5, hf5, hm5, _⟩; (have HB5 : Hid (Below w.heap.size w w5) := Lib.hid (HB2'.out.trans (HW2'.out.bel hf5))); (have HW5 := Lib.hid hw5); clear hw5 hf5 hm5 HAP)
          go_roundw
          case rel =>
            refine ⟨q + 1, z + (pn + 9), K2 + 1, F5, f5, v5, by omega, by go_num, by go_num, by omega, HZS, Lib.hid (by have := HK2.out; omega), Lib.hid ?_, HB5⟩
            rw [firstOf_succ]; exact HW5.out
          case measure => simp [intOf]; omega
        · obtain rfl : q = m2 := by omega
          have HNS := Lib.hid (names_up HW2'.out.dk (by have := HK2.out; omega) rfl)
          go_wp2_with fail
          refine HNS.out.mono ?_
          rintro e w3 ⟨A3, c3, ns, rfl, hown3, hasc, hmem, _, hb3⟩
          have hns := one_name HW2'.out.one HW2'.out.oth hasc hmem
          subst hns
          have HW3 := Lib.hid (HW2'.out.below hb3)
          have HB3 : Hid (Below w.heap.size w w3) := Lib.hid (HB2'.out.trans (hb3.mono HB2'.out.size))
          obtain ⟨g3, c3', hv3, _, _⟩ := hown3.form (by simp)
          injection hv3 with e1 e2 e3
          subst e1
          have y0 : w3.cell? ⟨g3, 0, none⟩ = some (.int .i64 (j : Int)) := hown3.cell (j := 0) (by simp)
          have HS2 : Hid (([(j : Int)] : List Int).length = 1) := Lib.hid rfl
          rw [HS2.out]
          have HSZ := Lib.hid (size_any HW3.out.dk)
          have HBA := Lib.hid (base_any HW3.out.lg)
          have hbn : v2.bn = ln := by rw [← HW3.out.lg.base.1, HLL.out]
          rw [hbn] at HBA
          have HZ3 : Hid (((logL lx (firstOf PX2 q)).length : Int) = (z : Int)) := Lib.hid (by rw [HZ.out])
          simp only at HSZ
          rw [HZ3.out] at HSZ
          have hjj : ((j : Int) == (j : Int)) = true := by simp
          have hzz : ((z : Int) == (z : Int)) = true := by simp
          clear hown3 hasc hmem hb3 hbn e2 e3
          go_wp2_with (first
            | (go_at_call 22; refine HSZ.out.mono ?_; rintro e w4 ⟨rfl, hw4⟩; subst hw4; clear HSZ)
            | (go_at_call 19; refine HBA.out.mono ?_; rintro e w5 ⟨A5, c5, rfl, ho5, hb5⟩; (have HB5 : Hid (Below w.heap.size w w5) := Lib.hid (HB3.out.trans (hb5.mono HB3.out.size))); (have HW5 := Lib.hid (HW3.out.below hb5)); (have hr5 : RdY w5 w5.heap.size A5 ln lx := by obtain ⟨A9, c9, hv, hr⟩ := ho5.shape; injection hv with e1 e2 e3; subst e1; exact hr); (have HSM := Lib.hid (sameY_any (c := c5) (d := lc) hr5 ((HLS.out.below HB5.out).more HB5.out.size) (by omega) (by omega))); rw [sameY_refl] at HSM; clear ho5 hb5 hr5 HBA)
            | (go_at_call 18; refine HSM.out.mono ?_; rintro e w6 ⟨rfl, q6, hq6⟩; (have hb6 : Below w5.heap.size w5 w6 := by rw [hq6]; exact below_drewN (Below.refl _ _) q6); (have HB6 : Hid (Below w.heap.size w w6) := Lib.hid (HB5.out.trans (hb6.mono HB5.out.size))); (have HRC := Lib.hid (records_any (HW5.out.below hb6).lg (by rw [firstOf_len]; omega))); clear hb6 hq6 HSM)
            | (go_at_call 21; refine HRC.out.mono ?_; rintro e w7 ⟨A7, c7, rfl, hrow7, hb7⟩; (have HB7 : Hid (Below w.heap.size w w7) := Lib.hid (HB6.out.trans (hb7.mono HB6.out.size))); (have HS14 := Lib.hid (same14_any (c := c7) (d := c2) hrow7.rdT ((HY.out.below HB7.out).rdT HB7.out.size) (by rw [firstOf_len]; omega) (by omega))); (have HYES : Hid (sameT (firstOf PX2 q).length (fun j => (firstOf PX2 q).getD j []) q PX2 = true) := Lib.hid (by rw [firstOf_len]; exact sameT_yes (fun i hi => firstOf_getD PX2 hi))); rw [HYES.out] at HS14; clear hrow7 hb7 HRC)
            | (go_at_call 20; refine HS14.out.mono ?_; rintro e w8 ⟨rfl, q8, hq8⟩; (have HB8 : Hid (Below w.heap.size w w8) := Lib.hid (by rw [hq8]; exact below_drewN HB7.out q8)); clear hq8 HS14))
          go_ret
          exact ⟨rfl, HB8.out⟩
end Go.Proofs.Yticklaophgekeaa
