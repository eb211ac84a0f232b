/-
  THE WALK of the statement WalTwice, over this translation.
-/
import Derived.Test.YtadajkgiijpakaaWTwW
import Derived.Test.YtadajkgiijpakaaWSam
import Derived.Test.YtadajkgiijpakaaWAnc
import Derived.Test.YtadajkgiijpakaaKAll
import Derived.Lib.SlBytesConst
namespace Go.Proofs.Ytadajkgiijpakaa
open Go.RowKit
open ByteP
set_option linter.unusedVariables false
set_option maxRecDepth 10000
set_option maxHeartbeats 16000000 in
theorem law_twice {w : World} {m c nk ck : Nat} {A Ak : Option Addr} {PA : Nat → Option Addr} {PN PC : Nat → Nat} {PX : Nat → List Int} {ks : List Int} {cut arm : Int} (hx : Rd2 w w.heap.size A m PA PN PC PX) (hm : m ≤ 9223372036854775807) (hc0 : -9223372036854775808 ≤ cut) (hc1 : cut ≤ 9223372036854775807) (ha0 : -9223372036854775808 ≤ arm) (ha1 : arm ≤ 9223372036854775807) (hk : Rd w w.heap.size Ak nk ks) (hnk : nk ≤ 9223372036854775807) :
    Calls Try.prog 6 #[.slice A m c, .int .i64 cut, .int .i64 arm, .slice Ak nk ck] w fun e w' => e = .returned (.bool true) ∧ Below w.heap.size w w' := by
  have HX := Lib.hid hx
  have HKS := Lib.hid hk
  clear hx hk
  go_enter Try.func6, Try.ntmps6
  go_wp2_with fail
  refine (anchor_any w).mono ?_
  rintro e w0 ⟨rfl, hb0⟩
  have HB0 := Lib.hid hb0
  clear hb0
  by_cases hm10 : 10 < m
  · have d1 : decide ((10 : Int) < (m : Int)) = true := by simp; omega
    go_wp2
    go_ret
    exact ⟨rfl, HB0.out⟩
  have d1 : decide ((10 : Int) < (m : Int)) = false := by simp; omega
  by_cases harm : arm < 0
  · have d2 : decide (arm < 0) = true := decide_eq_true harm
    go_wp2
    go_ret
    exact ⟨rfl, HB0.out⟩
  have d2 : decide (arm < 0) = false := decide_eq_false harm
  have kc := fun (w : World) (C : Array Value) (n c : Nat) => Lib.run_convert_bytes_const (P := Try.prog) w 26 5 C n c Try.underlying26 Try.underlying5
  have HF0 := Lib.hid (refFrm_any (w := w0.alloc (.cells #[.int .u8 98, .int .u8 97, .int .u8 115, .int .u8 101] 5 (4, 5))) (mk := 0) (c := 4) (rdY_const w0 [98, 97, 115, 101] 5 (4, 5)) (bytes_lit (by decide)) (by omega) (by omega) (by decide) (by simp))
  have bytes_lit4 : Bytes [98, 97, 115, 101] := bytes_lit (by decide)
  have hl4 : ([98, 97, 115, 101] : List Int).length = 4 := rfl
  rw [hl4] at HF0
  go_wp2_with (first
    | (go_at_call 27; refine HF0.out.mono ?_; rintro e w1 ⟨A1, c1, rfl, ho1, hb1⟩; (have HO1 := Lib.hid ho1); (have HB1 : Hid (Below w.heap.size w w1) := Lib.hid ((HB0.out.alloc HB0.out.size _).trans (hb1.mono (by have := HB0.out.size; simp; omega)))); clear ho1 hb1 HF0)
    | (at_builtin; refine wplY_apps rfl _ _ rfl w.heap.size (.slice none 0 0) 0 [] rfl (OwnY.nil_ _ _) w1.heap.size A1 (4 + 9) c1 (frmP 0 [98, 97, 115, 101]) rfl (HO1.out.rd (Below.refl _ _)) (by omega) HB1.out.size ?_; intro v2 w2 hown2 hg2 hat2; obtain ⟨A2, c2, rfl, _⟩ := hown2.shape; (have HO2 := Lib.hid hown2); (have HB2 : Hid (Below w.heap.size w w2) := Lib.hid (HB1.out.grown hg2 HB1.out.size (OwnY.nil_ w1 w.heap.size).ge)); clear hown2 hg2 hat2))
  clear kc
  go_loopw [9, 38] (fun v9 i wr => ∃ (q n c : Nat) (A : Option Addr) (X : List Int), q ≤ m ∧ i = .int .i64 (q : Int) ∧ v9 = .slice A n c ∧ n ≤ 13 + 209 * q ∧ Hid (Bytes X) ∧ Hid (OwnY wr w.heap.size (.slice A n c) n X) ∧ Hid (Below w.heap.size w wr)) (fun _ i _ => m - (intOf i).toNat)
  case atStart => exact ⟨0, _, _, _, _, Nat.zero_le _, rfl, rfl, by omega, Lib.hid (by rw [List.nil_append]; exact frmP_bytes (by omega) (by omega) (bytes_lit4) (by decide)), HO2, HB2⟩
  case round =>
    obtain ⟨q, n, c3, A3, X, hq, rfl, rfl, hn, HBX, HOX, HB⟩ := hrel
    by_cases hlt : q < m
    · obtain ⟨b, off, eA, hb, hcw⟩ := HX.out.at_ hlt
      obtain ⟨hrj, hbj, hlj⟩ := HX.out.2 q hlt
      have HRJ := Lib.hid (hrj.below HB.out)
      have HBJ := Lib.hid hbj
      subst eA
      obtain ⟨pn, hpn⟩ : ∃ pn, PN q = pn := ⟨_, rfl⟩
      rw [hpn] at hcw HRJ hlj
      have hc : wr.cell? ⟨b, off + q, none⟩ = some (.slice (PA q) pn (PC q)) := (HB.out.cell (p := ⟨b, off + q, none⟩) hb).trans hcw
      clear hcw hrj hbj hpn
      by_cases hbig : 200 < pn
      · have e1 : decide ((200 : Int) < (pn : Int)) = true := by simp; omega
        go_wp2
        go_ret
        exact ⟨rfl, HB.out⟩
      have e1 : decide ((200 : Int) < (pn : Int)) = false := by simp; omega
      have HF := Lib.hid (refFrm_any (mk := 1) (c := PC q) HRJ.out HBJ.out (by omega) (by omega) (by omega) HB.out.size)
      go_wp2_with (first
        | (go_at_call 27; refine HF.out.mono ?_; rintro e w4 ⟨A4, c4, rfl, ho4, hb4⟩; (have HO4 := Lib.hid (HOX.out.kept hb4)); (have HR4 := Lib.hid (ho4.rd (Below.refl _ _))); (have HB4 : Hid (Below w.heap.size w w4) := Lib.hid (HB.out.trans (hb4.mono HB.out.size))); (have hs4 : w.heap.size ≤ w4.heap.size := HB4.out.size); clear ho4 hb4 HF)
        | (at_builtin; refine wplY_apps rfl _ _ rfl w.heap.size _ n X rfl HO4.out w4.heap.size A4 (pn + 9) c4 (frmP 1 (PX q)) rfl HR4.out (by omega) hs4 ?_; intro v5 w5 hown5 hg5 hat5; (have HB5 : Hid (Below w.heap.size w w5) := Lib.hid (HB4.out.grown hg5 hs4 HO4.out.ge)); obtain ⟨A5, c5, rfl, _⟩ := hown5.shape; (have HO5 := Lib.hid hown5); clear hown5 hg5 hat5))
      go_roundw
      case rel =>
        refine ⟨q + 1, n + (pn + 9), c5, A5, X ++ frmP 1 (PX q), by omega, by go_num, rfl, by omega, Lib.hid (bytes_append HBX.out (frmP_bytes (by omega) (by omega) HBJ.out (by have := HRJ.out.1; omega))), HO5, HB5⟩
      case measure => simp [intOf]; omega
    · obtain rfl : q = m := by omega
      obtain ⟨p, hp, hpn⟩ : ∃ p : Nat, max (min cut (n : Int)) 0 = (p : Int) ∧ p ≤ n := ⟨(max (min cut (n : Int)) 0).toNat, by omega, by omega⟩
      have HPP := Lib.hid hp
      clear hp
      obtain ⟨wB, hwB⟩ : ∃ wB, wr = wB := ⟨_, rfl⟩
      rw [hwB] at HOX HB ⊢
      clear hwB
      go_wp2_with fail
      rw [HPP.out]
      refine (new_any wB 1048576 (by omega) (by omega)).mono ?_
      rintro e w3 ⟨db, mb, rfl, hmb, hk3, hb3⟩
      have HD3 := Lib.hid hk3
      have HMB := Lib.hid hmb
      have HB3 := Lib.hid hb3
      clear hk3 hmb hb3
      go_wp2_with fail
      refine (new_any w3 1048576 (by omega) (by omega)).mono ?_
      rintro e w4 ⟨dc, mc, rfl, hmc, hk4, hb4⟩
      have HC4 := Lib.hid hk4
      have HD4 := Lib.hid (HD3.out.below hb4)
      have HMC : Hid (wB.heap.size ≤ mc) := Lib.hid (Nat.le_trans HB3.out.size hmc)
      have HB4 : Hid (Below wB.heap.size wB w4) := Lib.hid (HB3.out.trans (hb4.mono HB3.out.size))
      have HAP4 : Hid (Ap db mb (fun _ => none) dc mc (fun _ => none)) := Lib.hid (fun b h1 h2 => by
        have h3 := HD3.out.dlt
        have h4 := HD3.out.lt
        have h5 := HC4.out.lt
        rcases h1 with e | e | ⟨_, _, e, _⟩
        · rcases h2 with e2 | e2 | ⟨_, _, e2, _⟩
          · omega
          · omega
          · cases e2
        · rcases h2 with e2 | e2 | ⟨_, _, e2, _⟩
          · omega
          · omega
          · cases e2
        · cases e)
      clear hmc hk4 hb4
      obtain ⟨h, hh⟩ : ∃ h, w4.heap.size = h := ⟨_, rfl⟩
      have hT0 : Tw2 (w4.alloc (.cells #[.pointer (some ⟨db, 0, none⟩), .pointer (some ⟨dc, 0, none⟩)] 24)) wB h (.cells #[.pointer (some ⟨db, 0, none⟩), .pointer (some ⟨dc, 0, none⟩)] 24) db mb 0 ⟨1048576, 0, -1, false⟩ (fun _ => none) dc mc 0 ⟨1048576, 0, -1, false⟩ (fun _ => none) :=
        ⟨HD4.out.alloc _, HC4.out.alloc _, HAP4.out, by rw [← hh]; exact heap_alloc_new w4 _, HD4.out.notMine (by rw [← hh]; exact Nat.le_refl _), HC4.out.notMine (by rw [← hh]; exact Nat.le_refl _), HB4.out.alloc HB4.out.size _, HMB.out, HMC.out⟩
      have HT0 := Lib.hid hT0
      have HHH := Lib.hid hh
      clear hT0 hh
      go_wp2_with fail
      have kc := fun (w : World) (C : Array Value) (n c : Nat) => Lib.run_convert_bytes_const (P := Try.prog) w 26 5 C n c Try.underlying26 Try.underlying5
      have HJ0 : Hid (TwJ (w4.alloc (.cells #[.pointer (some ⟨db, 0, none⟩), .pointer (some ⟨dc, 0, none⟩)] 24)) wB h (.cells #[.pointer (some ⟨db, 0, none⟩), .pointer (some ⟨dc, 0, none⟩)] 24) db mb dc mc (filesG (frmP 0 [111, 108, 100]) (X.take p) [110, 111, 32, 102, 105, 108, 101, 32, 111, 102, 32, 97, 32, 108, 111, 103]) 0) := Lib.hid ⟨0, 0, fun _ => none, 0, 0, fun _ => none, HT0.out, fl_nil _ (by omega), fl_nil _ (by omega)⟩
      have HXB : Hid (RdY wB wB.heap.size A3 p (X.take p)) := Lib.hid ((HOX.out.rd (Below.refl _ _)).pre hpn)
      have HXY : Hid (Bytes (X.take p)) := Lib.hid (bytes_take HBX.out p)
      have hOLD : Bytes [111, 108, 100] := bytes_lit (by decide)
      have hTXT : Bytes [110, 111, 32, 102, 105, 108, 101, 32, 111, 102, 32, 97, 32, 108, 111, 103] := bytes_lit (by decide)
      have hlo : ([111, 108, 100] : List Int).length = 3 := rfl
      have hlt16 : ([110, 111, 32, 102, 105, 108, 101, 32, 111, 102, 32, 97, 32, 108, 111, 103] : List Int).length = 16 := rfl
      have hpc : n ≤ c3 := by
        by_cases h0 : n = 0
        · omega
        · exact HOX.out.cap (by omega)
      clear HT0 HAP4 HC4 HD4 HD3
      rw [HHH.out]
      go_loopw [67] (fun i wr => ∃ j : Nat, j ≤ 2 ∧ i = .int .i64 (j : Int) ∧ Hid (TwJ wr wB h (.cells #[.pointer (some ⟨db, 0, none⟩), .pointer (some ⟨dc, 0, none⟩)] 24) db mb dc mc (filesG (frmP 0 [111, 108, 100]) (X.take p) [110, 111, 32, 102, 105, 108, 101, 32, 111, 102, 32, 97, 32, 108, 111, 103]) j)) (fun i _ => 2 - (intOf i).toNat)
      case atStart => exact ⟨0, by omega, rfl, HJ0⟩
      case round =>
        obtain ⟨j, hj, rfl, HJ⟩ := hrel
        by_cases hj2 : j < 2
        · obtain ⟨xb, xm, yb, ym, Ky, sy, Fy, hcell, hT, hback⟩ := HJ.out.view hj2
          have HT := Lib.hid hT
          have HBACK := Lib.hid hback
          have hji : (j : Int) < 2 := by omega
          clear hT hback
          obtain ⟨W1, hW1⟩ : ∃ W1, wr.alloc (.cells #[.int .u8 111, .int .u8 108, .int .u8 100] 5 (3, 4)) = W1 := ⟨_, rfl⟩
          have hbW1 : Below wr.heap.size wr W1 := by rw [← hW1]; exact (Below.refl _ _).alloc (Nat.le_refl _) _
          have hr1 : RdY W1 (wr.heap.size + 1) (some ⟨wr.heap.size, 0, none⟩) 3 [111, 108, 100] := by rw [← hW1]; exact rdY_const wr [111, 108, 100] 5 (3, 4)
          have HT1 := Lib.hid (HT.out.below hbW1)
          have HF1 := Lib.hid (refFrm_any (mk := 0) (c := 3) hr1 hOLD (by omega) (by omega) (by omega) (by rw [← hW1]; simp))
          have HW1 := Lib.hid hW1
          clear hW1 hbW1 hr1
          go_wp2_with fail
          rw [HW1.out]
          refine HF1.out.mono ?_
          rintro e w5 ⟨A5, c5, rfl, ho5, hb5⟩
          have HT5 := Lib.hid (HT1.out.below hb5)
          have HA5 := Lib.hid (append_any (k := 3) (d := c5) HT5.out.x (by omega) rfl (by show (-1 : Int) ≤ -1; omega) (by show (-1 : Int) ≤ _; omega) (by show _ ≤ (0 : Int); omega) (by show (1048576 : Int) ≤ _; omega) (by omega) (by omega)
            (RdK.of_own ho5 (fun b hb => HT1.out.x.notMine hb)) (frmP_bytes (by omega) (by omega) hOLD (by omega)) (by show (0 : Int) + ((3 + 9 : Nat) : Int) ≤ 1048576; omega) (by show 0 + (3 + 9) ≤ 16777216; omega))
          rw [if_neg (by show ¬ (-1 : Int) = 0; omega), gd_off _ rfl] at HA5
          clear ho5 hb5 HF1
          go_wp2_with fail
          refine HA5.out.mono ?_
          rintro e w6 ⟨rfl, f3, hbs3, hn3, hs3, hk6, hf6, hm6⟩
          obtain ⟨F1, hF1⟩ : ∃ F1, putF (fun _ => none) 3 f3 = F1 := ⟨_, rfl⟩
          rw [hF1] at hk6 hm6
          have HC1 : Hid (Cont F1 (fun x => if x = 3 then some (frmP 0 [111, 108, 100]) else none)) := Lib.hid (by
            have h := cont_nil.put 3 f3
            rw [hF1, hbs3] at h
            exact h)
          have HZ1 : Hid (SzOK ((0 : Int) + ((3 + 9 : Nat) : Int)) F1) := Lib.hid (by
            have h := szOK_nil.put 3 f3
            rw [hF1, hn3] at h
            exact h)
          have HN1 : Hid (fileAt F1 4 = noFi ∧ fileAt F1 5 = noFi) := Lib.hid ⟨by rw [← hF1, fileAt_other _ _ (by omega)]; rfl, by rw [← hF1, fileAt_other _ _ (by omega)]; rfl⟩
          have HT6 := Lib.hid (HT5.out.turn hk6 hf6 hm6)
          clear hbs3 hn3 hs3 hk6 hf6 hm6 hF1 HA5 HT5 HT1
          have HA6 := Lib.hid (append_any (k := 4) (d := c3) HT6.out.x (by omega) rfl (by show (-1 : Int) ≤ -1; omega) (by show (-1 : Int) ≤ _; omega) (by show _ ≤ (0 : Int) + _; omega) (by show (1048576 : Int) ≤ _; omega) (by omega) (by omega)
            (RdK.of_rd (HXB.out.below HT6.out.bel) HT6.out.bel.size (fun b hb => HT6.out.x.low (by have := HT6.out.mx; omega))) HXY.out (by show (0 : Int) + ((3 + 9 : Nat) : Int) + (p : Int) ≤ 1048576; omega) (by rw [HN1.out.1]; show 0 + p ≤ 16777216; omega))
          rw [if_neg (by show ¬ (-1 : Int) = 0; omega), gd_off _ rfl] at HA6
          have hpi : (p : Int) ≤ (c3 : Int) := by omega
          go_wp2_with fail
          refine HA6.out.mono ?_
          rintro e w7 ⟨rfl, f4, hbs4, hn4, hs4, hk7, hf7, hm7⟩
          obtain ⟨F2, hF2⟩ : ∃ F2, putF F1 4 f4 = F2 := ⟨_, rfl⟩
          rw [hF2] at hk7 hm7
          have HC2 : Hid (Cont F2 (fun x => if x = 4 then some (X.take p) else if x = 3 then some (frmP 0 [111, 108, 100]) else none)) := Lib.hid (by
            have h := HC1.out.put 4 f4
            rw [hF2, hbs4, HN1.out.1] at h
            exact h)
          have HZ2 : Hid (SzOK ((0 : Int) + ((3 + 9 : Nat) : Int) + (p : Int)) F2) := Lib.hid (by
            have h := HZ1.out.put 4 f4
            rw [hF2, hn4, HN1.out.1] at h
            have e : (0 : Int) + ((3 + 9 : Nat) : Int) - ((noFi.n : Nat) : Int) + ((noFi.n + p : Nat) : Int) = (0 : Int) + ((3 + 9 : Nat) : Int) + (p : Int) := by
              show (0 : Int) + ((3 + 9 : Nat) : Int) - ((0 : Nat) : Int) + ((0 + p : Nat) : Int) = _
              omega
            rw [e] at h
            exact h)
          have HN2 : Hid (fileAt F2 5 = noFi) := Lib.hid (by rw [← hF2, fileAt_other _ _ (by omega)]; exact HN1.out.2)
          have HT7 := Lib.hid (HT6.out.turn hk7 hf7 hm7)
          clear hbs4 hn4 hs4 hk7 hf7 hm7 hF2 HA6 HT6
          obtain ⟨W2, hW2⟩ : ∃ W2, w7.alloc (.cells #[.int .u8 110, .int .u8 111, .int .u8 32, .int .u8 102, .int .u8 105, .int .u8 108, .int .u8 101, .int .u8 32, .int .u8 111, .int .u8 102, .int .u8 32, .int .u8 97, .int .u8 32, .int .u8 108, .int .u8 111, .int .u8 103] 5 (16, 17)) = W2 := ⟨_, rfl⟩
          have hbW2 : Below w7.heap.size w7 W2 := by rw [← hW2]; exact (Below.refl _ _).alloc (Nat.le_refl _) _
          have hr2 : RdK W2 (Mine xb xm F2) (some ⟨w7.heap.size, 0, none⟩) 16 [110, 111, 32, 102, 105, 108, 101, 32, 111, 102, 32, 97, 32, 108, 111, 103] := by rw [← hW2]; exact rdK_const w7 [110, 111, 32, 102, 105, 108, 101, 32, 111, 102, 32, 97, 32, 108, 111, 103] 5 (16, 17) _ (HT7.out.x.notMine (Nat.le_refl _))
          have HT8 := Lib.hid (HT7.out.below hbW2)
          have HA7 := Lib.hid (append_any (k := 5) (d := 16) HT8.out.x (by omega) rfl (by show (-1 : Int) ≤ -1; omega) (by show (-1 : Int) ≤ _; omega) (by show _ ≤ (0 : Int) + _ + _; omega) (by show (1048576 : Int) ≤ _; omega) (by omega) (by omega)
            hr2 hTXT (by show (0 : Int) + ((3 + 9 : Nat) : Int) + (p : Int) + ((16 : Nat) : Int) ≤ 1048576; omega) (by rw [HN2.out]; show 0 + 16 ≤ 16777216; omega))
          rw [if_neg (by show ¬ (-1 : Int) = 0; omega), gd_off _ rfl] at HA7
          have HW2 := Lib.hid hW2
          clear hW2 hbW2 hr2
          go_wp2_with fail
          rw [HW2.out]
          refine HA7.out.mono ?_
          rintro e w8 ⟨rfl, f5, hbs5, hn5, hs5, hk8, hf8, hm8⟩
          obtain ⟨F3, hF3⟩ : ∃ F3, putF F2 5 f5 = F3 := ⟨_, rfl⟩
          rw [hF3] at hk8 hm8
          obtain ⟨s5, hs5e⟩ : ∃ s5 : Int, (0 : Int) + ((3 + 9 : Nat) : Int) + (p : Int) + ((16 : Nat) : Int) = s5 := ⟨_, rfl⟩
          have HC3 : Hid (Cont F3 (filesG (frmP 0 [111, 108, 100]) (X.take p) [110, 111, 32, 102, 105, 108, 101, 32, 111, 102, 32, 97, 32, 108, 111, 103])) := Lib.hid (by
            have h := HC2.out.put 5 f5
            rw [hF3, hbs5, HN2.out] at h
            exact h)
          have HZ3 : Hid (SzOK s5 F3) := Lib.hid (by
            have h := HZ2.out.put 5 f5
            rw [hF3, hn5, HN2.out] at h
            have e : (0 : Int) + ((3 + 9 : Nat) : Int) + (p : Int) - ((noFi.n : Nat) : Int) + ((noFi.n + 16 : Nat) : Int) = s5 := by
              show (0 : Int) + ((3 + 9 : Nat) : Int) + (p : Int) - ((0 : Nat) : Int) + ((0 + 16 : Nat) : Int) = _
              omega
            rw [e] at h
            exact h)
          have hT9 := HT8.out.turn hk8 hf8 hm8
          have HT9 : Hid (Tw2 w8 wB h (.cells #[.pointer (some ⟨db, 0, none⟩), .pointer (some ⟨dc, 0, none⟩)] 24) xb xm (0 + 1 + 1 + 1) ⟨1048576, s5, -1, false⟩ F3 yb ym Ky ⟨1048576, sy, -1, false⟩ Fy) := Lib.hid (by rw [← hs5e]; exact hT9)
          clear hbs5 hn5 hs5 hk8 hf8 hm8 hF3 HA7 HT8 hT9
          go_wp2_with fail
          go_loopw [17] (fun i wv => ∃ (q5 K5 : Nat) (F5 : Int → Option Fi), q5 ≤ 3 ∧ i = .int .i64 ((q5 + 3 : Nat) : Int) ∧ K5 = 3 + q5 ∧ Hid (Cont F5 (filesG (frmP 0 [111, 108, 100]) (X.take p) [110, 111, 32, 102, 105, 108, 101, 32, 111, 102, 32, 97, 32, 108, 111, 103])) ∧ Hid (SzOK s5 F5) ∧ Hid (∀ x f, F5 x = some f → x < ((q5 + 3 : Nat) : Int) → f.s = f.n) ∧ Hid (Tw2 wv wB h (.cells #[.pointer (some ⟨db, 0, none⟩), .pointer (some ⟨dc, 0, none⟩)] 24) xb xm K5 ⟨1048576, s5, -1, false⟩ F5 yb ym Ky ⟨1048576, sy, -1, false⟩ Fy)) (fun i _ => 6 - (intOf i).toNat)
          case atStart => exact ⟨0, 3, F3, by omega, rfl, rfl, HC3, HZ3, Lib.hid (fun x f hf hx => by have := filesG_key HC3.out x f hf; omega), HT9⟩
          case round =>
            obtain ⟨q5, K5, F5, hq5, rfl, rfl, HC5, HZ5, HS5, HT10⟩ := hrel
            by_cases hq3 : q5 < 3
            · obtain ⟨fx, hfx⟩ := filesG_some HC5.out (x := ((q5 + 3 : Nat) : Int)) (by omega)
              have HFX := Lib.hid hfx
              have HSY := Lib.hid (sync_ok (k := ((q5 + 3 : Nat) : Int)) (f := fx) HT10.out.x (by omega) rfl (by show (-1 : Int) ≤ -1; omega) (by show (-1 : Int) ≤ _; omega) (by show (-1 : Int) ≠ 0; omega) hfx)
              rw [gd_off _ rfl] at HSY
              have hle5 : ((q5 + 3 : Nat) : Int) ≤ 5 := by omega
              clear hfx
              go_wp2_with fail
              refine HSY.out.mono ?_
              rintro e w9 ⟨rfl, hk9, hf9⟩
              have HT11 := Lib.hid (HT10.out.turn hk9 hf9 (fun b hb => .inl (mine_synced HFX.out b hb)))
              have HC11 : Hid (Cont (putF F5 ((q5 + 3 : Nat) : Int) { fx with s := fx.n }) (filesG (frmP 0 [111, 108, 100]) (X.take p) [110, 111, 32, 102, 105, 108, 101, 32, 111, 102, 32, 97, 32, 108, 111, 103])) := Lib.hid (HC5.out.sync HFX.out fx.n)
              have HZ11 : Hid (SzOK s5 (putF F5 ((q5 + 3 : Nat) : Int) { fx with s := fx.n })) := Lib.hid (by
                have h := HZ5.out.put ((q5 + 3 : Nat) : Int) { fx with s := fx.n }
                have e : fileAt F5 ((q5 + 3 : Nat) : Int) = fx := by unfold fileAt; rw [HFX.out]; rfl
                rw [e] at h
                have e2 : s5 - (fx.n : Int) + (fx.n : Int) = s5 := by omega
                rw [e2] at h
                exact h)
              have HS11 : Hid (∀ x f, putF F5 ((q5 + 3 : Nat) : Int) { fx with s := fx.n } x = some f → x < ((q5 + 1 + 3 : Nat) : Int) → f.s = f.n) := Lib.hid (fun x f hf hx => by
                by_cases e : x = ((q5 + 3 : Nat) : Int)
                · rw [e, putF_same] at hf; injection hf with hf; subst hf; rfl
                · rw [putF_other _ _ e] at hf; exact HS5.out x f hf (by omega))
              clear hk9 hf9 HSY
              go_wp2_with fail
              exact ⟨⟨q5 + 1, 3 + q5 + 1, _, by omega, by go_num, by omega, HC11, HZ11, HS11, HT11⟩, by simp [intOf]; omega⟩
            · obtain rfl : q5 = 3 := by omega
              have HEND := Lib.hid (HBACK.out _ _ _ _ HT10.out ⟨HZ5.out, by omega, by omega, by omega, fun _ => ⟨HC5.out, fun x f hf => HS5.out x f hf (by have := filesG_key HC5.out x f hf; omega)⟩, fun h => absurd trivial h⟩)
              go_wp2_with fail
              exact ⟨⟨j + 1, by omega, by go_num, HEND⟩, by simp [intOf]; omega⟩
        · obtain rfl : j = 2 := by omega
          obtain ⟨Kd, sd, Fd, Kc, sc, Fc, t2, fd, fc⟩ := HJ.out
          have HT := Lib.hid t2
          have hfy := fd.yes (by omega)
          have hcy := fc.yes (by omega)
          obtain ⟨k, f, r, hh⟩ := filesG_holds hfy.1 ⟨hOLD, by omega⟩
          obtain ⟨f2, hh2, hbs2⟩ := hfy.1.holds hcy.1 hh
          have HH := Lib.hid hh
          have HH2 := Lib.hid hh2
          have HB2 := Lib.hid hbs2
          have HSYN := Lib.hid hfy.2
          have HFD := Lib.hid fd
          have HFC := Lib.hid fc
          have hk1 := fd.k1
          have hk2 := fc.k1
          have hs0 := fd.s0
          have hs1 := fd.s1
          have hs2 := fc.s1
          have hgd := t2.x.good k f hh.at_
          have HGD := Lib.hid hgd
          clear t2 fd fc hfy hcy hh hh2 hbs2 HJ
          go_wp2_with fail
          refine (arm_any HT.out.x arm).mono ?_
          rintro e w5 ⟨rfl, hk5, hf5⟩
          have hmax : max arm (-1) = arm := by omega
          simp only [hmax] at hk5
          have HT5 := Lib.hid (HT.out.turn hk5 hf5 (fun b hb => .inl hb))
          have HOA := Lib.hid (open_armed HT5.out.x (by omega) rfl (by show 0 ≤ arm; omega) (by show arm ≤ _; omega) HFD.out.sz (by show sd ≤ _; omega) HSYN.out HH.out)
          clear hk5 hf5
          go_wp2_with fail
          refine HOA.out.mono ?_
          rintro e w6 ⟨⟨v6, rfl⟩, K6, n6, F6, f6, hK6, hdk6, hcap6, hsz6, hsle6, hleft6, hf6, hbs6, hsyn6, hoth6, hfr6, hmi6⟩
          have HT6 := Lib.hid (HT5.out.turn hdk6 hfr6 (fun b hb => .inl (hmi6 b hb)))
          have HSZ6 := Lib.hid hsz6
          have HSY6 := Lib.hid hsyn6
          have HAH := Lib.hid (arm_holds HH.out HGD.out.2.2.2.1 hf6 hbs6 hoth6)
          have hge6 := hsz6.ge
          simp only at hsle6
          have HCR := Lib.hid (crash_any (ck := ck) HT6.out.x (by omega) (by omega) (by omega) (RdZ.of_rd (HKS.out.below (HB.out.trans (HT6.out.bel.mono HB.out.size))) (Nat.le_trans HB.out.size HT6.out.bel.size) (fun b hb => HT6.out.x.low (by have h1 := HT6.out.mx; have h2 := HB.out.size; omega))) hnk)
          clear hdk6 hsz6 hf6 hbs6 hsyn6 hoth6 hfr6 hmi6 HOA
          go_wp2_with fail
          refine HCR.out.mono ?_
          rintro e w7 ⟨rfl, ns, hasc, hmem, hnl, hdk7, hfr7, hmi7⟩
          rw [crK_syn HSY6.out (fun x hx => (hmem x).1 hx) ns.length (Nat.le_refl _)] at hdk7 hmi7
          have HT7 := Lib.hid (HT6.out.turn hdk7 hfr7 (fun b hb => .inl (hmi7 b hb)))
          have hz0 : n6.size + 0 = n6.size := by omega
          have HOD := Lib.hid (open_found (B0 := 0) HT7.out.x (by omega) rfl rfl (by show SzOK (n6.size + 0) F6; rw [hz0]; exact HSZ6.out) (by show n6.size + 0 ≤ _; omega) (Nat.zero_le _) (Nat.zero_le _) HAH.out.1)
          clear hasc hmem hdk7 hfr7 hmi7 HCR
          go_wp2_with fail
          refine HOD.out.mono ?_
          rintro e w8 ⟨la, K8, f8, va, F8, rfl, hla, hK8, hdk8, hfa8, hfo8, hbs8, hn8, hs8, hLa, hdb8, hnma, hcla, hsza, hfr8, hmi8, hLa2⟩
          have HT8 := Lib.hid (HT7.out.turn hdk8 hfr8 (fun b hb => .inl (hmi8 b hb)))
          have HLa := Lib.hid hLa2
          have HNMa := Lib.hid hnma
          have HSZa := Lib.hid hsza
          have HOC := Lib.hid (open_found (B0 := 0) HT8.out.y (by omega) rfl rfl (by exact HFC.out.sz) (by show sc ≤ _; omega) (Nat.zero_le _) (Nat.zero_le _) HH2.out)
          clear hla hK8 hdk8 hfa8 hfo8 hbs8 hn8 hs8 hLa hdb8 hnma hcla hsza hfr8 hmi8 hLa2 HOD
          go_wp2_with fail
          refine HOC.out.mono ?_
          rintro e w9 ⟨lc, K9, f9, vc, F9, rfl, hlc, hK9, hdk9, hfa9, hfo9, hbs9, hn9, hs9, hLc, hdb9, hnmc, hclc, hszc, hfr9, hmi9, hLc2⟩
          have hLa9 := HLa.out.turn (hfr9.less (fun b hb => Nat.lt_of_not_le (fun h2 => HT7.out.y.notMine h2 hb))) (D' := fun b => b < w7.heap.size) (fun b hb => .inl hb)
          have HB9 : Hid (Below w.heap.size w w9) := Lib.hid (HB.out.trans ((HT8.out.bel.trans ((hfr9.below HT8.out.y).mono HT8.out.my)).mono HB.out.size))
          have hbsa : bsOf f6.bs r = bsOf f2.bs r := by rw [HAH.out.2.1, HB2.out]
          have hrsa : rsOf f6.bs r = rsOf f2.bs r := by rw [HAH.out.2.2.1, HB2.out]
          have hata : atN f6.bs r = atN f2.bs r := by rw [HAH.out.2.2.2, HB2.out]
          have hg2 := HT8.out.y.good k f2 HH2.out.at_
          have hbd := bounds_of HH2.out.reads (by have := (HT8.out.y.own k f2 HH2.out.at_).len; omega)
          have hszv := HSZa.out
          rw [hbsa, hrsa] at hLa9
          rw [hata] at hszv
          generalize bsOf f2.bs r = bs at hLa9 hLc hLc2
          generalize rsOf f2.bs r = rs at hLa9 hLc hLc2 hbd
          generalize atN f2.bs r = z at hszv hszc hbd
          have HLa9 := Lib.hid hLa9
          have HLc9 := Lib.hid hLc2
          have HNa := Lib.hid (name_any hLa9)
          have HNc := Lib.hid (name_any hLc2)
          have HSa := Lib.hid (lsize_any hLa9)
          have HSc := Lib.hid (lsize_any hLc2)
          have HBa := Lib.hid (base_any hLa9)
          rw [HNMa.out] at HNa
          rw [hnmc] at HNc
          rw [hszv] at HSa
          rw [hszc] at HSc
          have hbna : va.bn = bs.length := hLa9.base.1.symm
          have hbnc : vc.bn = bs.length := hLc2.base.1.symm
          have hbl := hLa9.bl
          rw [hbna] at HBa
          have HBNC := Lib.hid hbnc
          have hrl := hbd.1
          have hkk : (k == k) = true := by simp
          have hzz : (((z : Nat) : Int) == ((z : Nat) : Int)) = true := by simp
          clear hlc hK9 hdk9 hfa9 hfo9 hbs9 hn9 hs9 hLc hdb9 hnmc hclc hszc hfr9 hmi9 hLc2 hLa9 hbsa hrsa hata hg2 hbd hszv hbna hbnc HOC
          go_wp2_with (first
            | (go_at_call 16; refine HNa.out.mono ?_; rintro e wa ⟨rfl, hwa⟩; (have hwb := hwa.symm); subst hwb; clear HNa)
            | (go_at_call 16; refine HNc.out.mono ?_; rintro e wa ⟨rfl, hwa⟩; (have hwb := hwa.symm); subst hwb; clear HNc)
            | (go_at_call 17; refine HSa.out.mono ?_; rintro e wa ⟨rfl, hwa⟩; (have hwb := hwa.symm); subst hwb; clear HSa)
            | (go_at_call 17; refine HSc.out.mono ?_; rintro e wa ⟨rfl, hwa⟩; (have hwb := hwa.symm); subst hwb; clear HSc)
            | (go_at_call 19; refine HBa.out.mono ?_; rintro e wa ⟨Aa, ca, rfl, hoa, hba⟩; (have HBea := Lib.hid hba); (have HOa := Lib.hid hoa); (have HBc := Lib.hid (base_any (HLc9.out.turn (Fr.of_below hba) (D' := fun b => b < w8.heap.size) (fun b hb => .inl hb)))); rw [HBNC.out] at HBc; clear hoa hba HBa)
            | (go_at_call 19; refine HBc.out.mono ?_; rintro e wb ⟨Ab, cb, rfl, hob, hbb⟩; (have hbab : Below w9.heap.size w9 wb := HBea.out.trans (hbb.mono HBea.out.size)); (have HBeb := Lib.hid hbab); (have hra := HOa.out.rd hbb); (have hrb := hob.rd (Below.refl _ _)); (have HSM := Lib.hid (sameY_any (c := ca) (d := cb) (hra.more hbb.size) hrb (by omega) (by omega))); rw [sameY_refl] at HSM; clear hob hbb hbab hra hrb HBc)
            | (go_at_call 18; refine HSM.out.mono ?_; rintro e wc ⟨rfl, qc, hqc⟩; (have hbc : Below w9.heap.size w9 wc := by rw [hqc]; exact below_drewN HBeb.out qc); (have HBec := Lib.hid hbc); (have HRa := Lib.hid (records_any (HLa9.out.turn (Fr.of_below hbc) (D' := fun b => b < w7.heap.size) (fun b hb => .inl hb)) (by omega))); clear hbc hqc HSM)
            | (go_at_call 21; refine HRa.out.mono ?_; rintro e wd ⟨Ad, cd, rfl, hrd, hbd⟩; (have hbcd : Below w9.heap.size w9 wd := HBec.out.trans (hbd.mono HBec.out.size)); (have HBed := Lib.hid hbcd); (have HRda := Lib.hid hrd); (have HRc := Lib.hid (records_any (HLc9.out.turn (Fr.of_below hbcd) (D' := fun b => b < w8.heap.size) (fun b hb => .inl hb)) (by omega))); clear hrd hbd hbcd HRa)
            | (go_at_call 21; refine HRc.out.mono ?_; rintro e we ⟨Ae, ce, rfl, hre, hbe⟩; (have hbce : Below w9.heap.size w9 we := HBed.out.trans (hbe.mono HBed.out.size)); (have HBee := Lib.hid hbce); (have HS14 := Lib.hid (same14_any (c := cd) (d := ce) (HRda.out.below hbe).rdT hre.rdT (by omega) (by omega))); (have HYES : Hid (sameT rs.length (fun j => rs.getD j []) rs.length (fun j => rs.getD j []) = true) := Lib.hid (sameT_yes (fun i hi => rfl))); rw [HYES.out] at HS14; clear hre hbe hbce HRc)
            | (go_at_call 20; refine HS14.out.mono ?_; rintro e wf ⟨rfl, qf, hqf⟩; (have HBef : Hid (Below w.heap.size w wf) := Lib.hid (by rw [hqf]; exact below_drewN (HB9.out.trans (HBee.out.mono HB9.out.size)) qf)); clear hqf HS14))
          go_ret
          exact ⟨rfl, HBef.out⟩
end Go.Proofs.Ytadajkgiijpakaa
