/-
  DockArms, over this translation.
-/
import Derived.Test.YtinphdphloddmabKWords
namespace Go.Proofs.Ytinphdphloddmab
open Go.RowKit
open ByteP
set_option linter.unusedVariables false
set_option maxRecDepth 10000

/-- The document's Ints: two slices of the same numbers. -/
theorem ints_yes {w : World} {B1 B2 n c1 c2 : Nat} {A1 A2 : Option Addr} {xs : List Int} (h1 : Rd w B1 A1 n xs) (h2 : Rd w B2 A2 n xs) (hn : n ≤ 1099511627776) :
    Calls Try.prog 17 #[.slice A1 n c1, .slice A2 n c2] w fun e w' => e = .returned (.bool true) ∧ w = w' := by
  have H1 := Lib.hid h1
  have H2 := Lib.hid h2
  clear h1 h2
  go_enter Try.func17, Try.ntmps17
  go_wp2
  obtain ⟨wo, HWO⟩ : ∃ wo : World, Hid (wo = w) := ⟨w, Lib.hid rfl⟩
  go_loopw [14] (fun i wr => ∃ j : Nat, j ≤ n ∧ i = .int .i64 (j : Int) ∧ Hid (wo = wr)) (fun i _ => n - (intOf i).toNat)
  case atStart => exact ⟨0, by omega, rfl, HWO⟩
  case round =>
    obtain ⟨j, hj, rfl, hw⟩ := hrel
    obtain rfl : w = wr := HWO.out.symm.trans hw.out
    by_cases hjn : j < n
    · have hd : decide ((j : Int) < (n : Int)) = true := by simp; omega
      obtain ⟨b1, o1, rfl, _, hc1⟩ := H1.out.at_ hjn
      obtain ⟨b2, o2, rfl, _, hc2⟩ := H2.out.at_ hjn
      have hi : (j : Int) < (n : Int) := by omega
      have hadd : IntKind.i64.wrap ((j : Int) + 1) = ((j + 1 : Nat) : Int) := by rw [IntWalk.i64_in _ (by omega)]; omega
      go_wp2
      go_roundw
      case rel => exact ⟨j + 1, by omega, rfl, hw⟩
      case measure => simp [intOf]; omega
    · have hd : decide ((j : Int) < (n : Int)) = false := by simp; omega
      go_wp2
      go_ret
      exact ⟨rfl, rfl⟩

/-- What holds ahead of call number j. -/
structure ArAt (wr w : World) (db mb : Nat) (n : Int) (j : Nat) (f : Fi) (F : Int → Option Fi) (nm : Nm) : Prop where
  dk : Dk wr db mb (j + 1) nm F
  one : F 1 = some f
  other : ∀ x, x ≠ 1 → F x = none
  below : Below w.heap.size w wr
  mbge : w.heap.size ≤ mb
  fn : f.n ≤ j
  nm : ((j : Int) ≤ n ∧ nm = ⟨1000, (f.n : Int), n - (j : Int), false⟩) ∨ (n < (j : Int) ∧ nm = ⟨1000, (f.n : Int), 0, true⟩)
section
variable {wr w : World} {db mb j : Nat} {n : Int} {f : Fi} {F : Int → Option Fi} {nm : Nm}
theorem ArAt.down (h : ArAt wr w db mb n j f F nm) : nm.down = decide (n < (j : Int)) := by
  rcases h.nm with ⟨h1, e⟩ | ⟨h1, e⟩
  · rw [e, decide_eq_false (by omega)]
  · rw [e, decide_eq_true h1]
theorem ArAt.fa (h : ArAt wr w db mb n j f F nm) : fileAt F 1 = f := by unfold fileAt; rw [h.one]; rfl
theorem ArAt.size (h : ArAt wr w db mb n j f F nm) : nm.size = (f.n : Int) ∧ nm.cap = 1000 := by
  rcases h.nm with ⟨_, e⟩ | ⟨_, e⟩ <;> (rw [e]; exact ⟨rfl, rfl⟩)
theorem gd_dec (nm : Nm) (h1 : 0 < nm.left) : gd nm = { nm with left := nm.left - 1 } := by unfold gd; rw [if_neg (by omega), if_neg (by omega)]
theorem gd_nil (nm : Nm) (h1 : nm.left = 0) : gd nm = { nm with down := true } := by unfold gd; rw [if_neg (by omega), if_pos h1]
theorem ArAt.app (h : ArAt wr w db mb n j f F nm) (hn0 : 0 ≤ n) (hn1 : n ≤ 9223372036854775807) (hj : j < 60) :
    Calls Try.prog 11 #[.pointer (some ⟨db, 0, none⟩), .int .i64 1, .slice (some ⟨wr.heap.size, 0, none⟩) 1 1] (wr.alloc (.cells #[.int .u8 1] 5)) fun e w' =>
      e = .returned (.int .i64 (if (j : Int) < n then 0 else 51)) ∧ ∃ f' F' nm', ArAt w' w db mb n (j + 1) f' F' nm' := by
  have hz := h.below.size
  have hfn := h.fn
  have hbe : Below w.heap.size w (wr.alloc (.cells #[.int .u8 1] 5)) := h.below.alloc hz _
  rcases h.nm with ⟨h1, e⟩ | ⟨h1, e⟩
  · have hdk := h.dk
    rw [e] at hdk
    have hy : RdK (wr.alloc (.cells #[.int .u8 1] 5)) (Mine db mb F) (some ⟨wr.heap.size, 0, none⟩) 1 [1] := rdk_new hdk 5 [1] _ rfl _
    have hl1 : (-1 : Int) ≤ n - (j : Int) := by omega
    refine (append_any (k := 1) (hdk.alloc _) (by omega) rfl hl1 (by simp only; omega) (by simp only; omega) (by simp only; omega) (by decide) (by decide) hy (bytes_lit (by decide)) (by simp only; omega) (by rw [h.fa]; omega)).mono ?_
    rintro e w' ⟨rfl, f', hbs, hfn', hfs, hk', hfr', _⟩
    rw [h.fa] at hfn'
    have hb' : Below w.heap.size w w' := hbe.trans ((hfr'.below (hdk.alloc _)).mono h.mbge)
    by_cases hjn : (j : Int) < n
    · rw [gd_dec _ (by simp only; omega)] at hk'
      refine ⟨by rw [if_pos hjn, if_neg (by simp only; omega)], f', _, _, ⟨hk', putF_same _ _ _, fun x hx => by rw [putF_other _ _ hx]; exact h.other x hx, hb', h.mbge, by omega, .inl ⟨by omega, ?_⟩⟩⟩
      simp only [Nm.mk.injEq, true_and, and_true]
      refine ⟨by omega, by omega⟩
    · rw [gd_nil _ (by simp only; omega)] at hk'
      refine ⟨by rw [if_neg hjn, if_pos (by simp only; omega)], f', _, _, ⟨hk', putF_same _ _ _, fun x hx => by rw [putF_other _ _ hx]; exact h.other x hx, hb', h.mbge, by omega, .inr ⟨by omega, ?_⟩⟩⟩
      simp only [Nm.mk.injEq, true_and, and_true]
      refine ⟨by omega, by omega⟩
  · have hdk := h.dk
    rw [e] at hdk
    refine (append_down (hdk.alloc _) rfl 1 _ _ _).mono ?_
    rintro e' w' ⟨rfl, rfl⟩
    exact ⟨by rw [if_neg (by omega)], f, F, _, ⟨(hdk.alloc _).moreK (by omega), h.one, h.other, hbe, h.mbge, by omega, .inr ⟨by omega, rfl⟩⟩⟩
theorem ArAt.syn (h : ArAt wr w db mb n j f F nm) (hn0 : 0 ≤ n) (hn1 : n ≤ 9223372036854775807) (hj : j < 60) :
    Calls Try.prog 13 #[.pointer (some ⟨db, 0, none⟩), .int .i64 1] wr fun e w' =>
      e = .returned (.int .i64 (if (j : Int) < n then 0 else 51)) ∧ ∃ f' F' nm', ArAt w' w db mb n (j + 1) f' F' nm' := by
  have hz := h.below.size
  have hfn := h.fn
  rcases h.nm with ⟨h1, e⟩ | ⟨h1, e⟩
  · have hdk := h.dk
    rw [e] at hdk
    by_cases hjn : (j : Int) < n
    · refine (sync_ok (k := 1) hdk (by omega) rfl (by simp only; omega) (by simp only; omega) (by simp only; omega) h.one).mono ?_
      rintro e w' ⟨rfl, hk', hfr'⟩
      rw [gd_dec _ (by simp only; omega)] at hk'
      refine ⟨by rw [if_pos hjn], { f with s := f.n }, _, _, ⟨hk', putF_same _ _ _, fun x hx => by rw [putF_other _ _ hx]; exact h.other x hx, h.below.trans ((hfr'.below hdk).mono h.mbge), h.mbge, by simp only; omega, .inl ⟨by omega, ?_⟩⟩⟩
      simp only [Nm.mk.injEq, true_and, and_true]
      omega
    · refine (sync_now (k := 1) hdk rfl (by simp only; omega) (by omega) (by omega) h.one).mono ?_
      rintro e w' ⟨rfl, hk', hfr'⟩
      rw [gd_nil _ (by simp only; omega)] at hk'
      refine ⟨by rw [if_neg hjn], f, _, _, ⟨hk'.moreK (by omega), h.one, h.other, h.below.trans ((hfr'.below hdk).mono h.mbge), h.mbge, by omega, .inr ⟨by omega, ?_⟩⟩⟩
      simp only [Nm.mk.injEq, true_and, and_true]
      omega
  · have hdk := h.dk
    rw [e] at hdk
    refine (sync_down hdk rfl 1).mono ?_
    rintro e' w' ⟨rfl, hb'⟩
    exact ⟨by rw [if_neg (by omega)], f, F, _, ⟨(hdk.below hb').moreK (by omega), h.one, h.other, h.below.trans (hb'.mono hz), h.mbge, by omega, .inr ⟨by omega, rfl⟩⟩⟩
end
theorem arms_crash {F : Int → Option Fi} {f : Fi} (hf : F 1 = some f) (ho : ∀ x, x ≠ 1 → F x = none) (hs : f.s ≤ f.n) :
    ∃ f', (crK F [1000] [1] 1).F 1 = some f' ∧ (f.n : Int) + (crK F [1000] [1] 1).d = (f'.n : Int) ∧ f'.n ≤ f.n ∧ ∀ x, x ≠ 1 → (crK F [1000] [1] 1).F x = none := by
  show ∃ f', (crS [1000] (1 : Int) ⟨F, 0, 0⟩).F 1 = some f' ∧ (f.n : Int) + (crS [1000] (1 : Int) ⟨F, 0, 0⟩).d = (f'.n : Int) ∧ f'.n ≤ f.n ∧ ∀ x, x ≠ 1 → (crS [1000] (1 : Int) ⟨F, 0, 0⟩).F x = none
  by_cases h0 : f.s = f.n
  · rw [crS_same (f := f) hf h0]
    exact ⟨f, hf, by simp, Nat.le_refl _, ho⟩
  · rw [crS_cut (f := f) hf h0]
    have hle := kpt_le [1000] 0 f hs
    refine ⟨cutTo f (f.s + kpt [1000] 0 f) (f.s + kpt [1000] 0 f), (show putF F 1 _ 1 = _ from putF_same _ _ _), ?_, hle, fun x hx => (show putF F 1 _ x = none from by rw [putF_other _ _ hx]; exact ho x hx)⟩
    show (f.n : Int) + (0 - ((f.n : Int) - (f.s + kpt [1000] 0 f : Nat))) = ((f.s + kpt [1000] 0 f : Nat) : Int)
    omega

set_option maxHeartbeats 4000000 in
theorem law_arms {w : World} {n : Int} {A : Option Addr} {m c : Nat} {cs : List Int} (hc : Rd w w.heap.size A m cs) (hm : m ≤ 9223372036854775807) (hk : -9223372036854775808 ≤ n ∧ n ≤ 9223372036854775807) :
    Calls Try.prog 3 #[.int .i64 n, .slice A m c] w fun e w' => e = .returned (.bool true) ∧ Below w.heap.size w w' := by
  have HC := Lib.hid hc
  clear hc
  go_enter Try.func3, Try.ntmps3
  go_wp2_with fail
  refine (anchor_any w).mono ?_
  rintro e w0 ⟨rfl, hb0⟩
  have HB0 := Lib.hid hb0
  clear hb0
  by_cases hn0 : n < 0
  · have d1 : decide (n < 0) = true := by simp; omega
    go_wp2
    go_ret
    exact ⟨rfl, HB0.out⟩
  have d1 : decide (n < 0) = false := by simp; omega
  by_cases hm0 : 60 < m
  · have d2 : decide ((60 : Int) < (m : Int)) = true := by simp; omega
    go_wp2
    go_ret
    exact ⟨rfl, HB0.out⟩
  have d2 : decide ((60 : Int) < (m : Int)) = false := by simp; omega
  go_wp2_with fail
  refine (new_any w0 1000 (by omega) (by omega)).mono ?_
  rintro e w1 ⟨db, mb, rfl, hmb, hk1, hb1⟩
  have H1 := Lib.hid hk1
  have HB1 : Hid (Below w.heap.size w w1) := Lib.hid (HB0.out.trans (hb1.mono HB0.out.size))
  have HMB : Hid (w.heap.size ≤ mb) := Lib.hid (by have := HB0.out.size; omega)
  clear hk1 hb1 hmb
  go_wp2_with fail
  refine (append_any (k := 1) (ys := []) (D := none) (m := 0) H1.out (by omega) rfl (by decide) (by decide) (by decide) (by decide) (by decide) (by decide) ⟨rfl, fun h => absurd h (by omega)⟩ (bytes_lit (by simp)) (by simp) (by decide)).mono ?_
  rintro e w2 ⟨rfl, f1, hbs1, hn1', hs1, hk2, hfr2, hmi2⟩
  obtain ⟨F1, HF1e⟩ : ∃ F1, Hid (F1 = putF (fun _ => none) 1 f1) := ⟨_, Lib.hid rfl⟩
  rw [← HF1e.out] at hk2
  have H2 : Hid (Dk w2 db mb 1 ⟨1000, 0, -1, false⟩ F1) := Lib.hid (by have h := hk2; rw [gd_off _ rfl] at h; simpa using h)
  have HB2 : Hid (Below w.heap.size w w2) := Lib.hid (HB1.out.trans ((hfr2.below H1.out).mono HMB.out))
  have HF1 : Hid (f1.n = 0) := Lib.hid (by rw [hn1']; rfl)
  have HE1 : Hid (F1 1 = some f1) := Lib.hid (by rw [HF1e.out]; exact putF_same _ _ _)
  have HM1 : Hid (∀ x, x ≠ 1 → F1 x = none) := Lib.hid (fun x hx => by rw [HF1e.out, putF_other _ _ hx])
  clear hbs1 hn1' hs1 hk2 hfr2 hmi2 HF1e
  go_wp2_with fail
  refine (arm_any H2.out n).mono ?_
  rintro e w3 ⟨rfl, hk3, hfr3⟩
  have H3 : Hid (Dk w3 db mb 1 ⟨1000, 0, n, false⟩ F1) := Lib.hid (by have h := hk3; rw [show max n (-1) = n by omega] at h; exact h)
  have HB3 : Hid (Below w.heap.size w w3) := Lib.hid (HB2.out.trans ((hfr3.below H2.out).mono HMB.out))
  clear hk3 hfr3
  go_wp2
  go_loopw [33] (fun i wr => ∃ (j : Nat) (f : Fi) (F : Int → Option Fi) (nm : Nm), j ≤ m ∧ i = .int .i64 (j : Int) ∧ Hid (ArAt wr w db mb n j f F nm)) (fun i _ => m - (intOf i).toNat)
  case atStart => exact ⟨0, f1, F1, _, by omega, rfl, Lib.hid ⟨H3.out, HE1.out, HM1.out, HB3.out, HMB.out, by have := HF1.out; omega, .inl ⟨by simp; omega, by have := HF1.out; simp [this]⟩⟩⟩
  case round =>
    obtain ⟨j, f, F, nm, hj, rfl, hat⟩ := hrel
    by_cases hjm : j < m
    · have hd : decide ((j : Int) < (m : Int)) = true := by simp; omega
      have hi : (j : Int) < (m : Int) := by omega
      obtain ⟨b1, o1, rfl, _, hc1⟩ := (HC.out.below hat.out.below).at_ hjm
      have hadd : IntKind.i64.wrap ((j : Int) + 1) = ((j + 1 : Nat) : Int) := by rw [IntWalk.i64_in _ (by omega)]; omega
      generalize hx : ix cs j = x at *
      clear hx
      go_wp2_with fail
      · by_cases hjn : (j : Int) < n
        · have q1 : decide ((j : Int) < n) = true := by simp; omega
          have q2 : decide (n ≤ (j : Int)) = false := by simp; omega
          refine (hat.out.app (by omega) hk.2 (by omega)).mono ?_
          rintro e w5 ⟨rfl, f5, F5, nm5, hat5⟩
          have HAT5 := Lib.hid hat5
          have hdn : nm5.down = false := by rw [hat5.down]; simp; omega
          rw [if_pos hjn]
          clear hat5
          go_wp2_with fail
          refine (down_any HAT5.out.dk).mono ?_
          rintro e w6 ⟨rfl, rfl⟩
          rw [hdn]
          go_wp2
          go_roundw
          case rel => exact ⟨j + 1, f5, F5, nm5, by omega, rfl, HAT5⟩
          case measure => simp [intOf]; omega
        · have q1 : decide ((j : Int) < n) = false := by simp; omega
          have q2 : decide (n ≤ (j : Int)) = true := by simp; omega
          refine (hat.out.app (by omega) hk.2 (by omega)).mono ?_
          rintro e w5 ⟨rfl, f5, F5, nm5, hat5⟩
          have HAT5 := Lib.hid hat5
          have hdn : nm5.down = true := by rw [hat5.down]; simp; omega
          rw [if_neg hjn]
          clear hat5
          go_wp2_with fail
          refine (down_any HAT5.out.dk).mono ?_
          rintro e w6 ⟨rfl, rfl⟩
          rw [hdn]
          go_wp2
          go_roundw
          case rel => exact ⟨j + 1, f5, F5, nm5, by omega, rfl, HAT5⟩
          case measure => simp [intOf]; omega
      · by_cases hjn : (j : Int) < n
        · have q1 : decide ((j : Int) < n) = true := by simp; omega
          have q2 : decide (n ≤ (j : Int)) = false := by simp; omega
          refine (hat.out.syn (by omega) hk.2 (by omega)).mono ?_
          rintro e w5 ⟨rfl, f5, F5, nm5, hat5⟩
          have HAT5 := Lib.hid hat5
          have hdn : nm5.down = false := by rw [hat5.down]; simp; omega
          rw [if_pos hjn]
          clear hat5
          go_wp2_with fail
          refine (down_any HAT5.out.dk).mono ?_
          rintro e w6 ⟨rfl, rfl⟩
          rw [hdn]
          go_wp2
          go_roundw
          case rel => exact ⟨j + 1, f5, F5, nm5, by omega, rfl, HAT5⟩
          case measure => simp [intOf]; omega
        · have q1 : decide ((j : Int) < n) = false := by simp; omega
          have q2 : decide (n ≤ (j : Int)) = true := by simp; omega
          refine (hat.out.syn (by omega) hk.2 (by omega)).mono ?_
          rintro e w5 ⟨rfl, f5, F5, nm5, hat5⟩
          have HAT5 := Lib.hid hat5
          have hdn : nm5.down = true := by rw [hat5.down]; simp; omega
          rw [if_neg hjn]
          clear hat5
          go_wp2_with fail
          refine (down_any HAT5.out.dk).mono ?_
          rintro e w6 ⟨rfl, rfl⟩
          rw [hdn]
          go_wp2
          go_roundw
          case rel => exact ⟨j + 1, f5, F5, nm5, by omega, rfl, HAT5⟩
          case measure => simp [intOf]; omega
    · have hd : decide ((j : Int) < (m : Int)) = false := by simp; omega
      obtain rfl : j = m := by omega
      have HS := Lib.hid hat.out.size
      have HZ4 : Hid (RdZ (wr.alloc (.cells #[.int .i64 1000] 3)) (Mine db mb F) (some ⟨wr.heap.size, 0, none⟩) 1 [1000]) := Lib.hid (rdz_new hat.out.dk 3 [1000] _ rfl)
      have hfn := hat.out.fn
      go_wp2_with fail
      refine (crash_any (hat.out.dk.alloc _) (by omega) (by rw [HS.out.1]; omega) (by rw [HS.out.1]; omega) HZ4.out (by decide)).mono ?_
      rintro e w6 ⟨rfl, ns, hasc, hmem, hnl, hk6, hfr6, hmi6⟩
      have hns : ns = [1] := asc_ext hasc (by unfold Asc; simp) (fun x => by
        rw [hmem x]
        by_cases h1 : x = 1
        · subst h1; rw [hat.out.one]; simp
        · rw [hat.out.other x h1]; simp [h1])
      subst hns
      obtain ⟨f6, he6, hsz6, hn6, hm6⟩ := arms_crash hat.out.one hat.out.other ((hat.out.dk.good _ _ hat.out.one).2.2.1)
      have hk6' : Dk w6 db mb (j + 2) ⟨1000, (f6.n : Int), -1, false⟩ (crK F [1000] [1] 1).F := by
        have h := hk6
        rw [HS.out.1, HS.out.2, show ([1] : List Int).length = 1 from rfl, hsz6] at h
        exact h
      obtain ⟨F6, H6, HE6, HM6⟩ : ∃ F6 : Int → Option Fi, Hid (Dk w6 db mb (j + 2) ⟨1000, (f6.n : Int), -1, false⟩ F6) ∧ Hid (F6 1 = some f6) ∧ Hid (∀ x, x ≠ 1 → F6 x = none) := ⟨_, Lib.hid hk6', Lib.hid he6, Lib.hid hm6⟩
      have HB6 : Hid (Below w.heap.size w w6) := Lib.hid (hat.out.below.trans ((((Below.refl _ _).alloc (by have := hat.out.below.size; omega) _).trans ((hfr6.below (hat.out.dk.alloc _)).mono HMB.out))))
      clear hasc hmem hnl hk6 hfr6 hmi6 he6 hsz6 hm6 hk6'
      go_wp2_with fail
      refine (names_up H6.out (by omega) rfl).mono ?_
      rintro e w7 ⟨A7, c7, ns, rfl, hown7, hasc, hmem, hnl, hb7⟩
      have hns : ns = [1] := asc_ext hasc (by unfold Asc; simp) (fun x => by
        rw [hmem x]
        by_cases h1 : x = 1
        · subst h1; rw [HE6.out]; simp
        · rw [HM6.out x h1]; simp [h1])
      subst hns
      rw [show ([1] : List Int).length = 1 from rfl] at *
      have H7 := Lib.hid (H6.out.below hb7)
      have HB7 : Hid (Below w.heap.size w w7) := Lib.hid (HB6.out.trans (hb7.mono HB6.out.size))
      have HR7 := Lib.hid (Rd.of_own (hown7.alloc (.cells #[.int .i64 1] 3)))
      have HL7 : Hid (Rd (w7.alloc (.cells #[.int .i64 1] 3)) (w7.heap.size + 1) (some ⟨w7.heap.size, 0, none⟩) 1 [1]) := Lib.hid ⟨rfl, fun _ => ⟨w7.heap.size, 0, rfl, by omega, fun k hk => by
        obtain rfl : k = 0 := by omega
        have hb := heap_alloc_new w7 (.cells #[.int .i64 1] 3)
        simp only [World.cell?, hb]
        rfl⟩⟩
      clear hown7 hasc hmem hnl hb7
      go_wp2_with fail
      refine (down_any H7.out).mono ?_
      rintro e w8 ⟨rfl, rfl⟩
      go_wp2_with fail
      refine (ints_yes HR7.out HL7.out (by omega)).mono ?_
      rintro e w8 ⟨rfl, rfl⟩
      go_wp2_with fail
      refine (remove_ok (k := 1) (H7.out.alloc _) rfl (by simp only; omega) (by simp only; omega) (by simp only; omega) (by simp only; omega) (by simp only; omega) HE6.out).mono ?_
      rintro e w9 ⟨rfl, hk9, hfr9⟩
      have H9 : Hid (Dk w9 db mb (j + 2) ⟨1000, 0, -1, false⟩ (delF F6 1)) := Lib.hid (by
        have h := hk9
        rw [gd_off _ rfl, show (f6.n : Int) - (f6.n : Int) = 0 by omega] at h
        exact h)
      have HB9 : Hid (Below w.heap.size w w9) := Lib.hid ((HB7.out.alloc HB7.out.size _).trans ((hfr9.below (H7.out.alloc _)).mono HMB.out))
      clear hk9 hfr9
      go_wp2_with fail
      refine (size_any H9.out).mono ?_
      rintro e w10 ⟨rfl, rfl⟩
      go_wp2
      go_ret
      exact ⟨rfl, HB9.out⟩
end Go.Proofs.Ytinphdphloddmab
