/-
  DockApart, over this translation.
-/
import Derived.Test.YtinphdphloddmabKApt
namespace Go.Proofs.Ytinphdphloddmab
open Go.RowKit
open ByteP
set_option linter.unusedVariables false
set_option maxRecDepth 10000

/-- A step of a play. -/
structure OpV where
  kind : Int
  name : Int
  n : Int
  dA : Option Addr
  dn : Nat
  dc : Nat
  ds : List Int
  kA : Option Addr
  kn : Nat
  kc : Nat
  ks : List Int
def RdO (w : World) (B : Nat) (A : Option Addr) (m : Nat) (o : Nat → OpV) : Prop := ∀ j, j < m → ∃ b off, A = some ⟨b, off, none⟩ ∧ b < B ∧
  w.cell? ⟨b, off + j * 5, none⟩ = some (.int .i64 (o j).kind) ∧ w.cell? ⟨b, off + j * 5 + 1, none⟩ = some (.int .i64 (o j).name) ∧ w.cell? ⟨b, off + j * 5 + 2, none⟩ = some (.int .i64 (o j).n) ∧
  w.cell? ⟨b, off + j * 5 + 3, none⟩ = some (.slice (o j).dA (o j).dn (o j).dc) ∧ w.cell? ⟨b, off + j * 5 + 4, none⟩ = some (.slice (o j).kA (o j).kn (o j).kc) ∧
  (-9223372036854775808 ≤ (o j).name ∧ (o j).name ≤ 9223372036854775807) ∧ ((o j).n ≤ 9223372036854775807) ∧
  RdY w B (o j).dA (o j).dn (o j).ds ∧ Bytes (o j).ds ∧ Rd w B (o j).kA (o j).kn (o j).ks
theorem RdO.below {w w' : World} {B m : Nat} {A : Option Addr} {o : Nat → OpV} (h : RdO w B A m o) (hb : Below B w w') : RdO w' B A m o := fun j hj => by
  obtain ⟨b, off, e, hlt, h0, h1, h2, h3, h4, h5, h6, h7, h8, h9⟩ := h j hj
  exact ⟨b, off, e, hlt, (hb.cell hlt).trans h0, (hb.cell hlt).trans h1, (hb.cell hlt).trans h2, (hb.cell hlt).trans h3, (hb.cell hlt).trans h4, h5, h6, h7.below hb, h8, h9.below hb⟩

theorem RdO.data {w : World} {B m : Nat} {A : Option Addr} {o : Nat → OpV} (h : RdO w B A m o) {j : Nat} (hj : j < m) : RdY w B (o j).dA (o j).dn (o j).ds := by
  obtain ⟨b, off, e, hlt, h0, h1, h2, h3, h4, h5, h6, h7, h8, h9⟩ := h j hj
  exact h7
theorem RdO.keeps {w : World} {B m : Nat} {A : Option Addr} {o : Nat → OpV} (h : RdO w B A m o) {j : Nat} (hj : j < m) : Rd w B (o j).kA (o j).kn (o j).ks := by
  obtain ⟨b, off, e, hlt, h0, h1, h2, h3, h4, h5, h6, h7, h8, h9⟩ := h j hj
  exact h9

set_option maxHeartbeats 8000000 in
theorem law_apart {w : World} {A1 A : Option Addr} {n1 c1 m c : Nat} {xs : List Int} {o : Nat → OpV} (h1 : RdY w w.heap.size A1 n1 xs) (hb1 : Bytes xs) (hl1 : n1 ≤ 9223372036854775807) (ho : RdO w w.heap.size A m o) (hm : m ≤ 9223372036854775807) :
    Calls Try.prog 4 #[.slice A1 n1 c1, .slice A m c] w fun e w' => e = .returned (.bool true) ∧ Below w.heap.size w w' := by
  have HX := Lib.hid h1
  have HBX := Lib.hid hb1
  have HO := Lib.hid ho
  have hlx := h1.len
  clear h1 hb1 ho
  go_enter Try.func4, Try.ntmps4
  go_wp2_with fail
  refine (anchor_any w).mono ?_
  rintro e w0 ⟨rfl, hb0⟩
  have HB0 := Lib.hid hb0
  clear hb0
  by_cases hn1 : 500 < n1
  · have d1 : decide ((500 : Int) < (n1 : Int)) = true := by simp; omega
    go_wp2
    go_ret
    exact ⟨rfl, HB0.out⟩
  have d1 : decide ((500 : Int) < (n1 : Int)) = false := by simp; omega
  by_cases hm0 : 60 < m
  · have d2 : decide ((60 : Int) < (m : Int)) = true := by simp; omega
    go_wp2
    go_ret
    exact ⟨rfl, HB0.out⟩
  have d2 : decide ((60 : Int) < (m : Int)) = false := by simp; omega
  go_wp2_with fail
  refine (new_any w0 1048576 (by omega) (by omega)).mono ?_
  rintro e w1 ⟨db, mb, rfl, hmb, hk1, hb1⟩
  have H1 := Lib.hid hk1
  have HB1 : Hid (Below w.heap.size w w1) := Lib.hid (HB0.out.trans (hb1.mono HB0.out.size))
  have HMB : Hid (w.heap.size ≤ mb) := Lib.hid (by have := HB0.out.size; omega)
  have HR1 : Hid (RdK w1 (Mine db mb (fun _ => none)) A1 n1 xs) := Lib.hid (RdK.of_rd (HX.out.below HB1.out) HB1.out.size (fun b hb => hk1.low (by have := HB0.out.size; omega)))
  clear hk1 hb1 hmb
  go_wp2_with fail
  refine (append_any (k := 500) H1.out (by omega) rfl (by decide) (by decide) (by decide) (by decide) (by decide) (by decide) HR1.out HBX.out (by simp only; omega) (by show 0 + n1 ≤ _; omega)).mono ?_
  rintro e w2 ⟨rfl, f1, hbs1, hn1', hs1, hk2, hfr2, hmi2⟩
  obtain ⟨F1, HF1e⟩ : ∃ F1, Hid (F1 = putF (fun _ => none) 500 f1) := ⟨_, Lib.hid rfl⟩
  rw [← HF1e.out] at hk2
  have H2 : Hid (Dk w2 db mb 1 ⟨1048576, (n1 : Int), -1, false⟩ F1) := Lib.hid (by have h := hk2; rw [gd_off _ rfl] at h; simpa using h)
  have HB2 : Hid (Below w.heap.size w w2) := Lib.hid (HB1.out.trans ((hfr2.below H1.out).mono HMB.out))
  have HF1 : Hid (f1.bs = xs ∧ f1.n = n1 ∧ f1.s = 0) := Lib.hid ⟨by rw [hbs1]; rfl, by rw [hn1']; show 0 + n1 = n1; omega, hs1⟩
  have HE1 : Hid (F1 500 = some f1) := Lib.hid (by rw [HF1e.out]; exact putF_same _ _ _)
  have HM1 : Hid (∀ x, x ≠ 500 → F1 x = none) := Lib.hid (fun x hx => by rw [HF1e.out, putF_other _ _ hx])
  clear hbs1 hn1' hs1 hk2 hfr2 hmi2 HF1e
  go_wp2_with fail
  refine (sync_ok (k := 500) H2.out (by omega) rfl (by simp only; omega) (by simp only; omega) (by simp only; omega) HE1.out).mono ?_
  rintro e w3 ⟨rfl, hk3, hfr3⟩
  have HAT3 : Hid (ApAt w3 w db mb xs n1 0 (putF F1 500 { f1 with s := f1.n }) ⟨1048576, (n1 : Int), -1, false⟩) := Lib.hid ⟨⟨2, by omega, by have h := hk3; rw [gd_off _ rfl] at h; exact h⟩, ⟨_, putF_same _ _ _, HF1.out.1, HF1.out.2.1, HF1.out.2.1⟩,
    HB2.out.trans ((hfr3.below H2.out).mono HMB.out), HMB.out, (fun k f hf => by
      by_cases e : k = 500
      · subst e
        rw [putF_same] at hf
        injection hf with hf
        subst hf
        have := HF1.out.2.1
        simp only
        omega
      · rw [putF_other _ _ e, HM1.out k e] at hf; cases hf), rfl, by simp only; omega, by simp only; omega, by simp only; omega, by simp only; omega⟩
  clear hk3 hfr3
  go_wp2
  go_loopw [36] (fun i wr => ∃ (j : Nat) (F : Int → Option Fi) (nm : Nm), j ≤ m ∧ i = .int .i64 (j : Int) ∧ Hid (ApAt wr w db mb xs n1 j F nm)) (fun i _ => m - (intOf i).toNat)
  case atStart => exact ⟨0, _, _, by omega, rfl, HAT3⟩
  case round =>
    obtain ⟨j, F, nm, hj, rfl, hat⟩ := hrel
    by_cases hjm : j < m
    · have hd : decide ((j : Int) < (m : Int)) = true := by simp; omega
      have hi : (j : Int) < (m : Int) := by omega
      have hadd : IntKind.i64.wrap ((j : Int) + 1) = ((j + 1 : Nat) : Int) := by rw [IntWalk.i64_in _ (by omega)]; omega
      obtain ⟨b, off, rfl, hlt, x0, x1, x2, x3, x4, hnb, hnn, hdy, hdb, hks⟩ := (HO.out.below hat.out.below) j hjm
      have hdyw := HO.out.data hjm
      have hksw := HO.out.keeps hjm
      generalize o j = v at *
      obtain ⟨kd, nme, nn, dA, dn, dc, ds, kA, kn, kc, ks⟩ := v
      simp only at x0 x1 x2 x3 x4 hnb hnn hdy hdb hks
      have hz := hat.out.below.size
      have HNB := Lib.hid hnb
      have HNN := Lib.hid hnn
      have HDB := Lib.hid hdb
      simp only at hdyw hksw
      have HDY := Lib.hid hdyw
      have HKS := Lib.hid hksw
      clear hdyw hksw
      clear hnb hnn hdb hdy hks hlt
      by_cases hdn : 500 < dn
      · have e1 : decide ((500 : Int) < (dn : Int)) = true := by simp; omega
        go_wp2
        go_ret
        exact ⟨rfl, hat.out.below.alloc hz _⟩
      have e1 : decide ((500 : Int) < (dn : Int)) = false := by simp; omega
      by_cases hkn : 100 < kn
      · have e2 : decide ((100 : Int) < (kn : Int)) = true := by simp; omega
        go_wp2
        go_ret
        exact ⟨rfl, hat.out.below.alloc hz _⟩
      have e2 : decide ((100 : Int) < (kn : Int)) = false := by simp; omega
      have HATA := Lib.hid (hat.out.alloc (.cells #[.int .i64 kd, .int .i64 nme, .int .i64 nn, .slice dA dn dc, .slice kA kn kc] 39))
      by_cases h500 : nme = 500
      · subst h500
        go_wp2
        go_roundw
        case rel => exact ⟨j + 1, F, nm, by omega, rfl, Lib.hid (hat.out.same ((Below.refl _ _).alloc (Nat.le_refl _) _))⟩
        case measure => simp [intOf]; omega
      have e3 : (nme == 500) = false := by simp; omega
      by_cases g1 : kd = 1
      · subst g1
        go_wp2_with fail
        refine (HATA.out.append (by omega) h500 HDY.out HDB.out (by omega)).mono ?_
        rintro e w5 ⟨⟨z, rfl⟩, F5, nm5, hat5⟩
        have HAT5 := Lib.hid hat5
        clear hat5
        go_wp2
        go_roundw
        case rel => exact ⟨j + 1, F5, nm5, by omega, rfl, HAT5⟩
        case measure => simp [intOf]; omega
      have q1 : (kd == 1) = false := by simp; omega
      by_cases g2 : kd = 2
      · subst g2
        go_wp2_with fail
        refine (HATA.out.sync (by omega) h500 (by have := HNB.out; omega) (by have := HNB.out; omega)).mono ?_
        rintro e w5 ⟨⟨z, rfl⟩, F5, nm5, hat5⟩
        have HAT5 := Lib.hid hat5
        clear hat5
        go_wp2
        go_roundw
        case rel => exact ⟨j + 1, F5, nm5, by omega, rfl, HAT5⟩
        case measure => simp [intOf]; omega
      have q2 : (kd == 2) = false := by simp; omega
      by_cases g3 : kd = 3
      · subst g3
        go_wp2_with fail
        refine (HATA.out.remove (by omega) h500 (by have := HNB.out; omega) (by have := HNB.out; omega)).mono ?_
        rintro e w5 ⟨⟨z, rfl⟩, F5, nm5, hat5⟩
        have HAT5 := Lib.hid hat5
        clear hat5
        go_wp2
        go_roundw
        case rel => exact ⟨j + 1, F5, nm5, by omega, rfl, HAT5⟩
        case measure => simp [intOf]; omega
      have q3 : (kd == 3) = false := by simp; omega
      by_cases g5 : kd = 5
      · subst g5
        go_wp2_with fail
        refine (HATA.out.arm nn HNN.out).mono ?_
        rintro e w5 ⟨rfl, F5, nm5, hat5⟩
        have HAT5 := Lib.hid hat5
        clear hat5
        go_wp2
        go_roundw
        case rel => exact ⟨j + 1, F5, nm5, by omega, rfl, HAT5⟩
        case measure => simp [intOf]; omega
      have q5 : (kd == 5) = false := by simp; omega
      by_cases g6 : kd = 6
      · subst g6
        go_wp2_with fail
        refine (HATA.out.crash (by omega) HKS.out (by omega)).mono ?_
        rintro e w5 ⟨rfl, F5, nm5, hat5, _⟩
        have HAT5 := Lib.hid hat5
        clear hat5
        go_wp2
        go_roundw
        case rel => exact ⟨j + 1, F5, nm5, by omega, rfl, HAT5⟩
        case measure => simp [intOf]; omega
      have q6 : (kd == 6) = false := by simp; omega
      by_cases g8 : kd = 8
      · subst g8
        go_wp2_with fail
        refine (HATA.out.cut (by omega) h500 (by have := HNB.out; omega) (by have := HNB.out; omega) nn).mono ?_
        rintro e w5 ⟨⟨z, rfl⟩, F5, nm5, hat5⟩
        have HAT5 := Lib.hid hat5
        clear hat5
        go_wp2
        go_roundw
        case rel => exact ⟨j + 1, F5, nm5, by omega, rfl, HAT5⟩
        case measure => simp [intOf]; omega
      have q8 : (kd == 8) = false := by simp; omega
      go_wp2
      go_roundw
      case rel => exact ⟨j + 1, F, nm, by omega, rfl, Lib.hid (hat.out.same ((Below.refl _ _).alloc (Nat.le_refl _) _))⟩
      case measure => simp [intOf]; omega
    · have hd : decide ((j : Int) < (m : Int)) = false := by simp; omega
      obtain rfl : j = m := by omega
      go_wp2_with fail
      refine (hat.out.crash (by omega) (A := none) (m := 0) (ks := []) Rd.nil_ (by omega)).mono ?_
      rintro e w5 ⟨rfl, F5, nm5, hat5, hdn5⟩
      obtain ⟨K5, hK5, hd5⟩ := hat5.dk
      obtain ⟨f5, hf5, hbs5, hn5, hs5⟩ := hat5.keep
      have H5 := Lib.hid hd5
      have HE5 := Lib.hid hf5
      have HB5 := Lib.hid hat5.below
      have HDN := Lib.hid hdn5
      clear hd5 hf5 hat5 hdn5
      go_wp2_with fail
      refine (read_some H5.out HDN.out HE5.out).mono ?_
      rintro e w7 ⟨A7, c7, rfl, hown7, hb7⟩
      rw [hbs5, hn5] at hown7
      rw [hn5]
      have H7 := Lib.hid (H5.out.below hb7)
      have HB7 : Hid (Below w.heap.size w w7) := Lib.hid (HB5.out.trans (hb7.mono HB5.out.size))
      have hst7 : (convert 29 9 (.slice A7 n1 c7)).run Try.prog w7 = .ok (.string (strOfNums xs)) w7 := by
        obtain ⟨A9, c9, hv, hr⟩ := hown7.shape
        injection hv with e1 e2 e3
        subst e1
        exact str_run (c := c7) hr
      have hst1 : (convert 29 9 (.slice A1 n1 c1)).run Try.prog w7 = .ok (.string (strOfNums xs)) w7 := str_run (c := c1) (HX.out.below HB7.out)
      have HS5 := Lib.hid hs5
      clear hown7 hb7 hs5 hbs5 hn5
      go_wp2_with fail
      refine (safe_same H7.out (by omega) (by omega) HE5.out).mono ?_
      rintro e w8 ⟨rfl, rfl⟩
      rw [HS5.out]
      go_wp2
      go_ret
      exact ⟨rfl, HB7.out⟩
end Go.Proofs.Ytinphdphloddmab
