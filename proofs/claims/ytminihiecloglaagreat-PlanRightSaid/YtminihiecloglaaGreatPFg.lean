/-
 MERGED: PGf PFz PFy PFx.
-/
import Derived.Test.YtminihiecloglaaGreatCGa
import Derived.Test.YtminihiecloglaaGreatCSe
import Derived.Test.YtminihiecloglaaGreatPFa
set_option linter.unusedVariables false
set_option linter.unusedSimpArgs false
namespace FlP
open Ieee
theorem nearest_scale (neg : Bool) (a q : Nat) (ha : a < 2 ^ 53) : double.nearest neg (a * 2 ^ q) (-(q : Int)) = double.nearest neg a 0 := by
 by_cases h : a = 0
 ·subst h; simp [Format.nearest]
 have hp : 0 < 2 ^ q := Nat.two_pow_pos q
 have hne : a * 2 ^ q ≠ 0 := by
  intro e; rcases Nat.mul_eq_zero.1 e with e | e
  ·exact h e
  ·omega
 have hL : a.log2 < 53 := (Nat.log2_lt h).2 ha
 unfold Format.nearest
 rw [if_neg h, if_neg hne, log2_mul a q h]
 have hlast : max (-(q : Int) + ((a.log2 + q : Nat) : Int) - (double.fractionBits : Int)) double.leastPlace = max ((0 : Int) + (a.log2 : Int) - (double.fractionBits : Int)) double.leastPlace := by
  congr 1; omega
 have hv : max ((0 : Int) + (a.log2 : Int) - (double.fractionBits : Int)) double.leastPlace = (a.log2 : Int) - 52 := by
  have e1 : (double.fractionBits : Int) = 52 := rfl
  have e2 : double.leastPlace = -1074 := by decide
  rw [e1, e2]; omega
 simp only [hlast, hv]
 congr 3
 obtain ⟨d, hd⟩ : ∃ d : Nat, a.log2 + d = 52 := ⟨52 - a.log2, by omega⟩
 have e0 : ((0 : Int) - ((a.log2 : Int) - 52)).toNat = d := by omega
 have e1 : ((a.log2 : Int) - 52 - 0).toNat = 0 := by omega
 rw [e0, e1, cut_zero]
 rcases Nat.lt_or_ge d q with hq | hq
 ·have f0 : (-(q : Int) - ((a.log2 : Int) - 52)).toNat = 0 := by omega
  have f1 : ((a.log2 : Int) - 52 - -(q : Int)).toNat = q - d := by omega
  rw [f0, f1]
  have : (a * 2 ^ q) <<< 0 = (a * 2 ^ d) * 2 ^ (q - d) := by
   rw [Nat.shiftLeft_zero, Nat.mul_assoc, ← Nat.pow_add]; congr 2; omega
  rw [this, cut_exact _ _ _ _ (by intro e; rcases Nat.mul_eq_zero.1 e with e | e; exact h e; have := Nat.two_pow_pos d; omega), Nat.shiftLeft_eq]
 ·have f0 : (-(q : Int) - ((a.log2 : Int) - 52)).toNat = d - q := by omega
  have f1 : ((a.log2 : Int) - 52 - -(q : Int)).toNat = 0 := by omega
  rw [f0, f1, cut_zero, Nat.shiftLeft_eq, Nat.shiftLeft_eq, Nat.mul_assoc, ← Nat.pow_add]
  congr 2; omega
theorem mul_pow_lt {n : Int} {k : Nat} : n * 2 ^ k < 0 ↔ n < 0 := by
 have := pow_pos_int k
 constructor
 ·intro h
  rcases Int.lt_or_le n 0 with h' | h'
  ·exact h'
  ·have := Int.mul_nonneg h' (Int.le_of_lt this); omega
 ·intro h; exact Int.mul_neg_of_neg_of_pos h this
theorem mul_pow_zero {n : Int} {k : Nat} : n * 2 ^ k = 0 ↔ n = 0 := by
 have := pow_pos_int k
 rw [Int.mul_eq_zero]
 constructor
 ·rintro (h | h)
  ·exact h
  ·omega
 ·exact .inl
theorem natAbs_mul_pow (n : Int) (k : Nat) : (n * 2 ^ k).natAbs = n.natAbs * 2 ^ k := by
 rw [Int.natAbs_mul]; congr 1
theorem sum_stands {a b : Int} {x y : Datum} (hx : Stands x a) (hy : Stands y b) : ∃ K : Nat, x.sum y = some (.number (decide (a + b < 0)) ((a + b).natAbs * 2 ^ K) (-(K : Int))) := by
 obtain ⟨m, k, rfl, rfl⟩ := hx
 obtain ⟨m', j, rfl, rfl⟩ := hy
 refine ⟨max k j, ?_⟩
 have hb : min (-(k : Int)) (-(j : Int)) = -((max k j : Nat) : Int) := by omega
 simp only [Datum.sum, hb]
 have s1 : (-(k : Int) - -((max k j : Nat) : Int)).toNat = max k j - k := by omega
 have s2 : (-(j : Int) - -((max k j : Nat) : Int)).toNat = max k j - j := by omega
 rw [s1, s2, signed_stands, signed_stands, show k + (max k j - k) = max k j by omega, show j + (max k j - j) = max k j by omega, ← Int.add_mul]
 rw [natAbs_mul_pow]
 congr 2
 by_cases h0 : a + b = 0
 ·rw [if_pos (mul_pow_zero.2 h0)]
  have : ¬ (a + b < 0) := by omega
  simp only [this, decide_false]
  by_cases ha : a < 0
  ·have : ¬ b < 0 := by omega
   simp [this]
  ·simp [ha]
 ·rw [if_neg (fun h => h0 (mul_pow_zero.1 h))]
  simp only [mul_pow_lt]
theorem add_fl {a b : Int} (ha : a.natAbs < 2 ^ 53) (hb : b.natAbs < 2 ^ 53) (hs : (a + b).natAbs < 2 ^ 53) : double.add (fl a) (fl b) = some (fl (a + b)) := by
 obtain ⟨K, hK⟩ := sum_stands (read_fl a ha) (read_fl b hb)
 unfold Format.add
 rw [hK]
 show some (double.nearest _ _ _) = _
 rw [nearest_scale _ _ _ hs]
 rfl
end FlP
namespace Go.Proofs.YtminihiecloglaaGreat
open Go.RowKit
open FlP GaP
theorem fl1 : fl 1 = 4607182418800017408 := by decide +kernel
theorem flM : fl (-1048576) = 13920626448202203136 := by decide +kernel
def St (p : Int × Int) : Prop := -1048576 ≤ p.1 ∧ p.1 ≤ 1048576 ∧ -1048576 ≤ p.2 ∧ p.2 ≤ 1048576
theorem isStep_yes (p : Int × Int) (h : St p) (w : World) : Calls Tryz.prog 109 #[cv p] w fun e w' => e = .returned (.bool true) ∧ w = w' := by
 obtain ⟨x, y⟩ := p
 obtain ⟨h1, h2, h3, h4⟩ := h
 simp only at h1 h2 h3 h4
 have H1 := Lib.hid h1
 have H2 := Lib.hid h2
 have H3 := Lib.hid h3
 have H4 := Lib.hid h4
 clear h1 h2 h3 h4
 unfold cv
 go_enter Tryz.func109, Tryz.ntmps109
 go_wp2_with fail
 refine (whole_yes x (-1048576) 1048576 _ _ (by have := H1.out; have := H2.out; omega) (by decide) (by decide) flM flP H1.out H2.out _).mono ?_; rintro e w' ⟨rfl, rfl⟩
 go_wp2_with fail
 refine (whole_yes y (-1048576) 1048576 _ _ (by have := H3.out; have := H4.out; omega) (by decide) (by decide) flM flP H3.out H4.out _).mono ?_; rintro e w' ⟨rfl, rfl⟩
 go_wp2
 go_ret
 exact ⟨rfl, rfl⟩
theorem unsigned_any (p : Int × Int) (h1 : p.1.natAbs < 2 ^ 53) (h2 : p.2.natAbs < 2 ^ 53) (w : World) : Calls Tryz.prog 111 #[cv p] w fun e w' => e = .returned (cv p) ∧ w = w' := by
 obtain ⟨x, y⟩ := p
 have e1 : ∀ w, (binOp .add 132 (.float .f64 (fl x)) (.float .f64 0)).run Tryz.prog w = .ok (.float .f64 (fl x)) w := fun w =>
  run_float_arith w .add _ .f64 _ _ _ (by show Ieee.double.add _ _ = _; rw [← fl0, add_fl h1 (by decide) (by simpa using h1)]; simp)
 have e2 : ∀ w, (binOp .add 132 (.float .f64 (fl y)) (.float .f64 0)).run Tryz.prog w = .ok (.float .f64 (fl y)) w := fun w =>
  run_float_arith w .add _ .f64 _ _ _ (by show Ieee.double.add _ _ = _; rw [← fl0, add_fl h2 (by decide) (by simpa using h2)]; simp)
 clear h1 h2
 unfold cv
 go_enter Tryz.func111, Tryz.ntmps111
 go_wp2
 go_ret
 exact ⟨rfl, rfl⟩
theorem way_succ (p : Int × Int) (zs : List (Int × Int)) (k : Nat) : way p zs (k + 1) = way p zs k ++ [pos p zs (k + 1)] := by
 unfold way; rw [List.range_succ, List.map_append]; rfl
theorem at_way (p : Int × Int) (zs : List (Int × Int)) (k j : Nat) (h : j ≤ k) : at_ (way p zs k) j = pos p zs j := by
 have h' : j < k + 1 := by omega
 unfold at_ way
 simp [List.getD, h']
theorem add_cv (p q : Int × Int) (h1 : p.1.natAbs < 2 ^ 53) (h2 : p.2.natAbs < 2 ^ 53) (h3 : q.1.natAbs < 2 ^ 53) (h4 : q.2.natAbs < 2 ^ 53) (h5 : (p.1 + q.1).natAbs < 2 ^ 53) (h6 : (p.2 + q.2).natAbs < 2 ^ 53) (w : World) :
  (binOp .add 60 (cv p) (cv q)).run Tryz.prog w = .ok (cv (add2 p q)) w :=
 run_complex_sum w .add (.inl rfl) _ .f64 _ _ _ _ _ _ (by
  unfold cSumBits
  have a1 : floatBits .add .f64 (fl p.1) (fl q.1) = some (fl (p.1 + q.1)) := add_fl h1 h3 h5
  have a2 : floatBits .add .f64 (fl p.2) (fl q.2) = some (fl (p.2 + q.2)) := add_fl h2 h4 h6
  rw [a1, a2]
  rfl)
theorem areSteps_yes {w : World} {B n c : Nat} {A : Option Addr} {zs : List (Int × Int)} (hx : RdZc w B A n zs) (hm : n ≤ 9223372036854775807) (hs : ∀ k, k < n → St (at_ zs k)) :
  Calls Tryz.prog 108 #[.slice A n c] w fun e w' => e = .returned (.bool true) ∧ w = w' := by
 have HX := Lib.hid hx
 have HS := Lib.hid hs
 clear hx hs
 go_enter Tryz.func108, Tryz.ntmps108
 go_wp2_with fail
 go_loop [7] (fun i => ∃ k : Nat, k ≤ n ∧ i = .int .i64 (k : Int)) (fun i => n - (intOf i).toNat)
 case atStart => exact ⟨0, Nat.zero_le _, rfl⟩
 case round =>
  obtain ⟨k, hk, rfl⟩ := hrel
  by_cases hlt : k < n
  ·obtain ⟨b, off, rfl, hb, hc⟩ := HX.out.at_ hlt
   have HK := Lib.hid (HS.out k hlt)
   go_wp2_with (go_at_call 109; refine (isStep_yes _ HK.out _).mono ?_; rintro e w' ⟨rfl, rfl⟩)
   go_round
   case rel => exact ⟨k + 1, by omega, by go_num⟩
   case measure => simp [intOf]; omega
  ·go_wp2
   go_ret
   exact ⟨rfl, rfl⟩
theorem step_deploy (v t : Int) (w : World) (h0 : 0 ≤ v) (h1 : v ≤ 1048576) (h2 : 0 ≤ t) (h3 : t ≤ 1048576) :
  Calls Tryz.prog 60 #[.int .i64 2, .int .i64 v, .int .i64 t] w fun e w' => e = .returned (.tuple #[cv (t - v, 0), .int .i64 0]) ∧ w = w' := by
 have hf : fl 0 = 0 := fl0
 go_enter Tryz.func60, Tryz.ntmps60
 go_wp2_with (go_at_call 86; refine (rightPart_yes _ _ (by omega) (by omega)).mono ?_; rintro e w' ⟨rfl, rfl⟩)
 go_ret2
 exact ⟨by unfold cv; rw [hf]; rfl, rfl⟩
theorem step_one (k v t : Int) (w : World) (h : k = 1 ∨ k = 3) :
  Calls Tryz.prog 60 #[.int .i64 k, .int .i64 v, .int .i64 t] w fun e w' => e = .returned (.tuple #[cv (0, 1), .int .i64 0]) ∧ w = w' := by
 have hf : fl 0 = 0 := fl0
 have hf1 : fl 1 = 4607182418800017408 := fl1
 have HF := Lib.hid hf
 have HF1 := Lib.hid hf1
 clear hf hf1
 rcases h with rfl | rfl
 all_goals
  go_enter Tryz.func60, Tryz.ntmps60
  go_wp2
  go_ret2
  exact ⟨by unfold cv; rw [HF.out, HF1.out]; rfl, rfl⟩
theorem st_small {p : Int × Int} (h : St p) : p.1.natAbs < 2 ^ 53 ∧ p.2.natAbs < 2 ^ 53 := by
 obtain ⟨h1, h2, h3, h4⟩ := h
 exact ⟨by omega, by omega⟩
theorem pl_small {p : Int × Int} (h : Pl p) : p.1.natAbs < 2 ^ 53 ∧ p.2.natAbs < 2 ^ 53 := by
 obtain ⟨h1, h2, h3, h4⟩ := h
 exact ⟨by omega, by omega⟩
set_option maxHeartbeats 1000000 in
theorem walk_yes {w : World} {B n c : Nat} {A : Option Addr} {zs : List (Int × Int)} (p : Int × Int) (hx : RdZc w B A n zs) (hB : B ≤ w.heap.size) (hm : n ≤ 1000000) (hs : ∀ k, k < n → St (at_ zs k)) (hp : ∀ k, k ≤ n → Pl (pos p zs k)) :
  Calls Tryz.prog 84 #[cv p, .slice A n c] w fun e w' => ∃ A' c', e = .returned (.tuple #[.slice A' (n + 1) c', .int .i64 0]) ∧ OwnZc w' w.heap.size (.slice A' (n + 1) c') (n + 1) (way p zs n) ∧ Below w.heap.size w w' := by
 have HX := Lib.hid hx
 have HS := Lib.hid hs
 have HP := Lib.hid hp
 have HB := Lib.hid hB
 clear hx hs hp hB
 have hcv : ∀ p, cv p = .complex .f64 (fl p.1) (fl p.2) := fun _ => rfl
 go_enter Tryz.func84, Tryz.ntmps84
 go_wp2_with fail
 refine (isPlace_yes p (HP.out 0 (Nat.zero_le _)) _).mono ?_; rintro e w' ⟨rfl, rfl⟩
 go_wp2_with fail
 refine (areSteps_yes HX.out (by omega) HS.out).mono ?_; rintro e w' ⟨rfl, rfl⟩
 go_wp2_with fail
 refine (unsigned_any p (pl_small (HP.out 0 (Nat.zero_le _))).1 (pl_small (HP.out 0 (Nat.zero_le _))).2 _).mono ?_; rintro e w' ⟨rfl, rfl⟩
 go_wp2_with fail
 go_loopw [6, 7, 24] (fun at' v i wr => ∃ k : Nat, k ≤ n ∧ i = .int .i64 (k : Int) ∧ at' = cv (pos p zs k) ∧ Hid (OwnZc wr w.heap.size v (k + 1) (way p zs k)) ∧ Hid (Below w.heap.size w wr)) (fun _ _ i _ => n - (intOf i).toNat)
 case atStart =>
  refine ⟨0, Nat.zero_le _, rfl, rfl, Lib.hid ?_, Lib.hid ((Below.refl _ _).alloc (Nat.le_refl _) _)⟩
  exact OwnZc.lit w w.heap.size [p] (Nat.le_refl _) (by simp)
 case round =>
  obtain ⟨k, hk, rfl, rfl, HO, HW⟩ := hrel
  by_cases hlt : k < n
  ·obtain ⟨b, off, rfl, hb, hc0⟩ := (HX.out.below (HW.out.mono HB.out)).at_ hlt
   have HPK := Lib.hid (HP.out (k + 1) hlt)
   have hadd : ∀ w, (binOp .add 60 (.complex .f64 (fl (pos p zs k).1) (fl (pos p zs k).2)) (.complex .f64 (fl (at_ zs k).1) (fl (at_ zs k).2))).run Tryz.prog w = .ok (.complex .f64 (fl (pos p zs (k + 1)).1) (fl (pos p zs (k + 1)).2)) w := add_cv _ _ (pl_small (HP.out k hk)).1 (pl_small (HP.out k hk)).2 (st_small (HS.out k hlt)).1 (st_small (HS.out k hlt)).2 (pl_small (HP.out (k + 1) hlt)).1 (pl_small (HP.out (k + 1) hlt)).2
   have hsz := HW.out.size
   go_wp2_with (first
    | (go_at_call 110; refine (isPlace_yes _ HPK.out _).mono ?_; rintro e w' ⟨rfl, rfl⟩)
    | (at_builtin; refine wpl_appZc rfl (.tmp 34) (.tmp 36) rfl w.heap.size _ (k + 1) _ rfl (HO.out.alloc _) wr.heap.size (pos p zs (k + 1)) rfl (by simp [cv]) (by omega) (by simp; omega) ?_; intro g' c' w1 hown1 hge1 hgr1 hat1))
   rw [← way_succ] at hown1
   have HO1 := Lib.hid hown1
   have HW1 : Hid (Below w.heap.size w w1) := Lib.hid ((HW.out.alloc HW.out.size _).grown hgr1 (by simp; omega) (fun x hx => HO.out.ge x hx))
   clear hown1 hge1 hgr1 hat1
   go_wp2
   go_roundw
   case rel => exact ⟨k + 1, by omega, by go_num, rfl, HO1, HW1⟩
   case measure => simp [intOf]; omega
  ·obtain rfl : k = n := by omega
   have ho := HO.out
   obtain ⟨g, c', rfl, _, _⟩ := ho.form (by omega)
   clear ho
   go_wp2
   go_ret2
   exact ⟨_, _, rfl, HO.out, HW.out⟩
theorem pos_zero (p : Int × Int) (zs : List (Int × Int)) : pos p zs 0 = p := rfl
theorem pos_succ (p : Int × Int) (zs : List (Int × Int)) (k : Nat) : pos p zs (k + 1) = add2 (pos p zs k) (at_ zs k) := rfl
set_option maxHeartbeats 1000000 in
theorem sum_yes {w : World} {B n c : Nat} {A : Option Addr} {zs : List (Int × Int)} (hx : RdZc w B A n zs) (hm : n ≤ 1000000) (hs : ∀ k, k < n → St (at_ zs k)) (hp : ∀ k, k ≤ n → St (pos (0, 0) zs k)) :
  Calls Tryz.prog 83 #[.slice A n c] w fun e w' => e = .returned (.tuple #[cv (pos (0, 0) zs n), .int .i64 0]) ∧ w' = w := by
 have HX := Lib.hid hx
 have HS := Lib.hid hs
 have HP := Lib.hid hp
 clear hx hs hp
 have hf0 : fl 0 = 0 := fl0
 have HF0 := Lib.hid hf0
 clear hf0
 go_enter Tryz.func83, Tryz.ntmps83
 go_wp2_with fail
 refine (areSteps_yes HX.out (by omega) HS.out).mono ?_; rintro e w' ⟨rfl, rfl⟩
 go_wp2_with fail
 go_loop [4, 6, 12] (fun at' _ i => ∃ k : Nat, k ≤ n ∧ i = .int .i64 (k : Int) ∧ at' = .complex .f64 (fl (pos (0, 0) zs k).1) (fl (pos (0, 0) zs k).2)) (fun _ _ i => n - (intOf i).toNat)
 case atStart => exact ⟨0, Nat.zero_le _, rfl, by rw [pos_zero]; show _ = Value.complex .f64 (fl 0) (fl 0); rw [HF0.out]⟩
 case round =>
  obtain ⟨k, hk, rfl, rfl⟩ := hrel
  by_cases hlt : k < n
  ·obtain ⟨b, off, rfl, hb, hc0⟩ := HX.out.at_ hlt
   replace hc0 : w.cell? ⟨b, off + k, none⟩ = some (.complex .f64 (fl (at_ zs k).1) (fl (at_ zs k).2)) := hc0
   have hadd : ∀ w, (binOp .add 60 (.complex .f64 (fl (pos (0, 0) zs k).1) (fl (pos (0, 0) zs k).2)) (.complex .f64 (fl (at_ zs k).1) (fl (at_ zs k).2))).run Tryz.prog w = .ok (.complex .f64 (fl (pos (0, 0) zs (k + 1)).1) (fl (pos (0, 0) zs (k + 1)).2)) w := add_cv _ _ (st_small (HP.out k hk)).1 (st_small (HP.out k hk)).2 (st_small (HS.out k hlt)).1 (st_small (HS.out k hlt)).2 (st_small (HP.out (k + 1) hlt)).1 (st_small (HP.out (k + 1) hlt)).2
   go_wp2_with fail
   go_round
   case rel => exact ⟨k + 1, by omega, by go_num, rfl⟩
   case measure => simp [intOf]; omega
  ·obtain rfl : k = n := by omega
   have HIS := Lib.hid (isStep_yes (pos (0, 0) zs k) (HP.out k (Nat.le_refl _)) w)
   have HIS2 : Hid (Calls Tryz.prog 109 #[.complex .f64 (fl (pos (0, 0) zs k).1) (fl (pos (0, 0) zs k).2)] w _) := Lib.hid HIS.out
   go_wp2_with fail
   refine HIS2.out.mono ?_; rintro e w' ⟨rfl, rfl⟩
   go_wp2
   go_ret2
   exact ⟨rfl, rfl⟩
end Go.Proofs.YtminihiecloglaaGreat
namespace Go.Proofs.YtminihiecloglaaGreat
open Go.RowKit
open SemP FlP GaP DiP
set_option maxRecDepth 10000
/-! ### Pure -/
def vecP (fs ts : List Int) (x : StP) : Int × Int := if x.2 = 2 then (ix ts x.1.toNat - ix fs x.1.toNat, 0) else (0, 1)
def mvB (S : List StP) (s i j : Nat) : Bool := decide ((sAt S j).1 = (i : Int)) && bt s j
def mvL (fs ts : List Int) (S : List StP) (s i k : Nat) : List (Int × Int) := ((List.range k).filter (mvB S s i)).map fun j => vecP fs ts (sAt S j)
theorem mvL_succ (fs ts : List Int) (S : List StP) (s i k : Nat) : mvL fs ts S s i (k + 1) = mvL fs ts S s i k ++ (if mvB S s i k then [vecP fs ts (sAt S k)] else []) := by
 unfold mvL
 rw [List.range_succ, List.filter_append, List.map_append]
 by_cases h : mvB S s i k = true
 ·simp [h]
 ·simp [h]
theorem pos_app (p : Int × Int) (xs ys : List (Int × Int)) : ∀ k, k ≤ xs.length → pos p (xs ++ ys) k = pos p xs k
 | 0, _ => rfl
 | k + 1, h => by rw [pos_succ, pos_succ, pos_app p xs ys k (by omega), at_append_lt (by omega)]
def totK (fs ts : List Int) (S : List StP) (s i k : Nat) : Int × Int := (if dnK S s k i 2 then ix ts i - ix fs i else 0, b2i (dnK S s k i 1) + b2i (dnK S s k i 3))
theorem tot_pos {fs ts : List Int} {S : List StP} {s i n : Nat} (hS : StepsOK S n) : ∀ k, k ≤ S.length → pos (0, 0) (mvL fs ts S s i k) (mvL fs ts S s i k).length = totK fs ts S s i k
 | 0, _ => by
  show (0, 0) = totK fs ts S s i 0
  unfold totK
  rw [dnK_zero, dnK_zero, dnK_zero]; rfl
 | k + 1, hk => by
  have ih := tot_pos (fs := fs) (ts := ts) (s := s) (i := i) hS k (by omega)
  rw [mvL_succ]
  cases hb : mvB S s i k with
  | false =>
   rw [if_neg (by simp), List.append_nil, ih]
   have hne : ∀ q : Int, bt s k = false ∨ sAt S k ≠ ((i : Int), q) := fun q => by
    unfold mvB at hb
    rw [Bool.and_eq_false_iff] at hb
    rcases hb with h | h
    ·right; intro e; rw [e] at h; simp at h
    ·left; exact h
   unfold totK
   rw [dnK_skip (hne 2), dnK_skip (hne 1), dnK_skip (hne 3)]
  | true =>
   rw [if_pos rfl, List.length_append, List.length_singleton, pos_succ, pos_app _ _ _ _ (Nat.le_refl _), ih, at_snoc]
   unfold mvB at hb
   simp only [Bool.and_eq_true, decide_eq_true_eq] at hb
   obtain ⟨he, hbt⟩ := hb
   obtain ⟨j, hj, e, hq1, hq3⟩ := hS.2 k (by omega)
   obtain ⟨q, hq⟩ : ∃ q, (sAt S k).2 = q := ⟨_, rfl⟩
   have hx : sAt S k = ((i : Int), q) := Prod.ext he hq
   rw [hq] at hq1 hq3
   have hnew := dnK_new (s := s) hS.1 (show k < S.length by omega) hx
   have hdone := dnK_done hx hbt
   rw [hx]
   unfold vecP totK add2
   by_cases h2 : q = 2
   ·subst h2
    have s1 : dnK S s (k + 1) i 1 = dnK S s k i 1 := dnK_skip (.inr (by rw [hx]; intro h; injection h with _ h; exact absurd h (by decide)))
    have s3 : dnK S s (k + 1) i 3 = dnK S s k i 3 := dnK_skip (.inr (by rw [hx]; intro h; injection h with _ h; exact absurd h (by decide)))
    rw [hnew, hdone, s1, s3]
    simp
   ·have s2 : dnK S s (k + 1) i 2 = dnK S s k i 2 := dnK_skip (.inr (by rw [hx]; intro h; injection h with _ h; exact h2 h))
    rw [s2]
    by_cases h1 : q = 1
    ·subst h1
     have s3 : dnK S s (k + 1) i 3 = dnK S s k i 3 := dnK_skip (.inr (by rw [hx]; intro h; injection h with _ h; exact absurd h (by decide)))
     rw [hnew, hdone, s3]
     refine Prod.ext (by simp) ?_
     first | (simp [b2i]; done) | (simp [b2i]; omega)
    ·obtain rfl : q = 3 := by omega
     have s1 : dnK S s (k + 1) i 1 = dnK S s k i 1 := dnK_skip (.inr (by rw [hx]; intro h; injection h with _ h; exact absurd h (by decide)))
     rw [hnew, hdone, s1]
     refine Prod.ext (by simp) ?_
     first | (simp [b2i]; done) | (simp [b2i]; omega)
theorem pos_some {fs ts : List Int} {S : List StP} {s i n : Nat} (hS : StepsOK S n) : ∀ k, k ≤ S.length → ∀ j, j ≤ (mvL fs ts S s i k).length → ∃ k', k' ≤ k ∧ pos (0, 0) (mvL fs ts S s i k) j = totK fs ts S s i k'
 | 0, _, j, hj => ⟨0, Nat.le_refl _, by
  have h0 : (mvL fs ts S s i 0).length = 0 := rfl
  obtain rfl : j = 0 := by omega
  exact tot_pos hS 0 (Nat.zero_le _)⟩
 | k + 1, hk, j, hj => by
  by_cases hl : j ≤ (mvL fs ts S s i k).length
  ·obtain ⟨k', h1, h2⟩ := pos_some (fs := fs) (ts := ts) (s := s) (i := i) hS k (by omega) j hl
   refine ⟨k', by omega, ?_⟩
   rw [mvL_succ, pos_app _ _ _ _ hl, h2]
  ·have hlen : (mvL fs ts S s i (k + 1)).length ≤ (mvL fs ts S s i k).length + 1 := by
    rw [mvL_succ, List.length_append]; split <;> simp
   have e : j = (mvL fs ts S s i (k + 1)).length := by omega
   exact ⟨k + 1, Nat.le_refl _, by rw [e]; exact tot_pos hS (k + 1) hk⟩
theorem tot_st {fs ts : List Int} {S : List StP} {s i k : Nat} (h1 : 0 ≤ ix fs i ∧ ix fs i ≤ 1000) (h2 : 0 ≤ ix ts i ∧ ix ts i ≤ 1000) : St (totK fs ts S s i k) := by
 have c1 : 0 ≤ b2i (dnK S s k i 1) ∧ b2i (dnK S s k i 1) ≤ 1 := by unfold b2i; split <;> omega
 have c3 : 0 ≤ b2i (dnK S s k i 3) ∧ b2i (dnK S s k i 3) ≤ 1 := by unfold b2i; split <;> omega
 unfold St totK
 refine ⟨?_, ?_, by show _ ≤ b2i _ + b2i _; omega, by show b2i _ + b2i _ ≤ _; omega⟩
 ·show -1048576 ≤ (if dnK S s k i 2 then ix ts i - ix fs i else 0); split <;> omega
 ·show (if dnK S s k i 2 then ix ts i - ix fs i else 0) ≤ 1048576; split <;> omega
theorem mvL_st {fs ts : List Int} {S : List StP} {s i k : Nat} (h1 : 0 ≤ ix fs i ∧ ix fs i ≤ 1000) (h2 : 0 ≤ ix ts i ∧ ix ts i ≤ 1000) : ∀ j, j < (mvL fs ts S s i k).length → St (at_ (mvL fs ts S s i k) j) := by
 intro j hj
 have hm : at_ (mvL fs ts S s i k) j ∈ mvL fs ts S s i k := by
  unfold at_; rw [List.getD_eq_getElem?_getD, List.getElem?_eq_getElem hj]; exact List.getElem_mem hj
 unfold mvL at hm
 obtain ⟨q, hq, e⟩ := List.mem_map.1 hm
 rw [List.mem_filter] at hq
 have hb := hq.2
 unfold mvB at hb
 simp only [Bool.and_eq_true, decide_eq_true_eq] at hb
 unfold mvL
 rw [← e]
 unfold vecP St
 rw [hb.1, Int.toNat_natCast]
 split
 ·exact ⟨by show _ ≤ ix ts i - ix fs i; omega, by show ix ts i - ix fs i ≤ _; omega, by show (-1048576 : Int) ≤ 0; omega, by show (0 : Int) ≤ 1048576; omega⟩
 ·exact ⟨by show (-1048576 : Int) ≤ 0; omega, by show (0 : Int) ≤ 1048576; omega, by show (-1048576 : Int) ≤ 1; omega, by show (1 : Int) ≤ 1048576; omega⟩
theorem and0_bits {s v : Nat} (hs : s < lim) : (bits BinOp.and IntKind.u64 ((s : Int) / 2 ^ v) 1 == 0) = !bt s v := by
 have e := has_bits (v := v) hs
 have h2 : bits BinOp.and IntKind.u64 ((s : Int) / 2 ^ v) 1 = 0 ∨ bits BinOp.and IntKind.u64 ((s : Int) / 2 ^ v) 1 = 1 := by
  have h3 : ((s : Int) / 2 ^ v) = ((s / 2 ^ v : Nat) : Int) := by simp
  have h1 : s / 2 ^ v < 18446744073709551616 := Nat.lt_of_le_of_lt (Nat.div_le_self _ _) hs
  rw [h3, show (1 : Int) = ((1 : Nat) : Int) from rfl, u64_and_nat _ _ h1 (by decide), Nat.and_one_is_mod]
  have := Nat.mod_lt (s / 2 ^ v) (show 0 < 2 by decide)
  omega
 rcases h2 with h | h
 ·rw [h] at e ⊢
  rw [← e]; rfl
 ·rw [h] at e ⊢
  rw [← e]; rfl
/-! ### Contracts -/
theorem kind_yes {q : Int} (h : 1 ≤ q ∧ q ≤ 3) (w : World) : Calls Tryz.prog 59 #[.int .i64 q] w fun e w' => e = .returned (.bool true) ∧ w = w' := by
 have d1 : decide (1 ≤ q) = true := decide_eq_true h.1
 have d2 : decide (q ≤ 3) = true := decide_eq_true h.2
 obtain ⟨p1, p2⟩ := h
 go_enter Tryz.func59, Tryz.ntmps59
 go_wp2_with fail
 exact bodyPost_ret (results_tmp rfl _ _ _) rfl ⟨rfl, rfl⟩
set_option maxHeartbeats 16000000 in
theorem vector_yes {w : World} {BF BT BS nF cF nT cT nS cS nE cE k i : Nat} {AF AT AS AE : Option Addr} {fs ts : List Int} {S : List StP} {q : Int} (hF : Rd w BF AF nF fs) (hT : Rd w BT AT nT ts) (hS : RdS w BS AS nS S) (hBF : BF ≤ w.heap.size) (hBT : BT ≤ w.heap.size) (hBS : BS ≤ w.heap.size) (hk : k < nS) (hx : sAt S k = ((i : Int), q)) (hq : 1 ≤ q ∧ q ≤ 3) (hiF : i < nF) (hiT : i < nT) (hn : nS ≤ 1000000) (v3 : 0 ≤ ix fs i ∧ ix fs i ≤ 1000) (v4 : 0 ≤ ix ts i ∧ ix ts i ≤ 1000) :
  Calls Tryz.prog 25 #[.agg #[.slice AF nF cF, .slice AT nT cT, .slice AS nS cS, .slice AE nE cE], .int .i64 (k : Int)] w fun e w' => e = .returned (.tuple #[cv (vecP fs ts (sAt S k)), .int .i64 0]) ∧ Below w.heap.size w w' := by
 obtain ⟨W, HW⟩ : ∃ W, Hid (W = w.alloc (.cells #[.slice AF nF cF, .slice AT nT cT, .slice AS nS cS, .slice AE nE cE] 35)) := ⟨_, Lib.hid rfl⟩
 have hbl : Below w.heap.size w W := by rw [HW.out]; exact (Below.refl _ w).alloc (Nat.le_refl _) _
 have HBL := Lib.hid hbl
 have H0 : Hid (W.heap[w.heap.size]? = some (.cells #[.slice AF nF cF, .slice AT nT cT, .slice AS nS cS, .slice AE nE cE] 35 (0, 0))) := Lib.hid (by rw [HW.out]; exact heap_new w _)
 obtain ⟨bF, oF, rfl, hlF, cF0⟩ := (hF.below (hbl.mono hBF)).at_ hiF
 obtain ⟨bT, oT, rfl, hlT, cT0⟩ := (hT.below (hbl.mono hBT)).at_ hiT
 obtain ⟨b2, o2, rfl, hl2, s0, s1⟩ := (hS.below (hbl.mono hBS) hBS).at_ k hk
 have hbF : bF < W.heap.size := by have := hbl.size; omega
 have hbT : bT < W.heap.size := by have := hbl.size; omega
 rw [hx] at s0 s1
 replace s0 : W.cell? ⟨b2, o2 + k * 2, none⟩ = some (.int .i64 (i : Int)) := s0
 replace s1 : W.cell? ⟨b2, o2 + k * 2 + 1, none⟩ = some (.int .i64 q) := s1
 obtain ⟨F, HFV⟩ : ∃ x, Hid (ix fs i = x) := ⟨_, Lib.hid rfl⟩
 obtain ⟨G, HGV⟩ : ∃ x, Hid (ix ts i = x) := ⟨_, Lib.hid rfl⟩
 rw [HFV.out] at cF0 v3
 rw [HGV.out] at cT0 v4
 have HVP : Hid (vecP fs ts (sAt S k) = if q = 2 then (G - F, 0) else (0, 1)) := Lib.hid (by unfold vecP; rw [hx]; simp only [Int.toNat_natCast]; rw [HFV.out, HGV.out])
 have HKY := Lib.hid (kind_yes hq W)
 have hki : (k : Int) < (nS : Int) := by omega
 have hk0 : (0 : Int) ≤ (k : Int) := by omega
 have d1 : decide ((k : Int) < 0) = false := by simp
 have d2 : decide ((nS : Int) ≤ (k : Int)) = false := by simp; omega
 obtain ⟨W1, HW1⟩ : ∃ W1, Hid (W1 = W.alloc (.cells #[.int .i64 (i : Int), .int .i64 q] 64)) := ⟨_, Lib.hid rfl⟩
 have HB1 : Hid (Below W.heap.size W W1) := Lib.hid (by rw [HW1.out]; exact (Below.refl _ W).alloc (Nat.le_refl _) _)
 have K1 : Hid (W1.heap[W.heap.size]? = some (.cells #[.int .i64 (i : Int), .int .i64 q] 64 (0, 0))) := Lib.hid (by rw [HW1.out]; exact heap_new W _)
 have HBW : Hid (Below w.heap.size w W1) := Lib.hid (HBL.out.trans (HB1.out.mono HBL.out.size))
 obtain ⟨y0, y1, y2, y3⟩ := row4 H0.out
 clear hF hT hS hBF hBT hBS hx hbl hlF hlT hl2
 go_enter Tryz.func25, Tryz.ntmps25
 go_upto_region 1 with fail
 change Code.wp _ _ _ _ (w.alloc (.cells #[.slice (some ⟨bF, oF, none⟩) nF cF, .slice (some ⟨bT, oT, none⟩) nT cT, .slice (some ⟨b2, o2, none⟩) nS cS, .slice AE nE cE] 35))
 rw [← HW.out]
 go_wp2_with fail
 refine HKY.out.mono ?_; rintro e w' ⟨rfl, rfl⟩
 go_upto_region 4 with fail
 rw [← HW1.out]
 replace cF0 := (HB1.out.cell (p := ⟨bF, oF + i, none⟩) hbF).trans cF0
 replace cT0 := (HB1.out.cell (p := ⟨bT, oT + i, none⟩) hbT).trans cT0
 clear s0 s1 y0 y1 y2 y3
 obtain ⟨y0, y1, y2, y3⟩ := row4 ((HB1.out.block w.heap.size (heapE_lt H0.out)).trans H0.out)
 obtain ⟨q0, q1, _, _⟩ := row2 K1.out
 by_cases hq2 : q = 2
 rotate_left
 ·have e2 : (q != 2) = true := by rw [bne_iff_ne]; exact hq2
  have HST := Lib.hid (step_one q 0 0 W1 (by omega))
  have HV2 : Hid (vecP fs ts (sAt S k) = (0, 1)) := Lib.hid (by rw [HVP.out, if_neg hq2])
  clear hq2
  go_wp2_with fail
  refine HST.out.mono ?_; rintro e w' ⟨rfl, rfl⟩
  go_wp2_with fail
  exact bodyPost_ret (results_tmp2 rfl _ _ _) rfl ⟨by rw [HV2.out]; rfl, HBW.out⟩
 subst hq2
 have hi0 : (0 : Int) ≤ (i : Int) := by omega
 have hiF' : (i : Int) < (nF : Int) := by omega
 have hiT' : (i : Int) < (nT : Int) := by omega
 have d3 : decide ((i : Int) < 0) = false := by simp
 have d4 : decide ((nF : Int) ≤ (i : Int)) = false := by simp; omega
 have d5 : decide ((nT : Int) ≤ (i : Int)) = false := by simp; omega
 have HST := Lib.hid (step_deploy F G (W1.drewN 1) (by omega) (by omega) (by omega) (by omega))
 have HV2 : Hid (vecP fs ts (sAt S k) = (G - F, 0)) := Lib.hid (by rw [HVP.out, if_pos rfl])
 go_wp2_with fail
 go_region_held3 (fun W' => W'.cell? ⟨w.heap.size, 0, none⟩ = some (.slice (some ⟨bF, oF, none⟩) nF cF) ∧ W'.cell? ⟨w.heap.size, 1, none⟩ = some (.slice (some ⟨bT, oT, none⟩) nT cT) ∧ W'.cell? ⟨W.heap.size, 0, none⟩ = some (.int .i64 (i : Int)) ∧ W'.cell? ⟨W.heap.size, 1, none⟩ = some (.int .i64 2) ∧ W'.cell? ⟨bF, oF + i, none⟩ = some (.int .i64 F) ∧ W'.cell? ⟨bT, oT + i, none⟩ = some (.int .i64 G)) ((first | exact ⟨y0, y1, q0, q1, cF0, cT0⟩ | go_keep)) (first
  | (go_at_call 60; refine HST.out.mono ?_; rintro e w1 ⟨rfl, rfl⟩))
 have HRES : Hid (Below w.heap.size w (W1.drewN 1)) := Lib.hid (Below.drewN' HBW.out 1)
 go_wp2_with fail
 exact bodyPost_ret (results_tmp2 rfl _ _ _) rfl ⟨by rw [HV2.out]; rfl, HRES.out⟩
end Go.Proofs.YtminihiecloglaaGreat
namespace Go.Proofs.YtminihiecloglaaGreat
open Go.RowKit
open SemP FlP GaP DiP
set_option maxRecDepth 10000
theorem mvL_len (fs ts : List Int) (S : List StP) (s i k : Nat) : (mvL fs ts S s i k).length ≤ k := by
 unfold mvL
 rw [List.length_map]
 exact Nat.le_trans (List.length_filter_le _ _) (by simp)
theorem OwnZc.store {w : World} {base g n c : Nat} {zs : List (Int × Int)} (h : OwnZc w base (.slice (some ⟨g, 0, none⟩) n c) n zs) (j : Nat) (u : Int × Int) : OwnZc (w.setCell ⟨g, j, none⟩ (cv u)) base (.slice (some ⟨g, 0, none⟩) n c) n (zs.set j u) := by
 have := (h.stored j (cv u)).1
 unfold OwnZc; rw [List.map_set]; exact this
theorem OwnZc.freeZ {w : World} {base g n c : Nat} {zs : List (Int × Int)} (h : OwnZc w base (.slice (some ⟨g, 0, none⟩) n c) n zs) (j : Nat) : w.frozen? ⟨g, j, none⟩ = false := h.frozenAt j
set_option maxHeartbeats 8000000 in
theorem checkSetP_any {w : World} {BS nF cF nT cT nS cS nE cE n s : Nat} {AF AT AS AE : Option Addr} {S : List StP} (hS : RdS w BS AS nS S) (hBS : BS ≤ w.heap.size) (hOK : StepsOK S n) (hN : nS ≤ 64) :
  Calls Tryz.prog 53 #[.agg #[.slice AF nF cF, .slice AT nT cT, .slice AS nS cS, .slice AE nE cE], .int .i64 (n : Int), .int .u64 (s : Int)] w fun e w' => e = .returned (.int .i64 (if fitsB s nS then 0 else 71)) ∧ Below w.heap.size w w' := by
 obtain ⟨W, HW⟩ : ∃ W, Hid (W = w.alloc (.cells #[.slice AF nF cF, .slice AT nT cT, .slice AS nS cS, .slice AE nE cE] 35)) := ⟨_, Lib.hid rfl⟩
 have hbl : Below w.heap.size w W := by rw [HW.out]; exact (Below.refl _ w).alloc (Nat.le_refl _) _
 have HBL := Lib.hid hbl
 have H0 : Hid (W.heap[w.heap.size]? = some (.cells #[.slice AF nF cF, .slice AT nT cT, .slice AS nS cS, .slice AE nE cE] 35 (0, 0))) := Lib.hid (by rw [HW.out]; exact heap_new w _)
 have HS := Lib.hid (hS.below (hbl.mono hBS) hBS)
 have LS : Hid (BS ≤ W.heap.size) := Lib.hid (Nat.le_trans hBS hbl.size)
 have HSL : Hid (S.length = nS) := Lib.hid hS.len
 have HOK := Lib.hid hOK
 have HQ := Lib.hid (fits_neq (s := s) (n := nS))
 obtain ⟨y0, y1, y2, y3⟩ := row4 H0.out
 have hconv : IntKind.u64.wrap (nS : Int) = (nS : Int) := IntWalk.u64_in _ (by omega)
 obtain ⟨R, HR⟩ : ∃ q : Int, Hid ((if fitsB s nS then (0 : Int) else 71) = q) := ⟨_, Lib.hid rfl⟩
 rw [HR.out]
 clear hS hBS hbl hOK
 go_enter Tryz.func53, Tryz.ntmps53
 go_upto_region 1 with fail
 change Code.wp _ _ _ _ (w.alloc (.cells #[.slice AF nF cF, .slice AT nT cT, .slice AS nS cS, .slice AE nE cE] 35))
 rw [← HW.out]
 cases hft : fitsB s nS with
 | false =>
  have HRX : Hid (R = 71) := Lib.hid (by rw [← HR.out, hft]; rfl)
  rw [hft] at HQ
  have hq := HQ.out
  simp only [Bool.not_false] at hq
  clear hft
  go_wp2_with fail
  exact bodyPost_ret (results_tmp rfl _ _ _) rfl ⟨by rw [HRX.out]; rfl, HBL.out⟩
 | true =>
  have HRX : Hid (R = 0) := Lib.hid (by rw [← HR.out, hft]; rfl)
  rw [hft] at HQ
  have hq := HQ.out
  simp only [Bool.not_true] at hq
  clear hft
  go_wp2_with fail
  clear y0 y1 y2 y3
  go_loopw [8, 19] (fun _ v wr => ∃ k : Nat, k ≤ nS ∧ v = .int .i64 (k : Int) ∧ Hid (Below W.heap.size W wr)) (fun _ v _ => nS - (intOf v).toNat)
  case atStart => exact ⟨0, Nat.zero_le _, rfl, Lib.hid (Below.refl _ _)⟩
  case round =>
   obtain ⟨wo, hwo⟩ : ∃ x, x = wr := ⟨_, rfl⟩
   subst hwo
   obtain ⟨k, hk, rfl, HBo⟩ := hrel
   by_cases hkn : k < nS
   ·have hd : decide ((k : Int) < (nS : Int)) = true := by simp; omega
    have hki : (k : Int) < (nS : Int) := by omega
    have hk0 : (0 : Int) ≤ (k : Int) := by omega
    have hadd : IntKind.i64.wrap ((k : Int) + 1) = ((k + 1 : Nat) : Int) := by rw [IntWalk.i64_in _ (by omega)]; omega
    obtain ⟨b, off, rfl, _, s0, s1⟩ := (HS.out.below (HBo.out.mono LS.out) LS.out).at_ k hkn
    obtain ⟨j, hj, e, hq1, hq3⟩ := HOK.out.2 k (by rw [HSL.out]; exact hkn)
    obtain ⟨q, HQV⟩ : ∃ q, Hid ((sAt S k).2 = q) := ⟨_, Lib.hid rfl⟩
    rw [e] at s0
    rw [HQV.out] at s1 hq1 hq3
    obtain ⟨wq, HWQ⟩ : ∃ wq, Hid (wq = wo.alloc (.cells #[.int .i64 (j : Int), .int .i64 q] 64)) := ⟨_, Lib.hid rfl⟩
    have HBQ : Hid (Below wo.heap.size wo wq) := Lib.hid (by rw [HWQ.out]; exact (Below.refl _ wo).alloc (Nat.le_refl _) _)
    have KSQ : Hid (wq.heap[wo.heap.size]? = some (.cells #[.int .i64 (j : Int), .int .i64 q] 64 (0, 0))) := Lib.hid (by rw [HWQ.out]; exact heap_new wo _)
    have HB1 : Hid (Below W.heap.size W wq) := Lib.hid (HBo.out.trans (HBQ.out.mono HBo.out.size))
    have HKY := Lib.hid (kind_yes ⟨hq1, hq3⟩ wq)
    have e1 : decide ((j : Int) < 0) = false := by simp
    have e2 : decide ((n : Int) ≤ (j : Int)) = false := by simp; omega
    clear hq1 hq3 e
    go_upto_region 6 with fail
    rw [← HWQ.out]
    clear s0 s1
    obtain ⟨q0, q1, _, _⟩ := row2 KSQ.out
    go_wp2_with fail
    refine HKY.out.mono ?_; rintro e w' ⟨rfl, rfl⟩
    go_wp2_with fail
    go_roundw
    case rel => exact ⟨k + 1, by omega, by go_num, HB1⟩
    case measure => simp [intOf]; omega
   ·have hd : decide ((k : Int) < (nS : Int)) = false := by simp; omega
    go_wp2_with fail
    exact bodyPost_ret (results_tmp rfl _ _ _) rfl ⟨by rw [HRX.out]; rfl, HBL.out.trans (HBo.out.mono HBL.out.size)⟩
set_option maxHeartbeats 16000000 in
theorem movedP_any {w : World} {BF BT BS nF cF nT cT nS cS nE cE i s : Nat} {AF AT AS AE : Option Addr} {fs ts : List Int} {S : List StP} {p : Int × Int} (hF : Rd w BF AF nF fs) (hT : Rd w BT AT nT ts) (hS : RdS w BS AS nS S) (hBF : BF ≤ w.heap.size) (hBT : BT ≤ w.heap.size) (hBS : BS ≤ w.heap.size) (hOK : StepsOK S fs.length) (hs : s < lim) (hN : nS ≤ 64) (hiF : i < nF) (hiT : i < nT) (v3 : 0 ≤ ix fs i ∧ ix fs i ≤ 1000) (v4 : 0 ≤ ix ts i ∧ ix ts i ≤ 1000) (hp : Pl p) (hp2 : Pl (add2 p (totK fs ts S s i nS))) :
  Calls Tryz.prog 54 #[.agg #[.slice AF nF cF, .slice AT nT cT, .slice AS nS cS, .slice AE nE cE], cv p, .int .i64 (i : Int), .int .u64 (s : Int)] w fun e w' => e = .returned (.tuple #[cv (add2 p (totK fs ts S s i nS)), .int .i64 0]) ∧ Below w.heap.size w w' := by
 obtain ⟨W, HW⟩ : ∃ W, Hid (W = w.alloc (.cells #[.slice AF nF cF, .slice AT nT cT, .slice AS nS cS, .slice AE nE cE] 35)) := ⟨_, Lib.hid rfl⟩
 have hbl : Below w.heap.size w W := by rw [HW.out]; exact (Below.refl _ w).alloc (Nat.le_refl _) _
 have HBL := Lib.hid hbl
 have H0 : Hid (W.heap[w.heap.size]? = some (.cells #[.slice AF nF cF, .slice AT nT cT, .slice AS nS cS, .slice AE nE cE] 35 (0, 0))) := Lib.hid (by rw [HW.out]; exact heap_new w _)
 have HF := Lib.hid (hF.below (hbl.mono hBF))
 have HT := Lib.hid (hT.below (hbl.mono hBT))
 have HS := Lib.hid (hS.below (hbl.mono hBS) hBS)
 have LF : Hid (BF ≤ W.heap.size) := Lib.hid (Nat.le_trans hBF hbl.size)
 have LT : Hid (BT ≤ W.heap.size) := Lib.hid (Nat.le_trans hBT hbl.size)
 have LS : Hid (BS ≤ W.heap.size) := Lib.hid (Nat.le_trans hBS hbl.size)
 have HSL : Hid (S.length = nS) := Lib.hid hS.len
 have HOK := Lib.hid hOK
 have HSS := Lib.hid hs
 have V3 := Lib.hid v3
 have V4 := Lib.hid v4
 have HPP := Lib.hid hp
 have HP2 := Lib.hid hp2
 obtain ⟨cvp, HCV⟩ : ∃ q, Hid (cv p = q) := ⟨_, Lib.hid rfl⟩
 obtain ⟨TT, HTT⟩ : ∃ x, Hid (totK fs ts S s i nS = x) := ⟨_, Lib.hid rfl⟩
 rw [HTT.out] at HP2 ⊢
 rw [HCV.out]
 clear hF hT hS hBF hBT hBS hbl hOK hs v3 v4 hp hp2
 obtain ⟨y0, y1, y2, y3⟩ := row4 H0.out
 go_enter Tryz.func54, Tryz.ntmps54
 go_upto_region 1 with fail
 change Code.wp _ _ _ _ (w.alloc (.cells #[.slice AF nF cF, .slice AT nT cT, .slice AS nS cS, .slice AE nE cE] 35))
 rw [← HW.out]
 go_wp2_with fail
 clear y0 y1 y2 y3
 go_loopw [10, 11, 12, 13, 14, 21, 38] (fun v _ _ _ _ u _ wr => ∃ k : Nat, k ≤ nS ∧ u = .int .i64 (k : Int) ∧ ∃ A c L, v = .slice A L c ∧ Hid ((mvL fs ts S s i k).length = L) ∧ Hid (OwnZc wr W.heap.size (.slice A L c) L (mvL fs ts S s i k)) ∧ Hid (Below W.heap.size W wr)) (fun _ _ _ _ _ u _ _ => nS - (intOf u).toNat)
 case atStart => exact ⟨0, Nat.zero_le _, rfl, none, 0, 0, rfl, Lib.hid rfl, Lib.hid (OwnZc.nil_ _ _), Lib.hid (Below.refl _ _)⟩
 case round =>
  obtain ⟨wo, hwo⟩ : ∃ x, x = wr := ⟨_, rfl⟩
  subst hwo
  obtain ⟨k, hk, rfl, A, c, L, rfl, HL, HO, HBo⟩ := hrel
  by_cases hkn : k < nS
  ·have hd : decide ((k : Int) < (nS : Int)) = true := by simp; omega
   have hki : (k : Int) < (nS : Int) := by omega
   have hk0 : (0 : Int) ≤ (k : Int) := by omega
   have hadd : IntKind.i64.wrap ((k : Int) + 1) = ((k + 1 : Nat) : Int) := by rw [IntWalk.i64_in _ (by omega)]; omega
   have hconv : IntKind.u64.wrap (k : Int) = (k : Int) := IntWalk.u64_in _ (by omega)
   obtain ⟨b, off, rfl, _, s0, s1⟩ := (HS.out.below (HBo.out.mono LS.out) LS.out).at_ k hkn
   obtain ⟨j, hj, e, hq1, hq3⟩ := HOK.out.2 k (by rw [HSL.out]; exact hkn)
   obtain ⟨q, HQV⟩ : ∃ q, Hid ((sAt S k).2 = q) := ⟨_, Lib.hid rfl⟩
   have HXK : Hid (sAt S k = ((j : Int), q)) := Lib.hid (Prod.ext e HQV.out)
   rw [e] at s0
   rw [HQV.out] at s1 hq1 hq3
   have HQ13 := Lib.hid (And.intro hq1 hq3)
   obtain ⟨wq, HWQ⟩ : ∃ wq, Hid (wq = wo.alloc (.cells #[.int .i64 (j : Int), .int .i64 q] 64)) := ⟨_, Lib.hid rfl⟩
   have HBQ : Hid (Below wo.heap.size wo wq) := Lib.hid (by rw [HWQ.out]; exact (Below.refl _ wo).alloc (Nat.le_refl _) _)
   have KSQ : Hid (wq.heap[wo.heap.size]? = some (.cells #[.int .i64 (j : Int), .int .i64 q] 64 (0, 0))) := Lib.hid (by rw [HWQ.out]; exact heap_new wo _)
   have HB1 : Hid (Below W.heap.size W wq) := Lib.hid (HBo.out.trans (HBQ.out.mono HBo.out.size))
   have HOQ : Hid (OwnZc wq W.heap.size (.slice A L c) L (mvL fs ts S s i k)) := Lib.hid (HO.out.kept HBQ.out)
   have hbit := and0_bits (v := k) HSS.out
   obtain ⟨bb, HBB⟩ : ∃ q, Hid (bt s k = q) := ⟨_, Lib.hid rfl⟩
   rw [HBB.out] at hbit
   have HMS := Lib.hid (mvL_succ fs ts S s i k)
   have HMB : Hid (mvB S s i k = (decide ((j : Int) = (i : Int)) && bb)) := Lib.hid (by unfold mvB; rw [HXK.out, HBB.out])
   clear hq1 hq3 e
   go_upto_region 5 with fail
   rw [← HWQ.out]
   clear s0 s1
   obtain ⟨q0, q1, _, _⟩ := row2 KSQ.out
   by_cases hji : j = i
   rotate_left
   ·have e1 : ((j : Int) != (i : Int)) = true := by rw [bne_iff_ne]; omega
    have HN : Hid (mvL fs ts S s i (k + 1) = mvL fs ts S s i k) := Lib.hid (by rw [HMS.out, HMB.out, decide_eq_false (by omega)]; simp)
    go_wp2_with fail
    go_roundw
    case rel => exact ⟨k + 1, by omega, by go_num, A, c, L, rfl, Lib.hid (by rw [HN.out]; exact HL.out), Lib.hid (by rw [HN.out]; exact HOQ.out), HB1⟩
    case measure => simp [intOf]; omega
   subst hji
   have e1 : ((j : Int) != (j : Int)) = false := by simp
   cases bb with
   | false =>
    simp only [Bool.not_false] at hbit
    have HN : Hid (mvL fs ts S s j (k + 1) = mvL fs ts S s j k) := Lib.hid (by rw [HMS.out, HMB.out]; simp)
    go_wp2_with fail
    go_roundw
    case rel => exact ⟨k + 1, by omega, by go_num, A, c, L, rfl, Lib.hid (by rw [HN.out]; exact HL.out), Lib.hid (by rw [HN.out]; exact HOQ.out), HB1⟩
    case measure => simp [intOf]; omega
   | true =>
    simp only [Bool.not_true] at hbit
    have HN : Hid (mvL fs ts S s j (k + 1) = mvL fs ts S s j k ++ [vecP fs ts (sAt S k)]) := Lib.hid (by rw [HMS.out, HMB.out]; simp)
    have HVY := Lib.hid (vector_yes (w := wq) (cF := cF) (cT := cT) (cS := cS) (nE := nE) (cE := cE) (AE := AE) (HF.out.below (HB1.out.mono LF.out)) (HT.out.below (HB1.out.mono LT.out)) (HS.out.below (HB1.out.mono LS.out) LS.out) (Nat.le_trans LF.out HB1.out.size) (Nat.le_trans LT.out HB1.out.size) (Nat.le_trans LS.out HB1.out.size) hkn HXK.out HQ13.out hiF hiT (by omega) V3.out V4.out)
    obtain ⟨vp, HVP⟩ : ∃ x, Hid (vecP fs ts (sAt S k) = x) := ⟨_, Lib.hid rfl⟩
    rw [HVP.out] at HVY HN
    rw [show cv vp = .complex .f64 (fl vp.1) (fl vp.2) from rfl] at HVY
    have HLK : Hid (L ≤ 64) := Lib.hid (by rw [← HL.out]; have := mvL_len fs ts S s j k; omega)
    obtain ⟨y0, y1, y2, y3⟩ := row4 ((HB1.out.block w.heap.size (heapE_lt H0.out)).trans H0.out)
    go_wp2_with fail
    refine HVY.out.mono ?_
    rintro e wv ⟨rfl, hb⟩
    have HBV : Hid (Below W.heap.size W wv) := Lib.hid (HB1.out.trans (hb.mono HB1.out.size))
    have HOV : Hid (OwnZc wv W.heap.size (.slice A L c) L (mvL fs ts S s j k)) := Lib.hid (HOQ.out.kept hb)
    have hsz : W.heap.size ≤ wv.heap.size := HBV.out.size
    clear hb y0 y1 y2 y3 q0 q1
    go_wp2_with (at_builtin; refine wpl_appZc rfl (.tmp 47) (.tmp 49) rfl W.heap.size _ L _ rfl (HOV.out.alloc _) wv.heap.size vp rfl (by simp [cv]) (by have := HLK.out; omega) (by simp; omega) ?_; intro g' c' w1 hown1 hge1 hgr1 hat1; rw [← HN.out] at hown1; (have HO1 := Lib.hid hown1); (have HW1 : Hid (Below W.heap.size W w1) := Lib.hid ((HBV.out.alloc HBV.out.size _).grown hgr1 (by simp; omega) (fun x hx => HOV.out.ge x hx))); clear hown1 hge1 hgr1 hat1)
    go_roundw
    case rel => exact ⟨k + 1, by omega, by go_num, _, _, _, rfl, Lib.hid (by rw [HN.out, List.length_append, HL.out]; rfl), HO1, HW1⟩
    case measure => simp [intOf]; omega
  ·have hd : decide ((k : Int) < (nS : Int)) = false := by simp; omega
   obtain rfl : k = nS := by omega
   have HLK : Hid (L ≤ 64) := Lib.hid (by rw [← HL.out]; have := mvL_len fs ts S s i k; omega)
   have HSM := Lib.hid (sum_yes (w := wo) (c := c) HO.out.rd (by have := HLK.out; omega) (fun j hj => mvL_st V3.out V4.out j (by rw [HL.out]; exact hj)) (fun j hj => by
    obtain ⟨k', _, h2⟩ := pos_some (fs := fs) (ts := ts) (s := s) (i := i) HOK.out k (by rw [HSL.out]; omega) j (by rw [HL.out]; exact hj)
    rw [h2]; exact tot_st V3.out V4.out))
   have HTP : Hid (pos (0, 0) (mvL fs ts S s i k) L = totK fs ts S s i k) := Lib.hid (by rw [← HL.out]; exact tot_pos HOK.out k (by rw [HSL.out]; omega))
   have HTS : Hid (St (totK fs ts S s i k)) := Lib.hid (tot_st V3.out V4.out)
   rw [HTP.out] at HSM
   rw [HTT.out] at HSM HTS
   rw [show cv TT = .complex .f64 (fl TT.1) (fl TT.2) from rfl] at HSM
   go_wp2_with fail
   refine HSM.out.mono ?_
   rintro e wx ⟨rfl, rfl⟩
   obtain ⟨U, HU⟩ : ∃ U, Hid (U = wx.alloc (.cells ([TT].map cv).toArray 60)) := ⟨_, Lib.hid rfl⟩
   have HOL : Hid (OwnZc U wx.heap.size (.slice (some ⟨wx.heap.size, 0, none⟩) 1 1) 1 [TT]) := Lib.hid (by rw [HU.out]; exact OwnZc.lit wx wx.heap.size [TT] (Nat.le_refl _) (by simp))
   have HXU : Hid (Below wx.heap.size wx U) := Lib.hid (by rw [HU.out]; exact (Below.refl _ wx).alloc (Nat.le_refl _) _)
   have HWK := Lib.hid (walk_yes (w := U) (c := 1) p HOL.out.rd (Nat.le_refl _) (by omega) (fun j hj => by
    obtain rfl : j = 0 := by omega
    exact HTS.out) (fun j hj => by
    rcases (show j = 0 ∨ j = 1 by omega) with rfl | rfl
    ·exact HPP.out
    ·exact HP2.out))
   rw [HCV.out] at HWK
   have HWU : Hid (Below w.heap.size w U) := Lib.hid (HBL.out.trans ((HBo.out.trans (HXU.out.mono HBo.out.size)).mono HBL.out.size))
   go_wp2_with fail
   change Calls _ _ _ (wx.alloc (.cells ([TT].map cv).toArray 60)) _
   rw [← HU.out]
   refine HWK.out.mono ?_
   rintro e wy ⟨A', c', rfl, hown, hb⟩
   have HFY : Hid (Below w.heap.size w wy) := Lib.hid (HWU.out.trans (hb.mono HWU.out.size))
   obtain ⟨b', o', rfl, _, cc⟩ := hown.rd.at_ (k := 1) (by omega)
   rw [at_way p [TT] 1 1 (Nat.le_refl _)] at cc
   have cc : wy.cell? ⟨b', o' + 1, none⟩ = some (cv (add2 p TT)) := cc
   clear hown hb
   go_wp2_with fail
   exact bodyPost_ret (results_tmp2 rfl _ _ _) rfl ⟨rfl, HFY.out⟩
end Go.Proofs.YtminihiecloglaaGreat
namespace Go.Proofs.YtminihiecloglaaGreat
open Go.RowKit
open SemP FlP GaP DiP
set_option maxRecDepth 10000
/-! ### Pure -/
def plM (l : List Sv) (fs ts : List Int) (S : List StP) (s k : Nat) : List (Int × Int) := (List.range fs.length).map fun i => if i < k then plP l fs ts S s i else setP l fs i
theorem plM_len (l : List Sv) (fs ts : List Int) (S : List StP) (s k : Nat) : (plM l fs ts S s k).length = fs.length := by simp [plM]
theorem plM_at (l : List Sv) (fs ts : List Int) (S : List StP) (s k : Nat) {i : Nat} (h : i < fs.length) : at_ (plM l fs ts S s k) i = if i < k then plP l fs ts S s i else setP l fs i := by
 unfold at_ plM; simp [List.getD, h]
theorem plM_zero (l : List Sv) (fs ts : List Int) (S : List StP) (s : Nat) : plM l fs ts S s 0 = setL l fs := by
 unfold plM setL setK; simp
theorem plM_all (l : List Sv) (fs ts : List Int) (S : List StP) (s : Nat) : plM l fs ts S s fs.length = plL l fs ts S s := by
 unfold plM plL
 refine List.map_congr_left (fun i hi => ?_)
 rw [if_pos (List.mem_range.1 hi)]
theorem plM_succ (l : List Sv) (fs ts : List Int) (S : List StP) (s k : Nat) : plM l fs ts S s (k + 1) = (plM l fs ts S s k).set k (plP l fs ts S s k) := by
 apply List.ext_getElem?
 intro i
 by_cases hi : i < fs.length
 ·rw [List.getElem?_set]
  by_cases e : k = i
  ·subst e
   rw [if_pos rfl, if_pos (by rw [plM_len]; exact hi)]
   unfold plM
   rw [List.getElem?_map, List.getElem?_range hi]
   simp
  ·rw [if_neg e]
   unfold plM
   rw [List.getElem?_map, List.getElem?_map, List.getElem?_range hi]
   simp only [Option.map_some]
   by_cases h : i < k
   ·rw [if_pos h, if_pos (by omega)]
   ·rw [if_neg h, if_neg (by omega)]
 ·rw [List.getElem?_eq_none (by rw [plM_len]; omega), List.getElem?_eq_none (by rw [List.length_set, plM_len]; omega)]
theorem plP_tot {l : List Sv} {fs ts : List Int} {S : List StP} {s i : Nat} (hn : S.Nodup) : add2 (setP l fs i) (totK fs ts S s i S.length) = plP l fs ts S s i := by
 unfold add2 totK plP setP
 rw [dnK_all hn, dnK_all hn, dnK_all hn]
 refine Prod.ext ?_ rfl
 cases dne S s i 2
 ·simp
 ·simp; omega
theorem rel_small {l : List Sv} {vs : List Int} {i : Nat} (hsm : SmCat l) (hs : setB l vs = true) (hi : i < vs.length) : 0 ≤ ix vs i ∧ ix vs i ≤ 1000 := by
 obtain ⟨a, b, ea, eb, ha, hb⟩ := isR_nat ((setB_iff.1 hs).2 i hi)
 have := (hsm.2 _ (svAt_mem ha)).2.1
 omega
theorem setP_pl {l : List Sv} {vs : List Int} {i : Nat} (hlv : LevOK l) (hsm : SmCat l) (hs : setB l vs = true) (hi : i < vs.length) : Pl (setP l vs i) := by
 have h := setP_ok hlv hsm ((setB_iff.1 hs).2 i hi)
 unfold Pl; omega
theorem plP_pl {l : List Sv} {fs ts : List Int} {S : List StP} {s i : Nat} (hOK : StepsOK S fs.length) (hlv : LevOK l) (hsm : SmCat l) (hf : setB l fs = true) (ht : setB l ts = true) (hi : i < fs.length) : Pl (plP l fs ts S s i) := by
 obtain ⟨v, e, _, h16, h0, h2⟩ := flK_small (s := s) hOK hlv hsm hf ht (Nat.le_refl _) hi
 rw [flK_all hOK, plL_at _ _ _ _ _ hi] at e h0 h2
 unfold Pl; omega
theorem run_store_cx {P : Program} {w : World} {a : Addr} {m : Mode} (k : FloatKind) (x y : Nat) : (store a (.complex k x y) m).run P w = stored P w a (.complex k x y) m := run_store P w a _ m rfl
attribute [local go_sem] run_store_cx
theorem RdS.drewN {w : World} {B n : Nat} {A : Option Addr} {S : List StP} (h : RdS w B A n S) (k : Nat) : RdS (w.drewN k) B A n S := ⟨h.len, fun j hj => h.at_ j hj⟩
set_option maxHeartbeats 16000000 in
theorem fleetP_any {w : World} {B BF BT BS n c nF cF nT cT nS cS nE cE s : Nat} {A AF AT AS AE : Option Addr} {l : List Sv} {fs ts : List Int} {S : List StP} (h : CatAt w B A n c l) (hlv : LevOK l) (hF : Rd w BF AF nF fs) (hT : Rd w BT AT nT ts) (hS : RdS w BS AS nS S) (hBF : BF ≤ w.heap.size) (hBT : BT ≤ w.heap.size) (hBS : BS ≤ w.heap.size) (hOK : StepsOK S fs.length) (hsf : setB l fs = true) (hst : setB l ts = true) (hs : s < lim) (hN : nS ≤ 64) :
  Calls Tryz.prog 19 #[.agg #[.slice A n c], .agg #[.slice AF nF cF, .slice AT nT cT, .slice AS nS cS, .slice AE nE cE], .int .u64 (s : Int)] w fun e w' => Below w.heap.size w w' ∧ ((fitsB s nS = false ∧ e = .returned (.tuple #[.slice none 0 0, .int .i64 71])) ∨ (fitsB s nS = true ∧ ∃ A' c', e = .returned (.tuple #[.slice A' nF c', .int .i64 0]) ∧ RdZc w' w'.heap.size A' nF (plL l fs ts S s))) := by
 obtain ⟨W, HW⟩ : ∃ W, Hid (W = (w.alloc (.cells #[.slice A n c] 24)).alloc (.cells #[.slice AF nF cF, .slice AT nT cT, .slice AS nS cS, .slice AE nE cE] 35)) := ⟨_, Lib.hid rfl⟩
 have hbl : Below w.heap.size w W := by rw [HW.out]; exact ((Below.refl _ w).alloc (Nat.le_refl _) _).alloc (by simp) _
 have HBL := Lib.hid hbl
 have H0 : Hid (W.heap[w.heap.size]? = some (.cells #[.slice A n c] 24 (0, 0))) := Lib.hid (by
  rw [HW.out, Below.heap_alloc _ _ _ (by simp)]; exact heap_new w _)
 have H1 : Hid (W.heap[w.heap.size + 1]? = some (.cells #[.slice AF nF cF, .slice AT nT cT, .slice AS nS cS, .slice AE nE cE] 35 (0, 0))) := Lib.hid (by
  rw [HW.out]
  have h := heap_new (w.alloc (.cells #[.slice A n c] 24)) (.cells #[.slice AF nF cF, .slice AT nT cT, .slice AS nS cS, .slice AE nE cE] 35)
  rw [World.size_alloc] at h; exact h)
 have HA := Lib.hid (h.below hbl)
 have HF := Lib.hid (hF.below (hbl.mono hBF))
 have HT := Lib.hid (hT.below (hbl.mono hBT))
 have HS := Lib.hid (hS.below (hbl.mono hBS) hBS)
 have LF : Hid (BF ≤ W.heap.size) := Lib.hid (Nat.le_trans hBF hbl.size)
 have LT : Hid (BT ≤ W.heap.size) := Lib.hid (Nat.le_trans hBT hbl.size)
 have LS : Hid (BS ≤ W.heap.size) := Lib.hid (Nat.le_trans hBS hbl.size)
 have HFL : Hid (fs.length = nF) := Lib.hid hF.len
 have HTL : Hid (ts.length = nT) := Lib.hid hT.len
 have HSL : Hid (S.length = nS) := Lib.hid hS.len
 have hn16 := h.n16
 have hfn : fs.length = l.length := (setB_iff.1 hsf).1
 have htn : ts.length = l.length := (setB_iff.1 hst).1
 have hln : l.length = n := h.rd.1
 have hnF16 : nF ≤ 16 := by rw [← HFL.out, hfn, hln]; exact hn16
 have hFT : nF = nT := by rw [← HFL.out, ← HTL.out, hfn, htn]
 subst hFT
 have HLV := Lib.hid hlv
 have HSF := Lib.hid hsf
 have HST := Lib.hid hst
 have HOK := Lib.hid hOK
 have HSS := Lib.hid hs
 have HS1 := Lib.hid (settled_any (w := W) (c := c) (c2 := cF) HA.out hlv HF.out LF.out (by omega))
 clear h hlv hF hT hS hBF hBT hBS hOK hsf hst hbl hfn htn hln hs
 obtain ⟨x0, _⟩ := row1f H0.out
 obtain ⟨y0, y1, y2, y3⟩ := row4 H1.out
 go_enter Tryz.func19, Tryz.ntmps19
 go_upto_region 1 with fail
 change Code.wp _ _ _ _ ((w.alloc (.cells #[.slice A n c] 24)).alloc (.cells #[.slice AF nF cF, .slice AT nF cT, .slice AS nS cS, .slice AE nE cE] 35))
 rw [← HW.out]
 go_wp2_with fail
 refine HS1.out.mono ?_
 rintro e X ⟨hb, ho⟩
 rcases ho with ⟨_, A5, c5, rfl, hown5⟩ | ⟨hs1, _⟩
 rotate_left
 ·rw [HSF.out] at hs1; cases hs1
 have HWX := Lib.hid hb
 have HO5 := Lib.hid hown5
 have HS2 := Lib.hid (settled_any (w := X) (c := c) (c2 := cT) (HA.out.below hb) HLV.out (HT.out.below (hb.mono LT.out)) (Nat.le_trans LT.out hb.size) (by omega))
 clear x0 y0 y1 y2 y3 HS1
 obtain ⟨x0, _⟩ := row1f ((hb.block w.heap.size (heapE_lt H0.out)).trans H0.out)
 obtain ⟨y0, y1, y2, y3⟩ := row4 ((hb.block (w.heap.size + 1) (heapE_lt H1.out)).trans H1.out)
 clear hb hown5
 go_wp2_with fail
 refine HS2.out.mono ?_
 rintro e Y ⟨hb, ho⟩
 rcases ho with ⟨_, A6, c6, rfl, hown6⟩ | ⟨hs1, _⟩
 rotate_left
 ·rw [HST.out] at hs1; cases hs1
 have HXY := Lib.hid hb
 have HWY : Hid (Below W.heap.size W Y) := Lib.hid (HWX.out.trans (hb.mono HWX.out.size))
 have HO5Y : Hid (OwnZc Y W.heap.size (.slice A5 nF c5) nF (setL l fs)) := Lib.hid (HO5.out.kept hb)
 have HCS := Lib.hid (checkSetP_any (w := Y) (nF := nF) (cF := cF) (nT := nF) (cT := cT) (cS := cS) (nE := nE) (cE := cE) (s := s) (AF := AF) (AT := AT) (AE := AE) (HS.out.below (HWY.out.mono LS.out) LS.out) (Nat.le_trans LS.out HWY.out.size) HOK.out hN)
 rw [HFL.out] at HCS
 clear x0 y0 y1 y2 y3 HS2
 obtain ⟨y0, y1, y2, y3⟩ := row4 ((HWY.out.block (w.heap.size + 1) (heapE_lt H1.out)).trans H1.out)
 clear hb hown6
 rcases Bool.eq_false_or_eq_true (fitsB s nS) with hft | hft
 rotate_left
 ·have HFB := Lib.hid hft
  rw [hft] at HCS
  clear hft
  go_wp2_with fail
  refine HCS.out.mono ?_
  rintro e Z ⟨rfl, hb⟩
  have HRES : Hid (Below w.heap.size w Z) := Lib.hid (HBL.out.trans ((HWY.out.trans (hb.mono HWY.out.size)).mono HBL.out.size))
  clear hb
  go_wp2_with fail
  exact bodyPost_ret (results_tmp2 rfl _ _ _) rfl ⟨HRES.out, .inl ⟨HFB.out, rfl⟩⟩
 ·have HFB := Lib.hid hft
  rw [hft] at HCS
  clear hft
  go_wp2_with fail
  refine HCS.out.mono ?_
  rintro e Z ⟨rfl, hb⟩
  have HWZ : Hid (Below W.heap.size W Z) := Lib.hid (HWY.out.trans (hb.mono HWY.out.size))
  have HO5Z : Hid (OwnZc Z W.heap.size (.slice A5 nF c5) nF (plM l fs ts S s 0)) := Lib.hid (by rw [plM_zero]; exact HO5Y.out.kept hb)
  clear hb y0 y1 y2 y3 HCS
  go_wp2_with fail
  go_loopw [13, 14, 15, 46, 49] (fun _ _ _ v _ wr => ∃ k : Nat, k ≤ nF ∧ v = .int .i64 (k : Int) ∧ Hid (OwnZc wr W.heap.size (.slice A5 nF c5) nF (plM l fs ts S s k)) ∧ Hid (Below W.heap.size W wr)) (fun _ _ _ v _ _ => nF - (intOf v).toNat)
  case atStart => exact ⟨0, Nat.zero_le _, rfl, HO5Z, HWZ⟩
  case round =>
   obtain ⟨wo, hwo⟩ : ∃ x, x = wr := ⟨_, rfl⟩
   subst hwo
   obtain ⟨k, hk, rfl, HO, HBo⟩ := hrel
   by_cases hkn : k < nF
   ·have hd : decide ((k : Int) < (nF : Int)) = true := by simp; omega
    have hki : (k : Int) < (nF : Int) := by omega
    have hk0 : (0 : Int) ≤ (k : Int) := by omega
    have hadd : IntKind.i64.wrap ((k : Int) + 1) = ((k + 1 : Nat) : Int) := by rw [IntWalk.i64_in _ (by omega)]; omega
    obtain ⟨g, c', hv, hge, hlt⟩ := HO.out.form (by omega)
    injection hv with hv1 _ hv3
    subst hv1
    subst hv3
    have hkf : k < fs.length := by rw [HFL.out]; exact hkn
    obtain ⟨b', o', hA', _, r0⟩ := HO.out.rd.at_ hkn
    injection hA' with hA'
    injection hA' with q1 q2 _
    subst q1 q2
    rw [plM_at l fs ts S s k hkf, if_neg (by omega), Nat.zero_add] at r0
    have HSN : Hid (add2 (setP l fs k) (totK fs ts S s k nS) = plP l fs ts S s k) := Lib.hid (by rw [← HSL.out]; exact plP_tot HOK.out.1)
    have hsm := HA.out.sm
    have HMV := Lib.hid (movedP_any (w := wo.drewN 1) (i := k) (s := s) (p := setP l fs k) (cF := cF) (cT := cT) (cS := cS) (nE := nE) (cE := cE) (AE := AE) (BF := BF) (BT := BT) (BS := BS) (fs := fs) (ts := ts) (S := S) (AF := AF) (AT := AT) (AS := AS) (nF := nF) (nT := nF) (nS := nS)
     (show Rd wo BF AF nF fs from HF.out.below (HBo.out.mono LF.out)) (show Rd wo BT AT nF ts from HT.out.below (HBo.out.mono LT.out)) ((HS.out.below (HBo.out.mono LS.out) LS.out).drewN 1) (Nat.le_trans LF.out HBo.out.size) (Nat.le_trans LT.out HBo.out.size) (Nat.le_trans LS.out HBo.out.size) HOK.out HSS.out hN hkn hkn (rel_small hsm HSF.out hkf) (rel_small hsm HST.out (by rw [HTL.out]; exact hkn)) (setP_pl HLV.out hsm HSF.out hkf) (by rw [HSN.out]; exact plP_pl HOK.out HLV.out hsm HSF.out HST.out hkf))
    rw [HSN.out] at HMV
    obtain ⟨⟨sa, sb⟩, HSP⟩ : ∃ q, Hid (setP l fs k = q) := ⟨_, Lib.hid rfl⟩
    obtain ⟨pp, HPP⟩ : ∃ q, Hid (plP l fs ts S s k = q) := ⟨_, Lib.hid rfl⟩
    rw [HSP.out] at HMV r0
    rw [HPP.out, show cv (sa, sb) = .complex .f64 (fl sa) (fl sb) from rfl, show cv pp = .complex .f64 (fl pp.1) (fl pp.2) from rfl] at HMV
    rw [show cv (sa, sb) = .complex .f64 (fl sa) (fl sb) from rfl] at r0
    have HNX : Hid (plM l fs ts S s (k + 1) = (plM l fs ts S s k).set k pp) := Lib.hid (by rw [plM_succ, HPP.out])
    have H1o : Hid (wo.heap[w.heap.size + 1]? = _) := Lib.hid ((HBo.out.block (w.heap.size + 1) (heapE_lt H1.out)).trans H1.out)
    obtain ⟨y0, y1, y2, y3⟩ := row4 H1o.out
    have HCEL := Lib.hid (fun (X : World) (hX : Below wo.heap.size wo X) => And.intro (row4 ((hX.block (w.heap.size + 1) (heapE_lt H1o.out)).trans H1o.out)) ((hX.cell (p := ⟨g, k, none⟩) hlt).trans r0))
    go_wp2_with fail
    go_region_held3 (fun W' => (W'.cell? ⟨w.heap.size + 1, 0, none⟩ = some (.slice AF nF cF) ∧ W'.cell? ⟨w.heap.size + 1, 1, none⟩ = some (.slice AT nF cT) ∧ W'.cell? ⟨w.heap.size + 1, 2, none⟩ = some (.slice AS nS cS) ∧ W'.cell? ⟨w.heap.size + 1, 3, none⟩ = some (.slice AE nE cE)) ∧ W'.cell? ⟨g, k, none⟩ = some (.complex .f64 (fl sa) (fl sb))) ((first | exact ⟨⟨y0, y1, y2, y3⟩, r0⟩ | exact HCEL.out _ HBM.out | go_keep)) (first
     | (go_at_call 54; refine HMV.out.mono ?_; rintro e wm ⟨rfl, hb⟩; (have HBM : Hid (Below wo.heap.size wo wm) := Lib.hid ((Below.drewN' (Below.refl _ wo) 1).trans hb)); clear hb; (obtain ⟨⟨u0, u1, u2, u3⟩, u4⟩ := HCEL.out _ HBM.out)))
    have HOM : Hid (OwnZc wm W.heap.size (.slice (some ⟨g, 0, none⟩) nF c5) nF (plM l fs ts S s k)) := Lib.hid (HO.out.kept HBM.out)
    have f0 := HOM.out.freeZ k
    have HNS : Hid (OwnZc (wm.setCell ⟨g, k, none⟩ (cv pp)) W.heap.size (.slice (some ⟨g, 0, none⟩) nF c5) nF (plM l fs ts S s (k + 1))) := Lib.hid (by rw [HNX.out]; exact HOM.out.store k pp)
    have HBN : Hid (Below W.heap.size W (wm.setCell ⟨g, k, none⟩ (cv pp))) := Lib.hid ((HBo.out.trans (HBM.out.mono HBo.out.size)).setCell (p := ⟨g, k, none⟩) hge _)
    clear y0 y1 y2 y3 r0
    go_wp2_with fail
    go_roundw
    case rel => exact ⟨k + 1, by omega, by go_num, HNS, HBN⟩
    case measure => simp [intOf]; omega
   ·have hd : decide ((k : Int) < (nF : Int)) = false := by simp; omega
    obtain rfl : k = nF := by omega
    have HPA : Hid (plM l fs ts S s k = plL l fs ts S s) := Lib.hid (by rw [← HFL.out]; exact plM_all l fs ts S s)
    have HRES : Hid (Below w.heap.size w wo) := Lib.hid (HBL.out.trans (HBo.out.mono HBL.out.size))
    have HRD : Hid (RdZc wo wo.heap.size A5 k (plL l fs ts S s)) := Lib.hid (by rw [← HPA.out]; exact HO.out.rd)
    go_wp2_with fail
    exact bodyPost_ret (results_tmp2 rfl _ _ _) rfl ⟨HRES.out, .inr ⟨HFB.out, A5, c5, rfl, HRD.out⟩⟩
set_option maxHeartbeats 8000000 in
theorem same_yes {w : World} {B B2 n c d : Nat} {A A2 : Option Addr} {zs : List (Int × Int)} (hx : RdZc w B A n zs) (hy : RdZc w B2 A2 n zs) (hn : n ≤ 1000000) (hs : ∀ k, k < n → Pl (at_ zs k)) :
  Calls Tryz.prog 21 #[.slice A n c, .slice A2 n d] w fun e w' => e = .returned (.bool true) ∧ w' = w := by
 have HX := Lib.hid hx
 have HY := Lib.hid hy
 have HS := Lib.hid hs
 clear hx hy hs
 have hnn : ((n : Int) != (n : Int)) = false := by simp
 go_enter Tryz.func21, Tryz.ntmps21
 go_wp2_with fail
 go_loop [5, 6, 14] (fun _ _ v => ∃ k : Nat, k ≤ n ∧ v = .int .i64 (k : Int)) (fun _ _ v => n - (intOf v).toNat)
 case atStart => exact ⟨0, Nat.zero_le _, rfl⟩
 case round =>
  obtain ⟨k, hk, rfl⟩ := hrel
  by_cases hkn : k < n
  ·have hd : decide ((k : Int) < (n : Int)) = true := by simp; omega
   have hki : (k : Int) < (n : Int) := by omega
   have hk0 : (0 : Int) ≤ (k : Int) := by omega
   have hadd : IntKind.i64.wrap ((k : Int) + 1) = ((k + 1 : Nat) : Int) := by rw [IntWalk.i64_in _ (by omega)]; omega
   obtain ⟨b1, o1, rfl, _, k1⟩ := HX.out.at_ hkn
   obtain ⟨b2, o2, rfl, _, k2⟩ := HY.out.at_ hkn
   obtain ⟨p1, p2⟩ := pl_small (HS.out k hkn)
   replace k1 : w.cell? ⟨b1, o1 + k, none⟩ = some (.complex .f64 (fl (at_ zs k).1) (fl (at_ zs k).2)) := k1
   replace k2 : w.cell? ⟨b2, o2 + k, none⟩ = some (.complex .f64 (fl (at_ zs k).1) (fl (at_ zs k).2)) := k2
   have e1 := ord_eq p1
   have e2 := ord_eq p2
   clear p1 p2
   go_wp2_with fail
   go_round
   case rel => exact ⟨k + 1, by omega, by go_num⟩
   case measure => simp [intOf]; omega
  ·have hd : decide ((k : Int) < (n : Int)) = false := by simp; omega
   go_wp2_with fail
   exact bodyPost_ret (results_tmp rfl _ _ _) rfl ⟨rfl, rfl⟩
end Go.Proofs.YtminihiecloglaaGreat
