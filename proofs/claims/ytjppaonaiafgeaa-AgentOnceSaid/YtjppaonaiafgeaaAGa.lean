/-
  CONTRACTS of gauss: Sum, Back, Walk of one step.
-/
import Derived.Test.YtjppaonaiafgeaaAMe
namespace Go.Proofs.Ytjppaonaiafgeaa
open Go.RowKit
open FlP GaP
set_option linter.unusedVariables false
set_option linter.unusedSimpArgs false
set_option maxRecDepth 10000
theorem pos_zero (p : Int × Int) (zs : List (Int × Int)) : pos p zs 0 = p := rfl
theorem pos_succ (p : Int × Int) (zs : List (Int × Int)) (k : Nat) : pos p zs (k + 1) = add2 (pos p zs k) (at_ zs k) := rfl
set_option maxHeartbeats 1000000 in
theorem sum_yes {w : World} {B n c : Nat} {A : Option Addr} {zs : List (Int × Int)} (hx : RdC w B A n zs) (hm : n ≤ 1000000) (hs : ∀ k, k < n → St (at_ zs k)) (hp : ∀ k, k ≤ n → St (pos (0, 0) zs k)) :
  Calls Try.prog 13 #[.slice A n c] w fun e w' => e = .returned (.tuple #[cv (pos (0, 0) zs n), .int .i64 0]) ∧ w' = w := by
 have HX := Lib.hid hx
 have HS := Lib.hid hs
 have HP := Lib.hid hp
 clear hx hs hp
 have hf0 : fl 0 = 0 := fl0
 have HF0 := Lib.hid hf0
 clear hf0
 go_enter Try.func13, Try.ntmps13
 go_wp2_with fail
 refine (areSteps_yes HX.out (by omega) HS.out).mono ?_; rintro e w' ⟨rfl, rfl⟩
 go_wp2_with fail
 go_loop [4, 6, 12] (fun at' _ i => ∃ k : Nat, k ≤ n ∧ i = .int .i64 (k : Int) ∧ at' = .complex .f64 (fl (pos (0, 0) zs k).1) (fl (pos (0, 0) zs k).2)) (fun _ _ i => n - (intOf i).toNat)
 case atStart => exact ⟨0, Nat.zero_le _, rfl, by rw [pos_zero]; show _ = Value.complex .f64 (fl 0) (fl 0); rw [HF0.out]⟩
 case round =>
  obtain ⟨k, hk, rfl, rfl⟩ := hrel
  by_cases hlt : k < n
  ·obtain ⟨b, off, rfl, hb, hc0⟩ := HX.out.at_ hlt
   replace hc0 : w.cell? ⟨b, off + k, none⟩ = some (.complex .f64 (fl (at_ zs k).1) (fl (at_ zs k).2)) := hc0
   have hadd : ∀ w, (binOp .add 26 (.complex .f64 (fl (pos (0, 0) zs k).1) (fl (pos (0, 0) zs k).2)) (.complex .f64 (fl (at_ zs k).1) (fl (at_ zs k).2))).run Try.prog w = .ok (.complex .f64 (fl (pos (0, 0) zs (k + 1)).1) (fl (pos (0, 0) zs (k + 1)).2)) w := add_cv _ _ (st_small (HP.out k hk)).1 (st_small (HP.out k hk)).2 (st_small (HS.out k hlt)).1 (st_small (HS.out k hlt)).2 (st_small (HP.out (k + 1) hlt)).1 (st_small (HP.out (k + 1) hlt)).2
   go_wp2_with fail
   go_round
   case rel => exact ⟨k + 1, by omega, by go_num, rfl⟩
   case measure => simp [intOf]; omega
  ·obtain rfl : k = n := by omega
   have HIS := Lib.hid (isStep_yes (pos (0, 0) zs k) (HP.out k (Nat.le_refl _)) w)
   have HIS2 : Hid (Calls Try.prog 20 #[.complex .f64 (fl (pos (0, 0) zs k).1) (fl (pos (0, 0) zs k).2)] w _) := Lib.hid HIS.out
   go_wp2_with fail
   refine HIS2.out.mono ?_; rintro e w' ⟨rfl, rfl⟩
   go_wp2
   go_ret2
   exact ⟨rfl, rfl⟩

theorem add2_zero (p : Int × Int) : add2 (0, 0) p = p := by unfold add2; simp
theorem pos_one (p s : Int × Int) : pos p [s] 1 = add2 p s := rfl
theorem st_one {s : Int × Int} (hs : St s) : ∀ k, k < 1 → St (at_ [s] k) := by
  intro k hk
  obtain rfl : k = 0 := by omega
  exact hs
theorem sum1 {w : World} {B c : Nat} {A : Option Addr} {s : Int × Int} (hx : RdC w B A 1 [s]) (hs : St s) :
    Calls Try.prog 13 #[.slice A 1 c] w fun e w' => e = .returned (.tuple #[cv s, .int .i64 0]) ∧ w' = w := by
  have h0 : St (0, 0) := ⟨by decide, by decide, by decide, by decide⟩
  have h := sum_yes (c := c) hx (by omega) (st_one hs) (fun k hk => by
    rcases Nat.eq_zero_or_pos k with rfl | h
    · exact h0
    · obtain rfl : k = 1 := by omega
      rw [pos_one, add2_zero]; exact hs)
  rw [pos_one, add2_zero] at h
  exact h
theorem walk1 {w : World} {B c : Nat} {A : Option Addr} {p s : Int × Int} (hx : RdC w B A 1 [s]) (hB : B ≤ w.heap.size) (hs : St s) (hp : Pl p) (hq : Pl (add2 p s)) :
    Calls Try.prog 25 #[cv p, .slice A 1 c] w fun e w' => ∃ g c', e = .returned (.tuple #[.slice (some ⟨g, 0, none⟩) 2 c', .int .i64 0]) ∧ w.heap.size ≤ g ∧ w'.cell? ⟨g, 1, none⟩ = some (cv (add2 p s)) ∧ Below w.heap.size w w' := by
  have h := walk_yes (c := c) p hx hB (by omega) (st_one hs) (fun k hk => by
    rcases Nat.eq_zero_or_pos k with rfl | h
    · exact hp
    · obtain rfl : k = 1 := by omega
      exact hq)
  refine h.mono ?_
  rintro e w' ⟨A', c', rfl, hown, hb⟩
  obtain ⟨g, c2, e, hg, _⟩ := hown.form (by omega)
  injection e with e1 e2 e3
  subst e1
  obtain ⟨b, off, e, _, hc⟩ := hown.rd.at_ (k := 1) (by omega)
  injection e with e
  injection e with e1 e2 _
  subst e1 e2
  exact ⟨g, c', rfl, hg, hc, hb⟩
theorem unsigned_w {a b a' b' : Nat} (h1 : Ieee.double.add a 0 = some a') (h2 : Ieee.double.add b 0 = some b') (w : World) : Calls Try.prog 27 #[.complex .f64 a b] w fun e w' => e = .returned (.complex .f64 a' b') ∧ w = w' := by
  have e1 : ∀ w, (binOp .add 54 (.float .f64 a) (.float .f64 0)).run Try.prog w = .ok (.float .f64 a') w := fun w => run_float_arith w .add _ .f64 _ _ _ h1
  have e2 : ∀ w, (binOp .add 54 (.float .f64 b) (.float .f64 0)).run Try.prog w = .ok (.float .f64 b') w := fun w => run_float_arith w .add _ .f64 _ _ _ h2
  clear h1 h2
  go_enter Try.func27, Try.ntmps27
  go_wp2
  go_ret
  exact ⟨rfl, rfl⟩
theorem neg_run (a b : Nat) (w : World) : (Op.unary .neg (.complex .f64 a b)).run Try.prog w = .ok (.complex .f64 (Op.negFloat .f64 a) (Op.negFloat .f64 b)) w := rfl
theorem ng1 : Op.negFloat .f64 (fl 1) = 13830554455654793216 := by decide +kernel
theorem ng0 : Op.negFloat .f64 (fl 0) = 9223372036854775808 := by decide +kernel
theorem un1 : Ieee.double.add 13830554455654793216 0 = some (fl (-1)) := by decide +kernel
theorem un0 : Ieee.double.add 9223372036854775808 0 = some (fl 0) := by decide +kernel
set_option maxHeartbeats 2000000 in
theorem back11 {w : World} {B c : Nat} {A : Option Addr} (hx : RdC w B A 1 [(1, 1)]) (hB : B ≤ w.heap.size) :
    Calls Try.prog 24 #[.slice A 1 c] w fun e w' => ∃ g c', e = .returned (.tuple #[.slice (some ⟨g, 0, none⟩) 1 c', .int .i64 0]) ∧ w'.cell? ⟨g, 0, none⟩ = some (cv (-1, -1)) ∧ Below w.heap.size w w' := by
  have HX := Lib.hid hx
  have hst : St (1, 1) := ⟨by decide, by decide, by decide, by decide⟩
  have HS := Lib.hid hst
  obtain ⟨b, off, rfl, hb, hc⟩ := hx.at_ (k := 0) (by omega)
  obtain ⟨f1, HF1⟩ : ∃ f, Hid (fl 1 = f) := ⟨_, Lib.hid rfl⟩
  obtain ⟨f2, HF2⟩ : ∃ f, Hid (fl 1 = f) := ⟨_, Lib.hid rfl⟩
  have hc' : w.cell? ⟨b, off, none⟩ = some (.complex .f64 f1 f2) := by rw [← HF1.out, ← HF2.out]; exact hc
  have hng : ∀ w, (Op.unary .neg (.complex .f64 f1 f2)).run Try.prog w = .ok (.complex .f64 13830554455654793216 13830554455654793216) w := fun w => by rw [← HF1.out, ← HF2.out, neg_run, ng1]
  have HU := Lib.hid (fun w => unsigned_w (w := w) un1 un1)
  have HNL : Hid (OwnC w w.heap.size (.slice none 0 0) 0 []) := Lib.hid (World.ownsRow_nil _ _ _ _)
  clear hx hst hc
  go_enter Try.func24, Try.ntmps24
  go_wp2_with fail
  refine (areSteps_yes HX.out (by omega) (st_one HS.out)).mono ?_; rintro e w' ⟨rfl, rfl⟩
  go_wp2_with fail
  refine wp_loop_rounds 2 ?_
  rw [rounds_succ]
  go_wp2_with fail
  refine (HU.out _).mono ?_
  rintro e w' ⟨rfl, rfl⟩
  go_wp2_with (at_builtin; refine wpl_appC rfl _ _ rfl w.heap.size _ 0 [] rfl (OwnC.alloc HNL.out _) w.heap.size (-1, -1) rfl (by simp [cv]) (by omega) (by simp) ?_; intro g c2 w2 hown2 hge2 hgr2 hat2)
  have HB2 : Hid (Below w.heap.size w w2) := Lib.hid (((Below.refl _ w).alloc (Nat.le_refl _) _).grown hgr2 (by simp) (fun x hx => by cases hx))
  obtain ⟨b2, off2, e2, _, hc2⟩ := hown2.rd.at_ (k := 0) (by omega)
  injection e2 with e2
  injection e2 with e21 e22 _
  subst e21 e22
  have HC2 := Lib.hid hc2
  clear hown2 hgr2 hat2 hc2 hng
  try rw [rounds_succ]
  go_wp2_with fail
  go_ret2
  exact ⟨g, ⟨c2, rfl⟩, HC2.out, HB2.out⟩
set_option maxHeartbeats 2000000 in
theorem back10 {w : World} {B c : Nat} {A : Option Addr} (hx : RdC w B A 1 [(1, 0)]) (hB : B ≤ w.heap.size) :
    Calls Try.prog 24 #[.slice A 1 c] w fun e w' => ∃ g c', e = .returned (.tuple #[.slice (some ⟨g, 0, none⟩) 1 c', .int .i64 0]) ∧ w'.cell? ⟨g, 0, none⟩ = some (cv (-1, -0)) ∧ Below w.heap.size w w' := by
  have HX := Lib.hid hx
  have hst : St (1, 0) := ⟨by decide, by decide, by decide, by decide⟩
  have HS := Lib.hid hst
  obtain ⟨b, off, rfl, hb, hc⟩ := hx.at_ (k := 0) (by omega)
  obtain ⟨f1, HF1⟩ : ∃ f, Hid (fl 1 = f) := ⟨_, Lib.hid rfl⟩
  obtain ⟨f2, HF2⟩ : ∃ f, Hid (fl 0 = f) := ⟨_, Lib.hid rfl⟩
  have hc' : w.cell? ⟨b, off, none⟩ = some (.complex .f64 f1 f2) := by rw [← HF1.out, ← HF2.out]; exact hc
  have hng : ∀ w, (Op.unary .neg (.complex .f64 f1 f2)).run Try.prog w = .ok (.complex .f64 13830554455654793216 9223372036854775808) w := fun w => by rw [← HF1.out, ← HF2.out, neg_run, ng1, ng0]
  have HU := Lib.hid (fun w => unsigned_w (w := w) un1 un0)
  have HNL : Hid (OwnC w w.heap.size (.slice none 0 0) 0 []) := Lib.hid (World.ownsRow_nil _ _ _ _)
  clear hx hst hc
  go_enter Try.func24, Try.ntmps24
  go_wp2_with fail
  refine (areSteps_yes HX.out (by omega) (st_one HS.out)).mono ?_; rintro e w' ⟨rfl, rfl⟩
  go_wp2_with fail
  refine wp_loop_rounds 2 ?_
  rw [rounds_succ]
  go_wp2_with fail
  refine (HU.out _).mono ?_
  rintro e w' ⟨rfl, rfl⟩
  go_wp2_with (at_builtin; refine wpl_appC rfl _ _ rfl w.heap.size _ 0 [] rfl (OwnC.alloc HNL.out _) w.heap.size (-1, -0) rfl (by simp [cv]) (by omega) (by simp) ?_; intro g c2 w2 hown2 hge2 hgr2 hat2)
  have HB2 : Hid (Below w.heap.size w w2) := Lib.hid (((Below.refl _ w).alloc (Nat.le_refl _) _).grown hgr2 (by simp) (fun x hx => by cases hx))
  obtain ⟨b2, off2, e2, _, hc2⟩ := hown2.rd.at_ (k := 0) (by omega)
  injection e2 with e2
  injection e2 with e21 e22 _
  subst e21 e22
  have HC2 := Lib.hid hc2
  clear hown2 hgr2 hat2 hc2 hng
  try rw [rounds_succ]
  go_wp2_with fail
  go_ret2
  exact ⟨g, ⟨c2, rfl⟩, HC2.out, HB2.out⟩
end Go.Proofs.Ytjppaonaiafgeaa
