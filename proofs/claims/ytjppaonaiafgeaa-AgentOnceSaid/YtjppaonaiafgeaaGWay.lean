/-
  CONTRACTS of Step, areSteps and Walk of package gauss, and of the statements' anchor, over this translation.
-/
import Derived.Test.YtjppaonaiafgeaaGWalks
namespace Go.Proofs.Ytjppaonaiafgeaa
open Go.RowKit
open FlP
set_option linter.unusedVariables false

def GaP.add2 (p q : Int × Int) : Int × Int := (p.1 + q.1, p.2 + q.2)
/-- The place behind k steps. -/
def GaP.pos (p : Int × Int) (zs : List (Int × Int)) : Nat → Int × Int
  | 0 => p
  | k + 1 => GaP.add2 (GaP.pos p zs k) (GaP.at_ zs k)
/-- The places up to there. -/
def GaP.way (p : Int × Int) (zs : List (Int × Int)) (k : Nat) : List (Int × Int) := (List.range (k + 1)).map (GaP.pos p zs)
open GaP
theorem way_zero (p : Int × Int) (zs : List (Int × Int)) : way p zs 0 = [p] := rfl
theorem way_succ (p : Int × Int) (zs : List (Int × Int)) (k : Nat) : way p zs (k + 1) = way p zs k ++ [pos p zs (k + 1)] := by
  unfold way; rw [List.range_succ, List.map_append]; rfl
theorem way_len (p : Int × Int) (zs : List (Int × Int)) (k : Nat) : (way p zs k).length = k + 1 := by simp [way]
theorem at_way (p : Int × Int) (zs : List (Int × Int)) (k j : Nat) (h : j ≤ k) : at_ (way p zs k) j = pos p zs j := by
  have h' : j < k + 1 := by omega
  unfold at_ way
  simp [List.getD, h']

theorem add_cv (p q : Int × Int) (h1 : p.1.natAbs < 2 ^ 53) (h2 : p.2.natAbs < 2 ^ 53) (h3 : q.1.natAbs < 2 ^ 53) (h4 : q.2.natAbs < 2 ^ 53) (h5 : (p.1 + q.1).natAbs < 2 ^ 53) (h6 : (p.2 + q.2).natAbs < 2 ^ 53) (w : World) :
    (binOp .add 26 (cv p) (cv q)).run Try.prog w = .ok (cv (add2 p q)) w :=
  run_complex_sum w .add (.inl rfl) _ .f64 _ _ _ _ _ _ (by
    unfold cSumBits
    have a1 : floatBits .add .f64 (fl p.1) (fl q.1) = some (fl (p.1 + q.1)) := add_fl h1 h3 h5
    have a2 : floatBits .add .f64 (fl p.2) (fl q.2) = some (fl (p.2 + q.2)) := add_fl h2 h4 h6
    rw [a1, a2]
    rfl)

theorem areSteps_yes {w : World} {B n c : Nat} {A : Option Addr} {zs : List (Int × Int)} (hx : RdC w B A n zs) (hm : n ≤ 9223372036854775807) (hs : ∀ k, k < n → St (at_ zs k)) :
    Calls Try.prog 19 #[.slice A n c] w fun e w' => e = .returned (.bool true) ∧ w = w' := by
  have HX := Lib.hid hx
  have HS := Lib.hid hs
  clear hx hs
  go_enter Try.func19, Try.ntmps19
  go_wp2_with fail
  go_loop [7] (fun i => ∃ k : Nat, k ≤ n ∧ i = .int .i64 (k : Int)) (fun i => n - (intOf i).toNat)
  case atStart => exact ⟨0, Nat.zero_le _, rfl⟩
  case round =>
    obtain ⟨k, hk, rfl⟩ := hrel
    by_cases hlt : k < n
    · obtain ⟨b, off, rfl, hb, hc⟩ := HX.out.at_ hlt
      have HK := Lib.hid (HS.out k hlt)
      go_wp2_with (go_at_call 20; refine (isStep_yes _ HK.out _).mono ?_; rintro e w' ⟨rfl, rfl⟩)
      go_round
      case rel => exact ⟨k + 1, by omega, by go_num⟩
      case measure => simp [intOf]; omega
    · go_wp2
      go_ret
      exact ⟨rfl, rfl⟩

theorem st_small {p : Int × Int} (h : St p) : p.1.natAbs < 2 ^ 53 ∧ p.2.natAbs < 2 ^ 53 := by
  obtain ⟨h1, h2, h3, h4⟩ := h
  exact ⟨by omega, by omega⟩
theorem pl_small {p : Int × Int} (h : Pl p) : p.1.natAbs < 2 ^ 53 ∧ p.2.natAbs < 2 ^ 53 := by
  obtain ⟨h1, h2, h3, h4⟩ := h
  exact ⟨by omega, by omega⟩

set_option maxHeartbeats 1000000 in
theorem walk_yes {w : World} {B n c : Nat} {A : Option Addr} {zs : List (Int × Int)} (p : Int × Int) (hx : RdC w B A n zs) (hB : B ≤ w.heap.size) (hm : n ≤ 1000000) (hs : ∀ k, k < n → St (at_ zs k)) (hp : ∀ k, k ≤ n → Pl (pos p zs k)) :
    Calls Try.prog 25 #[cv p, .slice A n c] w fun e w' => ∃ A' c', e = .returned (.tuple #[.slice A' (n + 1) c', .int .i64 0]) ∧ OwnC w' w.heap.size (.slice A' (n + 1) c') (n + 1) (way p zs n) ∧ Below w.heap.size w w' := by
  have HX := Lib.hid hx
  have HS := Lib.hid hs
  have HP := Lib.hid hp
  have HB := Lib.hid hB
  clear hx hs hp hB
  have hcv : ∀ p, cv p = .complex .f64 (fl p.1) (fl p.2) := fun _ => rfl
  go_enter Try.func25, Try.ntmps25
  go_wp2_with fail
  refine (isPlace_yes p (HP.out 0 (Nat.zero_le _)) _).mono ?_; rintro e w' ⟨rfl, rfl⟩
  go_wp2_with fail
  refine (areSteps_yes HX.out (by omega) HS.out).mono ?_; rintro e w' ⟨rfl, rfl⟩
  go_wp2_with fail
  refine (unsigned_any p (pl_small (HP.out 0 (Nat.zero_le _))).1 (pl_small (HP.out 0 (Nat.zero_le _))).2 _).mono ?_; rintro e w' ⟨rfl, rfl⟩
  go_wp2_with fail
  go_loopw [6, 7, 24] (fun at' v i wr => ∃ k : Nat, k ≤ n ∧ i = .int .i64 (k : Int) ∧ at' = cv (pos p zs k) ∧ Hid (OwnC wr w.heap.size v (k + 1) (way p zs k)) ∧ Hid (Below w.heap.size w wr)) (fun _ _ i _ => n - (intOf i).toNat)
  case atStart =>
    refine ⟨0, Nat.zero_le _, rfl, rfl, Lib.hid ?_, Lib.hid ((Below.refl _ _).alloc (Nat.le_refl _) _)⟩
    exact OwnC.lit w w.heap.size [p] (Nat.le_refl _) (by simp)
  case round =>
    obtain ⟨k, hk, rfl, rfl, HO, HW⟩ := hrel
    by_cases hlt : k < n
    · obtain ⟨b, off, rfl, hb, hc0⟩ := (HX.out.below (HW.out.mono HB.out)).at_ hlt
      have HPK := Lib.hid (HP.out (k + 1) hlt)
      have hadd : ∀ w, (binOp .add 26 (.complex .f64 (fl (pos p zs k).1) (fl (pos p zs k).2)) (.complex .f64 (fl (at_ zs k).1) (fl (at_ zs k).2))).run Try.prog w = .ok (.complex .f64 (fl (pos p zs (k + 1)).1) (fl (pos p zs (k + 1)).2)) w := add_cv _ _ (pl_small (HP.out k hk)).1 (pl_small (HP.out k hk)).2 (st_small (HS.out k hlt)).1 (st_small (HS.out k hlt)).2 (pl_small (HP.out (k + 1) hlt)).1 (pl_small (HP.out (k + 1) hlt)).2
      have hsz := HW.out.size
      go_wp2_with (first
        | (go_at_call 17; refine (isPlace_yes _ HPK.out _).mono ?_; rintro e w' ⟨rfl, rfl⟩)
        | (at_builtin; refine wpl_appC rfl (.tmp 34) (.tmp 36) rfl w.heap.size _ (k + 1) _ rfl (HO.out.alloc _) wr.heap.size (pos p zs (k + 1)) rfl (by simp [cv]) (by omega) (by simp; omega) ?_; intro g' c' w1 hown1 hge1 hgr1 hat1))
      rw [← way_succ] at hown1
      have HO1 := Lib.hid hown1
      have HW1 : Hid (Below w.heap.size w w1) := Lib.hid ((HW.out.alloc HW.out.size _).grown hgr1 (by simp; omega) (fun x hx => HO.out.ge x hx))
      clear hown1 hge1 hgr1 hat1
      go_wp2
      go_roundw
      case rel => exact ⟨k + 1, by omega, by go_num, rfl, HO1, HW1⟩
      case measure => simp [intOf]; omega
    · obtain rfl : k = n := by omega
      have ho := HO.out
      obtain ⟨g, c', rfl, _, _⟩ := ho.form (by omega)
      clear ho
      go_wp2
      go_ret2
      exact ⟨_, _, rfl, HO.out, HW.out⟩
end Go.Proofs.Ytjppaonaiafgeaa
