/-
  CONTRACTS: the function that makes a choice of an index, of package rank, over this translation.
-/
import Derived.Test.YtocmflnieagfcacWalks
namespace Go.Proofs.Ytocmflnieagfcac
open Go.RowKit
open RankP
set_option linter.unusedVariables false

theorem nth_bad {w : World} {B n c : Nat} {A : Option Addr} {ls : List Int} {k : Int} (hx : Rd w B A n ls) (hn : n ≤ 9223372036854775807) (hl : limB ls = false) :
    Calls Try.prog 36 #[.slice A n c, .int .i64 k] w fun e w' => e = .returned (.tuple #[.slice none 0 0, .int .i64 12]) ∧ w = w' := by
  have HX := Lib.hid hx
  clear hx
  go_enter Try.func36, Try.ntmps36
  go_wp2_with (go_at_call 50; refine (count_no HX.out hn hl).mono ?_; rintro e w' ⟨rfl, rfl⟩)
  go_ret2
  exact ⟨rfl, rfl⟩
theorem nth_big {w : World} {B n c : Nat} {A : Option Addr} {ls : List Int} {k : Int} (hx : Rd w B A n ls) (hn : n ≤ 9223372036854775807) (hl : limB ls = true) (hk : k < 0 ∨ cnt ls ≤ k) :
    Calls Try.prog 36 #[.slice A n c, .int .i64 k] w fun e w' => e = .returned (.tuple #[.slice none 0 0, .int .i64 11]) ∧ w = w' := by
  have HX := Lib.hid hx
  clear hx
  by_cases h0 : k < 0
  · clear hk
    go_enter Try.func36, Try.ntmps36
    go_wp2_with (go_at_call 50; refine (count_yes HX.out hn hl).mono ?_; rintro e w' ⟨rfl, rfl⟩)
    go_ret2
    exact ⟨rfl, rfl⟩
  · have h1 : cnt ls ≤ k := by omega
    clear hk
    go_enter Try.func36, Try.ntmps36
    go_wp2_with (go_at_call 50; refine (count_yes HX.out hn hl).mono ?_; rintro e w' ⟨rfl, rfl⟩)
    go_ret2
    exact ⟨rfl, rfl⟩

/-- What the loop of Nth has written above place i. -/
def NthTo (ls : List Int) (k : Int) (cs : List Int) (i : Nat) : Prop := cs.length = ls.length ∧ ∀ j, i ≤ j → j < ls.length → ix cs j = (k / pD ls (j + 1)) % ix ls j
theorem NthTo.done {ls cs : List Int} {k : Int} (h : NthTo ls k cs 0) : cs = nthL ls k :=
  list_ext_getD (by rw [nth_length, h.1]) fun i hi => by rw [nth_get ls k i (by rw [← h.1]; exact hi)]; exact h.2 i (Nat.zero_le _) (by rw [← h.1]; exact hi)
theorem NthTo.step {ls cs : List Int} {k : Int} {i : Nat} (h : NthTo ls k cs (i + 1)) (hi : i < ls.length) : NthTo ls k (cs.set i ((k / pD ls (i + 1)) % ix ls i)) i :=
  ⟨by simp [h.1], fun j h1 h2 => by
    rw [ix_set _ _ _ _ (by rw [h.1]; exact hi)]
    by_cases e : i = j
    · subst e; rw [if_pos rfl]
    · rw [if_neg e]; exact h.2 j (by omega) h2⟩

set_option maxHeartbeats 1600000 in
theorem nth_yes {w : World} {B n c : Nat} {A : Option Addr} {ls : List Int} {k : Int} (hx : Rd w B A n ls) (hn : n ≤ 9223372036854775807) (hl : limB ls = true) (hk0 : 0 ≤ k) (hk1 : k < cnt ls) (hB : B ≤ w.heap.size) :
    Calls Try.prog 36 #[.slice A n c, .int .i64 k] w fun e w' => ∃ v, e = .returned (.tuple #[v, .int .i64 0]) ∧ Own w' w.heap.size v n (nthL ls k) ∧ Below w.heap.size w w' := by
  have HX := Lib.hid hx
  have HXL := Lib.hid hx.1
  have HLim := Lib.hid (limB_iff.1 hl)
  have h12 : n ≤ 12 := by have := HLim.out.1; rw [HXL.out] at this; exact this
  clear hx
  have HK := Lib.hid hk1
  have hcnt : k < 8916100448256 := by
    have := (pT_le HLim.out ls.length (Nat.le_refl _)).2
    unfold cnt at hk1; omega
  go_enter Try.func36, Try.ntmps36
  go_wp2_with (first
    | (go_at_call 50; refine (count_yes HX.out hn hl).mono ?_; rintro e w' ⟨rfl, rfl⟩)
    | (at_make; refine wpl_make rfl _ _ rfl w.heap.size n rfl rfl (by omega) (Nat.le_refl _) ?_; intro w1 hown hg))
  have hbel : Below w.heap.size w w1 := (Below.refl _ _).grown hg (Nat.le_refl _) (fun _ h => by cases h)
  have HB := Lib.hid hbel
  have HO := Lib.hid hown
  clear hbel hown hg
  go_loopw [1, 9] (fun x i wr => ∃ (z : Int) (p : Nat) (cs : List Int) (y : Int), -1 ≤ z ∧ z < n ∧ Hid ((p : Int) = z + 1) ∧ i = .int .i64 z ∧ x = .int .i64 y ∧ Hid (y = k / pD ls p) ∧
      Hid (Own wr w.heap.size (.slice (some ⟨w.heap.size, 0, none⟩) n n) n cs) ∧ Hid (NthTo ls k cs p) ∧ Hid (Below w.heap.size w wr))
    (fun _ i _ => (intOf i + 1).toNat)
  case atStart =>
    exact ⟨(n : Int) - 1, n, List.replicate n 0, k, by omega, by omega, Lib.hid (by omega), rfl, rfl, Lib.hid (by rw [pD_end ls n (by rw [HXL.out]; exact Nat.le_refl _), Int.ediv_one]), HO,
      Lib.hid ⟨by simp [HXL.out], fun j h1 h2 => by rw [HXL.out] at h2; omega⟩, HB⟩
  case round =>
    obtain ⟨z, p, cs, y, hz1, hz2, HP, rfl, rfl, HY, HO1, HN, HB1⟩ := hrel
    by_cases h0 : 0 ≤ z
    · obtain ⟨q, rfl⟩ := Int.eq_ofNat_of_zero_le h0
      have hqn : q < n := by omega
      obtain rfl : p = q + 1 := by have := HP.out; omega
      obtain ⟨b, off, rfl, hb, hc⟩ := (HX.out.below (HB1.out.mono hB)).at_ hqn
      have hcell := HO1.out.cell hqn
      have hfree := HO1.out.free q
      obtain ⟨hl1, hl2⟩ := HLim.out.2 q (by rw [HXL.out]; exact hqn)
      have hl0 : (ix ls q == 0) = false := by simp; omega
      obtain ⟨hy1, hy2⟩ : 0 ≤ y ∧ y ≤ k := by
        rw [HY.out]
        have h1 := pD_pos HLim.out _ (q + 1) rfl
        exact ⟨Int.ediv_nonneg hk0 (by omega), Int.ediv_le_self _ hk0⟩
      have HS := Lib.hid (HO1.out.store q (y % ix ls q))
      have HN2 : Hid (NthTo ls k (cs.set q (y % ix ls q)) q) := Lib.hid (by
        have := HN.out.step (i := q) (by rw [HXL.out]; exact hqn)
        rw [← HY.out] at this; exact this)
      have HY2 : Hid (y / ix ls q = k / pD ls q) := Lib.hid (by rw [div_step HLim.out k q (by rw [HXL.out]; exact hqn), HY.out])
      have HB2 : Hid (Below w.heap.size w (wr.setCell ⟨w.heap.size, q, none⟩ (.int .i64 (y % ix ls q)))) := Lib.hid (HB1.out.setCell (p := ⟨w.heap.size, q, none⟩) (Nat.le_refl _) _)
      go_wp2
      go_roundw
      case rel => exact ⟨(q : Int) - 1, q, _, _, by omega, by omega, Lib.hid (by omega), by go_num, rfl, HY2, HS, HN2, HB2⟩
      case measure => simp [intOf]
    · obtain rfl : p = 0 := by have := HP.out; omega
      have HD := Lib.hid (HN.out.done)
      go_wp2
      go_ret2
      exact ⟨_, rfl, by rw [← HD.out]; exact HO1.out, HB1.out⟩
end Go.Proofs.Ytocmflnieagfcac
