/-
  CONTRACTS: the orders of package rank, and slices.Reverse, over this translation.
-/
import Derived.Test.YtocmflnieagfcacWalks2
import Derived.BigRegion
import Derived.RegionTactic
namespace Go.Proofs.Ytocmflnieagfcac
open Go.RowKit
open RankP
set_option linter.unusedVariables false

theorem gb_drew {a w : World} {row : Option Nat} (h : a.grownBy w row) : a.grownBy w.drew row := ⟨h.os, h.tape, h.output, h.size, h.block⟩
theorem gb_alloc {a w : World} {row : Option Nat} (h : a.grownBy w row) (o : Obj) : a.grownBy (w.alloc o) row :=
  ⟨h.os, h.tape, h.output, Nat.le_trans h.size (by simp), fun i hi hne => (Below.heap_alloc w o i (Nat.lt_of_lt_of_le hi h.size)).trans (h.block i hi hne)⟩
theorem gb_set {a w : World} {g : Nat} (h : a.grownBy w (some g)) {p : Addr} (hp : p.block = g ∨ a.heap.size ≤ p.block) (u : Value) : a.grownBy (w.setCell p u) (some g) :=
  ⟨h.os, h.tape, h.output, by simpa [World.setCell] using h.size, fun i hi hne => (Below.heap_setCell w p u i (by
    rintro rfl
    rcases hp with hp | hp
    · exact hne (by rw [hp])
    · omega)).trans (h.block i hi hne)⟩

/-- What k rounds of Reverse have made of xs. -/
def RevTo (xs ys : List Int) (k : Nat) : Prop := ys.length = xs.length ∧ ∀ t < xs.length, ix ys t = if t < k ∨ xs.length ≤ t + k then ix xs (xs.length - 1 - t) else ix xs t
theorem RevTo.start (xs : List Int) : RevTo xs xs 0 := ⟨rfl, fun t ht => by rw [if_neg (by omega)]⟩
theorem RevTo.step {xs ys : List Int} {k : Nat} (h : RevTo xs ys k) (hk : k < xs.length - 1 - k) :
    RevTo xs ((ys.set k (ix ys (xs.length - 1 - k))).set (xs.length - 1 - k) (ix ys k)) (k + 1) := by
  refine ⟨by simp [h.1], fun t ht => ?_⟩
  rw [ix_set _ _ _ _ (by simp [h.1]; omega), ix_set _ _ _ _ (by rw [h.1]; omega), h.2 k (by omega), h.2 _ (show xs.length - 1 - k < xs.length by omega), h.2 t ht]
  by_cases h1 : xs.length - 1 - k = t
  · subst h1
    rw [if_pos rfl, if_neg (by omega), if_pos (by omega)]; congr 1; omega
  · rw [if_neg h1]
    by_cases h2 : k = t
    · subst h2; rw [if_pos rfl, if_neg (by omega), if_pos (by omega)]
    · rw [if_neg h2]
      by_cases h3 : t < k ∨ xs.length ≤ t + k
      · rw [if_pos h3, if_pos (by omega)]
      · rw [if_neg h3, if_neg (by omega)]
theorem ix_reverse (xs : List Int) (t : Nat) (ht : t < xs.length) : ix xs.reverse t = ix xs (xs.length - 1 - t) := by
  unfold ix; simp [List.getD, List.getElem?_reverse ht]
theorem RevTo.done {xs ys : List Int} {k : Nat} (h : RevTo xs ys k) (hk : xs.length - 1 ≤ 2 * k) : ys = xs.reverse := by
  refine list_ext_getD (by simp [h.1]) fun t ht => ?_
  rw [h.1] at ht
  rw [h.2 t ht, ix_reverse xs t ht]
  by_cases h3 : t < k ∨ xs.length ≤ t + k
  · rw [if_pos h3]
  · rw [if_neg h3]; congr 1; omega

set_option maxHeartbeats 1600000 in
theorem reverse_any {w : World} {base n c g : Nat} {xs : List Int} (hx : Own w base (.slice (some ⟨g, 0, none⟩) n c) n xs) (hn : n ≤ 9223372036854775807) :
    Calls Try.prog 51 #[.slice (some ⟨g, 0, none⟩) n c] w fun e w' => e = .returned (.tuple #[]) ∧ Own w' base (.slice (some ⟨g, 0, none⟩) n c) n xs.reverse ∧ w.grownBy w' (some g) := by
  have HX := Lib.hid hx
  have HXL := Lib.hid hx.len
  clear hx
  go_enter Try.func51, Try.ntmps51
  go_wp2
  go_loopw [2, 3] (fun i j wr => ∃ (k : Nat) (z : Int) (ys : List Int), k ≤ n ∧ i = .int .i64 k ∧ j = .int .i64 z ∧ Hid (z = n - 1 - k) ∧ -1 ≤ z ∧ z < n ∧
      Hid (Own wr base (.slice (some ⟨g, 0, none⟩) n c) n ys) ∧ Hid (RevTo xs ys k) ∧ Hid (w.grownBy wr (some g)))
    (fun i j _ => (intOf j - intOf i).toNat)
  case atStart => exact ⟨0, (n : Int) - 1, xs, by omega, rfl, rfl, Lib.hid (by omega), by omega, by omega, HX, Lib.hid (RevTo.start xs), Lib.hid (World.grownBy.refl _ _)⟩
  case round =>
    obtain ⟨k, z, ys, hk, rfl, rfl, HZ, hz1, hz2, HO, HR, HG⟩ := hrel
    by_cases h0 : (k : Int) < z
    · obtain ⟨q, rfl⟩ := Int.eq_ofNat_of_zero_le (show 0 ≤ z by omega)
      have hqn : q < n := by omega
      have hkn : k < n := by omega
      have hkq : k < q := by omega
      have c1 := HO.out.cell hqn
      have c2 := HO.out.cell hkn
      have f1 := HO.out.free q
      have f2 := HO.out.free k
      go_wp2
      go_region
      go_wp2
      go_roundw
      case rel =>
        have e : xs.length - 1 - k = q := by have := HZ.out; have := HXL.out; omega
        refine ⟨k + 1, (q : Int) - 1, (ys.set k (ix ys q)).set q (ix ys k), by omega, by go_num, rfl, Lib.hid (by have := HZ.out; omega), by omega, by omega, Lib.hid ?_, Lib.hid ?_, Lib.hid ?_⟩
        · exact ((HO.out.store k (ix ys q)).store q (ix ys k)).drew
        · have := HR.out.step (by omega); rw [e] at this; exact this
        · exact gb_drew (gb_set (gb_set HG.out (.inl rfl) _) (.inl rfl) _)
      case measure => simp [intOf]; omega
    · have HE : Hid (ys = xs.reverse) := Lib.hid (HR.out.done (by have := HZ.out; have := HXL.out; omega))
      go_wp2
      go_end0
      exact ⟨rfl, by rw [← HE.out]; exact HO.out, HG.out⟩

theorem oldestL_succ (k : Nat) : oldestL (k + 1) = oldestL k ++ [(k : Int)] := by unfold oldestL; rw [List.range_succ, List.map_append]; rfl
theorem oldestL_length (k : Nat) : (oldestL k).length = k := by simp [oldestL]

set_option maxHeartbeats 1600000 in
theorem oldest_any (w : World) (n : Nat) (hn : n ≤ 1000000) :
    Calls Try.prog 37 #[.int .i64 (n : Int)] w fun e w' => ∃ v, e = .returned v ∧ Own w' w.heap.size v n (oldestL n) ∧ Below w.heap.size w w' := by
  go_enter Try.func37, Try.ntmps37
  go_wp2
  go_loopw [3, 6] (fun v i wr => ∃ k : Nat, k ≤ n ∧ i = .int .i64 (k : Int) ∧ Hid (Own wr w.heap.size v k (oldestL k)) ∧ Hid (Below w.heap.size w wr)) (fun _ i _ => n - (intOf i).toNat)
  case atStart => exact ⟨0, by omega, rfl, Lib.hid (Own.nil_ _ _), Lib.hid (Below.refl _ _)⟩
  case round =>
    obtain ⟨k, hk, rfl, HO, HB⟩ := hrel
    by_cases hlt : k < n
    · have hsz : w.heap.size ≤ wr.heap.size := HB.out.size
      go_wp2_with (at_builtin; refine wpl_app rfl _ _ rfl w.heap.size _ k _ rfl (HO.out.alloc _) wr.heap.size (k : Int) rfl ?c1 (by omega) ?c2 ?_)
      case c1 => simp
      case c2 => simp; omega
      · intro g c w1 hown hbg hgr _
        have HO1 := Lib.hid hown
        have HB1 : Hid (Below w.heap.size w w1) := Lib.hid ((HB.out.alloc hsz _).grown hgr (by simp; omega) (HO.out.ge))
        clear hown hgr
        go_wp2
        go_roundw
        case rel => exact ⟨k + 1, by omega, by go_num, Lib.hid (by rw [oldestL_succ]; exact HO1.out), HB1⟩
        case measure => simp [intOf]; omega
    · obtain rfl : k = n := by omega
      go_wp2
      go_ret
      exact ⟨_, rfl, HO.out, HB.out⟩

theorem newest_any (w : World) (n : Nat) (h0 : 0 < n) (hn : n ≤ 1000000) :
    Calls Try.prog 40 #[.int .i64 (n : Int)] w fun e w' => ∃ v, e = .returned v ∧ Own w' w.heap.size v n (newestL n) ∧ Below w.heap.size w w' := by
  go_enter Try.func40, Try.ntmps40
  go_wp2_with fail
  refine (oldest_any w n hn).mono ?_
  rintro e w1 ⟨v, rfl, hown, hbel⟩
  obtain ⟨g, c, rfl, hbg, hlt⟩ := hown.form h0
  have HO := Lib.hid hown
  have HB := Lib.hid hbel
  clear hown hbel
  go_wp2_with fail
  refine (reverse_any HO.out (by omega)).mono ?_
  rintro e w2 ⟨rfl, hown2, hg⟩
  have HO2 := Lib.hid hown2
  have HB2 : Hid (Below w.heap.size w w2) := Lib.hid (HB.out.grown hg HB.out.size (fun k h => by cases h; exact hbg))
  clear hown2 hg
  go_wp2
  go_ret
  exact ⟨_, rfl, HO2.out, HB2.out⟩

/-- What held has gathered of the first k of the newest. -/
def heldTo (n c k : Nat) : List Int := (c : Int) :: ((newestL n).take k).filter (fun v => v != (c : Int))
theorem newestL_length (n : Nat) : (newestL n).length = n := by simp [newestL, oldestL]
theorem take_ix (xs : List Int) (k : Nat) (h : k < xs.length) : xs.take (k + 1) = xs.take k ++ [ix xs k] := by
  rw [List.take_succ_eq_append_getElem h]; simp [ix, List.getD, h]
theorem heldTo_take {n c k : Nat} (h : k < n) (he : ix (newestL n) k ≠ (c : Int)) : heldTo n c (k + 1) = heldTo n c k ++ [ix (newestL n) k] := by
  unfold heldTo
  rw [take_ix _ k (by rw [newestL_length]; exact h), List.filter_append, List.cons_append]
  simp [he]
theorem heldTo_drop {n c k : Nat} (h : k < n) (he : ix (newestL n) k = (c : Int)) : heldTo n c (k + 1) = heldTo n c k := by
  unfold heldTo
  rw [take_ix _ k (by rw [newestL_length]; exact h), List.filter_append]
  simp [he]
theorem heldTo_done (n c : Nat) : heldTo n c n = heldL n c := by
  unfold heldTo heldL
  rw [List.take_of_length_le (by rw [newestL_length]; exact Nat.le_refl _)]
theorem heldTo_le (n c k : Nat) (hk : k ≤ n) : (heldTo n c k).length ≤ k + 1 := by
  unfold heldTo
  have := List.length_filter_le (fun v => v != (c : Int)) ((newestL n).take k)
  rw [List.length_take] at this
  simp only [List.length_cons]; omega

set_option maxHeartbeats 1600000 in
theorem held_any (w : World) (n c : Nat) (h0 : 0 < n) (hn : n ≤ 1000000) (hc : c < n) :
    Calls Try.prog 38 #[.int .i64 (n : Int), .int .i64 (c : Int)] w fun e w' => ∃ v m, e = .returned v ∧ Own w' w.heap.size v m (heldL n c) ∧ Below w.heap.size w w' := by
  go_enter Try.func38, Try.ntmps38
  go_wp2_with fail
  refine (newest_any _ n h0 hn).mono ?_
  rintro e w1 ⟨v, rfl, hown, hbel⟩
  obtain ⟨g1, c1, rfl, hbg, hlt⟩ := hown.form h0
  simp only [World.size_alloc] at hbg hbel hown
  have HN := Lib.hid hown
  have HO : Hid (Own w1 w.heap.size (.slice (some ⟨w.heap.size, 0, none⟩) 1 1) 1 (heldTo n c 0)) := Lib.hid ((Own.lit w w.heap.size [(c : Int)] (Nat.le_refl _) (by simp)).below hbel (fun g hg => by simp [Value.ownBlock] at hg; omega))
  have HB : Hid (Below w.heap.size w w1) := Lib.hid (((Below.refl _ w).alloc (Nat.le_refl _) _).trans (hbel.mono (by omega)))
  have HG : Hid (w.heap.size + 1 ≤ g1) := Lib.hid hbg
  clear hown hbel hbg
  go_wp2
  go_loopw [5, 13] (fun v i wr => ∃ k m b cc : Nat, k ≤ n ∧ i = .int .i64 (k : Int) ∧ v = .slice (some ⟨b, 0, none⟩) m cc ∧ Hid (b ≠ g1) ∧ w.heap.size ≤ b ∧ Hid (Own wr w.heap.size (.slice (some ⟨b, 0, none⟩) m cc) m (heldTo n c k)) ∧
      Hid (Own wr (w.heap.size + 1) (.slice (some ⟨g1, 0, none⟩) n c1) n (newestL n)) ∧ Hid (Below w.heap.size w wr)) (fun _ i _ => n - (intOf i).toNat)
  case atStart => exact ⟨0, 1, w.heap.size, 1, by omega, rfl, rfl, Lib.hid (by have := HG.out; omega), Nat.le_refl _, HO, HN, HB⟩
  case round =>
    clear HO HN HB
    obtain ⟨k, m, b, cc, hk, rfl, rfl, HBG, hwb, HO, HN, HB⟩ := hrel
    by_cases hlt : k < n
    · have hsz : w.heap.size ≤ wr.heap.size := HB.out.size
      have hm : m ≤ 1000001 := by
        have h1 := HO.out.len
        have h2 := heldTo_le n c k hk
        omega
      have hcell := HN.out.cell hlt
      by_cases he : ix (newestL n) k = (c : Int)
      · have HS := Lib.hid (heldTo_drop hlt he)
        have hb1 : (ix (newestL n) k != (c : Int)) = false := by simp [he]
        clear he
        go_wp2
        go_roundw
        case rel => exact ⟨k + 1, m, b, cc, by omega, by go_num, rfl, HBG, hwb, Lib.hid (by rw [HS.out]; exact HO.out), HN, HB⟩
        case measure => simp [intOf]; omega
      · have HS := Lib.hid (heldTo_take hlt he)
        have hb1 : (ix (newestL n) k != (c : Int)) = true := by simp [he]
        clear he
        go_wp2_with (at_builtin; refine wpl_app rfl _ _ rfl w.heap.size _ m _ rfl (HO.out.alloc _) wr.heap.size (ix (newestL n) k) rfl ?c1 (by omega) ?c2 ?_)
        case c1 => simp
        case c2 => simp; omega
        · intro g cap w2 hown hbg hgr hat
          have hg1 : g1 < wr.heap.size := (HN.out.form (by omega)).elim fun _ ⟨_, e, _, h⟩ => by cases e; exact h
          have HO2 := Lib.hid hown
          have HN2 := Lib.hid ((HN.out.alloc _).other hgr (fun g hg e => by simp [Value.ownBlock] at hg e; exact HBG.out (by omega)))
          have HB2 : Hid (Below w.heap.size w w2) := Lib.hid ((HB.out.alloc hsz _).grown hgr (by simp; omega) (HO.out.ge))
          have HBG2 : Hid (g ≠ g1) := Lib.hid (by
            rcases hat with h | h
            · simp [Value.ownBlock] at h; have := HBG.out; omega
            · omega)
          clear hown hgr hat hg1
          go_wp2
          go_roundw
          case rel => exact ⟨k + 1, m + 1, g, cap, by omega, by go_num, rfl, HBG2, hbg, Lib.hid (by rw [HS.out]; exact HO2.out), HN2, HB2⟩
          case measure => simp [intOf]; omega
    · obtain rfl : k = n := by omega
      go_wp2
      go_ret
      exact ⟨_, m, rfl, by rw [← heldTo_done]; exact HO.out, HB.out⟩
end Go.Proofs.Ytocmflnieagfcac
