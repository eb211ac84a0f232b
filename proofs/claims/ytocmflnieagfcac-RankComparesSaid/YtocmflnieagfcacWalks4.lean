/-
  CONTRACTS: the order by nearness, Order whole, and the statements' own helpers, over this translation.
-/
import Derived.Test.YtocmflnieagfcacWalks3
namespace Go.Proofs.Ytocmflnieagfcac
open Go.RowKit
open RankP
set_option linter.unusedVariables false

def nearTo (n c k : Nat) : List Int := (c : Int) :: (List.range (k - 1)).flatMap fun j => nearAt n c (j + 1)
theorem nearTo_succ (n c k : Nat) (h : 1 ≤ k) : nearTo n c (k + 1) = nearTo n c k ++ nearAt n c k := by
  unfold nearTo
  obtain ⟨m, rfl⟩ : ∃ m, k = m + 1 := ⟨k - 1, by omega⟩
  rw [show m + 1 + 1 - 1 = m + 1 from rfl, show m + 1 - 1 = m from rfl, List.range_succ, List.flatMap_append, List.cons_append]
  simp
theorem nearAt_len (n c k : Nat) : (nearAt n c k).length ≤ 2 := by
  unfold nearAt; rw [List.length_append]; split <;> split <;> simp
theorem nearTo_len (n c : Nat) : ∀ k, 1 ≤ k → (nearTo n c k).length ≤ 2 * k := by
  intro k
  induction k with
  | zero => intro h; omega
  | succ k ih =>
    intro _
    by_cases h : 1 ≤ k
    · rw [nearTo_succ n c k h, List.length_append]
      have := ih h
      have := nearAt_len n c k
      omega
    · obtain rfl : k = 0 := by omega
      simp [nearTo]
theorem nearAt_both {n c k : Nat} (h1 : c + k < n) (h2 : k ≤ c) (xs : List Int) : (xs ++ [(c : Int) + (k : Int)]) ++ [(c : Int) - (k : Int)] = xs ++ nearAt n c k := by
  unfold nearAt; rw [if_pos h1, if_pos h2, List.append_assoc]; congr 2
  · simp; omega
theorem nearAt_up {n c k : Nat} (h1 : c + k < n) (h2 : ¬ k ≤ c) (xs : List Int) : xs ++ [(c : Int) + (k : Int)] = xs ++ nearAt n c k := by
  unfold nearAt; rw [if_pos h1, if_neg h2]; simp
theorem nearAt_down {n c k : Nat} (h1 : ¬ c + k < n) (h2 : k ≤ c) (xs : List Int) : xs ++ [(c : Int) - (k : Int)] = xs ++ nearAt n c k := by
  unfold nearAt; rw [if_neg h1, if_pos h2, List.nil_append]; congr 2; omega
theorem nearAt_none {n c k : Nat} (h1 : ¬ c + k < n) (h2 : ¬ k ≤ c) (xs : List Int) : xs = xs ++ nearAt n c k := by
  unfold nearAt; rw [if_neg h1, if_neg h2]; simp

set_option maxHeartbeats 3200000 in
theorem nearest_any (w : World) (n c : Nat) (h0 : 0 < n) (hn : n ≤ 1000000) (hc : c < n) :
    Calls Try.prog 39 #[.int .i64 (n : Int), .int .i64 (c : Int)] w fun e w' => ∃ v m, e = .returned v ∧ Own w' w.heap.size v m (nearestL n c) ∧ Below w.heap.size w w' := by
  have HO : Hid (Own (w.alloc (.cells #[.int .i64 (c : Int)] 3)) w.heap.size (.slice (some ⟨w.heap.size, 0, none⟩) 1 1) 1 (nearTo n c 1)) := Lib.hid (Own.lit w w.heap.size [(c : Int)] (Nat.le_refl _) (by simp))
  have HB : Hid (Below w.heap.size w (w.alloc (.cells #[.int .i64 (c : Int)] 3))) := Lib.hid ((Below.refl _ w).alloc (Nat.le_refl _) _)
  go_enter Try.func39, Try.ntmps39
  go_wp2
  go_loopw [5, 6] (fun v i wr => ∃ k m b cc : Nat, 1 ≤ k ∧ k ≤ n ∧ i = .int .i64 (k : Int) ∧ v = .slice (some ⟨b, 0, none⟩) m cc ∧ w.heap.size ≤ b ∧ Hid (Own wr w.heap.size (.slice (some ⟨b, 0, none⟩) m cc) m (nearTo n c k)) ∧
      Hid (Below w.heap.size w wr)) (fun _ i _ => n - (intOf i).toNat)
  case atStart => exact ⟨1, 1, w.heap.size, 1, by omega, by omega, rfl, rfl, Nat.le_refl _, HO, HB⟩
  case round =>
    clear HO HB
    obtain ⟨k, m, b, cc, hk1, hk, rfl, rfl, hwb, HO, HB⟩ := hrel
    by_cases hlt : k < n
    · have hsz : w.heap.size ≤ wr.heap.size := HB.out.size
      have hm : m ≤ 2000000 := by
        have h1 := HO.out.len
        have h2 := nearTo_len n c k hk1
        omega
      have HS := Lib.hid (nearTo_succ n c k hk1)
      by_cases h1 : c + k < n
      · by_cases h2 : k ≤ c
        · have HE := Lib.hid (nearAt_both h1 h2 (nearTo n c k))
          have h2' : (0 : Int) ≤ (c : Int) - (k : Int) := by omega
          go_wp2_with (first
            | (at_builtin; refine wpl_app rfl (.tmp 19) (.tmp 23) rfl w.heap.size _ m _ rfl (HO.out.alloc _) wr.heap.size ((c : Int) + (k : Int)) rfl (by simp) (by omega) (by simp; omega) ?_; intro g1 cap1 w1 hown1 hbg1 hgr1 hat1; (have HO1 := Lib.hid hown1); (have HB1 : Hid (Below w.heap.size w w1) := Lib.hid ((HB.out.alloc hsz _).grown hgr1 (by simp; omega) (HO.out.ge))); (have hsz1 : w.heap.size ≤ w1.heap.size := HB1.out.size); clear hown1 hgr1 hat1)
            | (at_builtin; refine wpl_app rfl (.tmp 29) (.tmp 33) rfl w.heap.size _ (m + 1) _ rfl (HO1.out.alloc _) w1.heap.size ((c : Int) - (k : Int)) rfl (by simp) (by omega) (by simp; omega) ?_; intro g2 cap2 w2 hown2 hbg2 hgr2 hat2))
          have HO2 := Lib.hid hown2
          have HB2 : Hid (Below w.heap.size w w2) := Lib.hid ((HB1.out.alloc hsz1 _).grown hgr2 (by simp; omega) (HO1.out.ge))
          clear hown2 hgr2 hat2
          go_wp2
          go_roundw
          case rel => exact ⟨k + 1, m + 1 + 1, g2, cap2, by omega, by omega, by go_num, rfl, hbg2, Lib.hid (by rw [HS.out, ← HE.out]; exact HO2.out), HB2⟩
          case measure => simp [intOf]; omega
        · have HE := Lib.hid (nearAt_up h1 h2 (nearTo n c k))
          have h2' : (c : Int) - (k : Int) < 0 := by omega
          go_wp2_with (at_builtin; refine wpl_app rfl (.tmp 19) (.tmp 23) rfl w.heap.size _ m _ rfl (HO.out.alloc _) wr.heap.size ((c : Int) + (k : Int)) rfl (by simp) (by omega) (by simp; omega) ?_; intro g1 cap1 w1 hown1 hbg1 hgr1 hat1)
          have HO1 := Lib.hid hown1
          have HB1 : Hid (Below w.heap.size w w1) := Lib.hid ((HB.out.alloc hsz _).grown hgr1 (by simp; omega) (HO.out.ge))
          clear hown1 hgr1 hat1
          go_wp2
          go_roundw
          case rel => exact ⟨k + 1, m + 1, g1, cap1, by omega, by omega, by go_num, rfl, hbg1, Lib.hid (by rw [HS.out, ← HE.out]; exact HO1.out), HB1⟩
          case measure => simp [intOf]; omega
      · by_cases h2 : k ≤ c
        · have HE := Lib.hid (nearAt_down h1 h2 (nearTo n c k))
          have h2' : (0 : Int) ≤ (c : Int) - (k : Int) := by omega
          go_wp2_with (at_builtin; refine wpl_app rfl (.tmp 29) (.tmp 33) rfl w.heap.size _ m _ rfl (HO.out.alloc _) wr.heap.size ((c : Int) - (k : Int)) rfl (by simp) (by omega) (by simp; omega) ?_; intro g1 cap1 w1 hown1 hbg1 hgr1 hat1)
          have HO1 := Lib.hid hown1
          have HB1 : Hid (Below w.heap.size w w1) := Lib.hid ((HB.out.alloc hsz _).grown hgr1 (by simp; omega) (HO.out.ge))
          clear hown1 hgr1 hat1
          go_wp2
          go_roundw
          case rel => exact ⟨k + 1, m + 1, g1, cap1, by omega, by omega, by go_num, rfl, hbg1, Lib.hid (by rw [HS.out, ← HE.out]; exact HO1.out), HB1⟩
          case measure => simp [intOf]; omega
        · have HE := Lib.hid (nearAt_none h1 h2 (nearTo n c k))
          have h2' : (c : Int) - (k : Int) < 0 := by omega
          go_wp2
          go_roundw
          case rel => exact ⟨k + 1, m, b, cc, by omega, by omega, by go_num, rfl, hwb, Lib.hid (by rw [HS.out, ← HE.out]; exact HO.out), HB⟩
          case measure => simp [intOf]; omega
    · obtain rfl : k = n := by omega
      go_wp2
      go_ret
      exact ⟨_, m, rfl, HO.out, HB.out⟩

set_option maxHeartbeats 1600000 in
theorem order_yes (w : World) (m n c : Nat) (hm : m < 4) (h0 : 0 < n) (hn : n ≤ 12) (hc : c < n) :
    Calls Try.prog 19 #[.int .i64 (m : Int), .int .i64 (n : Int), .int .i64 (c : Int)] w fun e w' => ∃ v, e = .returned (.tuple #[v, .int .i64 0]) ∧ Own w' w.heap.size v n (orderL m n c) ∧ Below w.heap.size w w' := by
  have HL := Lib.hid (order_length hm hn hc)
  have hm' : m = 0 ∨ m = 1 ∨ m = 2 ∨ m = 3 := by omega
  rcases hm' with rfl | rfl | rfl | rfl
  · have HE : Hid (orderL 0 n c = newestL n) := Lib.hid rfl
    go_enter Try.func19, Try.ntmps19
    go_wp2_with (go_at_call 40; refine (newest_any _ n h0 (by omega)).mono ?_; rintro e w1 ⟨v, rfl, hown, hbel⟩; (have HO := Lib.hid hown); (have HB := Lib.hid hbel); clear hown hbel)
    go_ret2
    exact ⟨_, rfl, by rw [HE.out]; exact HO.out, HB.out⟩
  · have HE : Hid (orderL 1 n c = oldestL n) := Lib.hid rfl
    go_enter Try.func19, Try.ntmps19
    go_wp2_with (go_at_call 37; refine (oldest_any _ n (by omega)).mono ?_; rintro e w1 ⟨v, rfl, hown, hbel⟩; (have HO := Lib.hid hown); (have HB := Lib.hid hbel); clear hown hbel)
    go_ret2
    exact ⟨_, rfl, by rw [HE.out]; exact HO.out, HB.out⟩
  · have HE : Hid (orderL 2 n c = heldL n c) := Lib.hid rfl
    go_enter Try.func19, Try.ntmps19
    go_wp2_with (go_at_call 38; refine (held_any _ n c h0 (by omega) hc).mono ?_; rintro e w1 ⟨v, k, rfl, hown, hbel⟩; (have HO := Lib.hid hown); (have HB := Lib.hid hbel); clear hown hbel)
    have hk : k = n := by rw [← HO.out.len, ← HE.out]; exact HL.out
    subst hk
    go_ret2
    exact ⟨_, rfl, by rw [HE.out]; exact HO.out, HB.out⟩
  · have HE : Hid (orderL 3 n c = nearestL n c) := Lib.hid rfl
    go_enter Try.func19, Try.ntmps19
    go_wp2_with (go_at_call 39; refine (nearest_any _ n c h0 (by omega) hc).mono ?_; rintro e w1 ⟨v, k, rfl, hown, hbel⟩; (have HO := Lib.hid hown); (have HB := Lib.hid hbel); clear hown hbel)
    have hk : k = n := by rw [← HO.out.len, ← HE.out]; exact HL.out
    subst hk
    go_ret2
    exact ⟨_, rfl, by rw [HE.out]; exact HO.out, HB.out⟩
end Go.Proofs.Ytocmflnieagfcac
