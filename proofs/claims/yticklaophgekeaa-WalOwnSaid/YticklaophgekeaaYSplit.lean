/-
  CONTRACTS of Split of package sum and of the document's own one, over this translation.
-/
import Derived.Test.YticklaophgekeaaYHeld
namespace Go.Proofs.Yticklaophgekeaa
open Go.RowKit
open ByteP
set_option linter.unusedVariables false

/-- Where the k-th frame begins, as long as those before it open. -/
def atN (xs : List Int) : Nat → Nat
  | 0 => 0
  | k + 1 => atN xs k + sizeN (xs.drop (atN xs k))
/-- The k-th frame's payload. -/
def pT (xs : List Int) (k : Nat) : List Int := payT (xs.drop (atN xs k))
/-- k frames open, and behind them none does. -/
def Splits (xs : List Int) (k : Nat) : Prop := (∀ j < k, openN (xs.drop (atN xs j)) = 0) ∧ openN (xs.drop (atN xs k)) ≠ 0
theorem Splits.uniq {xs : List Int} {k m : Nat} (h : Splits xs k) (h2 : Splits xs m) : k = m := by
  rcases Nat.lt_trichotomy k m with h3 | h3 | h3
  · exact absurd (h2.1 k h3) h.2
  · exact h3
  · exact absurd (h.1 m h3) h2.2
theorem open_len {xs : List Int} (h : openN xs = 0) : sizeN xs ≤ xs.length ∧ 8 ≤ sizeN xs := by
  rw [sizeN_yes h]
  unfold openN at h
  split at h
  · cases h
  · split at h
    · cases h
    · split at h
      · cases h
      · omega
theorem open_nil : openN [] ≠ 0 := by
  rw [open13 (by simp)]; omega
theorem atN_le {xs : List Int} : ∀ k, (∀ j < k, openN (xs.drop (atN xs j)) = 0) → atN xs k ≤ xs.length := by
  intro k
  induction k with
  | zero => intro _; exact Nat.zero_le _
  | succ k ih =>
    intro h
    have h1 := ih (fun j hj => h j (by omega))
    have h2 := (open_len (h k (by omega))).1
    rw [List.length_drop] at h2
    show atN xs k + sizeN (xs.drop (atN xs k)) ≤ _
    omega
theorem atN_ge {xs : List Int} : ∀ k, (∀ j < k, openN (xs.drop (atN xs j)) = 0) → 8 * k ≤ atN xs k := by
  intro k
  induction k with
  | zero => intro _; exact Nat.zero_le _
  | succ k ih =>
    intro h
    have h1 := ih (fun j hj => h j (by omega))
    have h2 := (open_len (h k (by omega))).2
    show _ ≤ atN xs k + sizeN (xs.drop (atN xs k))
    omega
theorem pT_bytes {xs : List Int} (h : Bytes xs) (k : Nat) : Bytes (pT xs k) := by
  unfold pT payT
  split
  · exact bytes_take (bytes_drop (bytes_drop h _) _) _
  · exact bytes_nil
theorem RdY.from {w : World} {B n c q : Nat} {A : Option Addr} {xs : List Int} (h : RdY w B A n xs) (hq : q ≤ n) (hc : n ≤ c) : RdY w B (subA A c q) (n - q) (xs.drop q) := by
  have := h.sub (c := c) q (n - q) (by omega) hc
  rwa [List.take_of_length_le (by rw [List.length_drop, h.1]; exact Nat.le_refl _)] at this

set_option maxHeartbeats 3200000 in
theorem refSplit_any {w : World} {B n c : Nat} {A : Option Addr} {xs : List Int} (hx : RdY w B A n xs) (hb : Bytes xs) (hnc : n ≤ c) (hn : n ≤ 1000000000) (hB : B ≤ w.heap.size) :
    Calls Try.prog 37 #[.slice A n c] w fun e w' => ∃ k v, Splits xs k ∧ e = .returned (.tuple #[v, .int .i64 (atN xs k : Nat)]) ∧ Held w' w.heap.size v k (pT xs) ∧ Below w.heap.size w w' := by
  have HX := Lib.hid hx
  have HBX := Lib.hid hb
  clear hx hb
  go_enter Try.func37, Try.ntmps37
  go_wp2
  go_loopw [4, 5] (fun v i wr => ∃ (k q : Nat) (A' : Option Addr) (c' : Nat), v = .slice A' k c' ∧ i = .int .i64 (q : Int) ∧ q ≤ n ∧ 8 * k ≤ q ∧ Hid (q = atN xs k) ∧ Hid (∀ j < k, openN (xs.drop (atN xs j)) = 0) ∧ Hid (Held wr w.heap.size (.slice A' k c') k (pT xs)) ∧ Hid (Below w.heap.size w wr))
    (fun _ i _ => n - (intOf i).toNat)
  case atStart => exact ⟨0, 0, none, 0, rfl, rfl, by omega, by omega, Lib.hid rfl, Lib.hid (fun j hj => absurd hj (by omega)), Lib.hid (Held.nil_ _ _ _), Lib.hid (Below.refl _ _)⟩
  case round =>
    obtain ⟨k, q, A', c', rfl, rfl, hqn, hkq, HQ, HO, HH, HB⟩ := hrel
    have hsr := HB.out.size
    have HL : Hid (xs.length = n) := Lib.hid HX.out.1
    by_cases hlt : q < n
    · have HXr := Lib.hid (HX.out.below (HB.out.mono hB))
      have hcq : ¬ c = q := by omega
      have HD : Hid (RdY wr B (A.map (fun x => x.add q)) (n - q) (xs.drop q)) := Lib.hid (by have := HXr.out.from hqn hnc; rwa [subA, if_neg hcq] at this)
      have HBD : Hid (Bytes (xs.drop q)) := Lib.hid (bytes_drop HBX.out q)
      have hqc : (q : Int) ≤ (n : Int) := by omega
      by_cases ho : openN (xs.drop q) = 0
      · have hb1 : ((openN (xs.drop q) : Int) != 0) = false := by rw [ho]; rfl
        have HZ := Lib.hid (open_len ho)
        have HO0 := Lib.hid ho
        have HZ2 : Hid (q + sizeN (xs.drop q) ≤ n ∧ 8 ≤ sizeN (xs.drop q)) := Lib.hid (by have := HZ.out; rw [List.length_drop, HL.out] at this; omega)
        clear ho
        obtain ⟨z, hz⟩ : ∃ z, z = sizeN (xs.drop q) := ⟨_, rfl⟩
        have HZE := Lib.hid hz
        have hzn : q + z ≤ n ∧ 8 ≤ z := by rw [hz]; exact HZ2.out
        clear hz
        go_wp2_with fail
        refine (refOpen_any (w := wr) (B := B) (n := n - q) (c := c - q) (xs := xs.drop q) HD.out HBD.out (by omega) (by omega) (Nat.le_trans hB hsr)).mono ?_
        rintro e w2 ⟨A2, c2, rfl, hr2, hbel2⟩
        rw [← HZE.out]
        have HR2 := Lib.hid hr2
        have HB2 : Hid (Below w.heap.size w w2) := Lib.hid (HB.out.trans (hbel2.mono hsr))
        have HH2 := Lib.hid (HH.out.kept hbel2)
        have hge := HH.out.block_ge
        have HNE : Hid (∀ b off, A2 = some ⟨b, off, none⟩ → 0 < (payT (xs.drop q)).length → (Value.slice A' k c').ownBlock ≠ some b) := Lib.hid (fun b off e hp e2 => by
          obtain ⟨b', off', e', hb', _⟩ := HR2.out.2 hp
          rw [e] at e'
          injection e' with e'
          injection e' with e3 e4 e5
          have h2 := hge b e2
          omega)
        have hlen : (payT (xs.drop q)).length ≤ 9223372036854775807 := by
          have h1 := payT_length_le (xs.drop q)
          have h2 : (xs.drop q).length = n - q := by rw [List.length_drop, HL.out]
          omega
        have HBP : Hid (Bytes (pT xs k)) := Lib.hid (pT_bytes HBX.out k)
        have HPE : Hid (pT xs k = payT (xs.drop q)) := Lib.hid (by unfold pT; rw [← HQ.out])
        have hs2 := HB2.out.size
        have HH3 : Hid (Held (w2.alloc (.cells #[.slice A2 (payT (xs.drop q)).length c2] 26)) w.heap.size (.slice A' k c') k (pT xs)) := Lib.hid (HH2.out.kept ((Below.refl _ _).alloc (Nat.le_refl _) _))
        have HR3 : Hid (RdY (w2.alloc (.cells #[.slice A2 (payT (xs.drop q)).length c2] 26)) (w2.alloc (.cells #[.slice A2 (payT (xs.drop q)).length c2] 26)).heap.size A2 (payT (xs.drop q)).length (pT xs k)) := Lib.hid (by
          rw [HPE.out]; exact (HR2.out.alloc (Nat.le_trans hB hs2) _).more (by simp; omega))
        have HB3 : Hid (Below w.heap.size w (w2.alloc (.cells #[.slice A2 (payT (xs.drop q)).length c2] 26))) := Lib.hid (HB2.out.alloc hs2 _)
        clear hr2 hbel2 hge HH2 HR2
        go_wp2_with (at_builtin; refine wplH_app rfl _ _ rfl w.heap.size _ k (pT xs) rfl HH3.out w2.heap.size A2 (payT (xs.drop q)).length c2 rfl (by simp) (by omega) (by simp; omega) HR3.out HBP.out hlen HNE.out ?_; intro g5 d5 w5 held5 hg5 hgrow5)
        have HH5 := Lib.hid held5
        have HB5 : Hid (Below w.heap.size w w5) := Lib.hid (HB3.out.grown hgrow5 (by simp; omega) HH3.out.block_ge)
        clear held5 hg5 hgrow5
        go_wp2
        go_roundw
        case rel =>
          refine ⟨k + 1, q + z, _, _, rfl, by go_num, hzn.1, by omega, Lib.hid ?_, Lib.hid (fun j hj => ?_), HH5, HB5⟩
          · rw [HZE.out]
            show _ = atN xs k + sizeN (xs.drop (atN xs k))
            rw [← HQ.out]
          · by_cases hjk : j < k
            · exact HO.out j hjk
            · obtain rfl : j = k := by omega
              rw [← HQ.out]; exact HO0.out
        case measure => simp [intOf]; omega
      · have hb1 : ((openN (xs.drop q) : Int) != 0) = true := by simp [ho]
        have HSP : Hid (Splits xs k) := Lib.hid ⟨HO.out, by rw [← HQ.out]; exact ho⟩
        clear ho
        go_wp2_with fail
        refine (refOpen_any (w := wr) (B := B) (n := n - q) (c := c - q) (xs := xs.drop q) HD.out HBD.out (by omega) (by omega) (Nat.le_trans hB hsr)).mono ?_
        rintro e w2 ⟨A2, c2, rfl, hr2, hbel2⟩
        have HB2 : Hid (Below w.heap.size w w2) := Lib.hid (HB.out.trans (hbel2.mono hsr))
        have HH2 := Lib.hid (HH.out.kept hbel2)
        clear hr2 hbel2
        go_wp2
        go_ret2
        exact ⟨k, _, HSP.out, by rw [← HQ.out]; rfl, HH2.out, HB2.out⟩
    · have hqn2 : q = n := by omega
      have HSP : Hid (Splits xs k) := Lib.hid ⟨HO.out, by rw [← HQ.out, hqn2, List.drop_eq_nil_of_le (by rw [HL.out]; exact Nat.le_refl _)]; exact open_nil⟩
      clear hqn2
      go_wp2
      go_ret2
      exact ⟨k, _, HSP.out, by rw [← HQ.out]; rfl, HH.out, HB.out⟩
end Go.Proofs.Yticklaophgekeaa
