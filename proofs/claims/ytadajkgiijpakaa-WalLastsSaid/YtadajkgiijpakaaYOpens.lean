/-
  CONTRACTS of Open of package sum and of the document's own one, over this translation.
-/
import Derived.Test.YtadajkgiijpakaaYOpen
import Derived.Test.YtadajkgiijpakaaYFrames
import Derived.OwnWalk
import Derived.Deep.RegionHeld3
namespace Go.Proofs.Ytadajkgiijpakaa
open Go.RowKit
open ByteP
set_option linter.unusedVariables false

def subA (A : Option Addr) (c l : Nat) : Option Addr := if c = l then A else A.map (·.add l)
theorem RdY.sub {w : World} {B n c : Nat} {A : Option Addr} {xs : List Int} (h : RdY w B A n xs) (l k : Nat) (hl : l + k ≤ n) (hc : n ≤ c) : RdY w B (subA A c l) k ((xs.drop l).take k) := by
  refine ⟨by rw [List.length_take, List.length_drop, h.1]; omega, fun hk => ?_⟩
  obtain ⟨b, off, rfl, hb, hcell⟩ := h.2 (by omega)
  refine ⟨b, off + l, ?_, hb, fun j hj => ?_⟩
  · unfold subA
    rw [if_neg (by omega)]
    simp [addr_add]
  · rw [ix_take hj, ix_drop, ← hcell (l + j) (by omega)]
    congr 2; omega

theorem RdY.pre {w : World} {B n k : Nat} {A : Option Addr} {xs : List Int} (h : RdY w B A n xs) (hk : k ≤ n) : RdY w B A k (xs.take k) := by
  refine ⟨by rw [List.length_take, h.1]; omega, fun hk0 => ?_⟩
  obtain ⟨b, off, e, hb, hcell⟩ := h.2 (by omega)
  exact ⟨b, off, e, hb, fun j hj => by rw [ix_take hj]; exact hcell j (by omega)⟩

/-- A' lies in the block of A. -/
def Src (A A' : Option Addr) : Prop := ∀ a', A' = some a' → ∃ a, A = some a ∧ a.block = a'.block
theorem Src.none_ (A : Option Addr) : Src A none := fun _ h => by cases h
theorem Src.map_ {A A' : Option Addr} (h : Src A A') (q : Nat) : Src A (A'.map (fun x => x.add q)) := fun a' e => by
  cases A' with
  | none => cases e
  | some a =>
    injection e with e
    obtain ⟨a2, e1, e2⟩ := h a rfl
    refine ⟨a2, e1, ?_⟩
    rw [e2, ← e]
    show a.block = (a.add q).block
    unfold Addr.add
    split <;> rfl
theorem Src.refl_ (A : Option Addr) : Src A A := fun a h => ⟨a, h, rfl⟩
theorem Src.sub_ {A A' : Option Addr} (h : Src A A') (c l : Nat) : Src A (subA A' c l) := by
  unfold subA
  split
  · exact h
  · exact h.map_ l
theorem Src.trans_ {A B C : Option Addr} (h : Src A B) (k : Src B C) : Src A C := fun a' e => by
  obtain ⟨a, h2, h3⟩ := k a' e
  obtain ⟨a2, h4, h5⟩ := h a h2
  exact ⟨a2, h4, h5.trans h3⟩

def payT (xs : List Int) : List Int := if openN xs = 0 then payL xs else []
def sizeN (xs : List Int) : Nat := if openN xs = 0 then lenN xs + 8 else 0
theorem payT_no {xs : List Int} (h : openN xs ≠ 0) : payT xs = [] := if_neg h
theorem payT_yes {xs : List Int} (h : openN xs = 0) : payT xs = payL xs := if_pos h
theorem sizeN_no {xs : List Int} (h : openN xs ≠ 0) : sizeN xs = 0 := if_neg h
theorem sizeN_yes {xs : List Int} (h : openN xs = 0) : sizeN xs = lenN xs + 8 := if_pos h
theorem open13 {xs : List Int} (h : xs.length < 4) : openN xs = 13 := if_pos h
theorem open11 {xs : List Int} (h : ¬ xs.length < 4) (h2 : 65536 < lenN xs) : openN xs = 11 := by unfold openN; rw [if_neg h, if_pos h2]
theorem open13b {xs : List Int} (h : ¬ xs.length < 4) (h2 : ¬ 65536 < lenN xs) (h3 : xs.length < lenN xs + 8) : openN xs = 13 := by unfold openN; rw [if_neg h, if_neg h2, if_pos h3]
theorem open12 {xs : List Int} (h : ¬ xs.length < 4) (h2 : ¬ 65536 < lenN xs) (h3 : ¬ xs.length < lenN xs + 8) (h4 : ¬ (moreN 0 (xs.take (lenN xs + 4)) : Int) = numL (xs.drop (lenN xs + 4))) : openN xs = 12 := by
  unfold openN; rw [if_neg h, if_neg h2, if_neg h3, if_neg h4]
theorem open0 {xs : List Int} (h : ¬ xs.length < 4) (h2 : ¬ 65536 < lenN xs) (h3 : ¬ xs.length < lenN xs + 8) (h4 : (moreN 0 (xs.take (lenN xs + 4)) : Int) = numL (xs.drop (lenN xs + 4))) : openN xs = 0 := by
  unfold openN; rw [if_neg h, if_neg h2, if_neg h3, if_pos h4]

theorem payT_length_le (xs : List Int) : (payT xs).length ≤ xs.length := by
  unfold payT
  split
  · unfold payL; rw [List.length_take, List.length_drop]; omega
  · simp
/-- What Open answers: the payload's slice v, its size, the error's number. -/
def OpenSays (xs : List Int) (e : Ending) (v : Value) : Prop := e = .returned (.tuple #[v, .int .i64 (sizeN xs : Nat), .int .i64 (openN xs : Nat)])
theorem says_no {xs : List Int} {k : Nat} (h : openN xs = k) (hk : k ≠ 0) : OpenSays xs (.returned (.tuple #[.slice none 0 0, .int .i64 0, .int .i64 (k : Int)])) (.slice none 0 0) := by
  unfold OpenSays
  rw [sizeN_no (by omega), h]; rfl

set_option maxHeartbeats 1600000 in
theorem refOpen_any {w : World} {B n c : Nat} {A : Option Addr} {xs : List Int} (hx : RdY w B A n xs) (hb : Bytes xs) (hnc : n ≤ c) (hn : n ≤ 1099511627776) (hB : B ≤ w.heap.size) :
    Calls Try.prog 49 #[.slice A n c] w fun e w' => ∃ A' c', OpenSays xs e (.slice A' (payT xs).length c') ∧ RdY w' B A' (payT xs).length (payT xs) ∧ Below w.heap.size w w' ∧ (payT xs).length ≤ c' ∧ Src A A' := by
  have HX := Lib.hid hx
  have HBX := Lib.hid hb
  clear hx hb
  by_cases h4 : n < 4
  · have HE : Hid (openN xs = 13) := Lib.hid (open13 (by rw [HX.out.1]; exact h4))
    have HT : Hid (payT xs = []) := Lib.hid (payT_no (by rw [HE.out]; omega))
    go_enter Try.func49, Try.ntmps49
    go_wp2
    go_ret3
    rw [HT.out]
    exact ⟨none, 0, says_no HE.out (Nat.succ_ne_zero _), RdY.nil_, Below.refl _ _, Nat.le_refl _, Src.none_ _⟩
  · have HN : Hid (numL (xs.take 4) = (lenN xs : Int)) := Lib.hid (by
      have := numL_bd HBX.out
      rw [numL_take]; unfold lenN; omega)
    have HP := Lib.hid (HX.out.pre (k := 4) (by omega))
    have HBP := Lib.hid (bytes_take HBX.out 4)
    have HL4 : Hid (¬ xs.length < 4) := Lib.hid (by rw [HX.out.1]; exact h4)
    obtain ⟨m, hm⟩ : ∃ m, m = lenN xs := ⟨_, rfl⟩
    have HM := Lib.hid hm
    by_cases h5 : 65536 < m
    · have HE : Hid (openN xs = 11) := Lib.hid (open11 HL4.out (by rw [← HM.out]; exact h5))
      have HT : Hid (payT xs = []) := Lib.hid (payT_no (by rw [HE.out]; omega))
      clear hm
      go_enter Try.func49, Try.ntmps49
      go_wp2_with (go_at_call 58; refine (refNumber_any HP.out HBP.out (by omega) (by omega)).mono ?_; rintro e w1 ⟨rfl, rfl⟩; rw [HN.out, ← HM.out])
      go_ret3
      rw [HT.out]
      exact ⟨none, 0, says_no HE.out (Nat.succ_ne_zero _), RdY.nil_, Below.refl _ _, Nat.le_refl _, Src.none_ _⟩
    · by_cases h6 : n < m + 8
      · have HE : Hid (openN xs = 13) := Lib.hid (open13b HL4.out (by rw [← HM.out]; exact h5) (by rw [← HM.out, HX.out.1]; exact h6))
        have HT : Hid (payT xs = []) := Lib.hid (payT_no (by rw [HE.out]; omega))
        clear hm
        go_enter Try.func49, Try.ntmps49
        go_wp2_with (go_at_call 58; refine (refNumber_any HP.out HBP.out (by omega) (by omega)).mono ?_; rintro e w1 ⟨rfl, rfl⟩; rw [HN.out, ← HM.out])
        go_ret3
        rw [HT.out]
        exact ⟨none, 0, says_no HE.out (Nat.succ_ne_zero _), RdY.nil_, Below.refl _ _, Nat.le_refl _, Src.none_ _⟩
      · obtain ⟨b, off, rfl, hbB, _⟩ := HX.out.2 (by omega)
        clear hm
        have hc4 : ¬ c = 4 := by omega
        go_enter Try.func49, Try.ntmps49
        go_wp2_with (go_at_call 58; refine (refNumber_any HP.out HBP.out (by omega) (by omega)).mono ?_; rintro e w1 ⟨rfl, rfl⟩; rw [HN.out, ← HM.out])
        have e4 : 4 + m - 4 = m := by omega
        rw [e4]
        have HPay : Hid (payL xs = (xs.drop 4).take m) := Lib.hid (by unfold payL; rw [← HM.out])
        have HS : Hid (RdY w B (some ⟨b, off + 4, none⟩) m (payL xs)) := Lib.hid (by
          have := HX.out.sub (c := c) 4 m (by omega) hnc
          unfold subA at this
          rw [if_neg hc4] at this
          rw [HPay.out]
          simpa [addr_add] using this)
        have HT8 : Hid (RdY w B (some ⟨b, off, none⟩) (m + 8) (xs.take (m + 8))) := Lib.hid (HX.out.pre (by omega))
        have HBS : Hid (Bytes (payL xs)) := Lib.hid (by rw [HPay.out]; exact bytes_take (bytes_drop HBX.out 4) m)
        clear e4
        have hw8 : IntKind.i64.wrap ((m : Int) + 8) = (m : Int) + 8 := wrap_i64s (by omega) (by omega)
        have hw0 : (0 : Int) ≤ (m : Int) + 8 := by omega
        have hwc : (m : Int) + 8 ≤ (c : Int) := by omega
        go_region_held3 (fun _ => True) (trivial) (first
          | (go_at_call 46; refine (refFrame_any (B := B) (w := w.drew) HS.out HBS.out (by omega) hB).mono ?_; rintro e w2 ⟨v2, rfl, hown2, hbel2⟩; obtain ⟨A2, c2, rfl, hr2⟩ := hown2.shape; have HR2 := Lib.hid hr2; have HB2 : Hid (Below w.heap.size w w2) := Lib.hid ((Below.refl _ w).drew.trans hbel2); clear hown2 hr2 hbel2)
          | (go_at_call 18; refine (sameY_any HR2.out ((HT8.out.below (HB2.out.mono hB)).more (Nat.le_trans hB HB2.out.size)) (by omega) (by omega)).mono ?_; rintro e w4 ⟨rfl, q, rfl⟩))
        have HIff := Lib.hid (frame_iff HBX.out (by have := HL4.out; omega) (by rw [← HM.out, HX.out.1]; omega))
        rw [← HM.out] at HIff
        have HH : Hid (¬ xs.length < lenN xs + 8) := Lib.hid (by rw [← HM.out, HX.out.1]; omega)
        have H5 : Hid (¬ 65536 < lenN xs) := Lib.hid (by rw [← HM.out]; exact h5)
        have HBE : Hid (Below w.heap.size w (w2.drewN q)) := Lib.hid (below_drewN HB2.out q)
        by_cases hfr : frameL m (payL xs) = xs.take (m + 8)
        · have HE : Hid (openN xs = 0) := Lib.hid (open0 HL4.out H5.out HH.out (by rw [← HM.out]; exact HIff.out.1 hfr))
          have HT : Hid (payT xs = payL xs) := Lib.hid (payT_yes HE.out)
          have HLn : Hid ((payL xs).length = m) := Lib.hid HS.out.1
          have hsame : sameY (frameL m (payL xs)) (xs.take (m + 8)) = true := by rw [hfr]; exact sameY_refl _
          rw [hsame]
          clear hfr HIff
          go_wp2
          go_ret3
          rw [HT.out, HLn.out]
          exact ⟨_, _, by unfold OpenSays; rw [sizeN_yes HE.out, HE.out, ← HM.out]; rfl, (HS.out.below (HBE.out.mono hB)), HBE.out, by omega, fun a' e' => by injection e' with e'; exact ⟨_, rfl, by rw [← e']⟩⟩
        · have HE : Hid (openN xs = 12) := Lib.hid (open12 HL4.out H5.out HH.out (by rw [← HM.out]; exact fun h => hfr (HIff.out.2 h)))
          have HT : Hid (payT xs = []) := Lib.hid (payT_no (by rw [HE.out]; omega))
          have hsame : sameY (frameL m (payL xs)) (xs.take (m + 8)) = false := by unfold sameY; rw [decide_eq_false_iff_not]; exact hfr
          rw [hsame]
          clear hfr HIff
          go_wp2
          go_ret3
          rw [HT.out]
          exact ⟨none, 0, says_no HE.out (Nat.succ_ne_zero _), RdY.nil_, HBE.out, Nat.le_refl _, Src.none_ _⟩

set_option maxHeartbeats 1600000 in
theorem open_any {w : World} {B n c : Nat} {A : Option Addr} {xs : List Int} (hx : RdY w B A n xs) (hb : Bytes xs) (hnc : n ≤ c) (hn : n ≤ 1099511627776) (hB : B ≤ w.heap.size) :
    Calls Try.prog 75 #[.slice A n c] w fun e w' => ∃ v, OpenSays xs e v ∧ OwnY w' w.heap.size v (payT xs).length (payT xs) ∧ Below w.heap.size w w' := by
  have HX := Lib.hid hx
  have HBX := Lib.hid hb
  clear hx hb
  by_cases h4 : n < 4
  · have HE : Hid (openN xs = 13) := Lib.hid (open13 (by rw [HX.out.1]; exact h4))
    have HT : Hid (payT xs = []) := Lib.hid (payT_no (by rw [HE.out]; omega))
    go_enter Try.func75, Try.ntmps75
    go_wp2
    go_ret3
    rw [HT.out]
    exact ⟨_, says_no HE.out (Nat.succ_ne_zero _), OwnY.nil_ _ _, Below.refl _ _⟩
  · have HN : Hid (numL xs = (lenN xs : Int)) := Lib.hid (by
      have := numL_bd HBX.out
      unfold lenN; omega)
    have HL4 : Hid (¬ xs.length < 4) := Lib.hid (by rw [HX.out.1]; exact h4)
    obtain ⟨m, hm⟩ : ∃ m, m = lenN xs := ⟨_, rfl⟩
    have HM := Lib.hid hm
    by_cases h5 : 65536 < m
    · have HE : Hid (openN xs = 11) := Lib.hid (open11 HL4.out (by rw [← HM.out]; exact h5))
      have HT : Hid (payT xs = []) := Lib.hid (payT_no (by rw [HE.out]; omega))
      clear hm
      go_enter Try.func75, Try.ntmps75
      go_wp2_with (go_at_call 83; refine (number_any HX.out HBX.out (by omega) (by omega)).mono ?_; rintro e w1 ⟨rfl, rfl⟩; rw [HN.out, ← HM.out])
      go_ret3
      rw [HT.out]
      exact ⟨_, says_no HE.out (Nat.succ_ne_zero _), OwnY.nil_ _ _, (Below.refl _ w).drew⟩
    · by_cases h6 : n < m + 8
      · have HE : Hid (openN xs = 13) := Lib.hid (open13b HL4.out (by rw [← HM.out]; exact h5) (by rw [← HM.out, HX.out.1]; exact h6))
        have HT : Hid (payT xs = []) := Lib.hid (payT_no (by rw [HE.out]; omega))
        clear hm
        go_enter Try.func75, Try.ntmps75
        go_wp2_with (go_at_call 83; refine (number_any HX.out HBX.out (by omega) (by omega)).mono ?_; rintro e w1 ⟨rfl, rfl⟩; rw [HN.out, ← HM.out])
        go_ret3
        rw [HT.out]
        exact ⟨_, says_no HE.out (Nat.succ_ne_zero _), OwnY.nil_ _ _, (Below.refl _ w).drew⟩
      · obtain ⟨b, off, rfl, hbB, _⟩ := HX.out.2 (by omega)
        clear hm
        have hc4 : ¬ c = 4 := by omega
        have hcm : ¬ c = 4 + m := by omega
        have hcm2 : ¬ c = m + 4 := by omega
        have HPay : Hid (payL xs = (xs.drop 4).take m) := Lib.hid (by unfold payL; rw [← HM.out])
        have HS : Hid (RdY w B (some ⟨b, off + 4, none⟩) m (payL xs)) := Lib.hid (by
          have := HX.out.sub (c := c) 4 m (by omega) hnc
          unfold subA at this
          rw [if_neg hc4] at this
          rw [HPay.out]
          simpa [addr_add] using this)
        have HPre : Hid (RdY w B (some ⟨b, off, none⟩) (4 + m) (xs.take (m + 4))) := Lib.hid (by rw [Nat.add_comm m 4]; exact HX.out.pre (by omega))
        have HSuf : Hid (RdY w B (some ⟨b, off + (4 + m), none⟩) (n - (4 + m)) (xs.drop (m + 4))) := Lib.hid (by
          have := HX.out.sub (c := c) (4 + m) (n - (4 + m)) (by omega) hnc
          unfold subA at this
          rw [if_neg hcm, List.take_of_length_le (by rw [List.length_drop, HX.out.1]; exact Nat.le_refl _)] at this
          rw [Nat.add_comm m 4]
          simpa [addr_add] using this)
        have HSufA : Hid (RdY (w.alloc (.cells #[.slice (some ⟨b, off, none⟩) (4 + m) c] 26)) B (some ⟨b, off + (4 + m), none⟩) (n - (4 + m)) (xs.drop (m + 4))) := Lib.hid (HSuf.out.alloc hB _)
        have HBPre : Hid (Bytes (xs.take (m + 4))) := Lib.hid (bytes_take HBX.out _)
        have HBSuf : Hid (Bytes (xs.drop (m + 4))) := Lib.hid (bytes_drop HBX.out _)
        have R := Lib.hid (Rd2.lit1 (c0 := c) HPre.out HBPre.out hB (by omega))
        have hw0 : (0 : Int) ≤ 4 + (m : Int) := by omega
        have hwn : 4 + (m : Int) ≤ (n : Int) := by omega
        have hwc : 4 + (m : Int) ≤ (c : Int) := by omega
        go_enter Try.func75, Try.ntmps75
        go_wp2_with (go_at_call 83; refine (number_any HX.out HBX.out (by omega) (by omega)).mono ?_; rintro e w1 ⟨rfl, rfl⟩; rw [HN.out, ← HM.out])
        go_region_held3 (fun _ => True) (trivial) (first
          | (go_at_call 62; refine (of_any (B := w.heap.size + 1) (PA := fun _ => some ⟨b, off, none⟩) (PN := fun _ => 4 + m) (PC := fun _ => c) (PX := fun _ => xs.take (m + 4)) ?_ (by omega)).mono ?_; (exact R.out); rintro e w2 ⟨rfl, rfl⟩)
          | (go_at_call 83; refine (number_any (B := B) (xs := xs.drop (m + 4)) ?_ HBSuf.out (by omega) (by omega)).mono ?_; (first | exact HSuf.out | exact HSufA.out); rintro e w4 ⟨rfl, rfl⟩))
        have e8 : (4 + (m : Int)).toNat = 4 + m := by omega
        have e9 : ofN (fun _ => xs.take (m + 4)) 1 = moreN 0 (xs.take (m + 4)) := rfl
        rw [e8, e9]
        clear e9
        have HBW : Hid (Below w.heap.size w (w.alloc (.cells #[.slice (some ⟨b, off, none⟩) (4 + m) c] 26)).drew.drew.drew) := Lib.hid ((Below.refl _ w).alloc (Nat.le_refl _) _).drew.drew.drew
        generalize (w.alloc (.cells #[.slice (some ⟨b, off, none⟩) (4 + m) c] 26)).drew.drew.drew = W at HBW ⊢
        have HH : Hid (¬ xs.length < lenN xs + 8) := Lib.hid (by rw [← HM.out, HX.out.1]; omega)
        have H5 : Hid (¬ 65536 < lenN xs) := Lib.hid (by rw [← HM.out]; exact h5)
        have HSW : Hid (RdY W B (some ⟨b, off + 4, none⟩) m (payL xs)) := Lib.hid (HS.out.below (HBW.out.mono hB))
        have hsw : w.heap.size ≤ W.heap.size := HBW.out.size
        have hBW : B ≤ W.heap.size := Nat.le_trans hB hsw
        by_cases hfr : (moreN 0 (xs.take (m + 4)) : Int) = numL (xs.drop (m + 4))
        · have HE : Hid (openN xs = 0) := Lib.hid (open0 HL4.out H5.out HH.out (by rw [← HM.out]; exact hfr))
          have HT : Hid (payT xs = payL xs) := Lib.hid (payT_yes HE.out)
          have HLn : Hid ((payL xs).length = m) := Lib.hid HS.out.1
          have hne : ((moreN 0 (xs.take (m + 4)) : Int) != numL (xs.drop (m + 4))) = false := by rw [hfr]; simp
          rw [hne]
          clear hfr
          have e4 : 4 + m - 4 = m := by omega
          go_wp2_with fail
          refine (clone_any HSW.out hBW (by omega)).mono ?_
          rintro e w5 ⟨v5, rfl, hown5, hbel5⟩
          have HO5 : Hid (OwnY w5 w.heap.size v5 m (payL xs)) := Lib.hid (hown5.less hsw)
          have HB5 : Hid (Below w.heap.size w w5) := Lib.hid (HBW.out.trans (hbel5.mono hsw))
          have HZ : Hid (4 + (m : Int) + 4 = ((m + 8 : Nat) : Int)) := Lib.hid (by omega)
          clear hown5 hbel5
          go_wp2
          go_ret3
          rw [HT.out, HLn.out]
          refine ⟨_, ?_, HO5.out, HB5.out⟩
          unfold OpenSays
          rw [sizeN_yes HE.out, HE.out, ← HM.out, ← HZ.out]
          rfl
        · have HE : Hid (openN xs = 12) := Lib.hid (open12 HL4.out H5.out HH.out (by rw [← HM.out]; exact hfr))
          have HT : Hid (payT xs = []) := Lib.hid (payT_no (by rw [HE.out]; omega))
          have hne : ((moreN 0 (xs.take (m + 4)) : Int) != numL (xs.drop (m + 4))) = true := by simp [hfr]
          rw [hne]
          clear hfr
          go_wp2
          go_ret3
          rw [HT.out]
          exact ⟨_, says_no HE.out (Nat.succ_ne_zero _), OwnY.nil_ _ _, HBW.out⟩
end Go.Proofs.Ytadajkgiijpakaa
