/-
  THE WALK of the statement SumCuts: whatever the texts and the cut, the call returns true and writes nothing that was there.
-/
import Derived.Test.YtcbjneidjbfheaaYCuts
import Derived.Test.YtcbjneidjbfheaaYLawSplits
import Derived.Test.YtcbjneidjbfheaaYLawOpens
namespace Go.Proofs.Ytcbjneidjbfheaa
open Go.RowKit
open ByteP
set_option linter.unusedVariables false

theorem frames_len (PX : Nat → List Int) (PN : Nat → Nat) (k : Nat) (h : ∀ j, j < k → (PX j).length = PN j ∧ PN j ≤ 200) : (catTo (frameOf PX) k).length ≤ 208 * k := by
  induction k with
  | zero => exact Nat.le_refl _
  | succ k ih =>
    have h1 := ih (fun j hj => h j (by omega))
    have h2 := h k (by omega)
    show (catTo (frameOf PX) k ++ frameL (PX k).length (PX k)).length ≤ _
    rw [List.length_append, frameL_length]
    omega

set_option maxHeartbeats 3200000 in
theorem law_cuts {w : World} {m c : Nat} {A : Option Addr} {PA : Nat → Option Addr} {PN PC : Nat → Nat} {PX : Nat → List Int} (p : Int) (hx : Rd2 w w.heap.size A m PA PN PC PX) (hm : m ≤ 9223372036854775807)
    (hp : -9223372036854775808 ≤ p ∧ p ≤ 9223372036854775807) :
    Calls Try.prog 6 #[.slice A m c, .int .i64 p] w fun e w' => e = .returned (.bool true) ∧ Below w.heap.size w w' := by
  have HX := Lib.hid hx
  clear hx
  by_cases h1 : m < 1
  · go_enter Try.func6, Try.ntmps6
    go_wp2_with (go_at_call 7; refine (anchor_any _).mono ?_; rintro e w1 ⟨rfl, hbel⟩; (have HB := Lib.hid hbel); clear hbel)
    go_ret
    exact ⟨rfl, HB.out⟩
  by_cases h2 : 20 < m
  · go_enter Try.func6, Try.ntmps6
    go_wp2_with (go_at_call 7; refine (anchor_any _).mono ?_; rintro e w1 ⟨rfl, hbel⟩; (have HB := Lib.hid hbel); clear hbel)
    go_ret
    exact ⟨rfl, HB.out⟩
  by_cases h3 : p < 0
  · go_enter Try.func6, Try.ntmps6
    go_wp2_with (go_at_call 7; refine (anchor_any _).mono ?_; rintro e w1 ⟨rfl, hbel⟩; (have HB := Lib.hid hbel); clear hbel)
    go_ret
    exact ⟨rfl, HB.out⟩
  go_enter Try.func6, Try.ntmps6
  go_wp2_with (go_at_call 7; refine (anchor_any _).mono ?_; rintro e w1 ⟨rfl, hbel⟩; (have HB1 := Lib.hid hbel); clear hbel)
  go_loopw [5, 34] (fun v i wr => ∃ (k n : Nat) (A' : Option Addr) (c' : Nat), k ≤ m ∧ i = .int .i64 (k : Int) ∧ v = .slice A' n c' ∧ n ≤ 208 * k ∧ Hid (∀ j, j < k → (PX j).length = PN j ∧ PN j ≤ 200) ∧
      Hid (OwnY wr w.heap.size (.slice A' n c') n (catTo (frameOf PX) k)) ∧ Hid (Below w.heap.size w wr)) (fun _ i _ => m - (intOf i).toNat)
  case atStart => exact ⟨0, 0, none, 0, by omega, rfl, rfl, by omega, Lib.hid (fun j hj => absurd hj (by omega)), Lib.hid (OwnY.nil_ _ _), HB1⟩
  case round =>
    clear HB1
    obtain ⟨k, n, A', c', hk, rfl, rfl, hn, HL, HO, HB⟩ := hrel
    have hsr := HB.out.size
    by_cases hlt : k < m
    · have HXr := Lib.hid (HX.out.below HB.out)
      obtain ⟨b, off, rfl, hbb, hc⟩ := HXr.out.at_ hlt
      have HP := Lib.hid (HXr.out.2 k hlt)
      have hpn : PN k ≤ 9223372036854775807 := HP.out.2.2
      by_cases hbig : 200 < PN k
      · go_wp2
        go_ret
        exact ⟨rfl, HB.out⟩
      · go_wp2_with fail
        refine (frame_any HP.out.1 HP.out.2.1 (by omega) hsr).mono ?_
        rintro e w2 ⟨v2, rfl, hown2, hbel2⟩
        obtain ⟨A2, c2, rfl, hr2⟩ := hown2.shape
        have HR2 := Lib.hid hr2
        have HB2 : Hid (Below w.heap.size w w2) := Lib.hid (HB.out.trans (hbel2.mono hsr))
        have HO2 := Lib.hid (HO.out.kept hbel2)
        have hs2 := HB2.out.size
        have hpl : Hid ((PX k).length = PN k) := Lib.hid HP.out.1.1
        clear hown2 hr2 hbel2
        go_wp2_with (at_builtin; refine wplY_apps rfl _ _ rfl w.heap.size _ n _ rfl HO2.out w2.heap.size A2 (PN k + 8) c2 _ rfl HR2.out (by omega) hs2 ?_; intro v3 w3 hown3 hg3 hat3)
        obtain ⟨A3, c3, rfl, _⟩ := hown3.shape
        have HO3 : Hid (OwnY w3 w.heap.size (.slice A3 (n + (PN k + 8)) c3) (n + (PN k + 8)) (catTo (frameOf PX) (k + 1))) := Lib.hid (by
          have e : catTo (frameOf PX) (k + 1) = catTo (frameOf PX) k ++ frameL (PN k) (PX k) := by show _ ++ frameL (PX k).length (PX k) = _; rw [hpl.out]
          rw [e]; exact hown3)
        have HB3 : Hid (Below w.heap.size w w3) := Lib.hid (HB2.out.grown hg3 hs2 HO2.out.ge)
        clear hown3 hg3 hat3
        go_wp2
        go_roundw
        case rel => exact ⟨k + 1, n + (PN k + 8), A3, c3, by omega, by go_num, rfl, by omega, Lib.hid (fun j hj => by
            by_cases hjk : j < k
            · exact HL.out j hjk
            · obtain rfl : j = k := by omega
              exact ⟨hpl.out, by omega⟩), HO3, HB3⟩
        case measure => simp [intOf]; omega
    · obtain rfl : k = m := by omega
      obtain ⟨z0, rfl⟩ := Int.eq_ofNat_of_zero_le (show 0 ≤ p by omega)
      obtain ⟨l, hl⟩ : ∃ l, k = l + 1 := ⟨k - 1, by omega⟩
      have hXl := HX.out.2 l (by omega)
      have HPL := Lib.hid (HL.out l (by omega))
      obtain ⟨z, hz⟩ : ∃ z, z = z0 % (PN l + 8) := ⟨_, rfl⟩
      have hzl : z < PN l + 8 := by rw [hz]; exact Nat.mod_lt _ (by omega)
      have hpl200 : PN l ≤ 200 := HPL.out.2
      have hfl : (frameOf PX l).length = PN l + 8 := by unfold frameOf; rw [frameL_length, HPL.out.1]
      have hnlen : n = (catTo (frameOf PX) k).length := HO.out.len.symm
      obtain ⟨a, ha⟩ : ∃ a, a = (catTo (frameOf PX) l).length := ⟨_, rfl⟩
      have hna : n = a + PN l + 8 := by
        have e : catTo (frameOf PX) (l + 1) = catTo (frameOf PX) l ++ frameOf PX l := rfl
        rw [hnlen, hl, e, List.length_append, hfl, ha]; omega
      obtain ⟨t, ht⟩ : ∃ t, n = t + (1 + z) := ⟨n - (1 + z), by omega⟩
      have HBC : ∀ j, j < k → Bytes (PX j) ∧ (PX j).length ≤ 65536 := fun j hj => ⟨(HX.out.2 j hj).2.1, by have := HL.out j hj; omega⟩
      have HS1 := Lib.hid (cat_splits (PX := PX) (tail := []) (m := k) HBC open_nil)
      rw [List.append_nil] at HS1
      have hshort : (catTo (frameOf PX) k).take t = catTo (frameOf PX) l ++ (frameOf PX l).take ((frameOf PX l).length - (1 + z)) := by
        have := cut_short PX l (1 + z) (by rw [hfl]; omega)
        rw [← hl, ← hnlen, show n - (1 + z) = t by omega] at this
        exact this
      have HS2 := Lib.hid (cat_splits (PX := PX) (tail := (frameOf PX l).take ((frameOf PX l).length - (1 + z))) (m := l) (fun j hj => HBC j (by omega))
        (take_shuts (HBC l (by omega)).1 (HBC l (by omega)).2 (by rw [hfl, HPL.out.1]; omega)))
      rw [← hshort] at HS2
      have HFB : Hid (Bytes (catTo (frameOf PX) k)) := Lib.hid (catTo_bytes (m := k) (fun j hj => by have h := HBC j hj; exact frameL_bytes h.2 h.1) k (Nat.le_refl _))
      have HTB : Hid (Bytes ((catTo (frameOf PX) k).take t)) := Lib.hid (bytes_take HFB.out t)
      have hcap := HO.out.cap_le
      have HR := Lib.hid (OwnY.rd HO.out (Below.refl _ _))
      have HAT : Hid (atN (catTo (frameOf PX) k) k = n) := Lib.hid (by rw [HS1.out.2.1 k (Nat.le_refl _), hnlen])
      have HAT2 : Hid (atN ((catTo (frameOf PX) k).take t) l = a) := Lib.hid (by rw [HS2.out.2.1 l (Nat.le_refl _), ha])
      have HXL : Hid (l < k) := Lib.hid (by omega)
      have hlk : l < k := by omega
      have hkl1 : (k : Int) - 1 = (l : Int) := by omega
      have hlz : (0 : Int) ≤ (l : Int) := by omega
      have hlk2 : (l : Int) < (k : Int) := by omega
      have hzz : (z0 : Int) % ((PN l : Int) + 8) = (z : Int) := by rw [hz]; simp
      have hd0 : ¬ ((PN l : Int) + 8 = 0) := by omega
      have htt : (n : Int) - (1 + (z : Int)) = (t : Int) := by omega
      have htn : (t : Int) ≤ (c' : Int) := by omega
      have hb1 : ((n : Int) != (n : Int)) = false := by simp
      have hb2 : ((k : Int) != (k : Int)) = false := by simp
      have hb3 : ((l : Int) != (l : Int)) = false := by simp
      have hb4 : ((a : Int) != (n : Int) - 8 - (PN l : Int)) = false := by
        have : (n : Int) - 8 - (PN l : Int) = (a : Int) := by omega
        rw [this]; simp
      have hn4160 : n ≤ 4160 := by omega
      have hzn : 1 + (z : Int) ≤ (n : Int) := by omega
      have hzz0 : (0 : Int) ≤ 1 + (z : Int) := by omega
      clear hz ha hnlen hna hl hXl hfl hshort HBC hn ht
      go_wp2_with fail
      refine (split_any HR.out HFB.out hcap (by omega) (Nat.le_refl _)).mono ?_
      rintro e w2 ⟨k1, v2, hsp, rfl, held2, hbel2⟩
      obtain rfl : k = k1 := HS1.out.1.uniq hsp
      rw [HAT.out]
      obtain ⟨A2, c2, rfl⟩ := held2.shape
      have HH2 := Lib.hid held2
      have HB2 : Hid (Below w.heap.size w w2) := Lib.hid (HB.out.trans (hbel2.mono hsr))
      have HX2 := Lib.hid (HX.out.below HB2.out)
      have HR2 : Hid (RdY w2 w2.heap.size A' t ((catTo (frameOf PX) k).take t)) := Lib.hid (((HR.out.below hbel2).more hbel2.size).pre (by omega))
      have hs2 := HB2.out.size
      clear hsp held2 hbel2
      obtain ⟨b0, off0, rfl, hbb0, hc0⟩ := HX2.out.at_ HXL.out
      go_wp2_with fail
      refine (split_any HR2.out HTB.out (by omega) (by omega) (Nat.le_refl _)).mono ?_
      rintro e w3 ⟨k2, v3, hsp, rfl, held3, hbel3⟩
      obtain rfl : l = k2 := HS2.out.1.uniq hsp
      rw [HAT2.out]
      obtain ⟨A3, c3, rfl⟩ := held3.shape
      have HH3 := Lib.hid held3
      have HB3 : Hid (Below w.heap.size w w3) := Lib.hid (HB2.out.trans (hbel3.mono hs2))
      have HH2' := Lib.hid (HH2.out.kept hbel3)
      have HX3 := Lib.hid (HX.out.below HB3.out)
      have hs3 := HB3.out.size
      have hc3 : w3.cell? ⟨b0, off0 + l, none⟩ = some (.slice (PA l) (PN l) (PC l)) := by
        rw [← hc0]; exact hbel3.cell (p := ⟨b0, off0 + l, none⟩) (Nat.lt_of_lt_of_le hbb0 hs2)
      have HC0 := Lib.hid HX3.out.1
      clear hsp held3 hbel3 HH2 hc0
      go_wp2
      go_loopw [113] (fun i wr => ∃ (j q : Nat), j ≤ k ∧ i = .int .i64 (j : Int) ∧ wr = w3.drewN q) (fun i _ => k - (intOf i).toNat)
      case atStart => exact ⟨0, 0, by omega, rfl, rfl⟩
      case round =>
        obtain ⟨j, q, hj, rfl, rfl⟩ := hrel
        by_cases hlt2 : j < k
        · obtain ⟨b1, off1, e1, _, hcj⟩ := HX3.out.at_ hlt2
          injection e1 with e1
          injection e1 with e2 e3 _
          subst e2 e3
          obtain ⟨b2, P2, n2, d2, rfl, hc2, hr2, hn2⟩ := HH2'.out.at_ hlt2
          have hrj := (HX3.out.2 j hlt2).1
          have hnj := (HX3.out.2 j hlt2).2.2
          have e2 := HS1.out.2.2 j hlt2
          rw [e2] at hr2
          have HR2 : Hid (RdY (w3.drewN q) w3.heap.size P2 n2 (PX j)) := Lib.hid (hr2.drewN q)
          have HRJ : Hid (RdY (w3.drewN q) w3.heap.size (PA j) (PN j) (PX j)) := Lib.hid ((hrj.more hs3).drewN q)
          clear hr2 hrj e2
          by_cases hjl : j < l
          · obtain ⟨b3, P3, n3, d3, rfl, hc3', hr3, hn3⟩ := HH3.out.at_ hjl
            have e3 := HS2.out.2.2 j hjl
            rw [e3] at hr3
            have HR3 : Hid (RdY w3 w3.heap.size P3 n3 (PX j)) := Lib.hid hr3
            have HRJ0 : Hid (RdY w3 w3.heap.size (PA j) (PN j) (PX j)) := Lib.hid HRJ.out
            clear hr3 e3
            go_wp2_with fail
            refine (sameY_any HR2.out HRJ.out hn2 hnj).mono ?_
            rintro e w4 ⟨rfl, q4, rfl⟩
            rw [sameY_refl]
            go_wp2_with fail
            refine (sameY_any (w := (w3.drewN (q + q4))) (HR3.out.drewN _) (HRJ0.out.drewN _) hn3 hnj).mono ?_
            rintro e w5 ⟨rfl, q5, rfl⟩
            rw [sameY_refl]
            go_wp2
            go_roundw
            case rel => exact ⟨j + 1, q + q4 + q5, by omega, by go_num, rfl⟩
            case measure => simp [intOf]; omega
          · go_wp2_with fail
            refine (sameY_any HR2.out HRJ.out hn2 hnj).mono ?_
            rintro e w4 ⟨rfl, q4, rfl⟩
            rw [sameY_refl]
            go_wp2
            go_roundw
            case rel => exact ⟨j + 1, q + q4, by omega, by go_num, rfl⟩
            case measure => simp [intOf]; omega
        · go_wp2
          go_ret
          exact ⟨rfl, below_drewN HB3.out q⟩
end Go.Proofs.Ytcbjneidjbfheaa
