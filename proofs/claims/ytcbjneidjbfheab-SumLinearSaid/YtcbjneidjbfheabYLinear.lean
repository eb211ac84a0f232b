/-
  THE WALK of the statement SumLinear: whatever the three texts, the call returns true and writes nothing that was there.
-/
import Derived.Test.YtcbjneidjbfheabYAnchor
import Derived.Test.YtcbjneidjbfheabYLin
import Derived.BigRegion
namespace Go.Proofs.Ytcbjneidjbfheab
open Go.RowKit
open ByteP
set_option linter.unusedVariables false

theorem IntKind.wrap_i64s {n : Int} (h0 : 0 ≤ n) (h1 : n ≤ 9223372036854775807) : IntKind.i64.wrap n = n := by
  simp only [IntKind.wrap, IntKind.bits, IntKind.signed]
  simp
  omega
theorem ofInt_i64 (a : Nat) (ha : a < 4294967296) : (BitVec.ofInt 64 (a : Int)).toNat = a := by
  rw [BitVec.ofInt_natCast, BitVec.toNat_ofNat]; exact Nat.mod_eq_of_lt (by omega)
theorem xor_i64 (x y : Nat) (hx : x < 4294967296) (hy : y < 4294967296) : bits .xor .i64 (x : Int) (y : Int) = ((x ^^^ y : Nat) : Int) := by
  have hl : x ^^^ y < 2 ^ 32 := Nat.xor_lt_two_pow (by omega) (by omega)
  show IntKind.i64.wrap ((BitVec.ofInt 64 (x : Int) ^^^ BitVec.ofInt 64 (y : Int)).toNat : Int) = _
  rw [BitVec.toNat_xor, ofInt_i64 x hx, ofInt_i64 y hy]
  exact IntKind.wrap_i64s (by omega) (by omega)

theorem of_one {w : World} {B n c : Nat} {A : Option Addr} {xs : List Int} (h0 : RdY w B A n xs) (b0 : Bytes xs) (hB : B ≤ w.heap.size) (l0 : n ≤ 9223372036854775807) :
    Calls Try.prog 12 #[.slice (some ⟨w.heap.size, 0, none⟩) 1 1] (w.alloc (.cells #[.slice A n c] 22)) fun e w' => e = .returned (.int .i64 (moreN 0 xs)) ∧ w.alloc (.cells #[.slice A n c] 22) = w' :=
  of_any (Rd2.lit1 h0 b0 hB l0) (by omega)

/-- What k rounds have made of the fourth text. -/
def LinTo (xs bs cs ys : List Int) (k : Nat) : Prop := ys.length = xs.length ∧ ∀ j < k, ix ys j = ix (xor3 xs bs cs) j
theorem LinTo.done {xs bs cs ys : List Int} (hb : bs.length = xs.length) (hc : cs.length = xs.length) (h : LinTo xs bs cs ys xs.length) : ys = xor3 xs bs cs :=
  list_ext_ix (by rw [h.1, xor3_length xs bs cs hb hc]) fun i hi => h.2 i (by rw [h.1] at hi; exact hi)

theorem xor3_bytes {xs bs cs : List Int} (hb : bs.length = xs.length) (hc : cs.length = xs.length) (b1 : Bytes xs) (b2 : Bytes bs) (b3 : Bytes cs) : Bytes (xor3 xs bs cs) := by
  intro i
  by_cases hi : i < xs.length
  · rw [xor3_ix xs bs cs hb hc i hi]
    have h1 := b1 i
    have h2 := b2 i
    have h3 := b3 i
    have hl : ((ix xs i).toNat ^^^ (ix bs i).toNat) ^^^ (ix cs i).toNat < 2 ^ 8 := Nat.xor_lt_two_pow (Nat.xor_lt_two_pow (by omega) (by omega)) (by omega)
    omega
  · have : (xor3 xs bs cs)[i]? = none := by rw [List.getElem?_eq_none]; rw [xor3_length xs bs cs hb hc]; omega
    unfold ix; simp [List.getD, this]

set_option maxHeartbeats 3200000 in
theorem law_linear {w : World} {n m o ca cb cc : Nat} {A D E : Option Addr} {xs bs cs : List Int} (ha : RdY w w.heap.size A n xs) (hb : RdY w w.heap.size D m bs) (hc : RdY w w.heap.size E o cs)
    (ba : Bytes xs) (bb : Bytes bs) (bc : Bytes cs) (hn : n ≤ 9223372036854775807) (hm : m ≤ 9223372036854775807) (ho : o ≤ 9223372036854775807) :
    Calls Try.prog 4 #[.slice A n ca, .slice D m cb, .slice E o cc] w fun e w' => e = .returned (.bool true) ∧ Below w.heap.size w w' := by
  have HX := Lib.hid ha
  have HY := Lib.hid hb
  have HZ := Lib.hid hc
  have HBX := Lib.hid ba
  have HBY := Lib.hid bb
  have HBZ := Lib.hid bc
  clear ha hb hc ba bb bc
  by_cases h1 : 2000 < n
  · go_enter Try.func4, Try.ntmps4
    go_wp2_with (go_at_call 11; refine (anchor_any _).mono ?_; rintro e w1 ⟨rfl, hbel⟩; (have HB := Lib.hid hbel); clear hbel)
    go_ret
    exact ⟨rfl, HB.out⟩
  · by_cases h2 : m = n
    · by_cases h3 : o = n
      · subst h2 h3
        have hne : ((o : Int) != (o : Int)) = false := by simp
        have HLB : Hid (bs.length = xs.length) := Lib.hid (by rw [HY.out.1, HX.out.1])
        have HLC : Hid (cs.length = xs.length) := Lib.hid (by rw [HZ.out.1, HX.out.1])
        go_enter Try.func4, Try.ntmps4
        go_wp2_with (first
          | (go_at_call 11; refine (anchor_any _).mono ?_; rintro e w1 ⟨rfl, hbel⟩; (have HB := Lib.hid hbel); (have hs1 : w.heap.size ≤ w1.heap.size := hbel.size); clear hbel)
          | (at_make; refine wplY_make rfl _ _ rfl w1.heap.size o rfl rfl (by omega) (Nat.le_refl _) ?_; intro w2 hown hg))
        have hbel2 : Below w1.heap.size w1 w2 := (Below.refl _ _).grown hg (Nat.le_refl _) (fun _ h => by cases h)
        have HB2 : Hid (Below w.heap.size w w2) := Lib.hid (HB.out.trans (hbel2.mono hs1))
        have HO := Lib.hid hown
        obtain ⟨g, hgg⟩ : ∃ g, g = w1.heap.size := ⟨_, rfl⟩
        have hgw : w.heap.size ≤ g := by omega
        rw [← hgg] at HO hs1 ⊢
        clear hown hg hbel2 hgg HB
        go_loopw [33] (fun i wr => ∃ (k : Nat) (ys : List Int), k ≤ o ∧ i = .int .i64 k ∧ Hid (LinTo xs bs cs ys k) ∧ Hid (OwnY wr g (.slice (some ⟨g, 0, none⟩) o o) o ys) ∧ Hid (Below w.heap.size w wr))
          (fun i _ => (o - intOf i).toNat)
        case atStart => exact ⟨0, _, by omega, rfl, Lib.hid ⟨by rw [List.length_replicate, HX.out.1], fun j hj => absurd hj (by omega)⟩, HO, HB2⟩
        case round =>
          clear HO HB2
          obtain ⟨k, ys, hk, rfl, HL, HO, HB⟩ := hrel
          by_cases hlt : k < o
          · obtain ⟨b1, o1, rfl, hb1, hc1⟩ := (HX.out.below HB.out).at_ hlt
            obtain ⟨b2, o2, rfl, hb2, hc2⟩ := (HY.out.below HB.out).at_ hlt
            obtain ⟨b3, o3, rfl, hb3, hc3⟩ := (HZ.out.below HB.out).at_ hlt
            have c1 := HO.out.cell hlt
            have f1 := HO.out.free k
            have E : Hid (bits .xor .u8 (bits .xor .u8 (ix xs k) (ix bs k)) (ix cs k) = ix (xor3 xs bs cs) k) := Lib.hid (by
              have i1 := HBX.out k
              have i2 := HBY.out k
              have i3 := HBZ.out k
              have hl : (ix xs k).toNat ^^^ (ix bs k).toNat < 2 ^ 8 := Nat.xor_lt_two_pow (by omega) (by omega)
              rw [u8_xor (ix xs k) (ix bs k) (by omega) (by omega) (by omega) (by omega), u8_xor _ (ix cs k) (by omega) (by omega) (by omega) (by omega), Int.toNat_natCast, xor3_ix xs bs cs HLB.out HLC.out k (by rw [HX.out.1]; exact hlt)])
            go_wp2
            go_region
            go_wp2
            go_roundw
            case rel =>
              refine ⟨k + 1, ys.set k (ix (xor3 xs bs cs) k), by omega, by go_num, Lib.hid ⟨by simp [HL.out.1], fun j hj => ?_⟩, Lib.hid ?_, Lib.hid ?_⟩
              · rw [ix_set _ _ _ _ (by rw [HL.out.1, HX.out.1]; exact hlt)]
                by_cases hjk : k = j
                · subst hjk; rw [if_pos rfl]
                · rw [if_neg hjk]; exact HL.out.2 j (by omega)
              · rw [← E.out]; exact (HO.out.store k _).drew
              · exact (HB.out.setCell hgw _).drew
            case measure => simp [intOf]; omega
          · have hko : k = o := by omega
            have HF : Hid (ys = xor3 xs bs cs) := Lib.hid (LinTo.done HLB.out HLC.out (by rw [HX.out.1, ← hko]; exact HL.out))
            clear hko
            have hsr := HB.out.size
            have HR := Lib.hid (OwnY.rd HO.out (Below.refl _ _))
            have HBY0 : Hid (Bytes ys) := Lib.hid (by rw [HF.out]; exact xor3_bytes HLB.out HLC.out HBX.out HBY.out HBZ.out)
            go_wp2_with fail
            refine (of_one HR.out HBY0.out (Nat.le_refl _) hn).mono ?_
            rintro e w3 ⟨rfl, rfl⟩
            have HB3 := Lib.hid (HB.out.alloc hsr (.cells #[.slice (some ⟨g, 0, none⟩) o o] 22))
            generalize (wr.alloc (.cells #[.slice (some ⟨g, 0, none⟩) o o] 22)) = w3 at HB3 ⊢
            have HX3 := Lib.hid (HX.out.below HB3.out)
            have hs3 := HB3.out.size
            go_wp2_with fail
            refine (of_one HX3.out HBX.out hs3 hn).mono ?_
            rintro e w4 ⟨rfl, rfl⟩
            have HB4 := Lib.hid (HB3.out.alloc hs3 (.cells #[.slice A o ca] 22))
            generalize (w3.alloc (.cells #[.slice A o ca] 22)) = w4 at HB4 ⊢
            have HY4 := Lib.hid (HY.out.below HB4.out)
            have hs4 := HB4.out.size
            go_wp2_with fail
            refine (of_one HY4.out HBY.out hs4 hn).mono ?_
            rintro e w5 ⟨rfl, rfl⟩
            have HB5 := Lib.hid (HB4.out.alloc hs4 (.cells #[.slice D o cb] 22))
            generalize (w4.alloc (.cells #[.slice D o cb] 22)) = w5 at HB5 ⊢
            have HZ5 := Lib.hid (HZ.out.below HB5.out)
            have hs5 := HB5.out.size
            go_wp2_with fail
            refine (of_one HZ5.out HBZ.out hs5 hn).mono ?_
            rintro e w6 ⟨rfl, rfl⟩
            have HB6 := Lib.hid (HB5.out.alloc hs5 (.cells #[.slice E o cc] 22))
            have HV : Hid (bits .xor .i64 (bits .xor .i64 (moreN 0 xs : Int) (moreN 0 bs : Int)) (moreN 0 cs : Int) = ((moreN 0 ys : Nat) : Int)) := Lib.hid (by
              have l1 := moreN_lt 0 (by omega) HBX.out
              have l2 := moreN_lt 0 (by omega) HBY.out
              have l3 := moreN_lt 0 (by omega) HBZ.out
              rw [xor_i64 _ _ l1 l2, xor_i64 _ _ (Nat.xor_lt_two_pow (n := 32) l1 l2) l3, HF.out, more_xor3 xs bs cs HLB.out HLC.out])
            go_wp2
            go_ret
            exact ⟨by rw [HV.out]; simp, HB6.out⟩
      · have hne : ((n : Int) != (n : Int)) = false := by simp
        have hne2 : ((o : Int) != (n : Int)) = true := by simp; omega
        subst h2
        go_enter Try.func4, Try.ntmps4
        go_wp2_with (go_at_call 11; refine (anchor_any _).mono ?_; rintro e w1 ⟨rfl, hbel⟩; (have HB := Lib.hid hbel); clear hbel)
        go_ret
        exact ⟨rfl, HB.out⟩
    · have hne2 : ((m : Int) != (n : Int)) = true := by simp; omega
      go_enter Try.func4, Try.ntmps4
      go_wp2_with (go_at_call 11; refine (anchor_any _).mono ?_; rintro e w1 ⟨rfl, hbel⟩; (have HB := Lib.hid hbel); clear hbel)
      go_ret
      exact ⟨rfl, HB.out⟩
end Go.Proofs.Ytcbjneidjbfheab
