/-
  Two lists of bytes, two lists of numbers: the document's comparisons, over this translation.
  CodeNumbers and CodeReads, over this translation.
  CodeReads, over this translation.
-/
import Derived.Test.YtolgmoaoheflcaaERefs
import Derived.RegionTactic
import Derived.Test.YtolgmoaoheflcaaYRow
namespace Go.Proofs.Ytolgmoaoheflcaa
section
open Go.RowKit
open ByteP
set_option linter.unusedVariables false
set_option maxRecDepth 10000

def sameY (xs ys : List Int) : Bool := decide (xs = ys)
theorem sameY_len {xs ys : List Int} (h : xs.length ≠ ys.length) : sameY xs ys = false := by
  unfold sameY; rw [decide_eq_false_iff_not]; rintro rfl; exact h rfl
theorem sameY_at {xs ys : List Int} {k : Nat} (h : ix xs k ≠ ix ys k) : sameY xs ys = false := by
  unfold sameY; rw [decide_eq_false_iff_not]; rintro rfl; exact h rfl
theorem sameY_all {xs ys : List Int} (hl : xs.length = ys.length) (h : ∀ j < xs.length, ix xs j = ix ys j) : sameY xs ys = true := by
  unfold sameY; rw [decide_eq_true_eq]; exact list_ext_ix hl h
theorem sameY_refl (xs : List Int) : sameY xs xs = true := by unfold sameY; simp

set_option maxHeartbeats 800000 in
theorem sameY_any {w : World} {B n m c d : Nat} {A D : Option Addr} {xs ys : List Int} (hx : RdY w B A n xs) (hy : RdY w B D m ys) (hn : n ≤ 9223372036854775807) (hm : m ≤ 9223372036854775807) :
    Calls Try.prog 19 #[.slice A n c, .slice D m d] w fun e w' => e = .returned (.bool (sameY xs ys)) ∧ ∃ q, w' = w.drewN q := by
  have HX := Lib.hid hx
  have HY := Lib.hid hy
  have HXL := Lib.hid hx.1
  have HYL := Lib.hid hy.1
  clear hx hy
  by_cases hnm : n = m
  · obtain rfl := hnm
    have HL : Hid (xs.length = ys.length) := Lib.hid (by rw [HXL.out, HYL.out])
    go_enter Try.func19, Try.ntmps19
    go_wp2
    go_loopw [5] (fun i wr => ∃ k q : Nat, k ≤ n ∧ i = .int .i64 k ∧ wr = w.drewN q ∧ Hid (∀ j < k, ix xs j = ix ys j)) (fun i _ => n - (intOf i).toNat)
    case atStart => exact ⟨0, 0, Nat.zero_le _, rfl, rfl, Lib.hid (fun j hj => absurd hj (by omega))⟩
    case round =>
      obtain ⟨k, q, hk, rfl, rfl, HA⟩ := hrel
      by_cases hlt : k < n
      · obtain ⟨b, off, rfl, hb, hc⟩ := HX.out.at_ hlt
        obtain ⟨b2, off2, rfl, hb2, hc2⟩ := HY.out.at_ hlt
        by_cases h : ix xs k = ix ys k
        · have hb : (ix xs k != ix ys k) = false := by simp [h]
          have hb' : (ix xs k == ix ys k) = true := by simp [h]
          have H := Lib.hid h
          clear h
          go_wp2
          go_region
          go_wp2
          go_roundw
          case rel => exact ⟨k + 1, q + 1, by omega, by go_num, rfl, Lib.hid (fun j hj => by
            by_cases hjk : j < k
            · exact HA.out j hjk
            · obtain rfl : j = k := by omega
              exact H.out)⟩
          case measure => simp [intOf]; omega
        · have hb : (ix xs k != ix ys k) = true := by simp [h]
          have hb' : (ix xs k == ix ys k) = false := by simp [h]
          have E := Lib.hid (sameY_at h)
          clear h
          go_wp2
          go_region
          go_wp2
          go_ret
          exact ⟨by rw [E.out]; rfl, q + 1, rfl⟩
      · have E := Lib.hid (sameY_all HL.out (fun j hj => HA.out j (by rw [HXL.out] at hj; omega)))
        go_wp2
        go_ret
        exact ⟨by rw [E.out]; rfl, q, rfl⟩
  · have E := Lib.hid (sameY_len (xs := xs) (ys := ys) (by rw [HXL.out, HYL.out]; exact hnm))
    have hb : ((n : Int) != (m : Int)) = true := by simp; omega
    have hb' : ((n : Int) == (m : Int)) = false := by simp; omega
    go_enter Try.func19, Try.ntmps19
    go_wp2
    go_ret
    exact ⟨by rw [E.out]; rfl, 0, rfl⟩
/-- The document's Ints: two slices of the same numbers. -/
theorem ints_yes {w : World} {B1 B2 n c1 c2 : Nat} {A1 A2 : Option Addr} {xs : List Int} (h1 : Rd w B1 A1 n xs) (h2 : Rd w B2 A2 n xs) (hn : n ≤ 1099511627776) :
    Calls Try.prog 28 #[.slice A1 n c1, .slice A2 n c2] w fun e w' => e = .returned (.bool true) ∧ w = w' := by
  have H1 := Lib.hid h1
  have H2 := Lib.hid h2
  clear h1 h2
  go_enter Try.func28, Try.ntmps28
  go_wp2
  obtain ⟨wo, HWO⟩ : ∃ wo : World, Hid (wo = w) := ⟨w, Lib.hid rfl⟩
  go_loopw [14] (fun i wr => ∃ j : Nat, j ≤ n ∧ i = .int .i64 (j : Int) ∧ Hid (wo = wr)) (fun i _ => n - (intOf i).toNat)
  case atStart => exact ⟨0, by omega, rfl, HWO⟩
  case round =>
    obtain ⟨j, hj, rfl, hw⟩ := hrel
    obtain rfl : w = wr := HWO.out.symm.trans hw.out
    by_cases hjn : j < n
    · have hd : decide ((j : Int) < (n : Int)) = true := by simp; omega
      obtain ⟨b1, o1, rfl, _, hc1⟩ := H1.out.at_ hjn
      obtain ⟨b2, o2, rfl, _, hc2⟩ := H2.out.at_ hjn
      have hi : (j : Int) < (n : Int) := by omega
      have hadd : IntKind.i64.wrap ((j : Int) + 1) = ((j + 1 : Nat) : Int) := by rw [IntWalk.i64_in _ (by omega)]; omega
      go_wp2
      go_roundw
      case rel => exact ⟨j + 1, by omega, rfl, hw⟩
      case measure => simp [intOf]; omega
    · have hd : decide ((j : Int) < (n : Int)) = false := by simp; omega
      go_wp2
      go_ret
      exact ⟨rfl, rfl⟩
end
section
open Go.RowKit
open ByteP CodeP
set_option linter.unusedVariables false
set_option maxRecDepth 10000

theorem capA_own {w : World} {base n c : Nat} {A : Option Addr} {xs : List Int} (h : OwnY w base (.slice A n c) n xs) : CapA A n c := by
  rcases h.2 with ⟨h0, h00⟩ | ⟨g, cap, cur, hv, _, _, hnc, hcm, _⟩
  · injection h0 with e1 e2 e3
    exact .inl ⟨e1, e2, e3⟩
  · injection hv with e1 e2 e3
    subst e3
    exact .inr ⟨_, e1, hnc, by unfold maxLen at hcm; omega⟩
theorem rdY_own {w : World} {base n c : Nat} {A : Option Addr} {xs : List Int} (h : OwnY w base (.slice A n c) n xs) : RdY w w.heap.size A n xs := RdY.of_own h
theorem good_list : ∀ {l : List Int}, bads l = false → ∃ ln : List Nat, l = casts ln ∧ (∀ n ∈ ln, n ≤ 1099511627776) ∧ outs l = encs ln
  | [], _ => ⟨[], rfl, (fun n h => by simp at h), rfl⟩
  | x :: l, h => by
    have e : bads (x :: l) = (!okI x || bads l) := by simp [bads]
    rw [e, Bool.or_eq_false_iff] at h
    obtain ⟨ln, h1, h2, h3⟩ := good_list h.2
    have hok : okI x = true := by simpa using h.1
    have hx := of_decide_eq_true hok
    refine ⟨x.toNat :: ln, ?_, ?_, ?_⟩
    · rw [h1]; simp [casts]; omega
    · intro n hn
      rcases List.mem_cons.1 hn with e | e
      · omega
      · exact h2 n e
    · have e2 : outs (x :: l) = outI x ++ outs l := by simp [outs]
      rw [e2, h3, encs_cons]
      congr 1
      unfold outI
      rw [if_pos hok]
theorem casts_good : ∀ {ln : List Nat}, (∀ n ∈ ln, n ≤ 1099511627776) → bads (casts ln) = false ∧ outs (casts ln) = encs ln
  | [], _ => ⟨rfl, rfl⟩
  | n :: ln, h => by
    obtain ⟨h1, h2⟩ := casts_good (ln := ln) (fun m hm => h m (by simp [hm]))
    have hn := h n (by simp)
    have e : casts (n :: ln) = (n : Int) :: casts ln := rfl
    have e1 : bads ((n : Int) :: casts ln) = (!okI n || bads (casts ln)) := by simp [bads]
    have e2 : outs ((n : Int) :: casts ln) = outI n ++ outs (casts ln) := by simp [outs]
    rw [e, e1, e2, h1, h2, okI_nat hn, outI_nat hn, encs_cons]
    exact ⟨rfl, rfl⟩
theorem all_anchor : all [1, 128, 0] = .inl 12 := by decide
theorem enc_anchor : enc 2 ++ outs [1, 128] = [2, 1, 128, 1] := by
  have h : ([1, 128] : List Int) = casts [1, 128] := rfl
  rw [h, (casts_good (ln := [1, 128]) (by intro n hn; simp at hn; omega)).2, encs_cons, encs_cons, encs_nil, enc_lt (by omega), enc_lt (by omega), enc_ge (by omega), enc_lt (by omega)]
  rfl
set_option maxHeartbeats 1000000 in
theorem anchorE_any (w : World) : Calls Try.prog 30 #[] w fun e w' => e = .returned (.bool true) ∧ Below w.heap.size w w' := by
  have HO1 := Lib.hid (Own.lit w w.heap.size [1, 128] (Nat.le_refl _) (by simp))
  have HB0 : Hid (Below w.heap.size w (w.alloc (.cells #[.int .i64 1, .int .i64 128] 3))) := Lib.hid ((Below.refl _ w).alloc (Nat.le_refl _) _)
  have HRD : Hid (Rd (w.alloc (.cells #[.int .i64 1, .int .i64 128] 3)) (w.heap.size + 1) (some ⟨w.heap.size, 0, none⟩) 2 [1, 128]) := Lib.hid (by
    have := Rd.of_own HO1.out
    simpa using this)
  have HP := Lib.hid (putN_any (c := 2) HRD.out (by simp) (by omega))
  clear HO1
  go_enter Try.func30, Try.ntmps30
  go_wp2_with fail
  refine HP.out.mono ?_
  rintro e w1 ⟨⟨A1, n1, c1, er, rfl, hend⟩, hb1⟩
  have hbad : bads [1, 128] = false := by decide
  rw [hbad] at hend
  obtain ⟨rfl, hown⟩ := hend.2 rfl
  rw [enc_anchor] at hown
  obtain ⟨A1', c1', e1, _⟩ := OwnY.shape hown
  injection e1 with e1 e2 e3
  subst e1 e2 e3
  have HO := Lib.hid hown
  have HB1 : Hid (Below w.heap.size w w1) := Lib.hid (HB0.out.trans (hb1.mono (by simp)))
  clear hown hend hb1 hbad HP
  have hz1 := HB1.out.size
  have HL := Lib.hid (OwnY.lit w1 w1.heap.size [1, 128, 0] (Nat.le_refl _) (by simp))
  have HG := Lib.hid (getN_any (rdY_own HL.out) (capA_own HL.out) (Nat.le_refl _) (by intro i; match i with | 0 => decide | 1 => decide | 2 => decide | i + 3 => simp [ix]) (by simp))
  go_wp2_with fail
  refine HG.out.mono ?_
  rintro e w2 ⟨A2, n2, c2, er, rfl, hg⟩
  rw [all_anchor] at hg
  obtain ⟨hb2, e2, rfl, _⟩ := hg
  injection e2 with e3 e4 e5
  subst e3 e4 e5
  have HB2 : Hid (Below w.heap.size w w2) := Lib.hid ((HB1.out.alloc hz1 _).trans (hb2.mono (by simp; omega)))
  have HO2 : Hid (OwnY w2 ((w.alloc (.cells #[.int .i64 1, .int .i64 128] 3)).heap.size + 1) (.slice A1 4 c1) 4 [2, 1, 128, 1]) := Lib.hid ((HO.out.alloc _).kept hb2)
  clear hb2 HG
  have hz2 := HB2.out.size
  have HL2 := Lib.hid (OwnY.lit w2 w2.heap.size [2, 1, 128, 1] (Nat.le_refl _) (by simp))
  have HS := Lib.hid (sameY_any (c := c1) (d := 4) (rdY_own (HO2.out.alloc (.cells (([2, 1, 128, 1] : List Int).map (Value.int .u8)).toArray 5))) (rdY_own HL2.out) (by simp) (by simp))
  go_wp2_with fail
  refine HS.out.mono ?_
  rintro e w3 ⟨rfl, q, rfl⟩
  rw [sameY_refl]
  have HB3 : Hid (Below w.heap.size w (w2.alloc (.cells (([2, 1, 128, 1] : List Int).map (Value.int .u8)).toArray 5))) := Lib.hid (HB2.out.alloc hz2 _)
  go_wp2
  go_ret
  exact ⟨rfl, ⟨HB3.out.os, HB3.out.tape, HB3.out.output, HB3.out.size, HB3.out.block⟩⟩
end
section
open Go.RowKit
open ByteP CodeP
set_option linter.unusedVariables false
set_option maxRecDepth 10000

theorem capA_of_row {w : World} {a : Option Addr} {len cap : Nat} {zs : List Int}
    (h : (a = none ∧ len = 0 ∧ cap = 0 ∧ zs = []) ∨ ∃ x, a = some x ∧ len ≤ cap ∧ cap ≤ maxLen ∧ zs.length = cap ∧ (∀ i, i < zs.length → w.cell? (x.add i) = some (.int .u8 (zs.getD i 0))) ∧ ∀ n ∈ zs, (Lit.int .u8 n).wf = true) : CapA a len cap := by
  rcases h with ⟨rfl, rfl, rfl, rfl⟩ | ⟨x, rfl, hl, hm, hz, hcell, hwz⟩
  · exact .inl ⟨rfl, rfl, rfl⟩
  · exact .inr ⟨x, rfl, hl, by unfold maxLen at hm; omega⟩
theorem all_of_lst {bs : List Int} {l : List Nat} (h : lst bs = .inr (l, [])) : all bs = .inr l := by unfold all; rw [h]; simp
theorem all_left {bs r : List Int} {l : List Nat} (h : lst bs = .inr (l, r)) (hr : r ≠ []) : all bs = .inl 12 := by unfold all; rw [h]; simp only; rw [if_neg hr]
theorem all_lst_err {bs : List Int} {e : Int} (h : lst bs = .inl e) : all bs = .inl e := by unfold all; rw [h]
end
end Go.Proofs.Ytolgmoaoheflcaa
