/-
  Ranges that are the same, or are not.
-/
import Derived.Test.YtmfoammkcokcoaaUCM
namespace Go.Proofs.Ytmfoammkcokcoaa
open Go.RowKit
open ByteP CodeP
set_option linter.unusedVariables false
set_option maxRecDepth 10000
theorem eqCompDec (op a b c op' a' b' c' : Int) (s s' : ByteArray) : ∃ bb : Bool, (∀ w, (Op.equalIn 10000 157 (.agg #[.int .i64 op, .int .i64 a, .int .i64 b, .int .i64 c, .string s]) (.agg #[.int .i64 op', .int .i64 a', .int .i64 b', .int .i64 c', .string s'])).run Try.prog w = .ok bb w) ∧ (bb = true ↔ (⟨op, a, b, c, s⟩ : CV) = ⟨op', a', b', c', s'⟩) := by
  by_cases h0 : op = op'
  · subst h0
    by_cases h1 : a = a'
    · subst h1
      by_cases h2 : b = b'
      · subst h2
        by_cases h3 : c = c'
        · subst h3
          by_cases h4 : s = s'
          · subst h4
            refine ⟨true, fun w => ?_, by simp⟩
            rw [show (10000 : Nat) = 9998 + 1 + 1 from rfl]
            go_simp
          · refine ⟨false, fun w => ?_, by simp [h4]⟩
            rw [show (10000 : Nat) = 9998 + 1 + 1 from rfl]
            go_simp
            exact fun e => h4 (toL_inj e)
        · refine ⟨false, fun w => ?_, by simp [h3]⟩
          rw [show (10000 : Nat) = 9998 + 1 + 1 from rfl]
          go_simp
      · refine ⟨false, fun w => ?_, by simp [h2]⟩
        rw [show (10000 : Nat) = 9998 + 1 + 1 from rfl]
        go_simp
    · refine ⟨false, fun w => ?_, by simp [h1]⟩
      rw [show (10000 : Nat) = 9998 + 1 + 1 from rfl]
      go_simp
  · refine ⟨false, fun w => ?_, by simp [h0]⟩
    rw [show (10000 : Nat) = 9998 + 1 + 1 from rfl]
    go_simp
theorem eqVerDec (a b c a' b' c' : Int) (s s' : ByteArray) : ∃ bb : Bool, (∀ w, (Op.equalIn 10000 99 (.agg #[.int .i64 a, .int .i64 b, .int .i64 c, .string s]) (.agg #[.int .i64 a', .int .i64 b', .int .i64 c', .string s'])).run Try.prog w = .ok bb w) ∧ (bb = true ↔ a = a' ∧ b = b' ∧ c = c' ∧ s = s') := by
    by_cases h1 : a = a'
    · subst h1
      by_cases h2 : b = b'
      · subst h2
        by_cases h3 : c = c'
        · subst h3
          by_cases h4 : s = s'
          · subst h4
            refine ⟨true, fun w => ?_, by simp⟩
            rw [show (10000 : Nat) = 9998 + 1 + 1 from rfl]
            go_simp
          · refine ⟨false, fun w => ?_, by simp [h4]⟩
            rw [show (10000 : Nat) = 9998 + 1 + 1 from rfl]
            go_simp
            exact fun e => h4 (toL_inj e)
        · refine ⟨false, fun w => ?_, by simp [h3]⟩
          rw [show (10000 : Nat) = 9998 + 1 + 1 from rfl]
          go_simp
      · refine ⟨false, fun w => ?_, by simp [h2]⟩
        rw [show (10000 : Nat) = 9998 + 1 + 1 from rfl]
        go_simp
    · refine ⟨false, fun w => ?_, by simp [h1]⟩
      rw [show (10000 : Nat) = 9998 + 1 + 1 from rfl]
      go_simp
theorem ext_d {α : Type} {l1 l2 : List α} {d : α} (h : l1.length = l2.length) (h2 : ∀ i, i < l1.length → l1.getD i d = l2.getD i d) : l1 = l2 := by
  refine List.ext_getElem h fun i h3 h4 => ?_
  have := h2 i h3
  simpa [List.getD, h3, h4] using this
theorem Below.drewN' {B : Nat} {w w' : World} (h : Below B w w') (k : Nat) : Below B w (w'.drewN k) := ⟨h.os, h.tape, h.output, h.size, h.block⟩
theorem bool_no {bb : Bool} {p : Prop} (h : bb = true ↔ p) (hp : ¬p) : bb = false := by cases bb <;> simp_all
set_option maxHeartbeats 8000000 in
theorem ranged_any {w : World} {B n m c1 c2 : Nat} {A1 A2 : Option Addr} {r1 r2 : List (List CV)} (h1 : RdR w B A1 n r1) (h2 : RdR w B A2 m r2) (hB : B ≤ w.heap.size) (hs : SmR r1) (hs2 : SmR r2) :
    ∃ bb : Bool, (bb = true ↔ r1 = r2) ∧ Calls Try.prog 42 #[.agg #[.slice A1 n c1], .agg #[.slice A2 m c2]] w fun e w' => e = .returned (.bool bb) ∧ Below w.heap.size w w' := by
  obtain ⟨bb, hbb⟩ : ∃ bb : Bool, (bb = true ↔ r1 = r2) := by classical exact ⟨decide (r1 = r2), by simp⟩
  refine ⟨bb, hbb, ?_⟩
  have HBB := Lib.hid hbb
  clear hbb
  obtain ⟨W, hW⟩ : ∃ W, W = (w.alloc (.cells #[.slice A1 n c1] 110)).alloc (.cells #[.slice A2 m c2] 110) := ⟨_, rfl⟩
  have hbl : Below w.heap.size w W := by rw [hW]; exact ((Below.refl _ w).alloc (Nat.le_refl _) _).alloc (by simp) _
  have hz : W.heap.size = w.heap.size + 2 := by rw [hW]; simp
  have h0 : W.heap[w.heap.size]? = some (.cells #[.slice A1 n c1] 110 (0, 0)) := by
    rw [hW, Below.heap_alloc _ _ _ (by simp)]; exact heap_alloc_new w _
  have h3 : W.heap[w.heap.size + 1]? = some (.cells #[.slice A2 m c2] 110 (0, 0)) := by
    rw [hW]
    have h := heap_alloc_new (w.alloc (.cells #[.slice A1 n c1] 110)) (.cells #[.slice A2 m c2] 110)
    rw [World.size_alloc] at h; exact h
  have HBL := Lib.hid hbl
  have H0 := Lib.hid h0
  have H3 := Lib.hid h3
  have HW := Lib.hid hW
  have HR1 : Hid (RdR W B A1 n r1) := Lib.hid (h1.below (hbl.mono hB))
  have HR2 : Hid (RdR W B A2 m r2) := Lib.hid (h2.below (hbl.mono hB))
  have HLN := Lib.hid h1.1
  have HLM := Lib.hid h2.1
  have HS := Lib.hid hs
  have HS2 := Lib.hid hs2
  have hn : n ≤ 12 := by have := h1.1; have := hs.1; omega
  clear hbl h0 h3 hW h1 h2 hs hs2
  go_enter Try.func42, Try.ntmps42
  go_upto_region 1 with fail
  change Code.wp _ _ _ _ ((w.alloc (.cells #[.slice A1 n c1] 110)).alloc (.cells #[.slice A2 m c2] 110))
  rw [← HW.out]
  obtain ⟨a0, _⟩ := row1f H0.out
  obtain ⟨a3, _⟩ := row1f H3.out
  by_cases hnm : n = m
  · subst hnm
    go_wp2_with fail
    go_loopw [5, 6, 7, 8, 19] (fun _ _ _ _ v wr => ∃ j : Nat, j ≤ n ∧ v = .int .i64 (j : Int) ∧ Hid (Below W.heap.size W wr) ∧ Hid (∀ i, i < j → lsAt r1 i = lsAt r2 i)) (fun _ _ _ _ v _ => n - (intOf v).toNat)
    case atStart => exact ⟨0, Nat.zero_le _, rfl, Lib.hid (Below.refl _ _), Lib.hid (fun i hi => absurd hi (Nat.not_lt_zero i))⟩
    case round =>
      obtain ⟨wo, hwo⟩ : ∃ x, x = wr := ⟨_, rfl⟩
      subst hwo
      obtain ⟨j, hj, rfl, HB, HEQ⟩ := hrel
      have hzo := HB.out.size
      clear a0 a3
      obtain ⟨a3, _⟩ := row1f ((HB.out.block (w.heap.size + 1) (by omega)).trans H3.out)
      by_cases hjn : j < n
      · have hd : decide ((j : Int) < (n : Int)) = true := by simp; omega
        have hi : (j : Int) < (n : Int) := by omega
        have hadd : IntKind.i64.wrap ((j : Int) + 1) = ((j + 1 : Nat) : Int) := by rw [IntWalk.i64_in _ (by omega)]; omega
        have hjl : j < r1.length := by rw [HLN.out]; exact hjn
        have hsj := HS.out.2 _ (lsAt_mem hjl)
        obtain ⟨b1, o1, Aj, nj, cj, rfl, hb1, k0, k1⟩ := (HR1.out.below (HB.out.mono (by omega))).2 j hjn
        obtain ⟨b2, o2, Ak, nk, ck, rfl, hb2, k2, k3⟩ := (HR2.out.below (HB.out.mono (by omega))).2 j hjn
        obtain ⟨x, HX⟩ : ∃ x, Hid (lsAt r1 j = x) := ⟨_, Lib.hid rfl⟩
        obtain ⟨y, HY⟩ : ∃ y, Hid (lsAt r2 j = y) := ⟨_, Lib.hid rfl⟩
        rw [HX.out] at k1 hsj
        rw [HY.out] at k3
        have HNEX : Hid (x ≠ y → bb = false) := Lib.hid (fun hxy => bool_no HBB.out (fun e => hxy (by rw [← HX.out, ← HY.out, e])))
        have hnj : nj ≤ 12 := by have h1 := k1.1; have h2 := hsj.1; omega
        have HC1 := Lib.hid k1
        have HC2 := Lib.hid k3
        have HK2 : Hid (∀ w', Below W.heap.size wo w' → w'.cell? ⟨b2, o2 + j, none⟩ = some (.slice Ak nk ck)) := Lib.hid (fun w' hb => (hb.cell (p := ⟨b2, o2 + j, none⟩) (by show b2 < W.heap.size; omega)).trans k2)
        clear k1 k3 hsj
        by_cases hnk : nj = nk
        · subst hnk
          go_wp2_with fail
          go_loopw [7, 8, 35] (fun _ _ v wr => ∃ k : Nat, k ≤ nj ∧ v = .int .i64 (k : Int) ∧ Hid (Below W.heap.size wo wr) ∧ Hid (∀ i, i < k → cvAt x i = cvAt y i)) (fun _ _ v _ => nj - (intOf v).toNat)
          case atStart => exact ⟨0, Nat.zero_le _, rfl, Lib.hid (Below.refl _ _), Lib.hid (fun i hi => absurd hi (Nat.not_lt_zero i))⟩
          case round =>
            obtain ⟨k, hk, rfl, HBk, HEK⟩ := hrel
            have hzk := HBk.out.size
            clear a3 k0 k2
            by_cases hkn : k < nj
            · have hd2 : decide ((k : Int) < (nj : Int)) = true := by simp; omega
              have hi2 : (k : Int) < (nj : Int) := by omega
              have hadd2 : IntKind.i64.wrap ((k : Int) + 1) = ((k + 1 : Nat) : Int) := by rw [IntWalk.i64_in _ (by omega)]; omega
              obtain ⟨b3, o3, rfl, hb3, p0, p1, p2, p3, p4⟩ := (HC1.out.below (HBk.out.mono (by omega))).2 k hkn
              obtain ⟨y1, HY1⟩ : ∃ y1, Hid (cvAt x k = y1) := ⟨_, Lib.hid rfl⟩
              rw [HY1.out] at p0 p1 p2 p3 p4
              obtain ⟨X, HXX⟩ : ∃ X, Hid (X = wr.alloc (ccell 157 y1.op y1.a y1.b y1.c y1.s)) := ⟨_, Lib.hid rfl⟩
              have hbX : Below W.heap.size wr X := by rw [HXX.out]; exact (Below.refl _ wr).alloc (by omega) _
              have HBX := Lib.hid (HBk.out.trans hbX)
              obtain ⟨b4, o4, rfl, hb4, q0, q1, q2, q3, q4⟩ := (HC2.out.below (HBX.out.mono (by omega))).2 k hkn
              obtain ⟨y2, HY2⟩ : ∃ y2, Hid (cvAt y k = y2) := ⟨_, Lib.hid rfl⟩
              rw [HY2.out] at q0 q1 q2 q3 q4
              have hX0 : X.heap[wr.heap.size]? = some (ccell 157 y1.op y1.a y1.b y1.c y1.s) := by rw [HXX.out]; exact heap_new wr _
              obtain ⟨x0, x1, x2, x3, x4, _⟩ := cc_cells hX0
              have t3 := (row1f ((HBX.out.block (w.heap.size + 1) (by omega)).trans ((HB.out.block (w.heap.size + 1) (by omega)).trans H3.out))).1
              have u2 := HK2.out X HBX.out
              obtain ⟨op, a, b, c, s⟩ := y1
              obtain ⟨op', a', b', c', s'⟩ := y2
              obtain ⟨eb, heb, heq⟩ := eqCompDec op a b c op' a' b' c' s s'
              have HEB := Lib.hid heq
              simp only at p0 p1 p2 p3 p4 q0 q1 q2 q3 q4 x0 x1 x2 x3 x4
              clear hX0 hbX heq
              go_upto_region 11 with fail
              change Code.wp _ _ _ _ (wr.alloc (ccell 157 op a b c s))
              rw [← HXX.out]
              clear p0 p1 p2 p3 p4
              cases eb with
              | true =>
                have HNW : Hid (∀ i, i < k + 1 → cvAt x i = cvAt y i) := Lib.hid (fun i hi => by
                  rcases Nat.lt_succ_iff_lt_or_eq.1 hi with h | h
                  · exact HEK.out i h
                  · rw [h, HY1.out, HY2.out]; exact HEB.out.1 rfl)
                go_wp2_with fail
                go_quiet (fail)
                clear x0 x1 x2 x3 x4 q0 q1 q2 q3 q4 t3 u2 heb
                go_wp2_with fail
                go_roundw
                case rel => exact ⟨k + 1, by omega, by go_num, Lib.hid (Below.drewN' HBX.out _), HNW⟩
                case measure => simp [intOf]; omega
              | false =>
                have HNO : Hid (bb = false) := Lib.hid (HNEX.out (fun e => by
                  have h := HEB.out.2 (by rw [← HY1.out, ← HY2.out, e])
                  cases h))
                go_wp2_with fail
                go_quiet (fail)
                clear x0 x1 x2 x3 x4 q0 q1 q2 q3 q4 t3 u2 heb
                go_wp2_with fail
                go_ret
                exact ⟨by rw [HNO.out]; rfl, HBL.out.trans ((HB.out.trans (Below.drewN' HBX.out _)).mono (by omega))⟩
            · have hd2 : decide ((k : Int) < (nj : Int)) = false := by simp; omega
              obtain rfl : k = nj := by omega
              have HNW : Hid (∀ i, i < j + 1 → lsAt r1 i = lsAt r2 i) := Lib.hid (fun i hi => by
                rcases Nat.lt_succ_iff_lt_or_eq.1 hi with h | h
                · exact HEQ.out i h
                · rw [h, HX.out, HY.out]
                  exact ext_d (HC1.out.1.trans HC2.out.1.symm) (fun i hi => HEK.out i (by rw [← HC1.out.1]; exact hi)))
              go_wp2_with fail
              go_roundw
              case rel => exact ⟨j + 1, by omega, by go_num, Lib.hid (HB.out.trans HBk.out), HNW⟩
              case measure => simp [intOf]; omega
        · have hne : ¬((nj : Int) = (nk : Int)) := by omega
          have HNO : Hid (bb = false) := Lib.hid (HNEX.out (fun e => hnk (by rw [← HC1.out.1, ← HC2.out.1, e])))
          go_wp2_with fail
          go_ret
          exact ⟨by rw [HNO.out]; rfl, HBL.out.trans (HB.out.mono (by omega))⟩
      · have hd : decide ((j : Int) < (n : Int)) = false := by simp; omega
        have HYS : Hid (bb = true) := Lib.hid (HBB.out.2 (ext_d (HLN.out.trans HLM.out.symm) (fun i hi => HEQ.out i (by have := HLN.out; omega))))
        go_wp2_with fail
        go_ret
        exact ⟨by rw [HYS.out]; rfl, HBL.out.trans (HB.out.mono (by omega))⟩
  · have hne : ¬((n : Int) = (m : Int)) := by omega
    have HNO : Hid (bb = false) := Lib.hid (bool_no HBB.out (fun e => hnm (by rw [← HLN.out, ← HLM.out, e])))
    go_wp2_with fail
    go_ret
    exact ⟨by rw [HNO.out]; rfl, HBL.out⟩
end Go.Proofs.Ytmfoammkcokcoaa
