/-
  MERGED: CNd CNs.
-/
import Derived.Test.YtlodledcglleiaaGreatCSx
import Derived.Laws.EntriesVeiled
namespace Go.Proofs.YtlodledcglleiaaGreat
open Go.RowKit
open SemP
set_option linter.unusedVariables false
set_option linter.unusedSimpArgs false
set_option maxRecDepth 10000
theorem isService_any {w : World} {n c : Nat} {x : Int} {A : Option Addr} :
    Calls Tryz.prog 30 #[.agg #[.slice A n c], .int .i64 x] w fun e w' => e = .returned (.bool (decide (0 ≤ x) && decide (x < (n : Int)))) ∧ Below w.heap.size w w' := by
  have HB : Hid (Below w.heap.size w (w.alloc (.cells #[.slice A n c] 24))) := Lib.hid ((Below.refl _ w).alloc (Nat.le_refl _) _)
  by_cases h : 0 ≤ x
  · have d1 : decide (0 ≤ x) = true := decide_eq_true h
    have HD : Hid ((decide (0 ≤ x) && decide (x < (n : Int))) = decide (x < (n : Int))) := Lib.hid (by rw [d1]; rfl)
    rw [HD.out]
    go_enter Tryz.func30, Tryz.ntmps30
    go_wp2
    refine bodyPost_ret (results_tmp rfl _ _ _) rfl ⟨rfl, HB.out⟩
  · have d1 : decide (0 ≤ x) = false := decide_eq_false h
    have HD : Hid ((decide (0 ≤ x) && decide (x < (n : Int))) = false) := Lib.hid (by rw [d1]; rfl)
    rw [HD.out]
    go_enter Tryz.func30, Tryz.ntmps30
    go_wp2
    refine bodyPost_ret (results_tmp rfl _ _ _) rfl ⟨rfl, HB.out⟩
/-- other.Service == need.Service. -/
theorem sameNeed_any {w : World} {W : World} {g : Nat} {s t : Int} {v1 v2 : Value} {T : TypeId} (hk : w.heap[g]? = some (.cells #[.int .i64 s, v2] T (0, 0))) (hb : Below w.heap.size w W) :
    Calls Tryz.prog 103 #[.agg #[.int .i64 t, v1], .pointer (some ⟨g, 0, none⟩)] W fun e w' => e = .returned (.bool (decide (t = s))) ∧ Below w.heap.size w w' := by
  have hg : g < w.heap.size := heapE_lt hk
  obtain ⟨k0, k1, _, _⟩ := row2 ((hb.block g hg).trans hk)
  have hne : g ≠ W.heap.size := by have := hb.size; omega
  have hgW : g < W.heap.size := by have := hb.size; omega
  have HX : Hid (Below w.heap.size w (W.alloc (.cells #[.int .i64 t, v1] 96))) := Lib.hid (hb.alloc hb.size _)
  clear hk hb
  by_cases h : t = s
  · subst h
    have HD : Hid (decide (t = t) = true) := Lib.hid (by simp)
    go_enter Tryz.func103, Tryz.ntmps103
    go_wp2_with fail
    go_ret
    exact ⟨congrArg (fun b => Ending.returned (.bool b)) HD.out.symm, HX.out⟩
  · have HD : Hid (decide (t = s) = false) := Lib.hid (decide_eq_false h)
    have h3 : (t == s) = false := by rw [beq_eq_false_iff_ne]; exact h
    go_enter Tryz.func103, Tryz.ntmps103
    go_wp2_with fail
    go_ret
    exact ⟨congrArg (fun b => Ending.returned (.bool b)) HD.out.symm, HX.out⟩
theorem enters_sameNeed : ∀ args w, (callFunc 103 args).run Tryz.prog w = .ok (.enter 103 args) w := enters_of Tryz.func103 (by kernel_rfl) rfl
theorem RdJ.below' {α : Type} [Inhabited α] {z : Nat} {I : ItT α} (hI : Turns I) {w w' : World} {B : Nat} {A : Option Addr} {n : Nat} {l : List α} (h : RdJ z I w (fun b => B ≤ b) A n l) (hB : B ≤ w.heap.size) (hb : Below w.heap.size w w') : RdJ z I w' (fun b => B ≤ b) A n l := RdJ.below hI h (hb.mono hB)
set_option maxHeartbeats 8000000 in
theorem checkNeeds_any {w : World} {B n c i m c2 : Nat} {A A2 : Option Addr} {l : List Sv} {nds : List Nd} (h : CatAt w B A n c l) (hi : i < 100) (hnd : RdJ 2 pnI w (fun b => B ≤ b) A2 m nds) (hc2 : CapA A2 m c2) (hm : m ≤ 12) (hs : ∀ p ∈ nds, SmR p.2) :
    Calls Tryz.prog 77 #[.agg #[.slice A n c], .int .i64 (i : Int), .slice A2 m c2] w fun e w' => e = .returned (.int .i64 (needsE n i nds)) ∧ Below w.heap.size w w' := by
  have HND := Lib.hid hnd
  have HNL : Hid (nds.length = m) := Lib.hid hnd.1
  have HS := Lib.hid hs
  have hbl : Below w.heap.size w (w.alloc (.cells #[.slice A n c] 24)) := (Below.refl _ w).alloc (Nat.le_refl _) _
  have HA := Lib.hid h
  have hn16 := h.n16
  have hle := h.le
  have hz0 : (w.alloc (.cells #[.slice A n c] 24)).heap.size = w.heap.size + 1 := by simp
  have H0 : Hid ((w.alloc (.cells #[.slice A n c] 24)).heap[w.heap.size]? = some (.cells #[.slice A n c] 24 (0, 0))) := Lib.hid (heap_new w _)
  have HBL := Lib.hid hbl
  clear hbl h hnd hs
  go_enter Tryz.func77, Tryz.ntmps77
  go_wp2_with fail
  generalize hW0 : w.alloc (.cells #[.slice A n c] 24) = W0 at *
  clear hW0
  go_loopw [7, 8, 9, 12] (fun _ _ _ v wr => ∃ k : Nat, k ≤ m ∧ v = .int .i64 (k : Int) ∧ Hid (Below W0.heap.size W0 wr) ∧ Hid (∀ j, j < k → badI (needE n i nds j) = false)) (fun _ _ _ v _ => m - (intOf v).toNat)
  case atStart => exact ⟨0, Nat.zero_le _, rfl, Lib.hid (Below.refl _ _), Lib.hid (fun j h => absurd h (by omega))⟩
  case round =>
    obtain ⟨wo, hwo⟩ : ∃ x, x = wr := ⟨_, rfl⟩
    subst hwo
    obtain ⟨k, hk, rfl, HR, HOK⟩ := hrel
    have hzr := HR.out.size
    have HBR : Hid (Below w.heap.size w wo) := Lib.hid (HBL.out.trans (HR.out.mono (by omega)))
    by_cases hkm : k < m
    · have hd : decide ((k : Int) < (m : Int)) = true := by simp; omega
      have hki : (k : Int) < (m : Int) := by omega
      have hadd : IntKind.i64.wrap ((k : Int) + 1) = ((k + 1 : Nat) : Int) := by rw [IntWalk.i64_in _ (by omega)]; omega
      have HKL : Hid (k < nds.length) := Lib.hid (by rw [HNL.out]; exact hkm)
      have HNR : Hid (RdJ 2 pnI wo (fun b => B ≤ b) A2 m nds) := Lib.hid (RdJ.below' pn_turns HND.out hle HBR.out)
      obtain ⟨b2, o2, Aj, nj, cj, rfl, hb2, k0, k1, hcapj, hrr⟩ := nd_at HNR.out hkm
      have hb2w : b2 < wo.heap.size := by omega
      have HSR : Hid (SmR (pnAt nds k).2) := Lib.hid (HS.out _ (pnAt_mem HKL.out))
      obtain ⟨x, HX⟩ : ∃ x, Hid (pnAt nds k = x) := ⟨_, Lib.hid rfl⟩
      rw [HX.out] at k0 hrr
      have HSX : Hid (SmR x.2) := Lib.hid (by have := HSR.out; rw [HX.out] at this; exact this)
      obtain ⟨sv, rg⟩ := x
      simp only at k0 hrr
      have HNE : Hid (needE n i nds k = if (sv < 0 ∨ (n : Int) ≤ sv) ∨ sv = (i : Int) then 33 else if (nds.take k).any (fun y => decide (y.1 = sv)) then 31 else if rightR rg then 0 else 12) := Lib.hid (by unfold needE; rw [HX.out])
      have HHIT : Hid (∀ e : Int, needE n i nds k = e → e ≠ 0 → needsE n i nds = e) := Lib.hid (fun e he h0 => by
        unfold needsE
        rw [fst1_hit (z := (0 : Int)) rfl HOK.out (badI_yes.2 (by rw [he]; exact h0)) HKL.out, he])
      obtain ⟨X, HXX⟩ : ∃ X, Hid (X = wo.alloc (.cells #[.int .i64 sv, .slice Aj nj cj] 96)) := ⟨_, Lib.hid rfl⟩
      have hbx : Below wo.heap.size wo X := by rw [HXX.out]; exact (Below.refl _ wo).alloc (Nat.le_refl _) _
      have HX0 : Hid (X.heap[wo.heap.size]? = some (.cells #[.int .i64 sv, .slice Aj nj cj] 96 (0, 0))) := Lib.hid (by rw [HXX.out]; exact heap_new wo _)
      have HXS : Hid (X.heap.size = wo.heap.size + 1) := Lib.hid (by rw [HXX.out]; simp)
      have HBX : Hid (Below w.heap.size w X) := Lib.hid (HBR.out.trans (hbx.mono HBR.out.size))
      have HBX0 : Hid (Below W0.heap.size W0 X) := Lib.hid (HR.out.trans (hbx.mono hzr))
      have HNX : Hid (RdJ 2 pnI X (fun b => B ≤ b) (some ⟨b2, o2, none⟩) m nds) := Lib.hid (RdJ.below' pn_turns HND.out hle HBX.out)
      have HRR : Hid (RdR X B Aj nj rg) := Lib.hid (hrr.below (hbx.mono (by omega)))
      obtain ⟨x0, _⟩ := row1f ((HBX0.out.block w.heap.size (by omega)).trans H0.out)
      obtain ⟨y0, y1, _, _⟩ := row2 HX0.out
      have HXW : Hid (wo.heap.size < X.heap.size) := Lib.hid (by rw [HXS.out]; omega)
      clear hrr hbx
      go_upto_region 5 with fail
      change Code.wp _ _ _ _ (wo.alloc (.cells #[.int .i64 sv, .slice Aj nj cj] 96))
      rw [← HXX.out]
      clear k0 k1
      by_cases hsv : 0 ≤ sv ∧ sv < (n : Int)
      · have HQ : Hid ((decide (0 ≤ sv) && decide (sv < (n : Int))) = true) := Lib.hid (by rw [decide_eq_true hsv.1, decide_eq_true hsv.2]; rfl)
        by_cases hsi : sv = (i : Int)
        · have HE : Hid (needsE n i nds = 33) := Lib.hid (HHIT.out 33 (by rw [HNE.out, if_pos (.inr hsi)]) (by decide))
          subst hsi
          go_wp2_with fail
          refine isService_any.mono ?_
          rintro e w2 ⟨rfl, hb⟩
          rw [HQ.out]
          have HB2 : Hid (Below w.heap.size w w2) := Lib.hid (HBX.out.trans (hb.mono HBX.out.size))
          obtain ⟨z0, z1, _, _⟩ := row2 ((hb.block wo.heap.size HXW.out).trans HX0.out)
          clear hb y0 y1 x0
          go_wp2_with fail
          refine bodyPost_ret (results_tmp rfl _ _ _) rfl ⟨?_, HB2.out⟩
          exact congrArg (fun b => Ending.returned (.int .i64 b)) HE.out.symm
        · have hsi2 : (sv == (i : Int)) = false := by rw [beq_eq_false_iff_ne]; exact hsi
          have HNE2 : Hid (needE n i nds k = if (nds.take k).any (fun y => decide (y.1 = sv)) then 31 else if rightR rg then 0 else 12) := Lib.hid (by rw [HNE.out, if_neg (by omega)])
          go_wp2_with fail
          refine isService_any.mono ?_
          rintro e w2 ⟨rfl, hb⟩
          rw [HQ.out]
          have HB2 : Hid (Below w.heap.size w w2) := Lib.hid (HBX.out.trans (hb.mono HBX.out.size))
          have HB02 : Hid (Below W0.heap.size W0 w2) := Lib.hid (HBX0.out.trans (hb.mono HBX0.out.size))
          have K2 : Hid (w2.heap[wo.heap.size]? = some (.cells #[.int .i64 sv, .slice Aj nj cj] 96 (0, 0))) := Lib.hid ((hb.block wo.heap.size HXW.out).trans HX0.out)
          obtain ⟨z0, z1, _, _⟩ := row2 K2.out
          have HN2 : Hid (RdJ 2 pnI w2 (fun b => B ≤ b) (some ⟨b2, o2, none⟩) m nds) := Lib.hid (RdJ.below' pn_turns HND.out hle HB2.out)
          have hle2 : B ≤ w2.heap.size := Nat.le_trans hle HB2.out.size
          have HRR2 : Hid (RdR w2 B Aj nj rg) := Lib.hid (HRR.out.below (hb.mono (Nat.le_trans hle HBX.out.size)))
          have HCO : Hid (∀ c', Calls Tryz.prog 59 #[.slice (some ⟨b2, o2, none⟩) k c', .func (.func 103) #[] #[.pointer (some ⟨wo.heap.size, 0, none⟩)]] w2 fun e w' => e = .returned (.bool ((nds.take k).any (fun y => decide (y.1 = sv)))) ∧ Below w2.heap.size w2 w') := Lib.hid (fun c' => con_nd (fun y => decide (y.1 = sv)) _ _ (RdJ.take (k := k) HN2.out (by omega)) hle2 (by omega) enters_sameNeed (fun W2 vs x hx hb2 hl2 hit => by
            obtain ⟨A3, n3, c3, rfl, _, _⟩ := hit.parts
            exact sameNeed_any K2.out hb2))
          have hsl := slice_need (q := k) hc2 (by omega)
          clear hb y0 y1 x0 HNX HRR
          go_wp2_with fail
          refine (HCO.out _).mono ?_
          rintro e w3 ⟨rfl, hb⟩
          have HB3 : Hid (Below w.heap.size w w3) := Lib.hid (HB2.out.trans (hb.mono HB2.out.size))
          have HB03 : Hid (Below W0.heap.size W0 w3) := Lib.hid (HB02.out.trans (hb.mono HB02.out.size))
          obtain ⟨v0, v1, _, _⟩ := row2 ((hb.block wo.heap.size (heapE_lt K2.out)).trans K2.out)
          have HRR3 : Hid (RdR w3 B Aj nj rg) := Lib.hid (HRR2.out.below (hb.mono hle2))
          clear hb z0 z1 hsl HCO
          cases hq : (nds.take k).any (fun y => decide (y.1 = sv)) with
          | true =>
            have HE : Hid (needsE n i nds = 31) := Lib.hid (HHIT.out 31 (by rw [HNE2.out, hq]; rfl) (by decide))
            clear hq
            go_wp2_with fail
            refine bodyPost_ret (results_tmp rfl _ _ _) rfl ⟨?_, HB3.out⟩
            exact congrArg (fun b => Ending.returned (.int .i64 b)) HE.out.symm
          | false =>
            have HNE3 : Hid (needE n i nds k = if rightR rg then 0 else 12) := Lib.hid (by rw [HNE2.out, hq, if_neg (by decide)])
            have hlen3 := HA.out.below HB3.out
            have HRT := Lib.hid (RgRight_any Aj nj cj rg w3 B HRR3.out hlen3.le HSX.out.fits (by have := HRR3.out.1; have := HSX.out.1; omega) hlen3.len hlen3.one)
            clear hq hlen3
            go_wp2_with fail
            refine HRT.out.mono ?_
            rintro e w4 ⟨rfl, hb⟩
            have HB4 : Hid (Below w.heap.size w w4) := Lib.hid (HB3.out.trans (hb.mono HB3.out.size))
            have HB04 : Hid (Below W0.heap.size W0 w4) := Lib.hid (HB03.out.trans (hb.mono HB03.out.size))
            clear hb HRT v0 v1
            cases hq : rightR rg with
            | false =>
              have HE : Hid (needsE n i nds = 12) := Lib.hid (HHIT.out 12 (by rw [HNE3.out, hq]; rfl) (by decide))
              clear hq
              go_wp2_with fail
              refine bodyPost_ret (results_tmp rfl _ _ _) rfl ⟨?_, HB4.out⟩
              exact congrArg (fun b => Ending.returned (.int .i64 b)) HE.out.symm
            | true =>
              have HE : Hid (badI (needE n i nds k) = false) := Lib.hid (by rw [HNE3.out, hq]; rfl)
              clear hq
              go_wp2_with fail
              go_roundw
              case rel => exact ⟨k + 1, by omega, by go_num, HB04, Lib.hid (fun j hj => by
                by_cases e : j = k
                · subst e; exact HE.out
                · exact HOK.out j (by omega))⟩
              case measure => simp [intOf]; omega
      · have HQ : Hid ((decide (0 ≤ sv) && decide (sv < (n : Int))) = false) := Lib.hid (by
          by_cases h1 : 0 ≤ sv
          · rw [decide_eq_false (show ¬ sv < (n : Int) by omega), Bool.and_false]
          · rw [decide_eq_false h1, Bool.false_and])
        have HE : Hid (needsE n i nds = 33) := Lib.hid (HHIT.out 33 (by rw [HNE.out, if_pos (.inl (by omega))]) (by decide))
        clear hsv
        go_wp2_with fail
        refine isService_any.mono ?_
        rintro e w2 ⟨rfl, hb⟩
        rw [HQ.out]
        have HB2 : Hid (Below w.heap.size w w2) := Lib.hid (HBX.out.trans (hb.mono HBX.out.size))
        clear hb
        go_wp2_with fail
        refine bodyPost_ret (results_tmp rfl _ _ _) rfl ⟨?_, HB2.out⟩
        exact congrArg (fun b => Ending.returned (.int .i64 b)) HE.out.symm
    · have hd : decide ((k : Int) < (m : Int)) = false := by simp; omega
      obtain rfl : k = m := by omega
      have HE : Hid (needsE n i nds = 0) := Lib.hid (by unfold needsE; rw [HNL.out]; exact fst1_ok rfl HOK.out)
      go_wp2_with fail
      refine bodyPost_ret (results_tmp rfl _ _ _) rfl ⟨?_, HBR.out⟩
      exact congrArg (fun b => Ending.returned (.int .i64 b)) HE.out.symm
end Go.Proofs.YtlodledcglleiaaGreat

namespace Go.Proofs.YtlodledcglleiaaGreat
open Go.RowKit
open SemP
set_option linter.unusedVariables false
set_option linter.unusedSimpArgs false
set_option maxRecDepth 10000
theorem ofJ_any {w : World} {W : World} {g : Nat} {s t : Int} {v1 : Value} {T : TypeId} (hk : w.heap[g]? = some (.cells #[.int .i64 s] T (0, 0))) (hb : Below w.heap.size w W) :
    Calls Tryz.prog 56 #[.agg #[.int .i64 t, v1], .pointer (some ⟨g, 0, none⟩)] W fun e w' => e = .returned (.bool (decide (t = s))) ∧ Below w.heap.size w w' := by
  have hg : g < w.heap.size := heapE_lt hk
  obtain ⟨k0, _⟩ := row1f ((hb.block g hg).trans hk)
  have hne : g ≠ W.heap.size := by have := hb.size; omega
  have hgW : g < W.heap.size := by have := hb.size; omega
  have HX : Hid (Below w.heap.size w (W.alloc (.cells #[.int .i64 t, v1] 96))) := Lib.hid (hb.alloc hb.size _)
  clear hk hb
  by_cases h : t = s
  · subst h
    have HD : Hid (decide (t = t) = true) := Lib.hid (by simp)
    go_enter Tryz.func56, Tryz.ntmps56
    go_wp2_with fail
    go_ret
    exact ⟨congrArg (fun b => Ending.returned (.bool b)) HD.out.symm, HX.out⟩
  · have HD : Hid (decide (t = s) = false) := Lib.hid (decide_eq_false h)
    have h3 : (t == s) = false := by rw [beq_eq_false_iff_ne]; exact h
    go_enter Tryz.func56, Tryz.ntmps56
    go_wp2_with fail
    go_ret
    exact ⟨congrArg (fun b => Ending.returned (.bool b)) HD.out.symm, HX.out⟩
theorem enters_ofJ : ∀ args w, (callFunc 56 args).run Tryz.prog w = .ok (.enter 56 args) w := enters_of Tryz.func56 (by kernel_rfl) rfl
theorem enters_n2 : ∀ args w, (callFunc 58 args).run Tryz.prog w = .ok (.enter 58 args) w := enters_of Tryz.func58 (by kernel_rfl) rfl
set_option maxHeartbeats 4000000 in
theorem needs2_any {w W : World} {B fb jb : Nat} {j : Int} {T T' : TypeId} {vs : List Value} {x : Rl} (hk : w.heap[fb]? = some (.cells #[.func (.func 56) #[] #[.pointer (some ⟨jb, 0, none⟩)]] T (0, 0))) (hj : w.heap[jb]? = some (.cells #[.int .i64 j] T' (0, 0))) (hb : Below w.heap.size w W) (hB : B ≤ w.heap.size)
    (hit : reI W (fun b => B ≤ b) vs x) (hx : x.2.2.length ≤ 12) :
    Calls Tryz.prog 58 (#[.agg vs.toArray] ++ #[.pointer (some ⟨fb, 0, none⟩)]) W fun e w' => e = .returned (.bool (x.2.2.any (fun n => decide (n.1 = j)))) ∧ Below w.heap.size w w' := by
  obtain ⟨A3, n3, c3, rfl, hps⟩ := hit.parts
  obtain ⟨hcap, hr⟩ := hps.rd
  have hfb : fb < w.heap.size := heapE_lt hk
  have hjb : jb < w.heap.size := heapE_lt hj
  have hsz := hb.size
  obtain ⟨⟨va, vb, vc, vs⟩, lv, nds⟩ := x
  simp only at hr hx ⊢
  obtain ⟨k0, _⟩ := row1f ((hb.block fb hfb).trans hk)
  have hfbW : fb < W.heap.size := by omega
  obtain ⟨W1, HW1⟩ : ∃ W1, Hid (W1 = W.alloc (.cells #[.int .i64 va, .int .i64 vb, .int .i64 vc, .string vs, .int .i64 lv, .slice A3 n3 c3] 91)) := ⟨_, Lib.hid rfl⟩
  have hb1 : Below W.heap.size W W1 := by rw [HW1.out]; exact (Below.refl _ W).alloc (Nat.le_refl _) _
  have hz1 : W1.heap.size = W.heap.size + 1 := by rw [HW1.out]; simp
  have hnl := hr.1
  have hj1 : W1.heap[jb]? = some (.cells #[.int .i64 j] T' (0, 0)) := (hb1.block jb (by omega)).trans ((hb.block jb hjb).trans hj)
  have HCO : Hid (Calls Tryz.prog 59 #[.slice A3 n3 c3, .func (.func 56) #[] #[.pointer (some ⟨jb, 0, none⟩)]] W1 fun e w' => e = .returned (.bool (nds.any (fun y => decide (y.1 = j)))) ∧ Below W1.heap.size W1 w') := Lib.hid (con_nd (B := B) (fun y => decide (y.1 = j)) _ _ (RdJ.below pn_turns hr (hb1.mono (by omega))) (by omega) (by omega) enters_ofJ (fun W2 vs x hx hb2 hl2 hit => by
    obtain ⟨A4, n4, c4, rfl, _, _⟩ := hit.parts
    exact ofJ_any hj1 hb2))
  have HB1 : Hid (Below w.heap.size w W1) := Lib.hid (hb.trans (hb1.mono (by omega)))
  have HZ : Hid (w.heap.size ≤ W1.heap.size) := Lib.hid (by omega)
  clear hk hj hb hit hps hr hb1 hj1 hz1
  show Calls Tryz.prog 58 #[.agg #[.int .i64 va, .int .i64 vb, .int .i64 vc, .string vs, .int .i64 lv, .slice A3 n3 c3], .pointer (some ⟨fb, 0, none⟩)] W _
  go_enter Tryz.func58, Tryz.ntmps58
  go_wp2_with fail
  try rw [← HW1.out]
  refine HCO.out.mono ?_
  rintro e w2 ⟨rfl, hb2⟩
  have HB2 : Hid (Below w.heap.size w w2) := Lib.hid (HB1.out.trans (hb2.mono HZ.out))
  clear hb2
  go_wp2_with fail
  refine bodyPost_ret (results_tmp rfl _ _ _) rfl ⟨rfl, HB2.out⟩
set_option maxHeartbeats 4000000 in
theorem needs_any {w : World} {B n c i : Nat} {j : Int} {A : Option Addr} {l : List Sv} (h : CatAt w B A n c l) (hi : i < n) :
    Calls Tryz.prog 28 #[.agg #[.slice A n c], .int .i64 (i : Int), .int .i64 j] w fun e w' => e = .returned (.bool (asks l i j)) ∧ Below w.heap.size w w' := by
  have HN : Hid (l.length = n) := Lib.hid h.rd.1
  have hn16 := h.n16
  have hle := h.le
  obtain ⟨b1, o1, Aj, nj, cj, rfl, hb1, k0, k1, hcap, hrr⟩ := sv_at h.rd hi
  have hb1w : b1 < w.heap.size := by omega
  have hii : (i : Int) < (n : Int) := by omega
  have hsm := h.sm.2 _ (svAt_mem (i := i) (by rw [HN.out]; exact hi))
  have hnj : nj ≤ 16 := by have := hsm.2.1; have := hrr.1; omega
  obtain ⟨W, HW⟩ : ∃ W, Hid (W = ((w.alloc (.cells #[.slice (some ⟨b1, o1, none⟩) n c] 24)).alloc (.cells #[.int .i64 j] 3)).alloc (.cells #[.func (.func 56) #[] #[.pointer (some ⟨w.heap.size + 1, 0, none⟩)]] 136)) := ⟨_, Lib.hid rfl⟩
  have hbl : Below w.heap.size w W := by rw [HW.out]; exact (((Below.refl _ w).alloc (Nat.le_refl _) _).alloc (by simp) _).alloc (by simp; omega) _
  have hz : W.heap.size = w.heap.size + 3 := by rw [HW.out]; simp
  have h1 : W.heap[w.heap.size + 1]? = some (.cells #[.int .i64 j] 3 (0, 0)) := by
    rw [HW.out, Below.heap_alloc _ _ _ (by simp)]
    have h := heap_new (w.alloc (.cells #[.slice (some ⟨b1, o1, none⟩) n c] 24)) (.cells #[.int .i64 j] 3)
    rw [World.size_alloc] at h; exact h
  have h2 : W.heap[w.heap.size + 1 + 1]? = some (.cells #[.func (.func 56) #[] #[.pointer (some ⟨w.heap.size + 1, 0, none⟩)]] 136 (0, 0)) := by
    rw [HW.out]
    have h := heap_new ((w.alloc (.cells #[.slice (some ⟨b1, o1, none⟩) n c] 24)).alloc (.cells #[.int .i64 j] 3)) (.cells #[.func (.func 56) #[] #[.pointer (some ⟨w.heap.size + 1, 0, none⟩)]] 136)
    rw [World.size_alloc, World.size_alloc] at h; exact h
  have h0 : W.heap[w.heap.size]? = some (.cells #[.slice (some ⟨b1, o1, none⟩) n c] 24 (0, 0)) := by
    rw [HW.out, Below.heap_alloc _ _ _ (by simp; omega), Below.heap_alloc _ _ _ (by simp)]
    exact heap_new w _
  obtain ⟨x0, _⟩ := row1f h0
  have k1W := (hbl.cell (p := ⟨b1, o1 + i * 2 + 1, none⟩) hb1w).trans k1
  have HBL := Lib.hid hbl
  have HCO : Hid (Calls Tryz.prog 57 #[.slice Aj nj cj, .func (.func 58) #[] #[.pointer (some ⟨w.heap.size + 1 + 1, 0, none⟩)]] W fun e w' => e = .returned (.bool (asks l i j)) ∧ Below W.heap.size W w') := Lib.hid (con_rl (B := B) (fun r => r.2.2.any (fun n => decide (n.1 = j))) _ _ (RdJ.below' re_turns hrr hle hbl) (Nat.le_trans hle hbl.size) (by omega) enters_n2 (fun W2 vs x hx hb2 hl2 hit => needs2_any h2 h1 hb2 (Nat.le_trans hle hbl.size) hit (hsm.2.2 _ hx).1))
  clear hbl h hrr hsm h0 h1 h2 k0 k1
  go_enter Tryz.func28, Tryz.ntmps28
  go_upto_region 2 with fail
  change Code.wp _ _ _ _ (((w.alloc (.cells #[.slice (some ⟨b1, o1, none⟩) n c] 24)).alloc (.cells #[.int .i64 j] 3)).alloc (.cells #[.func (.func 56) #[] #[.pointer (some ⟨w.heap.size + 1, 0, none⟩)]] 136))
  rw [← HW.out]
  go_wp2_with fail
  refine HCO.out.mono ?_
  rintro e w2 ⟨rfl, hb2⟩
  have HB2 : Hid (Below w.heap.size w w2) := Lib.hid (HBL.out.trans (hb2.mono (by omega)))
  clear hb2
  go_wp2_with fail
  refine bodyPost_ret (results_tmp rfl _ _ _) rfl ⟨rfl, HB2.out⟩
end Go.Proofs.YtlodledcglleiaaGreat
