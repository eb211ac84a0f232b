/-
  THE DOCUMENT'S fits: does nothing speak against a release behind those chosen?
-/
import Derived.Test.YtlodledcglleiaaGreatVOq
namespace Go.Proofs.YtlodledcglleiaaGreat
open Go.RowKit
open SemP DiP FlP GaP SeaP
set_option linter.unusedVariables false
set_option linter.unusedSimpArgs false
set_option maxRecDepth 10000
set_option maxHeartbeats 8000000 in
theorem fitsV_any {w : World} {B B2 B3 n c m c2 np cp nm cm v : Nat} {A A2 Aq Am : Option Addr} {l : List Sv} {ch : List Int} {ps : List Nd} {ms : List Int} (h : CatAt w B A n c l) (hv : Rd w B2 A2 m ch) (hB2 : B2 ≤ w.heap.size) (hm : m < n) (hq : ReqAt w B3 Aq np Am nm ps ms) (hvl : v < (svAt l m).2.length) :
    Calls Tryz.prog 43 #[.agg #[.slice A n c], .agg #[.slice Aq np cp, .slice Am nm cm], .slice A2 m c2, .int .i64 (v : Int)] w fun e w' => e = .returned (.bool (okV l ps ch (v : Int))) ∧ Below w.heap.size w w' := by
  obtain ⟨W, HW⟩ : ∃ W, Hid (W = (w.alloc (.cells #[.slice A n c] 28)).alloc (.cells #[.slice Aq np cp, .slice Am nm cm] 49)) := ⟨_, Lib.hid rfl⟩
  have hbl : Below w.heap.size w W := by rw [HW.out]; exact ((Below.refl _ w).alloc (Nat.le_refl _) _).alloc (by simp) _
  have HBL := Lib.hid hbl
  have H0 : Hid (W.heap[w.heap.size]? = some (.cells #[.slice A n c] 28 (0, 0))) := Lib.hid (by
    rw [HW.out, Below.heap_alloc _ _ _ (by simp)]; exact heap_new w _)
  have H1 : Hid (W.heap[w.heap.size + 1]? = some (.cells #[.slice Aq np cp, .slice Am nm cm] 49 (0, 0))) := Lib.hid (by
    rw [HW.out]
    have h := heap_new (w.alloc (.cells #[.slice A n c] 28)) (.cells #[.slice Aq np cp, .slice Am nm cm] 49)
    rw [World.size_alloc] at h; exact h)
  have HA := Lib.hid (h.below hbl)
  have HV := Lib.hid (hv.below (hbl.mono hB2))
  have HB2 : Hid (B2 ≤ W.heap.size) := Lib.hid (Nat.le_trans hB2 hbl.size)
  have HVL : Hid (ch.length = m) := Lib.hid hv.len
  have hn16 := h.n16
  have HPN := Lib.hid (pinQ_any (cp := cp) (cm := cm) (vv := v) (h.below hbl) (hq.below hbl) hm hvl)
  have HOK : Hid (okV l ps ch (v : Int) = (pinR l ps m v && (List.range m).all fun j => fitsC l (m : Int) (v : Int) (j : Int) (ix ch j))) := Lib.hid (by
    unfold okV; rw [hv.len, Int.toNat_natCast])
  clear h hv hq hbl
  obtain ⟨x0, _⟩ := row1f H0.out
  obtain ⟨y0, y1, _⟩ := row2 H1.out
  go_enter Tryz.func43, Tryz.ntmps43
  go_upto_region 1 with fail
  change Code.wp _ _ _ _ ((w.alloc (.cells #[.slice A n c] 28)).alloc (.cells #[.slice Aq np cp, .slice Am nm cm] 49))
  rw [← HW.out]
  go_wp2_with fail
  refine HPN.out.mono ?_
  rintro e w1 ⟨rfl, hb⟩
  have HB1 : Hid (Below W.heap.size W w1) := Lib.hid hb
  have HW1 : Hid (Below w.heap.size w w1) := Lib.hid (HBL.out.trans (hb.mono HBL.out.size))
  have HA1 := Lib.hid (HA.out.below hb)
  have HV1 := Lib.hid (HV.out.below (hb.mono HB2.out))
  have HB21 : Hid (B2 ≤ w1.heap.size) := Lib.hid (Nat.le_trans HB2.out hb.size)
  have K0 : Hid (w1.heap[w.heap.size]? = _) := Lib.hid ((hb.block w.heap.size (heapE_lt H0.out)).trans H0.out)
  clear hb HPN x0 y0 y1
  cases hp : pinR l ps m v with
  | false =>
    have HF : Hid (okV l ps ch (v : Int) = false) := Lib.hid (by rw [HOK.out, hp, Bool.false_and])
    clear hp
    go_wp2_with fail
    refine bodyPost_ret (results_tmp rfl _ _ _) rfl ⟨?_, HW1.out⟩
    exact congrArg (fun b => Ending.returned (.bool b)) HF.out.symm
  | true =>
    have HO1 : Hid (okV l ps ch (v : Int) = (List.range m).all fun j => fitsC l (m : Int) (v : Int) (j : Int) (ix ch j)) := Lib.hid (by rw [HOK.out, hp, Bool.true_and])
    clear hp
    go_wp2_with fail
    go_loopw [10] (fun v0 wr => ∃ k : Nat, k ≤ m ∧ v0 = .int .i64 (k : Int) ∧ Hid (Below w1.heap.size w1 wr) ∧ Hid (∀ i, i < k → fitsC l (m : Int) (v : Int) (i : Int) (ix ch i) = true)) (fun v0 _ => m - (intOf v0).toNat)
    case atStart => exact ⟨0, Nat.zero_le _, rfl, Lib.hid (Below.refl _ _), Lib.hid (fun i h => absurd h (by omega))⟩
    case round =>
      obtain ⟨wk, hwk⟩ : ∃ x, x = wr := ⟨_, rfl⟩
      subst hwk
      obtain ⟨k, hk, rfl, HBk, HFK⟩ := hrel
      have HWk : Hid (Below w.heap.size w wk) := Lib.hid (HW1.out.trans (HBk.out.mono HW1.out.size))
      have Kk : Hid (wk.heap[w.heap.size]? = _) := Lib.hid ((HBk.out.block w.heap.size (heapE_lt K0.out)).trans K0.out)
      by_cases hkn : k < m
      · have hd4 : decide ((k : Int) < (m : Int)) = true := by simp; omega
        have hki : (k : Int) < (m : Int) := by omega
        have hk0 : (0 : Int) ≤ (k : Int) := by omega
        have hadd4 : IntKind.i64.wrap ((k : Int) + 1) = ((k + 1 : Nat) : Int) := by rw [IntWalk.i64_in _ (by omega)]; omega
        obtain ⟨bU, oU, hAU, hbU, kU⟩ := (HV1.out.below (HBk.out.mono HB21.out)).at_ (k := k) hkn
        subst hAU
        obtain ⟨u, HU⟩ : ∃ u, Hid (ix ch k = u) := ⟨_, Lib.hid rfl⟩
        rw [HU.out] at kU
        have HAk := Lib.hid (HA1.out.below HBk.out)
        have hAkD : CatAt (wk.drewN 1) B A n c l := ⟨HAk.out.rd, HAk.out.cap, HAk.out.le, HAk.out.sm, HAk.out.len, HAk.out.one⟩
        have HFT := Lib.hid (fitsQ_any (i := (m : Int)) (v := (v : Int)) (j := (k : Int)) (x := u) hAkD)
        have hbTk : bU < wk.heap.size := by have := HB21.out; have := HBk.out.size; omega
        obtain ⟨x0, _⟩ := row1f Kk.out
        clear hAkD
        go_wp2_with fail
        go_region_held3 (fun W' => W'.cell? ⟨w.heap.size, 0, none⟩ = some (.slice A n c) ∧ W'.cell? ⟨bU, oU + k, none⟩ = some (.int .i64 u)) ((first | exact ⟨x0, kU⟩ | exact ⟨z0, z1⟩ | go_keep)) (first
          | (go_at_call 71; refine HFT.out.mono ?_; rintro e w5 ⟨rfl, hb'⟩; (have hb : Below wk.heap.size wk w5 := (Below.drewN' (Below.refl _ wk) 1).trans hb'); (have z0 := (hb.cell (p := ⟨w.heap.size, 0, none⟩) (heapE_lt Kk.out)).trans x0); (have z1 := (hb.cell (p := ⟨bU, oU + k, none⟩) hbTk).trans kU); (have HBW := Lib.hid hb); clear hb hb'))
        have HB5 : Hid (Below w1.heap.size w1 w5) := Lib.hid (HBk.out.trans (HBW.out.mono HBk.out.size))
        have HW5 : Hid (Below w.heap.size w w5) := Lib.hid (HWk.out.trans (HBW.out.mono HWk.out.size))
        clear HBW x0 kU z0 z1 HFT
        cases hf : fitsC l (m : Int) (v : Int) (k : Int) u with
        | false =>
          have HF : Hid (okV l ps ch (v : Int) = false) := Lib.hid (by
            rw [HO1.out, List.all_eq_false]
            refine ⟨k, List.mem_range.2 hkn, ?_⟩
            rw [HU.out, hf]; simp)
          clear hf
          go_wp2_with fail
          refine bodyPost_ret (results_tmp rfl _ _ _) rfl ⟨?_, HW5.out⟩
          exact congrArg (fun b => Ending.returned (.bool b)) HF.out.symm
        | true =>
          have HF1 := Lib.hid hf
          clear hf
          go_wp2_with fail
          go_roundw
          case rel => exact ⟨k + 1, by omega, by go_num, HB5, Lib.hid (fun i hi => by
            by_cases e : i = k
            · subst e; rw [HU.out]; exact HF1.out
            · exact HFK.out i (by omega))⟩
          case measure => simp [intOf]; omega
      · have hd4 : decide ((k : Int) < (m : Int)) = false := by simp; omega
        have HF : Hid (okV l ps ch (v : Int) = true) := Lib.hid (by
          rw [HO1.out, List.all_eq_true]
          exact fun i hi => HFK.out i (by have := List.mem_range.1 hi; omega))
        go_wp2_with fail
        refine bodyPost_ret (results_tmp rfl _ _ _) rfl ⟨?_, HWk.out⟩
        exact congrArg (fun b => Ending.returned (.bool b)) HF.out.symm
end Go.Proofs.YtlodledcglleiaaGreat
