/-
  CONTRACTS: what is asked of a request; what is pinned.
-/
import Derived.Test.YtlodledcglleiaaGreatVPa
import Derived.Test.YtlodledcglleiaaGreatCFa
import Derived.Deep.RegionHeld3
namespace Go.Proofs.YtlodledcglleiaaGreat
open Go.RowKit
open SemP DiP FlP GaP SeaP
set_option linter.unusedVariables false
set_option linter.unusedSimpArgs false
set_option maxRecDepth 10000
/-- A request reads as ps, ms, below B. -/
structure ReqAt (w : World) (B : Nat) (Ap : Option Addr) (np : Nat) (Am : Option Addr) (nm : Nat) (ps : List Nd) (ms : List Int) : Prop where
  pd : RdJ 2 pnI w (fun b => B ≤ b) Ap np ps
  md : Rd w B Am nm ms
  np : np ≤ 40
  nm : nm ≤ 40
  sm : ∀ p ∈ ps, SmR p.2
  le : B ≤ w.heap.size
theorem ReqAt.below {w w' : World} {B np nm : Nat} {Ap Am : Option Addr} {ps : List Nd} {ms : List Int} (h : ReqAt w B Ap np Am nm ps ms) (hb : Below w.heap.size w w') : ReqAt w' B Ap np Am nm ps ms :=
  ⟨RdJ.below pn_turns h.pd (hb.mono h.le), h.md.below (hb.mono h.le), h.np, h.nm, h.sm, Nat.le_trans h.le hb.size⟩
theorem all_ix {α : Type} [Inhabited α] {l : List α} {p : α → Bool} (h : ∀ j, j < l.length → p (l.getD j default) = true) : l.all p = true := by
  rw [List.all_eq_true]
  intro x hx
  obtain ⟨i, hi, rfl⟩ := List.getElem_of_mem hx
  have := h i hi
  rw [show l.getD i default = l[i] by simp [List.getD, hi]] at this
  exact this
theorem all_no {α : Type} [Inhabited α] {l : List α} {p : α → Bool} {j : Nat} (hj : j < l.length) (h : p (l.getD j default) = false) : l.all p = false := by
  rw [List.all_eq_false]
  exact ⟨_, getD_mem hj, by rw [h]; simp⟩
theorem ix_d (l : List Int) (j : Nat) : l.getD j default = ix l j := rfl
theorem sIs_any {w : World} {c n : Nat} {A : Option Addr} {l : List Sv} (x : Int) (hn : l.length = n) :
    Calls Tryz.prog 63 #[.agg #[.slice A n c], .int .i64 x] w fun e w' => e = .returned (.bool (isS l x)) ∧ Below w.heap.size w w' := by
  have HN := Lib.hid hn
  obtain ⟨W, HW⟩ : ∃ W, Hid (W = w.alloc (.cells #[.slice A n c] 24)) := ⟨_, Lib.hid rfl⟩
  have HBL : Hid (Below w.heap.size w W) := Lib.hid (by rw [HW.out]; exact (Below.refl _ w).alloc (Nat.le_refl _) _)
  have H0 : Hid (W.heap[w.heap.size]? = some (.cells #[.slice A n c] 24 (0, 0))) := Lib.hid (by rw [HW.out]; exact heap_new w _)
  clear hn
  by_cases h0 : 0 ≤ x
  · obtain ⟨x0, _⟩ := row1f H0.out
    have h0' : decide (0 ≤ x) = true := decide_eq_true h0
    by_cases h2 : x < (n : Int)
    · have h2' : decide (x < (n : Int)) = true := decide_eq_true h2
      have HV : Hid (isS l x = true) := Lib.hid (by unfold isS; rw [HN.out, h0', h2']; rfl)
      go_enter Tryz.func63, Tryz.ntmps63
      go_upto_region 1 with fail
      change Code.wp _ _ _ _ (w.alloc (.cells #[.slice A n c] 24))
      rw [← HW.out]
      go_wp2_with fail
      refine bodyPost_ret (results_tmp rfl _ _ _) rfl ⟨?_, HBL.out⟩
      exact congrArg (fun b => Ending.returned (.bool b)) HV.out.symm
    · have h2' : decide (x < (n : Int)) = false := decide_eq_false h2
      have HV : Hid (isS l x = false) := Lib.hid (by unfold isS; rw [HN.out, h2', Bool.and_false])
      go_enter Tryz.func63, Tryz.ntmps63
      go_upto_region 1 with fail
      change Code.wp _ _ _ _ (w.alloc (.cells #[.slice A n c] 24))
      rw [← HW.out]
      go_wp2_with fail
      refine bodyPost_ret (results_tmp rfl _ _ _) rfl ⟨?_, HBL.out⟩
      exact congrArg (fun b => Ending.returned (.bool b)) HV.out.symm
  · have h0' : decide (0 ≤ x) = false := decide_eq_false h0
    have HV : Hid (isS l x = false) := Lib.hid (by unfold isS; rw [h0', Bool.false_and])
    go_enter Tryz.func63, Tryz.ntmps63
    go_upto_region 1 with fail
    change Code.wp _ _ _ _ (w.alloc (.cells #[.slice A n c] 24))
    rw [← HW.out]
    go_wp2_with fail
    refine bodyPost_ret (results_tmp rfl _ _ _) rfl ⟨?_, HBL.out⟩
    exact congrArg (fun b => Ending.returned (.bool b)) HV.out.symm
/-- Settled, however many. -/
theorem settledW_any {w : World} {B B' n c m c2 : Nat} {A A2 : Option Addr} {l : List Sv} {vs : List Int} (h : CatAt w B A n c l) (hlv : LevOK l) (hv : Rd w B' A2 m vs) (hB' : B' ≤ w.heap.size) :
    Calls Tryz.prog 23 #[.agg #[.slice A n c], .slice A2 m c2] w fun e w' => Below w.heap.size w w' ∧ ((setB l vs = true ∧ ∃ A' c', e = .returned (.tuple #[.slice A' m c', .int .i64 0]) ∧ OwnZc w' w.heap.size (.slice A' m c') m (setL l vs)) ∨ (setB l vs = false ∧ e = .returned (.tuple #[.slice none 0 0, .int .i64 42]))) := by
  by_cases h20 : m ≤ 20
  · exact settled_any h hlv hv hB' h20
  have hN := h.rd.1
  have hn16 := h.n16
  have hM := hv.len
  obtain ⟨W, HW⟩ : ∃ W, Hid (W = w.alloc (.cells #[.slice A n c] 24)) := ⟨_, Lib.hid rfl⟩
  have HBL : Hid (Below w.heap.size w W) := Lib.hid (by rw [HW.out]; exact (Below.refl _ w).alloc (Nat.le_refl _) _)
  have H0 : Hid (W.heap[w.heap.size]? = some (.cells #[.slice A n c] 24 (0, 0))) := Lib.hid (by rw [HW.out]; exact heap_new w _)
  have HF : Hid (setB l vs = false) := Lib.hid (by
    unfold setB; rw [decide_eq_false (by omega), Bool.false_and])
  have hne : ((m : Int) != (n : Int)) = true := by rw [bne_iff_ne]; omega
  obtain ⟨x0, _⟩ := row1f H0.out
  clear hN hM h hv
  go_enter Tryz.func23, Tryz.ntmps23
  go_upto_region 1 with fail
  change Code.wp _ _ _ _ (w.alloc (.cells #[.slice A n c] 24))
  rw [← HW.out]
  go_wp2_with fail
  go_ret2
  exact ⟨HBL.out, .inr ⟨HF.out, rfl⟩⟩
theorem areRel_any {w : World} {B B' n c m c2 : Nat} {A A2 : Option Addr} {l : List Sv} {vs : List Int} (h : CatAt w B A n c l) (hlv : LevOK l) (hv : Rd w B' A2 m vs) (hB' : B' ≤ w.heap.size) :
    Calls Tryz.prog 61 #[.agg #[.slice A n c], .slice A2 m c2] w fun e w' => e = .returned (.bool (setB l vs)) ∧ Below w.heap.size w w' := by
  obtain ⟨W, HW⟩ : ∃ W, Hid (W = w.alloc (.cells #[.slice A n c] 24)) := ⟨_, Lib.hid rfl⟩
  have HBL : Hid (Below w.heap.size w W) := Lib.hid (by rw [HW.out]; exact (Below.refl _ w).alloc (Nat.le_refl _) _)
  have H0 : Hid (W.heap[w.heap.size]? = some (.cells #[.slice A n c] 24 (0, 0))) := Lib.hid (by rw [HW.out]; exact heap_new w _)
  have HS := Lib.hid (settledW_any (c2 := c2) (h.below HBL.out) hlv (hv.below (HBL.out.mono hB')) (Nat.le_trans hB' HBL.out.size))
  obtain ⟨x0, _⟩ := row1f H0.out
  clear h hv
  go_enter Tryz.func61, Tryz.ntmps61
  go_upto_region 1 with fail
  change Code.wp _ _ _ _ (w.alloc (.cells #[.slice A n c] 24))
  rw [← HW.out]
  go_wp2_with fail
  refine HS.out.mono ?_
  rintro e w1 ⟨hb, ho⟩
  have HB1 : Hid (Below w.heap.size w w1) := Lib.hid (HBL.out.trans (hb.mono HBL.out.size))
  clear hb HS x0
  rcases ho with ⟨hs, A', c', rfl, _⟩ | ⟨hs, rfl⟩
  · have HV := Lib.hid hs
    clear hs
    go_wp2_with fail
    refine bodyPost_ret (results_tmp rfl _ _ _) rfl ⟨?_, HB1.out⟩
    exact congrArg (fun b => Ending.returned (.bool b)) HV.out.symm
  · have HV := Lib.hid hs
    clear hs
    go_wp2_with fail
    refine bodyPost_ret (results_tmp rfl _ _ _) rfl ⟨?_, HB1.out⟩
    exact congrArg (fun b => Ending.returned (.bool b)) HV.out.symm
set_option maxHeartbeats 8000000 in
theorem formed_any {w : World} {B np cp nm cm : Nat} {Ap Am : Option Addr} {ps : List Nd} {ms : List Int} (h : ReqAt w B Ap np Am nm ps ms) (hm : LenAt w) (h1 : 1 < w.heap.size) :
    Calls Tryz.prog 62 #[.agg #[.slice Ap np cp, .slice Am nm cm]] w fun e w' => e = .returned (.bool (modB ms && pinsB ps)) ∧ Below w.heap.size w w' := by
  obtain ⟨W, HW⟩ : ∃ W, Hid (W = w.alloc (.cells #[.slice Ap np cp, .slice Am nm cm] 46)) := ⟨_, Lib.hid rfl⟩
  have hbl : Below w.heap.size w W := by rw [HW.out]; exact (Below.refl _ w).alloc (Nat.le_refl _) _
  have HBL := Lib.hid hbl
  have H0 : Hid (W.heap[w.heap.size]? = some (.cells #[.slice Ap np cp, .slice Am nm cm] 46 (0, 0))) := Lib.hid (by rw [HW.out]; exact heap_new w _)
  have HQ := Lib.hid (h.below hbl)
  have HL := Lib.hid (LenAt.below hm h1 hbl)
  have HPL : Hid (ps.length = np) := Lib.hid h.pd.1
  have HML : Hid (ms.length = nm) := Lib.hid h.md.len
  have hnp := h.np
  have hnm := h.nm
  clear h hm h1 hbl
  obtain ⟨x0, x1, _⟩ := row2 H0.out
  go_enter Tryz.func62, Tryz.ntmps62
  go_upto_region 1 with fail
  change Code.wp _ _ _ _ (w.alloc (.cells #[.slice Ap np cp, .slice Am nm cm] 46))
  rw [← HW.out]
  go_wp2_with fail
  go_loop [4, 10] (fun _ v => ∃ k : Nat, k ≤ nm ∧ v = .int .i64 (k : Int) ∧ Hid (∀ i, i < k → (decide (0 ≤ ix ms i) && decide (ix ms i ≤ 3)) = true)) (fun _ v => nm - (intOf v).toNat)
  case atStart => exact ⟨0, Nat.zero_le _, rfl, Lib.hid (fun i h => absurd h (by omega))⟩
  case round =>
    obtain ⟨k, hk, rfl, HOK⟩ := hrel
    by_cases hkn : k < nm
    · have hd : decide ((k : Int) < (nm : Int)) = true := by simp; omega
      have hki : (k : Int) < (nm : Int) := by omega
      have hk0 : (0 : Int) ≤ (k : Int) := by omega
      have hadd : IntKind.i64.wrap ((k : Int) + 1) = ((k + 1 : Nat) : Int) := by rw [IntWalk.i64_in _ (by omega)]; omega
      obtain ⟨b, off, rfl, hb, kc⟩ := HQ.out.md.at_ hkn
      have HKL : Hid (k < ms.length) := Lib.hid (by rw [HML.out]; exact hkn)
      obtain ⟨v, HV⟩ : ∃ v, Hid (ix ms k = v) := ⟨_, Lib.hid rfl⟩
      rw [HV.out] at kc
      by_cases hv0 : v < 0
      · have d1 : decide (v < 0) = true := decide_eq_true hv0
        have HF : Hid ((modB ms && pinsB ps) = false) := Lib.hid (by
          rw [show modB ms = false from all_no HKL.out (by rw [ix_d, HV.out, decide_eq_false (by omega)]; rfl)]; rfl)
        go_wp2_with fail
        refine bodyPost_ret (results_tmp rfl _ _ _) rfl ⟨?_, HBL.out⟩
        exact congrArg (fun b => Ending.returned (.bool b)) HF.out.symm
      · have d1 : decide (v < 0) = false := decide_eq_false hv0
        by_cases hv3 : 3 < v
        · have d2 : decide (3 < v) = true := decide_eq_true hv3
          have HF : Hid ((modB ms && pinsB ps) = false) := Lib.hid (by
            rw [show modB ms = false from all_no HKL.out (by rw [ix_d, HV.out, decide_eq_false (show ¬ v ≤ 3 by omega), Bool.and_false])]; rfl)
          go_wp2_with fail
          refine bodyPost_ret (results_tmp rfl _ _ _) rfl ⟨?_, HBL.out⟩
          exact congrArg (fun b => Ending.returned (.bool b)) HF.out.symm
        · have d2 : decide (3 < v) = false := decide_eq_false hv3
          have HOK2 : Hid (∀ i, i < k + 1 → (decide (0 ≤ ix ms i) && decide (ix ms i ≤ 3)) = true) := Lib.hid (fun i hi => by
            by_cases e : i = k
            · subst e; rw [HV.out, decide_eq_true (show 0 ≤ v by omega), decide_eq_true (show v ≤ 3 by omega)]; rfl
            · exact HOK.out i (by omega))
          go_wp2_with fail
          go_round
          case rel => exact ⟨k + 1, by omega, by go_num, HOK2⟩
          case measure => simp [intOf]; omega
    · have hd : decide ((k : Int) < (nm : Int)) = false := by simp; omega
      obtain rfl : k = nm := by omega
      have HMB : Hid (modB ms = true) := Lib.hid (all_ix (fun j hj => by rw [ix_d]; exact HOK.out j (by rw [← HML.out]; exact hj)))
      clear x1
      go_wp2_with fail
      clear x0
      go_loopw [6, 24] (fun _ v wr => ∃ j : Nat, j ≤ np ∧ v = .int .i64 (j : Int) ∧ Hid (Below W.heap.size W wr) ∧ Hid (∀ i, i < j → rightR (pnAt ps i).2 = true)) (fun _ v _ => np - (intOf v).toNat)
      case atStart => exact ⟨0, Nat.zero_le _, rfl, Lib.hid (Below.refl _ _), Lib.hid (fun i h => absurd h (by omega))⟩
      case round =>
        obtain ⟨wo, hwo⟩ : ∃ x, x = wr := ⟨_, rfl⟩
        subst hwo
        obtain ⟨j, hj, rfl, HBo, HPK⟩ := hrel
        have hzo := HBo.out.size
        by_cases hjn : j < np
        · have hd2 : decide ((j : Int) < (np : Int)) = true := by simp; omega
          have hji : (j : Int) < (np : Int) := by omega
          have hj0 : (0 : Int) ≤ (j : Int) := by omega
          have hadd2 : IntKind.i64.wrap ((j : Int) + 1) = ((j + 1 : Nat) : Int) := by rw [IntWalk.i64_in _ (by omega)]; omega
          have HQo := Lib.hid (HQ.out.below HBo.out)
          have HLo := Lib.hid (LenAt.below HL.out.1 HL.out.2 HBo.out)
          have HJL : Hid (j < ps.length) := Lib.hid (by rw [HPL.out]; exact hjn)
          obtain ⟨b4, o4, A5, n5, c5, rfl, hb4, p0, p1, hcap5, hr5⟩ := nd_at HQo.out.pd hjn
          obtain ⟨X, HX⟩ : ∃ X, Hid (X = wo.alloc (.cells #[.int .i64 (pnAt ps j).1, .slice A5 n5 c5] 97)) := ⟨_, Lib.hid rfl⟩
          have hbX : Below wo.heap.size wo X := by rw [HX.out]; exact (Below.refl _ wo).alloc (Nat.le_refl _) _
          have X0 : X.heap[wo.heap.size]? = some (.cells #[.int .i64 (pnAt ps j).1, .slice A5 n5 c5] 97 (0, 0)) := by rw [HX.out]; exact heap_new wo _
          have hsr := HQo.out.sm _ (pnAt_mem HJL.out)
          have HLX := LenAt.below HLo.out.1 HLo.out.2 hbX
          have HI := Lib.hid (RgRight_any A5 n5 c5 (pnAt ps j).2 X B (hr5.below (hbX.mono HQo.out.le)) (Nat.le_trans HQo.out.le hbX.size) hsr.fits (by have := hsr.1; have := hr5.1; omega) HLX.1 HLX.2)
          have HBX : Hid (Below W.heap.size W X) := Lib.hid (HBo.out.trans (hbX.mono hzo))
          obtain ⟨y0, y1, _⟩ := row2 X0
          obtain ⟨pj, HPJ⟩ : ∃ pj, Hid ((pnAt ps j).1 = pj) := ⟨_, Lib.hid rfl⟩
          rw [HPJ.out] at p0 y0 HX
          clear hr5 hsr hbX X0 HLX
          go_upto_region 10 with fail
          change Code.wp _ _ _ _ (wo.alloc (.cells #[.int .i64 pj, .slice A5 n5 c5] 97))
          rw [← HX.out]
          clear p0 p1
          go_wp2_with fail
          refine HI.out.mono ?_
          rintro e w1 ⟨rfl, hb⟩
          have HB1 : Hid (Below W.heap.size W w1) := Lib.hid (HBX.out.trans (hb.mono HBX.out.size))
          clear hb y0 y1 HI
          cases hq : rightR (pnAt ps j).2 with
          | false =>
            have HF : Hid ((modB ms && pinsB ps) = false) := Lib.hid (by
              rw [show pinsB ps = false from all_no HJL.out hq, Bool.and_false])
            clear hq
            go_wp2_with fail
            refine bodyPost_ret (results_tmp rfl _ _ _) rfl ⟨?_, HBL.out.trans (HB1.out.mono HBL.out.size)⟩
            exact congrArg (fun b => Ending.returned (.bool b)) HF.out.symm
          | true =>
            have HQ1 := Lib.hid hq
            clear hq
            go_wp2_with fail
            go_roundw
            case rel => exact ⟨j + 1, by omega, by go_num, HB1, Lib.hid (fun i hi => by
              by_cases e : i = j
              · subst e; exact HQ1.out
              · exact HPK.out i (by omega))⟩
            case measure => simp [intOf]; omega
        · have hd2 : decide ((j : Int) < (np : Int)) = false := by simp; omega
          have HF : Hid ((modB ms && pinsB ps) = true) := Lib.hid (by
            rw [HMB.out, show pinsB ps = true from all_ix (fun i hi => HPK.out i (by have := HPL.out; omega))]; rfl)
          go_wp2_with fail
          refine bodyPost_ret (results_tmp rfl _ _ _) rfl ⟨?_, HBL.out.trans (HBo.out.mono HBL.out.size)⟩
          exact congrArg (fun b => Ending.returned (.bool b)) HF.out.symm
set_option maxHeartbeats 8000000 in
theorem chk_any {w : World} {B B2 B3 n c m c2 np cp nm cm : Nat} {A A2 Ap Am : Option Addr} {l : List Sv} {vs : List Int} {ps : List Nd} {ms : List Int} (h : CatAt w B A n c l) (hlv : LevOK l) (hv : Rd w B2 A2 m vs) (hB2 : B2 ≤ w.heap.size) (hq : ReqAt w B3 Ap np Am nm ps ms) :
    Calls Tryz.prog 37 #[.agg #[.slice A n c], .slice A2 m c2, .agg #[.slice Ap np cp, .slice Am nm cm]] w fun e w' => e = .returned (.int .i64 (chkR l vs ps ms)) ∧ Below w.heap.size w w' := by
  obtain ⟨W, HW⟩ : ∃ W, Hid (W = (w.alloc (.cells #[.slice A n c] 24)).alloc (.cells #[.slice Ap np cp, .slice Am nm cm] 46)) := ⟨_, Lib.hid rfl⟩
  have hbl : Below w.heap.size w W := by rw [HW.out]; exact ((Below.refl _ w).alloc (Nat.le_refl _) _).alloc (by simp) _
  have HBL := Lib.hid hbl
  have HZ : Hid (W.heap.size = w.heap.size + 2) := Lib.hid (by rw [HW.out]; simp)
  have H0 : Hid (W.heap[w.heap.size]? = some (.cells #[.slice A n c] 24 (0, 0))) := Lib.hid (by
    rw [HW.out, Below.heap_alloc _ _ _ (by simp)]; exact heap_new w _)
  have H1 : Hid (W.heap[w.heap.size + 1]? = some (.cells #[.slice Ap np cp, .slice Am nm cm] 46 (0, 0))) := Lib.hid (by
    rw [HW.out]
    have h := heap_new (w.alloc (.cells #[.slice A n c] 24)) (.cells #[.slice Ap np cp, .slice Am nm cm] 46)
    rw [World.size_alloc] at h; exact h)
  have HQ := Lib.hid (hq.below hbl)
  have HA := Lib.hid (h.below hbl)
  have HAR := Lib.hid (areRel_any (c2 := c2) (h.below hbl) hlv (hv.below (hbl.mono hB2)) (Nat.le_trans hB2 hbl.size))
  have HPL : Hid (ps.length = np) := Lib.hid hq.pd.1
  have HML : Hid (ms.length = nm) := Lib.hid hq.md.len
  have HNL : Hid (l.length = n) := Lib.hid h.rd.1
  have hnp := hq.np
  clear h hv hq hbl
  obtain ⟨x0, _⟩ := row1f H0.out
  go_enter Tryz.func37, Tryz.ntmps37
  go_upto_region 1 with fail
  change Code.wp _ _ _ _ ((w.alloc (.cells #[.slice A n c] 24)).alloc (.cells #[.slice Ap np cp, .slice Am nm cm] 46))
  rw [← HW.out]
  go_wp2_with fail
  refine HAR.out.mono ?_
  rintro e w1 ⟨rfl, hb⟩
  have HB1 : Hid (Below W.heap.size W w1) := Lib.hid hb
  have HQ1 := Lib.hid (HQ.out.below hb)
  have HA1 := Lib.hid (HA.out.below hb)
  have K0 : Hid (w1.heap[w.heap.size]? = _) := Lib.hid ((hb.block w.heap.size (heapE_lt H0.out)).trans H0.out)
  have K1 : Hid (w1.heap[w.heap.size + 1]? = _) := Lib.hid ((hb.block (w.heap.size + 1) (heapE_lt H1.out)).trans H1.out)
  have HW1 : Hid (Below w.heap.size w w1) := Lib.hid (HBL.out.trans (hb.mono HBL.out.size))
  clear hb HAR x0
  cases hs : setB l vs with
  | false =>
    have HV : Hid (chkR l vs ps ms = 42) := Lib.hid (by unfold chkR; rw [if_pos hs])
    clear hs
    go_wp2_with fail
    refine bodyPost_ret (results_tmp rfl _ _ _) rfl ⟨?_, HW1.out⟩
    exact congrArg (fun b => Ending.returned (.int .i64 b)) HV.out.symm
  | true =>
    have HV1 : Hid (chkR l vs ps ms = if 24 < ps.length ∨ ms.length ≠ l.length then 36 else if (modB ms && pinsB ps) = false then 12 else if svcB l ps = false then 33 else 0) := Lib.hid (by unfold chkR; rw [hs]; rfl)
    clear hs
    obtain ⟨y0, _⟩ := row1f K0.out
    obtain ⟨z0, z1, _⟩ := row2 K1.out
    by_cases h24 : 24 < np
    · have d1 : decide ((24 : Int) < (np : Int)) = true := by simp; omega
      have HV : Hid (chkR l vs ps ms = 36) := Lib.hid (by rw [HV1.out, if_pos (.inl (by rw [HPL.out]; exact h24))])
      go_wp2_with fail
      refine bodyPost_ret (results_tmp rfl _ _ _) rfl ⟨?_, HW1.out⟩
      exact congrArg (fun b => Ending.returned (.int .i64 b)) HV.out.symm
    have d1 : decide ((24 : Int) < (np : Int)) = false := by simp; omega
    by_cases hmn : nm = n
    rotate_left
    · have d2 : ((nm : Int) != (n : Int)) = true := by rw [bne_iff_ne]; omega
      have HV : Hid (chkR l vs ps ms = 36) := Lib.hid (by rw [HV1.out, if_pos (.inr (by rw [HML.out, HNL.out]; exact hmn))])
      go_wp2_with fail
      refine bodyPost_ret (results_tmp rfl _ _ _) rfl ⟨?_, HW1.out⟩
      exact congrArg (fun b => Ending.returned (.int .i64 b)) HV.out.symm
    have HNM : Hid (nm = n) := Lib.hid hmn
    have d2 : ((nm : Int) != (n : Int)) = false := by rw [bne_eq_false_iff_eq]; omega
    have HV2 : Hid (chkR l vs ps ms = if (modB ms && pinsB ps) = false then 12 else if svcB l ps = false then 33 else 0) := Lib.hid (by
      rw [HV1.out, if_neg]
      rw [HPL.out, HML.out, HNL.out]; omega)
    clear hmn HV1
    have HFO := Lib.hid (formed_any (cp := cp) (cm := cm) HQ1.out HA1.out.len HA1.out.one)
    go_wp2_with fail
    refine HFO.out.mono ?_
    rintro e w2 ⟨rfl, hb⟩
    have HB2 : Hid (Below W.heap.size W w2) := Lib.hid (HB1.out.trans (hb.mono HB1.out.size))
    have HQ2 := Lib.hid (HQ1.out.below hb)
    have K20 : Hid (w2.heap[w.heap.size]? = _) := Lib.hid ((hb.block w.heap.size (heapE_lt K0.out)).trans K0.out)
    have K21 : Hid (w2.heap[w.heap.size + 1]? = _) := Lib.hid ((hb.block (w.heap.size + 1) (heapE_lt K1.out)).trans K1.out)
    have HW2 : Hid (Below w.heap.size w w2) := Lib.hid (HW1.out.trans (hb.mono HW1.out.size))
    clear hb HFO y0 z0 z1 d1 d2 h24
    cases hs : (modB ms && pinsB ps) with
    | false =>
      have HV : Hid (chkR l vs ps ms = 12) := Lib.hid (by rw [HV2.out, if_pos hs])
      clear hs
      go_wp2_with fail
      refine bodyPost_ret (results_tmp rfl _ _ _) rfl ⟨?_, HW2.out⟩
      exact congrArg (fun b => Ending.returned (.int .i64 b)) HV.out.symm
    | true =>
      have HV3 : Hid (chkR l vs ps ms = if svcB l ps = false then 33 else 0) := Lib.hid (by rw [HV2.out, if_neg (by rw [hs]; decide)])
      clear hs HV2
      obtain ⟨z0, z1, _⟩ := row2 K21.out
      go_wp2_with fail
      clear z0 z1
      go_loopw [8, 35] (fun _ v wr => ∃ j : Nat, j ≤ np ∧ v = .int .i64 (j : Int) ∧ Hid (Below w2.heap.size w2 wr) ∧ Hid (∀ i, i < j → isS l (pnAt ps i).1 = true)) (fun _ v _ => np - (intOf v).toNat)
      case atStart => exact ⟨0, Nat.zero_le _, rfl, Lib.hid (Below.refl _ _), Lib.hid (fun i h => absurd h (by omega))⟩
      case round =>
        obtain ⟨wo, hwo⟩ : ∃ x, x = wr := ⟨_, rfl⟩
        subst hwo
        obtain ⟨j, hj, rfl, HBo, HPK⟩ := hrel
        have hzo := HBo.out.size
        have HWo : Hid (Below w.heap.size w wo) := Lib.hid (HW2.out.trans (HBo.out.mono HW2.out.size))
        by_cases hjn : j < np
        · have hd2 : decide ((j : Int) < (np : Int)) = true := by simp; omega
          have hji : (j : Int) < (np : Int) := by omega
          have hj0 : (0 : Int) ≤ (j : Int) := by omega
          have hadd2 : IntKind.i64.wrap ((j : Int) + 1) = ((j + 1 : Nat) : Int) := by rw [IntWalk.i64_in _ (by omega)]; omega
          have HQo := Lib.hid (HQ2.out.below HBo.out)
          have HJL : Hid (j < ps.length) := Lib.hid (by rw [HPL.out]; exact hjn)
          have Ko : Hid (wo.heap[w.heap.size]? = _) := Lib.hid ((HBo.out.block w.heap.size (heapE_lt K20.out)).trans K20.out)
          obtain ⟨b4, o4, A5, n5, c5, rfl, hb4, p0, p1, hcap5, hr5⟩ := nd_at HQo.out.pd hjn
          obtain ⟨pj, HPJ⟩ : ∃ pj, Hid ((pnAt ps j).1 = pj) := ⟨_, Lib.hid rfl⟩
          rw [HPJ.out] at p0
          obtain ⟨X, HX⟩ : ∃ X, Hid (X = wo.alloc (.cells #[.int .i64 pj, .slice A5 n5 c5] 97)) := ⟨_, Lib.hid rfl⟩
          have hbX : Below wo.heap.size wo X := by rw [HX.out]; exact (Below.refl _ wo).alloc (Nat.le_refl _) _
          have X0 : X.heap[wo.heap.size]? = some (.cells #[.int .i64 pj, .slice A5 n5 c5] 97 (0, 0)) := by rw [HX.out]; exact heap_new wo _
          have HI := Lib.hid (sIs_any (w := X) (c := c) (A := A) pj HNL.out)
          have HBX : Hid (Below w2.heap.size w2 X) := Lib.hid (HBo.out.trans (hbX.mono hzo))
          have HWX : Hid (Below w.heap.size w X) := Lib.hid (HWo.out.trans (hbX.mono HWo.out.size))
          obtain ⟨u0, _⟩ := row1f ((hbX.block w.heap.size (heapE_lt Ko.out)).trans Ko.out)
          obtain ⟨y0, y1, _⟩ := row2 X0
          clear hr5 hbX X0 y1
          go_upto_region 10 with fail
          change Code.wp _ _ _ _ (wo.alloc (.cells #[.int .i64 pj, .slice A5 n5 c5] 97))
          rw [← HX.out]
          clear p0 p1
          go_wp2_with fail
          refine HI.out.mono ?_
          rintro e w3 ⟨rfl, hb⟩
          have HB3 : Hid (Below w2.heap.size w2 w3) := Lib.hid (HBX.out.trans (hb.mono HBX.out.size))
          have HW3 : Hid (Below w.heap.size w w3) := Lib.hid (HWX.out.trans (hb.mono HWX.out.size))
          clear hb y0 u0 HI
          cases hq : isS l pj with
          | false =>
            have HF : Hid (chkR l vs ps ms = 33) := Lib.hid (by
              rw [HV3.out, if_pos (show svcB l ps = false from all_no HJL.out (by show isS l (pnAt ps j).1 = false; rw [HPJ.out]; exact hq))])
            clear hq
            go_wp2_with fail
            refine bodyPost_ret (results_tmp rfl _ _ _) rfl ⟨?_, HW3.out⟩
            exact congrArg (fun b => Ending.returned (.int .i64 b)) HF.out.symm
          | true =>
            have HQ1 := Lib.hid hq
            clear hq
            go_wp2_with fail
            go_roundw
            case rel => exact ⟨j + 1, by omega, by go_num, HB3, Lib.hid (fun i hi => by
              by_cases e : i = j
              · subst e; rw [HPJ.out]; exact HQ1.out
              · exact HPK.out i (by omega))⟩
            case measure => simp [intOf]; omega
        · have hd2 : decide ((j : Int) < (np : Int)) = false := by simp; omega
          have HF : Hid (chkR l vs ps ms = 0) := Lib.hid (by
            rw [HV3.out, if_neg]
            rw [show svcB l ps = true from all_ix (fun i hi => HPK.out i (by have := HPL.out; omega))]; decide)
          go_wp2_with fail
          refine bodyPost_ret (results_tmp rfl _ _ _) rfl ⟨?_, HWo.out⟩
          exact congrArg (fun b => Ending.returned (.int .i64 b)) HF.out.symm
set_option maxHeartbeats 8000000 in
theorem pinned_any {w : World} {B B3 n c np cp nm cm i vv : Nat} {A Ap Am : Option Addr} {l : List Sv} {ps : List Nd} {ms : List Int} (h : CatAt w B A n c l) (hq : ReqAt w B3 Ap np Am nm ps ms) (hi : i < n) (hv : vv < (svAt l i).2.length) :
    Calls Tryz.prog 65 #[.agg #[.slice Ap np cp, .slice Am nm cm], .agg #[.slice A n c], .int .i64 (i : Int), .int .i64 (vv : Int)] w fun e w' => e = .returned (.bool (pinR l ps i vv)) ∧ Below w.heap.size w w' := by
  obtain ⟨W, HW⟩ : ∃ W, Hid (W = (w.alloc (.cells #[.slice Ap np cp, .slice Am nm cm] 46)).alloc (.cells #[.slice A n c] 24)) := ⟨_, Lib.hid rfl⟩
  have hbl : Below w.heap.size w W := by rw [HW.out]; exact ((Below.refl _ w).alloc (Nat.le_refl _) _).alloc (by simp) _
  have HBL := Lib.hid hbl
  have HZ : Hid (W.heap.size = w.heap.size + 2) := Lib.hid (by rw [HW.out]; simp)
  have H0 : Hid (W.heap[w.heap.size]? = some (.cells #[.slice Ap np cp, .slice Am nm cm] 46 (0, 0))) := Lib.hid (by
    rw [HW.out, Below.heap_alloc _ _ _ (by simp)]; exact heap_new w _)
  have H1 : Hid (W.heap[w.heap.size + 1]? = some (.cells #[.slice A n c] 24 (0, 0))) := Lib.hid (by
    rw [HW.out]
    have h := heap_new (w.alloc (.cells #[.slice Ap np cp, .slice Am nm cm] 46)) (.cells #[.slice A n c] 24)
    rw [World.size_alloc] at h; exact h)
  have HQ := Lib.hid (hq.below hbl)
  have HA := Lib.hid (h.below hbl)
  have HPL : Hid (ps.length = np) := Lib.hid hq.pd.1
  have HNL : Hid (l.length = n) := Lib.hid h.rd.1
  have HSV := Lib.hid (h.sm.2 _ (svAt_mem (i := i) (by rw [HNL.out]; exact hi)))
  have HVL := Lib.hid hv
  have hnp := hq.np
  have hn16 := h.n16
  clear h hq hbl hv
  obtain ⟨x0, x1, _⟩ := row2 H0.out
  go_enter Tryz.func65, Tryz.ntmps65
  go_upto_region 1 with fail
  change Code.wp _ _ _ _ ((w.alloc (.cells #[.slice Ap np cp, .slice Am nm cm] 46)).alloc (.cells #[.slice A n c] 24))
  rw [← HW.out]
  go_wp2_with fail
  clear x0 x1
  go_loopw [10, 14] (fun _ v wr => ∃ j : Nat, j ≤ np ∧ v = .int .i64 (j : Int) ∧ Hid (Below W.heap.size W wr) ∧ Hid (∀ q, q < j → pinP l i vv (pnAt ps q) = true)) (fun _ v _ => np - (intOf v).toNat)
  case atStart => exact ⟨0, Nat.zero_le _, rfl, Lib.hid (Below.refl _ _), Lib.hid (fun i h => absurd h (by omega))⟩
  case round =>
    obtain ⟨wo, hwo⟩ : ∃ x, x = wr := ⟨_, rfl⟩
    subst hwo
    obtain ⟨j, hj, rfl, HBo, HPK⟩ := hrel
    have hzo := HBo.out.size
    have HWo : Hid (Below w.heap.size w wo) := Lib.hid (HBL.out.trans (HBo.out.mono HBL.out.size))
    by_cases hjn : j < np
    · have hd2 : decide ((j : Int) < (np : Int)) = true := by simp; omega
      have hji : (j : Int) < (np : Int) := by omega
      have hj0 : (0 : Int) ≤ (j : Int) := by omega
      have hadd2 : IntKind.i64.wrap ((j : Int) + 1) = ((j + 1 : Nat) : Int) := by rw [IntWalk.i64_in _ (by omega)]; omega
      have HQo := Lib.hid (HQ.out.below HBo.out)
      have HAo := Lib.hid (HA.out.below HBo.out)
      have HJL : Hid (j < ps.length) := Lib.hid (by rw [HPL.out]; exact hjn)
      have Ko : Hid (wo.heap[w.heap.size + 1]? = _) := Lib.hid ((HBo.out.block (w.heap.size + 1) (heapE_lt H1.out)).trans H1.out)
      obtain ⟨b4, o4, A5, n5, c5, rfl, hb4, p0, p1, hcap5, hr5⟩ := nd_at HQo.out.pd hjn
      obtain ⟨pj, HPJ⟩ : ∃ pj, Hid ((pnAt ps j).1 = pj) := ⟨_, Lib.hid rfl⟩
      rw [HPJ.out] at p0
      obtain ⟨X, HX⟩ : ∃ X, Hid (X = wo.alloc (.cells #[.int .i64 pj, .slice A5 n5 c5] 97)) := ⟨_, Lib.hid rfl⟩
      have hbX : Below wo.heap.size wo X := by rw [HX.out]; exact (Below.refl _ wo).alloc (Nat.le_refl _) _
      have HX0 : Hid (X.heap[wo.heap.size]? = some (.cells #[.int .i64 pj, .slice A5 n5 c5] 97 (0, 0))) := Lib.hid (by rw [HX.out]; exact heap_new wo _)
      have HBX : Hid (Below W.heap.size W X) := Lib.hid (HBo.out.trans (hbX.mono hzo))
      have HWX : Hid (Below w.heap.size w X) := Lib.hid (HWo.out.trans (hbX.mono HWo.out.size))
      have KX : Hid (X.heap[w.heap.size + 1]? = _) := Lib.hid ((hbX.block (w.heap.size + 1) (heapE_lt Ko.out)).trans Ko.out)
      have HAX := Lib.hid (HAo.out.below hbX)
      have HRX : Hid (RdR X B3 A5 n5 (pnAt ps j).2) := Lib.hid (hr5.below (hbX.mono HQo.out.le))
      have HBB : Hid (B3 ≤ X.heap.size) := Lib.hid (Nat.le_trans HQo.out.le hbX.size)
      have HSR := Lib.hid (HQo.out.sm _ (pnAt_mem HJL.out))
      have hzX : X.heap.size = wo.heap.size + 1 := by rw [HX.out]; simp
      obtain ⟨y0, y1, _⟩ := row2 HX0.out
      have hzXl : wo.heap.size < X.heap.size := by omega
      clear hr5 hbX hzX
      go_upto_region 4 with fail
      change Code.wp _ _ _ _ (wo.alloc (.cells #[.int .i64 pj, .slice A5 n5 c5] 97))
      rw [← HX.out]
      clear p0 p1
      by_cases hpi : pj = (i : Int)
      · subst hpi
        have h3 : ((i : Int) == (i : Int)) = true := by simp
        have hii : (i : Int) < (n : Int) := by omega
        have hi0 : (0 : Int) ≤ (i : Int) := by omega
        have hv0 : (0 : Int) ≤ (vv : Int) := by omega
        obtain ⟨b1, o1, Ai, ni, ci, rfl, hb1, _, k1, _, hri⟩ := sv_at HAX.out.rd hi
        have hvi : vv < ni := by rw [← hri.1]; exact HVL.out
        have hvI : (vv : Int) < (ni : Int) := by omega
        obtain ⟨b2, o2, A3, n3, c3, rfl, hb2, q0, q1, q2, q3, _, _, _, _⟩ := rl_at hri hvi
        have hsx := HSV.out.2.2 _ (rlAt_mem HVL.out)
        obtain ⟨y, HY⟩ : ∃ y, Hid (rlAt (svAt l i).2 vv = y) := ⟨_, Lib.hid rfl⟩
        rw [HY.out] at q0 q1 q2 q3 hsx
        obtain ⟨⟨va, vb, vc, vs⟩, lv, nd2⟩ := y
        simp only at q0 q1 q2 q3
        have HVS : Hid (vs.size ≤ 100) := Lib.hid hsx.2.1
        have hb1w : b1 < X.heap.size := by have := HAX.out.le; omega
        have hb2w : b2 < X.heap.size := by have := HAX.out.le; omega
        have HP : Hid (pinP l i vv (pnAt ps j) = hasR (pnAt ps j).2 ⟨va, vb, vc, bs vs⟩) := Lib.hid (by
          unfold pinP
          rw [HPJ.out, HY.out, decide_eq_true rfl]; rfl)
        have hrd : RdR (X.drewN 1) B3 A5 n5 (pnAt ps j).2 := HRX.out
        have HI := Lib.hid (RgHas_any A5 n5 c5 (pnAt ps j).2 va vb vc vs (X.drewN 1) B3 hrd HBB.out HSR.out.fits (by have := HVS.out; omega) (by have := HSR.out.1; have := HRX.out.1; omega) HAX.out.len HAX.out.one)
        obtain ⟨u0, _⟩ := row1f KX.out
        clear hri hsx hrd
        go_wp2_with fail
        go_region_held3 (fun W' => W'.cell? ⟨wo.heap.size, 0, none⟩ = some (.int .i64 (i : Int)) ∧ W'.cell? ⟨wo.heap.size, 1, none⟩ = some (.slice A5 n5 c5) ∧ W'.cell? ⟨w.heap.size + 1, 0, none⟩ = some (.slice (some ⟨b1, o1, none⟩) n c) ∧ W'.cell? ⟨b1, o1 + i * 2 + 1, none⟩ = some (.slice (some ⟨b2, o2, none⟩) ni ci) ∧ W'.cell? ⟨b2, o2 + vv * 6, none⟩ = some (.int .i64 va) ∧ W'.cell? ⟨b2, o2 + vv * 6 + 1, none⟩ = some (.int .i64 vb) ∧ W'.cell? ⟨b2, o2 + vv * 6 + 2, none⟩ = some (.int .i64 vc) ∧ W'.cell? ⟨b2, o2 + vv * 6 + 3, none⟩ = some (.string vs)) ((first | exact ⟨y0, y1, u0, k1, q0, q1, q2, q3⟩ | exact ⟨z0, z1, z2, z3, z4, z5, z6, z7⟩ | go_keep)) (first
          | (go_at_call 80; refine HI.out.mono ?_; rintro e w1 ⟨rfl, hb'⟩; (have hb : Below X.heap.size X w1 := (Below.drewN' (Below.refl _ X) 1).trans hb'); (have z0 := (hb.cell (p := ⟨wo.heap.size, 0, none⟩) hzXl).trans y0); (have z1 := (hb.cell (p := ⟨wo.heap.size, 1, none⟩) hzXl).trans y1); (have z2 := (hb.cell (p := ⟨w.heap.size + 1, 0, none⟩) (heapE_lt KX.out)).trans u0); (have z3 := (hb.cell (p := ⟨b1, o1 + i * 2 + 1, none⟩) hb1w).trans k1); (have z4 := (hb.cell (p := ⟨b2, o2 + vv * 6, none⟩) hb2w).trans q0); (have z5 := (hb.cell (p := ⟨b2, o2 + vv * 6 + 1, none⟩) hb2w).trans q1); (have z6 := (hb.cell (p := ⟨b2, o2 + vv * 6 + 2, none⟩) hb2w).trans q2); (have z7 := (hb.cell (p := ⟨b2, o2 + vv * 6 + 3, none⟩) hb2w).trans q3); (have HBW := Lib.hid hb); clear hb hb'))
        have HB1 : Hid (Below w.heap.size w w1 ∧ Below W.heap.size W w1) := Lib.hid ⟨HWX.out.trans (HBW.out.mono HWX.out.size), HBX.out.trans (HBW.out.mono HBX.out.size)⟩
        clear z0 z1 z2 z3 z4 z5 z6 z7 y0 y1 u0 k1 q0 q1 q2 q3 HBW HI
        cases hq : hasR (pnAt ps j).2 ⟨va, vb, vc, bs vs⟩ with
        | false =>
          have HF : Hid (pinR l ps i vv = false) := Lib.hid (all_no HJL.out (by rw [← hq]; exact HP.out))
          clear hq
          go_wp2_with fail
          refine bodyPost_ret (results_tmp rfl _ _ _) rfl ⟨?_, HB1.out.1⟩
          exact congrArg (fun b => Ending.returned (.bool b)) HF.out.symm
        | true =>
          have HQ1 := Lib.hid hq
          clear hq
          go_wp2_with fail
          go_roundw
          case rel => exact ⟨j + 1, by omega, by go_num, Lib.hid HB1.out.2, Lib.hid (fun q hq => by
            by_cases e : q = j
            · subst e; rw [HP.out]; exact HQ1.out
            · exact HPK.out q (by omega))⟩
          case measure => simp [intOf]; omega
      · have h3 : (pj == (i : Int)) = false := by rw [beq_eq_false_iff_ne]; exact hpi
        have HP : Hid (pinP l i vv (pnAt ps j) = true) := Lib.hid (by
          unfold pinP
          rw [HPJ.out, decide_eq_false hpi]; rfl)
        go_wp2_with fail
        go_quiet (fail)
        go_wp2_with fail
        go_roundw
        case rel => exact ⟨j + 1, by omega, by go_num, Lib.hid (by first | exact HBX.out | exact Below.drewN' HBX.out _), Lib.hid (fun q hq => by
          by_cases e : q = j
          · subst e; exact HP.out
          · exact HPK.out q (by omega))⟩
        case measure => simp [intOf]; omega
    · have hd2 : decide ((j : Int) < (np : Int)) = false := by simp; omega
      have HF : Hid (pinR l ps i vv = true) := Lib.hid (all_ix (fun q hq => HPK.out q (by have := HPL.out; omega)))
      go_wp2_with fail
      refine bodyPost_ret (results_tmp rfl _ _ _) rfl ⟨?_, HWo.out⟩
      exact congrArg (fun b => Ending.returned (.bool b)) HF.out.symm
end Go.Proofs.YtlodledcglleiaaGreat
