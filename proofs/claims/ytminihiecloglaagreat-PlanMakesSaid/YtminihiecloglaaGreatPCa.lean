/-
  MERGED: PEq PLd PCh.
-/
import Derived.Test.YtminihiecloglaaGreatPCl
import Derived.Test.YtminihiecloglaaGreatPMk
import Derived.Test.YtminihiecloglaaGreatDCirc
namespace Go.Proofs.YtminihiecloglaaGreat
open Go.RowKit
open SemP FlP GaP DiP
set_option linter.unusedVariables false
set_option linter.unusedSimpArgs false
set_option maxRecDepth 10000
theorem neSt (a b c d : Int) (W : World) : (binOp .neq 64 (.agg #[.int .i64 a, .int .i64 b]) (.agg #[.int .i64 c, .int .i64 d])).run Tryz.prog W = .ok (.bool (!((a == c) && (b == d)))) W := by
  have u3 := Tryz.underlying3
  have a3 := Tryz.isAgg3
  have z3 := Tryz.sizeOf3
  have hS : Tryz.prog.underlying 64 = some (.struct (Tryz.prog.fieldsOf 64)) := by kernel_rfl
  have hp : Tryz.prog.stoodInHeld 64 = false := by kernel_rfl
  rw [run_neq_struct, show (10000 : Nat) = 9999 + 1 from rfl, run_equalIn_agg W 9999 64 _ _ hS hp]
  simp only [Program.fieldsOf, Tryz.underlying64]
  go_simp
  by_cases h1 : a = c <;> by_cases h2 : b = d <;> simp [h1, h2]
theorem steps_ext {a b : List StP} (hl : a.length = b.length) (h : ∀ i < a.length, sAt a i = sAt b i) : a = b := by
  apply List.ext_getElem hl
  intro i h1 h2
  have := h i h1
  simpa [sAt, List.getD, h1, h2] using this
set_option maxHeartbeats 4000000 in
theorem equalS_any {w : World} {B B2 n m c d : Nat} {A A2 : Option Addr} {S T : List StP} (hS : RdS w B A n S) (hT : RdS w B2 A2 m T) (hB : B ≤ w.heap.size) (hB2 : B2 ≤ w.heap.size) (hn : n ≤ 1000000) (hm : m ≤ 1000000) :
    Calls Tryz.prog 51 #[.slice A n c, .slice A2 m d] w fun e w' => e = .returned (.bool (decide (S = T))) ∧ Below w.heap.size w w' := by
  have HX := Lib.hid hS
  have HY := Lib.hid hT
  have HXL := Lib.hid hS.len
  have HYL := Lib.hid hT.len
  have HB := Lib.hid hB
  have HB2 := Lib.hid hB2
  clear hS hT hB hB2
  by_cases hmn : n = m
  rotate_left
  · have hne : ((n : Int) != (m : Int)) = true := by rw [bne_iff_ne]; omega
    have HF : Hid (decide (S = T) = false) := Lib.hid (decide_eq_false (fun e => hmn (by rw [← HXL.out, ← HYL.out, e])))
    go_enter Tryz.func51, Tryz.ntmps51
    go_wp2_with fail
    refine bodyPost_ret (results_tmp rfl _ _ _) rfl ⟨?_, Below.refl _ _⟩
    exact congrArg (fun b => Ending.returned (.bool b)) HF.out.symm
  subst hmn
  go_enter Tryz.func51, Tryz.ntmps51
  go_wp2_with fail
  go_loopw [5, 13] (fun _ v wr => ∃ k : Nat, k ≤ n ∧ v = .int .i64 (k : Int) ∧ Hid (Below w.heap.size w wr) ∧ Hid (∀ i, i < k → sAt S i = sAt T i)) (fun _ v _ => n - (intOf v).toNat)
  case atStart => exact ⟨0, Nat.zero_le _, rfl, Lib.hid (Below.refl _ _), Lib.hid (fun i h => absurd h (by omega))⟩
  case round =>
    obtain ⟨wo, hwo⟩ : ∃ x, x = wr := ⟨_, rfl⟩
    subst hwo
    obtain ⟨k, hk, rfl, HBo, HOK⟩ := hrel
    by_cases hkn : k < n
    · have hd : decide ((k : Int) < (n : Int)) = true := by simp; omega
      have hki : (k : Int) < (n : Int) := by omega
      have hk0 : (0 : Int) ≤ (k : Int) := by omega
      have hadd : IntKind.i64.wrap ((k : Int) + 1) = ((k + 1 : Nat) : Int) := by rw [IntWalk.i64_in _ (by omega)]; omega
      obtain ⟨b1, o1, rfl, _, s0, s1⟩ := (HX.out.below (HBo.out.mono HB.out) HB.out).at_ k hkn
      obtain ⟨b2, o2, rfl, _, t0, t1⟩ := (HY.out.below (HBo.out.mono HB2.out) HB2.out).at_ k hkn
      obtain ⟨p1, p2, HP⟩ : ∃ q1 q2, Hid (sAt S k = (q1, q2)) := ⟨_, _, Lib.hid rfl⟩
      obtain ⟨q1, q2, HQ⟩ : ∃ q1 q2, Hid (sAt T k = (q1, q2)) := ⟨_, _, Lib.hid rfl⟩
      rw [HP.out] at s0 s1
      rw [HQ.out] at t0 t1
      replace s0 : wo.cell? ⟨b1, o1 + k * 2, none⟩ = some (.int .i64 p1) := s0
      replace s1 : wo.cell? ⟨b1, o1 + k * 2 + 1, none⟩ = some (.int .i64 p2) := s1
      replace t0 : wo.cell? ⟨b2, o2 + k * 2, none⟩ = some (.int .i64 q1) := t0
      replace t1 : wo.cell? ⟨b2, o2 + k * 2 + 1, none⟩ = some (.int .i64 q2) := t1
      by_cases he : p1 = q1 ∧ p2 = q2
      · obtain ⟨rfl, rfl⟩ := he
        have hEq := fun W => neSt p1 p2 p1 p2 W
        simp only [beq_self_eq_true, Bool.and_self, Bool.not_true] at hEq
        have HE : Hid (sAt S k = sAt T k) := Lib.hid (by rw [HP.out, HQ.out])
        go_wp2_with fail
        go_quiet (fail)
        go_wp2_with fail
        go_roundw
        case rel => exact ⟨k + 1, by omega, by go_num, Lib.hid (by first | exact HBo.out | exact Below.drewN' HBo.out _), Lib.hid (fun i hi => by
          by_cases e : i = k
          · subst e; exact HE.out
          · exact HOK.out i (by omega))⟩
        case measure => simp [intOf]; omega
      · have hne : ((p1 == q1) && (p2 == q2)) = false := by rw [← Bool.not_eq_true, Bool.and_eq_true, beq_iff_eq, beq_iff_eq]; exact he
        have hEq := fun W => neSt p1 p2 q1 q2 W
        simp only [hne, Bool.not_false] at hEq
        have HF : Hid (decide (S = T) = false) := Lib.hid (decide_eq_false (fun e => he (by
          have h1 := HP.out
          rw [e, HQ.out] at h1
          injection h1 with h1 h2
          exact ⟨h1.symm, h2.symm⟩)))
        clear he
        go_wp2_with fail
        go_quiet (fail)
        go_wp2_with fail
        refine bodyPost_ret (results_tmp rfl _ _ _) rfl ⟨?_, by first | exact HBo.out | exact Below.drewN' HBo.out _⟩
        exact congrArg (fun b => Ending.returned (.bool b)) HF.out.symm
    · have hd : decide ((k : Int) < (n : Int)) = false := by simp; omega
      have HF : Hid (decide (S = T) = true) := Lib.hid (decide_eq_true (steps_ext (by rw [HXL.out, HYL.out]) (fun i hi => HOK.out i (by have := HXL.out; omega))))
      go_wp2_with fail
      refine bodyPost_ret (results_tmp rfl _ _ _) rfl ⟨?_, HBo.out⟩
      exact congrArg (fun b => Ending.returned (.bool b)) HF.out.symm
end Go.Proofs.YtminihiecloglaaGreat

namespace Go.Proofs.YtminihiecloglaaGreat
open Go.RowKit
open SemP FlP GaP DiP
set_option linter.unusedVariables false
set_option linter.unusedSimpArgs false
set_option maxRecDepth 10000
/-- A row of edges that can be read, cell by cell. -/
def EdF (w : World) (A : Option Addr) (n : Nat) (es : List (Nat × Nat)) : Prop := 0 < n → ∃ b off, A = some ⟨b, off, none⟩ ∧ b < w.heap.size ∧ ∀ j u, (es.flatMap egF)[j]? = some u → w.cell? ⟨b, off + j, none⟩ = some u
theorem EdF.below {w w' : World} {A : Option Addr} {n : Nat} {es : List (Nat × Nat)} (h : EdF w A n es) (hb : Below w.heap.size w w') : EdF w' A n es := fun h0 => by
  obtain ⟨b, off, e, hlt, hc⟩ := h h0
  exact ⟨b, off, e, Nat.lt_of_lt_of_le hlt hb.size, fun j u hj => (hb.cell (p := ⟨b, off + j, none⟩) hlt).trans (hc j u hj)⟩
theorem OwnF.edF {w : World} {base n c : Nat} {A : Option Addr} {es : List (Nat × Nat)} (h : OwnF 91 2 egF w base (.slice A n c) es) : EdF w A n es := fun h0 => by
  have hn : es.length = n := by obtain ⟨_, _, e⟩ := h.shape; injection e with _ e _; exact e.symm
  rcases h.2 with ⟨hv, hz⟩ | ⟨g', cap, cur, hv, hbg, hh, hlc, hcm, hcs, htk⟩
  · omega
  · injection hv with hv1 hv2 hv3
    refine ⟨g', 0, hv1, heapE_lt hh, fun j u hj => ?_⟩
    rw [Nat.zero_add]
    have hjl : j < es.length * 2 := by
      have := (List.getElem?_eq_some_iff.1 hj).1
      rw [flatF_len (f := egF) (z := 2) (fun _ => rfl)] at this
      exact this
    exact cells_of hh j u (by rw [← htk] at hj; rw [List.getElem?_take_of_lt hjl] at hj; exact hj)
theorem edge_reach {g : List (Nat × Nat)} {n k : Nat} (hi : InN n g) (hk : k < g.length) : bt (rchG n g (fa g k)) (fb g k) = true :=
  (rch_way hi (hi k hk).1).2 (by first | exact .edge ⟨k, hk, rfl, rfl⟩ | exact .one ⟨k, hk, rfl, rfl⟩ | exact .base ⟨k, hk, rfl, rfl⟩ | (constructor; exact ⟨k, hk, rfl, rfl⟩))
set_option maxHeartbeats 16000000 in
theorem leads_any {w : World} {B BF BT BS n c cF cT nS cS nE cE : Nat} {A AF AT AS AE : Option Addr} {l : List Sv} {fs ts : List Int} {S : List StP} {es : List (Nat × Nat)} (h : CatAt w B A n c l) (hf : Rd w BF AF n fs) (ht : Rd w BT AT n ts) (hS : RdS w BS AS nS S) (hBF : BF ≤ w.heap.size) (hBT : BT ≤ w.heap.size) (hBS : BS ≤ w.heap.size) (hSS : stL l fs ts = S) (hes : es = befP l fs ts S) (hE : EdF w AE nE es) (hel : es.length = nE) (hgo : Goes (befG es) nS nS) (hfl : fs.length = n) :
    Calls Tryz.prog 52 #[.agg #[.slice AF n cF, .slice AT n cT, .slice AS nS cS, .slice AE nE cE], .agg #[.slice A n c]] w fun e w' => e = .returned (.bool true) ∧ Below w.heap.size w w' := by
  obtain ⟨W, HW⟩ : ∃ W, Hid (W = (w.alloc (.cells #[.slice AF n cF, .slice AT n cT, .slice AS nS cS, .slice AE nE cE] 35)).alloc (.cells #[.slice A n c] 24)) := ⟨_, Lib.hid rfl⟩
  have hbl : Below w.heap.size w W := by rw [HW.out]; exact ((Below.refl _ w).alloc (Nat.le_refl _) _).alloc (by simp) _
  have HBL := Lib.hid hbl
  have HZ : Hid (W.heap.size = w.heap.size + 2) := Lib.hid (by rw [HW.out]; simp)
  have H0 : Hid (W.heap[w.heap.size]? = some (.cells #[.slice AF n cF, .slice AT n cT, .slice AS nS cS, .slice AE nE cE] 35 (0, 0))) := Lib.hid (by
    rw [HW.out, Below.heap_alloc _ _ _ (by simp)]; exact heap_new w _)
  have H1 : Hid (W.heap[w.heap.size + 1]? = some (.cells #[.slice A n c] 24 (0, 0))) := Lib.hid (by
    rw [HW.out]
    have h := heap_new (w.alloc (.cells #[.slice AF n cF, .slice AT n cT, .slice AS nS cS, .slice AE nE cE] 35)) (.cells #[.slice A n c] 24)
    rw [World.size_alloc] at h; exact h)
  have HN16 := Lib.hid h.n16
  have HA := Lib.hid (h.below hbl)
  have HF := Lib.hid (hf.below (hbl.mono hBF))
  have HTS := Lib.hid (ht.below (hbl.mono hBT))
  have HS := Lib.hid (hS.below (hbl.mono hBS) hBS)
  have HBF : Hid (BF ≤ W.heap.size) := Lib.hid (Nat.le_trans hBF hbl.size)
  have HBT : Hid (BT ≤ W.heap.size) := Lib.hid (Nat.le_trans hBT hbl.size)
  have HBS : Hid (BS ≤ W.heap.size) := Lib.hid (Nat.le_trans hBS hbl.size)
  have HNS : Hid (S.length = nS) := Lib.hid hS.len
  have HL48 : Hid (nS ≤ 48) := Lib.hid (by rw [← HNS.out, ← hSS]; have := stK_len l fs ts fs.length; have := HN16.out; unfold stL; omega)
  have H3S : Hid (∀ i : Nat, ((i : Int), (1 : Int)) ∈ S → ((i : Int), (2 : Int)) ∈ S ∧ ((i : Int), (3 : Int)) ∈ S) := Lib.hid (by
    rw [← hSS]
    intro i hi
    obtain ⟨i', hi', e, hne, hr⟩ := mem_stK.1 hi
    obtain rfl : i = i' := by have : (i : Int) = i' := e; omega
    have hr0 : rise l fs ts i ≠ 0 := by
      rcases hr with hr | hr
      · exact absurd (show (1 : Int) = 2 from hr) (by decide)
      · exact hr.1
    exact ⟨mem_stK.2 ⟨i, hi', rfl, hne, .inl rfl⟩, mem_stK.2 ⟨i, hi', rfl, hne, .inr ⟨hr0, .inr rfl⟩⟩⟩)
  have HIN : Hid (InN nS es) := Lib.hid (by
    intro k hk
    have hmem : es.getD k default ∈ befP l fs ts S := by rw [← hes]; exact getD_mem hk
    obtain ⟨h1, h2, _⟩ := mem_befP.1 hmem
    rw [HNS.out] at h1 h2
    exact ⟨h1, h2⟩)
  have HES := Lib.hid hes
  have HSS := Lib.hid hSS
  have HFL := Lib.hid hfl
  have HEL := Lib.hid hel
  have HGO := Lib.hid hgo
  have HED := Lib.hid (hE.below hbl)
  have HE288 : Hid (nE ≤ 288) := Lib.hid (by
    rw [← hel, hes, ← hSS]
    have hp : (befP l fs ts (stL l fs ts)).Perm ((ordQ l (stL l fs ts) fs ts fs.length fs.length).map (pl2 (stL l fs ts))) := by
      refine (List.perm_ext_iff_of_nodup ?_ ord_nodup).2 (fun p => (mem_ord_bef p).symm)
      unfold List.Nodup
      refine List.Pairwise.imp ?_ (befK_sorted l fs ts (stL l fs ts) (stL l fs ts).length)
      intro x y h e
      subst e
      exact ltP_irrefl _ h
    rw [hp.length_eq, List.length_map]
    exact Nat.le_trans (ordQ_len l _ fs ts fs.length fs.length) (mul18 (Nat.le_refl _) (by rw [hfl]; exact HN16.out)))
  clear h hf ht hS hbl hBF hBT hBS hes hSS hfl hel hgo hE
  have HGC := Lib.hid (graphP_any (w := W) (nF := n) (cF := cF) (nT := n) (cT := cT) (nS := nS) (cS := cS) (c := cE) (AF := AF) (AT := AT) (AS := AS) (A := AE) HEL.out (by have := HE288.out; omega) HED.out)
  go_enter Tryz.func52, Tryz.ntmps52
  go_upto_region 1 with fail
  change Code.wp _ _ _ _ ((w.alloc (.cells #[.slice AF n cF, .slice AT n cT, .slice AS nS cS, .slice AE nE cE] 35)).alloc (.cells #[.slice A n c] 24))
  rw [← HW.out]
  obtain ⟨y0, y1, y2, y3⟩ := row4 H0.out
  go_wp2_with fail
  refine HGC.out.mono ?_
  rintro e U ⟨A9, c9, rfl, hown9, hbU⟩
  have HBU := Lib.hid hbU
  have HO9 := Lib.hid hown9
  clear y0 y1 y2 y3 hown9 hbU HGC
  obtain ⟨V, HV⟩ : ∃ V, Hid (V = U.alloc (.cells #[.int .i64 (nS : Int), .slice A9 nE c9] 107)) := ⟨_, Lib.hid rfl⟩
  have HGV : Hid (V.heap[U.heap.size]? = some (.cells #[.int .i64 (nS : Int), .slice A9 nE c9] 107 (0, 0))) := Lib.hid (by rw [HV.out]; exact heap_new U _)
  have HBUV : Hid (Below U.heap.size U V) := Lib.hid (by rw [HV.out]; exact (Below.refl _ U).alloc (Nat.le_refl _) _)
  have HO9V := Lib.hid (HO9.out.kept HBUV.out)
  have HOC := Lib.hid (order_any (w := V) (c := c9) (n := nS) (OwnF.edg HO9V.out) HIN.out (by have := HL48.out; omega) (by have := HE288.out; omega) (Nat.le_refl _))
  go_wp2_with fail
  rw [← HV.out]
  refine HOC.out.mono ?_
  rintro e T ⟨hbT, hor⟩
  rcases hor with ⟨hgo, AO, cO, rfl, hownO⟩ | ⟨hno, rfl⟩
  rotate_left
  · exact absurd HGO.out hno
  have HBT' : Hid (Below V.heap.size V T) := Lib.hid hbT
  have HO9T := Lib.hid (HO9V.out.kept hbT)
  have HGT : Hid (T.heap[U.heap.size]? = _) := Lib.hid ((hbT.block U.heap.size (heapE_lt HGV.out)).trans HGV.out)
  have HRE := Lib.hid (reachM_any (w := T) (c := c9) (n := nS) (OwnF.edg HO9T.out) HIN.out (by have := HL48.out; omega) (by have := HE288.out; omega) (Nat.le_refl _))
  have HWT : Hid (Below W.heap.size W T) := Lib.hid ((HBU.out.trans (HBUV.out.mono HBU.out.size)).trans (hbT.mono (Nat.le_trans HBU.out.size HBUV.out.size)))
  clear hbT hgo hownO HOC
  obtain ⟨q0, q1, _, _⟩ := row2 HGT.out
  go_wp2_with fail
  refine HRE.out.mono ?_
  rintro e R ⟨AR, cR, rfl, hrd, hbR⟩
  have HRD := Lib.hid hrd
  have HWR : Hid (Below W.heap.size W R) := Lib.hid (HWT.out.trans (hbR.mono HWT.out.size))
  have KP : Hid (R.heap[w.heap.size]? = _) := Lib.hid ((HWR.out.block w.heap.size (heapE_lt H0.out)).trans H0.out)
  have KC : Hid (R.heap[w.heap.size + 1]? = _) := Lib.hid ((HWR.out.block (w.heap.size + 1) (heapE_lt H1.out)).trans H1.out)
  have HOR := Lib.hid (ordersG_any (w := R) (c := c) (cF := cF) (cT := cT) (cS := cS) (nE := nE) (cE := cE) (AE := AE) (HA.out.below HWR.out) (HF.out.below (HWR.out.mono HBF.out)) (HTS.out.below (HWR.out.mono HBT.out)) (HS.out.below (HWR.out.mono HBS.out) HBS.out) (Nat.le_trans HBF.out HWR.out.size) (Nat.le_trans HBT.out HWR.out.size) (Nat.le_trans HBS.out HWR.out.size) (by have := HL48.out; omega) H3S.out)
  clear hrd hbR q0 q1 HRE
  obtain ⟨y0, y1, y2, y3⟩ := row4 KP.out
  obtain ⟨x0, _⟩ := row1f KC.out
  go_wp2_with fail
  refine HOR.out.mono ?_
  rintro e Z ⟨AZ, M, cZ, es2, rfl, hp, hs, hownE, hbZ⟩
  have HE2 : Hid (es2 = es) := Lib.hid (by
    rw [HES.out, ← HSS.out]
    rw [← HSS.out, ← HFL.out] at hp
    exact bef_sorted hp hs)
  have HOE : Hid (OwnF 91 2 egF Z R.heap.size (.slice AZ M cZ) es) := Lib.hid (by rw [← HE2.out]; exact hownE)
  have HM : Hid (M = nE) := Lib.hid (by obtain ⟨_, _, e⟩ := HOE.out.shape; injection e with _ e _; rw [e]; exact HEL.out)
  have HRZ : Hid (RdU Z AR nS (rchG nS es)) := Lib.hid (HRD.out.below hbZ)
  have HWZ : Hid (Below W.heap.size W Z) := Lib.hid (HWR.out.trans (hbZ.mono HWR.out.size))
  have HEZ := Lib.hid (OwnF.edg HOE.out)
  clear hp hs hownE hbZ y0 y1 y2 y3 x0 HOR
  go_wp2_with fail
  go_loopw [11, 34] (fun _ v wr => ∃ k : Nat, k ≤ M ∧ v = .int .i64 (k : Int) ∧ Hid (Below Z.heap.size Z wr)) (fun _ v _ => M - (intOf v).toNat)
  case atStart => exact ⟨0, Nat.zero_le _, rfl, Lib.hid (Below.refl _ _)⟩
  case round =>
    obtain ⟨wo, hwo⟩ : ∃ x, x = wr := ⟨_, rfl⟩
    subst hwo
    obtain ⟨k, hk, rfl, HBo⟩ := hrel
    have HWo : Hid (Below w.heap.size w wo) := Lib.hid (HBL.out.trans ((HWZ.out.trans (HBo.out.mono HWZ.out.size)).mono HBL.out.size))
    by_cases hkn : k < M
    · have hd : decide ((k : Int) < (M : Int)) = true := by simp; omega
      have hki : (k : Int) < (M : Int) := by omega
      have hk0 : (0 : Int) ≤ (k : Int) := by omega
      have hadd : IntKind.i64.wrap ((k : Int) + 1) = ((k + 1 : Nat) : Int) := by rw [IntWalk.i64_in _ (by have := HM.out; have := HE288.out; omega)]; omega
      obtain ⟨b, off, rfl, hlt, s0, s1⟩ := (HEZ.out.below HBo.out).at_ hkn
      have HKE : Hid (k < es.length) := Lib.hid (by rw [HEL.out, ← HM.out]; exact hkn)
      obtain ⟨h1, h2⟩ := HIN.out k HKE.out
      have hR := edge_reach HIN.out HKE.out
      obtain ⟨u, HU⟩ : ∃ q, Hid (fa es k = q) := ⟨_, Lib.hid rfl⟩
      obtain ⟨x, HX⟩ : ∃ q, Hid (fb es k = q) := ⟨_, Lib.hid rfl⟩
      rw [HU.out] at s0 h1 hR
      rw [HX.out] at s1 h2 hR
      obtain ⟨b2, o2, rfl, hlt2, hc2⟩ := HRZ.out (by omega)
      have r0 := (HBo.out.cell (p := ⟨b2, o2 + u, none⟩) hlt2).trans (hc2 u h1)
      obtain ⟨RV, HRV⟩ : ∃ q, Hid (rchG nS es u = q) := ⟨_, Lib.hid rfl⟩
      rw [HRV.out] at r0 hR
      have hu0 : (0 : Int) ≤ (u : Int) := by omega
      have hun : (u : Int) < (nS : Int) := by omega
      have hx0 : (0 : Int) ≤ (x : Int) := by omega
      obtain ⟨wp, HWP⟩ : ∃ wp, Hid (wp = wo.alloc (.cells #[.int .i64 (u : Int), .int .i64 (x : Int)] 91)) := ⟨_, Lib.hid rfl⟩
      clear hc2
      go_wp2_with fail
      rw [← HWP.out]
      have KW : Hid (wp.heap[wo.heap.size]? = some (.cells #[.int .i64 (u : Int), .int .i64 (x : Int)] 91 (0, 0))) := Lib.hid (by rw [HWP.out]; exact heap_new wo _)
      have HBP : Hid (Below wo.heap.size wo wp) := Lib.hid (by rw [HWP.out]; exact (Below.refl _ wo).alloc (Nat.le_refl _) _)
      obtain ⟨p0, p1, _, _⟩ := row2 KW.out
      have r1 := (HBP.out.cell (p := ⟨b2, o2 + u, none⟩) (by have := HBo.out.size; show b2 < wo.heap.size; omega)).trans r0
      have hx64 : x < 64 := by have := HL48.out; omega
      have hxc : IntKind.u64.wrap ((x : Nat) : Int) = ((x : Nat) : Int) := IntWalk.u64_in _ (by omega)
      have hsm : RV < lim := by rw [← HRV.out]; exact rchK_small HIN.out (by have := HL48.out; omega) nS u
      have hbit : (bits BinOp.and IntKind.u64 ((RV : Int) / 2 ^ x) 1 == 0) = false := by
        have e := has_bits (v := x) hsm
        rw [hR, beq_iff_eq] at e
        rw [e]; rfl
      have HBk : Hid (Below Z.heap.size Z wp) := Lib.hid (HBo.out.trans (HBP.out.mono HBo.out.size))
      clear r0 s0 s1
      go_quiet (fail)
      go_wp2_with fail
      go_roundw
      case rel => exact ⟨k + 1, by omega, by go_num, Lib.hid (by first | exact HBk.out | exact Below.drewN' HBk.out _)⟩
      case measure => simp [intOf]; omega
    · have hd : decide ((k : Int) < (M : Int)) = false := by simp; omega
      go_wp2_with fail
      exact bodyPost_ret (results_tmp rfl _ _ _) rfl ⟨rfl, HWo.out⟩
end Go.Proofs.YtminihiecloglaaGreat

namespace Go.Proofs.YtminihiecloglaaGreat
open Go.RowKit
open SemP FlP GaP DiP
set_option linter.unusedVariables false
set_option linter.unusedSimpArgs false
set_option maxRecDepth 10000
set_option maxHeartbeats 16000000 in
theorem checkR_any {w : World} {B BF BT BS n c cF cT nS cS nE cE : Nat} {A AF AT AS AE : Option Addr} {l : List Sv} {fs ts : List Int} {S : List StP} {es : List (Nat × Nat)} (h : CatAt w B A n c l) (hlv : LevOK l) (hf : Rd w BF AF n fs) (ht : Rd w BT AT n ts) (hS : RdS w BS AS nS S) (hBF : BF ≤ w.heap.size) (hBT : BT ≤ w.heap.size) (hBS : BS ≤ w.heap.size) (hSS : stL l fs ts = S) (hes : es = befP l fs ts S) (hE : EdF w AE nE es) (hel : es.length = nE) (hgo : Goes (befG es) nS nS) (hfl : fs.length = n) (hce : chkE l fs ts = 0) :
    Calls Tryz.prog 18 #[.agg #[.slice A n c], .agg #[.slice AF n cF, .slice AT n cT, .slice AS nS cS, .slice AE nE cE]] w fun e w' => e = .returned (.int .i64 0) ∧ Below w.heap.size w w' := by
  obtain ⟨W, HW⟩ : ∃ W, Hid (W = (w.alloc (.cells #[.slice A n c] 24)).alloc (.cells #[.slice AF n cF, .slice AT n cT, .slice AS nS cS, .slice AE nE cE] 35)) := ⟨_, Lib.hid rfl⟩
  have hbl : Below w.heap.size w W := by rw [HW.out]; exact ((Below.refl _ w).alloc (Nat.le_refl _) _).alloc (by simp) _
  have HBL := Lib.hid hbl
  have HZ : Hid (W.heap.size = w.heap.size + 2) := Lib.hid (by rw [HW.out]; simp)
  have H0 : Hid (W.heap[w.heap.size]? = some (.cells #[.slice A n c] 24 (0, 0))) := Lib.hid (by
    rw [HW.out, Below.heap_alloc _ _ _ (by simp)]; exact heap_new w _)
  have H1 : Hid (W.heap[w.heap.size + 1]? = some (.cells #[.slice AF n cF, .slice AT n cT, .slice AS nS cS, .slice AE nE cE] 35 (0, 0))) := Lib.hid (by
    rw [HW.out]
    have h := heap_new (w.alloc (.cells #[.slice A n c] 24)) (.cells #[.slice AF n cF, .slice AT n cT, .slice AS nS cS, .slice AE nE cE] 35)
    rw [World.size_alloc] at h; exact h)
  have HN16 := Lib.hid h.n16
  have HA := Lib.hid (h.below hbl)
  have HF := Lib.hid (hf.below (hbl.mono hBF))
  have HTS := Lib.hid (ht.below (hbl.mono hBT))
  have HS := Lib.hid (hS.below (hbl.mono hBS) hBS)
  have HBF : Hid (BF ≤ W.heap.size) := Lib.hid (Nat.le_trans hBF hbl.size)
  have HBT : Hid (BT ≤ W.heap.size) := Lib.hid (Nat.le_trans hBT hbl.size)
  have HBS : Hid (BS ≤ W.heap.size) := Lib.hid (Nat.le_trans hBS hbl.size)
  have HNS : Hid (S.length = nS) := Lib.hid hS.len
  have HL48 : Hid (nS ≤ 48) := Lib.hid (by rw [← HNS.out, ← hSS]; have := stK_len l fs ts fs.length; have := HN16.out; unfold stL; omega)
  have HES := Lib.hid hes
  have HSS := Lib.hid hSS
  have HFL := Lib.hid hfl
  have HEL := Lib.hid hel
  have HGO := Lib.hid hgo
  have HED := Lib.hid (hE.below hbl)
  have HLV := Lib.hid hlv
  have HC0 := Lib.hid hce
  have HCE := Lib.hid (checkEnds_any (w := W) (c := c) (c2 := cF) (c3 := cT) HA.out hlv HF.out HTS.out HBF.out HBT.out (by have := HN16.out; omega) (by have := HN16.out; omega))
  rw [hce] at HCE
  clear h hf ht hS hbl hBF hBT hBS hes hSS hfl hel hgo hE hlv hce
  go_enter Tryz.func18, Tryz.ntmps18
  go_upto_region 1 with fail
  change Code.wp _ _ _ _ ((w.alloc (.cells #[.slice A n c] 24)).alloc (.cells #[.slice AF n cF, .slice AT n cT, .slice AS nS cS, .slice AE nE cE] 35))
  rw [← HW.out]
  obtain ⟨x0, _⟩ := row1f H0.out
  obtain ⟨y0, y1, y2, y3⟩ := row4 H1.out
  go_wp2_with fail
  refine HCE.out.mono ?_
  rintro e X ⟨rfl, hb⟩
  have HWX : Hid (Below W.heap.size W X) := Lib.hid hb
  have HBX : Hid (Below w.heap.size w X) := Lib.hid (HBL.out.trans (hb.mono HBL.out.size))
  have KC : Hid (X.heap[w.heap.size]? = _) := Lib.hid ((hb.block w.heap.size (heapE_lt H0.out)).trans H0.out)
  have KP : Hid (X.heap[w.heap.size + 1]? = _) := Lib.hid ((hb.block (w.heap.size + 1) (heapE_lt H1.out)).trans H1.out)
  have HST0 : Hid (∀ Z, Below X.heap.size X Z → CatAt Z B A n c l ∧ Rd Z BF AF n fs ∧ Rd Z BT AT n ts ∧ RdS Z BS AS nS S ∧ EdF Z AE nE es ∧ BF ≤ Z.heap.size ∧ BT ≤ Z.heap.size ∧ BS ≤ Z.heap.size) := Lib.hid (fun Z hz => by
    have hwz : Below W.heap.size W Z := HWX.out.trans (hz.mono HWX.out.size)
    exact ⟨HA.out.below hwz, HF.out.below (hwz.mono HBF.out), HTS.out.below (hwz.mono HBT.out), HS.out.below (hwz.mono HBS.out) HBS.out, HED.out.below hwz, Nat.le_trans HBF.out hwz.size, Nat.le_trans HBT.out hwz.size, Nat.le_trans HBS.out hwz.size⟩)
  have HSP := Lib.hid (by
    obtain ⟨a1, a2, a3, a4, a5, a6, a7, a8⟩ := HST0.out (X.drewN 1) (Below.drewN' (Below.refl _ X) 1)
    have hh := stepsOf_any (c := c) (c2 := cF) (c3 := cT) a1 HLV.out a2 a3 a6 a7 (chkE_ok HC0.out).1 (chkE_ok HC0.out).2.1
    rw [HSS.out] at hh
    exact hh)
  clear hb x0 y0 y1 y2 y3 HCE
  obtain ⟨x0, _⟩ := row1f KC.out
  obtain ⟨y0, y1, y2, y3⟩ := row4 KP.out
  go_wp2_with fail
  go_region_held3 (fun W' => W'.cell? ⟨w.heap.size, 0, none⟩ = some (.slice A n c) ∧ W'.cell? ⟨w.heap.size + 1, 0, none⟩ = some (.slice AF n cF) ∧ W'.cell? ⟨w.heap.size + 1, 1, none⟩ = some (.slice AT n cT) ∧ W'.cell? ⟨w.heap.size + 1, 2, none⟩ = some (.slice AS nS cS) ∧ W'.cell? ⟨w.heap.size + 1, 3, none⟩ = some (.slice AE nE cE)) ((first | exact ⟨x0, y0, y1, y2, y3⟩ | exact ⟨u0, u1, u2, u3, u4⟩ | exact ⟨v0, v1, v2, v3, v4⟩ | exact ⟨z0, z1, z2, z3, z4⟩ | go_keep)) (first
    | (go_at_call 52; refine HLD.out.mono ?_; rintro e w5 ⟨rfl, hb5⟩; (have hbx : Below X.heap.size X w5 := HB4.out.trans (hb5.mono HB4.out.size)); (have u0 := (row1f ((hbx.block w.heap.size (heapE_lt KC.out)).trans KC.out)).1); (obtain ⟨u1, u2, u3, u4⟩ := row4 ((hbx.block (w.heap.size + 1) (heapE_lt KP.out)).trans KP.out)); (have HB5 := Lib.hid hbx); clear hb5 hbx)
    | (go_at_call 51; refine HEQ.out.mono ?_; rintro e w4 ⟨rfl, hb4⟩; (have hbx : Below X.heap.size X w4 := HB3.out.trans (hb4.mono HB3.out.size)); (have v0 := (row1f ((hbx.block w.heap.size (heapE_lt KC.out)).trans KC.out)).1); (obtain ⟨v1, v2, v3, v4⟩ := row4 ((hbx.block (w.heap.size + 1) (heapE_lt KP.out)).trans KP.out)); (have HB4 := Lib.hid hbx); (have HLD := Lib.hid (by (obtain ⟨a1, a2, a3, a4, a5, a6, a7, a8⟩ := HST0.out w4 hbx); exact leads_any (c := c) (cF := cF) (cT := cT) (cS := cS) (cE := cE) a1 a2 a3 a4 a6 a7 a8 HSS.out HES.out a5 HEL.out HGO.out HFL.out)); clear hb4 hbx)
    | (go_at_call 42; refine HSP.out.mono ?_; rintro e w3 ⟨vs, rfl, hown, hb3⟩; (obtain ⟨A7, c7, hv7⟩ := hown.shape); (rw [HNS.out] at hv7); subst hv7; (have hbx : Below X.heap.size X w3 := (Below.drewN' (Below.refl _ X) 1).trans hb3); (have z0 := (row1f ((hbx.block w.heap.size (heapE_lt KC.out)).trans KC.out)).1); (obtain ⟨z1, z2, z3, z4⟩ := row4 ((hbx.block (w.heap.size + 1) (heapE_lt KP.out)).trans KP.out)); (have HB3 := Lib.hid hbx); (have HEQ := Lib.hid (by (obtain ⟨a1, a2, a3, a4, a5, a6, a7, a8⟩ := HST0.out w3 hbx); (have hq := equalS_any (c := cS) (d := c7) a4 hown.rdS a8 (Nat.le_refl _) (by have := HL48.out; omega) (by have := HL48.out; omega)); (rw [decide_eq_true rfl] at hq); exact hq)); clear hown hb3 hbx))
  have HB5' := HB5.out
  have HRES : Hid (Below w.heap.size w w5) := Lib.hid (HBX.out.trans (HB5'.mono HBX.out.size))
  go_wp2_with fail
  exact bodyPost_ret (results_tmp rfl _ _ _) rfl ⟨rfl, HRES.out⟩
end Go.Proofs.YtminihiecloglaaGreat
