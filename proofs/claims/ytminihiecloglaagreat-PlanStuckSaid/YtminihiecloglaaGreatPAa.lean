/-
 MERGED: PCa PAn.
-/
import Derived.Test.YtminihiecloglaaGreatPCl
import Derived.Test.YtminihiecloglaaGreatPMk
import Derived.Test.YtminihiecloglaaGreatDCirc
import Derived.Test.YtminihiecloglaaGreatCEx
import Derived.Test.YtminihiecloglaaGreatInv
set_option linter.unusedVariables false
set_option linter.unusedSimpArgs false
namespace Go.Proofs.YtminihiecloglaaGreat
open Go.RowKit
open SemP FlP GaP DiP
set_option maxRecDepth 10000
theorem neSt (a b c d : Int) (W : World) : (binOp .neq 64 (.agg #[.int .i64 a, .int .i64 b]) (.agg #[.int .i64 c, .int .i64 d])).run Tryz.prog W = .ok (.bool (!((a == c) && (b == d)))) W := by
 have u3 := Tryz.underlying3
 have a3 := Tryz.isAgg3
 have z3 := Tryz.sizeOf3
 have hS : Tryz.prog.underlying 64 = some (.struct (Tryz.prog.fieldsOf 64)) := by kernel_rfl
 have hp : Tryz.prog.stoodInHeld 64 = false := by kernel_rfl
 rw [run_neq_struct, show (10000 : Nat) = 9999 + 1 from rfl, run_equalIn_agg W 9999 64 _ _ hS hp]
 simp only [Program.fieldsOf, Tryz.underlying64]
 go_simp
 by_cases h1 : a = c <;> by_cases h2 : b = d <;> simp [h1, h2]
theorem steps_ext {a b : List StP} (hl : a.length = b.length) (h : ∀ i < a.length, sAt a i = sAt b i) : a = b := by
 apply List.ext_getElem hl
 intro i h1 h2
 have := h i h1
 simpa [sAt, List.getD, h1, h2] using this
set_option maxHeartbeats 4000000 in
theorem equalS_any {w : World} {B B2 n m c d : Nat} {A A2 : Option Addr} {S T : List StP} (hS : RdS w B A n S) (hT : RdS w B2 A2 m T) (hB : B ≤ w.heap.size) (hB2 : B2 ≤ w.heap.size) (hn : n ≤ 1000000) (hm : m ≤ 1000000) :
  Calls Tryz.prog 51 #[.slice A n c, .slice A2 m d] w fun e w' => e = .returned (.bool (decide (S = T))) ∧ Below w.heap.size w w' := by
 have HX := Lib.hid hS
 have HY := Lib.hid hT
 have HXL := Lib.hid hS.len
 have HYL := Lib.hid hT.len
 have HB := Lib.hid hB
 have HB2 := Lib.hid hB2
 clear hS hT hB hB2
 by_cases hmn : n = m
 rotate_left
 ·have hne : ((n : Int) != (m : Int)) = true := by rw [bne_iff_ne]; omega
  have HF : Hid (decide (S = T) = false) := Lib.hid (decide_eq_false (fun e => hmn (by rw [← HXL.out, ← HYL.out, e])))
  go_enter Tryz.func51, Tryz.ntmps51
  go_wp2_with fail
  refine bodyPost_ret (results_tmp rfl _ _ _) rfl ⟨?_, Below.refl _ _⟩
  exact congrArg (fun b => Ending.returned (.bool b)) HF.out.symm
 subst hmn
 go_enter Tryz.func51, Tryz.ntmps51
 go_wp2_with fail
 go_loopw [5, 13] (fun _ v wr => ∃ k : Nat, k ≤ n ∧ v = .int .i64 (k : Int) ∧ Hid (Below w.heap.size w wr) ∧ Hid (∀ i, i < k → sAt S i = sAt T i)) (fun _ v _ => n - (intOf v).toNat)
 case atStart => exact ⟨0, Nat.zero_le _, rfl, Lib.hid (Below.refl _ _), Lib.hid (fun i h => absurd h (by omega))⟩
 case round =>
  obtain ⟨wo, hwo⟩ : ∃ x, x = wr := ⟨_, rfl⟩
  subst hwo
  obtain ⟨k, hk, rfl, HBo, HOK⟩ := hrel
  by_cases hkn : k < n
  ·have hd : decide ((k : Int) < (n : Int)) = true := by simp; omega
   have hki : (k : Int) < (n : Int) := by omega
   have hk0 : (0 : Int) ≤ (k : Int) := by omega
   have hadd : IntKind.i64.wrap ((k : Int) + 1) = ((k + 1 : Nat) : Int) := by rw [IntWalk.i64_in _ (by omega)]; omega
   obtain ⟨b1, o1, rfl, _, s0, s1⟩ := (HX.out.below (HBo.out.mono HB.out) HB.out).at_ k hkn
   obtain ⟨b2, o2, rfl, _, t0, t1⟩ := (HY.out.below (HBo.out.mono HB2.out) HB2.out).at_ k hkn
   obtain ⟨p1, p2, HP⟩ : ∃ q1 q2, Hid (sAt S k = (q1, q2)) := ⟨_, _, Lib.hid rfl⟩
   obtain ⟨q1, q2, HQ⟩ : ∃ q1 q2, Hid (sAt T k = (q1, q2)) := ⟨_, _, Lib.hid rfl⟩
   rw [HP.out] at s0 s1
   rw [HQ.out] at t0 t1
   replace s0 : wo.cell? ⟨b1, o1 + k * 2, none⟩ = some (.int .i64 p1) := s0
   replace s1 : wo.cell? ⟨b1, o1 + k * 2 + 1, none⟩ = some (.int .i64 p2) := s1
   replace t0 : wo.cell? ⟨b2, o2 + k * 2, none⟩ = some (.int .i64 q1) := t0
   replace t1 : wo.cell? ⟨b2, o2 + k * 2 + 1, none⟩ = some (.int .i64 q2) := t1
   by_cases he : p1 = q1 ∧ p2 = q2
   ·obtain ⟨rfl, rfl⟩ := he
    have hEq := fun W => neSt p1 p2 p1 p2 W
    simp only [beq_self_eq_true, Bool.and_self, Bool.not_true] at hEq
    have HE : Hid (sAt S k = sAt T k) := Lib.hid (by rw [HP.out, HQ.out])
    go_wp2_with fail
    go_quiet (fail)
    go_wp2_with fail
    go_roundw
    case rel => exact ⟨k + 1, by omega, by go_num, Lib.hid (by first | exact HBo.out | exact Below.drewN' HBo.out _), Lib.hid (fun i hi => by
     by_cases e : i = k
     ·subst e; exact HE.out
     ·exact HOK.out i (by omega))⟩
    case measure => simp [intOf]; omega
   ·have hne : ((p1 == q1) && (p2 == q2)) = false := by rw [← Bool.not_eq_true, Bool.and_eq_true, beq_iff_eq, beq_iff_eq]; exact he
    have hEq := fun W => neSt p1 p2 q1 q2 W
    simp only [hne, Bool.not_false] at hEq
    have HF : Hid (decide (S = T) = false) := Lib.hid (decide_eq_false (fun e => he (by
     have h1 := HP.out
     rw [e, HQ.out] at h1
     injection h1 with h1 h2
     exact ⟨h1.symm, h2.symm⟩)))
    clear he
    go_wp2_with fail
    go_quiet (fail)
    go_wp2_with fail
    refine bodyPost_ret (results_tmp rfl _ _ _) rfl ⟨?_, by first | exact HBo.out | exact Below.drewN' HBo.out _⟩
    exact congrArg (fun b => Ending.returned (.bool b)) HF.out.symm
  ·have hd : decide ((k : Int) < (n : Int)) = false := by simp; omega
   have HF : Hid (decide (S = T) = true) := Lib.hid (decide_eq_true (steps_ext (by rw [HXL.out, HYL.out]) (fun i hi => HOK.out i (by have := HXL.out; omega))))
   go_wp2_with fail
   refine bodyPost_ret (results_tmp rfl _ _ _) rfl ⟨?_, HBo.out⟩
   exact congrArg (fun b => Ending.returned (.bool b)) HF.out.symm
end Go.Proofs.YtminihiecloglaaGreat
namespace Go.Proofs.YtminihiecloglaaGreat
open Go.RowKit
open SemP FlP GaP DiP
set_option maxRecDepth 10000
def EdF (w : World) (A : Option Addr) (n : Nat) (es : List (Nat × Nat)) : Prop := 0 < n → ∃ b off, A = some ⟨b, off, none⟩ ∧ b < w.heap.size ∧ ∀ j u, (es.flatMap egF)[j]? = some u → w.cell? ⟨b, off + j, none⟩ = some u
theorem EdF.below {w w' : World} {A : Option Addr} {n : Nat} {es : List (Nat × Nat)} (h : EdF w A n es) (hb : Below w.heap.size w w') : EdF w' A n es := fun h0 => by
 obtain ⟨b, off, e, hlt, hc⟩ := h h0
 exact ⟨b, off, e, Nat.lt_of_lt_of_le hlt hb.size, fun j u hj => (hb.cell (p := ⟨b, off + j, none⟩) hlt).trans (hc j u hj)⟩
theorem OwnF.edF {w : World} {base n c : Nat} {A : Option Addr} {es : List (Nat × Nat)} (h : OwnF 91 2 egF w base (.slice A n c) es) : EdF w A n es := fun h0 => by
 have hn : es.length = n := by obtain ⟨_, _, e⟩ := h.shape; injection e with _ e _; exact e.symm
 rcases h.2 with ⟨hv, hz⟩ | ⟨g', cap, cur, hv, hbg, hh, hlc, hcm, hcs, htk⟩
 ·omega
 ·injection hv with hv1 hv2 hv3
  refine ⟨g', 0, hv1, heapE_lt hh, fun j u hj => ?_⟩
  rw [Nat.zero_add]
  have hjl : j < es.length * 2 := by
   have := (List.getElem?_eq_some_iff.1 hj).1
   rw [flatF_len (f := egF) (z := 2) (fun _ => rfl)] at this
   exact this
  exact cells_of hh j u (by rw [← htk] at hj; rw [List.getElem?_take_of_lt hjl] at hj; exact hj)
theorem edge_reach {g : List (Nat × Nat)} {n k : Nat} (hi : InN n g) (hk : k < g.length) : bt (rchG n g (fa g k)) (fb g k) = true :=
 (rch_way hi (hi k hk).1).2 (by first | exact .edge ⟨k, hk, rfl, rfl⟩ | exact .one ⟨k, hk, rfl, rfl⟩ | exact .base ⟨k, hk, rfl, rfl⟩ | (constructor; exact ⟨k, hk, rfl, rfl⟩))
set_option maxHeartbeats 16000000 in
theorem leads_any {w : World} {B BF BT BS n c cF cT nS cS nE cE : Nat} {A AF AT AS AE : Option Addr} {l : List Sv} {fs ts : List Int} {S : List StP} {es : List (Nat × Nat)} (h : CatAt w B A n c l) (hf : Rd w BF AF n fs) (ht : Rd w BT AT n ts) (hS : RdS w BS AS nS S) (hBF : BF ≤ w.heap.size) (hBT : BT ≤ w.heap.size) (hBS : BS ≤ w.heap.size) (hSS : stL l fs ts = S) (hes : es = befP l fs ts S) (hE : EdF w AE nE es) (hel : es.length = nE) (hgo : Goes (befG es) nS nS) (hfl : fs.length = n) :
  Calls Tryz.prog 52 #[.agg #[.slice AF n cF, .slice AT n cT, .slice AS nS cS, .slice AE nE cE], .agg #[.slice A n c]] w fun e w' => e = .returned (.bool true) ∧ Below w.heap.size w w' := by
 obtain ⟨W, HW⟩ : ∃ W, Hid (W = (w.alloc (.cells #[.slice AF n cF, .slice AT n cT, .slice AS nS cS, .slice AE nE cE] 35)).alloc (.cells #[.slice A n c] 24)) := ⟨_, Lib.hid rfl⟩
 have hbl : Below w.heap.size w W := by rw [HW.out]; exact ((Below.refl _ w).alloc (Nat.le_refl _) _).alloc (by simp) _
 have HBL := Lib.hid hbl
 have HZ : Hid (W.heap.size = w.heap.size + 2) := Lib.hid (by rw [HW.out]; simp)
 have H0 : Hid (W.heap[w.heap.size]? = some (.cells #[.slice AF n cF, .slice AT n cT, .slice AS nS cS, .slice AE nE cE] 35 (0, 0))) := Lib.hid (by
  rw [HW.out, Below.heap_alloc _ _ _ (by simp)]; exact heap_new w _)
 have H1 : Hid (W.heap[w.heap.size + 1]? = some (.cells #[.slice A n c] 24 (0, 0))) := Lib.hid (by
  rw [HW.out]
  have h := heap_new (w.alloc (.cells #[.slice AF n cF, .slice AT n cT, .slice AS nS cS, .slice AE nE cE] 35)) (.cells #[.slice A n c] 24)
  rw [World.size_alloc] at h; exact h)
 have HN16 := Lib.hid h.n16
 have HA := Lib.hid (h.below hbl)
 have HF := Lib.hid (hf.below (hbl.mono hBF))
 have HTS := Lib.hid (ht.below (hbl.mono hBT))
 have HS := Lib.hid (hS.below (hbl.mono hBS) hBS)
 have HBF : Hid (BF ≤ W.heap.size) := Lib.hid (Nat.le_trans hBF hbl.size)
 have HBT : Hid (BT ≤ W.heap.size) := Lib.hid (Nat.le_trans hBT hbl.size)
 have HBS : Hid (BS ≤ W.heap.size) := Lib.hid (Nat.le_trans hBS hbl.size)
 have HNS : Hid (S.length = nS) := Lib.hid hS.len
 have HL48 : Hid (nS ≤ 48) := Lib.hid (by rw [← HNS.out, ← hSS]; have := stK_len l fs ts fs.length; have := HN16.out; unfold stL; omega)
 have H3S : Hid (∀ i : Nat, ((i : Int), (1 : Int)) ∈ S → ((i : Int), (2 : Int)) ∈ S ∧ ((i : Int), (3 : Int)) ∈ S) := Lib.hid (by
  rw [← hSS]
  intro i hi
  obtain ⟨i', hi', e, hne, hr⟩ := mem_stK.1 hi
  obtain rfl : i = i' := by have : (i : Int) = i' := e; omega
  have hr0 : rise l fs ts i ≠ 0 := by
   rcases hr with hr | hr
   ·exact absurd (show (1 : Int) = 2 from hr) (by decide)
   ·exact hr.1
  exact ⟨mem_stK.2 ⟨i, hi', rfl, hne, .inl rfl⟩, mem_stK.2 ⟨i, hi', rfl, hne, .inr ⟨hr0, .inr rfl⟩⟩⟩)
 have HIN : Hid (InN nS es) := Lib.hid (by
  intro k hk
  have hmem : es.getD k default ∈ befP l fs ts S := by rw [← hes]; exact getD_mem hk
  obtain ⟨h1, h2, _⟩ := mem_befP.1 hmem
  rw [HNS.out] at h1 h2
  exact ⟨h1, h2⟩)
 have HES := Lib.hid hes
 have HSS := Lib.hid hSS
 have HFL := Lib.hid hfl
 have HEL := Lib.hid hel
 have HGO := Lib.hid hgo
 have HED := Lib.hid (hE.below hbl)
 have HE288 : Hid (nE ≤ 288) := Lib.hid (by
  rw [← hel, hes, ← hSS]
  have hp : (befP l fs ts (stL l fs ts)).Perm ((ordQ l (stL l fs ts) fs ts fs.length fs.length).map (pl2 (stL l fs ts))) := by
   refine (List.perm_ext_iff_of_nodup ?_ ord_nodup).2 (fun p => (mem_ord_bef p).symm)
   unfold List.Nodup
   refine List.Pairwise.imp ?_ (befK_sorted l fs ts (stL l fs ts) (stL l fs ts).length)
   intro x y h e
   subst e
   exact ltP_irrefl _ h
  rw [hp.length_eq, List.length_map]
  exact Nat.le_trans (ordQ_len l _ fs ts fs.length fs.length) (mul18 (Nat.le_refl _) (by rw [hfl]; exact HN16.out)))
 clear h hf ht hS hbl hBF hBT hBS hes hSS hfl hel hgo hE
 have HGC := Lib.hid (graphP_any (w := W) (nF := n) (cF := cF) (nT := n) (cT := cT) (nS := nS) (cS := cS) (c := cE) (AF := AF) (AT := AT) (AS := AS) (A := AE) HEL.out (by have := HE288.out; omega) HED.out)
 go_enter Tryz.func52, Tryz.ntmps52
 go_upto_region 1 with fail
 change Code.wp _ _ _ _ ((w.alloc (.cells #[.slice AF n cF, .slice AT n cT, .slice AS nS cS, .slice AE nE cE] 35)).alloc (.cells #[.slice A n c] 24))
 rw [← HW.out]
 obtain ⟨y0, y1, y2, y3⟩ := row4 H0.out
 go_wp2_with fail
 refine HGC.out.mono ?_
 rintro e U ⟨A9, c9, rfl, hown9, hbU⟩
 have HBU := Lib.hid hbU
 have HO9 := Lib.hid hown9
 clear y0 y1 y2 y3 hown9 hbU HGC
 obtain ⟨V, HV⟩ : ∃ V, Hid (V = U.alloc (.cells #[.int .i64 (nS : Int), .slice A9 nE c9] 107)) := ⟨_, Lib.hid rfl⟩
 have HGV : Hid (V.heap[U.heap.size]? = some (.cells #[.int .i64 (nS : Int), .slice A9 nE c9] 107 (0, 0))) := Lib.hid (by rw [HV.out]; exact heap_new U _)
 have HBUV : Hid (Below U.heap.size U V) := Lib.hid (by rw [HV.out]; exact (Below.refl _ U).alloc (Nat.le_refl _) _)
 have HO9V := Lib.hid (HO9.out.kept HBUV.out)
 have HOC := Lib.hid (order_any (w := V) (c := c9) (n := nS) (OwnF.edg HO9V.out) HIN.out (by have := HL48.out; omega) (by have := HE288.out; omega) (Nat.le_refl _))
 go_wp2_with fail
 rw [← HV.out]
 refine HOC.out.mono ?_
 rintro e T ⟨hbT, hor⟩
 rcases hor with ⟨hgo, AO, cO, rfl, hownO⟩ | ⟨hno, rfl⟩
 rotate_left
 ·exact absurd HGO.out hno
 have HBT' : Hid (Below V.heap.size V T) := Lib.hid hbT
 have HO9T := Lib.hid (HO9V.out.kept hbT)
 have HGT : Hid (T.heap[U.heap.size]? = _) := Lib.hid ((hbT.block U.heap.size (heapE_lt HGV.out)).trans HGV.out)
 have HRE := Lib.hid (reachM_any (w := T) (c := c9) (n := nS) (OwnF.edg HO9T.out) HIN.out (by have := HL48.out; omega) (by have := HE288.out; omega) (Nat.le_refl _))
 have HWT : Hid (Below W.heap.size W T) := Lib.hid ((HBU.out.trans (HBUV.out.mono HBU.out.size)).trans (hbT.mono (Nat.le_trans HBU.out.size HBUV.out.size)))
 clear hbT hgo hownO HOC
 obtain ⟨q0, q1, _, _⟩ := row2 HGT.out
 go_wp2_with fail
 refine HRE.out.mono ?_
 rintro e R ⟨AR, cR, rfl, hrd, hbR⟩
 have HRD := Lib.hid hrd
 have HWR : Hid (Below W.heap.size W R) := Lib.hid (HWT.out.trans (hbR.mono HWT.out.size))
 have KP : Hid (R.heap[w.heap.size]? = _) := Lib.hid ((HWR.out.block w.heap.size (heapE_lt H0.out)).trans H0.out)
 have KC : Hid (R.heap[w.heap.size + 1]? = _) := Lib.hid ((HWR.out.block (w.heap.size + 1) (heapE_lt H1.out)).trans H1.out)
 have HOR := Lib.hid (ordersG_any (w := R) (c := c) (cF := cF) (cT := cT) (cS := cS) (nE := nE) (cE := cE) (AE := AE) (HA.out.below HWR.out) (HF.out.below (HWR.out.mono HBF.out)) (HTS.out.below (HWR.out.mono HBT.out)) (HS.out.below (HWR.out.mono HBS.out) HBS.out) (Nat.le_trans HBF.out HWR.out.size) (Nat.le_trans HBT.out HWR.out.size) (Nat.le_trans HBS.out HWR.out.size) (by have := HL48.out; omega) H3S.out)
 clear hrd hbR q0 q1 HRE
 obtain ⟨y0, y1, y2, y3⟩ := row4 KP.out
 obtain ⟨x0, _⟩ := row1f KC.out
 go_wp2_with fail
 refine HOR.out.mono ?_
 rintro e Z ⟨AZ, M, cZ, es2, rfl, hp, hs, hownE, hbZ⟩
 have HE2 : Hid (es2 = es) := Lib.hid (by
  rw [HES.out, ← HSS.out]
  rw [← HSS.out, ← HFL.out] at hp
  exact bef_sorted hp hs)
 have HOE : Hid (OwnF 91 2 egF Z R.heap.size (.slice AZ M cZ) es) := Lib.hid (by rw [← HE2.out]; exact hownE)
 have HM : Hid (M = nE) := Lib.hid (by obtain ⟨_, _, e⟩ := HOE.out.shape; injection e with _ e _; rw [e]; exact HEL.out)
 have HRZ : Hid (RdU Z AR nS (rchG nS es)) := Lib.hid (HRD.out.below hbZ)
 have HWZ : Hid (Below W.heap.size W Z) := Lib.hid (HWR.out.trans (hbZ.mono HWR.out.size))
 have HEZ := Lib.hid (OwnF.edg HOE.out)
 clear hp hs hownE hbZ y0 y1 y2 y3 x0 HOR
 go_wp2_with fail
 go_loopw [11, 34] (fun _ v wr => ∃ k : Nat, k ≤ M ∧ v = .int .i64 (k : Int) ∧ Hid (Below Z.heap.size Z wr)) (fun _ v _ => M - (intOf v).toNat)
 case atStart => exact ⟨0, Nat.zero_le _, rfl, Lib.hid (Below.refl _ _)⟩
 case round =>
  obtain ⟨wo, hwo⟩ : ∃ x, x = wr := ⟨_, rfl⟩
  subst hwo
  obtain ⟨k, hk, rfl, HBo⟩ := hrel
  have HWo : Hid (Below w.heap.size w wo) := Lib.hid (HBL.out.trans ((HWZ.out.trans (HBo.out.mono HWZ.out.size)).mono HBL.out.size))
  by_cases hkn : k < M
  ·have hd : decide ((k : Int) < (M : Int)) = true := by simp; omega
   have hki : (k : Int) < (M : Int) := by omega
   have hk0 : (0 : Int) ≤ (k : Int) := by omega
   have hadd : IntKind.i64.wrap ((k : Int) + 1) = ((k + 1 : Nat) : Int) := by rw [IntWalk.i64_in _ (by have := HM.out; have := HE288.out; omega)]; omega
   obtain ⟨b, off, rfl, hlt, s0, s1⟩ := (HEZ.out.below HBo.out).at_ hkn
   have HKE : Hid (k < es.length) := Lib.hid (by rw [HEL.out, ← HM.out]; exact hkn)
   obtain ⟨h1, h2⟩ := HIN.out k HKE.out
   have hR := edge_reach HIN.out HKE.out
   obtain ⟨u, HU⟩ : ∃ q, Hid (fa es k = q) := ⟨_, Lib.hid rfl⟩
   obtain ⟨x, HX⟩ : ∃ q, Hid (fb es k = q) := ⟨_, Lib.hid rfl⟩
   rw [HU.out] at s0 h1 hR
   rw [HX.out] at s1 h2 hR
   obtain ⟨b2, o2, rfl, hlt2, hc2⟩ := HRZ.out (by omega)
   have r0 := (HBo.out.cell (p := ⟨b2, o2 + u, none⟩) hlt2).trans (hc2 u h1)
   obtain ⟨RV, HRV⟩ : ∃ q, Hid (rchG nS es u = q) := ⟨_, Lib.hid rfl⟩
   rw [HRV.out] at r0 hR
   have hu0 : (0 : Int) ≤ (u : Int) := by omega
   have hun : (u : Int) < (nS : Int) := by omega
   have hx0 : (0 : Int) ≤ (x : Int) := by omega
   obtain ⟨wp, HWP⟩ : ∃ wp, Hid (wp = wo.alloc (.cells #[.int .i64 (u : Int), .int .i64 (x : Int)] 91)) := ⟨_, Lib.hid rfl⟩
   clear hc2
   go_wp2_with fail
   rw [← HWP.out]
   have KW : Hid (wp.heap[wo.heap.size]? = some (.cells #[.int .i64 (u : Int), .int .i64 (x : Int)] 91 (0, 0))) := Lib.hid (by rw [HWP.out]; exact heap_new wo _)
   have HBP : Hid (Below wo.heap.size wo wp) := Lib.hid (by rw [HWP.out]; exact (Below.refl _ wo).alloc (Nat.le_refl _) _)
   obtain ⟨p0, p1, _, _⟩ := row2 KW.out
   have r1 := (HBP.out.cell (p := ⟨b2, o2 + u, none⟩) (by have := HBo.out.size; show b2 < wo.heap.size; omega)).trans r0
   have hx64 : x < 64 := by have := HL48.out; omega
   have hxc : IntKind.u64.wrap ((x : Nat) : Int) = ((x : Nat) : Int) := IntWalk.u64_in _ (by omega)
   have hsm : RV < lim := by rw [← HRV.out]; exact rchK_small HIN.out (by have := HL48.out; omega) nS u
   have hbit : (bits BinOp.and IntKind.u64 ((RV : Int) / 2 ^ x) 1 == 0) = false := by
    have e := has_bits (v := x) hsm
    rw [hR, beq_iff_eq] at e
    rw [e]; rfl
   have HBk : Hid (Below Z.heap.size Z wp) := Lib.hid (HBo.out.trans (HBP.out.mono HBo.out.size))
   clear r0 s0 s1
   go_quiet (fail)
   go_wp2_with fail
   go_roundw
   case rel => exact ⟨k + 1, by omega, by go_num, Lib.hid (by first | exact HBk.out | exact Below.drewN' HBk.out _)⟩
   case measure => simp [intOf]; omega
  ·have hd : decide ((k : Int) < (M : Int)) = false := by simp; omega
   go_wp2_with fail
   exact bodyPost_ret (results_tmp rfl _ _ _) rfl ⟨rfl, HWo.out⟩
end Go.Proofs.YtminihiecloglaaGreat
namespace Go.Proofs.YtminihiecloglaaGreat
open Go.RowKit
open SemP FlP GaP DiP
set_option maxRecDepth 10000
set_option maxHeartbeats 16000000 in
theorem checkR_any {w : World} {B BF BT BS n c cF cT nS cS nE cE : Nat} {A AF AT AS AE : Option Addr} {l : List Sv} {fs ts : List Int} {S : List StP} {es : List (Nat × Nat)} (h : CatAt w B A n c l) (hlv : LevOK l) (hf : Rd w BF AF n fs) (ht : Rd w BT AT n ts) (hS : RdS w BS AS nS S) (hBF : BF ≤ w.heap.size) (hBT : BT ≤ w.heap.size) (hBS : BS ≤ w.heap.size) (hSS : stL l fs ts = S) (hes : es = befP l fs ts S) (hE : EdF w AE nE es) (hel : es.length = nE) (hgo : Goes (befG es) nS nS) (hfl : fs.length = n) (hce : chkE l fs ts = 0) :
  Calls Tryz.prog 18 #[.agg #[.slice A n c], .agg #[.slice AF n cF, .slice AT n cT, .slice AS nS cS, .slice AE nE cE]] w fun e w' => e = .returned (.int .i64 0) ∧ Below w.heap.size w w' := by
 obtain ⟨W, HW⟩ : ∃ W, Hid (W = (w.alloc (.cells #[.slice A n c] 24)).alloc (.cells #[.slice AF n cF, .slice AT n cT, .slice AS nS cS, .slice AE nE cE] 35)) := ⟨_, Lib.hid rfl⟩
 have hbl : Below w.heap.size w W := by rw [HW.out]; exact ((Below.refl _ w).alloc (Nat.le_refl _) _).alloc (by simp) _
 have HBL := Lib.hid hbl
 have HZ : Hid (W.heap.size = w.heap.size + 2) := Lib.hid (by rw [HW.out]; simp)
 have H0 : Hid (W.heap[w.heap.size]? = some (.cells #[.slice A n c] 24 (0, 0))) := Lib.hid (by
  rw [HW.out, Below.heap_alloc _ _ _ (by simp)]; exact heap_new w _)
 have H1 : Hid (W.heap[w.heap.size + 1]? = some (.cells #[.slice AF n cF, .slice AT n cT, .slice AS nS cS, .slice AE nE cE] 35 (0, 0))) := Lib.hid (by
  rw [HW.out]
  have h := heap_new (w.alloc (.cells #[.slice A n c] 24)) (.cells #[.slice AF n cF, .slice AT n cT, .slice AS nS cS, .slice AE nE cE] 35)
  rw [World.size_alloc] at h; exact h)
 have HN16 := Lib.hid h.n16
 have HA := Lib.hid (h.below hbl)
 have HF := Lib.hid (hf.below (hbl.mono hBF))
 have HTS := Lib.hid (ht.below (hbl.mono hBT))
 have HS := Lib.hid (hS.below (hbl.mono hBS) hBS)
 have HBF : Hid (BF ≤ W.heap.size) := Lib.hid (Nat.le_trans hBF hbl.size)
 have HBT : Hid (BT ≤ W.heap.size) := Lib.hid (Nat.le_trans hBT hbl.size)
 have HBS : Hid (BS ≤ W.heap.size) := Lib.hid (Nat.le_trans hBS hbl.size)
 have HNS : Hid (S.length = nS) := Lib.hid hS.len
 have HL48 : Hid (nS ≤ 48) := Lib.hid (by rw [← HNS.out, ← hSS]; have := stK_len l fs ts fs.length; have := HN16.out; unfold stL; omega)
 have HES := Lib.hid hes
 have HSS := Lib.hid hSS
 have HFL := Lib.hid hfl
 have HEL := Lib.hid hel
 have HGO := Lib.hid hgo
 have HED := Lib.hid (hE.below hbl)
 have HLV := Lib.hid hlv
 have HC0 := Lib.hid hce
 have HCE := Lib.hid (checkEnds_any (w := W) (c := c) (c2 := cF) (c3 := cT) HA.out hlv HF.out HTS.out HBF.out HBT.out (by have := HN16.out; omega) (by have := HN16.out; omega))
 rw [hce] at HCE
 clear h hf ht hS hbl hBF hBT hBS hes hSS hfl hel hgo hE hlv hce
 go_enter Tryz.func18, Tryz.ntmps18
 go_upto_region 1 with fail
 change Code.wp _ _ _ _ ((w.alloc (.cells #[.slice A n c] 24)).alloc (.cells #[.slice AF n cF, .slice AT n cT, .slice AS nS cS, .slice AE nE cE] 35))
 rw [← HW.out]
 obtain ⟨x0, _⟩ := row1f H0.out
 obtain ⟨y0, y1, y2, y3⟩ := row4 H1.out
 go_wp2_with fail
 refine HCE.out.mono ?_
 rintro e X ⟨rfl, hb⟩
 have HWX : Hid (Below W.heap.size W X) := Lib.hid hb
 have HBX : Hid (Below w.heap.size w X) := Lib.hid (HBL.out.trans (hb.mono HBL.out.size))
 have KC : Hid (X.heap[w.heap.size]? = _) := Lib.hid ((hb.block w.heap.size (heapE_lt H0.out)).trans H0.out)
 have KP : Hid (X.heap[w.heap.size + 1]? = _) := Lib.hid ((hb.block (w.heap.size + 1) (heapE_lt H1.out)).trans H1.out)
 have HST0 : Hid (∀ Z, Below X.heap.size X Z → CatAt Z B A n c l ∧ Rd Z BF AF n fs ∧ Rd Z BT AT n ts ∧ RdS Z BS AS nS S ∧ EdF Z AE nE es ∧ BF ≤ Z.heap.size ∧ BT ≤ Z.heap.size ∧ BS ≤ Z.heap.size) := Lib.hid (fun Z hz => by
  have hwz : Below W.heap.size W Z := HWX.out.trans (hz.mono HWX.out.size)
  exact ⟨HA.out.below hwz, HF.out.below (hwz.mono HBF.out), HTS.out.below (hwz.mono HBT.out), HS.out.below (hwz.mono HBS.out) HBS.out, HED.out.below hwz, Nat.le_trans HBF.out hwz.size, Nat.le_trans HBT.out hwz.size, Nat.le_trans HBS.out hwz.size⟩)
 have HSP := Lib.hid (by
  obtain ⟨a1, a2, a3, a4, a5, a6, a7, a8⟩ := HST0.out (X.drewN 1) (Below.drewN' (Below.refl _ X) 1)
  have hh := stepsOf_any (c := c) (c2 := cF) (c3 := cT) a1 HLV.out a2 a3 a6 a7 (chkE_ok HC0.out).1 (chkE_ok HC0.out).2.1
  rw [HSS.out] at hh
  exact hh)
 clear hb x0 y0 y1 y2 y3 HCE
 obtain ⟨x0, _⟩ := row1f KC.out
 obtain ⟨y0, y1, y2, y3⟩ := row4 KP.out
 go_wp2_with fail
 go_region_held3 (fun W' => W'.cell? ⟨w.heap.size, 0, none⟩ = some (.slice A n c) ∧ W'.cell? ⟨w.heap.size + 1, 0, none⟩ = some (.slice AF n cF) ∧ W'.cell? ⟨w.heap.size + 1, 1, none⟩ = some (.slice AT n cT) ∧ W'.cell? ⟨w.heap.size + 1, 2, none⟩ = some (.slice AS nS cS) ∧ W'.cell? ⟨w.heap.size + 1, 3, none⟩ = some (.slice AE nE cE)) ((first | exact ⟨x0, y0, y1, y2, y3⟩ | exact ⟨u0, u1, u2, u3, u4⟩ | exact ⟨v0, v1, v2, v3, v4⟩ | exact ⟨z0, z1, z2, z3, z4⟩ | go_keep)) (first
  | (go_at_call 52; refine HLD.out.mono ?_; rintro e w5 ⟨rfl, hb5⟩; (have hbx : Below X.heap.size X w5 := HB4.out.trans (hb5.mono HB4.out.size)); (have u0 := (row1f ((hbx.block w.heap.size (heapE_lt KC.out)).trans KC.out)).1); (obtain ⟨u1, u2, u3, u4⟩ := row4 ((hbx.block (w.heap.size + 1) (heapE_lt KP.out)).trans KP.out)); (have HB5 := Lib.hid hbx); clear hb5 hbx)
  | (go_at_call 51; refine HEQ.out.mono ?_; rintro e w4 ⟨rfl, hb4⟩; (have hbx : Below X.heap.size X w4 := HB3.out.trans (hb4.mono HB3.out.size)); (have v0 := (row1f ((hbx.block w.heap.size (heapE_lt KC.out)).trans KC.out)).1); (obtain ⟨v1, v2, v3, v4⟩ := row4 ((hbx.block (w.heap.size + 1) (heapE_lt KP.out)).trans KP.out)); (have HB4 := Lib.hid hbx); (have HLD := Lib.hid (by (obtain ⟨a1, a2, a3, a4, a5, a6, a7, a8⟩ := HST0.out w4 hbx); exact leads_any (c := c) (cF := cF) (cT := cT) (cS := cS) (cE := cE) a1 a2 a3 a4 a6 a7 a8 HSS.out HES.out a5 HEL.out HGO.out HFL.out)); clear hb4 hbx)
  | (go_at_call 42; refine HSP.out.mono ?_; rintro e w3 ⟨vs, rfl, hown, hb3⟩; (obtain ⟨A7, c7, hv7⟩ := hown.shape); (rw [HNS.out] at hv7); subst hv7; (have hbx : Below X.heap.size X w3 := (Below.drewN' (Below.refl _ X) 1).trans hb3); (have z0 := (row1f ((hbx.block w.heap.size (heapE_lt KC.out)).trans KC.out)).1); (obtain ⟨z1, z2, z3, z4⟩ := row4 ((hbx.block (w.heap.size + 1) (heapE_lt KP.out)).trans KP.out)); (have HB3 := Lib.hid hbx); (have HEQ := Lib.hid (by (obtain ⟨a1, a2, a3, a4, a5, a6, a7, a8⟩ := HST0.out w3 hbx); (have hq := equalS_any (c := cS) (d := c7) a4 hown.rdS a8 (Nat.le_refl _) (by have := HL48.out; omega) (by have := HL48.out; omega)); (rw [decide_eq_true rfl] at hq); exact hq)); clear hown hb3 hbx))
 have HB5' := HB5.out
 have HRES : Hid (Below w.heap.size w w5) := Lib.hid (HBX.out.trans (HB5'.mono HBX.out.size))
 go_wp2_with fail
 exact bodyPost_ret (results_tmp rfl _ _ _) rfl ⟨rfl, HRES.out⟩
end Go.Proofs.YtminihiecloglaaGreat
namespace Go.Proofs.YtminihiecloglaaGreat
open Go.RowKit
open SemP FlP GaP DiP
set_option maxRecDepth 10000
theorem rg_blocks {w : World} {M : Nat → Prop} {a b : Nat} {x : CV} {E1 E2 : TypeId} (h1 : w.heap[a]? = some (.cells (c5 x).toArray E1 (0, 0))) (h2 : w.heap[b]? = some (.cells #[.slice (some ⟨a, 0, none⟩) 1 1] E2 (0, 0))) (ha : ¬ M a) (hb : ¬ M b) : rgI w M [.slice (some ⟨b, 0, none⟩) 1 1] [[x]] := by
 have g1 : liI w M [.slice (some ⟨a, 0, none⟩) 1 1] [x] := SlI.of_block h1 ha rfl (by omega) (fun j hj => by
  obtain rfl : j = 0 := by omega
  exact ⟨c5 x, rfl, fun i u hu => by rw [Nat.zero_mul, Nat.zero_add]; simpa using hu, rfl⟩)
 exact SlI.of_block h2 hb rfl (by omega) (fun j hj => by
  obtain rfl : j = 0 := by omega
  exact ⟨[.slice (some ⟨a, 0, none⟩) 1 1], rfl, fun i u hu => by rw [Nat.zero_mul, Nat.zero_add]; simpa using hu, g1⟩)
theorem nd_one {w : World} {M : Nat → Prop} {a c : Nat} {x : List (List CV)} {E : TypeId} (hc : w.heap[c]? = some (.cells #[.int .i64 0, .slice (some ⟨a, 0, none⟩) 1 1] E (0, 0))) (hM : ¬ M c) (h : rgI w M [.slice (some ⟨a, 0, none⟩) 1 1] x) : psI w M [.slice (some ⟨c, 0, none⟩) 1 1] [(0, x)] :=
 SlI.of_block hc hM rfl (by omega) (fun j hj => by
  obtain rfl : j = 0 := by omega
  exact ⟨[.int .i64 0, .slice (some ⟨a, 0, none⟩) 1 1], rfl, fun i u hu => by rw [Nat.zero_mul, Nat.zero_add]; simpa using hu, [.int .i64 0], [.slice (some ⟨a, 0, none⟩) 1 1], rfl, rfl, h⟩)
set_option maxHeartbeats 8000000 in
theorem anc1_any (op a b c : Int) (s : ByteArray) (w : World) :
  Calls Tryz.prog 37 #[.int .i64 op, .agg #[.int .i64 a, .int .i64 b, .int .i64 c, .string s]] w fun e w' => ∃ g, e = .returned (.slice (some ⟨g, 0, none⟩) 1 1) ∧ psI w' (fun b => b < w.heap.size) [.slice (some ⟨g, 0, none⟩) 1 1] [(0, [[⟨op, a, b, c, s⟩]])] ∧ Below w.heap.size w w' := by
 obtain ⟨W, HW⟩ : ∃ W, Hid (W = ((((w.alloc (.cells #[.int .i64 a, .int .i64 b, .int .i64 c, .string s] 83)).alloc (.cells (c5 ⟨op, a, b, c, s⟩).toArray 93)).alloc (.cells #[.slice (some ⟨w.heap.size + 1, 0, none⟩) 1 1] 94)).alloc (.cells #[.int .i64 0, .slice (some ⟨w.heap.size + 1 + 1, 0, none⟩) 1 1] 99))) := ⟨_, Lib.hid rfl⟩
 obtain ⟨h1, h2, h3, hbl⟩ := alloc4 w (.cells #[.int .i64 a, .int .i64 b, .int .i64 c, .string s] 83) (.cells (c5 ⟨op, a, b, c, s⟩).toArray 93) (.cells #[.slice (some ⟨w.heap.size + 1, 0, none⟩) 1 1] 94) (.cells #[.int .i64 0, .slice (some ⟨w.heap.size + 1 + 1, 0, none⟩) 1 1] 99)
 rw [← HW.out] at h1 h2 h3 hbl
 have HR : Hid (psI W (fun b => b < w.heap.size) [.slice (some ⟨w.heap.size + 1 + 1 + 1, 0, none⟩) 1 1] [(0, [[⟨op, a, b, c, s⟩]])] ∧ Below w.heap.size w W) := Lib.hid ⟨nd_one h3 (by omega) (rg_blocks h1 h2 (by omega) (by omega)), hbl⟩
 clear h1 h2 h3 hbl
 go_enter Tryz.func37, Tryz.ntmps37
 go_wp2_with fail
 refine bodyPost_ret (v := .slice (some ⟨w.heap.size + 1 + 1 + 1, 0, none⟩) 1 1) ?_ rfl ⟨w.heap.size + 1 + 1 + 1, rfl, ?_⟩
 ·simp [results, Tryz.results37, go_sem]
 ·have := HR.out; rw [HW.out] at this; exact this
theorem enters_anc1 : ∀ args w, (callFunc 37 args).run Tryz.prog w = .ok (.enter 37 args) w := enters_of Tryz.func37 (by kernel_rfl) rfl
theorem ex_chkE : chkE exL [0, 0] [1, 1] = 0 := by decide +kernel
theorem ex_stL : stL exL [0, 0] [1, 1] = [(0, 2), (1, 2)] := by decide +kernel
theorem ex_befP : befP exL [0, 0] [1, 1] [(0, 2), (1, 2)] = [(1, 0)] := by decide +kernel
theorem ex_goes : Goes (befG [(1, 0)]) 2 2 := by
 show (ordS (befG [(1, 0)]) 2 2).2.length = 2
 decide +kernel
theorem ex_make : makeE exL [0, 0] [1, 1] = 0 := by
 unfold makeE
 rw [if_pos ex_chkE, if_pos (by rw [ex_stL, ex_befP]; exact ex_goes)]
theorem eqArr (W : World) : (binOp .eql 91 (.agg #[.int .i64 1, .int .i64 0]) (.agg #[.int .i64 1, .int .i64 0])).run Tryz.prog W = .ok (.bool true) W := by
 kernel_rfl
structure AnpSt (w W : World) (b0 b1 b2 b3 b4 b5 b6 b7 b8 b9 b10 b11 b12 b13 b14 b15 b16 b17 b18 b19 b20 b21 : Bool) (v9 v10 v11 v12 v13 v14 v15 v16 v17 v18 v19 v20 v21 v22 v23 v24 v25 v26 v27 v28 v4 : Value) (w' : World) : Prop where
 q : b21 = true → b0 = true ∧ b1 = true ∧ b2 = true ∧ b3 = true ∧ b4 = true ∧ b5 = true ∧ b6 = true ∧ b7 = true ∧ b8 = true ∧ b9 = true ∧ b10 = true ∧ b11 = true ∧ b12 = true ∧ b13 = true ∧ b14 = true ∧ b15 = true ∧ b16 = true ∧ b17 = true ∧ b18 = true ∧ b19 = true ∧ b20 = true
 bel : b21 = false → Below W.heap.size W w'
 nb : b20 = false → v4 = undef
 bx : ∀ b, v4 = .pointer (some ⟨b, 0, none⟩) → b < w'.heap.size
 h0 : b0 = true → v9 = .agg #[.int .i64 1, .int .i64 0, .int .i64 0, .string ⟨#[]⟩]
 h1 : b1 = true → v10 = .agg #[.int .i64 1, .int .i64 0, .int .i64 0, .string ⟨#[]⟩, .int .i64 0, .slice none 0 0]
 h2 : b2 = true → v11 = .agg #[.int .i64 2, .int .i64 0, .int .i64 0, .string ⟨#[]⟩]
 h3 : b3 = true → v12 = .agg #[.int .i64 2, .int .i64 0, .int .i64 0, .string ⟨#[]⟩, .int .i64 0, .slice none 0 0]
 h4 : b4 = true → b21 = false → ∃ g, v13 = .slice (some ⟨g, 0, none⟩) 2 2 ∧ rsI w' (fun b => b < W.heap.size ∨ v4 = .pointer (some ⟨b, 0, none⟩)) [.slice (some ⟨g, 0, none⟩) 2 2] exA
 h5 : b5 = true → b21 = false → ∃ g, v14 = .agg #[.string ⟨#[97]⟩, .slice (some ⟨g, 0, none⟩) 2 2] ∧ rsI w' (fun b => b < W.heap.size ∨ v4 = .pointer (some ⟨b, 0, none⟩)) [.slice (some ⟨g, 0, none⟩) 2 2] exA
 h6 : b6 = true → v15 = .agg #[.int .i64 1, .int .i64 0, .int .i64 0, .string ⟨#[]⟩]
 h7 : b7 = true → v16 = .func (.func 37) #[] #[]
 h8 : b8 = true → v17 = .agg #[.int .i64 1, .int .i64 0, .int .i64 0, .string ⟨#[]⟩]
 h9 : b9 = true → b21 = false → ∃ g, v18 = .slice (some ⟨g, 0, none⟩) 1 1 ∧ psI w' (fun b => b < W.heap.size ∨ v4 = .pointer (some ⟨b, 0, none⟩)) [.slice (some ⟨g, 0, none⟩) 1 1] (nd1 6)
 h10 : b10 = true → b21 = false → ∃ g, v19 = .agg #[.int .i64 1, .int .i64 0, .int .i64 0, .string ⟨#[]⟩, .int .i64 0, .slice (some ⟨g, 0, none⟩) 1 1] ∧ psI w' (fun b => b < W.heap.size ∨ v4 = .pointer (some ⟨b, 0, none⟩)) [.slice (some ⟨g, 0, none⟩) 1 1] (nd1 6)
 h11 : b11 = true → v20 = .agg #[.int .i64 2, .int .i64 0, .int .i64 0, .string ⟨#[]⟩]
 h12 : b12 = true → v21 = .func (.func 37) #[] #[]
 h13 : b13 = true → v22 = .agg #[.int .i64 0, .int .i64 0, .int .i64 0, .string ⟨#[]⟩]
 h14 : b14 = true → b21 = false → ∃ g, v23 = .slice (some ⟨g, 0, none⟩) 1 1 ∧ psI w' (fun b => b < W.heap.size ∨ v4 = .pointer (some ⟨b, 0, none⟩)) [.slice (some ⟨g, 0, none⟩) 1 1] (nd1 0)
 h15 : b15 = true → b21 = false → ∃ g, v24 = .agg #[.int .i64 2, .int .i64 0, .int .i64 0, .string ⟨#[]⟩, .int .i64 0, .slice (some ⟨g, 0, none⟩) 1 1] ∧ psI w' (fun b => b < W.heap.size ∨ v4 = .pointer (some ⟨b, 0, none⟩)) [.slice (some ⟨g, 0, none⟩) 1 1] (nd1 0)
 h16 : b16 = true → b21 = false → ∃ g, v25 = .slice (some ⟨g, 0, none⟩) 2 2 ∧ rsI w' (fun b => b < W.heap.size ∨ v4 = .pointer (some ⟨b, 0, none⟩)) [.slice (some ⟨g, 0, none⟩) 2 2] exB
 h17 : b17 = true → b21 = false → ∃ g, v26 = .agg #[.string ⟨#[98]⟩, .slice (some ⟨g, 0, none⟩) 2 2] ∧ rsI w' (fun b => b < W.heap.size ∨ v4 = .pointer (some ⟨b, 0, none⟩)) [.slice (some ⟨g, 0, none⟩) 2 2] exB
 h18 : b18 = true → b21 = false → ∃ g, v27 = .slice (some ⟨g, 0, none⟩) 2 2 ∧ ssI w' (fun b => b < W.heap.size ∨ v4 = .pointer (some ⟨b, 0, none⟩)) [.slice (some ⟨g, 0, none⟩) 2 2] exL
 h19 : b19 = true → b21 = false → ∃ g, v28 = .agg #[.slice (some ⟨g, 0, none⟩) 2 2] ∧ ssI w' (fun b => b < W.heap.size ∨ v4 = .pointer (some ⟨b, 0, none⟩)) [.slice (some ⟨g, 0, none⟩) 2 2] exL
 h20 : b20 = true → b21 = false → ∃ g, v4 = .pointer (some ⟨g, 0, none⟩) ∧ w'.heap[g]? = some (.cells #[.slice none 0 0] 24) ∧ W.heap.size ≤ g
 o1_0 : b1 = true → b0 = true
 o3_2 : b3 = true → b2 = true
 o4_1 : b4 = true → b1 = true
 o4_3 : b4 = true → b3 = true
 o5_4 : b5 = true → b4 = true
 o9_7 : b9 = true → b7 = true
 o9_8 : b9 = true → b8 = true
 o10_6 : b10 = true → b6 = true
 o10_9 : b10 = true → b9 = true
 o14_12 : b14 = true → b12 = true
 o14_13 : b14 = true → b13 = true
 o15_11 : b15 = true → b11 = true
 o15_14 : b15 = true → b14 = true
 o16_10 : b16 = true → b10 = true
 o16_15 : b16 = true → b15 = true
 o17_16 : b17 = true → b16 = true
 o18_5 : b18 = true → b5 = true
 o18_17 : b18 = true → b17 = true
 o19_18 : b19 = true → b18 = true
 fin : b21 = true → ∃ g gb, v4 = .pointer (some ⟨gb, 0, none⟩) ∧ w'.heap[gb]? = some (.cells #[.slice (some ⟨g, 0, none⟩) 2 2] 24 (0, 0)) ∧ W.heap.size ≤ gb ∧ ssI w' (fun b => b < W.heap.size) [.slice (some ⟨g, 0, none⟩) 2 2] exL ∧ Below W.heap.size W w'
inductive AnpJ (w W : World) (p0 p1 p2 p3 p5 p6 p7 p8 p29 p30 p31 p32 p33 p34 p35 p36 p37 p38 p39 p40 p41 p42 p43 p44 p45 p46 p47 p48 p49 p50 p51 p52 p53 p54 p55 p56 p57 p58 p59 p60 p61 p62 p63 : Value) : Array Bool → Act → World → Prop where
 | mk (b0 b1 b2 b3 b4 b5 b6 b7 b8 b9 b10 b11 b12 b13 b14 b15 b16 b17 b18 b19 b20 b21 : Bool) (v9 v10 v11 v12 v13 v14 v15 v16 v17 v18 v19 v20 v21 v22 v23 v24 v25 v26 v27 v28 v4 : Value) (w' : World) : AnpSt w W b0 b1 b2 b3 b4 b5 b6 b7 b8 b9 b10 b11 b12 b13 b14 b15 b16 b17 b18 b19 b20 b21 v9 v10 v11 v12 v13 v14 v15 v16 v17 v18 v19 v20 v21 v22 v23 v24 v25 v26 v27 v28 v4 w' → AnpJ w W p0 p1 p2 p3 p5 p6 p7 p8 p29 p30 p31 p32 p33 p34 p35 p36 p37 p38 p39 p40 p41 p42 p43 p44 p45 p46 p47 p48 p49 p50 p51 p52 p53 p54 p55 p56 p57 p58 p59 p60 p61 p62 p63 #[b0, b1, b2, b3, b4, b5, b6, b7, b8, b9, b10, b11, b12, b13, b14, b15, b16, b17, b18, b19, b20, b21] { tmps := List.toArray (p0 :: p1 :: p2 :: p3 :: v4 :: p5 :: p6 :: p7 :: p8 :: v9 :: v10 :: v11 :: v12 :: v13 :: v14 :: v15 :: v16 :: v17 :: v18 :: v19 :: v20 :: v21 :: v22 :: v23 :: v24 :: v25 :: v26 :: v27 :: v28 :: p29 :: p30 :: p31 :: p32 :: p33 :: p34 :: p35 :: p36 :: p37 :: p38 :: p39 :: p40 :: p41 :: p42 :: p43 :: p44 :: p45 :: p46 :: p47 :: p48 :: p49 :: p50 :: p51 :: p52 :: p53 :: p54 :: p55 :: p56 :: p57 :: p58 :: p59 :: p60 :: p61 :: p62 :: p63 :: []), defers := [] } w'
set_option maxHeartbeats 16000000 in
theorem panchor_any (w : World) (hm : LenAt w) (h1 : 1 < w.heap.size) :
  Calls Tryz.prog 11 #[] w fun e w' => e = .returned (.bool true) ∧ Below w.heap.size w w' := by
 have HM := Lib.hid (And.intro hm h1)
 clear hm h1
 have eg := enters_anc1
 go_enter Tryz.func11, Tryz.ntmps11
 go_upto_region 3 with fail
 obtain ⟨W, HW⟩ : ∃ W, Hid (W = (w.alloc (.cells #[.int .i64 1, .int .i64 0, .int .i64 0, .string ⟨#[]⟩] 83)).alloc (.cells #[.int .i64 2, .int .i64 0, .int .i64 0, .string ⟨#[]⟩] 83)) := ⟨_, Lib.hid rfl⟩
 have hbl : Below w.heap.size w W := by rw [HW.out]; exact ((Below.refl _ w).alloc (Nat.le_refl _) _).alloc (by simp) _
 have hz1 : w.heap.size + 1 < W.heap.size := by rw [HW.out]; simp
 have hz0 : w.heap.size < W.heap.size := by omega
 have H1 : W.heap[w.heap.size]? = some (.cells #[.int .i64 1, .int .i64 0, .int .i64 0, .string ⟨#[]⟩] 83 (0, 0)) := by
  rw [HW.out, Below.heap_alloc _ _ _ (by simp)]
  exact heap_new w _
 have H2 : W.heap[w.heap.size + 1]? = some (.cells #[.int .i64 2, .int .i64 0, .int .i64 0, .string ⟨#[]⟩] 83 (0, 0)) := by
  rw [HW.out]
  have h := heap_new (w.alloc (.cells #[.int .i64 1, .int .i64 0, .int .i64 0, .string ⟨#[]⟩] 83)) (.cells #[.int .i64 2, .int .i64 0, .int .i64 0, .string ⟨#[]⟩] 83)
  rw [World.size_alloc] at h; exact h
 change Code.wp _ _ _ _ ((w.alloc (.cells #[.int .i64 1, .int .i64 0, .int .i64 0, .string ⟨#[]⟩] 83)).alloc (.cells #[.int .i64 2, .int .i64 0, .int .i64 0, .string ⟨#[]⟩] 83))
 rw [← HW.out]
 have HQ := Lib.hid (cells4 H1)
 have HR := Lib.hid (cells4 H2)
 have HV1 := Lib.hid H1
 have HV2 := Lib.hid H2
 have HBL := Lib.hid hbl
 clear H1 H2 hbl
 refine wp_region_inv (by kernel_rfl) (I := AnpJ w W _ _ _ _ _ _ _ _ _ _ _ _ _ _ _ _ _ _ _ _ _ _ _ _ _ _ _ _ _ _ _ _ _ _ _ _ _ _ _ _ _ _ _) (.mk false false false false false false false false false false false false false false false false false false false false false false _ _ _ _ _ _ _ _ _ _ _ _ _ _ _ _ _ _ _ _ _ _ ⟨nofun, fun _ => (Below.refl _ W).drew, fun _ => rfl, fun b h => (by cases h), nofun, nofun, nofun, nofun, nofun, nofun, nofun, nofun, nofun, nofun, nofun, nofun, nofun, nofun, nofun, nofun, nofun, nofun, nofun, nofun, nofun, nofun, nofun, nofun, nofun, nofun, nofun, nofun, nofun, nofun, nofun, nofun, nofun, nofun, nofun, nofun, nofun, nofun, nofun, nofun, nofun⟩) ?step ?fin
 case step =>
  rintro lq a' w' ix ⟨b0, b1, b2, b3, b4, b5, b6, b7, b8, b9, b10, b11, b12, b13, b14, b15, b16, b17, b18, b19, b20, b21, v9, v10, v11, v12, v13, v14, v15, v16, v17, v18, v19, v20, v21, v22, v23, v24, v25, v26, v27, v28, v4, _, HT⟩ hi
  obtain ⟨hi_, hib⟩ := ready_lt hi
  have HTH := Lib.hid HT
  match ix, hi_, hi, hib with
  | 0, _, hi, hib =>
   obtain rfl : b0 = false := by simpa using hib
   obtain rfl : b21 = false := by
    cases hbl : b21 with
    | false => rfl
    | true => have h := (HT.q hbl).1; cases h
   have hbel := HT.bel rfl
   have q0 := (hbel.cell (p := ⟨w.heap.size, 0, none⟩) hz0).trans HQ.out.1
   have q1 := (hbel.cell (p := ⟨w.heap.size, 1, none⟩) hz0).trans HQ.out.2.1
   have q2 := (hbel.cell (p := ⟨w.heap.size, 2, none⟩) hz0).trans HQ.out.2.2.1
   have q3 := (hbel.cell (p := ⟨w.heap.size, 3, none⟩) hz0).trans HQ.out.2.2.2
   have HBE := Lib.hid hbel
   clear HT hbel
   refine wpOp_one rfl rfl (fun K hK => ?_)
   go_simp
   exact hK.out _ _ (.mk true b1 b2 b3 b4 b5 b6 b7 b8 b9 b10 b11 b12 b13 b14 b15 b16 b17 b18 b19 b20 false _ _ _ _ _ _ _ _ _ _ _ _ _ _ _ _ _ _ _ _ _ _ { HTH.out with q := fun h => (by cases h), fin := fun h => (by cases h), h0 := fun _ => rfl, o1_0 := fun _ => rfl })
  | 1, _, hi, hib =>
   obtain rfl : b1 = false := by simpa using hib
   obtain rfl : b21 = false := by
    cases hbl : b21 with
    | false => rfl
    | true => have h := (HT.q hbl).2.1; cases h
   have hbel := HT.bel rfl
   have d0 : b0 = true := ready_dep hi rfl 0 (by kernel_rfl)
   have hd0 := HT.h0 d0
   subst hd0
   have HBE := Lib.hid hbel
   clear HT hbel
   refine wpOp_one rfl rfl (fun K hK => ?_)
   go_simp
   exact hK.out _ _ (.mk b0 true b2 b3 b4 b5 b6 b7 b8 b9 b10 b11 b12 b13 b14 b15 b16 b17 b18 b19 b20 false _ _ _ _ _ _ _ _ _ _ _ _ _ _ _ _ _ _ _ _ _ _ { HTH.out with q := fun h => (by cases h), fin := fun h => (by cases h), h1 := fun _ => rfl, o1_0 := fun _ => d0, o4_1 := fun _ => rfl })
  | 2, _, hi, hib =>
   obtain rfl : b2 = false := by simpa using hib
   obtain rfl : b21 = false := by
    cases hbl : b21 with
    | false => rfl
    | true => have h := (HT.q hbl).2.2.1; cases h
   have hbel := HT.bel rfl
   have q0 := (hbel.cell (p := ⟨w.heap.size + 1, 0, none⟩) hz1).trans HR.out.1
   have q1 := (hbel.cell (p := ⟨w.heap.size + 1, 1, none⟩) hz1).trans HR.out.2.1
   have q2 := (hbel.cell (p := ⟨w.heap.size + 1, 2, none⟩) hz1).trans HR.out.2.2.1
   have q3 := (hbel.cell (p := ⟨w.heap.size + 1, 3, none⟩) hz1).trans HR.out.2.2.2
   have HBE := Lib.hid hbel
   clear HT hbel
   refine wpOp_one rfl rfl (fun K hK => ?_)
   go_simp
   exact hK.out _ _ (.mk b0 b1 true b3 b4 b5 b6 b7 b8 b9 b10 b11 b12 b13 b14 b15 b16 b17 b18 b19 b20 false _ _ _ _ _ _ _ _ _ _ _ _ _ _ _ _ _ _ _ _ _ _ { HTH.out with q := fun h => (by cases h), fin := fun h => (by cases h), h2 := fun _ => rfl, o3_2 := fun _ => rfl })
  | 3, _, hi, hib =>
   obtain rfl : b3 = false := by simpa using hib
   obtain rfl : b21 = false := by
    cases hbl : b21 with
    | false => rfl
    | true => have h := (HT.q hbl).2.2.2.1; cases h
   have hbel := HT.bel rfl
   have d2 : b2 = true := ready_dep hi rfl 2 (by kernel_rfl)
   have hd2 := HT.h2 d2
   subst hd2
   have HBE := Lib.hid hbel
   clear HT hbel
   refine wpOp_one rfl rfl (fun K hK => ?_)
   go_simp
   exact hK.out _ _ (.mk b0 b1 b2 true b4 b5 b6 b7 b8 b9 b10 b11 b12 b13 b14 b15 b16 b17 b18 b19 b20 false _ _ _ _ _ _ _ _ _ _ _ _ _ _ _ _ _ _ _ _ _ _ { HTH.out with q := fun h => (by cases h), fin := fun h => (by cases h), h3 := fun _ => rfl, o3_2 := fun _ => d2, o4_3 := fun _ => rfl })
  | 4, _, hi, hib =>
   obtain rfl : b4 = false := by simpa using hib
   obtain rfl : b21 = false := by
    cases hbl : b21 with
    | false => rfl
    | true => have h := (HT.q hbl).2.2.2.2.1; cases h
   have hbel := HT.bel rfl
   have d1 : b1 = true := ready_dep hi rfl 1 (by kernel_rfl)
   have d3 : b3 = true := ready_dep hi rfl 3 (by kernel_rfl)
   have hd1 := HT.h1 d1
   subst hd1
   have hd3 := HT.h3 d3
   subst hd3
   have HBE := Lib.hid hbel
   clear HT hbel
   refine wpOp_one rfl rfl (fun K hK => ?_)
   go_simp
   have hba : Below w'.heap.size w' (w'.alloc (.cells #[.int .i64 1, .int .i64 0, .int .i64 0, .string ⟨#[]⟩, .int .i64 0, .slice none 0 0, .int .i64 2, .int .i64 0, .int .i64 0, .string ⟨#[]⟩, .int .i64 0, .slice none 0 0] 86)) := (Below.refl _ w').alloc (Nat.le_refl _) _
   have hnm : ¬ (fun b => b < W.heap.size ∨ v4 = .pointer (some ⟨b, 0, none⟩)) w'.heap.size := by
    rintro (h | h)
    ·have := HBE.out.size; omega
    ·have := HTH.out.bx _ h; omega
   exact hK.out _ _ (.mk b0 b1 b2 b3 true b5 b6 b7 b8 b9 b10 b11 b12 b13 b14 b15 b16 b17 b18 b19 b20 false _ _ _ _ _ _ _ _ _ _ _ _ _ _ _ _ _ _ _ _ _ _ { HTH.out with q := fun h => (by cases h), fin := fun h => (by cases h), bel := fun _ => HBE.out.trans (hba.mono HBE.out.size), h4 := fun _ _ => ⟨w'.heap.size, rfl, rels_two (heap_new w' _) hnm (nil_needs _ _) (nil_needs _ _)⟩, o4_1 := fun _ => d1, o4_3 := fun _ => d3, o5_4 := fun _ => rfl, h5 := fun h hf => (by obtain ⟨g, e, r⟩ := HTH.out.h5 h hf; exact ⟨g, e, rs_turns.kept r hba⟩), h9 := fun h hf => (by obtain ⟨g, e, r⟩ := HTH.out.h9 h hf; exact ⟨g, e, ps_turns.kept r hba⟩), h10 := fun h hf => (by obtain ⟨g, e, r⟩ := HTH.out.h10 h hf; exact ⟨g, e, ps_turns.kept r hba⟩), h14 := fun h hf => (by obtain ⟨g, e, r⟩ := HTH.out.h14 h hf; exact ⟨g, e, ps_turns.kept r hba⟩), h15 := fun h hf => (by obtain ⟨g, e, r⟩ := HTH.out.h15 h hf; exact ⟨g, e, ps_turns.kept r hba⟩), h16 := fun h hf => (by obtain ⟨g, e, r⟩ := HTH.out.h16 h hf; exact ⟨g, e, rs_turns.kept r hba⟩), h17 := fun h hf => (by obtain ⟨g, e, r⟩ := HTH.out.h17 h hf; exact ⟨g, e, rs_turns.kept r hba⟩), h18 := fun h hf => (by obtain ⟨g, e, r⟩ := HTH.out.h18 h hf; exact ⟨g, e, ss_turns.kept r hba⟩), h19 := fun h hf => (by obtain ⟨g, e, r⟩ := HTH.out.h19 h hf; exact ⟨g, e, ss_turns.kept r hba⟩), h20 := fun h hf => (by obtain ⟨g, e, r, l⟩ := HTH.out.h20 h hf; exact ⟨g, e, (hba.block g (heapE_lt r)).trans r, l⟩), bx := fun b h => Nat.lt_of_lt_of_le (HTH.out.bx b h) hba.size })
  | 5, _, hi, hib =>
   obtain rfl : b5 = false := by simpa using hib
   obtain rfl : b21 = false := by
    cases hbl : b21 with
    | false => rfl
    | true => have h := (HT.q hbl).2.2.2.2.2.1; cases h
   have hbel := HT.bel rfl
   have d4 : b4 = true := ready_dep hi rfl 4 (by kernel_rfl)
   obtain ⟨g4, e4, r4⟩ := HT.h4 d4 rfl
   subst e4
   have HR4 := Lib.hid r4
   clear r4
   have HBE := Lib.hid hbel
   clear HT hbel
   refine wpOp_one rfl rfl (fun K hK => ?_)
   go_simp
   exact hK.out _ _ (.mk b0 b1 b2 b3 b4 true b6 b7 b8 b9 b10 b11 b12 b13 b14 b15 b16 b17 b18 b19 b20 false _ _ _ _ _ _ _ _ _ _ _ _ _ _ _ _ _ _ _ _ _ _ { HTH.out with q := fun h => (by cases h), fin := fun h => (by cases h), h5 := fun _ _ => ⟨g4, rfl, HR4.out⟩, o5_4 := fun _ => d4, o18_5 := fun _ => rfl })
  | 6, _, hi, hib =>
   obtain rfl : b6 = false := by simpa using hib
   obtain rfl : b21 = false := by
    cases hbl : b21 with
    | false => rfl
    | true => have h := (HT.q hbl).2.2.2.2.2.2.1; cases h
   have hbel := HT.bel rfl
   have q0 := (hbel.cell (p := ⟨w.heap.size, 0, none⟩) hz0).trans HQ.out.1
   have q1 := (hbel.cell (p := ⟨w.heap.size, 1, none⟩) hz0).trans HQ.out.2.1
   have q2 := (hbel.cell (p := ⟨w.heap.size, 2, none⟩) hz0).trans HQ.out.2.2.1
   have q3 := (hbel.cell (p := ⟨w.heap.size, 3, none⟩) hz0).trans HQ.out.2.2.2
   have HBE := Lib.hid hbel
   clear HT hbel
   refine wpOp_one rfl rfl (fun K hK => ?_)
   go_simp
   exact hK.out _ _ (.mk b0 b1 b2 b3 b4 b5 true b7 b8 b9 b10 b11 b12 b13 b14 b15 b16 b17 b18 b19 b20 false _ _ _ _ _ _ _ _ _ _ _ _ _ _ _ _ _ _ _ _ _ _ { HTH.out with q := fun h => (by cases h), fin := fun h => (by cases h), h6 := fun _ => rfl, o10_6 := fun _ => rfl })
  | 7, _, hi, hib =>
   obtain rfl : b7 = false := by simpa using hib
   obtain rfl : b21 = false := by
    cases hbl : b21 with
    | false => rfl
    | true => have h := (HT.q hbl).2.2.2.2.2.2.2.1; cases h
   have hbel := HT.bel rfl
   have HBE := Lib.hid hbel
   clear HT hbel
   refine wpOp_one rfl rfl (fun K hK => ?_)
   go_simp
   exact hK.out _ _ (.mk b0 b1 b2 b3 b4 b5 b6 true b8 b9 b10 b11 b12 b13 b14 b15 b16 b17 b18 b19 b20 false _ _ _ _ _ _ _ _ _ _ _ _ _ _ _ _ _ _ _ _ _ _ { HTH.out with q := fun h => (by cases h), fin := fun h => (by cases h), h7 := fun _ => rfl, o9_7 := fun _ => rfl })
  | 8, _, hi, hib =>
   obtain rfl : b8 = false := by simpa using hib
   obtain rfl : b21 = false := by
    cases hbl : b21 with
    | false => rfl
    | true => have h := (HT.q hbl).2.2.2.2.2.2.2.2.1; cases h
   have hbel := HT.bel rfl
   have q0 := (hbel.cell (p := ⟨w.heap.size, 0, none⟩) hz0).trans HQ.out.1
   have q1 := (hbel.cell (p := ⟨w.heap.size, 1, none⟩) hz0).trans HQ.out.2.1
   have q2 := (hbel.cell (p := ⟨w.heap.size, 2, none⟩) hz0).trans HQ.out.2.2.1
   have q3 := (hbel.cell (p := ⟨w.heap.size, 3, none⟩) hz0).trans HQ.out.2.2.2
   have HBE := Lib.hid hbel
   clear HT hbel
   refine wpOp_one rfl rfl (fun K hK => ?_)
   go_simp
   exact hK.out _ _ (.mk b0 b1 b2 b3 b4 b5 b6 b7 true b9 b10 b11 b12 b13 b14 b15 b16 b17 b18 b19 b20 false _ _ _ _ _ _ _ _ _ _ _ _ _ _ _ _ _ _ _ _ _ _ { HTH.out with q := fun h => (by cases h), fin := fun h => (by cases h), h8 := fun _ => rfl, o9_8 := fun _ => rfl })
  | 9, _, hi, hib =>
   obtain rfl : b9 = false := by simpa using hib
   obtain rfl : b21 = false := by
    cases hbl : b21 with
    | false => rfl
    | true => have h := (HT.q hbl).2.2.2.2.2.2.2.2.2.1; cases h
   have hbel := HT.bel rfl
   have d7 : b7 = true := ready_dep hi rfl 7 (by kernel_rfl)
   have d8 : b8 = true := ready_dep hi rfl 8 (by kernel_rfl)
   have hd7 := HT.h7 d7
   subst hd7
   have hd8 := HT.h8 d8
   subst hd8
   have HC := Lib.hid (anc1_any 6 1 0 0 ⟨#[]⟩ w')
   have HBE := Lib.hid hbel
   clear HT hbel
   refine wpOp_one rfl rfl (fun K hK => ?_)
   go_simp
   go_at_fn 37
   refine HC.out.mono ?_
   rintro e w2 ⟨g, rfl, hp, hb⟩
   have hp2 := ps_turns.go hp (FrM.refl w2 _) (M' := (fun b => b < W.heap.size ∨ v4 = .pointer (some ⟨b, 0, none⟩))) (fun b hb2 => .inl (hb2.elim (fun h => by show b < _; have := HBE.out.size; omega) (fun h => HTH.out.bx b h)))
   exact hK.out _ _ (.mk b0 b1 b2 b3 b4 b5 b6 b7 b8 true b10 b11 b12 b13 b14 b15 b16 b17 b18 b19 b20 false _ _ _ _ _ _ _ _ _ _ _ _ _ _ _ _ _ _ _ _ _ _ { HTH.out with q := fun h => (by cases h), fin := fun h => (by cases h), bel := fun _ => HBE.out.trans (hb.mono HBE.out.size), h9 := fun _ _ => ⟨g, rfl, hp2⟩, o9_7 := fun _ => d7, o9_8 := fun _ => d8, o10_9 := fun _ => rfl, h4 := fun h hf => (by obtain ⟨g, e, r⟩ := HTH.out.h4 h hf; exact ⟨g, e, rs_turns.kept r hb⟩), h5 := fun h hf => (by obtain ⟨g, e, r⟩ := HTH.out.h5 h hf; exact ⟨g, e, rs_turns.kept r hb⟩), h10 := fun h hf => (by obtain ⟨g, e, r⟩ := HTH.out.h10 h hf; exact ⟨g, e, ps_turns.kept r hb⟩), h14 := fun h hf => (by obtain ⟨g, e, r⟩ := HTH.out.h14 h hf; exact ⟨g, e, ps_turns.kept r hb⟩), h15 := fun h hf => (by obtain ⟨g, e, r⟩ := HTH.out.h15 h hf; exact ⟨g, e, ps_turns.kept r hb⟩), h16 := fun h hf => (by obtain ⟨g, e, r⟩ := HTH.out.h16 h hf; exact ⟨g, e, rs_turns.kept r hb⟩), h17 := fun h hf => (by obtain ⟨g, e, r⟩ := HTH.out.h17 h hf; exact ⟨g, e, rs_turns.kept r hb⟩), h18 := fun h hf => (by obtain ⟨g, e, r⟩ := HTH.out.h18 h hf; exact ⟨g, e, ss_turns.kept r hb⟩), h19 := fun h hf => (by obtain ⟨g, e, r⟩ := HTH.out.h19 h hf; exact ⟨g, e, ss_turns.kept r hb⟩), h20 := fun h hf => (by obtain ⟨g, e, r, l⟩ := HTH.out.h20 h hf; exact ⟨g, e, (hb.block g (heapE_lt r)).trans r, l⟩), bx := fun b h => Nat.lt_of_lt_of_le (HTH.out.bx b h) hb.size })
  | 10, _, hi, hib =>
   obtain rfl : b10 = false := by simpa using hib
   obtain rfl : b21 = false := by
    cases hbl : b21 with
    | false => rfl
    | true => have h := (HT.q hbl).2.2.2.2.2.2.2.2.2.2.1; cases h
   have hbel := HT.bel rfl
   have d6 : b6 = true := ready_dep hi rfl 6 (by kernel_rfl)
   have d9 : b9 = true := ready_dep hi rfl 9 (by kernel_rfl)
   have hd6 := HT.h6 d6
   subst hd6
   obtain ⟨g9, e9, r9⟩ := HT.h9 d9 rfl
   subst e9
   have HR9 := Lib.hid r9
   clear r9
   have HBE := Lib.hid hbel
   clear HT hbel
   refine wpOp_one rfl rfl (fun K hK => ?_)
   go_simp
   exact hK.out _ _ (.mk b0 b1 b2 b3 b4 b5 b6 b7 b8 b9 true b11 b12 b13 b14 b15 b16 b17 b18 b19 b20 false _ _ _ _ _ _ _ _ _ _ _ _ _ _ _ _ _ _ _ _ _ _ { HTH.out with q := fun h => (by cases h), fin := fun h => (by cases h), h10 := fun _ _ => ⟨g9, rfl, HR9.out⟩, o10_6 := fun _ => d6, o10_9 := fun _ => d9, o16_10 := fun _ => rfl })
  | 11, _, hi, hib =>
   obtain rfl : b11 = false := by simpa using hib
   obtain rfl : b21 = false := by
    cases hbl : b21 with
    | false => rfl
    | true => have h := (HT.q hbl).2.2.2.2.2.2.2.2.2.2.2.1; cases h
   have hbel := HT.bel rfl
   have q0 := (hbel.cell (p := ⟨w.heap.size + 1, 0, none⟩) hz1).trans HR.out.1
   have q1 := (hbel.cell (p := ⟨w.heap.size + 1, 1, none⟩) hz1).trans HR.out.2.1
   have q2 := (hbel.cell (p := ⟨w.heap.size + 1, 2, none⟩) hz1).trans HR.out.2.2.1
   have q3 := (hbel.cell (p := ⟨w.heap.size + 1, 3, none⟩) hz1).trans HR.out.2.2.2
   have HBE := Lib.hid hbel
   clear HT hbel
   refine wpOp_one rfl rfl (fun K hK => ?_)
   go_simp
   exact hK.out _ _ (.mk b0 b1 b2 b3 b4 b5 b6 b7 b8 b9 b10 true b12 b13 b14 b15 b16 b17 b18 b19 b20 false _ _ _ _ _ _ _ _ _ _ _ _ _ _ _ _ _ _ _ _ _ _ { HTH.out with q := fun h => (by cases h), fin := fun h => (by cases h), h11 := fun _ => rfl, o15_11 := fun _ => rfl })
  | 12, _, hi, hib =>
   obtain rfl : b12 = false := by simpa using hib
   obtain rfl : b21 = false := by
    cases hbl : b21 with
    | false => rfl
    | true => have h := (HT.q hbl).2.2.2.2.2.2.2.2.2.2.2.2.1; cases h
   have hbel := HT.bel rfl
   have HBE := Lib.hid hbel
   clear HT hbel
   refine wpOp_one rfl rfl (fun K hK => ?_)
   go_simp
   exact hK.out _ _ (.mk b0 b1 b2 b3 b4 b5 b6 b7 b8 b9 b10 b11 true b13 b14 b15 b16 b17 b18 b19 b20 false _ _ _ _ _ _ _ _ _ _ _ _ _ _ _ _ _ _ _ _ _ _ { HTH.out with q := fun h => (by cases h), fin := fun h => (by cases h), h12 := fun _ => rfl, o14_12 := fun _ => rfl })
  | 13, _, hi, hib =>
   obtain rfl : b13 = false := by simpa using hib
   obtain rfl : b21 = false := by
    cases hbl : b21 with
    | false => rfl
    | true => have h := (HT.q hbl).2.2.2.2.2.2.2.2.2.2.2.2.2.1; cases h
   have hbel := HT.bel rfl
   have HBE := Lib.hid hbel
   clear HT hbel
   refine wpOp_one rfl rfl (fun K hK => ?_)
   go_simp
   exact hK.out _ _ (.mk b0 b1 b2 b3 b4 b5 b6 b7 b8 b9 b10 b11 b12 true b14 b15 b16 b17 b18 b19 b20 false _ _ _ _ _ _ _ _ _ _ _ _ _ _ _ _ _ _ _ _ _ _ { HTH.out with q := fun h => (by cases h), fin := fun h => (by cases h), h13 := fun _ => rfl, o14_13 := fun _ => rfl })
  | 14, _, hi, hib =>
   obtain rfl : b14 = false := by simpa using hib
   obtain rfl : b21 = false := by
    cases hbl : b21 with
    | false => rfl
    | true => have h := (HT.q hbl).2.2.2.2.2.2.2.2.2.2.2.2.2.2.1; cases h
   have hbel := HT.bel rfl
   have d12 : b12 = true := ready_dep hi rfl 12 (by kernel_rfl)
   have d13 : b13 = true := ready_dep hi rfl 13 (by kernel_rfl)
   have hd12 := HT.h12 d12
   subst hd12
   have hd13 := HT.h13 d13
   subst hd13
   have HC := Lib.hid (anc1_any 0 0 0 0 ⟨#[]⟩ w')
   have HBE := Lib.hid hbel
   clear HT hbel
   refine wpOp_one rfl rfl (fun K hK => ?_)
   go_simp
   go_at_fn 37
   refine HC.out.mono ?_
   rintro e w2 ⟨g, rfl, hp, hb⟩
   have hp2 := ps_turns.go hp (FrM.refl w2 _) (M' := (fun b => b < W.heap.size ∨ v4 = .pointer (some ⟨b, 0, none⟩))) (fun b hb2 => .inl (hb2.elim (fun h => by show b < _; have := HBE.out.size; omega) (fun h => HTH.out.bx b h)))
   exact hK.out _ _ (.mk b0 b1 b2 b3 b4 b5 b6 b7 b8 b9 b10 b11 b12 b13 true b15 b16 b17 b18 b19 b20 false _ _ _ _ _ _ _ _ _ _ _ _ _ _ _ _ _ _ _ _ _ _ { HTH.out with q := fun h => (by cases h), fin := fun h => (by cases h), bel := fun _ => HBE.out.trans (hb.mono HBE.out.size), h14 := fun _ _ => ⟨g, rfl, hp2⟩, o14_12 := fun _ => d12, o14_13 := fun _ => d13, o15_14 := fun _ => rfl, h4 := fun h hf => (by obtain ⟨g, e, r⟩ := HTH.out.h4 h hf; exact ⟨g, e, rs_turns.kept r hb⟩), h5 := fun h hf => (by obtain ⟨g, e, r⟩ := HTH.out.h5 h hf; exact ⟨g, e, rs_turns.kept r hb⟩), h9 := fun h hf => (by obtain ⟨g, e, r⟩ := HTH.out.h9 h hf; exact ⟨g, e, ps_turns.kept r hb⟩), h10 := fun h hf => (by obtain ⟨g, e, r⟩ := HTH.out.h10 h hf; exact ⟨g, e, ps_turns.kept r hb⟩), h15 := fun h hf => (by obtain ⟨g, e, r⟩ := HTH.out.h15 h hf; exact ⟨g, e, ps_turns.kept r hb⟩), h16 := fun h hf => (by obtain ⟨g, e, r⟩ := HTH.out.h16 h hf; exact ⟨g, e, rs_turns.kept r hb⟩), h17 := fun h hf => (by obtain ⟨g, e, r⟩ := HTH.out.h17 h hf; exact ⟨g, e, rs_turns.kept r hb⟩), h18 := fun h hf => (by obtain ⟨g, e, r⟩ := HTH.out.h18 h hf; exact ⟨g, e, ss_turns.kept r hb⟩), h19 := fun h hf => (by obtain ⟨g, e, r⟩ := HTH.out.h19 h hf; exact ⟨g, e, ss_turns.kept r hb⟩), h20 := fun h hf => (by obtain ⟨g, e, r, l⟩ := HTH.out.h20 h hf; exact ⟨g, e, (hb.block g (heapE_lt r)).trans r, l⟩), bx := fun b h => Nat.lt_of_lt_of_le (HTH.out.bx b h) hb.size })
  | 15, _, hi, hib =>
   obtain rfl : b15 = false := by simpa using hib
   obtain rfl : b21 = false := by
    cases hbl : b21 with
    | false => rfl
    | true => have h := (HT.q hbl).2.2.2.2.2.2.2.2.2.2.2.2.2.2.2.1; cases h
   have hbel := HT.bel rfl
   have d11 : b11 = true := ready_dep hi rfl 11 (by kernel_rfl)
   have d14 : b14 = true := ready_dep hi rfl 14 (by kernel_rfl)
   have hd11 := HT.h11 d11
   subst hd11
   obtain ⟨g14, e14, r14⟩ := HT.h14 d14 rfl
   subst e14
   have HR14 := Lib.hid r14
   clear r14
   have HBE := Lib.hid hbel
   clear HT hbel
   refine wpOp_one rfl rfl (fun K hK => ?_)
   go_simp
   exact hK.out _ _ (.mk b0 b1 b2 b3 b4 b5 b6 b7 b8 b9 b10 b11 b12 b13 b14 true b16 b17 b18 b19 b20 false _ _ _ _ _ _ _ _ _ _ _ _ _ _ _ _ _ _ _ _ _ _ { HTH.out with q := fun h => (by cases h), fin := fun h => (by cases h), h15 := fun _ _ => ⟨g14, rfl, HR14.out⟩, o15_11 := fun _ => d11, o15_14 := fun _ => d14, o16_15 := fun _ => rfl })
  | 16, _, hi, hib =>
   obtain rfl : b16 = false := by simpa using hib
   obtain rfl : b21 = false := by
    cases hbl : b21 with
    | false => rfl
    | true => have h := (HT.q hbl).2.2.2.2.2.2.2.2.2.2.2.2.2.2.2.2.1; cases h
   have hbel := HT.bel rfl
   have d10 : b10 = true := ready_dep hi rfl 10 (by kernel_rfl)
   have d15 : b15 = true := ready_dep hi rfl 15 (by kernel_rfl)
   obtain ⟨g10, e10, r10⟩ := HT.h10 d10 rfl
   subst e10
   have HR10 := Lib.hid r10
   clear r10
   obtain ⟨g15, e15, r15⟩ := HT.h15 d15 rfl
   subst e15
   have HR15 := Lib.hid r15
   clear r15
   have HBE := Lib.hid hbel
   clear HT hbel
   refine wpOp_one rfl rfl (fun K hK => ?_)
   go_simp
   have hba : Below w'.heap.size w' (w'.alloc (.cells #[.int .i64 1, .int .i64 0, .int .i64 0, .string ⟨#[]⟩, .int .i64 0, .slice (some ⟨g10, 0, none⟩) 1 1, .int .i64 2, .int .i64 0, .int .i64 0, .string ⟨#[]⟩, .int .i64 0, .slice (some ⟨g15, 0, none⟩) 1 1] 86)) := (Below.refl _ w').alloc (Nat.le_refl _) _
   have hnm : ¬ (fun b => b < W.heap.size ∨ v4 = .pointer (some ⟨b, 0, none⟩)) w'.heap.size := by
    rintro (h | h)
    ·have := HBE.out.size; omega
    ·have := HTH.out.bx _ h; omega
   exact hK.out _ _ (.mk b0 b1 b2 b3 b4 b5 b6 b7 b8 b9 b10 b11 b12 b13 b14 b15 true b17 b18 b19 b20 false _ _ _ _ _ _ _ _ _ _ _ _ _ _ _ _ _ _ _ _ _ _ { HTH.out with q := fun h => (by cases h), fin := fun h => (by cases h), bel := fun _ => HBE.out.trans (hba.mono HBE.out.size), h16 := fun _ _ => ⟨w'.heap.size, rfl, rels_two (heap_new w' _) hnm (ps_turns.kept HR10.out hba) (ps_turns.kept HR15.out hba)⟩, o16_10 := fun _ => d10, o16_15 := fun _ => d15, o17_16 := fun _ => rfl, h4 := fun h hf => (by obtain ⟨g, e, r⟩ := HTH.out.h4 h hf; exact ⟨g, e, rs_turns.kept r hba⟩), h5 := fun h hf => (by obtain ⟨g, e, r⟩ := HTH.out.h5 h hf; exact ⟨g, e, rs_turns.kept r hba⟩), h9 := fun h hf => (by obtain ⟨g, e, r⟩ := HTH.out.h9 h hf; exact ⟨g, e, ps_turns.kept r hba⟩), h10 := fun h hf => (by obtain ⟨g, e, r⟩ := HTH.out.h10 h hf; exact ⟨g, e, ps_turns.kept r hba⟩), h14 := fun h hf => (by obtain ⟨g, e, r⟩ := HTH.out.h14 h hf; exact ⟨g, e, ps_turns.kept r hba⟩), h15 := fun h hf => (by obtain ⟨g, e, r⟩ := HTH.out.h15 h hf; exact ⟨g, e, ps_turns.kept r hba⟩), h17 := fun h hf => (by obtain ⟨g, e, r⟩ := HTH.out.h17 h hf; exact ⟨g, e, rs_turns.kept r hba⟩), h18 := fun h hf => (by obtain ⟨g, e, r⟩ := HTH.out.h18 h hf; exact ⟨g, e, ss_turns.kept r hba⟩), h19 := fun h hf => (by obtain ⟨g, e, r⟩ := HTH.out.h19 h hf; exact ⟨g, e, ss_turns.kept r hba⟩), h20 := fun h hf => (by obtain ⟨g, e, r, l⟩ := HTH.out.h20 h hf; exact ⟨g, e, (hba.block g (heapE_lt r)).trans r, l⟩), bx := fun b h => Nat.lt_of_lt_of_le (HTH.out.bx b h) hba.size })
  | 17, _, hi, hib =>
   obtain rfl : b17 = false := by simpa using hib
   obtain rfl : b21 = false := by
    cases hbl : b21 with
    | false => rfl
    | true => have h := (HT.q hbl).2.2.2.2.2.2.2.2.2.2.2.2.2.2.2.2.2.1; cases h
   have hbel := HT.bel rfl
   have d16 : b16 = true := ready_dep hi rfl 16 (by kernel_rfl)
   obtain ⟨g16, e16, r16⟩ := HT.h16 d16 rfl
   subst e16
   have HR16 := Lib.hid r16
   clear r16
   have HBE := Lib.hid hbel
   clear HT hbel
   refine wpOp_one rfl rfl (fun K hK => ?_)
   go_simp
   exact hK.out _ _ (.mk b0 b1 b2 b3 b4 b5 b6 b7 b8 b9 b10 b11 b12 b13 b14 b15 b16 true b18 b19 b20 false _ _ _ _ _ _ _ _ _ _ _ _ _ _ _ _ _ _ _ _ _ _ { HTH.out with q := fun h => (by cases h), fin := fun h => (by cases h), h17 := fun _ _ => ⟨g16, rfl, HR16.out⟩, o17_16 := fun _ => d16, o18_17 := fun _ => rfl })
  | 18, _, hi, hib =>
   obtain rfl : b18 = false := by simpa using hib
   obtain rfl : b21 = false := by
    cases hbl : b21 with
    | false => rfl
    | true => have h := (HT.q hbl).2.2.2.2.2.2.2.2.2.2.2.2.2.2.2.2.2.2.1; cases h
   have hbel := HT.bel rfl
   have d5 : b5 = true := ready_dep hi rfl 5 (by kernel_rfl)
   have d17 : b17 = true := ready_dep hi rfl 17 (by kernel_rfl)
   obtain ⟨g5, e5, r5⟩ := HT.h5 d5 rfl
   subst e5
   have HR5 := Lib.hid r5
   clear r5
   obtain ⟨g17, e17, r17⟩ := HT.h17 d17 rfl
   subst e17
   have HR17 := Lib.hid r17
   clear r17
   have HBE := Lib.hid hbel
   clear HT hbel
   refine wpOp_one rfl rfl (fun K hK => ?_)
   go_simp
   have hba : Below w'.heap.size w' (w'.alloc (.cells #[.string ⟨#[97]⟩, .slice (some ⟨g5, 0, none⟩) 2 2, .string ⟨#[98]⟩, .slice (some ⟨g17, 0, none⟩) 2 2] 89)) := (Below.refl _ w').alloc (Nat.le_refl _) _
   have hnm : ¬ (fun b => b < W.heap.size ∨ v4 = .pointer (some ⟨b, 0, none⟩)) w'.heap.size := by
    rintro (h | h)
    ·have := HBE.out.size; omega
    ·have := HTH.out.bx _ h; omega
   exact hK.out _ _ (.mk b0 b1 b2 b3 b4 b5 b6 b7 b8 b9 b10 b11 b12 b13 b14 b15 b16 b17 true b19 b20 false _ _ _ _ _ _ _ _ _ _ _ _ _ _ _ _ _ _ _ _ _ _ { HTH.out with q := fun h => (by cases h), fin := fun h => (by cases h), bel := fun _ => HBE.out.trans (hba.mono HBE.out.size), h18 := fun _ _ => ⟨w'.heap.size, rfl, svs_two (heap_new w' _) hnm (rs_turns.kept HR5.out hba) (rs_turns.kept HR17.out hba)⟩, o18_5 := fun _ => d5, o18_17 := fun _ => d17, o19_18 := fun _ => rfl, h4 := fun h hf => (by obtain ⟨g, e, r⟩ := HTH.out.h4 h hf; exact ⟨g, e, rs_turns.kept r hba⟩), h5 := fun h hf => (by obtain ⟨g, e, r⟩ := HTH.out.h5 h hf; exact ⟨g, e, rs_turns.kept r hba⟩), h9 := fun h hf => (by obtain ⟨g, e, r⟩ := HTH.out.h9 h hf; exact ⟨g, e, ps_turns.kept r hba⟩), h10 := fun h hf => (by obtain ⟨g, e, r⟩ := HTH.out.h10 h hf; exact ⟨g, e, ps_turns.kept r hba⟩), h14 := fun h hf => (by obtain ⟨g, e, r⟩ := HTH.out.h14 h hf; exact ⟨g, e, ps_turns.kept r hba⟩), h15 := fun h hf => (by obtain ⟨g, e, r⟩ := HTH.out.h15 h hf; exact ⟨g, e, ps_turns.kept r hba⟩), h16 := fun h hf => (by obtain ⟨g, e, r⟩ := HTH.out.h16 h hf; exact ⟨g, e, rs_turns.kept r hba⟩), h17 := fun h hf => (by obtain ⟨g, e, r⟩ := HTH.out.h17 h hf; exact ⟨g, e, rs_turns.kept r hba⟩), h19 := fun h hf => (by obtain ⟨g, e, r⟩ := HTH.out.h19 h hf; exact ⟨g, e, ss_turns.kept r hba⟩), h20 := fun h hf => (by obtain ⟨g, e, r, l⟩ := HTH.out.h20 h hf; exact ⟨g, e, (hba.block g (heapE_lt r)).trans r, l⟩), bx := fun b h => Nat.lt_of_lt_of_le (HTH.out.bx b h) hba.size })
  | 19, _, hi, hib =>
   obtain rfl : b19 = false := by simpa using hib
   obtain rfl : b21 = false := by
    cases hbl : b21 with
    | false => rfl
    | true => have h := (HT.q hbl).2.2.2.2.2.2.2.2.2.2.2.2.2.2.2.2.2.2.2.1; cases h
   have hbel := HT.bel rfl
   have d18 : b18 = true := ready_dep hi rfl 18 (by kernel_rfl)
   obtain ⟨g18, e18, r18⟩ := HT.h18 d18 rfl
   subst e18
   have HR18 := Lib.hid r18
   clear r18
   have HBE := Lib.hid hbel
   clear HT hbel
   refine wpOp_one rfl rfl (fun K hK => ?_)
   go_simp
   exact hK.out _ _ (.mk b0 b1 b2 b3 b4 b5 b6 b7 b8 b9 b10 b11 b12 b13 b14 b15 b16 b17 b18 true b20 false _ _ _ _ _ _ _ _ _ _ _ _ _ _ _ _ _ _ _ _ _ _ { HTH.out with q := fun h => (by cases h), fin := fun h => (by cases h), h19 := fun _ _ => ⟨g18, rfl, HR18.out⟩, o19_18 := fun _ => d18 })
  | 20, _, hi, hib =>
   obtain rfl : b20 = false := by simpa using hib
   obtain rfl : b21 = false := by
    cases hbl : b21 with
    | false => rfl
    | true => have h := (HT.q hbl).2.2.2.2.2.2.2.2.2.2.2.2.2.2.2.2.2.2.2.2; cases h
   have hbel := HT.bel rfl
   obtain rfl : v4 = undef := HT.nb rfl
   have HBE := Lib.hid hbel
   clear HT hbel
   refine wpOp_one rfl rfl (fun K hK => ?_)
   go_simp
   have hba : Below w'.heap.size w' (w'.alloc (.cells #[.slice none 0 0] 24)) := (Below.refl _ w').alloc (Nat.le_refl _) _
   exact hK.out _ _ (.mk b0 b1 b2 b3 b4 b5 b6 b7 b8 b9 b10 b11 b12 b13 b14 b15 b16 b17 b18 b19 true false _ _ _ _ _ _ _ _ _ _ _ _ _ _ _ _ _ _ _ _ _ _ { HTH.out with q := fun h => (by cases h), fin := fun h => (by cases h), bel := fun _ => HBE.out.trans (hba.mono HBE.out.size), nb := fun h => (by cases h), bx := fun b h => (by injection h with h; injection h with h; injection h with h _; subst h; simp), h20 := fun _ _ => ⟨w'.heap.size, rfl, heap_new w' _, HBE.out.size⟩, h4 := fun h hf => (by obtain ⟨g, e, r⟩ := HTH.out.h4 h hf; exact ⟨g, e, rs_turns.go r (FrM.of_grown (row := none) (grown_alloc1 w' _ none) (fun g hg => by cases hg)) (fun b hb2 => hb2.elim (fun h => .inl (.inl h)) (fun h => .inr (by injection h with h; injection h with h; injection h with h _; omega)))⟩), h5 := fun h hf => (by obtain ⟨g, e, r⟩ := HTH.out.h5 h hf; exact ⟨g, e, rs_turns.go r (FrM.of_grown (row := none) (grown_alloc1 w' _ none) (fun g hg => by cases hg)) (fun b hb2 => hb2.elim (fun h => .inl (.inl h)) (fun h => .inr (by injection h with h; injection h with h; injection h with h _; omega)))⟩), h9 := fun h hf => (by obtain ⟨g, e, r⟩ := HTH.out.h9 h hf; exact ⟨g, e, ps_turns.go r (FrM.of_grown (row := none) (grown_alloc1 w' _ none) (fun g hg => by cases hg)) (fun b hb2 => hb2.elim (fun h => .inl (.inl h)) (fun h => .inr (by injection h with h; injection h with h; injection h with h _; omega)))⟩), h10 := fun h hf => (by obtain ⟨g, e, r⟩ := HTH.out.h10 h hf; exact ⟨g, e, ps_turns.go r (FrM.of_grown (row := none) (grown_alloc1 w' _ none) (fun g hg => by cases hg)) (fun b hb2 => hb2.elim (fun h => .inl (.inl h)) (fun h => .inr (by injection h with h; injection h with h; injection h with h _; omega)))⟩), h14 := fun h hf => (by obtain ⟨g, e, r⟩ := HTH.out.h14 h hf; exact ⟨g, e, ps_turns.go r (FrM.of_grown (row := none) (grown_alloc1 w' _ none) (fun g hg => by cases hg)) (fun b hb2 => hb2.elim (fun h => .inl (.inl h)) (fun h => .inr (by injection h with h; injection h with h; injection h with h _; omega)))⟩), h15 := fun h hf => (by obtain ⟨g, e, r⟩ := HTH.out.h15 h hf; exact ⟨g, e, ps_turns.go r (FrM.of_grown (row := none) (grown_alloc1 w' _ none) (fun g hg => by cases hg)) (fun b hb2 => hb2.elim (fun h => .inl (.inl h)) (fun h => .inr (by injection h with h; injection h with h; injection h with h _; omega)))⟩), h16 := fun h hf => (by obtain ⟨g, e, r⟩ := HTH.out.h16 h hf; exact ⟨g, e, rs_turns.go r (FrM.of_grown (row := none) (grown_alloc1 w' _ none) (fun g hg => by cases hg)) (fun b hb2 => hb2.elim (fun h => .inl (.inl h)) (fun h => .inr (by injection h with h; injection h with h; injection h with h _; omega)))⟩), h17 := fun h hf => (by obtain ⟨g, e, r⟩ := HTH.out.h17 h hf; exact ⟨g, e, rs_turns.go r (FrM.of_grown (row := none) (grown_alloc1 w' _ none) (fun g hg => by cases hg)) (fun b hb2 => hb2.elim (fun h => .inl (.inl h)) (fun h => .inr (by injection h with h; injection h with h; injection h with h _; omega)))⟩), h18 := fun h hf => (by obtain ⟨g, e, r⟩ := HTH.out.h18 h hf; exact ⟨g, e, ss_turns.go r (FrM.of_grown (row := none) (grown_alloc1 w' _ none) (fun g hg => by cases hg)) (fun b hb2 => hb2.elim (fun h => .inl (.inl h)) (fun h => .inr (by injection h with h; injection h with h; injection h with h _; omega)))⟩), h19 := fun h hf => (by obtain ⟨g, e, r⟩ := HTH.out.h19 h hf; exact ⟨g, e, ss_turns.go r (FrM.of_grown (row := none) (grown_alloc1 w' _ none) (fun g hg => by cases hg)) (fun b hb2 => hb2.elim (fun h => .inl (.inl h)) (fun h => .inr (by injection h with h; injection h with h; injection h with h _; omega)))⟩) })
  | 21, _, hi, hib =>
   obtain rfl : b21 = false := by simpa using hib
   have hbel := HT.bel rfl
   have d20 : b20 = true := ready_dep hi rfl 20 (by kernel_rfl)
   have d19 : b19 = true := ready_dep hi rfl 19 (by kernel_rfl)
   obtain ⟨g20, e20, r20, l20⟩ := HT.h20 d20 rfl
   subst e20
   have HR20 := Lib.hid r20
   have HL20 := Lib.hid l20
   clear r20 l20
   obtain ⟨g19, e19, r19⟩ := HT.h19 d19 rfl
   subst e19
   have HR19 := Lib.hid r19
   clear r19
   have p0f := row1f HR20.out
   obtain ⟨p0, pf⟩ := p0f
   have HBE := Lib.hid hbel
   clear HT hbel
   refine wpOp_one rfl rfl (fun K hK => ?_)
   go_simp
   have hs := grown_set w' g20 0 (.slice (some ⟨g19, 0, none⟩) 2 2)
   exact hK.out _ _ (.mk b0 b1 b2 b3 b4 b5 b6 b7 b8 b9 b10 b11 b12 b13 b14 b15 b16 b17 b18 b19 b20 true _ _ _ _ _ _ _ _ _ _ _ _ _ _ _ _ _ _ _ _ _ _ { HTH.out with q := fun _ => ⟨(HTH.out.o1_0 (HTH.out.o4_1 (HTH.out.o5_4 (HTH.out.o18_5 (HTH.out.o19_18 d19))))), (HTH.out.o4_1 (HTH.out.o5_4 (HTH.out.o18_5 (HTH.out.o19_18 d19)))), (HTH.out.o3_2 (HTH.out.o4_3 (HTH.out.o5_4 (HTH.out.o18_5 (HTH.out.o19_18 d19))))), (HTH.out.o4_3 (HTH.out.o5_4 (HTH.out.o18_5 (HTH.out.o19_18 d19)))), (HTH.out.o5_4 (HTH.out.o18_5 (HTH.out.o19_18 d19))), (HTH.out.o18_5 (HTH.out.o19_18 d19)), (HTH.out.o10_6 (HTH.out.o16_10 (HTH.out.o17_16 (HTH.out.o18_17 (HTH.out.o19_18 d19))))), (HTH.out.o9_7 (HTH.out.o10_9 (HTH.out.o16_10 (HTH.out.o17_16 (HTH.out.o18_17 (HTH.out.o19_18 d19)))))), (HTH.out.o9_8 (HTH.out.o10_9 (HTH.out.o16_10 (HTH.out.o17_16 (HTH.out.o18_17 (HTH.out.o19_18 d19)))))), (HTH.out.o10_9 (HTH.out.o16_10 (HTH.out.o17_16 (HTH.out.o18_17 (HTH.out.o19_18 d19))))), (HTH.out.o16_10 (HTH.out.o17_16 (HTH.out.o18_17 (HTH.out.o19_18 d19)))), (HTH.out.o15_11 (HTH.out.o16_15 (HTH.out.o17_16 (HTH.out.o18_17 (HTH.out.o19_18 d19))))), (HTH.out.o14_12 (HTH.out.o15_14 (HTH.out.o16_15 (HTH.out.o17_16 (HTH.out.o18_17 (HTH.out.o19_18 d19)))))), (HTH.out.o14_13 (HTH.out.o15_14 (HTH.out.o16_15 (HTH.out.o17_16 (HTH.out.o18_17 (HTH.out.o19_18 d19)))))), (HTH.out.o15_14 (HTH.out.o16_15 (HTH.out.o17_16 (HTH.out.o18_17 (HTH.out.o19_18 d19))))), (HTH.out.o16_15 (HTH.out.o17_16 (HTH.out.o18_17 (HTH.out.o19_18 d19)))), (HTH.out.o17_16 (HTH.out.o18_17 (HTH.out.o19_18 d19))), (HTH.out.o18_17 (HTH.out.o19_18 d19)), (HTH.out.o19_18 d19), d19, d20⟩, bel := fun h => (by cases h), bx := fun b h => (by have := HTH.out.bx b h; simpa using this), h4 := fun _ h => (by cases h), h5 := fun _ h => (by cases h), h9 := fun _ h => (by cases h), h10 := fun _ h => (by cases h), h14 := fun _ h => (by cases h), h15 := fun _ h => (by cases h), h16 := fun _ h => (by cases h), h17 := fun _ h => (by cases h), h18 := fun _ h => (by cases h), h19 := fun _ h => (by cases h), h20 := fun _ h => (by cases h), fin := fun _ => ⟨g19, g20, rfl, heap_setCell_same w' g20 0 _ _ _ HR20.out, HL20.out, ss_turns.go HR19.out (FrM.of_grown hs (fun g hg => by injection hg with hg; subst hg; exact .inr rfl)) (fun b (hb2 : b < W.heap.size) => .inl (.inl hb2)), HBE.out.setCell (p := ⟨g20, 0, none⟩) HL20.out _⟩ })
 case fin =>
  rintro lq a' w' ⟨b0, b1, b2, b3, b4, b5, b6, b7, b8, b9, b10, b11, b12, b13, b14, b15, b16, b17, b18, b19, b20, b21, v9, v10, v11, v12, v13, v14, v15, v16, v17, v18, v19, v20, v21, v22, v23, v24, v25, v26, v27, v28, v4, _, HT⟩ hr
  obtain rfl : b0 = true := by
   cases b0 with
   | true => rfl
   | false => exact (ready_in 0 rfl rfl (by simp [Region.binds]) hr).elim
  obtain rfl : b1 = true := by
   cases b1 with
   | true => rfl
   | false => exact (ready_in 1 rfl rfl (by simp [Region.binds]) hr).elim
  obtain rfl : b2 = true := by
   cases b2 with
   | true => rfl
   | false => exact (ready_in 2 rfl rfl (by simp [Region.binds]) hr).elim
  obtain rfl : b3 = true := by
   cases b3 with
   | true => rfl
   | false => exact (ready_in 3 rfl rfl (by simp [Region.binds]) hr).elim
  obtain rfl : b4 = true := by
   cases b4 with
   | true => rfl
   | false => exact (ready_in 4 rfl rfl (by simp [Region.binds]) hr).elim
  obtain rfl : b5 = true := by
   cases b5 with
   | true => rfl
   | false => exact (ready_in 5 rfl rfl (by simp [Region.binds]) hr).elim
  obtain rfl : b6 = true := by
   cases b6 with
   | true => rfl
   | false => exact (ready_in 6 rfl rfl (by simp [Region.binds]) hr).elim
  obtain rfl : b7 = true := by
   cases b7 with
   | true => rfl
   | false => exact (ready_in 7 rfl rfl (by simp [Region.binds]) hr).elim
  obtain rfl : b8 = true := by
   cases b8 with
   | true => rfl
   | false => exact (ready_in 8 rfl rfl (by simp [Region.binds]) hr).elim
  obtain rfl : b9 = true := by
   cases b9 with
   | true => rfl
   | false => exact (ready_in 9 rfl rfl (by simp [Region.binds]) hr).elim
  obtain rfl : b10 = true := by
   cases b10 with
   | true => rfl
   | false => exact (ready_in 10 rfl rfl (by simp [Region.binds]) hr).elim
  obtain rfl : b11 = true := by
   cases b11 with
   | true => rfl
   | false => exact (ready_in 11 rfl rfl (by simp [Region.binds]) hr).elim
  obtain rfl : b12 = true := by
   cases b12 with
   | true => rfl
   | false => exact (ready_in 12 rfl rfl (by simp [Region.binds]) hr).elim
  obtain rfl : b13 = true := by
   cases b13 with
   | true => rfl
   | false => exact (ready_in 13 rfl rfl (by simp [Region.binds]) hr).elim
  obtain rfl : b14 = true := by
   cases b14 with
   | true => rfl
   | false => exact (ready_in 14 rfl rfl (by simp [Region.binds]) hr).elim
  obtain rfl : b15 = true := by
   cases b15 with
   | true => rfl
   | false => exact (ready_in 15 rfl rfl (by simp [Region.binds]) hr).elim
  obtain rfl : b16 = true := by
   cases b16 with
   | true => rfl
   | false => exact (ready_in 16 rfl rfl (by simp [Region.binds]) hr).elim
  obtain rfl : b17 = true := by
   cases b17 with
   | true => rfl
   | false => exact (ready_in 17 rfl rfl (by simp [Region.binds]) hr).elim
  obtain rfl : b18 = true := by
   cases b18 with
   | true => rfl
   | false => exact (ready_in 18 rfl rfl (by simp [Region.binds]) hr).elim
  obtain rfl : b19 = true := by
   cases b19 with
   | true => rfl
   | false => exact (ready_in 19 rfl rfl (by simp [Region.binds]) hr).elim
  obtain rfl : b20 = true := by
   cases b20 with
   | true => rfl
   | false => exact (ready_in 20 rfl rfl (by simp [Region.binds]) hr).elim
  obtain rfl : b21 = true := by
   cases b21 with
   | true => rfl
   | false => exact (ready_in 21 rfl rfl (by simp [Region.binds]) hr).elim
  have HF := Lib.hid (HT.fin rfl)
  clear HT hr
  obtain ⟨g, gb, hv, hbox, hgb, hss, hbW⟩ := HF.out
  subst hv
  obtain ⟨hcap, hrd⟩ := ss_turns.go hss (FrM.refl w' _) (M' := fun b => w'.heap.size ≤ b) (fun b hb => .inr hb) |> ssI.rd
  have hlW := LenAt.below HM.out.1 HM.out.2 (HBL.out.trans (hbW.mono HBL.out.size))
  have HA : Hid (CatAt w' w'.heap.size (some ⟨g, 0, none⟩) 2 2 exL) := Lib.hid ⟨hrd, hcap, Nat.le_refl _, ex_sm, hlW.1, hlW.2⟩
  have HWw : Hid (Below w.heap.size w w') := Lib.hid (HBL.out.trans (hbW.mono HBL.out.size))
  have HC0 := Lib.hid hbox
  have HGB : Hid (gb < w'.heap.size) := Lib.hid (heapE_lt hbox)
  clear hbox hgb hss hbW hcap hrd hlW HF
  obtain ⟨Y1, HY1⟩ : ∃ Y1, Hid (Y1 = (w'.alloc (.cells #[.int .i64 0, .int .i64 0] 3)).alloc (.cells #[.int .i64 1, .int .i64 1] 3)) := ⟨_, Lib.hid rfl⟩
  have hbY1 : Below w'.heap.size w' Y1 := by rw [HY1.out]; exact ((Below.refl _ w').alloc (Nat.le_refl _) _).alloc (by simp) _
  have HO0 : Hid (Own Y1 w'.heap.size (.slice (some ⟨w'.heap.size, 0, none⟩) 2 2) 2 [0, 0]) := Lib.hid (by
   rw [HY1.out]; exact (Own.lit w' w'.heap.size [0, 0] (Nat.le_refl _) (by decide)).alloc _)
  have HO1 : Hid (Own Y1 w'.heap.size (.slice (some ⟨w'.heap.size + 1, 0, none⟩) 2 2) 2 [1, 1]) := Lib.hid (by
   rw [HY1.out]
   have h := Own.lit (w'.alloc (.cells #[.int .i64 0, .int .i64 0] 3)) w'.heap.size [1, 1] (by simp) (by decide)
   rw [World.size_alloc] at h; exact h)
  have HBY1 := Lib.hid hbY1
  have HMK := Lib.hid (make_any (c := 2) (c2 := 2) (c3 := 2) (HA.out.below hbY1) ex_lev (Rd.of_own HO0.out) (Rd.of_own HO1.out) (Nat.le_refl _) (Nat.le_refl _) (by omega) (by omega))
  rw [ex_make] at HMK
  obtain ⟨x0, _⟩ := row1f HC0.out
  obtain ⟨x0', _⟩ := row1f ((hbY1.block gb HGB.out).trans HC0.out)
  clear hbY1
  go_wp2_with fail
  try rw [← HY1.out]
  refine HMK.out.mono ?_
  rintro e T ⟨hb, ho⟩
  have HBT : Hid (Below w'.heap.size w' T) := Lib.hid (HBY1.out.trans (hb.mono HBY1.out.size))
  have HYT : Hid (Below Y1.heap.size Y1 T) := Lib.hid hb
  rcases ho with ⟨hne, _⟩ | ⟨_, v, rfl, hp⟩
  ·exact absurd rfl hne
  obtain ⟨AF, AT, AS, AE, m, cF, cT, N, cS, M, cE, rfl, hlf, hlt, o1, o2, o3, o4⟩ := hp.ex
  rw [ex_stL] at o3 o4
  rw [ex_befP] at o4
  obtain rfl : m = 2 := hlf.symm
  obtain rfl : N = 2 := by obtain ⟨_, _, e⟩ := o3.shape; injection e with _ e _
  obtain rfl : M = 1 := by obtain ⟨_, _, e⟩ := o4.shape; injection e with _ e _
  have HQ1 := Lib.hid o1
  have HQ2 := Lib.hid o2
  have HQ3 := Lib.hid o3
  have HQ4 := Lib.hid o4
  clear hb hp o1 o2 o3 o4 hlf hlt x0 x0' HMK
  obtain ⟨P, HP⟩ : ∃ P, Hid (P = T.alloc (.cells #[.slice AF 2 cF, .slice AT 2 cT, .slice AS 2 cS, .slice AE 1 cE] 35)) := ⟨_, Lib.hid rfl⟩
  have HTP : Hid (Below T.heap.size T P) := Lib.hid (by rw [HP.out]; exact (Below.refl _ T).alloc (Nat.le_refl _) _)
  have HBP : Hid (Below w'.heap.size w' P) := Lib.hid (HBT.out.trans (HTP.out.mono HBT.out.size))
  have KP : Hid (P.heap[T.heap.size]? = some (.cells #[.slice AF 2 cF, .slice AT 2 cT, .slice AS 2 cS, .slice AE 1 cE] 35 (0, 0))) := Lib.hid (by rw [HP.out]; exact heap_new T _)
  have HR1 := Lib.hid (HQ1.out.kept HTP.out)
  have HR2 := Lib.hid (HQ2.out.kept HTP.out)
  have HR3 := Lib.hid (HQ3.out.kept HTP.out)
  have HR4 := Lib.hid (HQ4.out.kept HTP.out)
  have HS1 := Lib.hid (own_of_F HR1.out rfl)
  have HS2 := Lib.hid (own_of_F HR2.out rfl)
  have HCK := Lib.hid (checkR_any (w := P) (c := 2) (cF := cF) (cT := cT) (cS := cS) (cE := cE) (HA.out.below HBP.out) ex_lev (Rd.of_own HS1.out) (Rd.of_own HS2.out) HR3.out.rdS (Nat.le_refl _) (Nat.le_refl _) (Nat.le_refl _) ex_stL ex_befP.symm HR4.out.edF rfl ex_goes rfl ex_chkE)
  have HEQ := Lib.hid eqArr
  obtain ⟨g9, rfl, e0, e1⟩ : ∃ g9, AE = some ⟨g9, 0, none⟩ ∧ P.cell? ⟨g9, 0, none⟩ = some (.int .i64 1) ∧ P.cell? ⟨g9, 1, none⟩ = some (.int .i64 0) := by
   rcases HR4.out.2 with ⟨_, hz⟩ | ⟨g', cap, cur, hv, hbg, hh, hlc, hcm, hcs, htk⟩
   ·exact absurd hz (by decide)
   ·injection hv with hv1 hv2 hv3
    have ht : ∀ t, t < 2 → cur.toList[t]? = ([((1 : Nat), (0 : Nat))].flatMap egF)[t]? := fun t ht => by rw [← htk, List.getElem?_take_of_lt (by simpa using ht)]
    exact ⟨g', hv1, cells_of hh 0 _ (ht 0 (by omega)), cells_of hh 1 _ (ht 1 (by omega))⟩
  obtain ⟨y0, y1, y2, y3⟩ := row4 KP.out
  obtain ⟨x0, _⟩ := row1f ((HBP.out.block gb HGB.out).trans HC0.out)
  have hEq := HEQ.out
  rw [HP.out] at e0 e1 y0 y1 y2 y3 x0
  go_wp2_with fail
  rw [← HP.out]
  refine HCK.out.mono ?_
  rintro e Z ⟨rfl, hb⟩
  have HFIN : Hid (Below w.heap.size w Z) := Lib.hid (HWw.out.trans ((HBP.out.trans (hb.mono HBP.out.size)).mono HWw.out.size))
  clear hb y0 y1 y2 y3 x0 e0 e1
  go_wp2_with fail
  exact bodyPost_ret (results_tmp rfl _ _ _) rfl ⟨rfl, HFIN.out⟩
end Go.Proofs.YtminihiecloglaaGreat
