/-
  CONTRACT: plan.Check, of a plan that was made.
-/
import Derived.Test.YtminihiecloglaaGreatPLd
namespace Go.Proofs.YtminihiecloglaaGreat
open Go.RowKit
open SemP FlP GaP DiP
set_option linter.unusedVariables false
set_option linter.unusedSimpArgs false
set_option maxRecDepth 10000
set_option maxHeartbeats 16000000 in
theorem checkR_any {w : World} {B BF BT BS n c cF cT nS cS nE cE : Nat} {A AF AT AS AE : Option Addr} {l : List Sv} {fs ts : List Int} {S : List StP} {es : List (Nat × Nat)} (h : CatAt w B A n c l) (hlv : LevOK l) (hf : Rd w BF AF n fs) (ht : Rd w BT AT n ts) (hS : RdS w BS AS nS S) (hBF : BF ≤ w.heap.size) (hBT : BT ≤ w.heap.size) (hBS : BS ≤ w.heap.size) (hSS : stL l fs ts = S) (hes : es = befP l fs ts S) (hE : EdF w AE nE es) (hel : es.length = nE) (hgo : Goes (befG es) nS nS) (hfl : fs.length = n) (hce : chkE l fs ts = 0) :
    Calls Tryz.prog 18 #[.agg #[.slice A n c], .agg #[.slice AF n cF, .slice AT n cT, .slice AS nS cS, .slice AE nE cE]] w fun e w' => e = .returned (.int .i64 0) ∧ Below w.heap.size w w' := by
  obtain ⟨W, HW⟩ : ∃ W, Hid (W = (w.alloc (.cells #[.slice A n c] 24)).alloc (.cells #[.slice AF n cF, .slice AT n cT, .slice AS nS cS, .slice AE nE cE] 35)) := ⟨_, Lib.hid rfl⟩
  have hbl : Below w.heap.size w W := by rw [HW.out]; exact ((Below.refl _ w).alloc (Nat.le_refl _) _).alloc (by simp) _
  have HBL := Lib.hid hbl
  have HZ : Hid (W.heap.size = w.heap.size + 2) := Lib.hid (by rw [HW.out]; simp)
  have H0 : Hid (W.heap[w.heap.size]? = some (.cells #[.slice A n c] 24 (0, 0))) := Lib.hid (by
    rw [HW.out, Below.heap_alloc _ _ _ (by simp)]; exact heap_new w _)
  have H1 : Hid (W.heap[w.heap.size + 1]? = some (.cells #[.slice AF n cF, .slice AT n cT, .slice AS nS cS, .slice AE nE cE] 35 (0, 0))) := Lib.hid (by
    rw [HW.out]
    have h := heap_new (w.alloc (.cells #[.slice A n c] 24)) (.cells #[.slice AF n cF, .slice AT n cT, .slice AS nS cS, .slice AE nE cE] 35)
    rw [World.size_alloc] at h; exact h)
  have HN16 := Lib.hid h.n16
  have HA := Lib.hid (h.below hbl)
  have HF := Lib.hid (hf.below (hbl.mono hBF))
  have HTS := Lib.hid (ht.below (hbl.mono hBT))
  have HS := Lib.hid (hS.below (hbl.mono hBS) hBS)
  have HBF : Hid (BF ≤ W.heap.size) := Lib.hid (Nat.le_trans hBF hbl.size)
  have HBT : Hid (BT ≤ W.heap.size) := Lib.hid (Nat.le_trans hBT hbl.size)
  have HBS : Hid (BS ≤ W.heap.size) := Lib.hid (Nat.le_trans hBS hbl.size)
  have HNS : Hid (S.length = nS) := Lib.hid hS.len
  have HL48 : Hid (nS ≤ 48) := Lib.hid (by rw [← HNS.out, ← hSS]; have := stK_len l fs ts fs.length; have := HN16.out; unfold stL; omega)
  have HES := Lib.hid hes
  have HSS := Lib.hid hSS
  have HFL := Lib.hid hfl
  have HEL := Lib.hid hel
  have HGO := Lib.hid hgo
  have HED := Lib.hid (hE.below hbl)
  have HLV := Lib.hid hlv
  have HC0 := Lib.hid hce
  have HCE := Lib.hid (checkEnds_any (w := W) (c := c) (c2 := cF) (c3 := cT) HA.out hlv HF.out HTS.out HBF.out HBT.out (by have := HN16.out; omega) (by have := HN16.out; omega))
  rw [hce] at HCE
  clear h hf ht hS hbl hBF hBT hBS hes hSS hfl hel hgo hE hlv hce
  go_enter Tryz.func18, Tryz.ntmps18
  go_upto_region 1 with fail
  change Code.wp _ _ _ _ ((w.alloc (.cells #[.slice A n c] 24)).alloc (.cells #[.slice AF n cF, .slice AT n cT, .slice AS nS cS, .slice AE nE cE] 35))
  rw [← HW.out]
  obtain ⟨x0, _⟩ := row1f H0.out
  obtain ⟨y0, y1, y2, y3⟩ := row4 H1.out
  go_wp2_with fail
  refine HCE.out.mono ?_
  rintro e X ⟨rfl, hb⟩
  have HWX : Hid (Below W.heap.size W X) := Lib.hid hb
  have HBX : Hid (Below w.heap.size w X) := Lib.hid (HBL.out.trans (hb.mono HBL.out.size))
  have KC : Hid (X.heap[w.heap.size]? = _) := Lib.hid ((hb.block w.heap.size (heapE_lt H0.out)).trans H0.out)
  have KP : Hid (X.heap[w.heap.size + 1]? = _) := Lib.hid ((hb.block (w.heap.size + 1) (heapE_lt H1.out)).trans H1.out)
  have HST0 : Hid (∀ Z, Below X.heap.size X Z → CatAt Z B A n c l ∧ Rd Z BF AF n fs ∧ Rd Z BT AT n ts ∧ RdS Z BS AS nS S ∧ EdF Z AE nE es ∧ BF ≤ Z.heap.size ∧ BT ≤ Z.heap.size ∧ BS ≤ Z.heap.size) := Lib.hid (fun Z hz => by
    have hwz : Below W.heap.size W Z := HWX.out.trans (hz.mono HWX.out.size)
    exact ⟨HA.out.below hwz, HF.out.below (hwz.mono HBF.out), HTS.out.below (hwz.mono HBT.out), HS.out.below (hwz.mono HBS.out) HBS.out, HED.out.below hwz, Nat.le_trans HBF.out hwz.size, Nat.le_trans HBT.out hwz.size, Nat.le_trans HBS.out hwz.size⟩)
  have HSP := Lib.hid (by
    obtain ⟨a1, a2, a3, a4, a5, a6, a7, a8⟩ := HST0.out (X.drewN 1) (Below.drewN' (Below.refl _ X) 1)
    have hh := stepsOf_any (c := c) (c2 := cF) (c3 := cT) a1 HLV.out a2 a3 a6 a7 (chkE_ok HC0.out).1 (chkE_ok HC0.out).2.1
    rw [HSS.out] at hh
    exact hh)
  clear hb x0 y0 y1 y2 y3 HCE
  obtain ⟨x0, _⟩ := row1f KC.out
  obtain ⟨y0, y1, y2, y3⟩ := row4 KP.out
  go_wp2_with fail
  go_region_held3 (fun W' => W'.cell? ⟨w.heap.size, 0, none⟩ = some (.slice A n c) ∧ W'.cell? ⟨w.heap.size + 1, 0, none⟩ = some (.slice AF n cF) ∧ W'.cell? ⟨w.heap.size + 1, 1, none⟩ = some (.slice AT n cT) ∧ W'.cell? ⟨w.heap.size + 1, 2, none⟩ = some (.slice AS nS cS) ∧ W'.cell? ⟨w.heap.size + 1, 3, none⟩ = some (.slice AE nE cE)) ((first | exact ⟨x0, y0, y1, y2, y3⟩ | exact ⟨u0, u1, u2, u3, u4⟩ | exact ⟨v0, v1, v2, v3, v4⟩ | exact ⟨z0, z1, z2, z3, z4⟩ | go_keep)) (first
    | (go_at_call 52; refine HLD.out.mono ?_; rintro e w5 ⟨rfl, hb5⟩; (have hbx : Below X.heap.size X w5 := HB4.out.trans (hb5.mono HB4.out.size)); (have u0 := (row1f ((hbx.block w.heap.size (heapE_lt KC.out)).trans KC.out)).1); (obtain ⟨u1, u2, u3, u4⟩ := row4 ((hbx.block (w.heap.size + 1) (heapE_lt KP.out)).trans KP.out)); (have HB5 := Lib.hid hbx); clear hb5 hbx)
    | (go_at_call 51; refine HEQ.out.mono ?_; rintro e w4 ⟨rfl, hb4⟩; (have hbx : Below X.heap.size X w4 := HB3.out.trans (hb4.mono HB3.out.size)); (have v0 := (row1f ((hbx.block w.heap.size (heapE_lt KC.out)).trans KC.out)).1); (obtain ⟨v1, v2, v3, v4⟩ := row4 ((hbx.block (w.heap.size + 1) (heapE_lt KP.out)).trans KP.out)); (have HB4 := Lib.hid hbx); (have HLD := Lib.hid (by (obtain ⟨a1, a2, a3, a4, a5, a6, a7, a8⟩ := HST0.out w4 hbx); exact leads_any (c := c) (cF := cF) (cT := cT) (cS := cS) (cE := cE) a1 a2 a3 a4 a6 a7 a8 HSS.out HES.out a5 HEL.out HGO.out HFL.out)); clear hb4 hbx)
    | (go_at_call 42; refine HSP.out.mono ?_; rintro e w3 ⟨vs, rfl, hown, hb3⟩; (obtain ⟨A7, c7, hv7⟩ := hown.shape); (rw [HNS.out] at hv7); subst hv7; (have hbx : Below X.heap.size X w3 := (Below.drewN' (Below.refl _ X) 1).trans hb3); (have z0 := (row1f ((hbx.block w.heap.size (heapE_lt KC.out)).trans KC.out)).1); (obtain ⟨z1, z2, z3, z4⟩ := row4 ((hbx.block (w.heap.size + 1) (heapE_lt KP.out)).trans KP.out)); (have HB3 := Lib.hid hbx); (have HEQ := Lib.hid (by (obtain ⟨a1, a2, a3, a4, a5, a6, a7, a8⟩ := HST0.out w3 hbx); (have hq := equalS_any (c := cS) (d := c7) a4 hown.rdS a8 (Nat.le_refl _) (by have := HL48.out; omega) (by have := HL48.out; omega)); (rw [decide_eq_true rfl] at hq); exact hq)); clear hown hb3 hbx))
  have HB5' := HB5.out
  have HRES : Hid (Below w.heap.size w w5) := Lib.hid (HBX.out.trans (HB5'.mono HBX.out.size))
  go_wp2_with fail
  exact bodyPost_ret (results_tmp rfl _ _ _) rfl ⟨rfl, HRES.out⟩
end Go.Proofs.YtminihiecloglaaGreat
