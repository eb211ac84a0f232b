/-
 PlanStuck, over this translation (printed by genpl5.py).
-/
import Derived.Test.YtminihiecloglaaGreatPOd
import Derived.Test.YtminihiecloglaaGreatPEn
import Derived.Test.YtminihiecloglaaGreatPMk
import Derived.Test.YtminihiecloglaaGreatPAa
set_option linter.unusedVariables false
set_option linter.unusedSimpArgs false
namespace Go.Proofs.YtminihiecloglaaGreat
open Go.RowKit
open SemP FlP GaP DiP
set_option maxRecDepth 10000
theorem stuck_make {l : List Sv} {fs ts : List Int} (he : chkE l fs ts = 0) (h16 : fs.length ≤ 16) : makeE l fs ts = if ordN l fs ts fs.length 0 = true then 0 else 44 := by
 unfold makeE
 rw [if_pos he]
 by_cases h : Goes (befG (befP l fs ts (stL l fs ts))) (stL l fs ts).length (stL l fs ts).length
 ·rw [if_pos h, if_pos ((stuck_iff he h16).2 h)]
 ·rw [if_neg h, if_neg (fun q => h ((stuck_iff he h16).1 q))]
theorem makeS_any {w : World} {B B2 B3 n c m c2 m3 c3 : Nat} {A A2 A3 : Option Addr} {l : List Sv} {fs ts : List Int} (h : CatAt w B A n c l) (hlv : LevOK l) (hf : Rd w B2 A2 m fs) (ht : Rd w B3 A3 m3 ts) (hB2 : B2 ≤ w.heap.size) (hB3 : B3 ≤ w.heap.size) (hm : m ≤ 64) (hm3 : m3 ≤ 64) :
  Calls Tryz.prog 13 #[.agg #[.slice A n c], .slice A2 m c2, .slice A3 m3 c3] w fun e w' => Below w.heap.size w w' ∧ ∃ (AF AT AS AE : Option Addr) (nF cF nT cT nS cS nE cE : Nat), e = .returned (.tuple #[.agg #[.slice AF nF cF, .slice AT nT cT, .slice AS nS cS, .slice AE nE cE], .int .i64 (makeE l fs ts)]) := by
 refine (make_any (c := c) (c2 := c2) (c3 := c3) h hlv hf ht hB2 hB3 hm hm3).mono ?_
 rintro e w' ⟨hb, ho⟩
 refine ⟨hb, ?_⟩
 rcases ho with ⟨hne, rfl⟩ | ⟨h0, v, rfl, hp⟩
 ·exact ⟨none, none, none, none, 0, 0, 0, 0, 0, 0, 0, 0, rfl⟩
 ·obtain ⟨AF, AT, AS, AE, m, cF, cT, N, cS, M, cE, rfl, _⟩ := hp.ex
  exact ⟨AF, AT, AS, AE, m, cF, m, cT, N, cS, M, cE, by rw [h0]⟩
set_option maxHeartbeats 16000000 in
theorem law_stuck {w : World} {n c : Nat} {A : Option Addr} {l : List Sv} {A2 A3 : Option Addr} {m c2 m3 c3 : Nat} {fs ts : List Int} (hr : RdJ 2 svI w (fun b => w.heap.size ≤ b) A n l) (hcap : CapA A n c) (hf : Rd w w.heap.size A2 m fs) (ht : Rd w w.heap.size A3 m3 ts) (hm : LenAt w) (h1 : 1 < w.heap.size) :
  Calls Tryz.prog 5 #[.agg #[.slice A n c], .slice A2 m c2, .slice A3 m3 c3] w fun e w' => e = .returned (.bool true) ∧ Below w.heap.size w w' := by
 have HR := Lib.hid hr
 have HC := Lib.hid hcap
 have HF := Lib.hid hf
 have HT := Lib.hid ht
 obtain ⟨W, HW⟩ : ∃ W, Hid (W = w.alloc (.cells #[.slice A n c] 24)) := ⟨_, Lib.hid rfl⟩
 have hbW : Below w.heap.size w W := by rw [HW.out]; exact (Below.refl _ w).alloc (Nat.le_refl _) _
 have H0 : Hid (W.heap[w.heap.size]? = some (.cells #[.slice A n c] 24 (0, 0))) := Lib.hid (by rw [HW.out]; exact heap_new w _)
 have HLW := Lib.hid (LenAt.below hm h1 hbW)
 have HBW := Lib.hid hbW
 have hsz := hbW.size
 clear hr hcap hf ht hm h1 hbW
 obtain ⟨x0, _⟩ := row1f H0.out
 have HAN := Lib.hid (panchor_any W HLW.out.1 HLW.out.2)
 go_enter Tryz.func5, Tryz.ntmps5
 go_upto_region 1 with fail
 change Code.wp _ _ _ _ (w.alloc (.cells #[.slice A n c] 24))
 rw [← HW.out]
 go_wp2_with fail
 refine HAN.out.mono ?_
 rintro e w1 ⟨rfl, hb⟩
 have HB1 : Hid (Below w.heap.size w w1) := Lib.hid (HBW.out.trans (hb.mono hsz))
 have HL1 := Lib.hid (LenAt.below HLW.out.1 HLW.out.2 hb)
 have K1 : Hid (w1.heap[w.heap.size]? = _) := Lib.hid ((hb.block w.heap.size (heapE_lt H0.out)).trans H0.out)
 clear hb x0 HAN
 obtain ⟨x0, _⟩ := row1f K1.out
 have HMC := Lib.hid (right_any (c := c) (RdJ.below sv_turns HR.out HB1.out) HB1.out.size HL1.out.1 HL1.out.2)
 go_wp2_with fail
 refine HMC.out.mono ?_
 rintro e z1 ⟨A', n', c', ok, rfl, hb, hit⟩
 obtain ⟨W2, HW2⟩ : ∃ W2, Hid (W2 = z1.alloc (.cells #[.slice A' n' c'] 29)) := ⟨_, Lib.hid rfl⟩
 have hb2 : Below z1.heap.size z1 W2 := by rw [HW2.out]; exact (Below.refl _ z1).alloc (Nat.le_refl _) _
 have J2 : Hid (W2.heap[z1.heap.size]? = some (.cells #[.slice A' n' c'] 29 (0, 0))) := Lib.hid (by rw [HW2.out]; exact heap_new z1 _)
 have hb12 : Below w1.heap.size w1 W2 := hb.trans (hb2.mono hb.size)
 have HB2 : Hid (Below w.heap.size w W2) := Lib.hid (HB1.out.trans (hb12.mono HB1.out.size))
 have HL2 := Lib.hid (LenAt.below HL1.out.1 HL1.out.2 hb12)
 have K2 : Hid (W2.heap[w.heap.size]? = _) := Lib.hid ((hb12.block w.heap.size (heapE_lt K1.out)).trans K1.out)
 have HIT := Lib.hid (fun h => And.intro (hit h).1 (And.intro (hit h).2.1 (ss_turns.kept (hit h).2.2 hb2)))
 clear hb hb2 hb12 hit x0 HMC
 go_upto_region 4 with fail
 change Code.wp _ _ _ _ (z1.alloc (.cells #[.slice A' n' c'] 29))
 rw [← HW2.out]
 cases ok with
 | false =>
  go_wp2_with fail
  refine bodyPost_ret (results_tmp rfl _ _ _) rfl ⟨rfl, HB2.out⟩
 | true =>
  obtain ⟨hck, hsm, hss⟩ := HIT.out rfl
  obtain ⟨hcap', hrd'⟩ := (ss_turns.go hss (FrM.refl W2 _) (M' := fun b => W2.heap.size ≤ b) (fun b hb => .inr hb)).rd
  have HP : Hid (CatAt W2 w.heap.size A n c l) := Lib.hid ⟨RdJ.below sv_turns HR.out HB2.out, HC.out, HB2.out.size, hsm, HL2.out.1, HL2.out.2⟩
  have HQ : Hid (CatAt W2 W2.heap.size A' n' c' l) := Lib.hid ⟨hrd', hcap', Nat.le_refl _, hsm, HL2.out.1, HL2.out.2⟩
  have HLV := Lib.hid (ck_lev hck)
  have HL12 : Hid (l.length ≤ 12) := Lib.hid (ck_len hck).2
  have HCK := Lib.hid hck
  clear hck hsm hss hcap' hrd' HIT
  by_cases hm30 : (30 : Int) < (m : Int)
  ·have d1 : decide ((30 : Int) < (m : Int)) = true := decide_eq_true hm30
   go_wp2_with fail
   refine bodyPost_ret (results_tmp rfl _ _ _) rfl ⟨rfl, HB2.out⟩
  have d1 : decide ((30 : Int) < (m : Int)) = false := decide_eq_false hm30
  by_cases hm31 : (30 : Int) < (m3 : Int)
  ·have d2 : decide ((30 : Int) < (m3 : Int)) = true := decide_eq_true hm31
   go_wp2_with fail
   refine bodyPost_ret (results_tmp rfl _ _ _) rfl ⟨rfl, HB2.out⟩
  have d2 : decide ((30 : Int) < (m3 : Int)) = false := decide_eq_false hm31
  obtain ⟨CE, HCE⟩ : ∃ q, Hid (chkE l fs ts = q) := ⟨_, Lib.hid rfl⟩
  have HEN := Lib.hid (endsQ_any (c := c') (c2 := c2) (c3 := c3) HQ.out HLV.out (HF.out.below HB2.out) (HT.out.below HB2.out) HB2.out.size HB2.out.size (by omega) (by omega))
  rw [HCE.out] at HEN
  have M1 := Lib.hid (show m ≤ 64 by omega)
  have M2 := Lib.hid (show m3 ≤ 64 by omega)
  obtain ⟨y0, _⟩ := row1f J2.out
  go_wp2_with fail
  refine HEN.out.mono ?_
  rintro e w3 ⟨rfl, hb⟩
  have HB3 : Hid (Below w.heap.size w w3) := Lib.hid (HB2.out.trans (hb.mono HB2.out.size))
  have K3 : Hid (w3.heap[w.heap.size]? = _) := Lib.hid ((hb.block w.heap.size (heapE_lt K2.out)).trans K2.out)
  have J3 : Hid (w3.heap[z1.heap.size]? = _) := Lib.hid ((hb.block z1.heap.size (heapE_lt J2.out)).trans J2.out)
  have HP3 := Lib.hid (HP.out.below hb)
  have HQ3 := Lib.hid (HQ.out.below hb)
  clear hb y0 HEN
  by_cases hce : CE = 0
  rotate_left
  ·have d3 : (CE != 0) = true := by simp [hce]
   go_wp2_with fail
   refine bodyPost_ret (results_tmp rfl _ _ _) rfl ⟨rfl, HB3.out⟩
  subst hce
  by_cases hm6 : (6 : Int) < (m : Int)
  ·have d3 : decide ((6 : Int) < (m : Int)) = true := decide_eq_true hm6
   go_wp2_with fail
   refine bodyPost_ret (results_tmp rfl _ _ _) rfl ⟨rfl, HB3.out⟩
  have d3 : decide ((6 : Int) < (m : Int)) = false := decide_eq_false hm6
  have M6 := Lib.hid (show m ≤ 6 by omega)
  have HFL : Hid (fs.length = m) := Lib.hid HF.out.len
  have HM0 : Hid (0 < m) := Lib.hid (by
   have h1 := (setB_iff.1 (chkE_ok HCE.out).1).1
   have h2 := (ck_len HCK.out).1
   have h3 := HFL.out
   omega)
  have HMT : Hid (m3 = m) := Lib.hid (by
   have h1 := (setB_iff.1 (chkE_ok HCE.out).1).1
   have h2 := (setB_iff.1 (chkE_ok HCE.out).2.1).1
   have h3 := HFL.out
   have h4 := HT.out.len
   omega)
  obtain rfl : m3 = m := HMT.out
  have HMK := Lib.hid (makeS_any (c := c) (c2 := c2) (c3 := c3) HP3.out HLV.out (HF.out.below HB3.out) (HT.out.below HB3.out) HB3.out.size HB3.out.size M1.out M2.out)
  obtain ⟨ME, HME⟩ : ∃ q, Hid (makeE l fs ts = q) := ⟨_, Lib.hid rfl⟩
  obtain ⟨OO, HOO⟩ : ∃ q, Hid (ordN l fs ts m3 0 = q) := ⟨_, Lib.hid rfl⟩
  have HMO : Hid (ME = if OO = true then 0 else 44) := Lib.hid (by
   have := stuck_make HCE.out (by rw [HFL.out]; have := M6.out; omega)
   rw [HFL.out, HOO.out] at this
   rw [← HME.out]; exact this)
  rw [HME.out] at HMK
  obtain ⟨x0, _⟩ := row1f K3.out
  go_wp2_with fail
  refine HMK.out.mono ?_
  rintro e w4 ⟨hb, AF, AT, AS, AE, nF, cF, nT, cT, nS, cS, nE, cE, rfl⟩
  have HB4 : Hid (Below w.heap.size w w4) := Lib.hid (HB3.out.trans (hb.mono HB3.out.size))
  obtain ⟨P1, HP1⟩ : ∃ P1, Hid (P1 = w4.alloc (.cells #[.slice AF nF cF, .slice AT nT cT, .slice AS nS cS, .slice AE nE cE] 35)) := ⟨_, Lib.hid rfl⟩
  have HWP1 : Hid (Below w4.heap.size w4 P1) := Lib.hid (by rw [HP1.out]; exact (Below.refl _ w4).alloc (Nat.le_refl _) _)
  have HB34 : Hid (Below w3.heap.size w3 P1) := Lib.hid (hb.trans (HWP1.out.mono hb.size))
  have HBP1 : Hid (Below w.heap.size w P1) := Lib.hid (HB4.out.trans (HWP1.out.mono HB4.out.size))
  have J5 : Hid (P1.heap[z1.heap.size]? = _) := Lib.hid ((HB34.out.block z1.heap.size (heapE_lt J3.out)).trans J3.out)
  have HOD := Lib.hid (ordered_any (c := c') (c2 := c2) (c3 := c3) HM0.out (show m3 ≤ 16 by have := M6.out; omega) m3 0 P1 (Nat.sub_le _ _) (HQ3.out.below HB34.out) (HF.out.below HBP1.out) (HT.out.below HBP1.out) HBP1.out.size HBP1.out.size (by decide))
  rw [HOO.out] at HOD
  rw [show ((0 : Nat) : Int) = 0 from rfl] at HOD
  clear hb x0 HMK
  obtain ⟨y0, _⟩ := row1f J5.out
  rw [HP1.out] at y0
  go_wp2_with fail
  try rw [← HP1.out]
  refine HOD.out.mono ?_
  rintro e w6 ⟨rfl, hb⟩
  have HFIN : Hid (Below w.heap.size w w6) := Lib.hid (HBP1.out.trans (hb.mono HBP1.out.size))
  clear hb y0 HOD
  cases OO with
  | true =>
   obtain rfl : ME = 0 := HMO.out
   go_wp2_with fail
   exact bodyPost_ret (results_tmp rfl _ _ _) rfl ⟨rfl, HFIN.out⟩
  | false =>
   obtain rfl : ME = 44 := HMO.out
   go_wp2_with fail
   exact bodyPost_ret (results_tmp rfl _ _ _) rfl ⟨rfl, HFIN.out⟩
end Go.Proofs.YtminihiecloglaaGreat
