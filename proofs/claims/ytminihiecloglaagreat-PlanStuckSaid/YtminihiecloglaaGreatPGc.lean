/-
  MERGED: PGb PGc.
-/
import Derived.Test.YtminihiecloglaaGreatPRi
import Derived.Test.YtminihiecloglaaGreatCQt
import Derived.Test.YtminihiecloglaaGreatCQm
set_option linter.unusedVariables false
set_option linter.unusedSimpArgs false
namespace Go.Proofs.YtminihiecloglaaGreat
open Go.RowKit
open SemP FlP GaP DiP
set_option maxRecDepth 10000
set_option maxHeartbeats 4000000 in
theorem placeQ_yes {x y : Int} (hx : 0 ≤ x ∧ x ≤ 1048576) (hy : 0 ≤ y ∧ y ≤ 1048576) (w : World) :
  Calls Tryz.prog 28 #[.agg #[.int .i64 x, .int .i64 y]] w fun e w' => e = .returned (.bool true) ∧ Below w.heap.size w w' := by
 have d1 : decide (0 ≤ x) = true := decide_eq_true hx.1
 have d2 : decide (x ≤ 1048576) = true := decide_eq_true hx.2
 have d3 : decide (0 ≤ y) = true := decide_eq_true hy.1
 have d4 : decide (y ≤ 1048576) = true := decide_eq_true hy.2
 obtain ⟨hx1, hx2⟩ := hx
 obtain ⟨hy1, hy2⟩ := hy
 obtain ⟨W, HW⟩ : ∃ W, Hid (W = w.alloc (.cells #[.int .i64 x, .int .i64 y] 66)) := ⟨_, Lib.hid rfl⟩
 have HBL : Hid (Below w.heap.size w W) := Lib.hid (by rw [HW.out]; exact (Below.refl _ w).alloc (Nat.le_refl _) _)
 have H0 : Hid (W.heap[w.heap.size]? = some (.cells #[.int .i64 x, .int .i64 y] 66 (0, 0))) := Lib.hid (by rw [HW.out]; exact heap_new w _)
 obtain ⟨a0, a1, _, _⟩ := row2 H0.out
 go_enter Tryz.func28, Tryz.ntmps28
 go_upto_region 1 with fail
 change Code.wp _ _ _ _ (w.alloc (.cells #[.int .i64 x, .int .i64 y] 66))
 rw [← HW.out]
 go_wp2_with fail
 exact bodyPost_ret (results_tmp rfl _ _ _) rfl ⟨rfl, HBL.out⟩
set_option maxHeartbeats 16000000 in
theorem standQ_set {w : World} {B n c i v : Nat} {A : Option Addr} {l : List Sv} (h : CatAt w B A n c l) (hlv : LevOK l) (hi : i < n) (hv : v < (svAt l i).2.length) :
  Calls Tryz.prog 65 #[.agg #[.slice A n c], .int .i64 (i : Int), .agg #[.int .i64 (v : Int), .int .i64 (2 * levAt l i v)]] w fun e w' => e = .returned (.bool true) ∧ Below w.heap.size w w' := by
 obtain ⟨W, HW⟩ : ∃ W, Hid (W = (w.alloc (.cells #[.slice A n c] 29)).alloc (.cells #[.int .i64 (v : Int), .int .i64 (2 * levAt l i v)] 66)) := ⟨_, Lib.hid rfl⟩
 have hbl : Below w.heap.size w W := by rw [HW.out]; exact ((Below.refl _ w).alloc (Nat.le_refl _) _).alloc (by simp) _
 have HBL := Lib.hid hbl
 have H0 : Hid (W.heap[w.heap.size]? = some (.cells #[.slice A n c] 29 (0, 0))) := Lib.hid (by
  rw [HW.out, Below.heap_alloc _ _ _ (by simp)]; exact heap_new w _)
 have H1 : Hid (W.heap[w.heap.size + 1]? = some (.cells #[.int .i64 (v : Int), .int .i64 (2 * levAt l i v)] 66 (0, 0))) := Lib.hid (by
  rw [HW.out]
  have h := heap_new (w.alloc (.cells #[.slice A n c] 29)) (.cells #[.int .i64 (v : Int), .int .i64 (2 * levAt l i v)] 66)
  rw [World.size_alloc] at h; exact h)
 have hA := h.below hbl
 have hn16 := h.n16
 have hln : l.length = n := h.rd.1
 have hv16 : v < 17 := by have := (h.sm.2 _ (svAt_mem (show i < l.length by omega))).2.1; omega
 obtain ⟨b1, o1, Aj, nj, cj, hA1, hb1, _, k1, _, hrj⟩ := sv_at hA.rd hi
 subst hA1
 have hnj : (svAt l i).2.length = nj := hrj.1
 obtain ⟨b2, o2, _, _, _, hA2, hb2, _, _, _, _, kf, _⟩ := rl_at hrj (i := v) (by omega)
 subst hA2
 have l1 := levAt_ok hlv (show i < l.length by omega) hv
 have e1 : (rlAt (svAt l i).2 v).2.1 = levAt l i v := rfl
 rw [e1] at kf
 obtain ⟨L, hL⟩ : ∃ q, levAt l i v = q := ⟨_, rfl⟩
 rw [hL] at kf l1 H1 HW ⊢
 have hb1w : b1 < W.heap.size := by have := hA.le; omega
 have hb2w : b2 < W.heap.size := by have := hA.le; omega
 have HPL := Lib.hid (placeQ_yes (x := (v : Int)) (y := 2 * L) (by omega) (by omega) (W.drewN 1))
 have hi0 : (0 : Int) ≤ (i : Int) := by omega
 have hii : (i : Int) < (n : Int) := by omega
 have di0 : decide ((i : Int) < 0) = false := by simp
 have din : decide ((n : Int) ≤ (i : Int)) = false := by simp; omega
 have dvn : decide ((nj : Int) ≤ (v : Int)) = false := by simp; omega
 have pi0 : ¬ (i : Int) < 0 := by omega
 have pin : ¬ (n : Int) ≤ (i : Int) := by omega
 have pvn : ¬ (nj : Int) ≤ (v : Int) := by omega
 have hv0 : (0 : Int) ≤ (v : Int) := by omega
 have hvn : (v : Int) < (nj : Int) := by omega
 have hmul : IntKind.i64.wrap (2 * L) = 2 * L := IntWalk.i64_in _ (by omega)
 have hsub : IntKind.i64.wrap (2 * L - 2 * L) = 0 := by rw [Int.sub_self]; decide
 obtain ⟨x0, _⟩ := row1f H0.out
 obtain ⟨p0, p1, _, _⟩ := row2 H1.out
 clear h hlv hbl hA hrj hv hL e1
 go_enter Tryz.func65, Tryz.ntmps65
 go_upto_region 1 with fail
 change Code.wp _ _ _ _ ((w.alloc (.cells #[.slice (some ⟨b1, o1, none⟩) n c] 29)).alloc (.cells #[.int .i64 (v : Int), .int .i64 (2 * L)] 66))
 rw [← HW.out]
 go_region_held3 (fun W' => W'.cell? ⟨w.heap.size, 0, none⟩ = some (.slice (some ⟨b1, o1, none⟩) n c) ∧ W'.cell? ⟨w.heap.size + 1, 0, none⟩ = some (.int .i64 (v : Int)) ∧ W'.cell? ⟨w.heap.size + 1, 1, none⟩ = some (.int .i64 (2 * L)) ∧ W'.cell? ⟨b1, o1 + i * 2 + 1, none⟩ = some (.slice (some ⟨b2, o2, none⟩) nj cj)) ((first | exact ⟨x0, p0, p1, k1⟩ | exact ⟨z0, z1, z2, z3⟩ | go_keep)) (first
  | (go_at_call 28; refine HPL.out.mono ?_; rintro e w1 ⟨rfl, hb'⟩; (have hb : Below W.heap.size W w1 := (Below.drewN' (Below.refl _ W) 1).trans hb'); (have z0 := (row1f ((hb.block w.heap.size (heapE_lt H0.out)).trans H0.out)).1); (obtain ⟨z1, z2, _, _⟩ := row2 ((hb.block (w.heap.size + 1) (heapE_lt H1.out)).trans H1.out)); (have z3 := (hb.cell (p := ⟨b1, o1 + i * 2 + 1, none⟩) hb1w).trans k1); (have z4 := (hb.cell (p := ⟨b2, o2 + v * 6 + 4, none⟩) hb2w).trans kf); (have HBZ := Lib.hid hb); clear hb hb'))
 have HRES : Hid (Below w.heap.size w w1) := Lib.hid (HBL.out.trans (HBZ.out.mono HBL.out.size))
 go_wp2_with fail
 go_quiet (fail)
 go_wp2_with fail
 refine bodyPost_ret (results_tmp rfl _ _ _) rfl ⟨rfl, by first | exact HRES.out | exact Below.drewN' HRES.out _⟩
end Go.Proofs.YtminihiecloglaaGreat
namespace Go.Proofs.YtminihiecloglaaGreat
open Go.RowKit
open SemP FlP GaP DiP
set_option maxRecDepth 10000
def PrR (w : World) (A : Option Addr) (m : Nat) (ps : List (Int × Int)) : Prop := ps.length = m ∧ ∀ j, j < m → ∃ b off, A = some ⟨b, off, none⟩ ∧ b < w.heap.size ∧ w.cell? ⟨b, off + j * 2, none⟩ = some (.int .i64 (at_ ps j).1) ∧ w.cell? ⟨b, off + j * 2 + 1, none⟩ = some (.int .i64 (at_ ps j).2)
theorem PrR.below {w w' : World} {A : Option Addr} {m : Nat} {ps : List (Int × Int)} (h : PrR w A m ps) (hb : Below w.heap.size w w') : PrR w' A m ps :=
 ⟨h.1, fun j hj => by
  obtain ⟨b, off, e, hlt, c0, c1⟩ := h.2 j hj
  exact ⟨b, off, e, Nat.lt_of_lt_of_le hlt hb.size, (hb.cell (p := ⟨b, off + j * 2, none⟩) hlt).trans c0, (hb.cell (p := ⟨b, off + j * 2 + 1, none⟩) hlt).trans c1⟩⟩
theorem PrR.of {w : World} {M : Nat → Prop} {A : Option Addr} {m : Nat} {ps : List (Int × Int)} (h : RdJ 2 prI w M A m ps) : PrR w A m ps :=
 ⟨h.1, fun j hj => by
  obtain ⟨b, off, vs, e, hlt, _, _, hc, hi⟩ := h.2 j hj
  have hi' : vs = [.int .i64 (ps.getD j default).1, .int .i64 (ps.getD j default).2] := hi
  subst hi'
  exact ⟨b, off, e, hlt, hc 0 _ rfl, hc 1 _ rfl⟩⟩
theorem setP_nat {l : List Sv} {vs : List Int} {k : Nat} (hset : setB l vs = true) (hk : k < vs.length) : ∃ v : Nat, ix vs k = (v : Int) ∧ v < (svAt l k).2.length ∧ at_ (setL l vs) k = ((v : Int), 2 * levAt l k v) := by
 obtain ⟨a, b, ea, eb, ha, hb⟩ := isR_nat ((setB_iff.1 hset).2 k hk)
 obtain rfl : k = a := by omega
 refine ⟨b, eb, hb, ?_⟩
 rw [setL_at l vs hk]
 unfold setP
 rw [eb, Int.toNat_natCast]
end Go.Proofs.YtminihiecloglaaGreat

set_option linter.unusedVariables false
set_option linter.unusedSimpArgs false
namespace Go.Proofs.YtminihiecloglaaGreat
open Go.RowKit
open SemP FlP GaP DiP
set_option maxRecDepth 10000
set_option maxHeartbeats 16000000 in
theorem goodQ_set {w : World} {B n c c2 : Nat} {A A2 : Option Addr} {l : List Sv} {vs : List Int} (h : CatAt w B A n c l) (hlv : LevOK l) (hset : setB l vs = true) (hv : PrR w A2 n (setL l vs)) :
  Calls Tryz.prog 34 #[.agg #[.slice A n c], .slice A2 n c2] w fun e w' => e = .returned (.bool (goodC l (setL l vs))) ∧ Below w.heap.size w w' := by
 obtain ⟨W, HW⟩ : ∃ W, Hid (W = w.alloc (.cells #[.slice A n c] 29)) := ⟨_, Lib.hid rfl⟩
 have hbl : Below w.heap.size w W := by rw [HW.out]; exact (Below.refl _ w).alloc (Nat.le_refl _) _
 have H0 : Hid (W.heap[w.heap.size]? = some (.cells #[.slice A n c] 29 (0, 0))) := Lib.hid (by rw [HW.out]; exact heap_new w _)
 have HBL := Lib.hid hbl
 have HN16 := Lib.hid h.n16
 have HA := Lib.hid (h.below hbl)
 have HV := Lib.hid (hv.below hbl)
 have HLV := Lib.hid hlv
 have HSET := Lib.hid hset
 have HVN : Hid (vs.length = n) := Lib.hid (by have := hv.1; rw [setL_len] at this; exact this)
 have HGC : Hid (goodC l (setL l vs) = (List.range n).all (fun j => (List.range j).all (fun i => fitP l (setL l vs) i j))) := Lib.hid (by
  have hl : (setL l vs).length = n := by rw [setL_len]; exact HVN.out
  unfold goodC
  rw [hl, decide_eq_true (show n = l.length from h.rd.1.symm), Bool.true_and]
  rw [show (List.range n).all (fun i => standC l (i : Int) (at_ (setL l vs) i)) = true from ?_, Bool.true_and]
  rw [List.all_eq_true]
  intro k hk
  have hk := List.mem_range.1 hk
  rw [setL_at l vs (by rw [HVN.out]; exact hk)]
  exact stand_set hlv h.sm ((setB_iff.1 hset).2 k (by rw [HVN.out]; exact hk)))
 obtain ⟨G, HG⟩ : ∃ q, Hid (goodC l (setL l vs) = q) := ⟨_, Lib.hid rfl⟩
 rw [HG.out] at HGC ⊢
 clear h hlv hset hv hbl
 obtain ⟨x0, _⟩ := row1f H0.out
 go_enter Tryz.func34, Tryz.ntmps34
 go_upto_region 1 with fail
 change Code.wp _ _ _ _ (w.alloc (.cells #[.slice A n c] 29))
 rw [← HW.out]
 have hnn : ((n : Int) != (n : Int)) = false := by simp
 go_wp2_with fail
 clear x0
 go_loopw [5] (fun v wr => ∃ k : Nat, k ≤ n ∧ v = .int .i64 (k : Int) ∧ Hid (Below W.heap.size W wr)) (fun v _ => n - (intOf v).toNat)
 case atStart => exact ⟨0, Nat.zero_le _, rfl, Lib.hid (Below.refl _ _)⟩
 case round =>
  obtain ⟨wo, hwo⟩ : ∃ x, x = wr := ⟨_, rfl⟩
  subst hwo
  obtain ⟨k, hk, rfl, HBo⟩ := hrel
  by_cases hkn : k < n
  ·have hd : decide ((k : Int) < (n : Int)) = true := by simp; omega
   have hki : (k : Int) < (n : Int) := by omega
   have hk0 : (0 : Int) ≤ (k : Int) := by omega
   have hadd : IntKind.i64.wrap ((k : Int) + 1) = ((k + 1 : Nat) : Int) := by rw [IntWalk.i64_in _ (by have := HN16.out; omega)]; omega
   obtain ⟨v, _, hvl, hat⟩ := setP_nat HSET.out (show k < vs.length by rw [HVN.out]; exact hkn)
   obtain ⟨b, off, rfl, hlt, s0, s1⟩ := (HV.out.below HBo.out).2 k hkn
   rw [hat] at s0 s1
   have hAo := HA.out.below HBo.out
   have hAD : CatAt (wo.drewN 1) B A n c l := ⟨hAo.rd, hAo.cap, hAo.le, hAo.sm, hAo.len, hAo.one⟩
   have HST := Lib.hid (standQ_set (c := c) hAD HLV.out hkn hvl)
   obtain ⟨F, HF⟩ : ∃ q, Hid (2 * levAt l k v = q) := ⟨_, Lib.hid rfl⟩
   rw [HF.out] at HST
   have s0 : wo.cell? ⟨b, off + k * 2, none⟩ = some (.int .i64 (v : Int)) := s0
   have s1 : wo.cell? ⟨b, off + k * 2 + 1, none⟩ = some (.int .i64 (2 * levAt l k v)) := s1
   rw [HF.out] at s1
   have Ko : Hid (wo.heap[w.heap.size]? = _) := Lib.hid ((HBo.out.block w.heap.size (heapE_lt H0.out)).trans H0.out)
   obtain ⟨x0, _⟩ := row1f Ko.out
   clear hAo hAD hat hvl
   go_wp2_with fail
   go_region_held3 (fun W' => W'.cell? ⟨w.heap.size, 0, none⟩ = some (.slice A n c) ∧ W'.cell? ⟨b, off + k * 2, none⟩ = some (.int .i64 (v : Int)) ∧ W'.cell? ⟨b, off + k * 2 + 1, none⟩ = some (.int .i64 F)) ((first | exact ⟨x0, s0, s1⟩ | exact ⟨z0, z1, z2⟩ | go_keep)) (first
    | (go_at_call 65; refine HST.out.mono ?_; rintro e w1 ⟨rfl, hb'⟩; (have hb : Below wo.heap.size wo w1 := (Below.drewN' (Below.refl _ wo) 1).trans hb'); (have z0 := (row1f ((hb.block w.heap.size (heapE_lt Ko.out)).trans Ko.out)).1); (have z1 := (hb.cell (p := ⟨b, off + k * 2, none⟩) hlt).trans s0); (have z2 := (hb.cell (p := ⟨b, off + k * 2 + 1, none⟩) hlt).trans s1); (have HBZ := Lib.hid hb); clear hb hb'))
   have HB1 : Hid (Below W.heap.size W w1) := Lib.hid (HBo.out.trans (HBZ.out.mono HBo.out.size))
   clear z0 z1 z2 s0 s1 x0
   go_wp2_with fail
   go_roundw
   case rel => exact ⟨k + 1, by omega, by go_num, HB1⟩
   case measure => simp [intOf]; omega
  ·have hd : decide ((k : Int) < (n : Int)) = false := by simp; omega
   go_wp2_with fail
   go_loopw [6, 7] (fun v _ wr => ∃ j : Nat, j ≤ n ∧ v = .int .i64 (j : Int) ∧ Hid (Below W.heap.size W wr) ∧ Hid (∀ x, x < j → (List.range x).all (fun i => fitP l (setL l vs) i x) = true)) (fun v _ _ => n - (intOf v).toNat)
   case atStart => exact ⟨0, Nat.zero_le _, rfl, HBo, Lib.hid (fun x hx => absurd hx (by omega))⟩
   case round =>
    obtain ⟨wj, hwj⟩ : ∃ x, x = wr := ⟨_, rfl⟩
    subst hwj
    obtain ⟨j, hj, rfl, HBj, HJ⟩ := hrel
    by_cases hjn : j < n
    ·have hd2 : decide ((j : Int) < (n : Int)) = true := by simp; omega
     have hji : (j : Int) < (n : Int) := by omega
     have hj0 : (0 : Int) ≤ (j : Int) := by omega
     have hadd2 : IntKind.i64.wrap ((j : Int) + 1) = ((j + 1 : Nat) : Int) := by rw [IntWalk.i64_in _ (by have := HN16.out; omega)]; omega
     go_wp2_with fail
     go_loopw [7] (fun v wr => ∃ i : Nat, i ≤ j ∧ v = .int .i64 (i : Int) ∧ Hid (Below W.heap.size W wr) ∧ Hid (∀ x, x < i → fitP l (setL l vs) x j = true)) (fun v _ => j - (intOf v).toNat)
     case atStart => exact ⟨0, Nat.zero_le _, rfl, HBj, Lib.hid (fun x hx => absurd hx (by omega))⟩
     case round =>
      obtain ⟨wi, hwi⟩ : ∃ x, x = wr := ⟨_, rfl⟩
      subst hwi
      obtain ⟨i, hi, rfl, HBi, HI⟩ := hrel
      by_cases hij : i < j
      ·have hd3 : decide ((i : Int) < (j : Int)) = true := by simp; omega
       have hii : (i : Int) < (n : Int) := by omega
       have hi0 : (0 : Int) ≤ (i : Int) := by omega
       have hadd3 : IntKind.i64.wrap ((i : Int) + 1) = ((i + 1 : Nat) : Int) := by rw [IntWalk.i64_in _ (by have := HN16.out; omega)]; omega
       obtain ⟨b, off, rfl, hlt, s0, _⟩ := (HV.out.below HBi.out).2 j hjn
       obtain ⟨b', off', hA', _, t0, _⟩ := (HV.out.below HBi.out).2 i (by omega)
       injection hA' with hA'
       injection hA' with q1 q2 _
       subst q1 q2
       obtain ⟨V, HVV⟩ : ∃ q, Hid ((at_ (setL l vs) j).1 = q) := ⟨_, Lib.hid rfl⟩
       obtain ⟨U, HUU⟩ : ∃ q, Hid ((at_ (setL l vs) i).1 = q) := ⟨_, Lib.hid rfl⟩
       rw [HVV.out] at s0
       rw [HUU.out] at t0
       have hAi := HA.out.below HBi.out
       have hAD : CatAt (wi.drewN 1) B A n c l := ⟨hAi.rd, hAi.cap, hAi.le, hAi.sm, hAi.len, hAi.one⟩
       have HFT := Lib.hid (fitsQ_any (i := (j : Int)) (v := V) (j := (i : Int)) (x := U) hAD)
       rw [fitsC_swap] at HFT
       have HFP : Hid (fitP l (setL l vs) i j = fitsC l (i : Int) U (j : Int) V) := Lib.hid (by unfold fitP; rw [HVV.out, HUU.out])
       obtain ⟨ft, HF⟩ : ∃ q, Hid (fitsC l (i : Int) U (j : Int) V = q) := ⟨_, Lib.hid rfl⟩
       rw [HF.out] at HFT HFP
       have Ki : Hid (wi.heap[w.heap.size]? = _) := Lib.hid ((HBi.out.block w.heap.size (heapE_lt H0.out)).trans H0.out)
       obtain ⟨x0, _⟩ := row1f Ki.out
       clear hAi hAD
       go_wp2_with fail
       go_region_held3 (fun W' => W'.cell? ⟨w.heap.size, 0, none⟩ = some (.slice A n c) ∧ W'.cell? ⟨b, off + j * 2, none⟩ = some (.int .i64 V) ∧ W'.cell? ⟨b, off + i * 2, none⟩ = some (.int .i64 U)) ((first | exact ⟨x0, s0, t0⟩ | exact ⟨z0, z1, z2⟩ | go_keep)) (first
        | (go_at_call 58; refine HFT.out.mono ?_; rintro e w1 ⟨rfl, hb'⟩; (have hb : Below wi.heap.size wi w1 := (Below.drewN' (Below.refl _ wi) 1).trans hb'); (have z0 := (row1f ((hb.block w.heap.size (heapE_lt Ki.out)).trans Ki.out)).1); (have z1 := (hb.cell (p := ⟨b, off + j * 2, none⟩) hlt).trans s0); (have z2 := (hb.cell (p := ⟨b, off + i * 2, none⟩) hlt).trans t0); (have HBZ := Lib.hid hb); clear hb hb'))
       have HB1 : Hid (Below W.heap.size W w1) := Lib.hid (HBi.out.trans (HBZ.out.mono HBi.out.size))
       clear z0 z1 z2 s0 t0 x0
       cases ft with
       | false =>
        have HX : Hid (G = false) := Lib.hid (by
         rw [HGC.out, List.all_eq_false]
         refine ⟨j, List.mem_range.2 hjn, ?_⟩
         rw [Bool.not_eq_true, List.all_eq_false]
         exact ⟨i, List.mem_range.2 hij, by rw [HFP.out]; decide⟩)
        go_wp2_with fail
        exact bodyPost_ret (results_tmp rfl _ _ _) rfl ⟨by rw [HX.out]; rfl, HBL.out.trans (HB1.out.mono HBL.out.size)⟩
       | true =>
        go_wp2_with fail
        go_roundw
        case rel => exact ⟨i + 1, by omega, by go_num, HB1, Lib.hid (fun x hx => by
         by_cases e : x = i
         ·subst e; exact HFP.out
         ·exact HI.out x (by omega))⟩
        case measure => simp [intOf]; omega
      ·have hd3 : decide ((i : Int) < (j : Int)) = false := by simp; omega
       obtain rfl : i = j := by omega
       go_wp2_with fail
       go_roundw
       case rel => exact ⟨i + 1, by omega, by go_num, HBi, Lib.hid (fun x hx => by
        by_cases e : x = i
        ·subst e; rw [List.all_eq_true]; exact fun y hy => HI.out y (List.mem_range.1 hy)
        ·exact HJ.out x (by omega))⟩
       case measure => simp [intOf]; omega
    ·have hd2 : decide ((j : Int) < (n : Int)) = false := by simp; omega
     have HX : Hid (G = true) := Lib.hid (by
      rw [HGC.out, List.all_eq_true]
      exact fun x hx => HJ.out x (by have := List.mem_range.1 hx; omega))
     go_wp2_with fail
     exact bodyPost_ret (results_tmp rfl _ _ _) rfl ⟨by rw [HX.out]; rfl, HBL.out.trans (HBj.out.mono HBL.out.size)⟩
end Go.Proofs.YtminihiecloglaaGreat
namespace Go.Proofs.YtminihiecloglaaGreat
open Go.RowKit
open SemP FlP GaP DiP
set_option maxRecDepth 10000
end Go.Proofs.YtminihiecloglaaGreat
namespace Go.Proofs.YtminihiecloglaaGreat
open Go.RowKit
open SemP FlP GaP DiP
set_option maxRecDepth 10000
end Go.Proofs.YtminihiecloglaaGreat
