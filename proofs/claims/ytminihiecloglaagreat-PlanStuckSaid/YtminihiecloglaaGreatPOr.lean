/-
 CONTRACT: orders (printed by genpor.py).
-/
import Derived.Test.YtminihiecloglaaGreatPMl
import Derived.Test.YtminihiecloglaaGreatPSo
set_option linter.unusedVariables false
set_option linter.unusedSimpArgs false
namespace Go.Proofs.YtminihiecloglaaGreat
open Go.RowKit
open SemP FlP GaP DiP
set_option maxRecDepth 10000
theorem farQ_len (l : List Sv) (S : List StP) (fs ts : List Int) (i k : Nat) : (farQ l S fs ts i k).length ≤ k := by
 unfold farQ
 rw [List.length_map]
 exact Nat.le_trans (List.length_filter_le _ _) (by rw [List.length_range]; exact Nat.le_refl _)
theorem ownQ_len (S : List StP) (i : Nat) : (ownQ S i).length ≤ 2 := by
 unfold ownQ; split <;> simp
theorem ordQ_len (l : List Sv) (S : List StP) (fs ts : List Int) (n : Nat) : ∀ k, (ordQ l S fs ts n k).length ≤ k * (n + 2)
 | 0 => by simp [ordQ]
 | k + 1 => by
  rw [ordQ_succ, List.length_append]
  have h1 := ordQ_len l S fs ts n k
  have h2 : (atQ l S fs ts n k).length ≤ n + 2 := by
   unfold atQ
   rw [List.length_append]
   have := ownQ_len S k
   have := farQ_len l S fs ts k n
   omega
  rw [Nat.succ_mul]; omega
theorem mul18 {k n : Nat} (hk : k ≤ n) (hn : n ≤ 16) : k * (n + 2) ≤ 288 := by
 have h1 : k * (n + 2) ≤ 16 * 18 := Nat.mul_le_mul (by omega) (by omega)
 omega
theorem plc_in {S : List StP} {x : StP} (h : x ∈ S) : plc S x = ((S.idxOf x : Nat) : Int) := if_pos h
theorem plc_out {S : List StP} {x : StP} (h : x ∉ S) : plc S x = -1 := if_neg h
theorem mustB_in {l : List Sv} {S : List StP} {fs ts : List Int} {i j : Nat} (h : mustB l S fs ts i j = true) : ((i : Int), (2 : Int)) ∈ S ∧ ((j : Int), (2 : Int)) ∈ S := by
 unfold mustB at h
 simp only [Bool.and_eq_true, decide_eq_true_eq] at h
 exact ⟨h.2.1, h.2.2.1⟩
structure OaSt (w0 : World) (h k : Nat) (AF AT AS AE : Option Addr) (n cF cT nS cS nE cE : Nat) (P2 P3 : Int) (b0 b1 b2 b3 b4 b5 b6 b7 : Bool) (v8 v9 v22 v23 v24 v25 v26 v27 : Value) (w' : World) : Prop where
 bel : Below w0.heap.size w0 w'
 h0 : b0 = true → v22 = .agg #[.slice AF n cF, .slice AT n cT, .slice AS nS cS, .slice AE nE cE]
 h1 : b1 = true → v23 = .int .i64 (k : Int)
 h2 : b2 = true → v24 = .int .i64 P2
 h3 : b3 = true → v25 = .agg #[.slice AF n cF, .slice AT n cT, .slice AS nS cS, .slice AE nE cE]
 h4 : b4 = true → v26 = .int .i64 (k : Int)
 h5 : b5 = true → v27 = .int .i64 P3
 h6 : b6 = true → v8 = .int .i64 P2
 h7 : b7 = true → v9 = .int .i64 P3
inductive OaJ (w0 : World) (h k : Nat) (AF AT AS AE : Option Addr) (n cF cT nS cS nE cE : Nat) (P2 P3 : Int) (p0 p1 p2 p3 p4 p5 p6 p7 p10 p11 p12 p13 p14 p15 p16 p17 p18 p19 p20 p21 p28 p29 p30 p31 p32 p33 p34 p35 p36 p37 p38 p39 p40 p41 p42 p43 p44 p45 p46 p47 p48 p49 p50 p51 p52 p53 p54 p55 p56 p57 p58 p59 p60 p61 p62 : Value) : Array Bool → Act → World → Prop where
 | mk (b0 b1 b2 b3 b4 b5 b6 b7 : Bool) (v8 v9 v22 v23 v24 v25 v26 v27 : Value) (w' : World) : OaSt w0 h k AF AT AS AE n cF cT nS cS nE cE P2 P3 b0 b1 b2 b3 b4 b5 b6 b7 v8 v9 v22 v23 v24 v25 v26 v27 w' → OaJ w0 h k AF AT AS AE n cF cT nS cS nE cE P2 P3 p0 p1 p2 p3 p4 p5 p6 p7 p10 p11 p12 p13 p14 p15 p16 p17 p18 p19 p20 p21 p28 p29 p30 p31 p32 p33 p34 p35 p36 p37 p38 p39 p40 p41 p42 p43 p44 p45 p46 p47 p48 p49 p50 p51 p52 p53 p54 p55 p56 p57 p58 p59 p60 p61 p62 #[b0, b1, b2, b3, b4, b5, b6, b7] { tmps := List.toArray (p0 :: p1 :: p2 :: p3 :: p4 :: p5 :: p6 :: p7 :: v8 :: v9 :: p10 :: p11 :: p12 :: p13 :: p14 :: p15 :: p16 :: p17 :: p18 :: p19 :: p20 :: p21 :: v22 :: v23 :: v24 :: v25 :: v26 :: v27 :: p28 :: p29 :: p30 :: p31 :: p32 :: p33 :: p34 :: p35 :: p36 :: p37 :: p38 :: p39 :: p40 :: p41 :: p42 :: p43 :: p44 :: p45 :: p46 :: p47 :: p48 :: p49 :: p50 :: p51 :: p52 :: p53 :: p54 :: p55 :: p56 :: p57 :: p58 :: p59 :: p60 :: p61 :: p62 :: []), defers := [] } w'
structure ObSt (X : World) (base : Nat) (V : Value) (h k q : Nat) (AF AT AS AE : Option Addr) (n cF cT nS cS nE cE a b : Nat) (L : List (Nat × Nat)) (b0 b1 b2 b3 b4 b5 b6 b7 b8 b9 b10 : Bool) (v5 v48 v49 v50 v51 v52 v53 v54 v55 v56 v57 : Value) (w' : World) : Prop where
 bel : b9 = false → Below X.heap.size X w'
 h0 : b0 = true → v48 = V
 h1 : b1 = true → v49 = .agg #[.slice AF n cF, .slice AT n cT, .slice AS nS cS, .slice AE nE cE]
 h2 : b2 = true → v50 = .int .i64 (k : Int)
 h3 : b3 = true → v51 = .int .i64 (a : Int)
 h4 : b4 = true → v52 = .agg #[.slice AF n cF, .slice AT n cT, .slice AS nS cS, .slice AE nE cE]
 h5 : b5 = true → v53 = .int .i64 (q : Int)
 h6 : b6 = true → v54 = .int .i64 (b : Int)
 h7 : b7 = true → v55 = .agg #[.int .i64 (a : Int), .int .i64 (b : Int)]
 q5 : b10 = false → v5 = V
 h8 : b8 = true → b9 = false → ∃ g, v56 = .slice (some ⟨g, 0, none⟩) 1 1 ∧ w'.heap[g]? = some (.cells #[.int .i64 (a : Int), .int .i64 (b : Int)] 91 (0, 0))
 h9 : b9 = true → Below base X w' ∧ ∃ g9 c9, v57 = .slice (some ⟨g9, 0, none⟩) (L.length + 1) c9 ∧ OwnF 91 2 egF w' base (.slice (some ⟨g9, 0, none⟩) (L.length + 1) c9) (L ++ [(a, b)])
 h10 : b10 = true → v5 = v57
 o3_1 : b3 = true → b1 = true
 o3_2 : b3 = true → b2 = true
 o6_4 : b6 = true → b4 = true
 o6_5 : b6 = true → b5 = true
 o6_3 : b6 = true → b3 = true
 o7_3 : b7 = true → b3 = true
 o7_6 : b7 = true → b6 = true
 o8_7 : b8 = true → b7 = true
 o9_0 : b9 = true → b0 = true
 o9_8 : b9 = true → b8 = true
 o9_6 : b9 = true → b6 = true
 o10_9 : b10 = true → b9 = true
inductive ObJ (X : World) (base : Nat) (V : Value) (h k q : Nat) (AF AT AS AE : Option Addr) (n cF cT nS cS nE cE a b : Nat) (L : List (Nat × Nat)) (p0 p1 p2 p3 p4 p6 p7 p8 p9 p10 p11 p12 p13 p14 p15 p16 p17 p18 p19 p20 p21 p22 p23 p24 p25 p26 p27 p28 p29 p30 p31 p32 p33 p34 p35 p36 p37 p38 p39 p40 p41 p42 p43 p44 p45 p46 p47 p58 p59 p60 p61 p62 : Value) : Array Bool → Act → World → Prop where
 | mk (b0 b1 b2 b3 b4 b5 b6 b7 b8 b9 b10 : Bool) (v5 v48 v49 v50 v51 v52 v53 v54 v55 v56 v57 : Value) (w' : World) : ObSt X base V h k q AF AT AS AE n cF cT nS cS nE cE a b L b0 b1 b2 b3 b4 b5 b6 b7 b8 b9 b10 v5 v48 v49 v50 v51 v52 v53 v54 v55 v56 v57 w' → ObJ X base V h k q AF AT AS AE n cF cT nS cS nE cE a b L p0 p1 p2 p3 p4 p6 p7 p8 p9 p10 p11 p12 p13 p14 p15 p16 p17 p18 p19 p20 p21 p22 p23 p24 p25 p26 p27 p28 p29 p30 p31 p32 p33 p34 p35 p36 p37 p38 p39 p40 p41 p42 p43 p44 p45 p46 p47 p58 p59 p60 p61 p62 #[b0, b1, b2, b3, b4, b5, b6, b7, b8, b9, b10] { tmps := List.toArray (p0 :: p1 :: p2 :: p3 :: p4 :: v5 :: p6 :: p7 :: p8 :: p9 :: p10 :: p11 :: p12 :: p13 :: p14 :: p15 :: p16 :: p17 :: p18 :: p19 :: p20 :: p21 :: p22 :: p23 :: p24 :: p25 :: p26 :: p27 :: p28 :: p29 :: p30 :: p31 :: p32 :: p33 :: p34 :: p35 :: p36 :: p37 :: p38 :: p39 :: p40 :: p41 :: p42 :: p43 :: p44 :: p45 :: p46 :: p47 :: v48 :: v49 :: v50 :: v51 :: v52 :: v53 :: v54 :: v55 :: v56 :: v57 :: p58 :: p59 :: p60 :: p61 :: p62 :: []), defers := [] } w'
set_option maxHeartbeats 16000000 in
theorem ordersG_any {w : World} {B BF BT BS n c cF cT nS cS nE cE : Nat} {A AF AT AS AE : Option Addr} {l : List Sv} {fs ts : List Int} {S : List StP} (h : CatAt w B A n c l) (hf : Rd w BF AF n fs) (ht : Rd w BT AT n ts) (hS : RdS w BS AS nS S) (hBF : BF ≤ w.heap.size) (hBT : BT ≤ w.heap.size) (hBS : BS ≤ w.heap.size) (hnS : nS ≤ 1000000) (h3 : ∀ i : Nat, ((i : Int), (1 : Int)) ∈ S → ((i : Int), (2 : Int)) ∈ S ∧ ((i : Int), (3 : Int)) ∈ S) :
  Calls Tryz.prog 43 #[.agg #[.slice AF n cF, .slice AT n cT, .slice AS nS cS, .slice AE nE cE], .agg #[.slice A n c]] w fun e w' => ∃ A' n' c' es, e = .returned (.slice A' n' c') ∧ es.Perm ((ordQ l S fs ts n n).map (pl2 S)) ∧ es.Pairwise (fun x y => ¬ ltP y x) ∧ OwnF 91 2 egF w' w.heap.size (.slice A' n' c') es ∧ Below w.heap.size w w' := by
 obtain ⟨W, HW⟩ : ∃ W, Hid (W = (w.alloc (.cells #[.slice AF n cF, .slice AT n cT, .slice AS nS cS, .slice AE nE cE] 35)).alloc (.cells #[.slice A n c] 24)) := ⟨_, Lib.hid rfl⟩
 have hbl : Below w.heap.size w W := by rw [HW.out]; exact ((Below.refl _ w).alloc (Nat.le_refl _) _).alloc (by simp) _
 have HBL := Lib.hid hbl
 have HZ : Hid (W.heap.size = w.heap.size + 2) := Lib.hid (by rw [HW.out]; simp)
 have H0 : Hid (W.heap[w.heap.size]? = some (.cells #[.slice AF n cF, .slice AT n cT, .slice AS nS cS, .slice AE nE cE] 35 (0, 0))) := Lib.hid (by
  rw [HW.out, Below.heap_alloc _ _ _ (by simp)]; exact heap_new w _)
 have H1 : Hid (W.heap[w.heap.size + 1]? = some (.cells #[.slice A n c] 24 (0, 0))) := Lib.hid (by
  rw [HW.out]
  have h := heap_new (w.alloc (.cells #[.slice AF n cF, .slice AT n cT, .slice AS nS cS, .slice AE nE cE] 35)) (.cells #[.slice A n c] 24)
  rw [World.size_alloc] at h; exact h)
 have HN16 := Lib.hid h.n16
 have HCA := Lib.hid (h.below hbl)
 have HF := Lib.hid (hf.below (hbl.mono hBF))
 have HTS := Lib.hid (ht.below (hbl.mono hBT))
 have HS := Lib.hid (hS.below (hbl.mono hBS) hBS)
 have HBF : Hid (BF ≤ W.heap.size) := Lib.hid (Nat.le_trans hBF hbl.size)
 have HBT : Hid (BT ≤ W.heap.size) := Lib.hid (Nat.le_trans hBT hbl.size)
 have HBS : Hid (BS ≤ W.heap.size) := Lib.hid (Nat.le_trans hBS hbl.size)
 have HNS := Lib.hid hnS
 have H3 := Lib.hid h3
 clear h hf ht hS hbl hBF hBT hBS hnS h3
 go_enter Tryz.func43, Tryz.ntmps43
 go_upto_region 1 with fail
 change Code.wp _ _ _ _ ((w.alloc (.cells #[.slice AF n cF, .slice AT n cT, .slice AS nS cS, .slice AE nE cE] 35)).alloc (.cells #[.slice A n c] 24))
 rw [← HW.out]
 obtain ⟨y0, y1, y2, y3⟩ := row4 H0.out
 go_wp2_with fail
 clear y0 y1 y2 y3
 go_loopw [5, 6, 7, 8, 9, 10, 14] (fun v _ _ _ _ _ x wr => ∃ (k : Nat) (VV : Value), k ≤ n ∧ VV = v ∧ x = .int .i64 (k : Int) ∧ Hid (OwnF 91 2 egF wr W.heap.size VV ((ordQ l S fs ts n k).map (pl2 S))) ∧ Hid (Below W.heap.size W wr)) (fun _ _ _ _ _ _ x _ => n - (intOf x).toNat)
 case atStart => exact ⟨0, _, Nat.zero_le _, rfl, rfl, Lib.hid (OwnF.nil_ _ _ _ _ _), Lib.hid (Below.refl _ _)⟩
 case round =>
  obtain ⟨wo, hwo⟩ : ∃ x, x = wr := ⟨_, rfl⟩
  subst hwo
  obtain ⟨k, VV, hk, rfl, rfl, HO, HBo⟩ := hrel
  have hzo := HBo.out.size
  have HLK : Hid ((ordQ l S fs ts n k).length ≤ 288) := Lib.hid (Nat.le_trans (ordQ_len l S fs ts n k) (mul18 hk HN16.out))
  by_cases hkn : k < n
  ·have hd : decide ((k : Int) < (n : Int)) = true := by simp; omega
   have hki : (k : Int) < (n : Int) := by omega
   have hk0 : (0 : Int) ≤ (k : Int) := by omega
   have hadd : IntKind.i64.wrap ((k : Int) + 1) = ((k + 1 : Nat) : Int) := by rw [IntWalk.i64_in _ (by have := HN16.out; omega)]; omega
   have KP0 : Hid (wo.heap[w.heap.size]? = _) := Lib.hid ((HBo.out.block w.heap.size (heapE_lt H0.out)).trans H0.out)
   obtain ⟨y0, y1, y2, y3⟩ := row4 KP0.out
   have HP1 := Lib.hid (place_any (w := wo) (nF := n) (cF := cF) (nT := n) (cT := cT) (c := cS) (nE := nE) (cE := cE) (AF := AF) (AT := AT) (AE := AE) (HS.out.below (HBo.out.mono HBS.out) HBS.out) (Nat.le_trans HBS.out hzo) HNS.out (k : Int) 1)
   by_cases hin : ((k : Int), (1 : Int)) ∈ S
   ·obtain ⟨P1, HQ1⟩ : ∃ q, Hid (plc S ((k : Int), 1) = q) := ⟨_, Lib.hid rfl⟩
    have HE1 : Hid (P1 = ((S.idxOf ((k : Int), (1 : Int)) : Nat) : Int)) := Lib.hid (by rw [← HQ1.out, plc_in hin])
    have hp1 : (P1 != -1) = true := by rw [bne_iff_ne, HE1.out]; omega
    rw [HQ1.out] at HP1
    obtain ⟨m2, m3⟩ := H3.out k hin
    have HOWN : Hid (ownQ S k = [(((k : Int), 1), ((k : Int), 2)), (((k : Int), 2), ((k : Int), 3))]) := Lib.hid (if_pos hin)
    obtain ⟨i1, HI1⟩ : ∃ q, Hid (S.idxOf ((k : Int), (1 : Int)) = q) := ⟨_, Lib.hid rfl⟩
    obtain ⟨i2, HI2⟩ : ∃ q, Hid (S.idxOf ((k : Int), (2 : Int)) = q) := ⟨_, Lib.hid rfl⟩
    obtain ⟨i3, HI3⟩ : ∃ q, Hid (S.idxOf ((k : Int), (3 : Int)) = q) := ⟨_, Lib.hid rfl⟩
    obtain ⟨P2, HP2⟩ : ∃ q, Hid (plc S ((k : Int), 2) = q) := ⟨_, Lib.hid rfl⟩
    obtain ⟨P3, HP3⟩ : ∃ q, Hid (plc S ((k : Int), 3) = q) := ⟨_, Lib.hid rfl⟩
    have HV1 : Hid (P1 = (i1 : Int)) := Lib.hid (by rw [HE1.out, HI1.out])
    have HV2 : Hid (P2 = (i2 : Int)) := Lib.hid (by rw [← HP2.out, plc_in m2, HI2.out])
    have HV3 : Hid (P3 = (i3 : Int)) := Lib.hid (by rw [← HP3.out, plc_in m3, HI3.out])
    clear hin m2 m3 HE1
    go_wp2_with fail
    refine HP1.out.mono ?_
    rintro e w1 ⟨rfl, hb⟩
    have HB1 : Hid (Below wo.heap.size wo w1) := Lib.hid hb
    clear hb y0 y1 y2 y3
    go_wp2_with fail
    obtain ⟨X, hX⟩ : ∃ X, X = w1 := ⟨_, rfl⟩
    subst hX
    have HBX : Hid (Below W.heap.size W X) := Lib.hid (HBo.out.trans (HB1.out.mono HBo.out.size))
    have HSX := Lib.hid (HS.out.below (HBX.out.mono HBS.out) HBS.out)
    have HBSX : Hid (BS ≤ X.heap.size) := Lib.hid (Nat.le_trans HBS.out HBX.out.size)
    have KZ : Hid (w.heap.size + 2 ≤ X.heap.size) := Lib.hid (by have := HBX.out.size; have := HZ.out; omega)
    have KP : Hid (X.heap[w.heap.size]? = _) := Lib.hid ((HBX.out.block w.heap.size (heapE_lt H0.out)).trans H0.out)
    refine wp_region_inv (by kernel_rfl) (I := OaJ X w.heap.size k AF AT AS AE n cF cT nS cS nE cE P2 P3 _ _ _ _ _ _ _ _ _ _ _ _ _ _ _ _ _ _ _ _ _ _ _ _ _ _ _ _ _ _ _ _ _ _ _ _ _ _ _ _ _ _ _ _ _ _ _ _ _ _ _ _ _ _ _) (.mk false false false false false false false false _ _ _ _ _ _ _ _ _ ⟨(Below.refl _ X).drew, nofun, nofun, nofun, nofun, nofun, nofun, nofun, nofun⟩) ?step ?fin
    case step =>
     rintro lq a' w' ix ⟨b0, b1, b2, b3, b4, b5, b6, b7, v8, v9, v22, v23, v24, v25, v26, v27, _, HT⟩ hi
     obtain ⟨hi_, hib⟩ := ready_lt hi
     have HTH := Lib.hid HT
     match ix, hi_, hi, hib with
     | 0, _, hi, hib =>
      have HTb := Lib.hid HT.bel
      obtain ⟨y0, y1, y2, y3⟩ := row4 ((HTb.out.block w.heap.size (by have := KZ.out; omega)).trans KP.out)
      clear HT
      refine wpOp_one rfl rfl (fun K hK => ?_)
      go_simp
      exact hK.out _ _ (.mk true b1 b2 b3 b4 b5 b6 b7 _ _ _ _ _ _ _ _ _ { HTH.out with h0 := fun _ => rfl })
     | 1, _, hi, hib =>
      clear HT
      refine wpOp_one rfl rfl (fun K hK => ?_)
      go_simp
      exact hK.out _ _ (.mk b0 true b2 b3 b4 b5 b6 b7 _ _ _ _ _ _ _ _ _ { HTH.out with h1 := fun _ => rfl })
     | 2, _, hi, hib =>
      have d0 : b0 = true := ready_dep hi rfl 0 (by kernel_rfl)
      have hd0 := HT.h0 d0
      subst hd0
      have d1 : b1 = true := ready_dep hi rfl 1 (by kernel_rfl)
      have hd1 := HT.h1 d1
      subst hd1
      have HTb := Lib.hid HT.bel
      have HC := Lib.hid (place_any (w := w') (nF := n) (cF := cF) (nT := n) (cT := cT) (c := cS) (nE := nE) (cE := cE) (AF := AF) (AT := AT) (AE := AE) (HSX.out.below (HTb.out.mono HBSX.out) HBSX.out) (Nat.le_trans HBSX.out HTb.out.size) HNS.out (k : Int) 2)
      rw [HP2.out] at HC
      clear HT
      refine wpOp_one rfl rfl (fun K hK => ?_)
      go_simp
      refine HC.out.mono ?_
      rintro e w2 ⟨rfl, hb⟩
      exact hK.out _ _ (.mk b0 b1 true b3 b4 b5 b6 b7 _ _ _ _ _ _ _ _ _ { HTH.out with bel := HTH.out.bel.trans (hb.mono HTH.out.bel.size), h2 := fun _ => rfl })
     | 3, _, hi, hib =>
      have HTb := Lib.hid HT.bel
      obtain ⟨y0, y1, y2, y3⟩ := row4 ((HTb.out.block w.heap.size (by have := KZ.out; omega)).trans KP.out)
      clear HT
      refine wpOp_one rfl rfl (fun K hK => ?_)
      go_simp
      exact hK.out _ _ (.mk b0 b1 b2 true b4 b5 b6 b7 _ _ _ _ _ _ _ _ _ { HTH.out with h3 := fun _ => rfl })
     | 4, _, hi, hib =>
      clear HT
      refine wpOp_one rfl rfl (fun K hK => ?_)
      go_simp
      exact hK.out _ _ (.mk b0 b1 b2 b3 true b5 b6 b7 _ _ _ _ _ _ _ _ _ { HTH.out with h4 := fun _ => rfl })
     | 5, _, hi, hib =>
      have d3 : b3 = true := ready_dep hi rfl 3 (by kernel_rfl)
      have hd3 := HT.h3 d3
      subst hd3
      have d4 : b4 = true := ready_dep hi rfl 4 (by kernel_rfl)
      have hd4 := HT.h4 d4
      subst hd4
      have d2 : b2 = true := ready_dep hi rfl 2 (by kernel_rfl)
      have hd2 := HT.h2 d2
      subst hd2
      have HTb := Lib.hid HT.bel
      have HC := Lib.hid (place_any (w := w') (nF := n) (cF := cF) (nT := n) (cT := cT) (c := cS) (nE := nE) (cE := cE) (AF := AF) (AT := AT) (AE := AE) (HSX.out.below (HTb.out.mono HBSX.out) HBSX.out) (Nat.le_trans HBSX.out HTb.out.size) HNS.out (k : Int) 3)
      rw [HP3.out] at HC
      clear HT
      refine wpOp_one rfl rfl (fun K hK => ?_)
      go_simp
      refine HC.out.mono ?_
      rintro e w2 ⟨rfl, hb⟩
      exact hK.out _ _ (.mk b0 b1 b2 b3 b4 true b6 b7 _ _ _ _ _ _ _ _ _ { HTH.out with bel := HTH.out.bel.trans (hb.mono HTH.out.bel.size), h5 := fun _ => rfl })
     | 6, _, hi, hib =>
      have d2 : b2 = true := ready_dep hi rfl 2 (by kernel_rfl)
      have hd2 := HT.h2 d2
      subst hd2
      clear HT
      refine wpOp_one rfl rfl (fun K hK => ?_)
      go_simp
      exact hK.out _ _ (.mk b0 b1 b2 b3 b4 b5 true b7 _ _ _ _ _ _ _ _ _ { HTH.out with h6 := fun _ => rfl })
     | 7, _, hi, hib =>
      have d5 : b5 = true := ready_dep hi rfl 5 (by kernel_rfl)
      have hd5 := HT.h5 d5
      subst hd5
      clear HT
      refine wpOp_one rfl rfl (fun K hK => ?_)
      go_simp
      exact hK.out _ _ (.mk b0 b1 b2 b3 b4 b5 b6 true _ _ _ _ _ _ _ _ _ { HTH.out with h7 := fun _ => rfl })
    case fin =>
     rintro lq a' w' ⟨b0, b1, b2, b3, b4, b5, b6, b7, v8, v9, v22, v23, v24, v25, v26, v27, _, HT⟩ hr
     obtain rfl : b0 = true := by
      cases b0 with
      | true => rfl
      | false => exact (ready_in 0 rfl rfl (by simp [Region.binds]) hr).elim
     obtain rfl : b1 = true := by
      cases b1 with
      | true => rfl
      | false => exact (ready_in 1 rfl rfl (by simp [Region.binds]) hr).elim
     obtain rfl : b2 = true := by
      cases b2 with
      | true => rfl
      | false => exact (ready_in 2 rfl rfl (by simp [Region.binds]) hr).elim
     obtain rfl : b3 = true := by
      cases b3 with
      | true => rfl
      | false => exact (ready_in 3 rfl rfl (by simp [Region.binds]) hr).elim
     obtain rfl : b4 = true := by
      cases b4 with
      | true => rfl
      | false => exact (ready_in 4 rfl rfl (by simp [Region.binds]) hr).elim
     obtain rfl : b5 = true := by
      cases b5 with
      | true => rfl
      | false => exact (ready_in 5 rfl rfl (by simp [Region.binds]) hr).elim
     obtain rfl : b6 = true := by
      cases b6 with
      | true => rfl
      | false => exact (ready_in 6 rfl rfl (by simp [Region.binds]) hr).elim
     obtain rfl : b7 = true := by
      cases b7 with
      | true => rfl
      | false => exact (ready_in 7 rfl rfl (by simp [Region.binds]) hr).elim
     have k0 := HT.h0 rfl
     subst k0
     have k1 := HT.h1 rfl
     subst k1
     have k2 := HT.h2 rfl
     subst k2
     have k3 := HT.h3 rfl
     subst k3
     have k4 := HT.h4 rfl
     subst k4
     have k5 := HT.h5 rfl
     subst k5
     have k6 := HT.h6 rfl
     subst k6
     have k7 := HT.h7 rfl
     subst k7
     have HBY := Lib.hid HT.bel
     clear HT hr
     obtain ⟨Y, hY⟩ : ∃ Y, Y = w' := ⟨_, rfl⟩
     subst hY
     have HB2 : Hid (Below wo.heap.size wo Y) := Lib.hid (HB1.out.trans (HBY.out.mono HB1.out.size))
     have HO2 := Lib.hid (HO.out.kept HB2.out)
     have hzY := HB2.out.size
     have HL2 : Hid (((ordQ l S fs ts n k).map (pl2 S)).length ≤ 288) := Lib.hid (by rw [List.length_map]; exact HLK.out)
     rw [HV2.out, HV3.out, HV1.out]
     go_wp2_with (at_builtin; refine wplF_apps (f := egF) (fun _ => rfl) (fun x u hu => by simp [egF] at hu; rcases hu with rfl | rfl <;> rfl) Tryz.underlying33 infoPr rfl (by decide) (by decide) rfl (.tmp 28) (.tmp 35) rfl W.heap.size _ ((ordQ l S fs ts n k).map (pl2 S)) rfl (HO2.out.alloc _) Y.heap.size 2 2 [(i1, i2), (i2, i3)] rfl rfl (cells_of (heap_new Y _)) (by have := HL2.out; omega) (by simp; omega) ?_; intro v' w2 hown2 hgr2 hat2; (have hbi : Below W.heap.size W w2 := ((HBo.out.trans (HB2.out.mono hzo)).alloc (by omega) _).grown hgr2 (by simp; omega) (HO2.out.ge)); (obtain ⟨y0, y1, y2, y3⟩ := row4 ((hbi.block w.heap.size (heapE_lt H0.out)).trans H0.out)); (have HBI := Lib.hid hbi); clear hbi)
     have HOI : Hid (OwnF 91 2 egF w2 W.heap.size v' ((ordQ l S fs ts n k ++ ownQ S k ++ farQ l S fs ts k 0).map (pl2 S))) := Lib.hid (by
      have e : (ordQ l S fs ts n k ++ ownQ S k ++ farQ l S fs ts k 0).map (pl2 S) = (ordQ l S fs ts n k).map (pl2 S) ++ [(i1, i2), (i2, i3)] := by
       rw [HOWN.out, show farQ l S fs ts k 0 = [] from rfl, List.append_nil, List.map_append]
       simp only [List.map_cons, List.map_nil, pl2, HI1.out, HI2.out, HI3.out]
      rw [e]; exact hown2)
     clear hown2 hgr2 hat2
     clear y0 y1 y2 y3
     go_loopw [5, 10, 40] (fun v _ x wr => ∃ (q : Nat) (VK : Value), q ≤ n ∧ VK = v ∧ x = .int .i64 (q : Int) ∧ Hid (OwnF 91 2 egF wr W.heap.size VK ((ordQ l S fs ts n k ++ ownQ S k ++ farQ l S fs ts k q).map (pl2 S))) ∧ Hid (Below W.heap.size W wr)) (fun _ _ x _ => n - (intOf x).toNat)
     case atStart => exact ⟨0, _, Nat.zero_le _, rfl, rfl, HOI, HBI⟩
     case round =>
      obtain ⟨wk, hwk⟩ : ∃ x, x = wr := ⟨_, rfl⟩
      subst hwk
      obtain ⟨q, VK, hq, rfl, rfl, HOq, HBq⟩ := hrel
      have hzq := HBq.out.size
      by_cases hqn : q < n
      ·have hd2 : decide ((q : Int) < (n : Int)) = true := by simp; omega
       have hqi : (q : Int) < (n : Int) := by omega
       have hq0 : (0 : Int) ≤ (q : Int) := by omega
       have hadd2 : IntKind.i64.wrap ((q : Int) + 1) = ((q + 1 : Nat) : Int) := by rw [IntWalk.i64_in _ (by have := HN16.out; omega)]; omega
       have KPq : Hid (wk.heap[w.heap.size]? = _) := Lib.hid ((HBq.out.block w.heap.size (heapE_lt H0.out)).trans H0.out)
       have KCq : Hid (wk.heap[w.heap.size + 1]? = _) := Lib.hid ((HBq.out.block (w.heap.size + 1) (heapE_lt H1.out)).trans H1.out)
       obtain ⟨y0, y1, y2, y3⟩ := row4 KPq.out
       obtain ⟨x0, _⟩ := row1f KCq.out
       have HML := Lib.hid (mustLead_any (w := wk) (i := k) (j := q) (cF := cF) (cT := cT) (cS := cS) (nE := nE) (cE := cE) (c := c) (AE := AE) (HCA.out.below HBq.out) (HF.out.below (HBq.out.mono HBF.out)) (HTS.out.below (HBq.out.mono HBT.out)) (HS.out.below (HBq.out.mono HBS.out) HBS.out) (Nat.le_trans HBF.out hzq) (Nat.le_trans HBT.out hzq) (Nat.le_trans HBS.out hzq) HNS.out hkn hqn (by have := HN16.out; omega) (by have := HN16.out; omega))
       have HLQ : Hid (((ordQ l S fs ts n k ++ ownQ S k ++ farQ l S fs ts k q).map (pl2 S)).length ≤ 400) := Lib.hid (by
        have h1 := HLK.out; have h2 := ownQ_len S k; have h3 := farQ_len l S fs ts k q; have h4 := HN16.out
        rw [List.length_map, List.length_append, List.length_append]; omega)
       cases hm : mustB l S fs ts k q with
       | false =>
        have HNX : Hid (ordQ l S fs ts n k ++ ownQ S k ++ farQ l S fs ts k (q + 1) = ordQ l S fs ts n k ++ ownQ S k ++ farQ l S fs ts k q) := Lib.hid (by rw [farQ_succ, hm]; simp)
        rw [hm] at HML
        clear hm
        go_wp2_with fail
        refine HML.out.mono ?_
        rintro e w3 ⟨rfl, hb⟩
        have HB3 : Hid (Below wk.heap.size wk w3) := Lib.hid hb
        clear hb y0 y1 y2 y3 x0
        go_wp2_with fail
        go_roundw
        case rel => exact ⟨q + 1, _, by omega, rfl, by go_num, Lib.hid (by rw [HNX.out]; exact HOq.out.kept HB3.out), Lib.hid (HBq.out.trans (HB3.out.mono hzq))⟩
        case measure => simp [intOf]; omega
       | true =>
        have HNX : Hid (ordQ l S fs ts n k ++ ownQ S k ++ farQ l S fs ts k (q + 1) = (ordQ l S fs ts n k ++ ownQ S k ++ farQ l S fs ts k q) ++ [((((k : Int), (2 : Int)), ((q : Int), (2 : Int))) : StP × StP)]) := Lib.hid (by rw [farQ_succ, hm, if_pos rfl, ← List.append_assoc])
        obtain ⟨m1, m2⟩ := mustB_in hm
        rw [hm] at HML
        obtain ⟨a, HA⟩ : ∃ x, Hid (S.idxOf ((k : Int), (2 : Int)) = x) := ⟨_, Lib.hid rfl⟩
        obtain ⟨b, HB⟩ : ∃ x, Hid (S.idxOf ((q : Int), (2 : Int)) = x) := ⟨_, Lib.hid rfl⟩
        have HPA : Hid (plc S ((k : Int), 2) = (a : Int)) := Lib.hid (by rw [plc_in m1, HA.out])
        have HPB : Hid (plc S ((q : Int), 2) = (b : Int)) := Lib.hid (by rw [plc_in m2, HB.out])
        obtain ⟨L, HL⟩ : ∃ L, Hid ((ordQ l S fs ts n k ++ ownQ S k ++ farQ l S fs ts k q).map (pl2 S) = L) := ⟨_, Lib.hid rfl⟩
        have HNL : Hid ((ordQ l S fs ts n k ++ ownQ S k ++ farQ l S fs ts k (q + 1)).map (pl2 S) = L ++ [(a, b)]) := Lib.hid (by
         rw [HNX.out, List.map_append, HL.out]
         simp only [List.map_cons, List.map_nil, pl2, HA.out, HB.out])
        rw [HL.out] at HOq HLQ
        clear hm m1 m2
        go_wp2_with fail
        refine HML.out.mono ?_
        rintro e w3 ⟨rfl, hb⟩
        have HB3 : Hid (Below wk.heap.size wk w3) := Lib.hid hb
        clear hb y0 y1 y2 y3 x0
        go_wp2_with fail
        obtain ⟨X, hX⟩ : ∃ X, X = w3 := ⟨_, rfl⟩
        subst hX
        have HBX : Hid (Below W.heap.size W X) := Lib.hid (HBq.out.trans (HB3.out.mono hzq))
        have HOX := Lib.hid (HOq.out.kept HB3.out)
        have HSX := Lib.hid (HS.out.below (HBX.out.mono HBS.out) HBS.out)
        have HBSX : Hid (BS ≤ X.heap.size) := Lib.hid (Nat.le_trans HBS.out HBX.out.size)
        have HWX : Hid (W.heap.size ≤ X.heap.size) := Lib.hid HBX.out.size
        have hWX := HBX.out.size
        have HLL : Hid (L.length ≤ 400) := HLQ
        have KZ : Hid (w.heap.size + 2 ≤ X.heap.size) := Lib.hid (by have := HBX.out.size; have := HZ.out; omega)
        have KP : Hid (X.heap[w.heap.size]? = _) := Lib.hid ((HBX.out.block w.heap.size (heapE_lt H0.out)).trans H0.out)
        obtain ⟨V, hV⟩ : ∃ V, V = VK := ⟨_, rfl⟩
        subst hV
        refine wp_region_inv (by kernel_rfl) (I := ObJ X W.heap.size V w.heap.size k q AF AT AS AE n cF cT nS cS nE cE a b L _ _ _ _ _ _ _ _ _ _ _ _ _ _ _ _ _ _ _ _ _ _ _ _ _ _ _ _ _ _ _ _ _ _ _ _ _ _ _ _ _ _ _ _ _ _ _ _ _ _ _ _) (.mk false false false false false false false false false false false _ _ _ _ _ _ _ _ _ _ _ _ ⟨fun _ => (Below.refl _ X).drew, nofun, nofun, nofun, nofun, nofun, nofun, nofun, nofun, fun _ => rfl, nofun, nofun, nofun, nofun, nofun, nofun, nofun, nofun, nofun, nofun, nofun, nofun, nofun, nofun, nofun⟩) ?step ?fin
        case step =>
         rintro lq a' w' ix0 ⟨b0, b1, b2, b3, b4, b5, b6, b7, b8, b9, b10, v5, v48, v49, v50, v51, v52, v53, v54, v55, v56, v57, _, HT⟩ hi
         obtain ⟨hi_, hib⟩ := ready_lt hi
         have HTH := Lib.hid HT
         match ix0, hi_, hi, hib with
         | 0, _, hi, hib =>
          obtain rfl : b0 = false := by simpa using hib
          obtain rfl : b10 = false := by
           cases hbl : b10 with
           | false => rfl
           | true => have h := (HT.o9_0 (HT.o10_9 hbl)); cases h
          have hq5 := HT.q5 rfl
          subst hq5
          clear HT
          refine wpOp_one rfl rfl (fun K hK => ?_)
          go_simp
          exact hK.out _ _ (.mk true b1 b2 b3 b4 b5 b6 b7 b8 b9 false _ _ _ _ _ _ _ _ _ _ _ _ { HTH.out with h0 := fun _ => rfl, q5 := fun _ => rfl, o9_0 := fun _ => rfl })
         | 1, _, hi, hib =>
          obtain rfl : b1 = false := by simpa using hib
          obtain rfl : b9 = false := by
           cases hbl : b9 with
           | false => rfl
           | true => have h := (HT.o3_1 (HT.o7_3 (HT.o8_7 (HT.o9_8 hbl)))); cases h
          have HTb := Lib.hid (HT.bel rfl)
          obtain ⟨y0, y1, y2, y3⟩ := row4 ((HTb.out.block w.heap.size (by have := KZ.out; omega)).trans KP.out)
          clear HT
          refine wpOp_one rfl rfl (fun K hK => ?_)
          go_simp
          exact hK.out _ _ (.mk b0 true b2 b3 b4 b5 b6 b7 b8 false b10 _ _ _ _ _ _ _ _ _ _ _ _ { HTH.out with h1 := fun _ => rfl, o3_1 := fun _ => rfl })
         | 2, _, hi, hib =>
          obtain rfl : b2 = false := by simpa using hib
          clear HT
          refine wpOp_one rfl rfl (fun K hK => ?_)
          go_simp
          exact hK.out _ _ (.mk b0 b1 true b3 b4 b5 b6 b7 b8 b9 b10 _ _ _ _ _ _ _ _ _ _ _ _ { HTH.out with h2 := fun _ => rfl, o3_2 := fun _ => rfl })
         | 3, _, hi, hib =>
          obtain rfl : b3 = false := by simpa using hib
          have d1 : b1 = true := ready_dep hi rfl 1 (by kernel_rfl)
          have d2 : b2 = true := ready_dep hi rfl 2 (by kernel_rfl)
          have hd1 := HT.h1 d1
          subst hd1
          have hd2 := HT.h2 d2
          subst hd2
          obtain rfl : b9 = false := by
           cases hbl : b9 with
           | false => rfl
           | true => have h := (HT.o7_3 (HT.o8_7 (HT.o9_8 hbl))); cases h
          obtain rfl : b8 = false := by
           cases hbl : b8 with
           | false => rfl
           | true => have h := (HT.o7_3 (HT.o8_7 hbl)); cases h
          have HTb := Lib.hid (HT.bel rfl)
          have HC := Lib.hid (place_any (w := w') (nF := n) (cF := cF) (nT := n) (cT := cT) (c := cS) (nE := nE) (cE := cE) (AF := AF) (AT := AT) (AE := AE) (HSX.out.below (HTb.out.mono HBSX.out) HBSX.out) (Nat.le_trans HBSX.out HTb.out.size) HNS.out (k : Int) 2)
          rw [HPA.out] at HC
          clear HT
          refine wpOp_one rfl rfl (fun K hK => ?_)
          go_simp
          refine HC.out.mono ?_
          rintro e w2 ⟨rfl, hb⟩
          exact hK.out _ _ (.mk b0 b1 b2 true b4 b5 b6 b7 false false b10 _ _ _ _ _ _ _ _ _ _ _ _ { HTH.out with bel := fun _ => HTb.out.trans (hb.mono HTb.out.size), h3 := fun _ => rfl, h8 := fun h => (by cases h), h9 := fun h => (by cases h), o3_1 := fun _ => d1, o3_2 := fun _ => d2, o6_3 := fun _ => rfl, o7_3 := fun _ => rfl })
         | 4, _, hi, hib =>
          obtain rfl : b4 = false := by simpa using hib
          obtain rfl : b9 = false := by
           cases hbl : b9 with
           | false => rfl
           | true => have h := (HT.o6_4 (HT.o7_6 (HT.o8_7 (HT.o9_8 hbl)))); cases h
          have HTb := Lib.hid (HT.bel rfl)
          obtain ⟨y0, y1, y2, y3⟩ := row4 ((HTb.out.block w.heap.size (by have := KZ.out; omega)).trans KP.out)
          clear HT
          refine wpOp_one rfl rfl (fun K hK => ?_)
          go_simp
          exact hK.out _ _ (.mk b0 b1 b2 b3 true b5 b6 b7 b8 false b10 _ _ _ _ _ _ _ _ _ _ _ _ { HTH.out with h4 := fun _ => rfl, o6_4 := fun _ => rfl })
         | 5, _, hi, hib =>
          obtain rfl : b5 = false := by simpa using hib
          clear HT
          refine wpOp_one rfl rfl (fun K hK => ?_)
          go_simp
          exact hK.out _ _ (.mk b0 b1 b2 b3 b4 true b6 b7 b8 b9 b10 _ _ _ _ _ _ _ _ _ _ _ _ { HTH.out with h5 := fun _ => rfl, o6_5 := fun _ => rfl })
         | 6, _, hi, hib =>
          obtain rfl : b6 = false := by simpa using hib
          have d4 : b4 = true := ready_dep hi rfl 4 (by kernel_rfl)
          have d5 : b5 = true := ready_dep hi rfl 5 (by kernel_rfl)
          have d3 : b3 = true := ready_dep hi rfl 3 (by kernel_rfl)
          have hd4 := HT.h4 d4
          subst hd4
          have hd5 := HT.h5 d5
          subst hd5
          have hd3 := HT.h3 d3
          subst hd3
          obtain rfl : b9 = false := by
           cases hbl : b9 with
           | false => rfl
           | true => have h := (HT.o7_6 (HT.o8_7 (HT.o9_8 hbl))); cases h
          obtain rfl : b8 = false := by
           cases hbl : b8 with
           | false => rfl
           | true => have h := (HT.o7_6 (HT.o8_7 hbl)); cases h
          have HTb := Lib.hid (HT.bel rfl)
          have HC := Lib.hid (place_any (w := w') (nF := n) (cF := cF) (nT := n) (cT := cT) (c := cS) (nE := nE) (cE := cE) (AF := AF) (AT := AT) (AE := AE) (HSX.out.below (HTb.out.mono HBSX.out) HBSX.out) (Nat.le_trans HBSX.out HTb.out.size) HNS.out (q : Int) 2)
          rw [HPB.out] at HC
          clear HT
          refine wpOp_one rfl rfl (fun K hK => ?_)
          go_simp
          refine HC.out.mono ?_
          rintro e w2 ⟨rfl, hb⟩
          exact hK.out _ _ (.mk b0 b1 b2 b3 b4 b5 true b7 false false b10 _ _ _ _ _ _ _ _ _ _ _ _ { HTH.out with bel := fun _ => HTb.out.trans (hb.mono HTb.out.size), h6 := fun _ => rfl, h8 := fun h => (by cases h), h9 := fun h => (by cases h), o6_4 := fun _ => d4, o6_5 := fun _ => d5, o6_3 := fun _ => d3, o7_6 := fun _ => rfl, o9_6 := fun _ => rfl })
         | 7, _, hi, hib =>
          obtain rfl : b7 = false := by simpa using hib
          have d3 : b3 = true := ready_dep hi rfl 3 (by kernel_rfl)
          have d6 : b6 = true := ready_dep hi rfl 6 (by kernel_rfl)
          have hd3 := HT.h3 d3
          subst hd3
          have hd6 := HT.h6 d6
          subst hd6
          clear HT
          refine wpOp_one rfl rfl (fun K hK => ?_)
          go_simp
          exact hK.out _ _ (.mk b0 b1 b2 b3 b4 b5 b6 true b8 b9 b10 _ _ _ _ _ _ _ _ _ _ _ _ { HTH.out with h7 := fun _ => rfl, o7_3 := fun _ => d3, o7_6 := fun _ => d6, o8_7 := fun _ => rfl })
         | 8, _, hi, hib =>
          obtain rfl : b8 = false := by simpa using hib
          have d7 : b7 = true := ready_dep hi rfl 7 (by kernel_rfl)
          have hd7 := HT.h7 d7
          subst hd7
          obtain rfl : b9 = false := by
           cases hbl : b9 with
           | false => rfl
           | true => have h := (HT.o9_8 hbl); cases h
          have HTb := Lib.hid (HT.bel rfl)
          clear HT
          refine wpOp_one rfl rfl (fun K hK => ?_)
          go_simp
          have hba : Below w'.heap.size w' (w'.alloc (.cells #[.int .i64 (a : Int), .int .i64 (b : Int)] 91)) := (Below.refl _ w').alloc (Nat.le_refl _) _
          exact hK.out _ _ (.mk b0 b1 b2 b3 b4 b5 b6 b7 true false b10 _ _ _ _ _ _ _ _ _ _ _ _ { HTH.out with bel := fun _ => HTb.out.trans (hba.mono HTb.out.size), h8 := fun _ _ => ⟨w'.heap.size, rfl, heap_new w' _⟩, h9 := fun h => (by cases h), o8_7 := fun _ => d7, o9_8 := fun _ => rfl })
         | 9, _, hi, hib =>
          obtain rfl : b9 = false := by simpa using hib
          have d0 : b0 = true := ready_dep hi rfl 0 (by kernel_rfl)
          have d8 : b8 = true := ready_dep hi rfl 8 (by kernel_rfl)
          have d6 : b6 = true := ready_dep hi rfl 6 (by kernel_rfl)
          have hd0 := HT.h0 d0
          subst hd0
          have hd6 := HT.h6 d6
          subst hd6
          obtain rfl : b10 = false := by
           cases hbl : b10 with
           | false => rfl
           | true => have h := (HT.o10_9 hbl); cases h
          have hq5 := HT.q5 rfl
          subst hq5
          obtain ⟨g, e56, hg⟩ := HT.h8 d8 rfl
          subst e56
          have HTb := Lib.hid (HT.bel rfl)
          have HOO := Lib.hid (HOX.out.kept HTb.out)
          have HG := Lib.hid hg
          clear HT hg
          refine wpOp_one rfl rfl (fun K hK => ?_)
          refine opF_apps (f := egF) (fun _ => rfl) (fun x u hu => by simp [egF] at hu; rcases hu with rfl | rfl <;> rfl) Tryz.underlying33 infoPr rfl (by decide) (by decide) (.tmp 48) (.tmp 56) rfl W.heap.size _ L rfl HOO.out g 1 1 [(a, b)] rfl rfl (by decide) (cells_of HG.out) (by have := HLL.out; omega) (Nat.le_trans HWX.out HTb.out.size) ?_
          intro g' c' w5 hown5 hgr5
          exact hK.out _ _ (.mk b0 b1 b2 b3 b4 b5 b6 b7 b8 true false _ _ _ _ _ _ _ _ _ _ _ _ { HTH.out with bel := fun h => (by cases h), h8 := fun _ h => (by cases h), h9 := fun _ => ⟨(HTb.out.mono HWX.out).grown hgr5 (Nat.le_trans hWX HTb.out.size) (fun x hx => HOO.out.ge x hx), g', c', rfl, hown5⟩, h10 := fun h => (by cases h), q5 := fun _ => rfl, o9_0 := fun _ => d0, o9_8 := fun _ => d8, o9_6 := fun _ => d6, o10_9 := fun _ => rfl })
         | 10, _, hi, hib =>
          obtain rfl : b10 = false := by simpa using hib
          have d9 : b9 = true := ready_dep hi rfl 9 (by kernel_rfl)
          obtain ⟨hbw, g9, c9, e57, hown⟩ := HT.h9 d9
          have HE := Lib.hid e57
          clear HT hown hbw e57
          refine wpOp_one rfl rfl (fun K hK => ?_)
          go_simp
          exact hK.out _ _ (.mk b0 b1 b2 b3 b4 b5 b6 b7 b8 b9 true _ _ _ _ _ _ _ _ _ _ _ _ { HTH.out with q5 := fun h => (by cases h), h10 := fun _ => rfl, o10_9 := fun _ => d9 })
        case fin =>
         rintro lq a' w' ⟨b0, b1, b2, b3, b4, b5, b6, b7, b8, b9, b10, v5, v48, v49, v50, v51, v52, v53, v54, v55, v56, v57, _, HT⟩ hr
         obtain rfl : b0 = true := by
          cases b0 with
          | true => rfl
          | false => exact (ready_in 0 rfl rfl (by simp [Region.binds]) hr).elim
         obtain rfl : b1 = true := by
          cases b1 with
          | true => rfl
          | false => exact (ready_in 1 rfl rfl (by simp [Region.binds]) hr).elim
         obtain rfl : b2 = true := by
          cases b2 with
          | true => rfl
          | false => exact (ready_in 2 rfl rfl (by simp [Region.binds]) hr).elim
         obtain rfl : b3 = true := by
          cases b3 with
          | true => rfl
          | false => exact (ready_in 3 rfl rfl (by simp [Region.binds]) hr).elim
         obtain rfl : b4 = true := by
          cases b4 with
          | true => rfl
          | false => exact (ready_in 4 rfl rfl (by simp [Region.binds]) hr).elim
         obtain rfl : b5 = true := by
          cases b5 with
          | true => rfl
          | false => exact (ready_in 5 rfl rfl (by simp [Region.binds]) hr).elim
         obtain rfl : b6 = true := by
          cases b6 with
          | true => rfl
          | false => exact (ready_in 6 rfl rfl (by simp [Region.binds]) hr).elim
         obtain rfl : b7 = true := by
          cases b7 with
          | true => rfl
          | false => exact (ready_in 7 rfl rfl (by simp [Region.binds]) hr).elim
         obtain rfl : b8 = true := by
          cases b8 with
          | true => rfl
          | false => exact (ready_in 8 rfl rfl (by simp [Region.binds]) hr).elim
         obtain rfl : b9 = true := by
          cases b9 with
          | true => rfl
          | false => exact (ready_in 9 rfl rfl (by simp [Region.binds]) hr).elim
         obtain rfl : b10 = true := by
          cases b10 with
          | true => rfl
          | false => exact (ready_in 10 rfl rfl (by simp [Region.binds]) hr).elim
         have k0 := HT.h0 rfl
         subst k0
         have k1 := HT.h1 rfl
         subst k1
         have k2 := HT.h2 rfl
         subst k2
         have k3 := HT.h3 rfl
         subst k3
         have k4 := HT.h4 rfl
         subst k4
         have k5 := HT.h5 rfl
         subst k5
         have k6 := HT.h6 rfl
         subst k6
         have k7 := HT.h7 rfl
         subst k7
         have k10 := HT.h10 rfl
         subst k10
         obtain ⟨hbZ, g9, c9, e57, hown⟩ := HT.h9 rfl
         subst e57
         have HBZ := Lib.hid hbZ
         have HOZ := Lib.hid hown
         clear HT hbZ hown hr
         go_wp2_with fail
         go_roundw
         case rel => exact ⟨q + 1, _, by omega, rfl, by go_num, Lib.hid (by rw [HNL.out]; exact HOZ.out), Lib.hid (HBX.out.trans HBZ.out)⟩
         case measure => simp [intOf]; omega
      ·have hd2 : decide ((q : Int) < (n : Int)) = false := by simp; omega
       obtain rfl : q = n := by omega
       go_wp2_with fail
       go_roundw
       case rel => exact ⟨k + 1, _, by omega, rfl, by go_num, Lib.hid (by rw [ordQ_succ]; unfold atQ; rw [← List.append_assoc]; exact HOq.out), HBq⟩
       case measure => simp [intOf]; omega
   ·have hp1 : ((-1 : Int) != -1) = false := by simp
    rw [plc_out hin] at HP1
    have HOWN : Hid (ownQ S k = []) := Lib.hid (if_neg hin)
    clear hin
    go_wp2_with fail
    refine HP1.out.mono ?_
    rintro e w1 ⟨rfl, hb⟩
    have HB1 : Hid (Below wo.heap.size wo w1) := Lib.hid hb
    obtain ⟨w2, hw2⟩ : ∃ x, x = w1 := ⟨_, rfl⟩
    subst hw2
    have HBI : Hid (Below W.heap.size W w2) := Lib.hid (HBo.out.trans (HB1.out.mono HBo.out.size))
    have HOI : Hid (OwnF 91 2 egF w2 W.heap.size VV ((ordQ l S fs ts n k ++ ownQ S k ++ farQ l S fs ts k 0).map (pl2 S))) := Lib.hid (by
     have e : (ordQ l S fs ts n k ++ ownQ S k ++ farQ l S fs ts k 0).map (pl2 S) = (ordQ l S fs ts n k).map (pl2 S) := by
      rw [HOWN.out, show farQ l S fs ts k 0 = [] from rfl, List.append_nil, List.append_nil]
     rw [e]; exact HO.out.kept HB1.out)
    clear hb y0 y1 y2 y3
    obtain ⟨y0, y1, y2, y3⟩ := row4 ((HBI.out.block w.heap.size (heapE_lt H0.out)).trans H0.out)
    go_wp2_with fail
    clear y0 y1 y2 y3
    go_loopw [5, 10, 40] (fun v _ x wr => ∃ (q : Nat) (VK : Value), q ≤ n ∧ VK = v ∧ x = .int .i64 (q : Int) ∧ Hid (OwnF 91 2 egF wr W.heap.size VK ((ordQ l S fs ts n k ++ ownQ S k ++ farQ l S fs ts k q).map (pl2 S))) ∧ Hid (Below W.heap.size W wr)) (fun _ _ x _ => n - (intOf x).toNat)
    case atStart => exact ⟨0, _, Nat.zero_le _, rfl, rfl, HOI, HBI⟩
    case round =>
     obtain ⟨wk, hwk⟩ : ∃ x, x = wr := ⟨_, rfl⟩
     subst hwk
     obtain ⟨q, VK, hq, rfl, rfl, HOq, HBq⟩ := hrel
     have hzq := HBq.out.size
     by_cases hqn : q < n
     ·have hd2 : decide ((q : Int) < (n : Int)) = true := by simp; omega
      have hqi : (q : Int) < (n : Int) := by omega
      have hq0 : (0 : Int) ≤ (q : Int) := by omega
      have hadd2 : IntKind.i64.wrap ((q : Int) + 1) = ((q + 1 : Nat) : Int) := by rw [IntWalk.i64_in _ (by have := HN16.out; omega)]; omega
      have KPq : Hid (wk.heap[w.heap.size]? = _) := Lib.hid ((HBq.out.block w.heap.size (heapE_lt H0.out)).trans H0.out)
      have KCq : Hid (wk.heap[w.heap.size + 1]? = _) := Lib.hid ((HBq.out.block (w.heap.size + 1) (heapE_lt H1.out)).trans H1.out)
      obtain ⟨y0, y1, y2, y3⟩ := row4 KPq.out
      obtain ⟨x0, _⟩ := row1f KCq.out
      have HML := Lib.hid (mustLead_any (w := wk) (i := k) (j := q) (cF := cF) (cT := cT) (cS := cS) (nE := nE) (cE := cE) (c := c) (AE := AE) (HCA.out.below HBq.out) (HF.out.below (HBq.out.mono HBF.out)) (HTS.out.below (HBq.out.mono HBT.out)) (HS.out.below (HBq.out.mono HBS.out) HBS.out) (Nat.le_trans HBF.out hzq) (Nat.le_trans HBT.out hzq) (Nat.le_trans HBS.out hzq) HNS.out hkn hqn (by have := HN16.out; omega) (by have := HN16.out; omega))
      have HLQ : Hid (((ordQ l S fs ts n k ++ ownQ S k ++ farQ l S fs ts k q).map (pl2 S)).length ≤ 400) := Lib.hid (by
       have h1 := HLK.out; have h2 := ownQ_len S k; have h3 := farQ_len l S fs ts k q; have h4 := HN16.out
       rw [List.length_map, List.length_append, List.length_append]; omega)
      cases hm : mustB l S fs ts k q with
      | false =>
       have HNX : Hid (ordQ l S fs ts n k ++ ownQ S k ++ farQ l S fs ts k (q + 1) = ordQ l S fs ts n k ++ ownQ S k ++ farQ l S fs ts k q) := Lib.hid (by rw [farQ_succ, hm]; simp)
       rw [hm] at HML
       clear hm
       go_wp2_with fail
       refine HML.out.mono ?_
       rintro e w3 ⟨rfl, hb⟩
       have HB3 : Hid (Below wk.heap.size wk w3) := Lib.hid hb
       clear hb y0 y1 y2 y3 x0
       go_wp2_with fail
       go_roundw
       case rel => exact ⟨q + 1, _, by omega, rfl, by go_num, Lib.hid (by rw [HNX.out]; exact HOq.out.kept HB3.out), Lib.hid (HBq.out.trans (HB3.out.mono hzq))⟩
       case measure => simp [intOf]; omega
      | true =>
       have HNX : Hid (ordQ l S fs ts n k ++ ownQ S k ++ farQ l S fs ts k (q + 1) = (ordQ l S fs ts n k ++ ownQ S k ++ farQ l S fs ts k q) ++ [((((k : Int), (2 : Int)), ((q : Int), (2 : Int))) : StP × StP)]) := Lib.hid (by rw [farQ_succ, hm, if_pos rfl, ← List.append_assoc])
       obtain ⟨m1, m2⟩ := mustB_in hm
       rw [hm] at HML
       obtain ⟨a, HA⟩ : ∃ x, Hid (S.idxOf ((k : Int), (2 : Int)) = x) := ⟨_, Lib.hid rfl⟩
       obtain ⟨b, HB⟩ : ∃ x, Hid (S.idxOf ((q : Int), (2 : Int)) = x) := ⟨_, Lib.hid rfl⟩
       have HPA : Hid (plc S ((k : Int), 2) = (a : Int)) := Lib.hid (by rw [plc_in m1, HA.out])
       have HPB : Hid (plc S ((q : Int), 2) = (b : Int)) := Lib.hid (by rw [plc_in m2, HB.out])
       obtain ⟨L, HL⟩ : ∃ L, Hid ((ordQ l S fs ts n k ++ ownQ S k ++ farQ l S fs ts k q).map (pl2 S) = L) := ⟨_, Lib.hid rfl⟩
       have HNL : Hid ((ordQ l S fs ts n k ++ ownQ S k ++ farQ l S fs ts k (q + 1)).map (pl2 S) = L ++ [(a, b)]) := Lib.hid (by
        rw [HNX.out, List.map_append, HL.out]
        simp only [List.map_cons, List.map_nil, pl2, HA.out, HB.out])
       rw [HL.out] at HOq HLQ
       clear hm m1 m2
       go_wp2_with fail
       refine HML.out.mono ?_
       rintro e w3 ⟨rfl, hb⟩
       have HB3 : Hid (Below wk.heap.size wk w3) := Lib.hid hb
       clear hb y0 y1 y2 y3 x0
       go_wp2_with fail
       obtain ⟨X, hX⟩ : ∃ X, X = w3 := ⟨_, rfl⟩
       subst hX
       have HBX : Hid (Below W.heap.size W X) := Lib.hid (HBq.out.trans (HB3.out.mono hzq))
       have HOX := Lib.hid (HOq.out.kept HB3.out)
       have HSX := Lib.hid (HS.out.below (HBX.out.mono HBS.out) HBS.out)
       have HBSX : Hid (BS ≤ X.heap.size) := Lib.hid (Nat.le_trans HBS.out HBX.out.size)
       have HWX : Hid (W.heap.size ≤ X.heap.size) := Lib.hid HBX.out.size
       have hWX := HBX.out.size
       have HLL : Hid (L.length ≤ 400) := HLQ
       have KZ : Hid (w.heap.size + 2 ≤ X.heap.size) := Lib.hid (by have := HBX.out.size; have := HZ.out; omega)
       have KP : Hid (X.heap[w.heap.size]? = _) := Lib.hid ((HBX.out.block w.heap.size (heapE_lt H0.out)).trans H0.out)
       obtain ⟨V, hV⟩ : ∃ V, V = VK := ⟨_, rfl⟩
       subst hV
       refine wp_region_inv (by kernel_rfl) (I := ObJ X W.heap.size V w.heap.size k q AF AT AS AE n cF cT nS cS nE cE a b L _ _ _ _ _ _ _ _ _ _ _ _ _ _ _ _ _ _ _ _ _ _ _ _ _ _ _ _ _ _ _ _ _ _ _ _ _ _ _ _ _ _ _ _ _ _ _ _ _ _ _ _) (.mk false false false false false false false false false false false _ _ _ _ _ _ _ _ _ _ _ _ ⟨fun _ => (Below.refl _ X).drew, nofun, nofun, nofun, nofun, nofun, nofun, nofun, nofun, fun _ => rfl, nofun, nofun, nofun, nofun, nofun, nofun, nofun, nofun, nofun, nofun, nofun, nofun, nofun, nofun, nofun⟩) ?step ?fin
       case step =>
        rintro lq a' w' ix0 ⟨b0, b1, b2, b3, b4, b5, b6, b7, b8, b9, b10, v5, v48, v49, v50, v51, v52, v53, v54, v55, v56, v57, _, HT⟩ hi
        obtain ⟨hi_, hib⟩ := ready_lt hi
        have HTH := Lib.hid HT
        match ix0, hi_, hi, hib with
        | 0, _, hi, hib =>
         obtain rfl : b0 = false := by simpa using hib
         obtain rfl : b10 = false := by
          cases hbl : b10 with
          | false => rfl
          | true => have h := (HT.o9_0 (HT.o10_9 hbl)); cases h
         have hq5 := HT.q5 rfl
         subst hq5
         clear HT
         refine wpOp_one rfl rfl (fun K hK => ?_)
         go_simp
         exact hK.out _ _ (.mk true b1 b2 b3 b4 b5 b6 b7 b8 b9 false _ _ _ _ _ _ _ _ _ _ _ _ { HTH.out with h0 := fun _ => rfl, q5 := fun _ => rfl, o9_0 := fun _ => rfl })
        | 1, _, hi, hib =>
         obtain rfl : b1 = false := by simpa using hib
         obtain rfl : b9 = false := by
          cases hbl : b9 with
          | false => rfl
          | true => have h := (HT.o3_1 (HT.o7_3 (HT.o8_7 (HT.o9_8 hbl)))); cases h
         have HTb := Lib.hid (HT.bel rfl)
         obtain ⟨y0, y1, y2, y3⟩ := row4 ((HTb.out.block w.heap.size (by have := KZ.out; omega)).trans KP.out)
         clear HT
         refine wpOp_one rfl rfl (fun K hK => ?_)
         go_simp
         exact hK.out _ _ (.mk b0 true b2 b3 b4 b5 b6 b7 b8 false b10 _ _ _ _ _ _ _ _ _ _ _ _ { HTH.out with h1 := fun _ => rfl, o3_1 := fun _ => rfl })
        | 2, _, hi, hib =>
         obtain rfl : b2 = false := by simpa using hib
         clear HT
         refine wpOp_one rfl rfl (fun K hK => ?_)
         go_simp
         exact hK.out _ _ (.mk b0 b1 true b3 b4 b5 b6 b7 b8 b9 b10 _ _ _ _ _ _ _ _ _ _ _ _ { HTH.out with h2 := fun _ => rfl, o3_2 := fun _ => rfl })
        | 3, _, hi, hib =>
         obtain rfl : b3 = false := by simpa using hib
         have d1 : b1 = true := ready_dep hi rfl 1 (by kernel_rfl)
         have d2 : b2 = true := ready_dep hi rfl 2 (by kernel_rfl)
         have hd1 := HT.h1 d1
         subst hd1
         have hd2 := HT.h2 d2
         subst hd2
         obtain rfl : b9 = false := by
          cases hbl : b9 with
          | false => rfl
          | true => have h := (HT.o7_3 (HT.o8_7 (HT.o9_8 hbl))); cases h
         obtain rfl : b8 = false := by
          cases hbl : b8 with
          | false => rfl
          | true => have h := (HT.o7_3 (HT.o8_7 hbl)); cases h
         have HTb := Lib.hid (HT.bel rfl)
         have HC := Lib.hid (place_any (w := w') (nF := n) (cF := cF) (nT := n) (cT := cT) (c := cS) (nE := nE) (cE := cE) (AF := AF) (AT := AT) (AE := AE) (HSX.out.below (HTb.out.mono HBSX.out) HBSX.out) (Nat.le_trans HBSX.out HTb.out.size) HNS.out (k : Int) 2)
         rw [HPA.out] at HC
         clear HT
         refine wpOp_one rfl rfl (fun K hK => ?_)
         go_simp
         refine HC.out.mono ?_
         rintro e w2 ⟨rfl, hb⟩
         exact hK.out _ _ (.mk b0 b1 b2 true b4 b5 b6 b7 false false b10 _ _ _ _ _ _ _ _ _ _ _ _ { HTH.out with bel := fun _ => HTb.out.trans (hb.mono HTb.out.size), h3 := fun _ => rfl, h8 := fun h => (by cases h), h9 := fun h => (by cases h), o3_1 := fun _ => d1, o3_2 := fun _ => d2, o6_3 := fun _ => rfl, o7_3 := fun _ => rfl })
        | 4, _, hi, hib =>
         obtain rfl : b4 = false := by simpa using hib
         obtain rfl : b9 = false := by
          cases hbl : b9 with
          | false => rfl
          | true => have h := (HT.o6_4 (HT.o7_6 (HT.o8_7 (HT.o9_8 hbl)))); cases h
         have HTb := Lib.hid (HT.bel rfl)
         obtain ⟨y0, y1, y2, y3⟩ := row4 ((HTb.out.block w.heap.size (by have := KZ.out; omega)).trans KP.out)
         clear HT
         refine wpOp_one rfl rfl (fun K hK => ?_)
         go_simp
         exact hK.out _ _ (.mk b0 b1 b2 b3 true b5 b6 b7 b8 false b10 _ _ _ _ _ _ _ _ _ _ _ _ { HTH.out with h4 := fun _ => rfl, o6_4 := fun _ => rfl })
        | 5, _, hi, hib =>
         obtain rfl : b5 = false := by simpa using hib
         clear HT
         refine wpOp_one rfl rfl (fun K hK => ?_)
         go_simp
         exact hK.out _ _ (.mk b0 b1 b2 b3 b4 true b6 b7 b8 b9 b10 _ _ _ _ _ _ _ _ _ _ _ _ { HTH.out with h5 := fun _ => rfl, o6_5 := fun _ => rfl })
        | 6, _, hi, hib =>
         obtain rfl : b6 = false := by simpa using hib
         have d4 : b4 = true := ready_dep hi rfl 4 (by kernel_rfl)
         have d5 : b5 = true := ready_dep hi rfl 5 (by kernel_rfl)
         have d3 : b3 = true := ready_dep hi rfl 3 (by kernel_rfl)
         have hd4 := HT.h4 d4
         subst hd4
         have hd5 := HT.h5 d5
         subst hd5
         have hd3 := HT.h3 d3
         subst hd3
         obtain rfl : b9 = false := by
          cases hbl : b9 with
          | false => rfl
          | true => have h := (HT.o7_6 (HT.o8_7 (HT.o9_8 hbl))); cases h
         obtain rfl : b8 = false := by
          cases hbl : b8 with
          | false => rfl
          | true => have h := (HT.o7_6 (HT.o8_7 hbl)); cases h
         have HTb := Lib.hid (HT.bel rfl)
         have HC := Lib.hid (place_any (w := w') (nF := n) (cF := cF) (nT := n) (cT := cT) (c := cS) (nE := nE) (cE := cE) (AF := AF) (AT := AT) (AE := AE) (HSX.out.below (HTb.out.mono HBSX.out) HBSX.out) (Nat.le_trans HBSX.out HTb.out.size) HNS.out (q : Int) 2)
         rw [HPB.out] at HC
         clear HT
         refine wpOp_one rfl rfl (fun K hK => ?_)
         go_simp
         refine HC.out.mono ?_
         rintro e w2 ⟨rfl, hb⟩
         exact hK.out _ _ (.mk b0 b1 b2 b3 b4 b5 true b7 false false b10 _ _ _ _ _ _ _ _ _ _ _ _ { HTH.out with bel := fun _ => HTb.out.trans (hb.mono HTb.out.size), h6 := fun _ => rfl, h8 := fun h => (by cases h), h9 := fun h => (by cases h), o6_4 := fun _ => d4, o6_5 := fun _ => d5, o6_3 := fun _ => d3, o7_6 := fun _ => rfl, o9_6 := fun _ => rfl })
        | 7, _, hi, hib =>
         obtain rfl : b7 = false := by simpa using hib
         have d3 : b3 = true := ready_dep hi rfl 3 (by kernel_rfl)
         have d6 : b6 = true := ready_dep hi rfl 6 (by kernel_rfl)
         have hd3 := HT.h3 d3
         subst hd3
         have hd6 := HT.h6 d6
         subst hd6
         clear HT
         refine wpOp_one rfl rfl (fun K hK => ?_)
         go_simp
         exact hK.out _ _ (.mk b0 b1 b2 b3 b4 b5 b6 true b8 b9 b10 _ _ _ _ _ _ _ _ _ _ _ _ { HTH.out with h7 := fun _ => rfl, o7_3 := fun _ => d3, o7_6 := fun _ => d6, o8_7 := fun _ => rfl })
        | 8, _, hi, hib =>
         obtain rfl : b8 = false := by simpa using hib
         have d7 : b7 = true := ready_dep hi rfl 7 (by kernel_rfl)
         have hd7 := HT.h7 d7
         subst hd7
         obtain rfl : b9 = false := by
          cases hbl : b9 with
          | false => rfl
          | true => have h := (HT.o9_8 hbl); cases h
         have HTb := Lib.hid (HT.bel rfl)
         clear HT
         refine wpOp_one rfl rfl (fun K hK => ?_)
         go_simp
         have hba : Below w'.heap.size w' (w'.alloc (.cells #[.int .i64 (a : Int), .int .i64 (b : Int)] 91)) := (Below.refl _ w').alloc (Nat.le_refl _) _
         exact hK.out _ _ (.mk b0 b1 b2 b3 b4 b5 b6 b7 true false b10 _ _ _ _ _ _ _ _ _ _ _ _ { HTH.out with bel := fun _ => HTb.out.trans (hba.mono HTb.out.size), h8 := fun _ _ => ⟨w'.heap.size, rfl, heap_new w' _⟩, h9 := fun h => (by cases h), o8_7 := fun _ => d7, o9_8 := fun _ => rfl })
        | 9, _, hi, hib =>
         obtain rfl : b9 = false := by simpa using hib
         have d0 : b0 = true := ready_dep hi rfl 0 (by kernel_rfl)
         have d8 : b8 = true := ready_dep hi rfl 8 (by kernel_rfl)
         have d6 : b6 = true := ready_dep hi rfl 6 (by kernel_rfl)
         have hd0 := HT.h0 d0
         subst hd0
         have hd6 := HT.h6 d6
         subst hd6
         obtain rfl : b10 = false := by
          cases hbl : b10 with
          | false => rfl
          | true => have h := (HT.o10_9 hbl); cases h
         have hq5 := HT.q5 rfl
         subst hq5
         obtain ⟨g, e56, hg⟩ := HT.h8 d8 rfl
         subst e56
         have HTb := Lib.hid (HT.bel rfl)
         have HOO := Lib.hid (HOX.out.kept HTb.out)
         have HG := Lib.hid hg
         clear HT hg
         refine wpOp_one rfl rfl (fun K hK => ?_)
         refine opF_apps (f := egF) (fun _ => rfl) (fun x u hu => by simp [egF] at hu; rcases hu with rfl | rfl <;> rfl) Tryz.underlying33 infoPr rfl (by decide) (by decide) (.tmp 48) (.tmp 56) rfl W.heap.size _ L rfl HOO.out g 1 1 [(a, b)] rfl rfl (by decide) (cells_of HG.out) (by have := HLL.out; omega) (Nat.le_trans HWX.out HTb.out.size) ?_
         intro g' c' w5 hown5 hgr5
         exact hK.out _ _ (.mk b0 b1 b2 b3 b4 b5 b6 b7 b8 true false _ _ _ _ _ _ _ _ _ _ _ _ { HTH.out with bel := fun h => (by cases h), h8 := fun _ h => (by cases h), h9 := fun _ => ⟨(HTb.out.mono HWX.out).grown hgr5 (Nat.le_trans hWX HTb.out.size) (fun x hx => HOO.out.ge x hx), g', c', rfl, hown5⟩, h10 := fun h => (by cases h), q5 := fun _ => rfl, o9_0 := fun _ => d0, o9_8 := fun _ => d8, o9_6 := fun _ => d6, o10_9 := fun _ => rfl })
        | 10, _, hi, hib =>
         obtain rfl : b10 = false := by simpa using hib
         have d9 : b9 = true := ready_dep hi rfl 9 (by kernel_rfl)
         obtain ⟨hbw, g9, c9, e57, hown⟩ := HT.h9 d9
         have HE := Lib.hid e57
         clear HT hown hbw e57
         refine wpOp_one rfl rfl (fun K hK => ?_)
         go_simp
         exact hK.out _ _ (.mk b0 b1 b2 b3 b4 b5 b6 b7 b8 b9 true _ _ _ _ _ _ _ _ _ _ _ _ { HTH.out with q5 := fun h => (by cases h), h10 := fun _ => rfl, o10_9 := fun _ => d9 })
       case fin =>
        rintro lq a' w' ⟨b0, b1, b2, b3, b4, b5, b6, b7, b8, b9, b10, v5, v48, v49, v50, v51, v52, v53, v54, v55, v56, v57, _, HT⟩ hr
        obtain rfl : b0 = true := by
         cases b0 with
         | true => rfl
         | false => exact (ready_in 0 rfl rfl (by simp [Region.binds]) hr).elim
        obtain rfl : b1 = true := by
         cases b1 with
         | true => rfl
         | false => exact (ready_in 1 rfl rfl (by simp [Region.binds]) hr).elim
        obtain rfl : b2 = true := by
         cases b2 with
         | true => rfl
         | false => exact (ready_in 2 rfl rfl (by simp [Region.binds]) hr).elim
        obtain rfl : b3 = true := by
         cases b3 with
         | true => rfl
         | false => exact (ready_in 3 rfl rfl (by simp [Region.binds]) hr).elim
        obtain rfl : b4 = true := by
         cases b4 with
         | true => rfl
         | false => exact (ready_in 4 rfl rfl (by simp [Region.binds]) hr).elim
        obtain rfl : b5 = true := by
         cases b5 with
         | true => rfl
         | false => exact (ready_in 5 rfl rfl (by simp [Region.binds]) hr).elim
        obtain rfl : b6 = true := by
         cases b6 with
         | true => rfl
         | false => exact (ready_in 6 rfl rfl (by simp [Region.binds]) hr).elim
        obtain rfl : b7 = true := by
         cases b7 with
         | true => rfl
         | false => exact (ready_in 7 rfl rfl (by simp [Region.binds]) hr).elim
        obtain rfl : b8 = true := by
         cases b8 with
         | true => rfl
         | false => exact (ready_in 8 rfl rfl (by simp [Region.binds]) hr).elim
        obtain rfl : b9 = true := by
         cases b9 with
         | true => rfl
         | false => exact (ready_in 9 rfl rfl (by simp [Region.binds]) hr).elim
        obtain rfl : b10 = true := by
         cases b10 with
         | true => rfl
         | false => exact (ready_in 10 rfl rfl (by simp [Region.binds]) hr).elim
        have k0 := HT.h0 rfl
        subst k0
        have k1 := HT.h1 rfl
        subst k1
        have k2 := HT.h2 rfl
        subst k2
        have k3 := HT.h3 rfl
        subst k3
        have k4 := HT.h4 rfl
        subst k4
        have k5 := HT.h5 rfl
        subst k5
        have k6 := HT.h6 rfl
        subst k6
        have k7 := HT.h7 rfl
        subst k7
        have k10 := HT.h10 rfl
        subst k10
        obtain ⟨hbZ, g9, c9, e57, hown⟩ := HT.h9 rfl
        subst e57
        have HBZ := Lib.hid hbZ
        have HOZ := Lib.hid hown
        clear HT hbZ hown hr
        go_wp2_with fail
        go_roundw
        case rel => exact ⟨q + 1, _, by omega, rfl, by go_num, Lib.hid (by rw [HNL.out]; exact HOZ.out), Lib.hid (HBX.out.trans HBZ.out)⟩
        case measure => simp [intOf]; omega
     ·have hd2 : decide ((q : Int) < (n : Int)) = false := by simp; omega
      obtain rfl : q = n := by omega
      go_wp2_with fail
      go_roundw
      case rel => exact ⟨k + 1, _, by omega, rfl, by go_num, Lib.hid (by rw [ordQ_succ]; unfold atQ; rw [← List.append_assoc]; exact HOq.out), HBq⟩
      case measure => simp [intOf]; omega
  ·have hd : decide ((k : Int) < (n : Int)) = false := by simp; omega
   obtain rfl : k = n := by omega
   obtain ⟨A5, c5, hv⟩ := HO.out.shape
   obtain ⟨N5, HN5⟩ : ∃ x, Hid (((ordQ l S fs ts k k).map (pl2 S)).length = x) := ⟨_, Lib.hid rfl⟩
   rw [HN5.out] at hv
   subst hv
   have HSO := Lib.hid (sortP_any HO.out (by rw [← HN5.out, List.length_map]; have := HLK.out; omega) hzo)
   go_wp2_with fail
   refine HSO.out.mono ?_
   rintro e w5 ⟨rfl, es, hp, hs, hown, hgr⟩
   have HRES : Hid (es.Perm ((ordQ l S fs ts k k).map (pl2 S)) ∧ es.Pairwise (fun x y => ¬ ltP y x) ∧ OwnF 91 2 egF w5 w.heap.size (.slice A5 N5 c5) es ∧ Below w.heap.size w w5) := Lib.hid ⟨hp, hs, hown.less HBL.out.size, HBL.out.trans ((HBo.out.grown hgr hzo HO.out.ge).mono HBL.out.size)⟩
   clear hp hs hown hgr
   go_wp2_with fail
   exact bodyPost_ret (results_tmp rfl _ _ _) rfl ⟨_, _, _, es, rfl, HRES.out⟩
end Go.Proofs.YtminihiecloglaaGreat
