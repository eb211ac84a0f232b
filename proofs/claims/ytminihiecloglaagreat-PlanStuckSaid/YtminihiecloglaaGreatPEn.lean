/-
 THE DOCUMENT'S Ends (printed by genpen.py).
-/
import Derived.Test.YtminihiecloglaaGreatPCe
import Derived.Test.YtminihiecloglaaGreatPMl
import Derived.Test.YtminihiecloglaaGreatPGc
set_option linter.unusedVariables false
set_option linter.unusedSimpArgs false
namespace Go.Proofs.YtminihiecloglaaGreat
open Go.RowKit
open SemP FlP GaP DiP
set_option maxRecDepth 10000
structure EaSt (w0 : World) (h : Nat) (A A2 A3 : Option Addr) (n c c2 c3 : Nat) (l : List Sv) (fs ts : List Int) (g2 : Bool) (b0 b1 b2 b3 b4 b5 b6 b7 b8 b9 b10 b11 b12 b13 : Bool) (v19 v20 v21 v22 v23 v24 v25 v26 v27 v28 v29 v30 v31 v32 : Value) (w' : World) : Prop where
 bel : Below w0.heap.size w0 w'
 h0 : b0 = true → v19 = .agg #[.slice A n c]
 h1 : b1 = true → v20 = .agg #[.slice A n c]
 h2 : b2 = true → v21 = .slice A2 n c2
 h3 : b3 = true → ∃ A' c', v22 = .slice A' n c' ∧ PrR w' A' n (setL l fs)
 h4 : b4 = true → v23 = .bool false
 h5 : b5 = true → v24 = .bool true
 h6 : b6 = true → v25 = .bool true
 h7 : b7 = true → v26 = undef
 h8 : b8 = true → v27 = undef
 h9 : b9 = true → v28 = undef
 h10 : b10 = true → v29 = undef
 h11 : b11 = true → v30 = undef
 h12 : b12 = true → v31 = undef
 h13 : b13 = true → v32 = .bool true
inductive EaJ (w0 : World) (h : Nat) (A A2 A3 : Option Addr) (n c c2 c3 : Nat) (l : List Sv) (fs ts : List Int) (g2 : Bool) (p0 p1 p2 p3 p4 p5 p6 p7 p8 p9 p10 p11 p12 p13 p14 p15 p16 p17 p18 p33 p34 p35 p36 p37 p38 p39 p40 p41 p42 p43 p44 p45 p46 p47 p48 p49 p50 p51 p52 p53 p54 p55 p56 p57 p58 p59 p60 p61 p62 p63 p64 p65 p66 p67 p68 p69 p70 p71 : Value) : Array Bool → Act → World → Prop where
 | mk (b0 b1 b2 b3 b4 b5 b6 b7 b8 b9 b10 b11 b12 b13 : Bool) (v19 v20 v21 v22 v23 v24 v25 v26 v27 v28 v29 v30 v31 v32 : Value) (w' : World) : EaSt w0 h A A2 A3 n c c2 c3 l fs ts g2 b0 b1 b2 b3 b4 b5 b6 b7 b8 b9 b10 b11 b12 b13 v19 v20 v21 v22 v23 v24 v25 v26 v27 v28 v29 v30 v31 v32 w' → EaJ w0 h A A2 A3 n c c2 c3 l fs ts g2 p0 p1 p2 p3 p4 p5 p6 p7 p8 p9 p10 p11 p12 p13 p14 p15 p16 p17 p18 p33 p34 p35 p36 p37 p38 p39 p40 p41 p42 p43 p44 p45 p46 p47 p48 p49 p50 p51 p52 p53 p54 p55 p56 p57 p58 p59 p60 p61 p62 p63 p64 p65 p66 p67 p68 p69 p70 p71 #[b0, b1, b2, b3, b4, b5, b6, b7, b8, b9, b10, b11, b12, b13] { tmps := List.toArray (p0 :: p1 :: p2 :: p3 :: p4 :: p5 :: p6 :: p7 :: p8 :: p9 :: p10 :: p11 :: p12 :: p13 :: p14 :: p15 :: p16 :: p17 :: p18 :: v19 :: v20 :: v21 :: v22 :: v23 :: v24 :: v25 :: v26 :: v27 :: v28 :: v29 :: v30 :: v31 :: v32 :: p33 :: p34 :: p35 :: p36 :: p37 :: p38 :: p39 :: p40 :: p41 :: p42 :: p43 :: p44 :: p45 :: p46 :: p47 :: p48 :: p49 :: p50 :: p51 :: p52 :: p53 :: p54 :: p55 :: p56 :: p57 :: p58 :: p59 :: p60 :: p61 :: p62 :: p63 :: p64 :: p65 :: p66 :: p67 :: p68 :: p69 :: p70 :: p71 :: []), defers := [] } w'
structure EbSt (w0 : World) (h : Nat) (A A2 A3 : Option Addr) (n c c2 c3 : Nat) (l : List Sv) (fs ts : List Int) (g2 : Bool) (b0 b1 b2 b3 b4 b5 b6 b7 b8 b9 b10 b11 b12 b13 : Bool) (v19 v20 v21 v22 v23 v24 v25 v26 v27 v28 v29 v30 v31 v32 : Value) (w' : World) : Prop where
 bel : Below w0.heap.size w0 w'
 h0 : b0 = true → v19 = .agg #[.slice A n c]
 h1 : b1 = true → v20 = .agg #[.slice A n c]
 h2 : b2 = true → v21 = .slice A2 n c2
 h3 : b3 = true → ∃ A' c', v22 = .slice A' n c' ∧ PrR w' A' n (setL l fs)
 h4 : b4 = true → v23 = .bool true
 h5 : b5 = true → v24 = .bool false
 h6 : b6 = true → v25 = .bool false
 h7 : b7 = true → v26 = .agg #[.slice A n c]
 h8 : b8 = true → v27 = .agg #[.slice A n c]
 h9 : b9 = true → v28 = .slice A3 n c3
 h10 : b10 = true → ∃ A' c', v29 = .slice A' n c' ∧ PrR w' A' n (setL l ts)
 h11 : b11 = true → v30 = .bool g2
 h12 : b12 = true → v31 = .bool (!g2)
 h13 : b13 = true → v32 = .bool (!g2)
inductive EbJ (w0 : World) (h : Nat) (A A2 A3 : Option Addr) (n c c2 c3 : Nat) (l : List Sv) (fs ts : List Int) (g2 : Bool) (p0 p1 p2 p3 p4 p5 p6 p7 p8 p9 p10 p11 p12 p13 p14 p15 p16 p17 p18 p33 p34 p35 p36 p37 p38 p39 p40 p41 p42 p43 p44 p45 p46 p47 p48 p49 p50 p51 p52 p53 p54 p55 p56 p57 p58 p59 p60 p61 p62 p63 p64 p65 p66 p67 p68 p69 p70 p71 : Value) : Array Bool → Act → World → Prop where
 | mk (b0 b1 b2 b3 b4 b5 b6 b7 b8 b9 b10 b11 b12 b13 : Bool) (v19 v20 v21 v22 v23 v24 v25 v26 v27 v28 v29 v30 v31 v32 : Value) (w' : World) : EbSt w0 h A A2 A3 n c c2 c3 l fs ts g2 b0 b1 b2 b3 b4 b5 b6 b7 b8 b9 b10 b11 b12 b13 v19 v20 v21 v22 v23 v24 v25 v26 v27 v28 v29 v30 v31 v32 w' → EbJ w0 h A A2 A3 n c c2 c3 l fs ts g2 p0 p1 p2 p3 p4 p5 p6 p7 p8 p9 p10 p11 p12 p13 p14 p15 p16 p17 p18 p33 p34 p35 p36 p37 p38 p39 p40 p41 p42 p43 p44 p45 p46 p47 p48 p49 p50 p51 p52 p53 p54 p55 p56 p57 p58 p59 p60 p61 p62 p63 p64 p65 p66 p67 p68 p69 p70 p71 #[b0, b1, b2, b3, b4, b5, b6, b7, b8, b9, b10, b11, b12, b13] { tmps := List.toArray (p0 :: p1 :: p2 :: p3 :: p4 :: p5 :: p6 :: p7 :: p8 :: p9 :: p10 :: p11 :: p12 :: p13 :: p14 :: p15 :: p16 :: p17 :: p18 :: v19 :: v20 :: v21 :: v22 :: v23 :: v24 :: v25 :: v26 :: v27 :: v28 :: v29 :: v30 :: v31 :: v32 :: p33 :: p34 :: p35 :: p36 :: p37 :: p38 :: p39 :: p40 :: p41 :: p42 :: p43 :: p44 :: p45 :: p46 :: p47 :: p48 :: p49 :: p50 :: p51 :: p52 :: p53 :: p54 :: p55 :: p56 :: p57 :: p58 :: p59 :: p60 :: p61 :: p62 :: p63 :: p64 :: p65 :: p66 :: p67 :: p68 :: p69 :: p70 :: p71 :: []), defers := [] } w'
set_option maxHeartbeats 16000000 in
theorem endsQ_any {w : World} {B B2 B3 n c m c2 m3 c3 : Nat} {A A2 A3 : Option Addr} {l : List Sv} {fs ts : List Int} (h : CatAt w B A n c l) (hlv : LevOK l) (hf : Rd w B2 A2 m fs) (ht : Rd w B3 A3 m3 ts) (hB2 : B2 ≤ w.heap.size) (hB3 : B3 ≤ w.heap.size) (hm : m ≤ 1000000) (hm3 : m3 ≤ 1000000) :
  Calls Tryz.prog 22 #[.agg #[.slice A n c], .slice A2 m c2, .slice A3 m3 c3] w fun e w' => e = .returned (.int .i64 (chkE l fs ts)) ∧ Below w.heap.size w w' := by
 obtain ⟨W, HW⟩ : ∃ W, Hid (W = w.alloc (.cells #[.slice A n c] 29)) := ⟨_, Lib.hid rfl⟩
 have hbl : Below w.heap.size w W := by rw [HW.out]; exact (Below.refl _ w).alloc (Nat.le_refl _) _
 have H0 : Hid (W.heap[w.heap.size]? = some (.cells #[.slice A n c] 29 (0, 0))) := Lib.hid (by rw [HW.out]; exact heap_new w _)
 have HBL := Lib.hid hbl
 have HA := Lib.hid (h.below hbl)
 have HF := Lib.hid (hf.below (hbl.mono hB2))
 have HTS := Lib.hid (ht.below (hbl.mono hB3))
 have HB2 : Hid (B2 ≤ W.heap.size) := Lib.hid (Nat.le_trans hB2 hbl.size)
 have HB3 : Hid (B3 ≤ W.heap.size) := Lib.hid (Nat.le_trans hB3 hbl.size)
 have HLV := Lib.hid hlv
 have HN : Hid (l.length = n) := Lib.hid h.rd.1
 have HN16 := Lib.hid h.n16
 have HML : Hid (fs.length = m) := Lib.hid hf.len
 have HM3 : Hid (ts.length = m3) := Lib.hid ht.len
 have HCE : Hid (chkE l fs ts = if setB l fs = false ∨ setB l ts = false then 42 else if goodC l (setL l fs) = false ∨ goodC l (setL l ts) = false then 70 else if (List.range fs.length).all (riseB l fs ts) = false then 43 else 0) := Lib.hid rfl
 obtain ⟨CE, HCV⟩ : ∃ q, Hid (chkE l fs ts = q) := ⟨_, Lib.hid rfl⟩
 rw [HCV.out] at HCE ⊢
 have HR1 := Lib.hid (relQ_any (c := c) (c2 := c2) HA.out HF.out HB2.out hm)
 have HR2 := Lib.hid (fun (X : World) (hb : Below W.heap.size W X) => relQ_any (c := c) (c2 := c3) (HA.out.below hb) (HTS.out.below (hb.mono HB3.out)) (Nat.le_trans HB3.out hb.size) hm3)
 clear h hlv hf ht hB2 hB3 hm hm3 hbl HCV
 obtain ⟨x0, _⟩ := row1f H0.out
 go_enter Tryz.func22, Tryz.ntmps22
 go_upto_region 1 with fail
 change Code.wp _ _ _ _ (w.alloc (.cells #[.slice A n c] 29))
 rw [← HW.out]
 cases hs1 : setB l fs with
 | false =>
  have HX : Hid (CE = 42) := Lib.hid (by rw [HCE.out, if_pos (.inl hs1)])
  rw [hs1] at HR1
  clear hs1
  go_wp2_with fail
  refine HR1.out.mono ?_
  rintro e w1 ⟨rfl, hb⟩
  go_wp2_with fail
  exact bodyPost_ret (results_tmp rfl _ _ _) rfl ⟨by rw [HX.out]; rfl, HBL.out.trans (hb.mono HBL.out.size)⟩
 | true =>
  rw [hs1] at HR1
  have HSF : Hid (setB l fs = true) := Lib.hid hs1
  clear hs1
  go_wp2_with fail
  refine HR1.out.mono ?_
  rintro e w1 ⟨rfl, hb⟩
  have HW1 : Hid (Below W.heap.size W w1) := Lib.hid hb
  have K1 : Hid (w1.heap[w.heap.size]? = _) := Lib.hid ((hb.block w.heap.size (heapE_lt H0.out)).trans H0.out)
  have HR2 := Lib.hid (HR2.out w1 hb)
  clear hb x0 HR1
  obtain ⟨x0, _⟩ := row1f K1.out
  cases hs2 : setB l ts with
  | false =>
   have HX : Hid (CE = 42) := Lib.hid (by rw [HCE.out, if_pos (.inr hs2)])
   rw [hs2] at HR2
   clear hs2
   go_wp2_with fail
   refine HR2.out.mono ?_
   rintro e w2 ⟨rfl, hb⟩
   go_wp2_with fail
   exact bodyPost_ret (results_tmp rfl _ _ _) rfl ⟨by rw [HX.out]; rfl, HBL.out.trans ((HW1.out.trans (hb.mono HW1.out.size)).mono HBL.out.size)⟩
  | true =>
   rw [hs2] at HR2
   have HST : Hid (setB l ts = true) := Lib.hid hs2
   clear hs2
   go_wp2_with fail
   refine HR2.out.mono ?_
   rintro e X ⟨rfl, hb⟩
   have HWX : Hid (Below W.heap.size W X) := Lib.hid (HW1.out.trans (hb.mono HW1.out.size))
   have KX : Hid (X.heap[w.heap.size]? = _) := Lib.hid ((hb.block w.heap.size (heapE_lt K1.out)).trans K1.out)
   have HBX : Hid (Below w.heap.size w X) := Lib.hid (HBL.out.trans (HWX.out.mono HBL.out.size))
   clear hb x0 HR2
   have hmn : m = n := by rw [← HML.out, ← HN.out]; exact (setB_iff.1 HSF.out).1
   have hm3n : m3 = n := by rw [← HM3.out, ← HN.out]; exact (setB_iff.1 HST.out).1
   subst hmn
   subst hm3n
   have HAX := Lib.hid (HA.out.below HWX.out)
   have HFX := Lib.hid (HF.out.below (HWX.out.mono HB2.out))
   have HTX := Lib.hid (HTS.out.below (HWX.out.mono HB3.out))
   have HB2X : Hid (B2 ≤ X.heap.size) := Lib.hid (Nat.le_trans HB2.out HWX.out.size)
   have HB3X : Hid (B3 ≤ X.heap.size) := Lib.hid (Nat.le_trans HB3.out HWX.out.size)
   have HC2 : Hid (CE = if goodC l (setL l fs) = false ∨ goodC l (setL l ts) = false then 70 else if (List.range fs.length).all (riseB l fs ts) = false then 43 else 0) := Lib.hid (by rw [HCE.out, if_neg (by rw [HSF.out, HST.out]; simp)])
   obtain ⟨g2, HG2⟩ : ∃ q, Hid (goodC l (setL l ts) = q) := ⟨_, Lib.hid rfl⟩
   clear HCE
   go_wp2_with fail
   cases hg1 : goodC l (setL l fs) with
   | false =>
    have HG1 : Hid (goodC l (setL l fs) = false) := Lib.hid hg1
    have HX : Hid (CE = 70) := Lib.hid (by rw [HC2.out, if_pos (.inl hg1)])
    clear hg1
    refine wp_region_inv (by kernel_rfl) (I := EaJ X w.heap.size A A2 A3 m3 c c2 c3 l fs ts g2 _ _ _ _ _ _ _ _ _ _ _ _ _ _ _ _ _ _ _ _ _ _ _ _ _ _ _ _ _ _ _ _ _ _ _ _ _ _ _ _ _ _ _ _ _ _ _ _ _ _ _ _ _ _ _ _ _ _) (.mk false false false false false false false false false false false false false false _ _ _ _ _ _ _ _ _ _ _ _ _ _ _ ⟨(Below.refl _ X).drew, nofun, nofun, nofun, nofun, nofun, nofun, nofun, nofun, nofun, nofun, nofun, nofun, nofun, nofun⟩) ?step ?fin
    case step =>
     rintro lq a' w' ix ⟨b0, b1, b2, b3, b4, b5, b6, b7, b8, b9, b10, b11, b12, b13, v19, v20, v21, v22, v23, v24, v25, v26, v27, v28, v29, v30, v31, v32, _, HT⟩ hi
     obtain ⟨hi_, hib⟩ := ready_lt hi
     have HTH := Lib.hid HT
     match ix, hi_, hi, hib with
     | 0, _, hi, hib =>
      have HTb := Lib.hid HT.bel
      obtain ⟨x0, _⟩ := row1f ((HTb.out.block w.heap.size (heapE_lt KX.out)).trans KX.out)
      clear HT
      refine wpOp_one rfl rfl (fun K hK => ?_)
      go_simp
      exact hK.out _ _ (.mk true b1 b2 b3 b4 b5 b6 b7 b8 b9 b10 b11 b12 b13 _ _ _ _ _ _ _ _ _ _ _ _ _ _ _ { HTH.out with h0 := fun _ => rfl })
     | 1, _, hi, hib =>
      have HTb := Lib.hid HT.bel
      obtain ⟨x0, _⟩ := row1f ((HTb.out.block w.heap.size (heapE_lt KX.out)).trans KX.out)
      clear HT
      refine wpOp_one rfl rfl (fun K hK => ?_)
      go_simp
      exact hK.out _ _ (.mk b0 true b2 b3 b4 b5 b6 b7 b8 b9 b10 b11 b12 b13 _ _ _ _ _ _ _ _ _ _ _ _ _ _ _ { HTH.out with h1 := fun _ => rfl })
     | 2, _, hi, hib =>
      clear HT
      refine wpOp_one rfl rfl (fun K hK => ?_)
      go_simp
      exact hK.out _ _ (.mk b0 b1 true b3 b4 b5 b6 b7 b8 b9 b10 b11 b12 b13 _ _ _ _ _ _ _ _ _ _ _ _ _ _ _ { HTH.out with h2 := fun _ => rfl })
     | 3, _, hi, hib =>
      have d1 : b1 = true := ready_dep hi rfl 1 (by kernel_rfl)
      have hd1 := HT.h1 d1
      subst hd1
      have d2 : b2 = true := ready_dep hi rfl 2 (by kernel_rfl)
      have hd2 := HT.h2 d2
      subst hd2
      have HTb := Lib.hid HT.bel
      have HC := Lib.hid (settledQ_any (w := w') (c := c) (c2 := c2) (HAX.out.below HTb.out) HLV.out (HFX.out.below (HTb.out.mono HB2X.out)) (Nat.le_trans HB2X.out HTb.out.size) (by have := HN16.out; omega) HSF.out)
      clear HT
      refine wpOp_one rfl rfl (fun K hK => ?_)
      go_simp
      refine HC.out.mono ?_
      rintro e w2 ⟨A9, c9, rfl, hrd, hb⟩
      exact hK.out _ _ (.mk b0 b1 b2 true b4 b5 b6 b7 b8 b9 b10 b11 b12 b13 _ _ _ _ _ _ _ _ _ _ _ _ _ _ _ { HTH.out with bel := HTH.out.bel.trans (hb.mono HTH.out.bel.size), h3 := fun _ => ⟨A9, c9, rfl, PrR.of hrd⟩ })
     | 4, _, hi, hib =>
      have d0 : b0 = true := ready_dep hi rfl 0 (by kernel_rfl)
      have hd0 := HT.h0 d0
      subst hd0
      have d3 : b3 = true := ready_dep hi rfl 3 (by kernel_rfl)
      have HO3 := Lib.hid (HT.h3 d3)
      have HTb := Lib.hid HT.bel
      obtain ⟨A9, c9, e9, hr9⟩ := HO3.out
      subst e9
      have HC := Lib.hid (goodQ_set (w := w') (c := c) (c2 := c9) (HAX.out.below HTb.out) HLV.out HSF.out hr9)
      rw [HG1.out] at HC
      clear HT
      refine wpOp_one rfl rfl (fun K hK => ?_)
      go_simp
      refine HC.out.mono ?_
      rintro e w2 ⟨rfl, hb⟩
      exact hK.out _ _ (.mk b0 b1 b2 b3 true b5 b6 b7 b8 b9 b10 b11 b12 b13 _ _ _ _ _ _ _ _ _ _ _ _ _ _ _ { HTH.out with bel := HTH.out.bel.trans (hb.mono HTH.out.bel.size), h4 := fun _ => rfl, h3 := fun h => (by obtain ⟨A', c', e, r⟩ := (HTH.out.h3 h); exact ⟨A', c', e, r.below hb⟩) })
     | 5, _, hi, hib =>
      have d4 : b4 = true := ready_dep hi rfl 4 (by kernel_rfl)
      have hd4 := HT.h4 d4
      subst hd4
      clear HT
      refine wpOp_one rfl rfl (fun K hK => ?_)
      go_simp
      exact hK.out _ _ (.mk b0 b1 b2 b3 b4 true b6 b7 b8 b9 b10 b11 b12 b13 _ _ _ _ _ _ _ _ _ _ _ _ _ _ _ { HTH.out with h5 := fun _ => rfl })
     | 6, _, hi, hib =>
      have d5 : b5 = true := ready_dep hi rfl 5 (by kernel_rfl)
      have hd5 := HT.h5 d5
      subst hd5
      clear HT
      refine wpOp_one rfl rfl (fun K hK => ?_)
      go_simp
      exact hK.out _ _ (.mk b0 b1 b2 b3 b4 b5 true b7 b8 b9 b10 b11 b12 b13 _ _ _ _ _ _ _ _ _ _ _ _ _ _ _ { HTH.out with h6 := fun _ => rfl })
     | 7, _, hi, hib =>
      have e6 : b6 = true := ready_dep hi rfl 6 (by kernel_rfl)
      have he6 := HT.h6 e6
      subst he6
      refine wpOp_skip rfl 6 false rfl rfl ?_
      exact .mk b0 b1 b2 b3 b4 b5 b6 true b8 b9 b10 b11 b12 b13 _ _ _ _ _ _ _ _ _ _ _ _ _ _ _ { HT with h7 := fun _ => rfl }
     | 8, _, hi, hib =>
      have e6 : b6 = true := ready_dep hi rfl 6 (by kernel_rfl)
      have he6 := HT.h6 e6
      subst he6
      refine wpOp_skip rfl 6 false rfl rfl ?_
      exact .mk b0 b1 b2 b3 b4 b5 b6 b7 true b9 b10 b11 b12 b13 _ _ _ _ _ _ _ _ _ _ _ _ _ _ _ { HT with h8 := fun _ => rfl }
     | 9, _, hi, hib =>
      have e6 : b6 = true := ready_dep hi rfl 6 (by kernel_rfl)
      have he6 := HT.h6 e6
      subst he6
      refine wpOp_skip rfl 6 false rfl rfl ?_
      exact .mk b0 b1 b2 b3 b4 b5 b6 b7 b8 true b10 b11 b12 b13 _ _ _ _ _ _ _ _ _ _ _ _ _ _ _ { HT with h9 := fun _ => rfl }
     | 10, _, hi, hib =>
      have e6 : b6 = true := ready_dep hi rfl 6 (by kernel_rfl)
      have he6 := HT.h6 e6
      subst he6
      refine wpOp_skip rfl 6 false rfl rfl ?_
      exact .mk b0 b1 b2 b3 b4 b5 b6 b7 b8 b9 true b11 b12 b13 _ _ _ _ _ _ _ _ _ _ _ _ _ _ _ { HT with h10 := fun _ => rfl }
     | 11, _, hi, hib =>
      have e6 : b6 = true := ready_dep hi rfl 6 (by kernel_rfl)
      have he6 := HT.h6 e6
      subst he6
      refine wpOp_skip rfl 6 false rfl rfl ?_
      exact .mk b0 b1 b2 b3 b4 b5 b6 b7 b8 b9 b10 true b12 b13 _ _ _ _ _ _ _ _ _ _ _ _ _ _ _ { HT with h11 := fun _ => rfl }
     | 12, _, hi, hib =>
      have e6 : b6 = true := ready_dep hi rfl 6 (by kernel_rfl)
      have he6 := HT.h6 e6
      subst he6
      refine wpOp_skip rfl 6 false rfl rfl ?_
      exact .mk b0 b1 b2 b3 b4 b5 b6 b7 b8 b9 b10 b11 true b13 _ _ _ _ _ _ _ _ _ _ _ _ _ _ _ { HT with h12 := fun _ => rfl }
     | 13, _, hi, hib =>
      have d6 : b6 = true := ready_dep hi rfl 6 (by kernel_rfl)
      have hd6 := HT.h6 d6
      subst hd6
      have d12 : b12 = true := ready_dep hi rfl 12 (by kernel_rfl)
      have hd12 := HT.h12 d12
      subst hd12
      clear HT
      refine wpOp_one rfl rfl (fun K hK => ?_)
      go_simp
      exact hK.out _ _ (.mk b0 b1 b2 b3 b4 b5 b6 b7 b8 b9 b10 b11 b12 true _ _ _ _ _ _ _ _ _ _ _ _ _ _ _ { HTH.out with h13 := fun _ => rfl })
    case fin =>
     rintro lq a' w' ⟨b0, b1, b2, b3, b4, b5, b6, b7, b8, b9, b10, b11, b12, b13, v19, v20, v21, v22, v23, v24, v25, v26, v27, v28, v29, v30, v31, v32, _, HT⟩ hr
     obtain rfl : b0 = true := by
      cases b0 with
      | true => rfl
      | false => exact (ready_in 0 rfl rfl (by simp [Region.binds]) hr).elim
     obtain rfl : b1 = true := by
      cases b1 with
      | true => rfl
      | false => exact (ready_in 1 rfl rfl (by simp [Region.binds]) hr).elim
     obtain rfl : b2 = true := by
      cases b2 with
      | true => rfl
      | false => exact (ready_in 2 rfl rfl (by simp [Region.binds]) hr).elim
     obtain rfl : b3 = true := by
      cases b3 with
      | true => rfl
      | false => exact (ready_in 3 rfl rfl (by simp [Region.binds]) hr).elim
     obtain rfl : b4 = true := by
      cases b4 with
      | true => rfl
      | false => exact (ready_in 4 rfl rfl (by simp [Region.binds]) hr).elim
     obtain rfl : b5 = true := by
      cases b5 with
      | true => rfl
      | false => exact (ready_in 5 rfl rfl (by simp [Region.binds]) hr).elim
     obtain rfl : b6 = true := by
      cases b6 with
      | true => rfl
      | false => exact (ready_in 6 rfl rfl (by simp [Region.binds]) hr).elim
     obtain rfl : b7 = true := by
      cases b7 with
      | true => rfl
      | false => exact (ready_in 7 rfl rfl (by simp [Region.binds]) hr).elim
     obtain rfl : b8 = true := by
      cases b8 with
      | true => rfl
      | false => exact (ready_in 8 rfl rfl (by simp [Region.binds]) hr).elim
     obtain rfl : b9 = true := by
      cases b9 with
      | true => rfl
      | false => exact (ready_in 9 rfl rfl (by simp [Region.binds]) hr).elim
     obtain rfl : b10 = true := by
      cases b10 with
      | true => rfl
      | false => exact (ready_in 10 rfl rfl (by simp [Region.binds]) hr).elim
     obtain rfl : b11 = true := by
      cases b11 with
      | true => rfl
      | false => exact (ready_in 11 rfl rfl (by simp [Region.binds]) hr).elim
     obtain rfl : b12 = true := by
      cases b12 with
      | true => rfl
      | false => exact (ready_in 12 rfl rfl (by simp [Region.binds]) hr).elim
     obtain rfl : b13 = true := by
      cases b13 with
      | true => rfl
      | false => exact (ready_in 13 rfl rfl (by simp [Region.binds]) hr).elim
     have k0 := HT.h0 rfl
     subst k0
     have k1 := HT.h1 rfl
     subst k1
     have k2 := HT.h2 rfl
     subst k2
     have k4 := HT.h4 rfl
     subst k4
     have k5 := HT.h5 rfl
     subst k5
     have k6 := HT.h6 rfl
     subst k6
     have k7 := HT.h7 rfl
     subst k7
     have k8 := HT.h8 rfl
     subst k8
     have k9 := HT.h9 rfl
     subst k9
     have k10 := HT.h10 rfl
     subst k10
     have k11 := HT.h11 rfl
     subst k11
     have k12 := HT.h12 rfl
     subst k12
     have k13 := HT.h13 rfl
     subst k13
     have HBZ := Lib.hid HT.bel
     clear HT hr
     go_wp2_with fail
     exact bodyPost_ret (results_tmp rfl _ _ _) rfl ⟨by rw [HX.out]; rfl, HBX.out.trans (HBZ.out.mono HBX.out.size)⟩
   | true =>
    have HG1 : Hid (goodC l (setL l fs) = true) := Lib.hid hg1
    clear hg1
    refine wp_region_inv (by kernel_rfl) (I := EbJ X w.heap.size A A2 A3 m3 c c2 c3 l fs ts g2 _ _ _ _ _ _ _ _ _ _ _ _ _ _ _ _ _ _ _ _ _ _ _ _ _ _ _ _ _ _ _ _ _ _ _ _ _ _ _ _ _ _ _ _ _ _ _ _ _ _ _ _ _ _ _ _ _ _) (.mk false false false false false false false false false false false false false false _ _ _ _ _ _ _ _ _ _ _ _ _ _ _ ⟨(Below.refl _ X).drew, nofun, nofun, nofun, nofun, nofun, nofun, nofun, nofun, nofun, nofun, nofun, nofun, nofun, nofun⟩) ?step ?fin
    case step =>
     rintro lq a' w' ix ⟨b0, b1, b2, b3, b4, b5, b6, b7, b8, b9, b10, b11, b12, b13, v19, v20, v21, v22, v23, v24, v25, v26, v27, v28, v29, v30, v31, v32, _, HT⟩ hi
     obtain ⟨hi_, hib⟩ := ready_lt hi
     have HTH := Lib.hid HT
     match ix, hi_, hi, hib with
     | 0, _, hi, hib =>
      have HTb := Lib.hid HT.bel
      obtain ⟨x0, _⟩ := row1f ((HTb.out.block w.heap.size (heapE_lt KX.out)).trans KX.out)
      clear HT
      refine wpOp_one rfl rfl (fun K hK => ?_)
      go_simp
      exact hK.out _ _ (.mk true b1 b2 b3 b4 b5 b6 b7 b8 b9 b10 b11 b12 b13 _ _ _ _ _ _ _ _ _ _ _ _ _ _ _ { HTH.out with h0 := fun _ => rfl })
     | 1, _, hi, hib =>
      have HTb := Lib.hid HT.bel
      obtain ⟨x0, _⟩ := row1f ((HTb.out.block w.heap.size (heapE_lt KX.out)).trans KX.out)
      clear HT
      refine wpOp_one rfl rfl (fun K hK => ?_)
      go_simp
      exact hK.out _ _ (.mk b0 true b2 b3 b4 b5 b6 b7 b8 b9 b10 b11 b12 b13 _ _ _ _ _ _ _ _ _ _ _ _ _ _ _ { HTH.out with h1 := fun _ => rfl })
     | 2, _, hi, hib =>
      clear HT
      refine wpOp_one rfl rfl (fun K hK => ?_)
      go_simp
      exact hK.out _ _ (.mk b0 b1 true b3 b4 b5 b6 b7 b8 b9 b10 b11 b12 b13 _ _ _ _ _ _ _ _ _ _ _ _ _ _ _ { HTH.out with h2 := fun _ => rfl })
     | 3, _, hi, hib =>
      have d1 : b1 = true := ready_dep hi rfl 1 (by kernel_rfl)
      have hd1 := HT.h1 d1
      subst hd1
      have d2 : b2 = true := ready_dep hi rfl 2 (by kernel_rfl)
      have hd2 := HT.h2 d2
      subst hd2
      have HTb := Lib.hid HT.bel
      have HC := Lib.hid (settledQ_any (w := w') (c := c) (c2 := c2) (HAX.out.below HTb.out) HLV.out (HFX.out.below (HTb.out.mono HB2X.out)) (Nat.le_trans HB2X.out HTb.out.size) (by have := HN16.out; omega) HSF.out)
      clear HT
      refine wpOp_one rfl rfl (fun K hK => ?_)
      go_simp
      refine HC.out.mono ?_
      rintro e w2 ⟨A9, c9, rfl, hrd, hb⟩
      exact hK.out _ _ (.mk b0 b1 b2 true b4 b5 b6 b7 b8 b9 b10 b11 b12 b13 _ _ _ _ _ _ _ _ _ _ _ _ _ _ _ { HTH.out with bel := HTH.out.bel.trans (hb.mono HTH.out.bel.size), h3 := fun _ => ⟨A9, c9, rfl, PrR.of hrd⟩, h10 := fun h => (by obtain ⟨A', c', e, r⟩ := (HTH.out.h10 h); exact ⟨A', c', e, r.below hb⟩) })
     | 4, _, hi, hib =>
      have d0 : b0 = true := ready_dep hi rfl 0 (by kernel_rfl)
      have hd0 := HT.h0 d0
      subst hd0
      have d3 : b3 = true := ready_dep hi rfl 3 (by kernel_rfl)
      have HO3 := Lib.hid (HT.h3 d3)
      have HTb := Lib.hid HT.bel
      obtain ⟨A9, c9, e9, hr9⟩ := HO3.out
      subst e9
      have HC := Lib.hid (goodQ_set (w := w') (c := c) (c2 := c9) (HAX.out.below HTb.out) HLV.out HSF.out hr9)
      rw [HG1.out] at HC
      clear HT
      refine wpOp_one rfl rfl (fun K hK => ?_)
      go_simp
      refine HC.out.mono ?_
      rintro e w2 ⟨rfl, hb⟩
      exact hK.out _ _ (.mk b0 b1 b2 b3 true b5 b6 b7 b8 b9 b10 b11 b12 b13 _ _ _ _ _ _ _ _ _ _ _ _ _ _ _ { HTH.out with bel := HTH.out.bel.trans (hb.mono HTH.out.bel.size), h4 := fun _ => rfl, h3 := fun h => (by obtain ⟨A', c', e, r⟩ := (HTH.out.h3 h); exact ⟨A', c', e, r.below hb⟩), h10 := fun h => (by obtain ⟨A', c', e, r⟩ := (HTH.out.h10 h); exact ⟨A', c', e, r.below hb⟩) })
     | 5, _, hi, hib =>
      have d4 : b4 = true := ready_dep hi rfl 4 (by kernel_rfl)
      have hd4 := HT.h4 d4
      subst hd4
      clear HT
      refine wpOp_one rfl rfl (fun K hK => ?_)
      go_simp
      exact hK.out _ _ (.mk b0 b1 b2 b3 b4 true b6 b7 b8 b9 b10 b11 b12 b13 _ _ _ _ _ _ _ _ _ _ _ _ _ _ _ { HTH.out with h5 := fun _ => rfl })
     | 6, _, hi, hib =>
      have d5 : b5 = true := ready_dep hi rfl 5 (by kernel_rfl)
      have hd5 := HT.h5 d5
      subst hd5
      clear HT
      refine wpOp_one rfl rfl (fun K hK => ?_)
      go_simp
      exact hK.out _ _ (.mk b0 b1 b2 b3 b4 b5 true b7 b8 b9 b10 b11 b12 b13 _ _ _ _ _ _ _ _ _ _ _ _ _ _ _ { HTH.out with h6 := fun _ => rfl })
     | 7, _, hi, hib =>
      have e6 : b6 = true := ready_dep hi rfl 6 (by kernel_rfl)
      have he6 := HT.h6 e6
      subst he6
      have HTb := Lib.hid HT.bel
      obtain ⟨x0, _⟩ := row1f ((HTb.out.block w.heap.size (heapE_lt KX.out)).trans KX.out)
      clear HT
      refine wpOp_want rfl 6 false rfl rfl (fun K hK => ?_)
      go_simp
      exact hK.out _ _ (.mk b0 b1 b2 b3 b4 b5 b6 true b8 b9 b10 b11 b12 b13 _ _ _ _ _ _ _ _ _ _ _ _ _ _ _ { HTH.out with h7 := fun _ => rfl })
     | 8, _, hi, hib =>
      have e6 : b6 = true := ready_dep hi rfl 6 (by kernel_rfl)
      have he6 := HT.h6 e6
      subst he6
      have HTb := Lib.hid HT.bel
      obtain ⟨x0, _⟩ := row1f ((HTb.out.block w.heap.size (heapE_lt KX.out)).trans KX.out)
      clear HT
      refine wpOp_want rfl 6 false rfl rfl (fun K hK => ?_)
      go_simp
      exact hK.out _ _ (.mk b0 b1 b2 b3 b4 b5 b6 b7 true b9 b10 b11 b12 b13 _ _ _ _ _ _ _ _ _ _ _ _ _ _ _ { HTH.out with h8 := fun _ => rfl })
     | 9, _, hi, hib =>
      have e6 : b6 = true := ready_dep hi rfl 6 (by kernel_rfl)
      have he6 := HT.h6 e6
      subst he6
      clear HT
      refine wpOp_want rfl 6 false rfl rfl (fun K hK => ?_)
      go_simp
      exact hK.out _ _ (.mk b0 b1 b2 b3 b4 b5 b6 b7 b8 true b10 b11 b12 b13 _ _ _ _ _ _ _ _ _ _ _ _ _ _ _ { HTH.out with h9 := fun _ => rfl })
     | 10, _, hi, hib =>
      have e6 : b6 = true := ready_dep hi rfl 6 (by kernel_rfl)
      have he6 := HT.h6 e6
      subst he6
      have d8 : b8 = true := ready_dep hi rfl 8 (by kernel_rfl)
      have hd8 := HT.h8 d8
      subst hd8
      have d9 : b9 = true := ready_dep hi rfl 9 (by kernel_rfl)
      have hd9 := HT.h9 d9
      subst hd9
      have HTb := Lib.hid HT.bel
      have HC := Lib.hid (settledQ_any (w := w') (c := c) (c2 := c3) (HAX.out.below HTb.out) HLV.out (HTX.out.below (HTb.out.mono HB3X.out)) (Nat.le_trans HB3X.out HTb.out.size) (by have := HN16.out; omega) HST.out)
      clear HT
      refine wpOp_want rfl 6 false rfl rfl (fun K hK => ?_)
      go_simp
      refine HC.out.mono ?_
      rintro e w2 ⟨A9, c9, rfl, hrd, hb⟩
      exact hK.out _ _ (.mk b0 b1 b2 b3 b4 b5 b6 b7 b8 b9 true b11 b12 b13 _ _ _ _ _ _ _ _ _ _ _ _ _ _ _ { HTH.out with bel := HTH.out.bel.trans (hb.mono HTH.out.bel.size), h10 := fun _ => ⟨A9, c9, rfl, PrR.of hrd⟩, h3 := fun h => (by obtain ⟨A', c', e, r⟩ := (HTH.out.h3 h); exact ⟨A', c', e, r.below hb⟩) })
     | 11, _, hi, hib =>
      have e6 : b6 = true := ready_dep hi rfl 6 (by kernel_rfl)
      have he6 := HT.h6 e6
      subst he6
      have d7 : b7 = true := ready_dep hi rfl 7 (by kernel_rfl)
      have hd7 := HT.h7 d7
      subst hd7
      have d10 : b10 = true := ready_dep hi rfl 10 (by kernel_rfl)
      have HO10 := Lib.hid (HT.h10 d10)
      have HTb := Lib.hid HT.bel
      obtain ⟨A9, c9, e9, hr9⟩ := HO10.out
      subst e9
      have HC := Lib.hid (goodQ_set (w := w') (c := c) (c2 := c9) (HAX.out.below HTb.out) HLV.out HST.out hr9)
      rw [HG2.out] at HC
      clear HT
      refine wpOp_want rfl 6 false rfl rfl (fun K hK => ?_)
      go_simp
      refine HC.out.mono ?_
      rintro e w2 ⟨rfl, hb⟩
      exact hK.out _ _ (.mk b0 b1 b2 b3 b4 b5 b6 b7 b8 b9 b10 true b12 b13 _ _ _ _ _ _ _ _ _ _ _ _ _ _ _ { HTH.out with bel := HTH.out.bel.trans (hb.mono HTH.out.bel.size), h11 := fun _ => rfl, h3 := fun h => (by obtain ⟨A', c', e, r⟩ := (HTH.out.h3 h); exact ⟨A', c', e, r.below hb⟩), h10 := fun h => (by obtain ⟨A', c', e, r⟩ := (HTH.out.h10 h); exact ⟨A', c', e, r.below hb⟩) })
     | 12, _, hi, hib =>
      have e6 : b6 = true := ready_dep hi rfl 6 (by kernel_rfl)
      have he6 := HT.h6 e6
      subst he6
      have d11 : b11 = true := ready_dep hi rfl 11 (by kernel_rfl)
      have hd11 := HT.h11 d11
      subst hd11
      clear HT
      refine wpOp_want rfl 6 false rfl rfl (fun K hK => ?_)
      go_simp
      exact hK.out _ _ (.mk b0 b1 b2 b3 b4 b5 b6 b7 b8 b9 b10 b11 true b13 _ _ _ _ _ _ _ _ _ _ _ _ _ _ _ { HTH.out with h12 := fun _ => rfl })
     | 13, _, hi, hib =>
      have d6 : b6 = true := ready_dep hi rfl 6 (by kernel_rfl)
      have hd6 := HT.h6 d6
      subst hd6
      have d12 : b12 = true := ready_dep hi rfl 12 (by kernel_rfl)
      have hd12 := HT.h12 d12
      subst hd12
      clear HT
      refine wpOp_one rfl rfl (fun K hK => ?_)
      go_simp
      exact hK.out _ _ (.mk b0 b1 b2 b3 b4 b5 b6 b7 b8 b9 b10 b11 b12 true _ _ _ _ _ _ _ _ _ _ _ _ _ _ _ { HTH.out with h13 := fun _ => rfl })
    case fin =>
     rintro lq a' w' ⟨b0, b1, b2, b3, b4, b5, b6, b7, b8, b9, b10, b11, b12, b13, v19, v20, v21, v22, v23, v24, v25, v26, v27, v28, v29, v30, v31, v32, _, HT⟩ hr
     obtain rfl : b0 = true := by
      cases b0 with
      | true => rfl
      | false => exact (ready_in 0 rfl rfl (by simp [Region.binds]) hr).elim
     obtain rfl : b1 = true := by
      cases b1 with
      | true => rfl
      | false => exact (ready_in 1 rfl rfl (by simp [Region.binds]) hr).elim
     obtain rfl : b2 = true := by
      cases b2 with
      | true => rfl
      | false => exact (ready_in 2 rfl rfl (by simp [Region.binds]) hr).elim
     obtain rfl : b3 = true := by
      cases b3 with
      | true => rfl
      | false => exact (ready_in 3 rfl rfl (by simp [Region.binds]) hr).elim
     obtain rfl : b4 = true := by
      cases b4 with
      | true => rfl
      | false => exact (ready_in 4 rfl rfl (by simp [Region.binds]) hr).elim
     obtain rfl : b5 = true := by
      cases b5 with
      | true => rfl
      | false => exact (ready_in 5 rfl rfl (by simp [Region.binds]) hr).elim
     obtain rfl : b6 = true := by
      cases b6 with
      | true => rfl
      | false => exact (ready_in 6 rfl rfl (by simp [Region.binds]) hr).elim
     obtain rfl : b7 = true := by
      cases b7 with
      | true => rfl
      | false => exact (ready_in 7 rfl rfl (by simp [Region.binds]) hr).elim
     obtain rfl : b8 = true := by
      cases b8 with
      | true => rfl
      | false => exact (ready_in 8 rfl rfl (by simp [Region.binds]) hr).elim
     obtain rfl : b9 = true := by
      cases b9 with
      | true => rfl
      | false => exact (ready_in 9 rfl rfl (by simp [Region.binds]) hr).elim
     obtain rfl : b10 = true := by
      cases b10 with
      | true => rfl
      | false => exact (ready_in 10 rfl rfl (by simp [Region.binds]) hr).elim
     obtain rfl : b11 = true := by
      cases b11 with
      | true => rfl
      | false => exact (ready_in 11 rfl rfl (by simp [Region.binds]) hr).elim
     obtain rfl : b12 = true := by
      cases b12 with
      | true => rfl
      | false => exact (ready_in 12 rfl rfl (by simp [Region.binds]) hr).elim
     obtain rfl : b13 = true := by
      cases b13 with
      | true => rfl
      | false => exact (ready_in 13 rfl rfl (by simp [Region.binds]) hr).elim
     have k0 := HT.h0 rfl
     subst k0
     have k1 := HT.h1 rfl
     subst k1
     have k2 := HT.h2 rfl
     subst k2
     have k4 := HT.h4 rfl
     subst k4
     have k5 := HT.h5 rfl
     subst k5
     have k6 := HT.h6 rfl
     subst k6
     have k7 := HT.h7 rfl
     subst k7
     have k8 := HT.h8 rfl
     subst k8
     have k9 := HT.h9 rfl
     subst k9
     have k11 := HT.h11 rfl
     subst k11
     have k12 := HT.h12 rfl
     subst k12
     have k13 := HT.h13 rfl
     subst k13
     have HBZ := Lib.hid HT.bel
     clear HT hr
     have HBW : Hid (Below w.heap.size w w') := Lib.hid (HBX.out.trans (HBZ.out.mono HBX.out.size))
     obtain ⟨Y, hY⟩ : ∃ Y, Y = w' := ⟨_, rfl⟩
     subst hY
     cases g2 with
     | false =>
      have HX : Hid (CE = 70) := Lib.hid (by rw [HC2.out, if_pos (.inr HG2.out)])
      go_wp2_with fail
      exact bodyPost_ret (results_tmp rfl _ _ _) rfl ⟨by rw [HX.out]; rfl, HBW.out⟩
     | true =>
      rw [show (!true) = false from rfl]
      have HC3 : Hid (CE = if (List.range fs.length).all (riseB l fs ts) = false then 43 else 0) := Lib.hid (by rw [HC2.out, if_neg (by rw [HG1.out, HG2.out]; simp)])
      go_wp2_with fail
      go_loopw [7, 8] (fun v _ wr => ∃ k : Nat, k ≤ m3 ∧ v = .int .i64 (k : Int) ∧ Hid (Below X.heap.size X wr) ∧ Hid (∀ i, i < k → riseB l fs ts i = true)) (fun v _ _ => m3 - (intOf v).toNat)
      case atStart => exact ⟨0, Nat.zero_le _, rfl, HBZ, Lib.hid (fun i h => absurd h (by omega))⟩
      case round =>
       obtain ⟨wo, hwo⟩ : ∃ x, x = wr := ⟨_, rfl⟩
       subst hwo
       obtain ⟨k, hk, rfl, HBo, HRK⟩ := hrel
       have HWo : Hid (Below w.heap.size w wo) := Lib.hid (HBX.out.trans (HBo.out.mono HBX.out.size))
       by_cases hkn : k < m3
       ·have hd : decide ((k : Int) < (m3 : Int)) = true := by simp; omega
        have hki : (k : Int) < (m3 : Int) := by omega
        have hk0 : (0 : Int) ≤ (k : Int) := by omega
        have hadd : IntKind.i64.wrap ((k : Int) + 1) = ((k + 1 : Nat) : Int) := by rw [IntWalk.i64_in _ (by have := HN16.out; omega)]; omega
        obtain ⟨f1, f2⟩ := setB_iff.1 HSF.out
        obtain ⟨t1, t2⟩ := setB_iff.1 HST.out
        obtain ⟨a0, vf, ea, evf, hal, hvf⟩ := isR_nat (f2 k (by rw [HML.out]; exact hkn))
        obtain rfl : k = a0 := by omega
        obtain ⟨a0, vt, ea2, evt, _, hvt⟩ := isR_nat (t2 k (by rw [HM3.out]; exact hkn))
        obtain rfl : k = a0 := by omega
        have hA := HAX.out.below HBo.out
        obtain ⟨b1, o1, Aj, nj, cj, hA1, hb1, _, k1, _, hrj⟩ := sv_at hA.rd hkn
        subst hA1
        have hnj : (svAt l k).2.length = nj := hrj.1
        obtain ⟨b2, o2, _, _, _, hA2, hb2, _, _, _, _, kf, _⟩ := rl_at hrj (i := vf) (by omega)
        subst hA2
        obtain ⟨b3, o3, _, _, _, hA3, hb3, _, _, _, _, kt, _⟩ := rl_at hrj (i := vt) (by omega)
        injection hA3 with hA3
        injection hA3 with e1 e2 _
        subst e1 e2
        obtain ⟨bf, of', hAf, hbf, cf⟩ := (HFX.out.below (HBo.out.mono HB2X.out)).at_ hkn
        subst hAf
        obtain ⟨bt', ot, hAt, hbt, ct⟩ := (HTX.out.below (HBo.out.mono HB3X.out)).at_ hkn
        subst hAt
        rw [evf] at cf
        rw [evt] at ct
        have e1 : (rlAt (svAt l k).2 vf).2.1 = levAt l k vf := rfl
        have e2 : (rlAt (svAt l k).2 vt).2.1 = levAt l k vt := rfl
        have l1 := levAt_ok HLV.out hal hvf
        have l2 := levAt_ok HLV.out hal hvt
        rw [e1] at kf
        rw [e2] at kt
        obtain ⟨L1, hL1⟩ : ∃ q, levAt l k vf = q := ⟨_, rfl⟩
        obtain ⟨L2, hL2⟩ : ∃ q, levAt l k vt = q := ⟨_, rfl⟩
        have hRS : rise l fs ts k = L2 - L1 := by unfold rise; rw [evf, evt, Int.toNat_natCast, Int.toNat_natCast, hL1, hL2]
        rw [hL1] at kf l1
        rw [hL2] at kt l2
        have hvfi : (vf : Int) < (nj : Int) := by omega
        have hvti : (vt : Int) < (nj : Int) := by omega
        have hvf0 : (0 : Int) ≤ (vf : Int) := by omega
        have hvt0 : (0 : Int) ≤ (vt : Int) := by omega
        obtain ⟨x0, _⟩ := row1f ((HBo.out.block w.heap.size (heapE_lt KX.out)).trans KX.out)
        clear hA hrj f2 t2 ea ea2 evf evt hL1 hL2 e1 e2
        obtain ⟨R, HR⟩ : ∃ q, Hid (L2 - L1 = q) := ⟨_, Lib.hid rfl⟩
        have hsub : IntKind.i64.wrap (L2 - L1) = R := by rw [IntWalk.i64_in _ (by omega)]; exact HR.out
        have HRB : Hid (riseB l fs ts k = (decide (0 ≤ R) && decide (R ≤ 1))) := Lib.hid (by unfold riseB; rw [hRS, HR.out])
        clear hRS l1 l2
        by_cases h0 : R = 0 ∨ R = 1
        ·have HQ : Hid (riseB l fs ts k = true) := Lib.hid (by rw [HRB.out, decide_eq_true (by omega), decide_eq_true (by omega)]; rfl)
         rcases h0 with h0 | h0
         ·subst h0
          go_wp2_with fail
          go_quiet (fail)
          go_wp2_with fail
          go_roundw
          case rel => exact ⟨k + 1, by omega, by go_num, Lib.hid (by first | exact HBo.out | exact Below.drewN' HBo.out _), Lib.hid (fun i hi => by
           by_cases e : i = k
           ·subst e; exact HQ.out
           ·exact HRK.out i (by omega))⟩
          case measure => simp [intOf]; omega
         ·subst h0
          go_wp2_with fail
          go_quiet (fail)
          go_wp2_with fail
          go_roundw
          case rel => exact ⟨k + 1, by omega, by go_num, Lib.hid (by first | exact HBo.out | exact Below.drewN' HBo.out _), Lib.hid (fun i hi => by
           by_cases e : i = k
           ·subst e; exact HQ.out
           ·exact HRK.out i (by omega))⟩
          case measure => simp [intOf]; omega
        ·have n0 : (R != 0) = true := by rw [bne_iff_ne]; omega
         have n1 : (R != 1) = true := by rw [bne_iff_ne]; omega
         have HQ : Hid (riseB l fs ts k = false) := Lib.hid (by
          rw [HRB.out]
          by_cases h2 : 0 ≤ R
          ·rw [decide_eq_false (show ¬ R ≤ 1 by omega), Bool.and_false]
          ·rw [decide_eq_false h2]; rfl)
         have HX : Hid (CE = 43) := Lib.hid (by rw [HC3.out, if_pos (rise_no (i := k) (by rw [HML.out]; exact hkn) HQ.out)])
         clear h0
         go_wp2_with fail
         go_quiet (fail)
         go_wp2_with fail
         exact bodyPost_ret (results_tmp rfl _ _ _) rfl ⟨by rw [HX.out]; rfl, by first | exact HWo.out | exact Below.drewN' HWo.out _⟩
       ·have hd : decide ((k : Int) < (m3 : Int)) = false := by simp; omega
        have HX : Hid (CE = 0) := Lib.hid (by rw [HC3.out, if_neg]; rw [rise_all (fun i hi => HRK.out i (by rw [HML.out] at hi; omega))]; decide)
        go_wp2_with fail
        exact bodyPost_ret (results_tmp rfl _ _ _) rfl ⟨by rw [HX.out]; rfl, HWo.out⟩
end Go.Proofs.YtminihiecloglaaGreat
