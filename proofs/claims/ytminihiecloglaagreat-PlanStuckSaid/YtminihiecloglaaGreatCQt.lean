/-
 CONTRACTS of the document: a place's number, Settled.
-/
import Derived.Test.YtminihiecloglaaGreatCPv
import Derived.Test.YtminihiecloglaaGreatCOw
import Derived.Test.YtminihiecloglaaGreatInv
set_option linter.unusedVariables false
set_option linter.unusedSimpArgs false
namespace Go.Proofs.YtminihiecloglaaGreat
open Go.RowKit
open SemP FlP GaP DiP
set_option maxRecDepth 10000
def prI : ItT (Int × Int) := FlI (fun p => [.int .i64 p.1, .int .i64 p.2])
theorem pr_turns : Turns prI := FlI.turns
theorem infoP4 : (Tryz.prog.info? 66).map (fun i => (i.zero, i.size, i.bytes)) = some (some (.agg #[.int .i64 0, .int .i64 0]), 2, 16) := by kernel_rfl
structure Q5St (wo : World) (fin : Value → World → Prop) (y : Int × Int) (V13 V14 V15 V16 V17 V18 V19 V20 V21 V22 V23 V24 V25 V26 V27 V28 V29 V30 V31 V32 : Value) (b0 b1 b2 b3 b4 b5 b6 b7 b8 b9 b10 b11 b12 b13 b14 b15 b16 b17 b18 b19 b20 b21 b22 : Bool) (v5 v13 v14 v15 v16 v17 v18 v19 v20 v21 v22 v23 v24 v25 v26 v27 v28 v29 v30 v31 v32 v33 v34 : Value) (w' : World) : Prop where
 q21 : b21 = true → b0 = true ∧ b1 = true ∧ b2 = true ∧ b3 = true ∧ b4 = true ∧ b5 = true ∧ b6 = true ∧ b7 = true ∧ b8 = true ∧ b9 = true ∧ b10 = true ∧ b11 = true ∧ b12 = true ∧ b13 = true ∧ b14 = true ∧ b15 = true ∧ b16 = true ∧ b17 = true ∧ b18 = true ∧ b19 = true ∧ b20 = true
 q22 : b22 = true → b21 = true
 bel : b21 = false → Below wo.heap.size wo w'
 h0 : b0 = true → v13 = V13
 h1 : b1 = true → v14 = V14
 h2 : b2 = true → v15 = V15
 h3 : b3 = true → v16 = V16
 h4 : b4 = true → v17 = V17
 h5 : b5 = true → v18 = V18
 h6 : b6 = true → v19 = V19
 h7 : b7 = true → v20 = V20
 h8 : b8 = true → v21 = V21
 h9 : b9 = true → v22 = V22
 h10 : b10 = true → v23 = V23
 h11 : b11 = true → v24 = V24
 h12 : b12 = true → v25 = V25
 h13 : b13 = true → v26 = V26
 h14 : b14 = true → v27 = V27
 h15 : b15 = true → v28 = V28
 h16 : b16 = true → v29 = V29
 h17 : b17 = true → v30 = V30
 h18 : b18 = true → v31 = V31
 h19 : b19 = true → v32 = V32
 h20 : b20 = true → b21 = false → ∃ g, v33 = .slice (some ⟨g, 0, none⟩) 1 1 ∧ wo.heap.size ≤ g ∧ w'.heap[g]? = some (.cells #[.int .i64 y.1, .int .i64 y.2] 66 (0, 0))
 h21 : b21 = true → fin v34 w'
 h22 : b22 = true → v5 = v34
 k5 : b22 = false → v5 = V13
 o3_1 : b3 = true → b1 = true
 o3_2 : b3 = true → b2 = true
 o4_3 : b4 = true → b3 = true
 o6_5 : b6 = true → b5 = true
 o8_6 : b8 = true → b6 = true
 o8_7 : b8 = true → b7 = true
 o9_8 : b9 = true → b8 = true
 o10_9 : b10 = true → b9 = true
 o13_11 : b13 = true → b11 = true
 o13_12 : b13 = true → b12 = true
 o14_13 : b14 = true → b13 = true
 o15_10 : b15 = true → b10 = true
 o15_14 : b15 = true → b14 = true
 o16_15 : b16 = true → b15 = true
 o17_16 : b17 = true → b16 = true
 o18_17 : b18 = true → b17 = true
 o19_4 : b19 = true → b4 = true
 o19_18 : b19 = true → b18 = true
 o20_19 : b20 = true → b19 = true
inductive Q5J (wo : World) (fin : Value → World → Prop) (y : Int × Int) (V13 V14 V15 V16 V17 V18 V19 V20 V21 V22 V23 V24 V25 V26 V27 V28 V29 V30 V31 V32 p0 p1 p2 p3 p4 p6 p7 p8 p9 p10 p11 p12 p35 : Value) : Array Bool → Act → World → Prop where
 | mk (b0 b1 b2 b3 b4 b5 b6 b7 b8 b9 b10 b11 b12 b13 b14 b15 b16 b17 b18 b19 b20 b21 b22 : Bool) (v5 v13 v14 v15 v16 v17 v18 v19 v20 v21 v22 v23 v24 v25 v26 v27 v28 v29 v30 v31 v32 v33 v34 : Value) (w' : World) : Q5St wo fin y V13 V14 V15 V16 V17 V18 V19 V20 V21 V22 V23 V24 V25 V26 V27 V28 V29 V30 V31 V32 b0 b1 b2 b3 b4 b5 b6 b7 b8 b9 b10 b11 b12 b13 b14 b15 b16 b17 b18 b19 b20 b21 b22 v5 v13 v14 v15 v16 v17 v18 v19 v20 v21 v22 v23 v24 v25 v26 v27 v28 v29 v30 v31 v32 v33 v34 w' → Q5J wo fin y V13 V14 V15 V16 V17 V18 V19 V20 V21 V22 V23 V24 V25 V26 V27 V28 V29 V30 V31 V32 p0 p1 p2 p3 p4 p6 p7 p8 p9 p10 p11 p12 p35 #[b0, b1, b2, b3, b4, b5, b6, b7, b8, b9, b10, b11, b12, b13, b14, b15, b16, b17, b18, b19, b20, b21, b22] { tmps := List.toArray (p0 :: p1 :: p2 :: p3 :: p4 :: v5 :: p6 :: p7 :: p8 :: p9 :: p10 :: p11 :: p12 :: v13 :: v14 :: v15 :: v16 :: v17 :: v18 :: v19 :: v20 :: v21 :: v22 :: v23 :: v24 :: v25 :: v26 :: v27 :: v28 :: v29 :: v30 :: v31 :: v32 :: v33 :: v34 :: p35 :: []), defers := [] } w'
set_option maxHeartbeats 16000000 in
theorem settledQ_any {w : World} {B B' n c m c2 : Nat} {A A2 : Option Addr} {l : List Sv} {vs : List Int} (h : CatAt w B A n c l) (hlv : LevOK l) (hv : Rd w B' A2 m vs) (hB' : B' ≤ w.heap.size) (hm : m ≤ 20) (hset : setB l vs = true) :
  Calls Tryz.prog 57 #[.agg #[.slice A n c], .slice A2 m c2] w fun e w' => ∃ A' c', e = .returned (.slice A' m c') ∧ RdJ 2 prI w' (fun b => b < w.heap.size) A' m (setL l vs) ∧ Below w.heap.size w w' := by
 have HN : Hid (l.length = n) := Lib.hid h.rd.1
 have HM : Hid (vs.length = m) := Lib.hid hv.len
 have hle := h.le
 obtain ⟨W, HW⟩ : ∃ W, Hid (W = w.alloc (.cells #[.slice A n c] 29)) := ⟨_, Lib.hid rfl⟩
 have hbl : Below w.heap.size w W := by rw [HW.out]; exact (Below.refl _ w).alloc (Nat.le_refl _) _
 have H0 : Hid (W.heap[w.heap.size]? = some (.cells #[.slice A n c] 29 (0, 0))) := Lib.hid (by rw [HW.out]; exact heap_new w _)
 have HZ : Hid (w.heap.size < W.heap.size) := Lib.hid (heapE_lt H0.out)
 have HA0 := Lib.hid (h.below hbl)
 have HV0 := Lib.hid (Rd.below hv (hbl.mono hB'))
 have HBB : Hid (B' ≤ W.heap.size) := Lib.hid (Nat.le_trans hB' hbl.size)
 have HBL := Lib.hid hbl
 have HLV := Lib.hid hlv
 have HOK := Lib.hid (setB_iff.1 hset)
 have HMN : Hid (m = n) := Lib.hid (by rw [← HM.out, ← HN.out]; exact (setB_iff.1 hset).1)
 clear h hbl hv hlv hset
 go_enter Tryz.func57, Tryz.ntmps57
 go_upto_region 1 with fail
 change Code.wp _ _ _ _ (w.alloc (.cells #[.slice A n c] 29))
 rw [← HW.out]
 go_wp2_with fail
 go_loopw [5, 6] (fun s v wr => ∃ k : Nat, k ≤ m ∧ v = .int .i64 (k : Int) ∧ Hid (Below w.heap.size w wr ∧ Below W.heap.size W wr) ∧ Hid (OwnJ 66 2 prI wr W.heap.size s (setK l vs k))) (fun _ v _ => m - (intOf v).toNat)
 case atStart => exact ⟨0, Nat.zero_le _, rfl, Lib.hid ⟨HBL.out, Below.refl _ _⟩, Lib.hid (OwnJ.nil_ _ _ _ _ _)⟩
 case round =>
  obtain ⟨wo, hwo⟩ : ∃ x, x = wr := ⟨_, rfl⟩
  subst hwo
  obtain ⟨k, hk, rfl, HB, HO⟩ := hrel
  have HKL : Hid ((setK l vs k).length = k) := Lib.hid (by simp [setK])
  obtain ⟨AS, cs, hsh⟩ := HO.out.shape
  subst hsh
  by_cases hkm : k < m
  ·have hd : decide ((k : Int) < (m : Int)) = true := by simp; omega
   have hki : (k : Int) < (m : Int) := by omega
   have hkn : (k : Int) < (n : Int) := by have := HMN.out; omega
   have hk0 : (0 : Int) ≤ (k : Int) := by omega
   have hadd : IntKind.i64.wrap ((k : Int) + 1) = ((k + 1 : Nat) : Int) := by rw [IntWalk.i64_in _ (by omega)]; omega
   have HA := Lib.hid (HA0.out.below HB.out.2)
   have K0 : Hid (wo.heap[w.heap.size]? = _) := Lib.hid ((HB.out.2.block w.heap.size (heapE_lt H0.out)).trans H0.out)
   obtain ⟨x0, _⟩ := row1f K0.out
   obtain ⟨a, b, ha, hvb, haa, hbb⟩ := isR_nat (HOK.out.2 k (by rw [HM.out]; exact hkm))
   obtain rfl : a = k := by omega
   obtain ⟨ba0, o0, rfl, hb0, p0⟩ := (Rd.below HV0.out (HB.out.2.mono HBB.out)).at_ hkm
   rw [hvb] at p0
   obtain ⟨ba1, o1, Aj, nj, cj, hA, hb1, _, k1, _, hrr⟩ := sv_at HA.out.rd (show a < n by have := HMN.out; omega)
   subst hA
   have hbn : b < nj := by rw [← hrr.1]; exact hbb
   have hbI : (b : Int) < (nj : Int) := by omega
   have hbI0 : (0 : Int) ≤ (b : Int) := by omega
   obtain ⟨ba2, o2, A3, n3, c3, rfl, hb2, _, _, _, _, q4, _, _, _⟩ := rl_at hrr hbn
   have hb0w : ba0 < wo.heap.size := by have := HBB.out; have := HB.out.2.size; omega
   have hb1w : ba1 < wo.heap.size := by have := HA.out.le; omega
   have hb2w : ba2 < wo.heap.size := by have := HA.out.le; omega
   have HLL := Lib.hid (levAt_ok HLV.out haa hbb)
   obtain ⟨lv, HLVL⟩ : ∃ lv, Hid (levAt l a b = lv) := ⟨_, Lib.hid rfl⟩
   have q4' : wo.cell? ⟨ba2, o2 + b * 6 + 4, none⟩ = some (.int .i64 lv) := by rw [← HLVL.out]; exact q4
   have HLB : Hid (0 ≤ lv ∧ lv ≤ 1000) := Lib.hid (by rw [← HLVL.out]; exact HLL.out)
   have hm1 : IntKind.i64.wrap (2 * lv) = 2 * lv := IntWalk.i64_in _ (by have := HLB.out; omega)
   have HSP : Hid (setP l vs a = ((b : Int), 2 * lv)) := Lib.hid (by
    unfold setP
    rw [hvb]
    show ((b : Int), 2 * levAt l a b) = _
    rw [HLVL.out])
   clear hrr q4 ha haa hbb hvb
   go_wp2_with fail
   have hzw : w.heap.size < wo.heap.size := heapE_lt K0.out
   refine wp_region_inv (by kernel_rfl) (I := Q5J wo (fun v w' => ∃ g' c', v = .slice (some ⟨g', 0, none⟩) ((setK l vs a).length + 1) c' ∧ OwnJ 66 2 prI w' W.heap.size (.slice (some ⟨g', 0, none⟩) ((setK l vs a).length + 1) c') (setK l vs a ++ [((b : Int), 2 * lv)]) ∧ Below w.heap.size w w' ∧ Below W.heap.size W w') ((b : Int), 2 * lv) (.slice AS (setK l vs a).length cs) (.slice (some ⟨ba0, o0, none⟩) m c2) (.int .i64 (a : Int)) (.pointer (some ⟨ba0, o0 + a, none⟩)) (.int .i64 (b : Int)) (.pointer (some ⟨w.heap.size, 0, none⟩)) (.slice (some ⟨ba1, o1, none⟩) n c) (.int .i64 (a : Int)) (.pointer (some ⟨ba1, o1 + a * 2, none⟩)) (.pointer (some ⟨ba1, o1 + a * 2 + 1, none⟩)) (.slice (some ⟨ba2, o2, none⟩) nj cj) (.slice (some ⟨ba0, o0, none⟩) m c2) (.int .i64 (a : Int)) (.pointer (some ⟨ba0, o0 + a, none⟩)) (.int .i64 (b : Int)) (.pointer (some ⟨ba2, o2 + b * 6, none⟩)) (.pointer (some ⟨ba2, o2 + b * 6 + 4, none⟩)) (.int .i64 lv) (.int .i64 (2 * lv)) (.agg #[.int .i64 (b : Int), .int .i64 (2 * lv)]) _ _ _ _ _ _ _ _ _ _ _ _ _) (.mk false false false false false false false false false false false false false false false false false false false false false false false _ _ _ _ _ _ _ _ _ _ _ _ _ _ _ _ _ _ _ _ _ _ _ _ ⟨nofun, nofun, fun _ => (Below.refl _ wo).drew, nofun, nofun, nofun, nofun, nofun, nofun, nofun, nofun, nofun, nofun, nofun, nofun, nofun, nofun, nofun, nofun, nofun, nofun, nofun, nofun, nofun, nofun, nofun, fun _ => rfl, nofun, nofun, nofun, nofun, nofun, nofun, nofun, nofun, nofun, nofun, nofun, nofun, nofun, nofun, nofun, nofun, nofun, nofun, nofun⟩) ?step ?fin
   case step =>
    rintro lq a' w' ix ⟨b0, b1, b2, b3, b4, b5, b6, b7, b8, b9, b10, b11, b12, b13, b14, b15, b16, b17, b18, b19, b20, b21, b22, v5, v13, v14, v15, v16, v17, v18, v19, v20, v21, v22, v23, v24, v25, v26, v27, v28, v29, v30, v31, v32, v33, v34, _, HT⟩ hi
    obtain ⟨hi_, hib⟩ := ready_lt hi
    match ix, hi_, hi, hib with
    | 0, _, hi, hib =>
     obtain rfl : b0 = false := by simpa using hib
     obtain rfl : b21 = false := by
      cases hb21 : b21 with
      | false => rfl
      | true => have h := (HT.q21 hb21).1; cases h
     obtain rfl : b22 = false := by
      cases hb22 : b22 with
      | false => rfl
      | true => have h := HT.q22 hb22; cases h
     have e5 := HT.k5 rfl
     subst e5
     have HTH := Lib.hid HT
     clear HT
     refine wpOp_one rfl rfl (fun K hK => ?_)
     go_simp
     exact hK.out _ _ (.mk true b1 b2 b3 b4 b5 b6 b7 b8 b9 b10 b11 b12 b13 b14 b15 b16 b17 b18 b19 b20 false false _ _ _ _ _ _ _ _ _ _ _ _ _ _ _ _ _ _ _ _ _ _ _ _ { HTH.out with q21 := nofun, q22 := nofun, h0 := fun _ => rfl, h21 := nofun, h22 := nofun })
    | 1, _, hi, hib =>
     obtain rfl : b1 = false := by simpa using hib
     obtain rfl : b21 = false := by
      cases hb21 : b21 with
      | false => rfl
      | true => have h := (HT.q21 hb21).2.1; cases h
     obtain rfl : b22 = false := by
      cases hb22 : b22 with
      | false => rfl
      | true => have h := HT.q22 hb22; cases h
     have HTH := Lib.hid HT
     clear HT
     refine wpOp_one rfl rfl (fun K hK => ?_)
     go_simp
     exact hK.out _ _ (.mk b0 true b2 b3 b4 b5 b6 b7 b8 b9 b10 b11 b12 b13 b14 b15 b16 b17 b18 b19 b20 false false _ _ _ _ _ _ _ _ _ _ _ _ _ _ _ _ _ _ _ _ _ _ _ _ { HTH.out with q21 := nofun, q22 := nofun, h1 := fun _ => rfl, h21 := nofun, h22 := nofun, o3_1 := fun _ => rfl })
    | 2, _, hi, hib =>
     obtain rfl : b2 = false := by simpa using hib
     obtain rfl : b21 = false := by
      cases hb21 : b21 with
      | false => rfl
      | true => have h := (HT.q21 hb21).2.2.1; cases h
     obtain rfl : b22 = false := by
      cases hb22 : b22 with
      | false => rfl
      | true => have h := HT.q22 hb22; cases h
     have HTH := Lib.hid HT
     clear HT
     refine wpOp_one rfl rfl (fun K hK => ?_)
     go_simp
     exact hK.out _ _ (.mk b0 b1 true b3 b4 b5 b6 b7 b8 b9 b10 b11 b12 b13 b14 b15 b16 b17 b18 b19 b20 false false _ _ _ _ _ _ _ _ _ _ _ _ _ _ _ _ _ _ _ _ _ _ _ _ { HTH.out with q21 := nofun, q22 := nofun, h2 := fun _ => rfl, h21 := nofun, h22 := nofun, o3_2 := fun _ => rfl })
    | 3, _, hi, hib =>
     obtain rfl : b3 = false := by simpa using hib
     obtain rfl : b21 = false := by
      cases hb21 : b21 with
      | false => rfl
      | true => have h := (HT.q21 hb21).2.2.2.1; cases h
     obtain rfl : b22 = false := by
      cases hb22 : b22 with
      | false => rfl
      | true => have h := HT.q22 hb22; cases h
     have d1 : b1 = true := ready_dep hi rfl 1 (by kernel_rfl)
     have d2 : b2 = true := ready_dep hi rfl 2 (by kernel_rfl)
     have e1 := HT.h1 d1
     subst e1
     have e2 := HT.h2 d2
     subst e2
     have HTH := Lib.hid HT
     clear HT
     refine wpOp_one rfl rfl (fun K hK => ?_)
     go_simp
     exact hK.out _ _ (.mk b0 b1 b2 true b4 b5 b6 b7 b8 b9 b10 b11 b12 b13 b14 b15 b16 b17 b18 b19 b20 false false _ _ _ _ _ _ _ _ _ _ _ _ _ _ _ _ _ _ _ _ _ _ _ _ { HTH.out with q21 := nofun, q22 := nofun, h3 := fun _ => rfl, h21 := nofun, h22 := nofun, o3_1 := fun _ => d1, o3_2 := fun _ => d2, o4_3 := fun _ => rfl })
    | 4, _, hi, hib =>
     obtain rfl : b4 = false := by simpa using hib
     obtain rfl : b21 = false := by
      cases hb21 : b21 with
      | false => rfl
      | true => have h := (HT.q21 hb21).2.2.2.2.1; cases h
     obtain rfl : b22 = false := by
      cases hb22 : b22 with
      | false => rfl
      | true => have h := HT.q22 hb22; cases h
     have d3 : b3 = true := ready_dep hi rfl 3 (by kernel_rfl)
     have e3 := HT.h3 d3
     subst e3
     have z0 := ((HT.bel rfl).cell (p := ⟨ba0, o0 + a, none⟩) hb0w).trans p0
     have HTH := Lib.hid HT
     clear HT
     refine wpOp_one rfl rfl (fun K hK => ?_)
     go_simp
     exact hK.out _ _ (.mk b0 b1 b2 b3 true b5 b6 b7 b8 b9 b10 b11 b12 b13 b14 b15 b16 b17 b18 b19 b20 false false _ _ _ _ _ _ _ _ _ _ _ _ _ _ _ _ _ _ _ _ _ _ _ _ { HTH.out with q21 := nofun, q22 := nofun, h4 := fun _ => rfl, h21 := nofun, h22 := nofun, o4_3 := fun _ => d3, o19_4 := fun _ => rfl })
    | 5, _, hi, hib =>
     obtain rfl : b5 = false := by simpa using hib
     obtain rfl : b21 = false := by
      cases hb21 : b21 with
      | false => rfl
      | true => have h := (HT.q21 hb21).2.2.2.2.2.1; cases h
     obtain rfl : b22 = false := by
      cases hb22 : b22 with
      | false => rfl
      | true => have h := HT.q22 hb22; cases h
     have HTH := Lib.hid HT
     clear HT
     refine wpOp_one rfl rfl (fun K hK => ?_)
     go_simp
     exact hK.out _ _ (.mk b0 b1 b2 b3 b4 true b6 b7 b8 b9 b10 b11 b12 b13 b14 b15 b16 b17 b18 b19 b20 false false _ _ _ _ _ _ _ _ _ _ _ _ _ _ _ _ _ _ _ _ _ _ _ _ { HTH.out with q21 := nofun, q22 := nofun, h5 := fun _ => rfl, h21 := nofun, h22 := nofun, o6_5 := fun _ => rfl })
    | 6, _, hi, hib =>
     obtain rfl : b6 = false := by simpa using hib
     obtain rfl : b21 = false := by
      cases hb21 : b21 with
      | false => rfl
      | true => have h := (HT.q21 hb21).2.2.2.2.2.2.1; cases h
     obtain rfl : b22 = false := by
      cases hb22 : b22 with
      | false => rfl
      | true => have h := HT.q22 hb22; cases h
     have d5 : b5 = true := ready_dep hi rfl 5 (by kernel_rfl)
     have e5 := HT.h5 d5
     subst e5
     have z0 := ((HT.bel rfl).cell (p := ⟨w.heap.size, 0, none⟩) hzw).trans x0
     have HTH := Lib.hid HT
     clear HT
     refine wpOp_one rfl rfl (fun K hK => ?_)
     go_simp
     exact hK.out _ _ (.mk b0 b1 b2 b3 b4 b5 true b7 b8 b9 b10 b11 b12 b13 b14 b15 b16 b17 b18 b19 b20 false false _ _ _ _ _ _ _ _ _ _ _ _ _ _ _ _ _ _ _ _ _ _ _ _ { HTH.out with q21 := nofun, q22 := nofun, h6 := fun _ => rfl, h21 := nofun, h22 := nofun, o6_5 := fun _ => d5, o8_6 := fun _ => rfl })
    | 7, _, hi, hib =>
     obtain rfl : b7 = false := by simpa using hib
     obtain rfl : b21 = false := by
      cases hb21 : b21 with
      | false => rfl
      | true => have h := (HT.q21 hb21).2.2.2.2.2.2.2.1; cases h
     obtain rfl : b22 = false := by
      cases hb22 : b22 with
      | false => rfl
      | true => have h := HT.q22 hb22; cases h
     have HTH := Lib.hid HT
     clear HT
     refine wpOp_one rfl rfl (fun K hK => ?_)
     go_simp
     exact hK.out _ _ (.mk b0 b1 b2 b3 b4 b5 b6 true b8 b9 b10 b11 b12 b13 b14 b15 b16 b17 b18 b19 b20 false false _ _ _ _ _ _ _ _ _ _ _ _ _ _ _ _ _ _ _ _ _ _ _ _ { HTH.out with q21 := nofun, q22 := nofun, h7 := fun _ => rfl, h21 := nofun, h22 := nofun, o8_7 := fun _ => rfl })
    | 8, _, hi, hib =>
     obtain rfl : b8 = false := by simpa using hib
     obtain rfl : b21 = false := by
      cases hb21 : b21 with
      | false => rfl
      | true => have h := (HT.q21 hb21).2.2.2.2.2.2.2.2.1; cases h
     obtain rfl : b22 = false := by
      cases hb22 : b22 with
      | false => rfl
      | true => have h := HT.q22 hb22; cases h
     have d6 : b6 = true := ready_dep hi rfl 6 (by kernel_rfl)
     have d7 : b7 = true := ready_dep hi rfl 7 (by kernel_rfl)
     have e6 := HT.h6 d6
     subst e6
     have e7 := HT.h7 d7
     subst e7
     have HTH := Lib.hid HT
     clear HT
     refine wpOp_one rfl rfl (fun K hK => ?_)
     go_simp
     exact hK.out _ _ (.mk b0 b1 b2 b3 b4 b5 b6 b7 true b9 b10 b11 b12 b13 b14 b15 b16 b17 b18 b19 b20 false false _ _ _ _ _ _ _ _ _ _ _ _ _ _ _ _ _ _ _ _ _ _ _ _ { HTH.out with q21 := nofun, q22 := nofun, h8 := fun _ => rfl, h21 := nofun, h22 := nofun, o8_6 := fun _ => d6, o8_7 := fun _ => d7, o9_8 := fun _ => rfl })
    | 9, _, hi, hib =>
     obtain rfl : b9 = false := by simpa using hib
     obtain rfl : b21 = false := by
      cases hb21 : b21 with
      | false => rfl
      | true => have h := (HT.q21 hb21).2.2.2.2.2.2.2.2.2.1; cases h
     obtain rfl : b22 = false := by
      cases hb22 : b22 with
      | false => rfl
      | true => have h := HT.q22 hb22; cases h
     have d8 : b8 = true := ready_dep hi rfl 8 (by kernel_rfl)
     have e8 := HT.h8 d8
     subst e8
     have HTH := Lib.hid HT
     clear HT
     refine wpOp_one rfl rfl (fun K hK => ?_)
     go_simp
     exact hK.out _ _ (.mk b0 b1 b2 b3 b4 b5 b6 b7 b8 true b10 b11 b12 b13 b14 b15 b16 b17 b18 b19 b20 false false _ _ _ _ _ _ _ _ _ _ _ _ _ _ _ _ _ _ _ _ _ _ _ _ { HTH.out with q21 := nofun, q22 := nofun, h9 := fun _ => rfl, h21 := nofun, h22 := nofun, o9_8 := fun _ => d8, o10_9 := fun _ => rfl })
    | 10, _, hi, hib =>
     obtain rfl : b10 = false := by simpa using hib
     obtain rfl : b21 = false := by
      cases hb21 : b21 with
      | false => rfl
      | true => have h := (HT.q21 hb21).2.2.2.2.2.2.2.2.2.2.1; cases h
     obtain rfl : b22 = false := by
      cases hb22 : b22 with
      | false => rfl
      | true => have h := HT.q22 hb22; cases h
     have d9 : b9 = true := ready_dep hi rfl 9 (by kernel_rfl)
     have e9 := HT.h9 d9
     subst e9
     have z0 := ((HT.bel rfl).cell (p := ⟨ba1, o1 + a * 2 + 1, none⟩) hb1w).trans k1
     have HTH := Lib.hid HT
     clear HT
     refine wpOp_one rfl rfl (fun K hK => ?_)
     go_simp
     exact hK.out _ _ (.mk b0 b1 b2 b3 b4 b5 b6 b7 b8 b9 true b11 b12 b13 b14 b15 b16 b17 b18 b19 b20 false false _ _ _ _ _ _ _ _ _ _ _ _ _ _ _ _ _ _ _ _ _ _ _ _ { HTH.out with q21 := nofun, q22 := nofun, h10 := fun _ => rfl, h21 := nofun, h22 := nofun, o10_9 := fun _ => d9, o15_10 := fun _ => rfl })
    | 11, _, hi, hib =>
     obtain rfl : b11 = false := by simpa using hib
     obtain rfl : b21 = false := by
      cases hb21 : b21 with
      | false => rfl
      | true => have h := (HT.q21 hb21).2.2.2.2.2.2.2.2.2.2.2.1; cases h
     obtain rfl : b22 = false := by
      cases hb22 : b22 with
      | false => rfl
      | true => have h := HT.q22 hb22; cases h
     have HTH := Lib.hid HT
     clear HT
     refine wpOp_one rfl rfl (fun K hK => ?_)
     go_simp
     exact hK.out _ _ (.mk b0 b1 b2 b3 b4 b5 b6 b7 b8 b9 b10 true b12 b13 b14 b15 b16 b17 b18 b19 b20 false false _ _ _ _ _ _ _ _ _ _ _ _ _ _ _ _ _ _ _ _ _ _ _ _ { HTH.out with q21 := nofun, q22 := nofun, h11 := fun _ => rfl, h21 := nofun, h22 := nofun, o13_11 := fun _ => rfl })
    | 12, _, hi, hib =>
     obtain rfl : b12 = false := by simpa using hib
     obtain rfl : b21 = false := by
      cases hb21 : b21 with
      | false => rfl
      | true => have h := (HT.q21 hb21).2.2.2.2.2.2.2.2.2.2.2.2.1; cases h
     obtain rfl : b22 = false := by
      cases hb22 : b22 with
      | false => rfl
      | true => have h := HT.q22 hb22; cases h
     have HTH := Lib.hid HT
     clear HT
     refine wpOp_one rfl rfl (fun K hK => ?_)
     go_simp
     exact hK.out _ _ (.mk b0 b1 b2 b3 b4 b5 b6 b7 b8 b9 b10 b11 true b13 b14 b15 b16 b17 b18 b19 b20 false false _ _ _ _ _ _ _ _ _ _ _ _ _ _ _ _ _ _ _ _ _ _ _ _ { HTH.out with q21 := nofun, q22 := nofun, h12 := fun _ => rfl, h21 := nofun, h22 := nofun, o13_12 := fun _ => rfl })
    | 13, _, hi, hib =>
     obtain rfl : b13 = false := by simpa using hib
     obtain rfl : b21 = false := by
      cases hb21 : b21 with
      | false => rfl
      | true => have h := (HT.q21 hb21).2.2.2.2.2.2.2.2.2.2.2.2.2.1; cases h
     obtain rfl : b22 = false := by
      cases hb22 : b22 with
      | false => rfl
      | true => have h := HT.q22 hb22; cases h
     have d11 : b11 = true := ready_dep hi rfl 11 (by kernel_rfl)
     have d12 : b12 = true := ready_dep hi rfl 12 (by kernel_rfl)
     have e11 := HT.h11 d11
     subst e11
     have e12 := HT.h12 d12
     subst e12
     have HTH := Lib.hid HT
     clear HT
     refine wpOp_one rfl rfl (fun K hK => ?_)
     go_simp
     exact hK.out _ _ (.mk b0 b1 b2 b3 b4 b5 b6 b7 b8 b9 b10 b11 b12 true b14 b15 b16 b17 b18 b19 b20 false false _ _ _ _ _ _ _ _ _ _ _ _ _ _ _ _ _ _ _ _ _ _ _ _ { HTH.out with q21 := nofun, q22 := nofun, h13 := fun _ => rfl, h21 := nofun, h22 := nofun, o13_11 := fun _ => d11, o13_12 := fun _ => d12, o14_13 := fun _ => rfl })
    | 14, _, hi, hib =>
     obtain rfl : b14 = false := by simpa using hib
     obtain rfl : b21 = false := by
      cases hb21 : b21 with
      | false => rfl
      | true => have h := (HT.q21 hb21).2.2.2.2.2.2.2.2.2.2.2.2.2.2.1; cases h
     obtain rfl : b22 = false := by
      cases hb22 : b22 with
      | false => rfl
      | true => have h := HT.q22 hb22; cases h
     have d13 : b13 = true := ready_dep hi rfl 13 (by kernel_rfl)
     have e13 := HT.h13 d13
     subst e13
     have z0 := ((HT.bel rfl).cell (p := ⟨ba0, o0 + a, none⟩) hb0w).trans p0
     have HTH := Lib.hid HT
     clear HT
     refine wpOp_one rfl rfl (fun K hK => ?_)
     go_simp
     exact hK.out _ _ (.mk b0 b1 b2 b3 b4 b5 b6 b7 b8 b9 b10 b11 b12 b13 true b15 b16 b17 b18 b19 b20 false false _ _ _ _ _ _ _ _ _ _ _ _ _ _ _ _ _ _ _ _ _ _ _ _ { HTH.out with q21 := nofun, q22 := nofun, h14 := fun _ => rfl, h21 := nofun, h22 := nofun, o14_13 := fun _ => d13, o15_14 := fun _ => rfl })
    | 15, _, hi, hib =>
     obtain rfl : b15 = false := by simpa using hib
     obtain rfl : b21 = false := by
      cases hb21 : b21 with
      | false => rfl
      | true => have h := (HT.q21 hb21).2.2.2.2.2.2.2.2.2.2.2.2.2.2.2.1; cases h
     obtain rfl : b22 = false := by
      cases hb22 : b22 with
      | false => rfl
      | true => have h := HT.q22 hb22; cases h
     have d10 : b10 = true := ready_dep hi rfl 10 (by kernel_rfl)
     have d14 : b14 = true := ready_dep hi rfl 14 (by kernel_rfl)
     have e10 := HT.h10 d10
     subst e10
     have e14 := HT.h14 d14
     subst e14
     have HTH := Lib.hid HT
     clear HT
     refine wpOp_one rfl rfl (fun K hK => ?_)
     go_simp
     exact hK.out _ _ (.mk b0 b1 b2 b3 b4 b5 b6 b7 b8 b9 b10 b11 b12 b13 b14 true b16 b17 b18 b19 b20 false false _ _ _ _ _ _ _ _ _ _ _ _ _ _ _ _ _ _ _ _ _ _ _ _ { HTH.out with q21 := nofun, q22 := nofun, h15 := fun _ => rfl, h21 := nofun, h22 := nofun, o15_10 := fun _ => d10, o15_14 := fun _ => d14, o16_15 := fun _ => rfl })
    | 16, _, hi, hib =>
     obtain rfl : b16 = false := by simpa using hib
     obtain rfl : b21 = false := by
      cases hb21 : b21 with
      | false => rfl
      | true => have h := (HT.q21 hb21).2.2.2.2.2.2.2.2.2.2.2.2.2.2.2.2.1; cases h
     obtain rfl : b22 = false := by
      cases hb22 : b22 with
      | false => rfl
      | true => have h := HT.q22 hb22; cases h
     have d15 : b15 = true := ready_dep hi rfl 15 (by kernel_rfl)
     have e15 := HT.h15 d15
     subst e15
     have HTH := Lib.hid HT
     clear HT
     refine wpOp_one rfl rfl (fun K hK => ?_)
     go_simp
     exact hK.out _ _ (.mk b0 b1 b2 b3 b4 b5 b6 b7 b8 b9 b10 b11 b12 b13 b14 b15 true b17 b18 b19 b20 false false _ _ _ _ _ _ _ _ _ _ _ _ _ _ _ _ _ _ _ _ _ _ _ _ { HTH.out with q21 := nofun, q22 := nofun, h16 := fun _ => rfl, h21 := nofun, h22 := nofun, o16_15 := fun _ => d15, o17_16 := fun _ => rfl })
    | 17, _, hi, hib =>
     obtain rfl : b17 = false := by simpa using hib
     obtain rfl : b21 = false := by
      cases hb21 : b21 with
      | false => rfl
      | true => have h := (HT.q21 hb21).2.2.2.2.2.2.2.2.2.2.2.2.2.2.2.2.2.1; cases h
     obtain rfl : b22 = false := by
      cases hb22 : b22 with
      | false => rfl
      | true => have h := HT.q22 hb22; cases h
     have d16 : b16 = true := ready_dep hi rfl 16 (by kernel_rfl)
     have e16 := HT.h16 d16
     subst e16
     have z0 := ((HT.bel rfl).cell (p := ⟨ba2, o2 + b * 6 + 4, none⟩) hb2w).trans q4'
     have HTH := Lib.hid HT
     clear HT
     refine wpOp_one rfl rfl (fun K hK => ?_)
     go_simp
     exact hK.out _ _ (.mk b0 b1 b2 b3 b4 b5 b6 b7 b8 b9 b10 b11 b12 b13 b14 b15 b16 true b18 b19 b20 false false _ _ _ _ _ _ _ _ _ _ _ _ _ _ _ _ _ _ _ _ _ _ _ _ { HTH.out with q21 := nofun, q22 := nofun, h17 := fun _ => rfl, h21 := nofun, h22 := nofun, o17_16 := fun _ => d16, o18_17 := fun _ => rfl })
    | 18, _, hi, hib =>
     obtain rfl : b18 = false := by simpa using hib
     obtain rfl : b21 = false := by
      cases hb21 : b21 with
      | false => rfl
      | true => have h := (HT.q21 hb21).2.2.2.2.2.2.2.2.2.2.2.2.2.2.2.2.2.2.1; cases h
     obtain rfl : b22 = false := by
      cases hb22 : b22 with
      | false => rfl
      | true => have h := HT.q22 hb22; cases h
     have d17 : b17 = true := ready_dep hi rfl 17 (by kernel_rfl)
     have e17 := HT.h17 d17
     subst e17
     have HTH := Lib.hid HT
     clear HT
     refine wpOp_one rfl rfl (fun K hK => ?_)
     go_simp
     exact hK.out _ _ (.mk b0 b1 b2 b3 b4 b5 b6 b7 b8 b9 b10 b11 b12 b13 b14 b15 b16 b17 true b19 b20 false false _ _ _ _ _ _ _ _ _ _ _ _ _ _ _ _ _ _ _ _ _ _ _ _ { HTH.out with q21 := nofun, q22 := nofun, h18 := fun _ => rfl, h21 := nofun, h22 := nofun, o18_17 := fun _ => d17, o19_18 := fun _ => rfl })
    | 19, _, hi, hib =>
     obtain rfl : b19 = false := by simpa using hib
     obtain rfl : b21 = false := by
      cases hb21 : b21 with
      | false => rfl
      | true => have h := (HT.q21 hb21).2.2.2.2.2.2.2.2.2.2.2.2.2.2.2.2.2.2.2.1; cases h
     obtain rfl : b22 = false := by
      cases hb22 : b22 with
      | false => rfl
      | true => have h := HT.q22 hb22; cases h
     have d4 : b4 = true := ready_dep hi rfl 4 (by kernel_rfl)
     have d18 : b18 = true := ready_dep hi rfl 18 (by kernel_rfl)
     have e4 := HT.h4 d4
     subst e4
     have e18 := HT.h18 d18
     subst e18
     have HTH := Lib.hid HT
     clear HT
     refine wpOp_one rfl rfl (fun K hK => ?_)
     go_simp
     exact hK.out _ _ (.mk b0 b1 b2 b3 b4 b5 b6 b7 b8 b9 b10 b11 b12 b13 b14 b15 b16 b17 b18 true b20 false false _ _ _ _ _ _ _ _ _ _ _ _ _ _ _ _ _ _ _ _ _ _ _ _ { HTH.out with q21 := nofun, q22 := nofun, h19 := fun _ => rfl, h21 := nofun, h22 := nofun, o19_4 := fun _ => d4, o19_18 := fun _ => d18, o20_19 := fun _ => rfl })
    | 20, _, hi, hib =>
     obtain rfl : b20 = false := by simpa using hib
     obtain rfl : b21 = false := by
      cases hb21 : b21 with
      | false => rfl
      | true => have h := (HT.q21 hb21).2.2.2.2.2.2.2.2.2.2.2.2.2.2.2.2.2.2.2.2; cases h
     obtain rfl : b22 = false := by
      cases hb22 : b22 with
      | false => rfl
      | true => have h := HT.q22 hb22; cases h
     have d19 : b19 = true := ready_dep hi rfl 19 (by kernel_rfl)
     have e19 := HT.h19 d19
     subst e19
     have HTH := Lib.hid HT
     have HBE := Lib.hid (HT.bel rfl)
     clear HT
     refine wpOp_one rfl rfl (fun K hK => ?_)
     go_simp
     have hba : Below w'.heap.size w' (w'.alloc (.cells #[.int .i64 (b : Int), .int .i64 (2 * lv)] 66)) := (Below.refl _ w').alloc (Nat.le_refl _) _
     exact hK.out _ _ (.mk b0 b1 b2 b3 b4 b5 b6 b7 b8 b9 b10 b11 b12 b13 b14 b15 b16 b17 b18 b19 true false false _ _ _ _ _ _ _ _ _ _ _ _ _ _ _ _ _ _ _ _ _ _ _ _ { HTH.out with q21 := nofun, q22 := nofun, bel := fun _ => HBE.out.trans (hba.mono HBE.out.size), h20 := fun _ _ => ⟨w'.heap.size, rfl, HBE.out.size, heap_new w' _⟩, h21 := nofun, h22 := nofun, o20_19 := fun _ => d19 })
    | 21, _, hi, hib =>
     obtain rfl : b21 = false := by simpa using hib
     obtain rfl : b22 = false := by
      cases hb22 : b22 with
      | false => rfl
      | true => have h := HT.q22 hb22; cases h
     have d0 : b0 = true := ready_dep hi rfl 0 (by kernel_rfl)
     have d20 : b20 = true := ready_dep hi rfl 20 (by kernel_rfl)
     have HALL : Hid (b0 = true ∧ b1 = true ∧ b2 = true ∧ b3 = true ∧ b4 = true ∧ b5 = true ∧ b6 = true ∧ b7 = true ∧ b8 = true ∧ b9 = true ∧ b10 = true ∧ b11 = true ∧ b12 = true ∧ b13 = true ∧ b14 = true ∧ b15 = true ∧ b16 = true ∧ b17 = true ∧ b18 = true ∧ b19 = true ∧ b20 = true) := Lib.hid ⟨d0, (HT.o3_1 (HT.o4_3 (HT.o19_4 (HT.o20_19 d20)))), (HT.o3_2 (HT.o4_3 (HT.o19_4 (HT.o20_19 d20)))), (HT.o4_3 (HT.o19_4 (HT.o20_19 d20))), (HT.o19_4 (HT.o20_19 d20)), (HT.o6_5 (HT.o8_6 (HT.o9_8 (HT.o10_9 (HT.o15_10 (HT.o16_15 (HT.o17_16 (HT.o18_17 (HT.o19_18 (HT.o20_19 d20)))))))))), (HT.o8_6 (HT.o9_8 (HT.o10_9 (HT.o15_10 (HT.o16_15 (HT.o17_16 (HT.o18_17 (HT.o19_18 (HT.o20_19 d20))))))))), (HT.o8_7 (HT.o9_8 (HT.o10_9 (HT.o15_10 (HT.o16_15 (HT.o17_16 (HT.o18_17 (HT.o19_18 (HT.o20_19 d20))))))))), (HT.o9_8 (HT.o10_9 (HT.o15_10 (HT.o16_15 (HT.o17_16 (HT.o18_17 (HT.o19_18 (HT.o20_19 d20)))))))), (HT.o10_9 (HT.o15_10 (HT.o16_15 (HT.o17_16 (HT.o18_17 (HT.o19_18 (HT.o20_19 d20))))))), (HT.o15_10 (HT.o16_15 (HT.o17_16 (HT.o18_17 (HT.o19_18 (HT.o20_19 d20)))))), (HT.o13_11 (HT.o14_13 (HT.o15_14 (HT.o16_15 (HT.o17_16 (HT.o18_17 (HT.o19_18 (HT.o20_19 d20)))))))), (HT.o13_12 (HT.o14_13 (HT.o15_14 (HT.o16_15 (HT.o17_16 (HT.o18_17 (HT.o19_18 (HT.o20_19 d20)))))))), (HT.o14_13 (HT.o15_14 (HT.o16_15 (HT.o17_16 (HT.o18_17 (HT.o19_18 (HT.o20_19 d20))))))), (HT.o15_14 (HT.o16_15 (HT.o17_16 (HT.o18_17 (HT.o19_18 (HT.o20_19 d20)))))), (HT.o16_15 (HT.o17_16 (HT.o18_17 (HT.o19_18 (HT.o20_19 d20))))), (HT.o17_16 (HT.o18_17 (HT.o19_18 (HT.o20_19 d20)))), (HT.o18_17 (HT.o19_18 (HT.o20_19 d20))), (HT.o19_18 (HT.o20_19 d20)), (HT.o20_19 d20), d20⟩
     have e0 := HT.h0 d0
     subst e0
     obtain ⟨g, e20, hg, r20⟩ := HT.h20 d20 rfl
     subst e20
     have HTH := Lib.hid HT
     have HBE := Lib.hid (HT.bel rfl)
     have HR20 := Lib.hid r20
     have HOO := Lib.hid (HO.out.kept pr_turns HBE.out)
     clear hg r20
     clear HT
     refine wpOp_one rfl rfl (fun K hK => ?_)
     refine opJ_app pr_turns Tryz.underlying68 infoP4 rfl (by decide) (by decide) (.tmp 13) (.tmp 33) rfl W.heap.size _ (setK l vs a) rfl HOO.out g [.int .i64 (b : Int), .int .i64 (2 * lv)] ((b : Int), 2 * lv) rfl rfl (cells_of HR20.out) (by intro u hu; simp at hu; rcases hu with rfl | rfl <;> rfl) rfl (by have := HKL.out; omega) (Nat.le_trans HB.out.2.size HBE.out.size) ?_
     intro g' c' w5 hown5 hgr5
     exact hK.out _ _ (.mk b0 b1 b2 b3 b4 b5 b6 b7 b8 b9 b10 b11 b12 b13 b14 b15 b16 b17 b18 b19 b20 true false _ _ _ _ _ _ _ _ _ _ _ _ _ _ _ _ _ _ _ _ _ _ _ _ { HTH.out with q21 := fun _ => HALL.out, q22 := nofun, bel := nofun, h20 := nofun, h21 := fun _ => ⟨g', c', rfl, hown5, (HB.out.1.trans (HBE.out.mono HB.out.1.size)).grown hgr5 (Nat.le_trans HB.out.1.size HBE.out.size) (fun x hx => by have := (HOO.out.ge x hx).1; have := HZ.out; omega), (HB.out.2.trans (HBE.out.mono HB.out.2.size)).grown hgr5 (Nat.le_trans HB.out.2.size HBE.out.size) (fun x hx => (HOO.out.ge x hx).1)⟩, h22 := nofun })
    | 22, _, hi, hib =>
     obtain rfl : b22 = false := by simpa using hib
     have d21 : b21 = true := ready_dep hi rfl 21 (by kernel_rfl)
     have HTH := Lib.hid HT
     have HF := Lib.hid (HT.h21 d21)
     clear HT
     refine wpOp_one rfl rfl (fun K hK => ?_)
     go_simp
     exact hK.out _ _ (.mk b0 b1 b2 b3 b4 b5 b6 b7 b8 b9 b10 b11 b12 b13 b14 b15 b16 b17 b18 b19 b20 b21 true _ _ _ _ _ _ _ _ _ _ _ _ _ _ _ _ _ _ _ _ _ _ _ _ { HTH.out with q22 := fun _ => d21, h22 := fun _ => rfl, k5 := nofun })
   case fin =>
    rintro lq a' w' ⟨b0, b1, b2, b3, b4, b5, b6, b7, b8, b9, b10, b11, b12, b13, b14, b15, b16, b17, b18, b19, b20, b21, b22, v5, v13, v14, v15, v16, v17, v18, v19, v20, v21, v22, v23, v24, v25, v26, v27, v28, v29, v30, v31, v32, v33, v34, _, HT⟩ hr
    obtain rfl : b0 = true := by
     cases b0 with
     | true => rfl
     | false => exact (ready_in 0 rfl rfl (by simp [Region.binds]) hr).elim
    obtain rfl : b1 = true := by
     cases b1 with
     | true => rfl
     | false => exact (ready_in 1 rfl rfl (by simp [Region.binds]) hr).elim
    obtain rfl : b2 = true := by
     cases b2 with
     | true => rfl
     | false => exact (ready_in 2 rfl rfl (by simp [Region.binds]) hr).elim
    obtain rfl : b3 = true := by
     cases b3 with
     | true => rfl
     | false => exact (ready_in 3 rfl rfl (by simp [Region.binds]) hr).elim
    obtain rfl : b4 = true := by
     cases b4 with
     | true => rfl
     | false => exact (ready_in 4 rfl rfl (by simp [Region.binds]) hr).elim
    obtain rfl : b5 = true := by
     cases b5 with
     | true => rfl
     | false => exact (ready_in 5 rfl rfl (by simp [Region.binds]) hr).elim
    obtain rfl : b6 = true := by
     cases b6 with
     | true => rfl
     | false => exact (ready_in 6 rfl rfl (by simp [Region.binds]) hr).elim
    obtain rfl : b7 = true := by
     cases b7 with
     | true => rfl
     | false => exact (ready_in 7 rfl rfl (by simp [Region.binds]) hr).elim
    obtain rfl : b8 = true := by
     cases b8 with
     | true => rfl
     | false => exact (ready_in 8 rfl rfl (by simp [Region.binds]) hr).elim
    obtain rfl : b9 = true := by
     cases b9 with
     | true => rfl
     | false => exact (ready_in 9 rfl rfl (by simp [Region.binds]) hr).elim
    obtain rfl : b10 = true := by
     cases b10 with
     | true => rfl
     | false => exact (ready_in 10 rfl rfl (by simp [Region.binds]) hr).elim
    obtain rfl : b11 = true := by
     cases b11 with
     | true => rfl
     | false => exact (ready_in 11 rfl rfl (by simp [Region.binds]) hr).elim
    obtain rfl : b12 = true := by
     cases b12 with
     | true => rfl
     | false => exact (ready_in 12 rfl rfl (by simp [Region.binds]) hr).elim
    obtain rfl : b13 = true := by
     cases b13 with
     | true => rfl
     | false => exact (ready_in 13 rfl rfl (by simp [Region.binds]) hr).elim
    obtain rfl : b14 = true := by
     cases b14 with
     | true => rfl
     | false => exact (ready_in 14 rfl rfl (by simp [Region.binds]) hr).elim
    obtain rfl : b15 = true := by
     cases b15 with
     | true => rfl
     | false => exact (ready_in 15 rfl rfl (by simp [Region.binds]) hr).elim
    obtain rfl : b16 = true := by
     cases b16 with
     | true => rfl
     | false => exact (ready_in 16 rfl rfl (by simp [Region.binds]) hr).elim
    obtain rfl : b17 = true := by
     cases b17 with
     | true => rfl
     | false => exact (ready_in 17 rfl rfl (by simp [Region.binds]) hr).elim
    obtain rfl : b18 = true := by
     cases b18 with
     | true => rfl
     | false => exact (ready_in 18 rfl rfl (by simp [Region.binds]) hr).elim
    obtain rfl : b19 = true := by
     cases b19 with
     | true => rfl
     | false => exact (ready_in 19 rfl rfl (by simp [Region.binds]) hr).elim
    obtain rfl : b20 = true := by
     cases b20 with
     | true => rfl
     | false => exact (ready_in 20 rfl rfl (by simp [Region.binds]) hr).elim
    obtain rfl : b21 = true := by
     cases b21 with
     | true => rfl
     | false => exact (ready_in 21 rfl rfl (by simp [Region.binds]) hr).elim
    obtain rfl : b22 = true := by
     cases b22 with
     | true => rfl
     | false => exact (ready_in 22 rfl rfl (by simp [Region.binds]) hr).elim
    obtain ⟨g', c', e34, hown5, hb51, hb52⟩ := HT.h21 rfl
    have e5 := HT.h22 rfl
    subst e5
    subst e34
    have HO5 := Lib.hid hown5
    have HB5 := Lib.hid (And.intro hb51 hb52)
    clear HT hr hown5 hb51 hb52
    go_wp2_with fail
    go_roundw
    case rel => exact ⟨a + 1, by omega, by go_num, HB5, Lib.hid (by rw [setK_succ, HSP.out]; exact HO5.out)⟩
    case measure => simp [intOf]; omega
  ·have hd : decide ((k : Int) < (m : Int)) = false := by simp; omega
   obtain rfl : k = m := by omega
   have HRD : Hid (RdJ 2 prI wo (fun b => b < w.heap.size) AS k (setL l vs)) := Lib.hid (by
    have := HO.out.rd (M := fun b => b < w.heap.size) pr_turns (fun b (hb : b < w.heap.size) => .inl (by have := HZ.out; omega))
    rw [HKL.out] at this
    unfold setL; rw [HM.out]; exact this)
   rw [HKL.out]
   go_wp2_with fail
   exact bodyPost_ret (results_tmp rfl _ _ _) rfl ⟨_, _, rfl, HRD.out, HB.out.1⟩
end Go.Proofs.YtminihiecloglaaGreat
