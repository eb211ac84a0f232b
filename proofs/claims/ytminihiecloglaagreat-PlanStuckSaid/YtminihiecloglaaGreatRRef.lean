/-
 CONTRACT of the document's own package of layer 2: Has (printed by genrrh.py).
-/
import Derived.Test.YtminihiecloglaaGreatROa
import Derived.Test.YtminihiecloglaaGreatRUa
set_option linter.unusedVariables false
set_option linter.unusedSimpArgs false
namespace Go.Proofs.YtminihiecloglaaGreat
open Go.RowKit
open SemP
set_option maxRecDepth 100000
theorem all_take {l : List CV} {p : CV → Bool} {k : Nat} (hk : k < l.length) : (l.take (k + 1)).all p = ((l.take k).all p && p (cvAt l k)) := by
 rw [List.take_succ_eq_append_getElem hk, List.all_append]
 simp [cvAt, List.getD, hk]
theorem rightR_len {r : List (List CV)} (h : rightR r = true) : 1 ≤ r.length ∧ r.length ≤ 8 := by
 unfold rightR at h; simp only [Bool.and_eq_true, decide_eq_true_eq] at h; exact h.1
theorem rightR_list {r : List (List CV)} (h : rightR r = true) {l : List CV} (hl : l ∈ r) : (1 ≤ l.length ∧ l.length ≤ 8) ∧ ∀ x ∈ l, x.right = true := by
 unfold rightR at h
 rw [Bool.and_eq_true, List.all_eq_true] at h
 have h := h.2 l hl
 unfold rightL at h
 rw [Bool.and_eq_true, List.all_eq_true, Bool.and_eq_true, decide_eq_true_eq, decide_eq_true_eq] at h
 exact h
structure RhSt (w0 : World) (pr0 vsl pr1 vli pr2 vc vv : Value) (ii kk : Int) (q : Bool) (b0 b1 b2 b3 b4 b5 b6 b7 b8 b9 b10 b11 b12 b13 : Bool) (v6 v33 v34 v35 v36 v37 v38 v39 v40 v41 v42 v43 v44 v45 : Value) (w' : World) : Prop where
 bel : Below w0.heap.size w0 w'
 h0 : b0 = true → v33 = .bool true
 h1 : b1 = true → v34 = .bool true
 h2 : b2 = true → v35 = pr0
 h3 : b3 = true → v36 = vsl
 h4 : b4 = true → v37 = .int .i64 ii
 h5 : b5 = true → v38 = pr1
 h6 : b6 = true → v39 = vli
 h7 : b7 = true → v40 = .int .i64 kk
 h8 : b8 = true → v41 = pr2
 h9 : b9 = true → v42 = vc
 h10 : b10 = true → v43 = vv
 h11 : b11 = true → v44 = .bool q
 h12 : b12 = true → v45 = .bool q
 h13 : b13 = true → v6 = .bool q
 ini : b0 = false → v6 = .bool true
inductive RhJ (w0 : World) (pr0 vsl pr1 vli pr2 vc vv : Value) (ii kk : Int) (q : Bool) (p0 p1 p2 p3 p4 p5 p7 p8 p9 p10 p11 p12 p13 p14 p15 p16 p17 p18 p19 p20 p21 p22 p23 p24 p25 p26 p27 p28 p29 p30 p31 p32 p46 : Value) : Array Bool → Act → World → Prop where
 | mk (b0 b1 b2 b3 b4 b5 b6 b7 b8 b9 b10 b11 b12 b13 : Bool) (v6 v33 v34 v35 v36 v37 v38 v39 v40 v41 v42 v43 v44 v45 : Value) (w' : World) : RhSt w0 pr0 vsl pr1 vli pr2 vc vv ii kk q b0 b1 b2 b3 b4 b5 b6 b7 b8 b9 b10 b11 b12 b13 v6 v33 v34 v35 v36 v37 v38 v39 v40 v41 v42 v43 v44 v45 w' → RhJ w0 pr0 vsl pr1 vli pr2 vc vv ii kk q p0 p1 p2 p3 p4 p5 p7 p8 p9 p10 p11 p12 p13 p14 p15 p16 p17 p18 p19 p20 p21 p22 p23 p24 p25 p26 p27 p28 p29 p30 p31 p32 p46 #[b0, b1, b2, b3, b4, b5, b6, b7, b8, b9, b10, b11, b12, b13] { tmps := List.toArray (p0 :: p1 :: p2 :: p3 :: p4 :: p5 :: v6 :: p7 :: p8 :: p9 :: p10 :: p11 :: p12 :: p13 :: p14 :: p15 :: p16 :: p17 :: p18 :: p19 :: p20 :: p21 :: p22 :: p23 :: p24 :: p25 :: p26 :: p27 :: p28 :: p29 :: p30 :: p31 :: p32 :: v33 :: v34 :: v35 :: v36 :: v37 :: v38 :: v39 :: v40 :: v41 :: v42 :: v43 :: v44 :: v45 :: p46 :: []), defers := [] } w'
set_option maxHeartbeats 16000000 in
theorem RefHas_any (A : Option Addr) (m cp : Nat) (r : List (List CV)) (a c d : Int) (s : ByteArray) (w : World) (B : Nat) (hr : RdR w B A m r) (hB : B ≤ w.heap.size) (hf : Small r) (hs : s.size ≤ 1000000) :
  Calls Tryz.prog 112 #[.agg #[.slice A m cp], verV a c d s] w fun e w' => e = .returned (.bool (hasR r ⟨a, c, d, bs s⟩)) ∧ Below w.heap.size w w' := by
 obtain ⟨W0, hW0⟩ : ∃ W0, (w.alloc (.cells #[.slice A m cp] 144)).alloc (.cells #[.int .i64 a, .int .i64 c, .int .i64 d, .string s] 122) = W0 := ⟨_, rfl⟩
 have hz0 : W0.heap.size = w.heap.size + 2 := by rw [← hW0]; simp
 have hb0 : Below w.heap.size w W0 := by rw [← hW0]; exact ((Below.refl _ w).alloc (Nat.le_refl _) _).alloc (by simp) _
 have HX0 : Hid (W0.heap[w.heap.size]? = some (.cells #[.slice A m cp] 144)) := Lib.hid (by
  rw [← hW0, Below.heap_alloc _ _ _ (by simp)]; exact World.alloc_heap_new _ _)
 have HX1 : Hid (W0.heap[w.heap.size + 1]? = some (.cells #[.int .i64 a, .int .i64 c, .int .i64 d, .string s] 122)) := Lib.hid (by
  rw [← hW0]
  have := World.alloc_heap_new (w.alloc (.cells #[.slice A m cp] 144)) (.cells #[.int .i64 a, .int .i64 c, .int .i64 d, .string s] 122)
  rw [World.size_alloc] at this; exact this)
 have HL0 : Hid (w.heap.size < W0.heap.size) := Lib.hid (by omega)
 have HL1 : Hid (w.heap.size + 1 < W0.heap.size) := Lib.hid (by omega)
 have HB0 := Lib.hid hb0
 have HW0 := Lib.hid hW0
 have HR0 : Hid (RdR W0 B A m r) := Lib.hid (hr.below (hb0.mono hB))
 have HF := Lib.hid hf
 have HSS := Lib.hid hs
 have HLE := Lib.hid hr.1
 have HBB : Hid (B ≤ W0.heap.size) := Lib.hid (Nat.le_trans hB hb0.size)
 have HC := Lib.hid (RefRgRight_any A m cp r W0 B HR0.out HBB.out hf)
 have x0 : W0.cell? ⟨w.heap.size, 0, none⟩ = some (.slice A m cp) := cell1 HX0.out
 rw [← hW0] at x0
 clear hr hf hs hB hb0 hW0 hz0
 go_enter Tryz.func112, Tryz.ntmps112
 go_wp2_with fail
 try rw [show (w.alloc (.cells #[.slice A m cp] 144)).alloc (.cells #[.int .i64 a, .int .i64 c, .int .i64 d, .string s] 122) = W0 from HW0.out]
 refine HC.out.mono ?_
 rintro e W1 ⟨rfl, hb⟩
 have HB1 : Hid (Below W0.heap.size W0 W1) := Lib.hid hb
 clear hb HC x0
 cases hrr : rightR r with
 | false =>
  have HV : Hid (hasR r ⟨a, c, d, bs s⟩ = false) := Lib.hid (by unfold hasR; rw [hrr]; rfl)
  clear hrr
  go_wp2
  refine bodyPost_ret (results_tmp rfl _ _ _) rfl ⟨by rw [HV.out]; rfl, HB0.out.trans (HB1.out.mono HB0.out.size)⟩
 | true =>
  have HRR := Lib.hid hrr
  clear hrr
  obtain ⟨y0, y1, y2, y3⟩ := cells4 ((HB1.out.block _ HL1.out).trans HX1.out)
  have HC := Lib.hid (RefRight_any a c d s W1 (by have := HSS.out; omega))
  go_wp2_with fail
  refine HC.out.mono ?_
  rintro e W2 ⟨rfl, hb⟩
  have HB2 : Hid (Below W0.heap.size W0 W2) := Lib.hid (HB1.out.trans (hb.mono HB1.out.size))
  clear hb HC y0 y1 y2 y3
  cases hvr : Ver.right ⟨a, c, d, bs s⟩ with
  | false =>
   have HV : Hid (hasR r ⟨a, c, d, bs s⟩ = false) := Lib.hid (by unfold hasR; rw [hvr, Bool.and_false]; rfl)
   clear hvr
   go_wp2
   refine bodyPost_ret (results_tmp rfl _ _ _) rfl ⟨by rw [HV.out]; rfl, HB0.out.trans (HB2.out.mono HB0.out.size)⟩
  | true =>
   have HV : Hid (hasR r ⟨a, c, d, bs s⟩ = r.any (fun l => hasL l ⟨a, c, d, bs s⟩)) := Lib.hid (by unfold hasR; rw [HRR.out, hvr]; rfl)
   have HVR := Lib.hid hvr
   have HM8 : Hid (m ≤ 8) := Lib.hid (by rw [← HLE.out]; exact (rightR_len HRR.out).2)
   clear hvr
   go_wp2
   go_loopw [5, 6, 7] (fun v5 v6 v7 wr => ∃ (i : Nat), i ≤ m ∧ v5 = .int .i64 (i : Int) ∧ Hid (∀ j, j < i → hasL (lsAt r j) ⟨a, c, d, bs s⟩ = false) ∧ Hid (Below W0.heap.size W0 wr)) (fun v _ _ _ => m - (intOf v).toNat)
   case atStart => exact ⟨0, Nat.zero_le _, rfl, Lib.hid (fun j hj => absurd hj (by omega)), HB2⟩
   case round =>
    obtain ⟨i, hi, rfl, HD, HB⟩ := hrel
    obtain ⟨wo, hwo⟩ : ∃ x, x = wr := ⟨_, rfl⟩
    subst hwo
    have HC1 : Hid (wo.heap[w.heap.size]? = some (.cells #[.slice A m cp] 144)) := Lib.hid ((HB.out.block _ HL0.out).trans HX0.out)
    have HY1 : Hid (wo.heap[w.heap.size + 1]? = some (.cells #[.int .i64 a, .int .i64 c, .int .i64 d, .string s] 122)) := Lib.hid ((HB.out.block _ HL1.out).trans HX1.out)
    have c1 : wo.cell? ⟨w.heap.size, 0, none⟩ = some (.slice A m cp) := cell1 HC1.out
    by_cases him : i < m
    ·have hd : decide ((i : Int) < (m : Int)) = true := decide_eq_true (by omega)
     have hadd : IntKind.i64.wrap ((i : Int) + 1) = ((i + 1 : Nat) : Int) := by rw [IntWalk.i64_in _ (by have := HM8.out; omega)]; omega
     obtain ⟨b, off, Aj, nj, cj, rfl, hlt, q0, hrc⟩ := (HR0.out.below (HB.out.mono HBB.out)).2 i him
     have HIL : Hid (i < r.length) := Lib.hid (by rw [HLE.out]; exact him)
     obtain ⟨l, hl⟩ : ∃ l, lsAt r i = l := ⟨_, rfl⟩
     have HLL := Lib.hid hl
     rw [hl] at hrc
     have HRC := Lib.hid hrc
     have HMEM : Hid (l ∈ r) := Lib.hid (by rw [← hl]; exact lsAt_mem HIL.out)
     have HNL : Hid (l.length = nj) := Lib.hid hrc.1
     have HN8 : Hid (nj ≤ 8) := Lib.hid (by rw [← HNL.out]; exact (rightR_list HRR.out HMEM.out).1.2)
     have HQ0 := Lib.hid q0
     have HBo := Lib.hid (Nat.le_trans HBB.out HB.out.size)
     have HLo : Hid (w.heap.size < wo.heap.size ∧ b < wo.heap.size ∧ w.heap.size + 1 < wo.heap.size) := Lib.hid ⟨Nat.lt_of_lt_of_le HL0.out HB.out.size, block_lt_of_cell q0, Nat.lt_of_lt_of_le HL1.out HB.out.size⟩
     have HVL := Lib.hid (show hasL l ⟨a, c, d, bs s⟩ = l.all (fun x => hasC x.op x.ver ⟨a, c, d, bs s⟩) from rfl)
     clear hrc hl
     go_wp2
     clear q0 c1
     go_loopw [6, 7] (fun v6 v7 wr => ∃ (k : Nat) (o : Bool), k ≤ nj ∧ v7 = .int .i64 (k : Int) ∧ v6 = .bool o ∧ Hid (o = (l.take k).all (fun x => hasC x.op x.ver ⟨a, c, d, bs s⟩)) ∧ Hid (Below wo.heap.size wo wr)) (fun _ v _ => nj - (intOf v).toNat)
     case atStart => exact ⟨0, true, Nat.zero_le _, rfl, rfl, Lib.hid rfl, Lib.hid (Below.refl _ _)⟩
     case round =>
      obtain ⟨k, o, hk, rfl, rfl, HO, HBr⟩ := hrel
      have HCq : Hid (wr.heap[w.heap.size]? = some (.cells #[.slice (some ⟨b, off, none⟩) m cp] 144)) := Lib.hid ((HBr.out.block _ HLo.out.1).trans HC1.out)
      have HYq : Hid (wr.heap[w.heap.size + 1]? = some (.cells #[.int .i64 a, .int .i64 c, .int .i64 d, .string s] 122)) := Lib.hid ((HBr.out.block _ HLo.out.2.2).trans HY1.out)
      have HQr : Hid (wr.cell? ⟨b, off + i, none⟩ = some (.slice Aj nj cj)) := Lib.hid ((HBr.out.cell (p := ⟨b, off + i, none⟩) HLo.out.2.1).trans HQ0.out)
      have c1 : wr.cell? ⟨w.heap.size, 0, none⟩ = some (.slice (some ⟨b, off, none⟩) m cp) := cell1 HCq.out
      have q0 := HQr.out
      by_cases hkn : k < nj
      ·have hdk : decide ((k : Int) < (nj : Int)) = true := decide_eq_true (by omega)
       have haddk : IntKind.i64.wrap ((k : Int) + 1) = ((k + 1 : Nat) : Int) := by rw [IntWalk.i64_in _ (by have := HN8.out; omega)]; omega
       have HIK : Hid (k < l.length) := Lib.hid (by rw [HNL.out]; exact hkn)
       cases o with
       | false =>
        have HO2 : Hid (false = (l.take (k + 1)).all (fun x => hasC x.op x.ver ⟨a, c, d, bs s⟩)) := Lib.hid (by rw [all_take HIK.out, ← HO.out]; rfl)
        have mixed : Tryz.prog.follows Departure.mixedOrders = true := by kernel_rfl
        go_wp2_with fail
        go_region_o
        go_wp2
        go_roundw
        case rel => first | exact ⟨k + 1, false, by omega, rfl, rfl, HO2, HBr⟩ | exact ⟨k + 1, false, by omega, rfl, rfl, HO2, Lib.hid HBr.out.drew⟩
        case measure => simp [intOf]; omega
       | true =>
        obtain ⟨bk, off2, rfl, hlt2, p0, p1, p2, p3, p4⟩ := (HRC.out.below (HBr.out.mono HBo.out)).2 k hkn
        obtain ⟨x, hx⟩ : ∃ x, cvAt l k = x := ⟨_, rfl⟩
        have HSZ : Hid (x.s.size ≤ 1000000) := Lib.hid (by rw [← hx]; exact HF.out l HMEM.out _ (cvAt_mem HIK.out))
        have HXR : Hid (x.right = true) := Lib.hid (by rw [← hx]; exact (rightR_list HRR.out HMEM.out).2 _ (cvAt_mem HIK.out))
        have HX := Lib.hid hx
        rw [hx] at p0 p1 p2 p3 p4
        have HPq := Lib.hid (And.intro p0 (And.intro p1 (And.intro p2 (And.intro p3 p4))))
        have HQq : Hid (wr.cell? ⟨b, off + i, none⟩ = some (.slice (some ⟨bk, off2, none⟩) nj cj)) := HQr
        have HLq : Hid (w.heap.size < wr.heap.size ∧ b < wr.heap.size ∧ bk < wr.heap.size ∧ w.heap.size + 1 < wr.heap.size) := Lib.hid ⟨Nat.lt_of_lt_of_le HLo.out.1 HBr.out.size, Nat.lt_of_lt_of_le HLo.out.2.1 HBr.out.size, block_lt_of_cell p0, Nat.lt_of_lt_of_le HLo.out.2.2 HBr.out.size⟩
        obtain ⟨q, hq⟩ : ∃ q, hasC x.op ⟨x.a, x.b, x.c, bs x.s⟩ ⟨a, c, d, bs s⟩ = q := ⟨_, rfl⟩
        have HQV := Lib.hid hq
        have HO2 : Hid (q = (l.take (k + 1)).all (fun x => hasC x.op x.ver ⟨a, c, d, bs s⟩)) := Lib.hid (by rw [all_take HIK.out, ← HO.out, hx]; exact hq.symm)
        clear hq hx
        go_wp2_with fail
        clear p0 p1 p2 p3 p4 c1 q0
        refine wp_region_inv (by kernel_rfl) (I := RhJ wr (.pointer (some ⟨w.heap.size, 0, none⟩)) (.slice (some ⟨b, off, none⟩) m cp) (.pointer (some ⟨b, off + i, none⟩)) (.slice (some ⟨bk, off2, none⟩) nj cj) (.pointer (some ⟨bk, off2 + k * 5, none⟩)) (compV x.op x.a x.b x.c x.s) (verV a c d s) (i : Int) (k : Int) q _ _ _ _ _ _ _ _ _ _ _ _ _ _ _ _ _ _ _ _ _ _ _ _ _ _ _ _ _ _ _ _ _) (.mk false false false false false false false false false false false false false false _ _ _ _ _ _ _ _ _ _ _ _ _ _ _ ⟨(Below.refl _ wr).drew, nofun, nofun, nofun, nofun, nofun, nofun, nofun, nofun, nofun, nofun, nofun, nofun, nofun, nofun, fun _ => rfl⟩) ?step ?fin
        case step =>
         rintro lq a' w' ix ⟨b0, b1, b2, b3, b4, b5, b6, b7, b8, b9, b10, b11, b12, b13, v6, v33, v34, v35, v36, v37, v38, v39, v40, v41, v42, v43, v44, v45, _, HT⟩ hi
         obtain ⟨hi_, hib⟩ := ready_lt hi
         have HTH := Lib.hid HT
         match ix, hi_, hi, hib with
         | 0, _, hi, hib =>
          have hb0 : b0 = false := by simpa using hib
          have hin := HT.ini hb0
          subst hin
          clear HT
          refine wpOp_one rfl rfl (fun K hK => ?_)
          go_simp
          exact hK.out _ _ (.mk true b1 b2 b3 b4 b5 b6 b7 b8 b9 b10 b11 b12 b13 _ _ _ _ _ _ _ _ _ _ _ _ _ _ _ { HTH.out with h0 := fun _ => rfl, ini := nofun })
         | 1, _, hi, hib =>
          have d0 : b0 = true := ready_dep hi rfl 0 (by kernel_rfl)
          have hd0 := HT.h0 d0
          subst hd0
          clear HT
          refine wpOp_one rfl rfl (fun K hK => ?_)
          go_simp
          exact hK.out _ _ (.mk b0 true b2 b3 b4 b5 b6 b7 b8 b9 b10 b11 b12 b13 _ _ _ _ _ _ _ _ _ _ _ _ _ _ _ { HTH.out with h1 := fun _ => rfl })
         | 2, _, hi, hib =>
          have e1 : b1 = true := ready_dep hi rfl 1 (by kernel_rfl)
          have he1 := HT.h1 e1
          subst he1
          clear HT
          refine wpOp_want rfl 1 true rfl rfl (fun K hK => ?_)
          go_simp
          exact hK.out _ _ (.mk b0 b1 true b3 b4 b5 b6 b7 b8 b9 b10 b11 b12 b13 _ _ _ _ _ _ _ _ _ _ _ _ _ _ _ { HTH.out with h2 := fun _ => rfl })
         | 3, _, hi, hib =>
          have e1 : b1 = true := ready_dep hi rfl 1 (by kernel_rfl)
          have he1 := HT.h1 e1
          subst he1
          have d2 : b2 = true := ready_dep hi rfl 2 (by kernel_rfl)
          have hd2 := HT.h2 d2
          subst hd2
          have c1 : w'.cell? ⟨w.heap.size, 0, none⟩ = some (.slice (some ⟨b, off, none⟩) m cp) := cell1 ((HT.bel.block _ HLq.out.1).trans HCq.out)
          clear HT
          refine wpOp_want rfl 1 true rfl rfl (fun K hK => ?_)
          go_simp
          exact hK.out _ _ (.mk b0 b1 b2 true b4 b5 b6 b7 b8 b9 b10 b11 b12 b13 _ _ _ _ _ _ _ _ _ _ _ _ _ _ _ { HTH.out with h3 := fun _ => rfl })
         | 4, _, hi, hib =>
          have e1 : b1 = true := ready_dep hi rfl 1 (by kernel_rfl)
          have he1 := HT.h1 e1
          subst he1
          clear HT
          refine wpOp_want rfl 1 true rfl rfl (fun K hK => ?_)
          go_simp
          exact hK.out _ _ (.mk b0 b1 b2 b3 true b5 b6 b7 b8 b9 b10 b11 b12 b13 _ _ _ _ _ _ _ _ _ _ _ _ _ _ _ { HTH.out with h4 := fun _ => rfl })
         | 5, _, hi, hib =>
          have e1 : b1 = true := ready_dep hi rfl 1 (by kernel_rfl)
          have he1 := HT.h1 e1
          subst he1
          have d3 : b3 = true := ready_dep hi rfl 3 (by kernel_rfl)
          have hd3 := HT.h3 d3
          subst hd3
          have d4 : b4 = true := ready_dep hi rfl 4 (by kernel_rfl)
          have hd4 := HT.h4 d4
          subst hd4
          clear HT
          refine wpOp_want rfl 1 true rfl rfl (fun K hK => ?_)
          go_simp
          exact hK.out _ _ (.mk b0 b1 b2 b3 b4 true b6 b7 b8 b9 b10 b11 b12 b13 _ _ _ _ _ _ _ _ _ _ _ _ _ _ _ { HTH.out with h5 := fun _ => rfl })
         | 6, _, hi, hib =>
          have e1 : b1 = true := ready_dep hi rfl 1 (by kernel_rfl)
          have he1 := HT.h1 e1
          subst he1
          have d5 : b5 = true := ready_dep hi rfl 5 (by kernel_rfl)
          have hd5 := HT.h5 d5
          subst hd5
          have q0 : w'.cell? ⟨b, off + i, none⟩ = some (.slice (some ⟨bk, off2, none⟩) nj cj) := (HT.bel.cell (p := ⟨b, off + i, none⟩) HLq.out.2.1).trans HQq.out
          clear HT
          refine wpOp_want rfl 1 true rfl rfl (fun K hK => ?_)
          go_simp
          exact hK.out _ _ (.mk b0 b1 b2 b3 b4 b5 true b7 b8 b9 b10 b11 b12 b13 _ _ _ _ _ _ _ _ _ _ _ _ _ _ _ { HTH.out with h6 := fun _ => rfl })
         | 7, _, hi, hib =>
          have e1 : b1 = true := ready_dep hi rfl 1 (by kernel_rfl)
          have he1 := HT.h1 e1
          subst he1
          clear HT
          refine wpOp_want rfl 1 true rfl rfl (fun K hK => ?_)
          go_simp
          exact hK.out _ _ (.mk b0 b1 b2 b3 b4 b5 b6 true b8 b9 b10 b11 b12 b13 _ _ _ _ _ _ _ _ _ _ _ _ _ _ _ { HTH.out with h7 := fun _ => rfl })
         | 8, _, hi, hib =>
          have e1 : b1 = true := ready_dep hi rfl 1 (by kernel_rfl)
          have he1 := HT.h1 e1
          subst he1
          have d6 : b6 = true := ready_dep hi rfl 6 (by kernel_rfl)
          have hd6 := HT.h6 d6
          subst hd6
          have d7 : b7 = true := ready_dep hi rfl 7 (by kernel_rfl)
          have hd7 := HT.h7 d7
          subst hd7
          clear HT
          refine wpOp_want rfl 1 true rfl rfl (fun K hK => ?_)
          go_simp
          exact hK.out _ _ (.mk b0 b1 b2 b3 b4 b5 b6 b7 true b9 b10 b11 b12 b13 _ _ _ _ _ _ _ _ _ _ _ _ _ _ _ { HTH.out with h8 := fun _ => rfl })
         | 9, _, hi, hib =>
          have e1 : b1 = true := ready_dep hi rfl 1 (by kernel_rfl)
          have he1 := HT.h1 e1
          subst he1
          have d8 : b8 = true := ready_dep hi rfl 8 (by kernel_rfl)
          have hd8 := HT.h8 d8
          subst hd8
          have p0 := (HT.bel.cell (p := ⟨bk, off2 + k * 5, none⟩) HLq.out.2.2.1).trans HPq.out.1
          have p1 := (HT.bel.cell (p := ⟨bk, off2 + k * 5 + 1, none⟩) HLq.out.2.2.1).trans HPq.out.2.1
          have p2 := (HT.bel.cell (p := ⟨bk, off2 + k * 5 + 2, none⟩) HLq.out.2.2.1).trans HPq.out.2.2.1
          have p3 := (HT.bel.cell (p := ⟨bk, off2 + k * 5 + 3, none⟩) HLq.out.2.2.1).trans HPq.out.2.2.2.1
          have p4 := (HT.bel.cell (p := ⟨bk, off2 + k * 5 + 4, none⟩) HLq.out.2.2.1).trans HPq.out.2.2.2.2
          clear HT
          refine wpOp_want rfl 1 true rfl rfl (fun K hK => ?_)
          go_simp
          exact hK.out _ _ (.mk b0 b1 b2 b3 b4 b5 b6 b7 b8 true b10 b11 b12 b13 _ _ _ _ _ _ _ _ _ _ _ _ _ _ _ { HTH.out with h9 := fun _ => rfl })
         | 10, _, hi, hib =>
          have e1 : b1 = true := ready_dep hi rfl 1 (by kernel_rfl)
          have he1 := HT.h1 e1
          subst he1
          obtain ⟨y0, y1, y2, y3⟩ := cells4 ((HT.bel.block _ HLq.out.2.2.2).trans HYq.out)
          clear HT
          refine wpOp_want rfl 1 true rfl rfl (fun K hK => ?_)
          go_simp
          exact hK.out _ _ (.mk b0 b1 b2 b3 b4 b5 b6 b7 b8 b9 true b11 b12 b13 _ _ _ _ _ _ _ _ _ _ _ _ _ _ _ { HTH.out with h10 := fun _ => rfl })
         | 11, _, hi, hib =>
          have e1 : b1 = true := ready_dep hi rfl 1 (by kernel_rfl)
          have he1 := HT.h1 e1
          subst he1
          have d9 : b9 = true := ready_dep hi rfl 9 (by kernel_rfl)
          have hd9 := HT.h9 d9
          subst hd9
          have d10 : b10 = true := ready_dep hi rfl 10 (by kernel_rfl)
          have hd10 := HT.h10 d10
          subst hd10
          have HC := Lib.hid (RefOne_any x.op x.a x.b x.c x.s a c d s w' HXR.out HVR.out HSZ.out HSS.out)
          rw [show hasC x.op ⟨x.a, x.b, x.c, bs x.s⟩ ⟨a, c, d, bs s⟩ = q from HQV.out] at HC
          clear HT
          refine wpOp_want rfl 1 true rfl rfl (fun K hK => ?_)
          go_simp
          refine HC.out.mono ?_
          rintro e w2 ⟨rfl, hb⟩
          exact hK.out _ _ (.mk b0 b1 b2 b3 b4 b5 b6 b7 b8 b9 b10 true b12 b13 _ _ _ _ _ _ _ _ _ _ _ _ _ _ _ { HTH.out with bel := HTH.out.bel.trans (hb.mono HTH.out.bel.size), h11 := fun _ => rfl })
         | 12, _, hi, hib =>
          have d1 : b1 = true := ready_dep hi rfl 1 (by kernel_rfl)
          have hd1 := HT.h1 d1
          subst hd1
          have d11 : b11 = true := ready_dep hi rfl 11 (by kernel_rfl)
          have hd11 := HT.h11 d11
          subst hd11
          clear HT
          refine wpOp_one rfl rfl (fun K hK => ?_)
          go_simp
          exact hK.out _ _ (.mk b0 b1 b2 b3 b4 b5 b6 b7 b8 b9 b10 b11 true b13 _ _ _ _ _ _ _ _ _ _ _ _ _ _ _ { HTH.out with h12 := fun _ => rfl })
         | 13, _, hi, hib =>
          have d12 : b12 = true := ready_dep hi rfl 12 (by kernel_rfl)
          have hd12 := HT.h12 d12
          subst hd12
          have d0 : b0 = true := ready_dep hi rfl 0 (by kernel_rfl)
          clear HT
          refine wpOp_one rfl rfl (fun K hK => ?_)
          go_simp
          exact hK.out _ _ (.mk b0 b1 b2 b3 b4 b5 b6 b7 b8 b9 b10 b11 b12 true _ _ _ _ _ _ _ _ _ _ _ _ _ _ _ { HTH.out with h13 := fun _ => rfl, ini := fun h => by rw [d0] at h; cases h })
        case fin =>
         rintro lq a' w' ⟨b0, b1, b2, b3, b4, b5, b6, b7, b8, b9, b10, b11, b12, b13, v6, v33, v34, v35, v36, v37, v38, v39, v40, v41, v42, v43, v44, v45, _, HT⟩ hr
         obtain rfl : b0 = true := by
          cases b0 with
          | true => rfl
          | false => exact (ready_in 0 rfl rfl (by simp [Region.binds]) hr).elim
         obtain rfl : b1 = true := by
          cases b1 with
          | true => rfl
          | false => exact (ready_in 1 rfl rfl (by simp [Region.binds]) hr).elim
         obtain rfl : b2 = true := by
          cases b2 with
          | true => rfl
          | false => exact (ready_in 2 rfl rfl (by simp [Region.binds]) hr).elim
         obtain rfl : b3 = true := by
          cases b3 with
          | true => rfl
          | false => exact (ready_in 3 rfl rfl (by simp [Region.binds]) hr).elim
         obtain rfl : b4 = true := by
          cases b4 with
          | true => rfl
          | false => exact (ready_in 4 rfl rfl (by simp [Region.binds]) hr).elim
         obtain rfl : b5 = true := by
          cases b5 with
          | true => rfl
          | false => exact (ready_in 5 rfl rfl (by simp [Region.binds]) hr).elim
         obtain rfl : b6 = true := by
          cases b6 with
          | true => rfl
          | false => exact (ready_in 6 rfl rfl (by simp [Region.binds]) hr).elim
         obtain rfl : b7 = true := by
          cases b7 with
          | true => rfl
          | false => exact (ready_in 7 rfl rfl (by simp [Region.binds]) hr).elim
         obtain rfl : b8 = true := by
          cases b8 with
          | true => rfl
          | false => exact (ready_in 8 rfl rfl (by simp [Region.binds]) hr).elim
         obtain rfl : b9 = true := by
          cases b9 with
          | true => rfl
          | false => exact (ready_in 9 rfl rfl (by simp [Region.binds]) hr).elim
         obtain rfl : b10 = true := by
          cases b10 with
          | true => rfl
          | false => exact (ready_in 10 rfl rfl (by simp [Region.binds]) hr).elim
         obtain rfl : b11 = true := by
          cases b11 with
          | true => rfl
          | false => exact (ready_in 11 rfl rfl (by simp [Region.binds]) hr).elim
         obtain rfl : b12 = true := by
          cases b12 with
          | true => rfl
          | false => exact (ready_in 12 rfl rfl (by simp [Region.binds]) hr).elim
         obtain rfl : b13 = true := by
          cases b13 with
          | true => rfl
          | false => exact (ready_in 13 rfl rfl (by simp [Region.binds]) hr).elim
         have k0 := HT.h0 rfl
         subst k0
         have k1 := HT.h1 rfl
         subst k1
         have k2 := HT.h2 rfl
         subst k2
         have k3 := HT.h3 rfl
         subst k3
         have k4 := HT.h4 rfl
         subst k4
         have k5 := HT.h5 rfl
         subst k5
         have k6 := HT.h6 rfl
         subst k6
         have k7 := HT.h7 rfl
         subst k7
         have k8 := HT.h8 rfl
         subst k8
         have k9 := HT.h9 rfl
         subst k9
         have k10 := HT.h10 rfl
         subst k10
         have k11 := HT.h11 rfl
         subst k11
         have k12 := HT.h12 rfl
         subst k12
         have k13 := HT.h13 rfl
         subst k13
         have HF2 := Lib.hid (HBr.out.trans (HT.bel.mono HBr.out.size))
         clear HT hr
         show _
         go_wp2
         go_roundw
         case rel => exact ⟨k + 1, q, by omega, rfl, rfl, HO2, HF2⟩
         case measure => simp [intOf]; omega
      ·have hdk : decide ((k : Int) < (nj : Int)) = false := decide_eq_false (by omega)
       have HT : Hid (o = hasL l ⟨a, c, d, bs s⟩) := Lib.hid (by rw [HO.out, HVL.out, List.take_of_length_le (by rw [HNL.out]; omega)])
       cases o with
       | true =>
        have HQ : Hid (hasR r ⟨a, c, d, bs s⟩ = true) := Lib.hid (by rw [HV.out]; exact any_at (p := fun l => hasL l ⟨a, c, d, bs s⟩) HIL.out (by show hasL (lsAt r i) _ = true; rw [HLL.out]; exact HT.out.symm))
        go_wp2
        refine bodyPost_ret (results_tmp rfl _ _ _) rfl ⟨by rw [HQ.out]; rfl, HB0.out.trans ((HB.out.trans (HBr.out.mono HB.out.size)).mono HB0.out.size)⟩
       | false =>
        have HD2 : Hid (∀ j, j < i + 1 → hasL (lsAt r j) ⟨a, c, d, bs s⟩ = false) := Lib.hid (fun j hj => by
         rcases Nat.lt_succ_iff_lt_or_eq.1 hj with h | h
         ·exact HD.out j h
         ·subst h; rw [HLL.out]; exact HT.out.symm)
        go_wp2
        go_roundw
        case rel => exact ⟨i + 1, by omega, rfl, HD2, Lib.hid (HB.out.trans (HBr.out.mono HB.out.size))⟩
        case measure => simp [intOf]; omega
    ·have hd : decide ((i : Int) < (m : Int)) = false := decide_eq_false (by omega)
     have HT : Hid (hasR r ⟨a, c, d, bs s⟩ = false) := Lib.hid (by rw [HV.out]; exact any_not (p := fun l => hasL l ⟨a, c, d, bs s⟩) (fun j hj => HD.out j (by rw [HLE.out] at hj; omega)))
     go_wp2
     refine bodyPost_ret (results_tmp rfl _ _ _) rfl ⟨by rw [HT.out]; rfl, HB0.out.trans (HB.out.mono HB0.out.size)⟩
end Go.Proofs.YtminihiecloglaaGreat
