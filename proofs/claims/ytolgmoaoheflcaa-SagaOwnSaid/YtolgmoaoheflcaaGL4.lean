/-
 THE WALK of the statement SagaOwn (printed by gengl4.py).
-/
import Derived.Test.YtolgmoaoheflcaaGAn
import Derived.Test.YtolgmoaoheflcaaGOa
import Derived.Test.YtolgmoaoheflcaaGOd
namespace Go.Proofs.Ytolgmoaoheflcaa.Sa
open Go.RowKit
open DiP
set_option linter.unusedVariables false
set_option linter.unusedSimpArgs false
set_option maxRecDepth 10000
set_option maxHeartbeats 32000000 in
theorem law_own {w : World} {n c : Nat} {A : Option Addr} {l : List RcV} (h : RdL w w.heap.size A n l) (hca : CapA A n c) :
 Calls Try.prog 6 #[.slice A n c] w fun e w' => e = .returned (.bool true) ∧ Below w.heap.size w w' := by
 have HCA := Lib.hid hca
 clear hca
 have HLW := Lib.hid h
 have HLN : Hid (l.length = n) := Lib.hid h.len
 have hmx := h.mx
 have HAN := Lib.hid (anchor_any w)
 clear h
 go_enter Try.func6, Try.ntmps6
 go_wp2_with fail
 refine HAN.out.mono ?_
 rintro e wa ⟨rfl, hb⟩
 have HBA := Lib.hid hb
 have HLA := Lib.hid (HLW.out.below hb)
 clear hb HAN
 have HSB := Lib.hid (small_any (c := c) HLA.out HBA.out.size 40)
 obtain ⟨sm, HSM⟩ : ∃ q, Hid (smallB l 40 = q) := ⟨_, Lib.hid rfl⟩
 rw [HSM.out] at HSB
 cases sm with
 | false =>
  go_wp2_with fail
  refine HSB.out.mono ?_
  rintro e wb ⟨rfl, hb⟩
  have HBB := Lib.hid (HBA.out.trans (hb.mono HBA.out.size))
  clear hb
  go_wp2_with fail
  exact bodyPost_ret (results_tmp rfl _ _ _) rfl ⟨rfl, HBB.out⟩
 | true =>
 have HSZ := Lib.hid (smallB_sz HSM.out).1
 go_wp2_with fail
 refine HSB.out.mono ?_
 rintro e wb ⟨rfl, hb⟩
 have HBB := Lib.hid (HBA.out.trans (hb.mono HBA.out.size))
 clear hb HSB

 have HRP := Lib.hid (replay_any (w := wb) (c := c) (HLW.out.below HBB.out) HBB.out.size HSZ.out)
 go_wp2_with fail
 refine HRP.out.mono ?_
 rintro e wc ⟨hb, j, er, hrt, numS, phS, S1, e1, f1, S2, e2, f2, S3, e3, f3, S4, e4, f4, S5, e5, f5, S6, e6, f6, rfl, hst⟩
 have HRT := Lib.hid hrt
 obtain ⟨W, HW⟩ : ∃ W, Hid (W = (wc.alloc (.cells #[.int .i64 numS, .int .i64 phS, .slice S1 e1 f1, .slice S2 e2 f2, .slice S3 e3 f3, .slice S4 e4 f4, .slice S5 e5 f5, .slice S6 e6 f6] 31)).alloc (.cells #[.int .i64 0, .int .i64 0, .slice none 0 0, .slice none 0 0, .slice none 0 0, .slice none 0 0, .slice none 0 0, .slice none 0 0] 31)) := ⟨_, Lib.hid rfl⟩
 have hwb : Below wc.heap.size wc W := by rw [HW.out]; exact ((Below.refl _ wc).alloc (Nat.le_refl _) _).alloc (by simp) _
 have HBW : Hid (Below w.heap.size w W) := Lib.hid ((HBB.out.trans (hb.mono HBB.out.size)).trans (hwb.mono (HBB.out.trans (hb.mono HBB.out.size)).size))
 have HS0 : Hid (W.heap[wc.heap.size]? = some (.cells #[.int .i64 numS, .int .i64 phS, .slice S1 e1 f1, .slice S2 e2 f2, .slice S3 e3 f3, .slice S4 e4 f4, .slice S5 e5 f5, .slice S6 e6 f6] 31 (0, 0))) := Lib.hid (by rw [HW.out, Below.heap_alloc _ _ _ (by simp)]; exact heap_new wc _)
 have HT0 : Hid (W.heap[wc.heap.size + 1]? = some (.cells #[.int .i64 0, .int .i64 0, .slice none 0 0, .slice none 0 0, .slice none 0 0, .slice none 0 0, .slice none 0 0, .slice none 0 0] 31 (0, 0))) := Lib.hid (by
  rw [HW.out]
  have h := heap_new (wc.alloc (.cells #[.int .i64 numS, .int .i64 phS, .slice S1 e1 f1, .slice S2 e2 f2, .slice S3 e3 f3, .slice S4 e4 f4, .slice S5 e5 f5, .slice S6 e6 f6] 31)) (.cells #[.int .i64 0, .int .i64 0, .slice none 0 0, .slice none 0 0, .slice none 0 0, .slice none 0 0, .slice none 0 0, .slice none 0 0] 31)
  rw [World.size_alloc] at h; exact h)
 have HSS := Lib.hid hst
 have HWB := Lib.hid hwb
 have HSB : Hid (w.heap.size ≤ wc.heap.size + 1) := Lib.hid (Nat.le_trans (HBB.out.trans (hb.mono HBB.out.size)).size (Nat.le_succ _))
 have HLJ : Hid (j ≤ n) := Lib.hid (by rw [← HLN.out]; rcases HRT.out.2 with ⟨h, _⟩ | ⟨h, _⟩ <;> omega)
 have HIN : Hid (∀ k, k ≤ j → InvS (repS l k)) := Lib.hid (fun k hk => repS_inv k (fun i hi => HRT.out.1 i (by omega)))
 have hsl := fun (X : World) => slice_rec HCA.out HLJ.out X
 have hjn : j ≤ n := HLJ.out
 obtain ⟨sb, HSBE⟩ : ∃ q, Hid (wc.heap.size = q) := ⟨_, Lib.hid rfl⟩
 rw [HSBE.out] at HS0 HT0 HSB
 clear hb hrt hst hwb HRP
 go_upto_region 7 with fail
 change Code.wp _ _ _ _ ((wc.alloc (.cells #[.int .i64 numS, .int .i64 phS, .slice S1 e1 f1, .slice S2 e2 f2, .slice S3 e3 f3, .slice S4 e4 f4, .slice S5 e5 f5, .slice S6 e6 f6] 31)).alloc (.cells #[.int .i64 0, .int .i64 0, .slice none 0 0, .slice none 0 0, .slice none 0 0, .slice none 0 0, .slice none 0 0, .slice none 0 0] 31))
 rw [HSBE.out]
 rw [← HW.out]
 go_upto_region 8 with fail
 have HL := HLW
 go_loopw [8, 9, 10, 11, 12, 13, 14, 15, 33] (fun _ _ _ _ _ _ _ _ v wr => ∃ k : Nat, k ≤ j ∧ v = .int .i64 (k : Int) ∧ ∃ num ph A1 n1 c1 A2 n2 c2 A3 n3 c3 A4 n4 c4 A5 n5 c5 A6 n6 c6, Hid (Below (sb + 1) W wr) ∧ Hid (wr.heap[sb + 1]? = some (.cells #[.int .i64 num, .int .i64 ph, .slice A1 n1 c1, .slice A2 n2 c2, .slice A3 n3 c3, .slice A4 n4 c4, .slice A5 n5 c5, .slice A6 n6 c6] 31 (0, 0))) ∧ Hid (StO wr (sb + 2) num ph A1 n1 c1 A2 n2 c2 A3 n3 c3 A4 n4 c4 A5 n5 c5 A6 n6 c6 (repS l k))) (fun _ _ _ _ _ _ _ _ v _ => j - (intOf v).toNat)
 case atStart => exact ⟨0, Nat.zero_le _, rfl, 0, 0, none, 0, 0, none, 0, 0, none, 0, 0, none, 0, 0, none, 0, 0, none, 0, 0, Lib.hid (Below.refl _ _), HT0, Lib.hid StO.nil_⟩
 case round =>
  obtain ⟨wo, hwo⟩ : ∃ x, x = wr := ⟨_, rfl⟩
  subst hwo
  obtain ⟨k, hk, rfl, num, ph, A1, n1, c1, A2, n2, c2, A3, n3, c3, A4, n4, c4, A5, n5, c5, A6, n6, c6, HBo, HHo, HTo⟩ := hrel
  have HWo : Hid (Below w.heap.size w wo) := Lib.hid (HBW.out.trans (HBo.out.mono HSB.out))
  by_cases hkj : k < j
  ·have hd : decide ((k : Int) < (j : Int)) = true := by simp; omega
   have hki : (k : Int) < (j : Int) := by omega
   have hkn : k < n := by omega
   have hadd : IntKind.i64.wrap ((k : Int) + 1) = ((k + 1 : Nat) : Int) := by rw [IntWalk.i64_in _ (by omega)]; omega
   obtain ⟨b, off, BF, mF, dF, BT, mT, dT, BS, mS, dS, BE, mE, dE, hA, hbB, kc0, kc1, kc2, kc3, kc4, kc5, hp⟩ := HL.out.at_ k hkn
   subst hA
   have kc0 := (HWo.out.cell (p := ⟨b, off + k * 6, none⟩) hbB).trans kc0
   have kc1 := (HWo.out.cell (p := ⟨b, off + k * 6 + 1, none⟩) hbB).trans kc1
   have kc2 := (HWo.out.cell (p := ⟨b, off + k * 6 + 2, none⟩) hbB).trans kc2
   have kc3 := (HWo.out.cell (p := ⟨b, off + k * 6 + 3, none⟩) hbB).trans kc3
   have kc4 := (HWo.out.cell (p := ⟨b, off + k * 6 + 4, none⟩) hbB).trans kc4
   have kc5 := (HWo.out.cell (p := ⟨b, off + k * 6 + 5, none⟩) hbB).trans kc5
   have HPR := Lib.hid hp
   obtain ⟨kd, HKD⟩ : ∃ q, Hid ((rcAt l k).kind = q) := ⟨_, Lib.hid rfl⟩
   obtain ⟨sp, HSP⟩ : ∃ q, Hid ((rcAt l k).step = q) := ⟨_, Lib.hid rfl⟩
   obtain ⟨pl, HPL⟩ : ∃ q, Hid ((rcAt l k).pl = q) := ⟨_, Lib.hid rfl⟩
   rw [HKD.out] at kc0
   rw [HSP.out] at kc1
   rw [HPL.out] at HPR
   have HZB : Hid (szB pl = true) := Lib.hid (by rw [← HPL.out]; exact HSZ.out k (by rw [HLN.out]; exact hkn))
   clear hp
   obtain ⟨X0, HX0⟩ : ∃ X, Hid (X = wo.alloc (.cells #[.int .i64 kd, .int .i64 sp, .slice BF mF dF, .slice BT mT dT, .slice BS mS dS, .slice BE mE dE] 33)) := ⟨_, Lib.hid rfl⟩
   obtain ⟨X, HXE⟩ : ∃ X, Hid (X = X0.alloc (.cells #[.slice BF mF dF, .slice BT mT dT, .slice BS mS dS, .slice BE mE dE] 29)) := ⟨_, Lib.hid rfl⟩
   have hx0 : Below wo.heap.size wo X0 := by rw [HX0.out]; exact (Below.refl _ wo).alloc (Nat.le_refl _) _
   have hs0 : X0.heap.size = wo.heap.size + 1 := by rw [HX0.out]; simp
   have hxb : Below wo.heap.size wo X := by rw [HXE.out]; exact hx0.alloc hx0.size _
   have HBX : Hid (Below wo.heap.size wo X) := Lib.hid hxb
   have HK0 : Hid (X0.heap[wo.heap.size]? = some (.cells #[.int .i64 kd, .int .i64 sp, .slice BF mF dF, .slice BT mT dT, .slice BS mS dS, .slice BE mE dE] 33 (0, 0))) := Lib.hid (by rw [HX0.out]; exact heap_new wo _)
   have HK : Hid (X.heap[wo.heap.size]? = some (.cells #[.int .i64 kd, .int .i64 sp, .slice BF mF dF, .slice BT mT dT, .slice BS mS dS, .slice BE mE dE] 33 (0, 0))) := Lib.hid (by rw [HXE.out, Below.heap_alloc _ _ _ (by omega)]; exact HK0.out)
   have HP : Hid (X.heap[wo.heap.size + 1]? = some (.cells #[.slice BF mF dF, .slice BT mT dT, .slice BS mS dS, .slice BE mE dE] 29 (0, 0))) := Lib.hid (by rw [HXE.out, ← hs0]; exact heap_new X0 _)
   have HXS : Hid (X.heap.size = wo.heap.size + 2) := Lib.hid (by rw [HXE.out, World.size_alloc, hs0])
   have HWX : Hid (Below w.heap.size w X) := Lib.hid (HWo.out.trans (hxb.mono HWo.out.size))
   have HPX := Lib.hid ((HPR.out.below HWX.out).more HWo.out.size)
   obtain ⟨rb, HRB⟩ : ∃ q, Hid (wo.heap.size = q) := ⟨_, Lib.hid rfl⟩
   have HRBX : Hid (rb + 2 = X.heap.size) := Lib.hid (by rw [HXS.out, HRB.out])
   rw [HRB.out] at HK HP HPX HK0
   have HX1 : Hid (X0.heap.size = rb + 1) := Lib.hid (by rw [hs0, HRB.out])
   obtain ⟨r0, r1, r2, r3, r4, r5⟩ := row6 HK0.out
   clear hxb hx0 hs0 HXS
   go_upto_region 10 with fail
   change Code.wp _ _ _ _ (wo.alloc (.cells #[.int .i64 kd, .int .i64 sp, .slice BF mF dF, .slice BT mT dT, .slice BS mS dS, .slice BE mE dE] 33))
   rw [← HX0.out]
   rw [HRB.out]
   go_upto_region 11 with fail
   change Code.wp _ _ _ _ (X0.alloc (.cells #[.slice BF mF dF, .slice BT mT dT, .slice BS mS dS, .slice BE mE dE] 29))
   rw [HX1.out]
   rw [← HXE.out]
   clear r0 r1 r2 r3 r4 r5 kc0 kc1 kc2 kc3 kc4 kc5
   have HMX : Hid (mF ≤ 50 ∧ mT ≤ 50 ∧ mS ≤ 100 ∧ mE ≤ 200) := Lib.hid (HPX.out.plw HZB.out).sz
   refine wp_region_inv (by kernel_rfl) (I := OwJ X rb kd sp BF BT BS BE mF mT mS mE dF dT dS dE pl _ _ _ _ _ _ _ _ _ _ _ _ _ _ _ _ _ _ _ _ _ _ _ _ _ _ _ _ _ _ _ _ _ _ _ _ _ _ _ _ _ _ _ _ _ _ _ _ _ _ _ _ _ _ _ _ _ _ _ _ _ _ _ _ _ _ _ _ _ _ _ _ _ _ _ _ _ _ _ _ _ _ _ _ _ _ _ _ _ _ _ _ _ _ _ _ _ _ _ _ _ _ _ _ _ _ _ _ _ _ _ _ _ _ _ _ _ _ _ _ _ _ _ _ _ _ _ _ _ _ _ _ _ _ _ _ _ _ _ _) (.mk false false false false false false false false false false false false false false false false false false false _ _ _ _ _ _ _ _ _ _ _ _ _ _ _ _ _ _ _ ⟨⟨rfl, rfl, rfl⟩, fun _ _ _ => rfl, Nat.le_refl _, nofun, nofun, RowOk.none_ _ _ _ _ _ _ _ _ _, nofun, nofun, RowOk.none_ _ _ _ _ _ _ _ _ _, nofun, nofun, RowOk.none_ _ _ _ _ _ _ _ _ _, nofun, nofun, RowOk.none_ _ _ _ _ _ _ _ _ _, nofun, nofun, nofun, nofun, nofun, nofun, nofun, nofun, nofun, nofun, HK.out⟩) ?step ?fin
   case step =>
    rintro lq a' u' ix0 ⟨b0, b1, b2, b3, b4, b5, b6, b7, b8, b9, b10, b11, b12, b13, b14, b15, b16, b17, b18, v39, v40, v41, v42, v43, v44, v45, v46, v47, v48, v49, v50, v51, v52, v53, v54, v55, v56, _, HT⟩ hi
    obtain ⟨hi_, hib⟩ := ready_lt hi
    have HTH := Lib.hid HT
    match ix0, hi_, hi, hib with
    | 0, _, hi, hib =>
     obtain rfl : b0 = false := by simpa using hib
     obtain rfl : b3 = false := by
      cases hbl : b3 with
      | false => rfl
      | true => have h := HT.r0.ord hbl; cases h
     obtain rfl : b16 = false := by
      cases hbl : b16 with
      | false => rfl
      | true => have h := HT.o16 hbl; simp at h
     obtain rfl : b18 = false := by
      cases hbl : b18 with
      | false => rfl
      | true => have h := HT.o18 hbl; cases h
     clear HT
     refine wpOp_one rfl rfl (fun K hK => ?_)
     go_simp
     exact hK.out _ _ (.mk true b1 b2 false b4 b5 b6 b7 b8 b9 b10 b11 b12 b13 b14 b15 false b17 false _ _ _ _ _ _ _ _ _ _ _ _ _ _ _ _ _ _ _ { HTH.out with env := HTH.out.env, frm := fun k hk hg => (Below.heap_alloc _ _ _ (Nat.lt_of_lt_of_le hk HTH.out.sz)).trans (HTH.out.frm k hk hg), sz := Nat.le_trans HTH.out.sz (by simp), z := (Below.heap_alloc _ _ _ (heapE_lt HTH.out.z)).trans HTH.out.z, r0 := RowOk.start HTH.out.sz _ _ _, r1 := HTH.out.r1.alloc _, r2 := HTH.out.r2.alloc _, r3 := HTH.out.r3.alloc _, d01 := fun _ hj => (Dj.of (HTH.out.r1.lt hj) (ge_new _)).symm, d02 := fun _ hj => (Dj.of (HTH.out.r2.lt hj) (ge_new _)).symm, d03 := fun _ hj => (Dj.of (HTH.out.r3.lt hj) (ge_new _)).symm, bld := nofun, o16 := nofun, o18 := nofun })
    | 1, _, hi, hib =>
     obtain rfl : b1 = false := by simpa using hib
     clear HT
     refine wpOp_one rfl rfl (fun K hK => ?_)
     go_simp
     exact hK.out _ _ (.mk b0 true b2 b3 b4 b5 b6 b7 b8 b9 b10 b11 b12 b13 b14 b15 b16 b17 b18 _ _ _ _ _ _ _ _ _ _ _ _ _ _ _ _ _ _ _ { HTH.out with fa0 := fun _ => rfl })
    | 2, _, hi, hib =>
     obtain rfl : b2 = false := by simpa using hib
     have d1 : b1 = true := ready_dep hi rfl 1 (by kernel_rfl)
     have h0 := HT.fa0 d1
     subst h0
     obtain ⟨y0, y1, y2, y3⟩ := row4 ((HT.frm (rb + 1) (by have := HRBX.out; omega) (by omega)).trans HP.out)
     clear HT
     refine wpOp_one rfl rfl (fun K hK => ?_)
     go_simp
     exact hK.out _ _ (.mk b0 b1 true b3 b4 b5 b6 b7 b8 b9 b10 b11 b12 b13 b14 b15 b16 b17 b18 _ _ _ _ _ _ _ _ _ _ _ _ _ _ _ _ _ _ _ { HTH.out with ld0 := fun _ => rfl })
    | 3, _, hi, hib =>
     obtain rfl : b3 = false := by simpa using hib
     have d0 : b0 = true := ready_dep hi rfl 0 (by kernel_rfl)
     have d2 : b2 = true := ready_dep hi rfl 2 (by kernel_rfl)
     obtain rfl : b0 = true := d0
     obtain rfl : b16 = false := by
      cases hbl : b16 with
      | false => rfl
      | true => have h := HT.o16 hbl; simp at h
     obtain rfl : b18 = false := by
      cases hbl : b18 with
      | false => rfl
      | true => have h := HT.o18 hbl; cases h
     obtain ⟨g, hg0⟩ := HT.r0.e rfl rfl
     subst hg0
     have hl := HT.ld0 d2
     subst hl
     have hown : OwnF 3 1 inF u' X.heap.size (.slice (some ⟨g, 0, none⟩) 0 0) ([] : List (Int)) := HT.r0.own rfl
     have hge : X.heap.size ≤ g := hown.ge g rfl
     have HPZ : Hid (PlR u' rb BF mF BT mT BS mS BE mE pl) := Lib.hid (HPX.out.below ⟨HT.env.1, HT.env.2.1, HT.env.2.2, HT.sz, fun k hk => HT.frm k (by have := HRBX.out; omega) (by omega)⟩)
     have hc0 := HPZ.out.fs.cl (by have := HRBX.out; have := HT.sz; omega)
     have HZQ := Lib.hid HT.sz
     clear HT
     refine wpOp_one rfl rfl (fun K hK => ?_)
     refine opF_app0 (f := inF) (fun _ => rfl) (fun x u hu => by simp [inF] at hu; subst hu; rfl) Try.underlying25 infoIn rfl (by decide) (by decide) (.tmp 39) (.tmp 41) rfl X.heap.size g rfl hown BF mF dF pl.fs rfl hc0.1 hc0.2 (by have := HMX.out; omega) HZQ.out ?_
     intro A' c2 w2 ho hg hat
     go_simp
     exact hK.out _ _ (.mk true b1 b2 true b4 b5 b6 b7 b8 b9 b10 b11 b12 b13 b14 b15 false b17 false _ _ _ _ _ _ _ _ _ _ _ _ _ _ _ _ _ _ _ { HTH.out with env := ⟨hg.os.trans HTH.out.env.1, hg.tape.trans HTH.out.env.2.1, hg.output.trans HTH.out.env.2.2⟩, frm := fun k hk hne => (hg.block k (Nat.lt_of_lt_of_le hk HTH.out.sz) (fun e => by injection e with e; omega)).trans (HTH.out.frm k hk hne), sz := Nat.le_trans HTH.out.sz hg.size, z := (hg.block rb (heapE_lt HTH.out.z) (fun e => by injection e with e; have := HRBX.out; omega)).trans HTH.out.z, r0 := RowOk.app ho _, r1 := HTH.out.r1.other (u := .slice (some ⟨g, 0, none⟩) 0 0) hg (fun hb => (HTH.out.d01 rfl hb).symm), r2 := HTH.out.r2.other (u := .slice (some ⟨g, 0, none⟩) 0 0) hg (fun hb => (HTH.out.d02 rfl hb).symm), r3 := HTH.out.r3.other (u := .slice (some ⟨g, 0, none⟩) 0 0) hg (fun hb => (HTH.out.d03 rfl hb).symm), d01 := fun _ hb => (dj_app hat (HTH.out.d01 rfl hb).symm (HTH.out.r1.lt hb)).symm, d02 := fun _ hb => (dj_app hat (HTH.out.d02 rfl hb).symm (HTH.out.r2.lt hb)).symm, d03 := fun _ hb => (dj_app hat (HTH.out.d03 rfl hb).symm (HTH.out.r3.lt hb)).symm, bld := nofun, o16 := nofun, o18 := nofun })
    | 4, _, hi, hib =>
     obtain rfl : b4 = false := by simpa using hib
     obtain rfl : b7 = false := by
      cases hbl : b7 with
      | false => rfl
      | true => have h := HT.r1.ord hbl; cases h
     obtain rfl : b16 = false := by
      cases hbl : b16 with
      | false => rfl
      | true => have h := HT.o16 hbl; simp at h
     obtain rfl : b18 = false := by
      cases hbl : b18 with
      | false => rfl
      | true => have h := HT.o18 hbl; cases h
     clear HT
     refine wpOp_one rfl rfl (fun K hK => ?_)
     go_simp
     exact hK.out _ _ (.mk b0 b1 b2 b3 true b5 b6 false b8 b9 b10 b11 b12 b13 b14 b15 false b17 false _ _ _ _ _ _ _ _ _ _ _ _ _ _ _ _ _ _ _ { HTH.out with env := HTH.out.env, frm := fun k hk hg => (Below.heap_alloc _ _ _ (Nat.lt_of_lt_of_le hk HTH.out.sz)).trans (HTH.out.frm k hk hg), sz := Nat.le_trans HTH.out.sz (by simp), z := (Below.heap_alloc _ _ _ (heapE_lt HTH.out.z)).trans HTH.out.z, r1 := RowOk.start HTH.out.sz _ _ _, r0 := HTH.out.r0.alloc _, r2 := HTH.out.r2.alloc _, r3 := HTH.out.r3.alloc _, d01 := fun hj _ => Dj.of (HTH.out.r0.lt hj) (ge_new _), d12 := fun _ hj => (Dj.of (HTH.out.r2.lt hj) (ge_new _)).symm, d13 := fun _ hj => (Dj.of (HTH.out.r3.lt hj) (ge_new _)).symm, bld := nofun, o16 := nofun, o18 := nofun })
    | 5, _, hi, hib =>
     obtain rfl : b5 = false := by simpa using hib
     clear HT
     refine wpOp_one rfl rfl (fun K hK => ?_)
     go_simp
     exact hK.out _ _ (.mk b0 b1 b2 b3 b4 true b6 b7 b8 b9 b10 b11 b12 b13 b14 b15 b16 b17 b18 _ _ _ _ _ _ _ _ _ _ _ _ _ _ _ _ _ _ _ { HTH.out with fa1 := fun _ => rfl })
    | 6, _, hi, hib =>
     obtain rfl : b6 = false := by simpa using hib
     have d5 : b5 = true := ready_dep hi rfl 5 (by kernel_rfl)
     have h0 := HT.fa1 d5
     subst h0
     obtain ⟨y0, y1, y2, y3⟩ := row4 ((HT.frm (rb + 1) (by have := HRBX.out; omega) (by omega)).trans HP.out)
     clear HT
     refine wpOp_one rfl rfl (fun K hK => ?_)
     go_simp
     exact hK.out _ _ (.mk b0 b1 b2 b3 b4 b5 true b7 b8 b9 b10 b11 b12 b13 b14 b15 b16 b17 b18 _ _ _ _ _ _ _ _ _ _ _ _ _ _ _ _ _ _ _ { HTH.out with ld1 := fun _ => rfl })
    | 7, _, hi, hib =>
     obtain rfl : b7 = false := by simpa using hib
     have d4 : b4 = true := ready_dep hi rfl 4 (by kernel_rfl)
     have d6 : b6 = true := ready_dep hi rfl 6 (by kernel_rfl)
     obtain rfl : b4 = true := d4
     obtain rfl : b16 = false := by
      cases hbl : b16 with
      | false => rfl
      | true => have h := HT.o16 hbl; simp at h
     obtain rfl : b18 = false := by
      cases hbl : b18 with
      | false => rfl
      | true => have h := HT.o18 hbl; cases h
     obtain ⟨g, hg0⟩ := HT.r1.e rfl rfl
     subst hg0
     have hl := HT.ld1 d6
     subst hl
     have hown : OwnF 3 1 inF u' X.heap.size (.slice (some ⟨g, 0, none⟩) 0 0) ([] : List (Int)) := HT.r1.own rfl
     have hge : X.heap.size ≤ g := hown.ge g rfl
     have HPZ : Hid (PlR u' rb BF mF BT mT BS mS BE mE pl) := Lib.hid (HPX.out.below ⟨HT.env.1, HT.env.2.1, HT.env.2.2, HT.sz, fun k hk => HT.frm k (by have := HRBX.out; omega) (by omega)⟩)
     have hc0 := HPZ.out.ts.cl (by have := HRBX.out; have := HT.sz; omega)
     have HZQ := Lib.hid HT.sz
     clear HT
     refine wpOp_one rfl rfl (fun K hK => ?_)
     refine opF_app0 (f := inF) (fun _ => rfl) (fun x u hu => by simp [inF] at hu; subst hu; rfl) Try.underlying25 infoIn rfl (by decide) (by decide) (.tmp 43) (.tmp 45) rfl X.heap.size g rfl hown BT mT dT pl.ts rfl hc0.1 hc0.2 (by have := HMX.out; omega) HZQ.out ?_
     intro A' c2 w2 ho hg hat
     go_simp
     exact hK.out _ _ (.mk b0 b1 b2 b3 true b5 b6 true b8 b9 b10 b11 b12 b13 b14 b15 false b17 false _ _ _ _ _ _ _ _ _ _ _ _ _ _ _ _ _ _ _ { HTH.out with env := ⟨hg.os.trans HTH.out.env.1, hg.tape.trans HTH.out.env.2.1, hg.output.trans HTH.out.env.2.2⟩, frm := fun k hk hne => (hg.block k (Nat.lt_of_lt_of_le hk HTH.out.sz) (fun e => by injection e with e; omega)).trans (HTH.out.frm k hk hne), sz := Nat.le_trans HTH.out.sz hg.size, z := (hg.block rb (heapE_lt HTH.out.z) (fun e => by injection e with e; have := HRBX.out; omega)).trans HTH.out.z, r1 := RowOk.app ho _, r0 := HTH.out.r0.other (u := .slice (some ⟨g, 0, none⟩) 0 0) hg (fun hb => HTH.out.d01 hb rfl), r2 := HTH.out.r2.other (u := .slice (some ⟨g, 0, none⟩) 0 0) hg (fun hb => (HTH.out.d12 rfl hb).symm), r3 := HTH.out.r3.other (u := .slice (some ⟨g, 0, none⟩) 0 0) hg (fun hb => (HTH.out.d13 rfl hb).symm), d01 := fun hb _ => dj_app hat (HTH.out.d01 hb rfl) (HTH.out.r0.lt hb), d12 := fun _ hb => (dj_app hat (HTH.out.d12 rfl hb).symm (HTH.out.r2.lt hb)).symm, d13 := fun _ hb => (dj_app hat (HTH.out.d13 rfl hb).symm (HTH.out.r3.lt hb)).symm, bld := nofun, o16 := nofun, o18 := nofun })
    | 8, _, hi, hib =>
     obtain rfl : b8 = false := by simpa using hib
     obtain rfl : b11 = false := by
      cases hbl : b11 with
      | false => rfl
      | true => have h := HT.r2.ord hbl; cases h
     obtain rfl : b16 = false := by
      cases hbl : b16 with
      | false => rfl
      | true => have h := HT.o16 hbl; simp at h
     obtain rfl : b18 = false := by
      cases hbl : b18 with
      | false => rfl
      | true => have h := HT.o18 hbl; cases h
     clear HT
     refine wpOp_one rfl rfl (fun K hK => ?_)
     go_simp
     exact hK.out _ _ (.mk b0 b1 b2 b3 b4 b5 b6 b7 true b9 b10 false b12 b13 b14 b15 false b17 false _ _ _ _ _ _ _ _ _ _ _ _ _ _ _ _ _ _ _ { HTH.out with env := HTH.out.env, frm := fun k hk hg => (Below.heap_alloc _ _ _ (Nat.lt_of_lt_of_le hk HTH.out.sz)).trans (HTH.out.frm k hk hg), sz := Nat.le_trans HTH.out.sz (by simp), z := (Below.heap_alloc _ _ _ (heapE_lt HTH.out.z)).trans HTH.out.z, r2 := RowOk.start HTH.out.sz _ _ _, r0 := HTH.out.r0.alloc _, r1 := HTH.out.r1.alloc _, r3 := HTH.out.r3.alloc _, d02 := fun hj _ => Dj.of (HTH.out.r0.lt hj) (ge_new _), d12 := fun hj _ => Dj.of (HTH.out.r1.lt hj) (ge_new _), d23 := fun _ hj => (Dj.of (HTH.out.r3.lt hj) (ge_new _)).symm, bld := nofun, o16 := nofun, o18 := nofun })
    | 9, _, hi, hib =>
     obtain rfl : b9 = false := by simpa using hib
     clear HT
     refine wpOp_one rfl rfl (fun K hK => ?_)
     go_simp
     exact hK.out _ _ (.mk b0 b1 b2 b3 b4 b5 b6 b7 b8 true b10 b11 b12 b13 b14 b15 b16 b17 b18 _ _ _ _ _ _ _ _ _ _ _ _ _ _ _ _ _ _ _ { HTH.out with fa2 := fun _ => rfl })
    | 10, _, hi, hib =>
     obtain rfl : b10 = false := by simpa using hib
     have d9 : b9 = true := ready_dep hi rfl 9 (by kernel_rfl)
     have h0 := HT.fa2 d9
     subst h0
     obtain ⟨y0, y1, y2, y3⟩ := row4 ((HT.frm (rb + 1) (by have := HRBX.out; omega) (by omega)).trans HP.out)
     clear HT
     refine wpOp_one rfl rfl (fun K hK => ?_)
     go_simp
     exact hK.out _ _ (.mk b0 b1 b2 b3 b4 b5 b6 b7 b8 b9 true b11 b12 b13 b14 b15 b16 b17 b18 _ _ _ _ _ _ _ _ _ _ _ _ _ _ _ _ _ _ _ { HTH.out with ld2 := fun _ => rfl })
    | 11, _, hi, hib =>
     obtain rfl : b11 = false := by simpa using hib
     have d8 : b8 = true := ready_dep hi rfl 8 (by kernel_rfl)
     have d10 : b10 = true := ready_dep hi rfl 10 (by kernel_rfl)
     obtain rfl : b8 = true := d8
     obtain rfl : b16 = false := by
      cases hbl : b16 with
      | false => rfl
      | true => have h := HT.o16 hbl; simp at h
     obtain rfl : b18 = false := by
      cases hbl : b18 with
      | false => rfl
      | true => have h := HT.o18 hbl; cases h
     obtain ⟨g, hg0⟩ := HT.r2.e rfl rfl
     subst hg0
     have hl := HT.ld2 d10
     subst hl
     have hown : OwnF 71 2 prF u' X.heap.size (.slice (some ⟨g, 0, none⟩) 0 0) ([] : List (Int × Int)) := HT.r2.own rfl
     have hge : X.heap.size ≤ g := hown.ge g rfl
     have HPZ : Hid (PlR u' rb BF mF BT mT BS mS BE mE pl) := Lib.hid (HPX.out.below ⟨HT.env.1, HT.env.2.1, HT.env.2.2, HT.sz, fun k hk => HT.frm k (by have := HRBX.out; omega) (by omega)⟩)
     have hc0 := HPZ.out.S.cl (by have := HRBX.out; have := HT.sz; omega)
     have HZQ := Lib.hid HT.sz
     clear HT
     refine wpOp_one rfl rfl (fun K hK => ?_)
     refine opF_app0 (f := prF) (fun _ => rfl) (fun x u hu => by simp [prF] at hu; rcases hu with rfl | rfl <;> rfl) Try.underlying26 infoSt rfl (by decide) (by decide) (.tmp 47) (.tmp 49) rfl X.heap.size g rfl hown BS mS dS pl.S rfl hc0.1 hc0.2 (by have := HMX.out; omega) HZQ.out ?_
     intro A' c2 w2 ho hg hat
     go_simp
     exact hK.out _ _ (.mk b0 b1 b2 b3 b4 b5 b6 b7 true b9 b10 true b12 b13 b14 b15 false b17 false _ _ _ _ _ _ _ _ _ _ _ _ _ _ _ _ _ _ _ { HTH.out with env := ⟨hg.os.trans HTH.out.env.1, hg.tape.trans HTH.out.env.2.1, hg.output.trans HTH.out.env.2.2⟩, frm := fun k hk hne => (hg.block k (Nat.lt_of_lt_of_le hk HTH.out.sz) (fun e => by injection e with e; omega)).trans (HTH.out.frm k hk hne), sz := Nat.le_trans HTH.out.sz hg.size, z := (hg.block rb (heapE_lt HTH.out.z) (fun e => by injection e with e; have := HRBX.out; omega)).trans HTH.out.z, r2 := RowOk.app ho _, r0 := HTH.out.r0.other (u := .slice (some ⟨g, 0, none⟩) 0 0) hg (fun hb => HTH.out.d02 hb rfl), r1 := HTH.out.r1.other (u := .slice (some ⟨g, 0, none⟩) 0 0) hg (fun hb => HTH.out.d12 hb rfl), r3 := HTH.out.r3.other (u := .slice (some ⟨g, 0, none⟩) 0 0) hg (fun hb => (HTH.out.d23 rfl hb).symm), d02 := fun hb _ => dj_app hat (HTH.out.d02 hb rfl) (HTH.out.r0.lt hb), d12 := fun hb _ => dj_app hat (HTH.out.d12 hb rfl) (HTH.out.r1.lt hb), d23 := fun _ hb => (dj_app hat (HTH.out.d23 rfl hb).symm (HTH.out.r3.lt hb)).symm, bld := nofun, o16 := nofun, o18 := nofun })
    | 12, _, hi, hib =>
     obtain rfl : b12 = false := by simpa using hib
     obtain rfl : b15 = false := by
      cases hbl : b15 with
      | false => rfl
      | true => have h := HT.r3.ord hbl; cases h
     obtain rfl : b16 = false := by
      cases hbl : b16 with
      | false => rfl
      | true => have h := HT.o16 hbl; simp at h
     obtain rfl : b18 = false := by
      cases hbl : b18 with
      | false => rfl
      | true => have h := HT.o18 hbl; cases h
     clear HT
     refine wpOp_one rfl rfl (fun K hK => ?_)
     go_simp
     exact hK.out _ _ (.mk b0 b1 b2 b3 b4 b5 b6 b7 b8 b9 b10 b11 true b13 b14 false false b17 false _ _ _ _ _ _ _ _ _ _ _ _ _ _ _ _ _ _ _ { HTH.out with env := HTH.out.env, frm := fun k hk hg => (Below.heap_alloc _ _ _ (Nat.lt_of_lt_of_le hk HTH.out.sz)).trans (HTH.out.frm k hk hg), sz := Nat.le_trans HTH.out.sz (by simp), z := (Below.heap_alloc _ _ _ (heapE_lt HTH.out.z)).trans HTH.out.z, r3 := RowOk.start HTH.out.sz _ _ _, r0 := HTH.out.r0.alloc _, r1 := HTH.out.r1.alloc _, r2 := HTH.out.r2.alloc _, d03 := fun hj _ => Dj.of (HTH.out.r0.lt hj) (ge_new _), d13 := fun hj _ => Dj.of (HTH.out.r1.lt hj) (ge_new _), d23 := fun hj _ => Dj.of (HTH.out.r2.lt hj) (ge_new _), bld := nofun, o16 := nofun, o18 := nofun })
    | 13, _, hi, hib =>
     obtain rfl : b13 = false := by simpa using hib
     clear HT
     refine wpOp_one rfl rfl (fun K hK => ?_)
     go_simp
     exact hK.out _ _ (.mk b0 b1 b2 b3 b4 b5 b6 b7 b8 b9 b10 b11 b12 true b14 b15 b16 b17 b18 _ _ _ _ _ _ _ _ _ _ _ _ _ _ _ _ _ _ _ { HTH.out with fa3 := fun _ => rfl })
    | 14, _, hi, hib =>
     obtain rfl : b14 = false := by simpa using hib
     have d13 : b13 = true := ready_dep hi rfl 13 (by kernel_rfl)
     have h0 := HT.fa3 d13
     subst h0
     obtain ⟨y0, y1, y2, y3⟩ := row4 ((HT.frm (rb + 1) (by have := HRBX.out; omega) (by omega)).trans HP.out)
     clear HT
     refine wpOp_one rfl rfl (fun K hK => ?_)
     go_simp
     exact hK.out _ _ (.mk b0 b1 b2 b3 b4 b5 b6 b7 b8 b9 b10 b11 b12 b13 true b15 b16 b17 b18 _ _ _ _ _ _ _ _ _ _ _ _ _ _ _ _ _ _ _ { HTH.out with ld3 := fun _ => rfl })
    | 15, _, hi, hib =>
     obtain rfl : b15 = false := by simpa using hib
     have d12 : b12 = true := ready_dep hi rfl 12 (by kernel_rfl)
     have d14 : b14 = true := ready_dep hi rfl 14 (by kernel_rfl)
     obtain rfl : b12 = true := d12
     obtain rfl : b16 = false := by
      cases hbl : b16 with
      | false => rfl
      | true => have h := HT.o16 hbl; simp at h
     obtain rfl : b18 = false := by
      cases hbl : b18 with
      | false => rfl
      | true => have h := HT.o18 hbl; cases h
     obtain ⟨g, hg0⟩ := HT.r3.e rfl rfl
     subst hg0
     have hl := HT.ld3 d14
     subst hl
     have hown : OwnF 90 2 prF u' X.heap.size (.slice (some ⟨g, 0, none⟩) 0 0) ([] : List (Int × Int)) := HT.r3.own rfl
     have hge : X.heap.size ≤ g := hown.ge g rfl
     have HPZ : Hid (PlR u' rb BF mF BT mT BS mS BE mE pl) := Lib.hid (HPX.out.below ⟨HT.env.1, HT.env.2.1, HT.env.2.2, HT.sz, fun k hk => HT.frm k (by have := HRBX.out; omega) (by omega)⟩)
     have hc0 := HPZ.out.E.cl (by have := HRBX.out; have := HT.sz; omega)
     have HZQ := Lib.hid HT.sz
     clear HT
     refine wpOp_one rfl rfl (fun K hK => ?_)
     refine opF_app0 (f := prF) (fun _ => rfl) (fun x u hu => by simp [prF] at hu; rcases hu with rfl | rfl <;> rfl) Try.underlying27 infoPr rfl (by decide) (by decide) (.tmp 51) (.tmp 53) rfl X.heap.size g rfl hown BE mE dE pl.E rfl hc0.1 hc0.2 (by have := HMX.out; omega) HZQ.out ?_
     intro A' c2 w2 ho hg hat
     go_simp
     exact hK.out _ _ (.mk b0 b1 b2 b3 b4 b5 b6 b7 b8 b9 b10 b11 true b13 b14 true false b17 false _ _ _ _ _ _ _ _ _ _ _ _ _ _ _ _ _ _ _ { HTH.out with env := ⟨hg.os.trans HTH.out.env.1, hg.tape.trans HTH.out.env.2.1, hg.output.trans HTH.out.env.2.2⟩, frm := fun k hk hne => (hg.block k (Nat.lt_of_lt_of_le hk HTH.out.sz) (fun e => by injection e with e; omega)).trans (HTH.out.frm k hk hne), sz := Nat.le_trans HTH.out.sz hg.size, z := (hg.block rb (heapE_lt HTH.out.z) (fun e => by injection e with e; have := HRBX.out; omega)).trans HTH.out.z, r3 := RowOk.app ho _, r0 := HTH.out.r0.other (u := .slice (some ⟨g, 0, none⟩) 0 0) hg (fun hb => HTH.out.d03 hb rfl), r1 := HTH.out.r1.other (u := .slice (some ⟨g, 0, none⟩) 0 0) hg (fun hb => HTH.out.d13 hb rfl), r2 := HTH.out.r2.other (u := .slice (some ⟨g, 0, none⟩) 0 0) hg (fun hb => HTH.out.d23 hb rfl), d03 := fun hb _ => dj_app hat (HTH.out.d03 hb rfl) (HTH.out.r0.lt hb), d13 := fun hb _ => dj_app hat (HTH.out.d13 hb rfl) (HTH.out.r1.lt hb), d23 := fun hb _ => dj_app hat (HTH.out.d23 hb rfl) (HTH.out.r2.lt hb), bld := nofun, o16 := nofun, o18 := nofun })
    | 16, _, hi, hib =>
     obtain rfl : b16 = false := by simpa using hib
     have d3 : b3 = true := ready_dep hi rfl 3 (by kernel_rfl)
     have d7 : b7 = true := ready_dep hi rfl 7 (by kernel_rfl)
     have d11 : b11 = true := ready_dep hi rfl 11 (by kernel_rfl)
     have d15 : b15 = true := ready_dep hi rfl 15 (by kernel_rfl)
     obtain ⟨A1, c1q, e42⟩ := HT.r0.e2 d3
     obtain ⟨A2, c2q, e46⟩ := HT.r1.e2 d7
     obtain ⟨A3, c3q, e50⟩ := HT.r2.e2 d11
     obtain ⟨A4, c4q, e54⟩ := HT.r3.e2 d15
     subst e42 e46 e50 e54
     clear HT
     refine wpOp_one rfl rfl (fun K hK => ?_)
     go_simp
     exact hK.out _ _ (.mk b0 b1 b2 b3 b4 b5 b6 b7 b8 b9 b10 b11 b12 b13 b14 b15 true b17 b18 _ _ _ _ _ _ _ _ _ _ _ _ _ _ _ _ _ _ _ { HTH.out with bld := fun _ => ⟨_, _, _, _, _, _, _, _, rfl, rfl, rfl, rfl, rfl⟩, o16 := fun _ => ⟨d3, d7, d11, d15⟩, o18 := fun _ => rfl })
    | 17, _, hi, hib =>
     obtain rfl : b17 = false := by simpa using hib
     clear HT
     refine wpOp_one rfl rfl (fun K hK => ?_)
     go_simp
     exact hK.out _ _ (.mk b0 b1 b2 b3 b4 b5 b6 b7 b8 b9 b10 b11 b12 b13 b14 b15 b16 true b18 _ _ _ _ _ _ _ _ _ _ _ _ _ _ _ _ _ _ _ { HTH.out with fa4 := fun _ => rfl })
    | 18, _, hi, hib =>
     obtain rfl : b18 = false := by simpa using hib
     have d16 : b16 = true := ready_dep hi rfl 16 (by kernel_rfl)
     have d17 : b17 = true := ready_dep hi rfl 17 (by kernel_rfl)
     obtain ⟨A1, g1, A2, g2, A3, g3, A4, g4, e42, e46, e50, e54, e55⟩ := HT.bld d16
     subst e42 e46 e50 e54 e55
     have h0 := HT.fa4 d17
     subst h0
     have HH : Hid (u'.heap[rb]? = some (.cells #[.int .i64 kd, .int .i64 sp, .slice BF mF dF, .slice BT mT dT, .slice BS mS dS, .slice BE mE dE] 33 (0, 0))) := Lib.hid HT.z
     obtain ⟨q0, q1, q2, q3, q4, q5⟩ := row6 HH.out
     have hfr := free_row HH.out
     clear HT
     refine wpOp_one rfl rfl (fun K hK => ?_)
     go_simp
     have hset : (set4o u' rb (.slice A1 mF g1) (.slice A2 mT g2) (.slice A3 mS g3) (.slice A4 mE g4)).heap[rb]? = _ := set4o_same HH.out
     have hrb2 : (Addr.mk rb 2 none).block < X.heap.size := by show rb < _; have := HRBX.out; omega
     have hrb3 : (Addr.mk rb 3 none).block < X.heap.size := by show rb < _; have := HRBX.out; omega
     have hrb4 : (Addr.mk rb 4 none).block < X.heap.size := by show rb < _; have := HRBX.out; omega
     have hrb5 : (Addr.mk rb 5 none).block < X.heap.size := by show rb < _; have := HRBX.out; omega
     exact hK.out _ _ (.mk b0 b1 b2 b3 b4 b5 b6 b7 b8 b9 b10 b11 b12 b13 b14 b15 b16 b17 true _ _ _ _ _ _ _ _ _ _ _ _ _ _ _ _ _ _ (set4o u' rb (.slice A1 mF g1) (.slice A2 mT g2) (.slice A3 mS g3) (.slice A4 mE g4)) { HTH.out with env := HTH.out.env, frm := fun k hk hne => (set4o_other hne).trans (HTH.out.frm k hk hne), sz := Nat.le_trans HTH.out.sz (Nat.le_of_eq (set4o_size _ _ _ _ _ _).symm), z := hset, o18 := fun _ => d16, r0 := (((HTH.out.r0.setC hrb2 _).setC hrb3 _).setC hrb4 _).setC hrb5 _, r1 := (((HTH.out.r1.setC hrb2 _).setC hrb3 _).setC hrb4 _).setC hrb5 _, r2 := (((HTH.out.r2.setC hrb2 _).setC hrb3 _).setC hrb4 _).setC hrb5 _, r3 := (((HTH.out.r3.setC hrb2 _).setC hrb3 _).setC hrb4 _).setC hrb5 _ })
   case fin =>
    rintro lq a' yc ⟨b0, b1, b2, b3, b4, b5, b6, b7, b8, b9, b10, b11, b12, b13, b14, b15, b16, b17, b18, v39, v40, v41, v42, v43, v44, v45, v46, v47, v48, v49, v50, v51, v52, v53, v54, v55, v56, _, HT⟩ hr
    obtain rfl : b0 = true := by
     cases b0 with
     | true => rfl
     | false => exact (ready_in 0 rfl rfl (by simp [Region.binds]) hr).elim
    obtain rfl : b1 = true := by
     cases b1 with
     | true => rfl
     | false => exact (ready_in 1 rfl rfl (by simp [Region.binds]) hr).elim
    obtain rfl : b2 = true := by
     cases b2 with
     | true => rfl
     | false => exact (ready_in 2 rfl rfl (by simp [Region.binds]) hr).elim
    obtain rfl : b3 = true := by
     cases b3 with
     | true => rfl
     | false => exact (ready_in 3 rfl rfl (by simp [Region.binds]) hr).elim
    obtain rfl : b4 = true := by
     cases b4 with
     | true => rfl
     | false => exact (ready_in 4 rfl rfl (by simp [Region.binds]) hr).elim
    obtain rfl : b5 = true := by
     cases b5 with
     | true => rfl
     | false => exact (ready_in 5 rfl rfl (by simp [Region.binds]) hr).elim
    obtain rfl : b6 = true := by
     cases b6 with
     | true => rfl
     | false => exact (ready_in 6 rfl rfl (by simp [Region.binds]) hr).elim
    obtain rfl : b7 = true := by
     cases b7 with
     | true => rfl
     | false => exact (ready_in 7 rfl rfl (by simp [Region.binds]) hr).elim
    obtain rfl : b8 = true := by
     cases b8 with
     | true => rfl
     | false => exact (ready_in 8 rfl rfl (by simp [Region.binds]) hr).elim
    obtain rfl : b9 = true := by
     cases b9 with
     | true => rfl
     | false => exact (ready_in 9 rfl rfl (by simp [Region.binds]) hr).elim
    obtain rfl : b10 = true := by
     cases b10 with
     | true => rfl
     | false => exact (ready_in 10 rfl rfl (by simp [Region.binds]) hr).elim
    obtain rfl : b11 = true := by
     cases b11 with
     | true => rfl
     | false => exact (ready_in 11 rfl rfl (by simp [Region.binds]) hr).elim
    obtain rfl : b12 = true := by
     cases b12 with
     | true => rfl
     | false => exact (ready_in 12 rfl rfl (by simp [Region.binds]) hr).elim
    obtain rfl : b13 = true := by
     cases b13 with
     | true => rfl
     | false => exact (ready_in 13 rfl rfl (by simp [Region.binds]) hr).elim
    obtain rfl : b14 = true := by
     cases b14 with
     | true => rfl
     | false => exact (ready_in 14 rfl rfl (by simp [Region.binds]) hr).elim
    obtain rfl : b15 = true := by
     cases b15 with
     | true => rfl
     | false => exact (ready_in 15 rfl rfl (by simp [Region.binds]) hr).elim
    obtain rfl : b16 = true := by
     cases b16 with
     | true => rfl
     | false => exact (ready_in 16 rfl rfl (by simp [Region.binds]) hr).elim
    obtain rfl : b17 = true := by
     cases b17 with
     | true => rfl
     | false => exact (ready_in 17 rfl rfl (by simp [Region.binds]) hr).elim
    obtain rfl : b18 = true := by
     cases b18 with
     | true => rfl
     | false => exact (ready_in 18 rfl rfl (by simp [Region.binds]) hr).elim
    obtain ⟨P1, g1, P2, g2, P3, g3, P4, g4, e42, e46, e50, e54, e55⟩ := HT.bld rfl
    subst e42 e46 e50 e54 e55
    have HPY : Hid (PlO yc X.heap.size P1 mF g1 P2 mT g2 P3 mS g3 P4 mE g4 pl) := Lib.hid ⟨HT.r0.own rfl, HT.r1.own rfl, HT.r2.own rfl, HT.r3.own rfl, HMX.out⟩
    have HHY : Hid (yc.heap[rb]? = some (.cells #[.int .i64 kd, .int .i64 sp, .slice P1 mF g1, .slice P2 mT g2, .slice P3 mS g3, .slice P4 mE g4] 33 (0, 0))) := Lib.hid HT.z
    have HBY : Hid (Below rb X yc) := Lib.hid ⟨HT.env.1, HT.env.2.1, HT.env.2.2, HT.sz, fun k hk => HT.frm k (by have := HRBX.out; omega) (by omega)⟩
    have HYS := Lib.hid HT.sz
    have k0 := HT.fa0 rfl
    subst k0
    have j0 := HT.ld0 rfl
    subst j0
    have k1 := HT.fa1 rfl
    subst k1
    have j1 := HT.ld1 rfl
    subst j1
    have k2 := HT.fa2 rfl
    subst k2
    have j2 := HT.ld2 rfl
    subst j2
    have k3 := HT.fa3 rfl
    subst k3
    have j3 := HT.ld3 rfl
    subst j3
    have k4 := HT.fa4 rfl
    subst k4
    clear HT hr
    have HRO := Lib.hid HRB.out
    have HBO : Hid (Below wo.heap.size wo yc) := Lib.hid (HBX.out.trans (HBY.out.mono (Nat.le_of_eq HRB.out)))
    have HTY := Lib.hid (HTo.out.kept HBO.out)
    have HHYT : Hid (yc.heap[sb + 1]? = some (.cells #[.int .i64 num, .int .i64 ph, .slice A1 n1 c1, .slice A2 n2 c2, .slice A3 n3 c3, .slice A4 n4 c4, .slice A5 n5 c5, .slice A6 n6 c6] 31 (0, 0))) := Lib.hid ((HBO.out.block _ (heapE_lt HHo.out)).trans HHo.out)
    have HSL : Hid (sb + 1 < rb) := Lib.hid (by have := heapE_lt HHo.out; have := HRB.out; omega)
    have HRW : Hid (RcW yc yc.heap.size kd sp P1 mF P2 mT P3 mS P4 mE (rcAt l k)) := Lib.hid ⟨by rw [HPL.out]; exact HPY.out.plw, HKD.out, HSP.out⟩
    have HC := Lib.hid (take_any (w := yc) (r := rcAt l k) (dF := g1) (dT := g2) (dS := g3) (dE := g4) HTY.out (HIN.out k (by omega)) HRW.out (Nat.le_refl _))
    have HE0 : Hid (takeE (repS l k) (rcAt l k) = 0) := Lib.hid (HRT.out.1 k hkj)
    obtain ⟨x0, x1, x2, x3, x4, x5, x6, x7⟩ := row8 HHYT.out
    obtain ⟨q0, q1, q2, q3, q4, q5⟩ := row6 HHY.out
    go_wp2_with fail
    refine HC.out.mono ?_
    rintro e w1 ⟨hb, hc⟩
    rcases hc with ⟨hne, _⟩ | ⟨_, num2, ph2, C1, m1, d1, C2, m2, d2, C3, m3, d3, C4, m4, d4, C5, m5, d5, C6, m6, d6, rfl, hst⟩
    ·exact absurd HE0.out hne
    have HB1 := Lib.hid hb
    have HST := Lib.hid hst
    clear hb hst q0 q1 q2 q3 q4 q5 x0 x1 x2 x3 x4 x5 x6 x7 HC
    obtain ⟨Z1, HZE⟩ : ∃ Y, Hid (Y = w1.alloc (.cells #[.int .i64 num2, .int .i64 ph2, .slice C1 m1 d1, .slice C2 m2 d2, .slice C3 m3 d3, .slice C4 m4 d4, .slice C5 m5 d5, .slice C6 m6 d6] 31)) := ⟨_, Lib.hid rfl⟩
    have hzb : Below w1.heap.size w1 Z1 := by rw [HZE.out]; exact (Below.refl _ w1).alloc (Nat.le_refl _) _
    have HNZ : Hid (Z1.heap[w1.heap.size]? = some (.cells #[.int .i64 num2, .int .i64 ph2, .slice C1 m1 d1, .slice C2 m2 d2, .slice C3 m3 d3, .slice C4 m4 d4, .slice C5 m5 d5, .slice C6 m6 d6] 31 (0, 0))) := Lib.hid (by rw [HZE.out]; exact heap_new w1 _)
    have HYZ : Hid (Below yc.heap.size yc Z1) := Lib.hid (HB1.out.trans (hzb.mono HB1.out.size))
    have HSTZ := Lib.hid (HST.out.kept hzb)
    have HOZ : Hid (Below wo.heap.size wo Z1) := Lib.hid (HBO.out.trans (HYZ.out.mono HBO.out.size))
    have HHZ : Hid (Z1.heap[rb]? = some (.cells #[.int .i64 kd, .int .i64 sp, .slice P1 mF g1, .slice P2 mT g2, .slice P3 mS g3, .slice P4 mE g4] 33 (0, 0))) := Lib.hid ((HYZ.out.block _ (heapE_lt HHY.out)).trans HHY.out)
    have HHZT : Hid (Z1.heap[sb + 1]? = some (.cells #[.int .i64 num, .int .i64 ph, .slice A1 n1 c1, .slice A2 n2 c2, .slice A3 n3 c3, .slice A4 n4 c4, .slice A5 n5 c5, .slice A6 n6 c6] 31 (0, 0))) := Lib.hid ((HYZ.out.block _ (heapE_lt HHYT.out)).trans HHYT.out)
    have HNB : Hid (yc.heap.size ≤ w1.heap.size) := Lib.hid HB1.out.size
    have HRY : Hid (rb < yc.heap.size) := Lib.hid (heapE_lt HHY.out)
    obtain ⟨nb, HNBE⟩ : ∃ q, Hid (w1.heap.size = q) := ⟨_, Lib.hid rfl⟩
    rw [HNBE.out] at HNZ HNB
    have HF1 : Hid (FreshS yc X.heap.size 2 P3 mS) := Lib.hid HPY.out.S.fresh
    have HF2 : Hid (FreshS wo (sb + 2) 1 A5 n5) := Lib.hid HTo.out.op.fresh
    have HF3 : Hid (FreshS wo (sb + 2) 1 A6 n6) := Lib.hid HTo.out.dn.fresh
    have HF4 : Hid (FreshS wo (sb + 2) 2 A3 n3) := Lib.hid HTo.out.pl.S.fresh
    have HOZ' := HOZ
    have HLB : Hid (wo.heap.size = rb) := HRB
    have HLS : Hid (sb + 2 ≤ X.heap.size) := Lib.hid (by have := HSL.out; have := HRBX.out; omega)
    have hmS : mS ≤ 100 := HMX.out.2.2.1
    have hn3 : n3 ≤ 100 := HTo.out.pl.sz.2.2.1
    have hn56 : n5 ≤ 36 ∧ n6 ≤ 36 := by
     have h1 := (HIN.out k (by omega)).lenO
     have h2 := HTo.out.lens
     omega
    go_upto_region 13 with fail
    change Code.wp _ _ _ _ (w1.alloc (.cells #[.int .i64 num2, .int .i64 ph2, .slice C1 m1 d1, .slice C2 m2 d2, .slice C3 m3 d3, .slice C4 m4 d4, .slice C5 m5 d5, .slice C6 m6 d6] 31))
    rw [← HZE.out]
    rw [HNBE.out]
    clear hzb
    obtain ⟨q0, q1, q2, q3, q4, q5⟩ := row6 HHZ.out
    go_upto_region 16 with fail
    clear q0 q1 q2 q3 q4 q5
    go_loopw [12, 69] (fun _ v wr => ∃ i0 : Nat, i0 ≤ mS ∧ v = .int .i64 (i0 : Int) ∧ Hid (Upd (sb + 2) yc.heap.size rb Z1 wr)) (fun _ v _ => mS - (intOf v).toNat)
    case atStart => exact ⟨0, Nat.zero_le _, rfl, Lib.hid (Upd.refl _ _ _ _)⟩
    case round =>
     obtain ⟨wl0, hwl⟩ : ∃ x, x = wr := ⟨_, rfl⟩
     subst hwl
     obtain ⟨i0, hi0, rfl, HU0⟩ := hrel
     have HHR : Hid (wl0.heap[rb]? = some (.cells #[.int .i64 kd, .int .i64 sp, .slice P1 mF g1, .slice P2 mT g2, .slice P3 mS g3, .slice P4 mE g4] 33 (0, 0))) := Lib.hid ((HU0.out.blk _ (.inr (.inr rfl))).trans HHZ.out)
     have HHT : Hid (wl0.heap[sb + 1]? = some (.cells #[.int .i64 num, .int .i64 ph, .slice A1 n1 c1, .slice A2 n2 c2, .slice A3 n3 c3, .slice A4 n4 c4, .slice A5 n5 c5, .slice A6 n6 c6] 31 (0, 0))) := Lib.hid ((HU0.out.blk _ (.inl (by omega))).trans HHZT.out)
     obtain ⟨q0, q1, q2, q3, q4, q5⟩ := row6 HHR.out
     obtain ⟨x0, x1, x2, x3, x4, x5, x6, x7⟩ := row8 HHT.out
     by_cases hin : i0 < mS
     ·have hd2 : decide ((i0 : Int) < (mS : Int)) = true := by simp; omega
      have hji : (i0 : Int) < (mS : Int) := by omega
      have hj0 : (0 : Int) ≤ (i0 : Int) := by omega
      have hjadd : IntKind.i64.wrap ((i0 : Int) + 1) = ((i0 + 1 : Nat) : Int) := by rw [IntWalk.i64_in _ (by omega)]; omega
      obtain ⟨b, off, u, hA, hc0, hf0, hu0⟩ := HF1.out.go (d := 1) (lo := sb + 2) (hi := yc.heap.size) (rb := rb) HYZ.out HU0.out (by have := HLS.out; omega) (by have := HLB.out; have := HRY.out; omega) (by have := HLB.out; have := HRBX.out; omega) hin (by omega) (.int .i64 (-9))
      subst hA
      rw [show off + (i0 * 2 + 1) = off + i0 * 2 + 1 by omega] at hc0 hf0 hu0
      have HU' := Lib.hid hu0
      clear hu0
      go_wp2_with fail
      go_roundw
      case rel => exact ⟨i0 + 1, by omega, by go_num, HU'⟩
      case measure => simp [intOf]; omega
     ·have hd2 : decide ((i0 : Int) < (mS : Int)) = false := by simp; omega
      go_upto_region 21 with fail
      clear q0 q1 q2 q3 q4 q5 x0 x1 x2 x3 x4 x5 x6 x7
      go_loopw [13, 82] (fun _ v wr => ∃ i1 : Nat, i1 ≤ n5 ∧ v = .int .i64 (i1 : Int) ∧ Hid (Upd (sb + 2) yc.heap.size rb Z1 wr)) (fun _ v _ => n5 - (intOf v).toNat)
      case atStart => exact ⟨0, Nat.zero_le _, rfl, HU0⟩
      case round =>
       obtain ⟨wl1, hwl⟩ : ∃ x, x = wr := ⟨_, rfl⟩
       subst hwl
       obtain ⟨i1, hi1, rfl, HU1⟩ := hrel
       have HHR : Hid (wl1.heap[rb]? = some (.cells #[.int .i64 kd, .int .i64 sp, .slice P1 mF g1, .slice P2 mT g2, .slice P3 mS g3, .slice P4 mE g4] 33 (0, 0))) := Lib.hid ((HU1.out.blk _ (.inr (.inr rfl))).trans HHZ.out)
       have HHT : Hid (wl1.heap[sb + 1]? = some (.cells #[.int .i64 num, .int .i64 ph, .slice A1 n1 c1, .slice A2 n2 c2, .slice A3 n3 c3, .slice A4 n4 c4, .slice A5 n5 c5, .slice A6 n6 c6] 31 (0, 0))) := Lib.hid ((HU1.out.blk _ (.inl (by omega))).trans HHZT.out)
       obtain ⟨q0, q1, q2, q3, q4, q5⟩ := row6 HHR.out
       obtain ⟨x0, x1, x2, x3, x4, x5, x6, x7⟩ := row8 HHT.out
       by_cases hin : i1 < n5
       ·have hd2 : decide ((i1 : Int) < (n5 : Int)) = true := by simp; omega
        have hji : (i1 : Int) < (n5 : Int) := by omega
        have hj0 : (0 : Int) ≤ (i1 : Int) := by omega
        have hjadd : IntKind.i64.wrap ((i1 : Int) + 1) = ((i1 + 1 : Nat) : Int) := by rw [IntWalk.i64_in _ (by omega)]; omega
        obtain ⟨b, off, u, hA, hc0, hf0, hu0⟩ := HF2.out.go (d := 0) (lo := sb + 2) (hi := yc.heap.size) (rb := rb) HOZ'.out HU1.out (by have := HLS.out; omega) (by have := HLB.out; have := HRY.out; omega) (by have := HLB.out; have := HRBX.out; omega) hin (by omega) (.int .i64 (-9))
        subst hA
        rw [show off + (i1 * 1 + 0) = off + i1 by omega] at hc0 hf0 hu0
        have HU' := Lib.hid hu0
        clear hu0
        go_wp2_with fail
        go_roundw
        case rel => exact ⟨i1 + 1, by omega, by go_num, HU'⟩
        case measure => simp [intOf]; omega
       ·have hd2 : decide ((i1 : Int) < (n5 : Int)) = false := by simp; omega
        go_upto_region 26 with fail
        clear q0 q1 q2 q3 q4 q5 x0 x1 x2 x3 x4 x5 x6 x7
        go_loopw [14, 93] (fun _ v wr => ∃ i2 : Nat, i2 ≤ n6 ∧ v = .int .i64 (i2 : Int) ∧ Hid (Upd (sb + 2) yc.heap.size rb Z1 wr)) (fun _ v _ => n6 - (intOf v).toNat)
        case atStart => exact ⟨0, Nat.zero_le _, rfl, HU1⟩
        case round =>
         obtain ⟨wl2, hwl⟩ : ∃ x, x = wr := ⟨_, rfl⟩
         subst hwl
         obtain ⟨i2, hi2, rfl, HU2⟩ := hrel
         have HHR : Hid (wl2.heap[rb]? = some (.cells #[.int .i64 kd, .int .i64 sp, .slice P1 mF g1, .slice P2 mT g2, .slice P3 mS g3, .slice P4 mE g4] 33 (0, 0))) := Lib.hid ((HU2.out.blk _ (.inr (.inr rfl))).trans HHZ.out)
         have HHT : Hid (wl2.heap[sb + 1]? = some (.cells #[.int .i64 num, .int .i64 ph, .slice A1 n1 c1, .slice A2 n2 c2, .slice A3 n3 c3, .slice A4 n4 c4, .slice A5 n5 c5, .slice A6 n6 c6] 31 (0, 0))) := Lib.hid ((HU2.out.blk _ (.inl (by omega))).trans HHZT.out)
         obtain ⟨q0, q1, q2, q3, q4, q5⟩ := row6 HHR.out
         obtain ⟨x0, x1, x2, x3, x4, x5, x6, x7⟩ := row8 HHT.out
         by_cases hin : i2 < n6
         ·have hd2 : decide ((i2 : Int) < (n6 : Int)) = true := by simp; omega
          have hji : (i2 : Int) < (n6 : Int) := by omega
          have hj0 : (0 : Int) ≤ (i2 : Int) := by omega
          have hjadd : IntKind.i64.wrap ((i2 : Int) + 1) = ((i2 + 1 : Nat) : Int) := by rw [IntWalk.i64_in _ (by omega)]; omega
          obtain ⟨b, off, u, hA, hc0, hf0, hu0⟩ := HF3.out.go (d := 0) (lo := sb + 2) (hi := yc.heap.size) (rb := rb) HOZ'.out HU2.out (by have := HLS.out; omega) (by have := HLB.out; have := HRY.out; omega) (by have := HLB.out; have := HRBX.out; omega) hin (by omega) (.int .i64 (-9))
          subst hA
          rw [show off + (i2 * 1 + 0) = off + i2 by omega] at hc0 hf0 hu0
          have HU' := Lib.hid hu0
          clear hu0
          go_wp2_with fail
          go_roundw
          case rel => exact ⟨i2 + 1, by omega, by go_num, HU'⟩
          case measure => simp [intOf]; omega
         ·have hd2 : decide ((i2 : Int) < (n6 : Int)) = false := by simp; omega
          go_upto_region 31 with fail
          clear q0 q1 q2 q3 q4 q5 x0 x1 x2 x3 x4 x5 x6 x7
          go_loopw [15, 105] (fun _ v wr => ∃ i3 : Nat, i3 ≤ n3 ∧ v = .int .i64 (i3 : Int) ∧ Hid (Upd (sb + 2) yc.heap.size rb Z1 wr)) (fun _ v _ => n3 - (intOf v).toNat)
          case atStart => exact ⟨0, Nat.zero_le _, rfl, HU2⟩
          case round =>
           obtain ⟨wl3, hwl⟩ : ∃ x, x = wr := ⟨_, rfl⟩
           subst hwl
           obtain ⟨i3, hi3, rfl, HU3⟩ := hrel
           have HHR : Hid (wl3.heap[rb]? = some (.cells #[.int .i64 kd, .int .i64 sp, .slice P1 mF g1, .slice P2 mT g2, .slice P3 mS g3, .slice P4 mE g4] 33 (0, 0))) := Lib.hid ((HU3.out.blk _ (.inr (.inr rfl))).trans HHZ.out)
           have HHT : Hid (wl3.heap[sb + 1]? = some (.cells #[.int .i64 num, .int .i64 ph, .slice A1 n1 c1, .slice A2 n2 c2, .slice A3 n3 c3, .slice A4 n4 c4, .slice A5 n5 c5, .slice A6 n6 c6] 31 (0, 0))) := Lib.hid ((HU3.out.blk _ (.inl (by omega))).trans HHZT.out)
           obtain ⟨q0, q1, q2, q3, q4, q5⟩ := row6 HHR.out
           obtain ⟨x0, x1, x2, x3, x4, x5, x6, x7⟩ := row8 HHT.out
           by_cases hin : i3 < n3
           ·have hd2 : decide ((i3 : Int) < (n3 : Int)) = true := by simp; omega
            have hji : (i3 : Int) < (n3 : Int) := by omega
            have hj0 : (0 : Int) ≤ (i3 : Int) := by omega
            have hjadd : IntKind.i64.wrap ((i3 : Int) + 1) = ((i3 + 1 : Nat) : Int) := by rw [IntWalk.i64_in _ (by omega)]; omega
            obtain ⟨b, off, u, hA, hc0, hf0, hu0⟩ := HF4.out.go (d := 1) (lo := sb + 2) (hi := yc.heap.size) (rb := rb) HOZ'.out HU3.out (by have := HLS.out; omega) (by have := HLB.out; have := HRY.out; omega) (by have := HLB.out; have := HRBX.out; omega) hin (by omega) (.int .i64 (-9))
            subst hA
            rw [show off + (i3 * 2 + 1) = off + i3 * 2 + 1 by omega] at hc0 hf0 hu0
            have HU' := Lib.hid hu0
            clear hu0
            go_wp2_with fail
            go_roundw
            case rel => exact ⟨i3 + 1, by omega, by go_num, HU'⟩
            case measure => simp [intOf]; omega
           ·have hd2 : decide ((i3 : Int) < (n3 : Int)) = false := by simp; omega
            have HBF : Hid (Below (sb + 1) W wl3) := Lib.hid (HU3.out.below (HBo.out.trans (HOZ.out.mono (by have := HSL.out; have := HLB.out; omega))) (by omega))
            have HNF : Hid (wl3.heap[nb]? = some (.cells #[.int .i64 num2, .int .i64 ph2, .slice C1 m1 d1, .slice C2 m2 d2, .slice C3 m3 d3, .slice C4 m4 d4, .slice C5 m5 d5, .slice C6 m6 d6] 31 (0, 0))) := Lib.hid ((HU3.out.blk nb (.inr (.inl HNB.out))).trans HNZ.out)
            have HSF := Lib.hid (HSTZ.out.upd HU3.out (Nat.le_refl _))
            have HFH : Hid ((set8 wl3 (sb + 1) (.int .i64 num2) (.int .i64 ph2) (.slice C1 m1 d1) (.slice C2 m2 d2) (.slice C3 m3 d3) (.slice C4 m4 d4) (.slice C5 m5 d5) (.slice C6 m6 d6)).heap[sb + 1]? = _) := Lib.hid (set8_same HHT.out)
            have HBG : Hid (Below (sb + 1) W (set8 wl3 (sb + 1) (.int .i64 num2) (.int .i64 ph2) (.slice C1 m1 d1) (.slice C2 m2 d2) (.slice C3 m3 d3) (.slice C4 m4 d4) (.slice C5 m5 d5) (.slice C6 m6 d6))) := Lib.hid (set8_below HBF.out (Nat.le_refl _))
            have hot : ∀ k, k < wl3.heap.size → k ≠ sb + 1 → (set8 wl3 (sb + 1) (.int .i64 num2) (.int .i64 ph2) (.slice C1 m1 d1) (.slice C2 m2 d2) (.slice C3 m3 d3) (.slice C4 m4 d4) (.slice C5 m5 d5) (.slice C6 m6 d6)).heap[k]? = wl3.heap[k]? := fun k _ hne => set8_other hne
            have HSG := Lib.hid ((HSF.out.apart HHT.out (by decide) (by decide) (by decide) hot).less (show sb + 2 ≤ yc.heap.size by have := HLS.out; have := HYS.out; omega))
            have HTS : Hid (takeS (repS l k) (rcAt l k) = repS l (k + 1)) := Lib.hid rfl
            rw [HTS.out] at HSG
            have xf := free_row HHT.out
            obtain ⟨y0, y1, y2, y3, y4, y5, y6, y7⟩ := row8 HNF.out
            clear hot
            go_wp2_with fail
            go_roundw
            case rel => exact ⟨k + 1, by omega, by go_num, num2, ph2, C1, m1, d1, C2, m2, d2, C3, m3, d3, C4, m4, d4, C5, m5, d5, C6, m6, d6, HBG, HFH, HSG⟩
            case measure => simp [intOf]; omega
  ·have hd : decide ((k : Int) < (j : Int)) = false := by simp; omega
   obtain rfl : j = k := by omega
   have HSo0 := Lib.hid (HSS.out.kept (HWB.out.trans (HBo.out.mono (by have := HSBE.out; omega))))
   have hl1 := HTo.out.lens
   have hl2 := HSo0.out.lens
   obtain rfl : n1 = e1 := by omega
   obtain rfl : n2 = e2 := by omega
   obtain rfl : n3 = e3 := by omega
   obtain rfl : n4 = e4 := by omega
   obtain rfl : n5 = e5 := by omega
   obtain rfl : n6 = e6 := by omega
   obtain rfl : num = numS := HTo.out.num.symm.trans HSo0.out.num
   obtain rfl : ph = phS := HTo.out.ph.symm.trans HSo0.out.ph
   have HTwo := HTo
   have HSwo := HSo0
   have KTwo := HHo
   have KSwo : Hid (wo.heap[sb]? = some (.cells #[.int .i64 num, .int .i64 ph, .slice S1 n1 f1, .slice S2 n2 f2, .slice S3 n3 f3, .slice S4 n4 f4, .slice S5 n5 f5, .slice S6 n6 f6] 31 (0, 0))) := Lib.hid ((HBo.out.block _ (by omega)).trans HS0.out)
   have HBwo := HWo
   have hpz := HTo.out.pl.sz
   have hn56 : n5 ≤ 36 ∧ n6 ≤ 36 := by
    have h1 := (HIN.out j (by omega)).lenO
    omega
   clear hl1 hl2
   have HV : Hid (szB (repS l j).pl = true) := Lib.hid HSwo.out.pl.plw.szB
   have HMP := Lib.hid (madeP_any (w := wo) (cF := f1) (cT := f2) (cS := f3) (cE := f4) HSwo.out.pl.plw.plr (Nat.le_refl _))
   obtain ⟨y0, y1, y2, y3, y4, y5, y6, y7⟩ := row8 KSwo.out
   go_wp2_with fail
   refine HMP.out.mono ?_
   rintro e w1 ⟨hb, hc⟩
   rcases hc with ⟨hv, _⟩ | ⟨_, Q3, nq, cq, rfl, hown⟩
   ·rw [HV.out] at hv; cases hv
   obtain rfl : n3 = nq := HSwo.out.pl.S.rdE.1.symm.trans hown.rdE.1
   have HQw1 := Lib.hid hown
   clear y0 y1 y2 y3 y4 y5 y6 y7 HMP
   have HQwo := HQw1
   obtain ⟨Z, HZE⟩ : ∃ Z, Hid (Z = w1.alloc (.cells #[.slice S1 n1 f1, .slice S2 n2 f2, .slice Q3 n3 cq, .slice S4 n4 f4] 47)) := ⟨_, Lib.hid rfl⟩
   have hzb : Below w1.heap.size w1 Z := by rw [HZE.out]; exact (Below.refl _ w1).alloc (Nat.le_refl _) _
   have KQZ : Hid (Z.heap[w1.heap.size]? = some (.cells #[.slice S1 n1 f1, .slice S2 n2 f2, .slice Q3 n3 cq, .slice S4 n4 f4] 47 (0, 0))) := Lib.hid (by rw [HZE.out]; exact heap_new w1 _)
   have hoz : Below wo.heap.size wo Z := hb.trans (hzb.mono hb.size)
   have HQZ' := Lib.hid (HQw1.out.kept hzb)
   have HTZ := Lib.hid (HTwo.out.kept hoz)
   have HSZ := Lib.hid (HSwo.out.kept hoz)
   have HQZ := HQZ'
   have HBZ := Lib.hid (HBwo.out.trans (Below.mono hoz HBwo.out.size))
   have KTZ : Hid (Z.heap[sb + 1]? = some (.cells #[.int .i64 num, .int .i64 ph, .slice A1 n1 c1, .slice A2 n2 c2, .slice A3 n3 c3, .slice A4 n4 c4, .slice A5 n5 c5, .slice A6 n6 c6] 31 (0, 0))) := Lib.hid ((Below.block hoz _ (heapE_lt KTwo.out)).trans KTwo.out)
   have KSZ : Hid (Z.heap[sb]? = some (.cells #[.int .i64 num, .int .i64 ph, .slice S1 n1 f1, .slice S2 n2 f2, .slice S3 n3 f3, .slice S4 n4 f4, .slice S5 n5 f5, .slice S6 n6 f6] 31 (0, 0))) := Lib.hid ((Below.block hoz _ (heapE_lt KSwo.out)).trans KSwo.out)
   obtain ⟨qb, HQB⟩ : ∃ q, Hid (w1.heap.size = q) := ⟨_, Lib.hid rfl⟩
   rw [HQB.out] at KQZ
   have HI1 := Lib.hid (ints_same (w := Z) (c := c5) (d := f5) HTZ.out.op.rdI HSZ.out.op.rdI (by omega) (by omega))
   have hb1 : ((num : Int) == (num : Int)) = true := by simp
   have hb2 : ((ph : Int) == (ph : Int)) = true := by simp
   go_upto_region 38 with fail
   change Code.wp _ _ _ _ (w1.alloc (.cells #[.slice S1 n1 f1, .slice S2 n2 f2, .slice Q3 n3 cq, .slice S4 n4 f4] 47))
   rw [HQB.out]
   rw [← HZE.out]
   clear hb hzb hoz
   obtain ⟨x0, x1, x2, x3, x4, x5, x6, x7⟩ := row8 KTZ.out
   obtain ⟨y0, y1, y2, y3, y4, y5, y6, y7⟩ := row8 KSZ.out
   obtain ⟨z0, z1, z2, z3⟩ := row4 KQZ.out
   go_wp2_with fail
   refine HI1.out.mono ?_
   rintro e Z2 ⟨rfl, hb⟩
   clear x0 x1 x2 x3 x4 x5 x6 x7 y0 y1 y2 y3 y4 y5 y6 y7 z0 z1 z2 z3
   have HTZ2 := Lib.hid (HTZ.out.kept hb)
   have HSZ2 := Lib.hid (HSZ.out.kept hb)
   have HQZ2 := Lib.hid (HQZ.out.kept hb)
   have HBZ2 := Lib.hid (HBZ.out.trans (Below.mono hb HBZ.out.size))
   have KTZ2 : Hid (Z2.heap[sb + 1]? = some (.cells #[.int .i64 num, .int .i64 ph, .slice A1 n1 c1, .slice A2 n2 c2, .slice A3 n3 c3, .slice A4 n4 c4, .slice A5 n5 c5, .slice A6 n6 c6] 31 (0, 0))) := Lib.hid ((Below.block hb _ (heapE_lt KTZ.out)).trans KTZ.out)
   have KSZ2 : Hid (Z2.heap[sb]? = some (.cells #[.int .i64 num, .int .i64 ph, .slice S1 n1 f1, .slice S2 n2 f2, .slice S3 n3 f3, .slice S4 n4 f4, .slice S5 n5 f5, .slice S6 n6 f6] 31 (0, 0))) := Lib.hid ((Below.block hb _ (heapE_lt KSZ.out)).trans KSZ.out)
   have KQZ2 : Hid (Z2.heap[qb]? = some (.cells #[.slice S1 n1 f1, .slice S2 n2 f2, .slice Q3 n3 cq, .slice S4 n4 f4] 47 (0, 0))) := Lib.hid ((Below.block hb _ (heapE_lt KQZ.out)).trans KQZ.out)
   have HI2 := Lib.hid (ints_same (w := Z2) (c := c6) (d := f6) HTZ2.out.dn.rdI HSZ2.out.dn.rdI (by omega) (by omega))
   clear hb HI1
   obtain ⟨x0, x1, x2, x3, x4, x5, x6, x7⟩ := row8 KTZ2.out
   obtain ⟨y0, y1, y2, y3, y4, y5, y6, y7⟩ := row8 KSZ2.out
   obtain ⟨z0, z1, z2, z3⟩ := row4 KQZ2.out
   go_wp2_with fail
   refine HI2.out.mono ?_
   rintro e Z3 ⟨rfl, hb⟩
   clear x0 x1 x2 x3 x4 x5 x6 x7 y0 y1 y2 y3 y4 y5 y6 y7 z0 z1 z2 z3
   have HTZ3 := Lib.hid (HTZ2.out.kept hb)
   have HSZ3 := Lib.hid (HSZ2.out.kept hb)
   have HQZ3 := Lib.hid (HQZ2.out.kept hb)
   have HBZ3 := Lib.hid (HBZ2.out.trans (Below.mono hb HBZ2.out.size))
   have KTZ3 : Hid (Z3.heap[sb + 1]? = some (.cells #[.int .i64 num, .int .i64 ph, .slice A1 n1 c1, .slice A2 n2 c2, .slice A3 n3 c3, .slice A4 n4 c4, .slice A5 n5 c5, .slice A6 n6 c6] 31 (0, 0))) := Lib.hid ((Below.block hb _ (heapE_lt KTZ2.out)).trans KTZ2.out)
   have KSZ3 : Hid (Z3.heap[sb]? = some (.cells #[.int .i64 num, .int .i64 ph, .slice S1 n1 f1, .slice S2 n2 f2, .slice S3 n3 f3, .slice S4 n4 f4, .slice S5 n5 f5, .slice S6 n6 f6] 31 (0, 0))) := Lib.hid ((Below.block hb _ (heapE_lt KSZ2.out)).trans KSZ2.out)
   have KQZ3 : Hid (Z3.heap[qb]? = some (.cells #[.slice S1 n1 f1, .slice S2 n2 f2, .slice Q3 n3 cq, .slice S4 n4 f4] 47 (0, 0))) := Lib.hid ((Below.block hb _ (heapE_lt KQZ2.out)).trans KQZ2.out)
   have HI3 := Lib.hid (likeP_yes (w := Z3) (cF := c1) (cT := c2) (cS := c3) (cE := c4) (dF := f1) (dT := f2) (dS := cq) (dE := f4) HTZ3.out.pl.fs.rdI HTZ3.out.pl.ts.rdI HTZ3.out.pl.S.rdE HTZ3.out.pl.E.rdE HSZ3.out.pl.fs.rdI HSZ3.out.pl.ts.rdI HQZ3.out.rdE HSZ3.out.pl.E.rdE (Nat.le_refl _) (Nat.le_refl _) (Nat.le_refl _) (Nat.le_refl _) (Nat.le_refl _) (Nat.le_refl _) (Nat.le_refl _) (Nat.le_refl _) (by omega) (by omega) (by omega) (by omega))
   clear hb HI2
   obtain ⟨x0, x1, x2, x3, x4, x5, x6, x7⟩ := row8 KTZ3.out
   obtain ⟨y0, y1, y2, y3, y4, y5, y6, y7⟩ := row8 KSZ3.out
   obtain ⟨z0, z1, z2, z3⟩ := row4 KQZ3.out
   go_wp2_with fail
   refine HI3.out.mono ?_
   rintro e Z4 ⟨rfl, hb⟩
   have HB4 := Lib.hid (HBZ3.out.trans (hb.mono HBZ3.out.size))
   clear hb
   go_wp2_with fail
   exact bodyPost_ret (results_tmp rfl _ _ _) rfl ⟨rfl, HB4.out⟩
end Go.Proofs.Ytolgmoaoheflcaa.Sa
