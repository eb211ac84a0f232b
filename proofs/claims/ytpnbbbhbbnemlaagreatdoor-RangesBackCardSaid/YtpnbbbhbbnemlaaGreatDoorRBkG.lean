/-
  CONTRACTS: the program's text of a range.
-/
import Derived.Test.YtpnbbbhbbnemlaaGreatDoorRBkJ
namespace Go.Proofs.YtpnbbbhbbnemlaaGreatDoor
open Go.RowKit
open SemP
set_option linter.unusedSimpArgs false
set_option linter.unusedVariables false
set_option maxRecDepth 100000
theorem cvAt_eta (x : CV) : (⟨x.op, x.a, x.b, x.c, x.s⟩ : CV) = x := rfl
theorem map_snocC {l : List CV} {k : Nat} (h : k < l.length) : (l.take (k + 1)).map textC = (l.take k).map textC ++ [textC (cvAt l k)] := by
  rw [take_snocC h, List.map_append]; rfl
theorem map_snocR {r : List (List CV)} {i : Nat} (h : i < r.length) : (r.take (i + 1)).map textL = (r.take i).map textL ++ [textL (lsAt r i)] := by
  rw [take_snocR h, List.map_append]; rfl
set_option maxHeartbeats 8000000 in
theorem RgText_any (A : Option Addr) (m cp : Nat) (r : List (List CV)) (w : World) (B : Nat) (hr : RdR w B A m r) (hB : B ≤ w.heap.size) (hf : Fits r) (hs : Small r) (hmm : m ≤ 1000000) (hg : SignsAt w) (hm : LenAt w) (h1 : 1 < w.heap.size) (hp : PowAt w) :
    Calls Tryz.prog 12 #[.agg #[.slice A m cp]] w fun e w' => e = .returned (if rightR r = true then .tuple #[.string (mk (textG r)), .int .i64 0] else .tuple #[.string ⟨#[]⟩, .int .i64 12]) ∧ Below w.heap.size w w' := by
  have HQ1 : Hid (rightR r = true → (if rightR r = true then Value.tuple #[.string (mk (textG r)), .int .i64 0] else .tuple #[.string ⟨#[]⟩, .int .i64 12]) = .tuple #[.string (mk (textG r)), .int .i64 0]) := Lib.hid (fun h => if_pos h)
  have HQ2 : Hid (rightR r = false → (if rightR r = true then Value.tuple #[.string (mk (textG r)), .int .i64 0] else .tuple #[.string ⟨#[]⟩, .int .i64 12]) = .tuple #[.string ⟨#[]⟩, .int .i64 12]) := Lib.hid (fun h => if_neg (by rw [h]; decide))
  generalize (if rightR r = true then Value.tuple #[.string (mk (textG r)), .int .i64 0] else .tuple #[.string ⟨#[]⟩, .int .i64 12]) = Q at *
  obtain ⟨W0, hW0⟩ : ∃ W0, w.alloc (.cells #[.slice A m cp] 24) = W0 := ⟨_, rfl⟩
  have hb0 : Below w.heap.size w W0 := by rw [← hW0]; exact (Below.refl _ w).alloc (Nat.le_refl _) _
  have hX : W0.heap[w.heap.size]? = some (.cells #[.slice A m cp] 24) := by rw [← hW0]; exact World.alloc_heap_new _ _
  have hm0 := hm.below h1 hb0
  have HRT := Lib.hid (RgRight_any A m cp r W0 B (hr.below (hb0.mono hB)) (Nat.le_trans hB hb0.size) hf hmm hm0.1 hm0.2)
  have HM0 := Lib.hid hm0
  have HG0 : Hid (SignsAt W0) := Lib.hid (hg.below hb0 (by omega))
  have HP0 : Hid (PowAt W0) := Lib.hid (hp.below hb0)
  have HB0 := Lib.hid hb0
  have HW0 := Lib.hid hW0
  have HR0 : Hid (RdR W0 B A m r) := Lib.hid (hr.below (hb0.mono hB))
  have HLE := Lib.hid hr.1
  have HSM := Lib.hid hs
  have HBB : Hid (B ≤ W0.heap.size) := Lib.hid (Nat.le_trans hB hb0.size)
  have c1 := cell1 hX
  have HX0 : Hid (∀ W1, Below W0.heap.size W0 W1 → W1.cell? ⟨w.heap.size, 0, none⟩ = some (.slice A m cp)) := Lib.hid (fun W1 h => (h.cell (p := ⟨w.heap.size, 0, none⟩) (by show w.heap.size < _; rw [← hW0]; simp)).trans c1)
  rw [← hW0] at c1
  clear hr hf hs hm h1 hg hp hB hb0 hX hW0 hm0
  go_enter Tryz.func12, Tryz.ntmps12
  go_wp2_with fail
  try rw [show w.alloc (.cells #[.slice A m cp] 24) = W0 from HW0.out]
  refine HRT.out.mono ?_
  rintro e W1 ⟨rfl, hb⟩
  have HB1 := Lib.hid hb
  have HBw : Hid (Below w.heap.size w W1) := Lib.hid (HB0.out.trans (hb.mono HB0.out.size))
  have HM1 := Lib.hid (HM0.out.1.below HM0.out.2 hb)
  have HG1 : Hid (SignsAt W1) := Lib.hid (HG0.out.below hb (by have := HM0.out.2; omega))
  have HP1 : Hid (PowAt W1) := Lib.hid (HP0.out.below hb)
  have HR1 : Hid (RdR W1 B A m r) := Lib.hid (HR0.out.below (hb.mono HBB.out))
  have HBB1 : Hid (B ≤ W1.heap.size) := Lib.hid (Nat.le_trans HBB.out hb.size)
  have y0 := HX0.out W1 hb
  clear hb c1 HRT
  cases hq : rightR r with
  | false =>
    have HQ := Lib.hid (HQ2.out hq)
    clear HQ1 HQ2 hq
    go_wp2
    refine bodyPost_ret (results_tmp2 rfl _ _ _) rfl ⟨by rw [HQ.out]; rfl, HBw.out⟩
  | true =>
    have HQ := Lib.hid (HQ1.out hq)
    clear HQ1 HQ2
    have HRP := Lib.hid (rightR_parts hq)
    have HLN : Hid (1 ≤ m ∧ m ≤ 8) := Lib.hid (by have := HRP.out.1; rw [HLE.out] at this; exact this)
    have HTG := Lib.hid (textG_len hq)
    clear hq
    go_wp2
    go_loopw [4, 6, 7, 9, 16] (fun v4 v6 v7 v9 v16 wr => ∃ (i : Nat), i ≤ m ∧ v16 = .int .i64 (i : Int) ∧ Hid (OwnS wr W1.heap.size v4 i ((r.take i).map textL)) ∧ Hid (Below W1.heap.size W1 wr)) (fun _ _ _ _ v _ => m - (intOf v).toNat)
    case atStart => exact ⟨0, Nat.zero_le _, rfl, Lib.hid (OwnS.nil_ _ _), Lib.hid (Below.refl _ _)⟩
    case round =>
      obtain ⟨i, hi, rfl, HO, HB⟩ := hrel
      obtain ⟨wo, hwo⟩ : ∃ x, x = wr := ⟨_, rfl⟩
      subst hwo
      by_cases him : i < m
      · have hd : decide ((i : Int) < (m : Int)) = true := decide_eq_true (by omega)
        have hadd : IntKind.i64.wrap ((i : Int) + 1) = ((i + 1 : Nat) : Int) := by rw [IntWalk.i64_in _ (by have := HLN.out; omega)]; omega
        obtain ⟨b, off, Aj, nj, cj, rfl, hlt, q0, hrc⟩ := (HR1.out.below (HB.out.mono HBB1.out)).2 i him
        have HIL : Hid (i < r.length) := Lib.hid (by rw [HLE.out]; exact him)
        obtain ⟨l, hl⟩ : ∃ l, lsAt r i = l := ⟨_, rfl⟩
        have HLL := Lib.hid hl
        rw [hl] at hrc
        have HRC := Lib.hid hrc
        have HNL : Hid (l.length = nj) := Lib.hid hrc.1
        have HLM : Hid (l ∈ r) := Lib.hid (by rw [← hl]; exact lsAt_mem HIL.out)
        have HLR : Hid (rightL l = true) := Lib.hid (HRP.out.2 l HLM.out)
        have HLP := Lib.hid (rightL_parts HLR.out)
        have HNJ : Hid (1 ≤ nj ∧ nj ≤ 8) := Lib.hid (by have := HLP.out.1; rw [HNL.out] at this; exact this)
        have HMo := Lib.hid (HM1.out.1.below HM1.out.2 HB.out)
        have HGo : Hid (SignsAt wo) := Lib.hid (HG1.out.below HB.out (by have := HM1.out.2; omega))
        have HPo : Hid (PowAt wo) := Lib.hid (HP1.out.below HB.out)
        have HBo : Hid (B ≤ wo.heap.size) := Lib.hid (Nat.le_trans HBB1.out HB.out.size)
        clear hrc hl
        go_wp2
        clear q0
        go_loopw [7, 9, 22] (fun v7 v9 v22 wr => ∃ (k : Nat), k ≤ nj ∧ v22 = .int .i64 (k : Int) ∧ Hid (OwnS wr wo.heap.size v7 k ((l.take k).map textC)) ∧ Hid (Below wo.heap.size wo wr)) (fun _ _ v _ => nj - (intOf v).toNat)
        case atStart => exact ⟨0, Nat.zero_le _, rfl, Lib.hid (OwnS.nil_ _ _), Lib.hid (Below.refl _ _)⟩
        case round =>
          obtain ⟨k, hk, rfl, HOk, HBr⟩ := hrel
          by_cases hkn : k < nj
          · have hdk : decide ((k : Int) < (nj : Int)) = true := decide_eq_true (by omega)
            have haddk : IntKind.i64.wrap ((k : Int) + 1) = ((k + 1 : Nat) : Int) := by rw [IntWalk.i64_in _ (by have := HNJ.out; omega)]; omega
            obtain ⟨b2, off2, rfl, hlt2, p0, p1, p2, p3, p4⟩ := (HRC.out.below (HBr.out.mono HBo.out)).2 k hkn
            have HIK : Hid (k < l.length) := Lib.hid (by rw [HNL.out]; exact hkn)
            obtain ⟨x, hx⟩ : ∃ x, cvAt l k = x := ⟨_, rfl⟩
            have HX := Lib.hid hx
            have HXM : Hid (x ∈ l) := Lib.hid (by rw [← hx]; exact cvAt_mem HIK.out)
            rw [hx] at p0 p1 p2 p3 p4
            clear hx
            obtain ⟨W2, hW2⟩ : ∃ W2, wr.alloc (compC x.op x.a x.b x.c x.s) = W2 := ⟨_, rfl⟩
            have hb2 : Below wr.heap.size wr W2 := by rw [← hW2]; exact (Below.refl _ wr).alloc (Nat.le_refl _) _
            have HMr := HMo.out.1.below HMo.out.2 (HBr.out.trans (hb2.mono HBr.out.size))
            have HCT := Lib.hid (ctext_any x.op x.a x.b x.c x.s W2 (HLP.out.2 x HXM.out) (HSM.out l HLM.out x HXM.out) (HGo.out.below (HBr.out.trans (hb2.mono HBr.out.size)) (by have := HMo.out.2; omega)) HMr.1 HMr.2 (HPo.out.below (HBr.out.trans (hb2.mono HBr.out.size))))
            have HW2 := Lib.hid hW2
            have HB2 := Lib.hid hb2
            clear hW2 hb2 HMr
            go_wp2_with fail
            try rw [show wr.alloc (.cells #[.int .i64 x.op, .int .i64 x.a, .int .i64 x.b, .int .i64 x.c, .string x.s] 73) = W2 from HW2.out]
            refine HCT.out.mono ?_
            rintro e W3 ⟨rfl, hb3⟩
            have HB3 : Hid (Below wo.heap.size wo W3) := Lib.hid ((HBr.out.trans (HB2.out.mono HBr.out.size)).trans (hb3.mono (by have := HBr.out.size; have := HB2.out.size; omega)))
            have HO3 : Hid (OwnS W3 wo.heap.size u7 k ((l.take k).map textC)) := Lib.hid ((HOk.out.kept HB2.out).kept hb3)
            have HTX : Hid (textC ⟨x.op, x.a, x.b, x.c, x.s⟩ = textC (cvAt l k)) := Lib.hid (by rw [HX.out])
            have HTS := Lib.hid (map_snocC HIK.out)
            generalize textC ⟨x.op, x.a, x.b, x.c, x.s⟩ = TT at *
            have HSZ : Hid (wo.heap.size ≤ W3.heap.size) := Lib.hid HB3.out.size
            clear hb3 p0 p1 p2 p3 p4 HCT
            go_wp2_with (at_builtin; refine wplS_app rfl (.tmp 26) (.tmp 29) rfl wo.heap.size _ k _ rfl (HO3.out.alloc _) W3.heap.size (mk TT) rfl (by simp) (by have := HNJ.out; omega) (by have := HSZ.out; simp; omega) ?_; intro g c2 w2 hown2 hge hgr2 hat2)
            go_roundw
            case rel =>
              refine ⟨k + 1, by omega, rfl, Lib.hid ?_, Lib.hid ?_⟩
              · rw [HTS.out, ← HTX.out]
                rw [bs_mk] at hown2; exact hown2
              · exact (HB3.out.alloc (o := .cells #[.string (mk TT)] 9) HSZ.out).grown hgr2 (by have := HSZ.out; simp; omega) (fun g hg => OwnS.ge HO3.out g hg)
            case measure => simp [intOf]; omega
          · have hdk : decide ((k : Int) < (nj : Int)) = false := decide_eq_false (by omega)
            have hkn2 : k = nj := by omega
            subst hkn2
            have hox := HOk.out
            rw [List.take_of_length_le (by rw [HNL.out]; exact Nat.le_refl _)] at hox
            have HJ := Lib.hid (join_own hox (by have := HNJ.out; omega) ⟨#[32]⟩ (by have := HNJ.out; omega) (by have := textL_len HLR.out; unfold textL at this; show (Lib.join (l.map textC) [32]).length ≤ _; omega))
            have HTL : Hid (mk (Lib.join (l.map textC) (bs ⟨#[32]⟩)) = mk (textL l)) := Lib.hid rfl
            have HBw2 : Hid (Below W1.heap.size W1 wr) := Lib.hid (HB.out.trans (HBr.out.mono HB.out.size))
            have HO4 : Hid (OwnS wr W1.heap.size u4 i ((r.take i).map textL)) := Lib.hid (HO.out.kept HBr.out)
            clear hox
            go_wp2_with fail
            refine HJ.out.mono ?_
            rintro e W3 ⟨rfl, hb3⟩
            rw [HTL.out]
            have HB5 : Hid (Below W1.heap.size W1 W3) := Lib.hid (HBw2.out.trans (hb3.mono HBw2.out.size))
            have HO5 : Hid (OwnS W3 W1.heap.size u4 i ((r.take i).map textL)) := Lib.hid (HO4.out.kept hb3)
            have HTS := Lib.hid (map_snocR HIL.out)
            have HTX : Hid (textL l = textL (lsAt r i)) := Lib.hid (by rw [HLL.out])
            have HSZ : Hid (W1.heap.size ≤ W3.heap.size) := Lib.hid HB5.out.size
            generalize textL l = TT at *
            clear hb3 HJ
            go_wp2_with (at_builtin; refine wplS_app rfl (.tmp 32) (.tmp 35) rfl W1.heap.size _ i _ rfl (HO5.out.alloc _) W3.heap.size (mk TT) rfl (by simp) (by have := HLN.out; omega) (by have := HSZ.out; simp; omega) ?_; intro g c2 w2 hown2 hge hgr2 hat2)
            go_roundw
            case rel =>
              refine ⟨i + 1, by omega, rfl, Lib.hid ?_, Lib.hid ?_⟩
              · rw [HTS.out, ← HTX.out]
                rw [bs_mk] at hown2; exact hown2
              · exact (HB5.out.alloc (o := .cells #[.string (mk TT)] 9) HSZ.out).grown hgr2 (by have := HSZ.out; simp; omega) (fun g hg => OwnS.ge HO5.out g hg)
            case measure => simp [intOf]; omega
      · have hd : decide ((i : Int) < (m : Int)) = false := decide_eq_false (by omega)
        have hiL : i = m := by omega
        subst hiL
        have hox := HO.out
        rw [List.take_of_length_le (by rw [HLE.out]; exact Nat.le_refl _)] at hox
        have HJ := Lib.hid (join_own hox (by have := HLN.out; omega) ⟨#[32, 124, 124, 32]⟩ (by have := HLN.out; omega) (by have := HTG.out; unfold textG at this; show (Lib.join (r.map textL) sepL).length ≤ _; omega))
        have HTL : Hid (mk (Lib.join (r.map textL) (bs ⟨#[32, 124, 124, 32]⟩)) = mk (textG r)) := Lib.hid rfl
        clear hox
        go_wp2_with fail
        refine HJ.out.mono ?_
        rintro e W3 ⟨rfl, hb3⟩
        rw [HTL.out]
        have HB5 : Hid (Below w.heap.size w W3) := Lib.hid ((HBw.out.trans (HB.out.mono HBw.out.size)).trans (hb3.mono (by have := HBw.out.size; have := HB.out.size; omega)))
        clear hb3 HJ
        go_wp2
        refine bodyPost_ret (results_tmp2 rfl _ _ _) rfl ⟨by rw [HQ.out]; rfl, HB5.out⟩
end Go.Proofs.YtpnbbbhbbnemlaaGreatDoor
