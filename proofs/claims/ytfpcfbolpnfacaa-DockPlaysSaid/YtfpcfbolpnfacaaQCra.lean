/-
  CONTRACTS of the document's twin of a dock: crash.
-/
import Derived.Test.YtfpcfbolpnfacaaQMem
import Derived.Test.YtfpcfbolpnfacaaKInts
import Derived.BigQuiet
namespace Go.Proofs.Ytfpcfbolpnfacaa
open Go.RowKit
open ByteP
set_option linter.unusedVariables false
set_option maxRecDepth 10000
theorem addr_zero (a : Addr) : a.add 0 = a := by simp [Addr.add]
/-- 'b[:q:q]'. -/
theorem sliceB_hm {w : World} {P : Option Addr} {pn pc q : Nat} (h : pn ≤ pc ∧ pc ≤ 9223372036854775807 ∧ (P = none → pc = 0)) (hq : q ≤ pn) :
    (Instr.slice 30 (.slice P pn pc) none (some (.int .i64 (q : Int))) (some (.int .i64 (q : Int)))).run Try.prog w = .ok (.slice P q q) w := by
  have hr := run_slice_hm (P := Try.prog) w 30 P pn pc Try.underlying30 .i64 .i64 (q : Int) (q : Int) (by omega) (by omega) (by omega)
  rw [hr]
  cases P with
  | none => simp [sizeOf, sliced, go_sem]
  | some a => simp [sizeOf, sliced, go_sem, addr_zero]
theorem ix_takeQ {xs : List Int} {p j : Nat} (h : j < p) : ix (xs.take p) j = ix xs j := by unfold ix; simp [List.getD, h]
theorem RdK.takeQ {w : World} {S : Nat → Prop} {n q : Nat} {A : Option Addr} {xs : List Int} (h : RdK w S A n xs) (hq : q ≤ n) : RdK w S A q (xs.take q) := by
  refine ⟨by rw [List.length_take]; have := h.1; omega, fun hp => ?_⟩
  obtain ⟨b, off, e, hb, hn, hc⟩ := h.2 (by omega)
  exact ⟨b, off, e, hb, hn, fun j hj => by rw [hc j (by omega), ix_takeQ hj]⟩
theorem bytes_takeQ {xs : List Int} (h : Bytes xs) (k : Nat) : Bytes (xs.take k) := fun i => by
  by_cases hi : i < k
  · rw [ix_takeQ hi]; exact h i
  · have e : ix (xs.take k) i = 0 := by
      unfold ix
      rw [List.getD_eq_getElem?_getD, List.getElem?_eq_none (by rw [List.length_take]; omega)]
      rfl
    rw [e]; omega
/-- How many loose bytes of a file stay. -/
def kptT (ks : List Int) (a : Nat) (x : TF) : Nat := if a < ks.length then (min (max (ix ks a) 0) ((x.n : Int) - (x.s : Int))).toNat else 0
structure CrT where
  L : List TF
  a : Nat
def cutL (L : List TF) (j q : Nat) : List TF := putS (putB L j (tfAt L j).P q q ((tfAt L j).bs.take q)) j q
def crTS (ks : List Int) (j : Nat) (c : CrT) : CrT := if (tfAt c.L j).s = (tfAt c.L j).n then c else ⟨cutL c.L j ((tfAt c.L j).s + kptT ks c.a (tfAt c.L j)), c.a + 1⟩
def crTK (ks : List Int) (L : List TF) : Nat → CrT
  | 0 => ⟨L, 0⟩
  | j + 1 => crTS ks j (crTK ks L j)
theorem cutL_len (L : List TF) (j q : Nat) : (cutL L j q).length = L.length := by unfold cutL; rw [putS_len, putB_len]
theorem crTK_len (ks : List Int) (L : List TF) : ∀ j, (crTK ks L j).L.length = L.length
  | 0 => rfl
  | j + 1 => by
    show (crTS ks j (crTK ks L j)).L.length = _
    unfold crTS
    split
    · exact crTK_len ks L j
    · show (cutL _ _ _).length = _
      rw [cutL_len]; exact crTK_len ks L j
theorem crTK_a (ks : List Int) (L : List TF) : ∀ j, (crTK ks L j).a ≤ j
  | 0 => Nat.le_refl _
  | j + 1 => by
    have := crTK_a ks L j
    show (crTS ks j (crTK ks L j)).a ≤ _
    unfold crTS
    split
    · omega
    · show (crTK ks L j).a + 1 ≤ _; omega
theorem tfAt_set_other {L : List TF} {i j : Nat} {x : TF} (h : i ≠ j) : tfAt (L.set i x) j = tfAt L j := by
  unfold tfAt
  simp [List.getD, h]
theorem tfAt_set_same {L : List TF} {i : Nat} {x : TF} (h : i < L.length) : tfAt (L.set i x) i = x := by
  unfold tfAt
  simp [List.getD, h]
theorem cutL_other {L : List TF} {i j q : Nat} (h : i ≠ j) : tfAt (cutL L i q) j = tfAt L j := by
  unfold cutL putS putB
  rw [tfAt_set_other h, tfAt_set_other h]
theorem cutL_same {L : List TF} {i q : Nat} (h : i < L.length) : tfAt (cutL L i q) i = ⟨(tfAt L i).nm, (tfAt L i).P, q, q, (tfAt L i).bs.take q, q⟩ := by
  unfold cutL putS putB
  rw [tfAt_set_same (by rw [List.length_set]; exact h), tfAt_set_same h]
theorem crTK_rest (ks : List Int) (L : List TF) : ∀ j i, j ≤ i → tfAt (crTK ks L j).L i = tfAt L i
  | 0, i, _ => rfl
  | j + 1, i, h => by
    show tfAt (crTS ks j (crTK ks L j)).L i = _
    unfold crTS
    split
    · exact crTK_rest ks L j i (by omega)
    · show tfAt (cutL _ _ _) i = _
      rw [cutL_other (by omega)]; exact crTK_rest ks L j i (by omega)
theorem putS_same {L : List TF} {j s : Nat} (hj : j < L.length) (h : (tfAt L j).s = s) : putS L j s = L := by
  unfold putS
  rw [← h]
  have e : ({ tfAt L j with s := (tfAt L j).s } : TF) = L[j] := by
    have : tfAt L j = L[j] := by unfold tfAt; simp [hj]
    rw [this]
  rw [e]
  exact List.set_getElem_self hj
theorem kptT_le (ks : List Int) (a : Nat) (x : TF) (h : x.s ≤ x.n) : x.s + kptT ks a x ≤ x.n := by
  unfold kptT
  split
  · omega
  · omega
section
variable {w : World} {M : Nat → Prop} {B0 tb c : Nat} {A : Option Addr} {n : TN} {L : List TF}
theorem cut_at {w : World} {M : Nat → Prop} {B0 tb c g j y : Nat} {n : TN} {L : List TF} (h : TnB w M B0 tb (some ⟨g, 0, none⟩) c n L) (hj : j < L.length) {P : Option Addr} {xn : Nat} (hP : (tfAt L j).P = P) (hn : (tfAt L j).n = xn) (hy : y ≤ xn) (nq : Nat) :
    TnB (((w.drewN nq).setCell ⟨g, j * 3 + 1, none⟩ (.slice P y y)).setCell ⟨g, j * 3 + 2, none⟩ (.int .i64 (y : Int))) M B0 tb (some ⟨g, 0, none⟩) c n (cutL L j y) ∧
      Fr w (((w.drewN nq).setCell ⟨g, j * 3 + 1, none⟩ (.slice P y y)).setCell ⟨g, j * 3 + 2, none⟩ (.int .i64 (y : Int))) (Tm tb (some ⟨g, 0, none⟩)) := by
  subst hP hn
  obtain ⟨k1, k2, k3, k4, k5⟩ := h.rd _ (tfAt_mem hj)
  have hb : Below w.heap.size w (w.drewN nq) := below_drewN (Below.refl _ w) nq
  obtain ⟨h1, f1⟩ := h.setB (c2 := y) hj hb ((k1.takeQ hy).below hb) (bytes_takeQ k2 y) ⟨Nat.le_refl _, by omega, fun e => by have := k5 e; omega⟩
  obtain ⟨h2, f2⟩ := h1.setS (s := y) (by rw [putB_len]; exact hj)
  exact ⟨h2, f1.trans f2 (fun b hb => .inl hb)⟩
set_option maxHeartbeats 40000000 in
theorem crash_tw (h : TnB w M B0 tb A c n L) (hL : L.length ≤ 100000) (hn : ∀ i, i < L.length → (tfAt L i).n ≤ 100000000 ∧ (tfAt L i).s ≤ (tfAt L i).n) (hM : ∀ b, M b → b < w.heap.size) (hB0 : B0 ≤ w.heap.size)
    {Ak : Option Addr} {nk ck : Nat} {ks : List Int} (hks : Rd w B0 Ak nk ks) (hnk : nk ≤ 9223372036854775807) :
    Calls Try.prog 18 #[.pointer (some ⟨tb, 0, none⟩), .slice Ak nk ck] w fun e w' => e = .returned (.tuple #[]) ∧ TnB w' M B0 tb A c { n with armed := false, off := false } (crTK ks L L.length).L ∧ Fr w w' (Tm tb A) := by
  have HT := Lib.hid h
  have HN := Lib.hid hn
  have HKS := Lib.hid hks
  have hkl := hks.1
  have c0 := h.tn.c0
  have htl := h.tlt
  have HTM := Lib.hid h.tmge
  clear h hn hks
  go_enter Try.func18, Try.ntmps18
  go_wp2_with fail
  go_loopw [4, 13] (fun v4 v13 wr => ∃ j : Nat, j ≤ L.length ∧ v13 = .int .i64 (j : Int) ∧ v4 = .int .i64 ((crTK ks L j).a : Int) ∧ Hid (TnB wr M B0 tb A c n (crTK ks L j).L) ∧ Hid (Fr w wr (Tm tb A))) (fun _ i _ => L.length - (intOf i).toNat)
  case atStart => exact ⟨0, Nat.zero_le _, rfl, rfl, HT, Lib.hid (Fr.refl _ _)⟩
  case round =>
    obtain ⟨j, hj, rfl, rfl, HTR, HFR⟩ := hrel
    obtain ⟨wo, hwo⟩ : ∃ x, x = wr := ⟨_, rfl⟩
    subst hwo
    by_cases hlt : j < L.length
    · have hll := crTK_len ks L j
      have ha := crTK_a ks L j
      have hjl : j < (crTK ks L j).L.length := by omega
      have hji : (j : Int) < (L.length : Int) := by omega
      have hji2 : (j : Int) < ((crTK ks L j).L.length : Int) := by omega
      obtain ⟨g, rfl, hg, r0, r1, r2⟩ := HTR.out.tn.row j hjl
      have c0r := HTR.out.tn.c0
      have hwb : B0 ≤ wo.heap.size := Nat.le_trans hB0 HFR.out.size
      have HKR : Hid (Rd wo B0 Ak nk ks) := Lib.hid (HKS.out.below (low_of_fr HFR.out (fun b hb => (HTM.out b hb).1) hB0))
      obtain ⟨k1, k2, k3⟩ := HTR.out.rd _ (tfAt_mem hjl)
      have hfz1 := HTR.out.tno.own.fz (j * 3 + 1)
      have hfz2 := HTR.out.tno.own.fz (j * 3 + 2)
      have hxe := crTK_rest ks L j j (Nat.le_refl _)
      have hxn := HN.out j hlt
      rw [← hxe] at hxn
      have HST : Hid (crTK ks L (j + 1) = crTS ks j (crTK ks L j)) := Lib.hid rfl
      generalize crTK ks L j = C at *
      obtain ⟨X, hX⟩ : ∃ X, X = tfAt C.L j := ⟨_, rfl⟩
      rw [← hX] at r0 r1 r2 hxn k1 k2 k3
      have HK1 := Lib.hid k1
      have HK2 := Lib.hid k2
      have HK3 := Lib.hid k3
      have HX := Lib.hid hX
      clear k1 k2 k3 hX hxe
      obtain ⟨xnm, xP, xn, xc, xbs, xs⟩ := X
      simp only at r0 r1 r2 hxn HK1 HK2 HK3
      have hxn1 := hxn.1
      have hxn2 := hxn.2
      clear hxn
      by_cases hsn : xs = xn
      · have d1 : decide ((xs : Int) < (xn : Int)) = false := by simp; omega
        have HE : Hid (crTS ks j C = C) := Lib.hid (by unfold crTS; rw [← HX.out, if_pos hsn])
        go_wp2_with fail
        go_quiet (fail)
        rename_i nq
        have HTQ := Lib.hid (HTR.out.below (below_drewN (Below.refl _ wo) nq))
        have hz := HTQ.out.setS (s := xn) hjl
        rw [putS_same hjl (by rw [← HX.out]; exact hsn)] at hz
        have HZ1 := Lib.hid hz.1
        have HZ2 := Lib.hid hz.2
        clear hz
        go_wp2_with fail
        refine ⟨⟨j + 1, by omega, by go_num, ?_, ?_, ?_⟩, by simp [intOf]; omega⟩
        · rw [HST.out, HE.out]
        · rw [HST.out, HE.out]; exact HZ1
        · exact Lib.hid ((HFR.out.then_below (below_drewN (Below.refl _ wo) nq)).trans HZ2.out (fun b hb => .inl hb))
      · have hlt2 : (xs : Int) < (xn : Int) := by omega
        have HK : Hid (xs + kptT ks C.a ⟨xnm, xP, xn, xc, xbs, xs⟩ ≤ xn) := Lib.hid (kptT_le ks C.a ⟨xnm, xP, xn, xc, xbs, xs⟩ hxn2)
        have hkd : kptT ks C.a ⟨xnm, xP, xn, xc, xbs, xs⟩ = if C.a < ks.length then (min (max (ix ks C.a) 0) ((xn : Int) - (xs : Int))).toNat else 0 := rfl
        have HE : Hid (crTS ks j C = ⟨cutL C.L j (xs + kptT ks C.a ⟨xnm, xP, xn, xc, xbs, xs⟩), C.a + 1⟩) := Lib.hid (by unfold crTS; rw [← HX.out, if_neg hsn])
        generalize kptT ks C.a ⟨xnm, xP, xn, xc, xbs, xs⟩ = kq at *
        have hkq := HK.out
        go_wp2_with fail
        go_quiet (fail)
        rename_i nq
        go_wp2_with fail
        go_loopw [7] (fun v7 wr => ∃ y q : Nat, xs ≤ y ∧ y ≤ xs + kq ∧ v7 = .int .i64 (y : Int) ∧ wr = wo.drewN q) (fun v _ => xn + 1 - (intOf v).toNat)
        case atStart => exact ⟨xs, nq, Nat.le_refl _, by omega, rfl, rfl⟩
        case round =>
          obtain ⟨y, q, hy1, hy2, rfl, rfl⟩ := hrel
          have hyxn : y ≤ xn := by omega
          have hsl := fun w' : World => sliceB_hm (w := w') HK3.out hyxn
          by_cases hal : C.a < nk
          · have hali : (C.a : Int) < (nk : Int) := by omega
            obtain ⟨b, off, rfl, hbb, hcell⟩ := HKR.out.at_ hal
            rw [if_pos (by omega)] at hkd
            have hcq : (wo.drewN q).cell? ⟨b, off + C.a, none⟩ = some (.int .i64 (ix ks C.a)) := hcell
            have hw1 : IntKind.i64.wrap ((y : Int) - (xs : Int)) = (y : Int) - (xs : Int) := IntWalk.i64_in _ (by omega)
            generalize hka : ix ks C.a = ka at *
            by_cases hik : y < xs + kq
            · have hlt3 : (y : Int) < (xn : Int) := by omega
              have hlt4 : (y : Int) - (xs : Int) < ka := by omega
              clear hkd hka
              go_wp2_with fail
              go_quiet (fail)
              go_wp2_with fail
              refine ⟨⟨y + 1, _, by omega, by omega, by go_num, by first | rfl | rw [World.drewN_drewN]⟩, by simp [intOf]; omega⟩
            · have HYE : Hid (y = xs + kq) := Lib.hid (by omega)
              by_cases hyn : y = xn
              · subst hyn
                clear hka
                clear hkd
                go_wp2_with fail
                go_quiet (fail)
                rename_i nq2
                have HCQ := fun nq => Lib.hid (cut_at (y := y) HTR.out hjl (P := xP) (xn := y) (by rw [← HX.out]) (by rw [← HX.out]) hyxn nq)
                go_wp2_with fail
                refine ⟨⟨j + 1, by omega, by go_num, ?_, ?_, ?_⟩, by simp [intOf]; omega⟩
                · rw [HST.out, HE.out]; go_num
                · rw [HST.out, HE.out, ← HYE.out]; exact Lib.hid (HCQ _).out.1
                · exact Lib.hid (HFR.out.trans (HCQ _).out.2 (fun b hb => .inl hb))
              · have d3 : (y : Int) < (xn : Int) := by omega
                have d4 : decide ((y : Int) - (xs : Int) < ka) = false := by simp; omega
                clear hka
                clear hkd
                go_wp2_with fail
                go_quiet (fail)
                rename_i nq2
                have HCQ := fun nq => Lib.hid (cut_at (y := y) HTR.out hjl (P := xP) (xn := xn) (by rw [← HX.out]) (by rw [← HX.out]) hyxn nq)
                go_wp2_with fail
                refine ⟨⟨j + 1, by omega, by go_num, ?_, ?_, ?_⟩, by simp [intOf]; omega⟩
                · rw [HST.out, HE.out]; go_num
                · rw [HST.out, HE.out, ← HYE.out]; exact Lib.hid (HCQ _).out.1
                · exact Lib.hid (HFR.out.trans (HCQ _).out.2 (fun b hb => .inl hb))
          · have d2 : decide ((C.a : Int) < (nk : Int)) = false := by simp; omega
            rw [if_neg (by omega)] at hkd
            have HYE : Hid (y = xs + kq) := Lib.hid (by omega)
            clear hkd
            go_wp2_with fail
            go_quiet (fail)
            rename_i nq2
            have HCQ := fun nq => Lib.hid (cut_at (y := y) HTR.out hjl (P := xP) (xn := xn) (by rw [← HX.out]) (by rw [← HX.out]) hyxn nq)
            go_wp2_with fail
            refine ⟨⟨j + 1, by omega, by go_num, ?_, ?_, ?_⟩, by simp [intOf]; omega⟩
            · rw [HST.out, HE.out]; go_num
            · rw [HST.out, HE.out, ← HYE.out]; exact Lib.hid (HCQ _).out.1
            · exact Lib.hid (HFR.out.trans (HCQ _).out.2 (fun b hb => .inl hb))
    · obtain ⟨j', hj'⟩ : ∃ j', j' = L.length := ⟨_, rfl⟩
      obtain rfl : j = j' := by omega
      have hji : ¬ (j : Int) < (j : Int) := by omega
      obtain rfl := hj'
      clear hji
      have f3 := HTR.out.tn.fz 3
      have f4 := HTR.out.tn.fz 4
      have hcc := HTR.out.tn.cells
      have htb := HTR.out.tlt
      have HCC := Lib.hid hcc
      have g3 := HTR.out.tn.c3
      have g4 := HTR.out.tn.c4
      clear hcc
      go_wp2_with fail
      go_end0
      have hcc := HCC.out
      have hF := (Fr.setCell wo (fun b => b = tb) (p := ⟨tb, 3, none⟩) rfl (.bool false)).trans (Fr.setCell _ (fun b => b = tb) (p := ⟨tb, 4, none⟩) rfl (.bool false)) (fun b hb => .inl hb)
      have h1 := heap_setCell_same wo tb 3 _ _ (.bool false) hcc
      have h2 := heap_setCell_same _ tb 4 _ _ (.bool false) h1
      exact ⟨rfl, HTR.out.nums hF h2, HFR.out.trans hF (fun b hb => .inl (.inl hb))⟩
end
end Go.Proofs.Ytfpcfbolpnfacaa
