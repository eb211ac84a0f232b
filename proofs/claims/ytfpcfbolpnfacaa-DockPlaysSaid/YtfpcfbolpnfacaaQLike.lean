/-
  DockPlays: the dock is the document's.
-/
import Derived.Test.YtfpcfbolpnfacaaQRead
import Derived.BigQuiet
import Derived.Deep.RegionHeld3
namespace Go.Proofs.Ytfpcfbolpnfacaa
open Go.RowKit
open ByteP
set_option linter.unusedVariables false
set_option maxRecDepth 10000
theorem safe_none {w : World} {db mb K : Nat} {n : Nm} {F : Int → Option Fi} (h : Dk w db mb K n F) {k : Int} (h0 : -9223372036854775808 ≤ k) (h1 : k ≤ 9223372036854775807) (hf : F k = none) :
    Calls Try.prog 24 #[.pointer (some ⟨db, 0, none⟩), .int .i64 k] w fun e w' => e = .returned (.int .i64 0) ∧ w' = w := by
  have c2 := h.c2
  have hl := (h.miss h0 h1 hf).2
  have hfs := fun w => fieldSafe (.slice none 0 0) 0 w
  clear h
  go_enter Try.func24, Try.ntmps24
  go_wp2
  go_ret
  exact ⟨rfl, rfl⟩
section
variable {wr w : World} {db mb tb K j c : Nat} {nm : Nm} {F : Int → Option Fi} {A : Option Addr} {n : TN} {L : List TF}
set_option maxHeartbeats 40000000 in
theorem like_any (hm : PlM wr w db mb tb K nm F A c n L) (hp : PlP K j nm F n L) :
    Calls Try.prog 7 #[.pointer (some ⟨db, 0, none⟩), .pointer (some ⟨tb, 0, none⟩)] wr fun e w' => e = .returned (.bool true) ∧ PlM w' w db mb tb K nm F A c n L := by
  have HM := Lib.hid hm
  have HP := Lib.hid hp
  have hln := hp.len
  have hjj := hp.jj
  have hkj := hp.kj
  have hn8 := Lib.hid hp.n8
  have hdown := hp.ln.down
  have HSZ := Lib.hid hp.size
  have HZ := Lib.hid hp.sz
  clear hm hp
  cases hoff : n.off with
  | true =>
    have hdd : nm.down = true := hdown.trans hoff
    have HN := Lib.hid (names_down HM.out.dk hdd)
    have c4 := HM.out.tn.tn.c4
    rw [hoff] at c4
    go_enter Try.func7, Try.ntmps7
    go_wp2_with fail
    refine HN.out.mono ?_
    rintro e w1 ⟨rfl, rfl⟩
    go_upto_region 2 with fail
    go_cut [29] (fun v29 w' => v29 = .bool false ∧ Hid (Below wr.heap.size wr w'))
    case first =>
      go_region_held3 (fun W => W.cell? ⟨tb, 4, none⟩ = some (.bool true)) ((first | exact c4 | exact c4' | go_keep)) (first
        | (go_at_call 22; refine (down_same (HM.out.below (Below.refl _ wr).drew).dk).mono ?_; rintro e w2 ⟨rfl, rfl⟩; rw [hdd])
        | (go_at_call 12; refine (size_any (HM.out.below (Below.refl _ wr).drew).dk).mono ?_; rintro e w2 ⟨rfl, rfl⟩; rw [HSZ.out])
        | (go_at_call 23; refine (size_tw (HM.out.below (Below.refl _ wr).drew).tn.tn (by omega) hn8.out).mono ?_; rintro e w2 ⟨rfl, hb⟩; have c4' := (hb.cell (p := ⟨tb, 4, none⟩) (block_lt_of_cell c4)).trans c4; have HB : Hid (Below wr.heap.size wr w2) := Lib.hid ((Below.refl _ wr).drew.trans hb); clear hb))
      all_goals (go_wp2_with fail; go_meet; exact ⟨by simp, HB⟩)
    case rest =>
      obtain ⟨rfl, HB⟩ := hcut
      have HM2 := Lib.hid (HM.out.below HB.out)
      have c42 := HM2.out.tn.tn.c4
      rw [hoff] at c42
      clear c4
      go_wp2_with fail
      go_ret
      exact ⟨by simp, HM2.out⟩
  | false =>
    have hdd : nm.down = false := hdown.trans hoff
    have HN := Lib.hid (names_up HM.out.dk (by omega) hdd)
    go_enter Try.func7, Try.ntmps7
    go_wp2_with fail
    refine HN.out.mono ?_
    rintro e w1 ⟨An, cn, ns, rfl, hown, hasc, hmem, hnl, hb⟩
    have hns := HP.out.lk.names hasc hmem
    have hnlen : ns.length = L.length := by rw [hns]; simp [nms]
    have HM1 := Lib.hid (HM.out.below hb)
    have HO1 := Lib.hid hown
    have HNS := Lib.hid hns
    have c4 := HM1.out.tn.tn.c4
    rw [hoff] at c4
    have hs1 := hb.size
    clear hown hasc hmem hnl hb HN hns
    rw [hnlen] at HO1 ⊢
    go_upto_region 2 with fail
    go_cut [29] (fun v29 w' => v29 = .bool false ∧ Hid (Below w1.heap.size w1 w'))
    case first =>
      go_region_held3 (fun W => W.cell? ⟨tb, 4, none⟩ = some (.bool false)) ((first | exact c4 | exact c4' | go_keep)) (first
        | (go_at_call 22; refine (down_same (HM1.out.below (Below.refl _ w1).drew).dk).mono ?_; rintro e w2 ⟨rfl, rfl⟩; rw [hdd])
        | (go_at_call 12; refine (size_any (HM1.out.below (Below.refl _ w1).drew).dk).mono ?_; rintro e w2 ⟨rfl, rfl⟩; rw [HSZ.out])
        | (go_at_call 23; refine (size_tw (HM1.out.below (Below.refl _ w1).drew).tn.tn (by omega) hn8.out).mono ?_; rintro e w2 ⟨rfl, hb⟩; have c4' := (hb.cell (p := ⟨tb, 4, none⟩) (block_lt_of_cell c4)).trans c4; have HB : Hid (Below w1.heap.size w1 w2) := Lib.hid ((Below.refl _ w1).drew.trans hb); clear hb))
      all_goals (go_wp2_with fail; go_meet; exact ⟨by simp, HB⟩)
    case rest =>
      obtain ⟨rfl, HB⟩ := hcut
      obtain ⟨w2, hw2⟩ : ∃ w2 : World, w2 = wc := ⟨_, rfl⟩
      subst hw2
      have HM2 := Lib.hid (HM1.out.below HB.out)
      have HO2 := Lib.hid (HO1.out.kept HB.out)
      have c42 := HM2.out.tn.tn.c4
      have c02 := HM2.out.tn.tn.c0
      rw [hoff] at c42
      have he : ((L.length : Int) == (L.length : Int)) = true := by simp
      clear c4 HM1 HO1
      go_wp2_with fail
      go_loopw [7, 8, 9, 10, 58] (fun v7 v8 v9 v10 v58 wr' => ∃ i : Nat, i ≤ L.length ∧ v58 = .int .i64 (i : Int) ∧ Hid (Below w2.heap.size w2 wr')) (fun _ _ _ _ v _ => L.length - (intOf v).toNat)
      case atStart => exact ⟨0, Nat.zero_le _, rfl, Lib.hid (Below.refl _ _)⟩
      case round =>
        obtain ⟨i, hi, rfl, HBR⟩ := hrel
        have HMR := Lib.hid (HM2.out.below HBR.out)
        have HOR := Lib.hid (HO2.out.kept HBR.out)
        obtain ⟨wo, hwo⟩ : ∃ x, x = wr := ⟨_, rfl⟩
        subst hwo
        by_cases hlt : i < L.length
        · have hii : (i : Int) < (L.length : Int) := by omega
          obtain ⟨f, hF, f1, f2, f3⟩ := HP.out.lk.fwd i hlt
          obtain ⟨g, rfl, hg, r0, r1, r2⟩ := HMR.out.tn.tn.row i hlt
          have hgood := HMR.out.dk.good _ f hF
          have hix : ix ns i = (tfAt L i).nm := by rw [HNS.out]; exact nms_ix hlt
          obtain ⟨gn, cn', hv, hge, hgl⟩ := HOR.out.form (by omega)
          injection hv with hv1 hv2 hv3
          subst hv1 hv3
          have hcn := HOR.out.cell hlt
          rw [hix] at hcn
          obtain ⟨k1, k2, k3⟩ := HMR.out.tn.rd _ (tfAt_mem hlt)
          have HK1 := Lib.hid k1
          have HF := Lib.hid hF
          have HF1 := Lib.hid f1
          have hfn : f.n ≤ 100000000 := by rw [f3]; exact hn8.out i hlt
          have HF2 : Hid ((f.s : Int) = ((tfAt L i).s : Int)) := Lib.hid (by rw [f2])
          have HF3 := Lib.hid f3
          clear hF f1 f2 f3 k1 k2 k3 hix
          generalize (tfAt L i).nm = xnm at *
          generalize (tfAt L i).P = xP at *
          generalize (tfAt L i).n = xn at *
          generalize (tfAt L i).c = xc at *
          generalize ((tfAt L i).s : Int) = xs at *
          have HRD := fun w' (hb : Below wo.heap.size wo w') => read_some (HMR.out.below hb).dk hdd HF.out
          go_wp2_with fail
          have HB4 : Hid (Below wo.heap.size wo (wo.alloc (.cells #[.int .i64 xnm, .slice xP xn xc, .int .i64 xs] 51))) := Lib.hid ((Below.refl _ wo).alloc (Nat.le_refl _) _)
          have hbx := heap_alloc_new wo (.cells #[.int .i64 xnm, .slice xP xn xc, .int .i64 xs] 51)
          refine (HRD _ HB4.out).mono ?_
          rintro e w5 ⟨A5, c5, rfl, hown5, hb5⟩
          have hbx5 := (hb5.block wo.heap.size (by simp)).trans hbx
          have x0 : w5.cell? ⟨wo.heap.size, 0, none⟩ = some (.int .i64 xnm) := by simp [World.cell?, hbx5]
          have x1 : w5.cell? ⟨wo.heap.size, 1, none⟩ = some (.slice xP xn xc) := by simp [World.cell?, hbx5]
          have x2 : w5.cell? ⟨wo.heap.size, 2, none⟩ = some (.int .i64 xs) := by simp [World.cell?, hbx5]
          have HB5 : Hid (Below wo.heap.size wo w5) := Lib.hid (HB4.out.trans (hb5.mono (by simp)))
          have HM5 := Lib.hid (HMR.out.below HB5.out)
          have hcn5 := (HB5.out.cell (p := ⟨gn, i, none⟩) hgl).trans hcn
          have hst1 : ∀ q, (convert 30 9 (.slice A5 f.n c5)).run Try.prog (w5.drewN q) = .ok (.string (strOfNums f.bs)) (w5.drewN q) := fun q => by
            obtain ⟨A2, c2, e, hr⟩ := hown5.shape
            injection e with ea eb ec
            subst ea ec
            exact str_run (c := c5) (hr.drewN q)
          have hst2 : ∀ q, (convert 30 9 (.slice xP xn xc)).run Try.prog (w5.drewN q) = .ok (.string (strOfNums f.bs)) (w5.drewN q) := fun q => by
            rw [HF1.out]; exact str_run (c := xc) ((HK1.out.below HB5.out).rd.drewN q)
          have HSAFE : Hid (∀ q, Calls Try.prog 24 #[.pointer (some ⟨db, 0, none⟩), .int .i64 xnm] (w5.drewN q) fun e w' => e = .returned (.int .i64 xs) ∧ w' = w5.drewN q) := Lib.hid (fun q => by
            have h := safe_same (HM5.out.dk.drewN q) (by omega) (by omega) HF.out
            rw [HF2.out] at h
            exact h)
          clear hown5 hb5 hbx hbx5 hcn r0 r1 r2 HRD
          go_wp2_with fail
          go_quiet (first | (go_at_call 24; refine Calls.quiet_of_same (HSAFE.out _)))
          rename_i nq
          go_wp2_with fail
          refine ⟨⟨i + 1, by omega, by go_num, Lib.hid (HBR.out.trans ((below_drewN HB5.out nq).mono HBR.out.size))⟩, by simp [intOf]; omega⟩
        · have hii : ¬ (i : Int) < (L.length : Int) := by omega
          have HN1 : Hid (F (-1) = none) := Lib.hid (by
            cases hf : F (-1) with
            | none => rfl
            | some f => have := HMR.out.dk.good _ f hf; omega)
          have HS := Lib.hid (safe_none HMR.out.dk (by omega) (by omega) HN1.out)
          go_wp2_with fail
          refine HS.out.mono ?_
          rintro e w6 ⟨rfl, rfl⟩
          go_wp2
          go_ret
          exact ⟨by simp, HMR.out⟩
end
end Go.Proofs.Ytfpcfbolpnfacaa
