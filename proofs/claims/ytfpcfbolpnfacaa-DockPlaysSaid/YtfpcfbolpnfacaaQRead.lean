/-
  DockPlays: a step that reads.
-/
import Derived.Test.YtfpcfbolpnfacaaQStep
import Derived.BigQuiet
namespace Go.Proofs.Ytfpcfbolpnfacaa
open Go.RowKit
open ByteP
set_option linter.unusedVariables false
set_option maxRecDepth 10000
section
variable {w : World} {db mb K : Nat} {n : Nm} {F : Int → Option Fi}
theorem read_down (h : Dk w db mb K n F) (hd : n.down = true) (k : Int) : Calls Try.prog 11 #[.pointer (some ⟨db, 0, none⟩), .int .i64 k] w fun e w' => e = .returned (.tuple #[.slice none 0 0, .int .i64 51]) ∧ Below w.heap.size w w' := by
  have H := Lib.hid h
  have HD := Lib.hid hd
  clear h hd
  go_enter Try.func11, Try.ntmps11
  go_wp2_with fail
  refine (find_down H.out HD.out k).mono ?_
  rintro e w1 ⟨rfl, hb⟩
  have HB := Lib.hid hb
  have hsz := hb.size
  clear hb
  go_wp2
  go_ret2
  exact ⟨rfl, HB.out.trans ((Below.refl _ _).alloc hsz _)⟩
theorem read_none (h : Dk w db mb K n F) (hd : n.down = false) {k : Int} (h0 : -9223372036854775808 ≤ k) (h1 : k ≤ 9223372036854775807) (hf : F k = none) : Calls Try.prog 11 #[.pointer (some ⟨db, 0, none⟩), .int .i64 k] w fun e w' => e = .returned (.tuple #[.slice none 0 0, .int .i64 52]) ∧ Below w.heap.size w w' := by
  have H := Lib.hid h
  have HD := Lib.hid hd
  have HF := Lib.hid hf
  clear h hd hf
  go_enter Try.func11, Try.ntmps11
  go_wp2_with fail
  refine (find_none H.out HD.out h0 h1 HF.out).mono ?_
  rintro e w1 ⟨rfl, hb⟩
  have HB := Lib.hid hb
  have hsz := hb.size
  clear hb
  go_wp2
  go_ret2
  exact ⟨rfl, HB.out.trans ((Below.refl _ _).alloc hsz _)⟩
end
section
variable {wr w : World} {db mb tb K j c : Nat} {nm : Nm} {F : Int → Option Fi} {A : Option Addr} {n : TN} {L : List TF} {kd k q : Int} {dA kA : Option Addr} {dn dc kn kc : Nat} {ds ks : List Int}
set_option maxHeartbeats 16000000 in
theorem step4 (hm : PlM wr w db mb tb K nm F A c n L) (hp : PlP K j nm F n L) (hj : j < 100) (hk0 : -9223372036854775808 ≤ k) (hk1 : k ≤ 9223372036854775807) (hq1 : q ≤ 9223372036854775807) (hdn : dn ≤ 500) (hy : RdY w w.heap.size dA dn ds) (hby : Bytes ds) (hks : Rd w w.heap.size kA kn ks) (hkn : kn ≤ 100) :
    Calls Try.prog 6 #[.pointer (some ⟨db, 0, none⟩), .pointer (some ⟨tb, 0, none⟩), opVal 4 k q dA dn dc kA kn kc] wr fun e w' => e = .returned (.bool true) ∧ PlE w' w db mb tb (j + 1) := by
  obtain ⟨hf1, hf2⟩ := hm.fresh
  have HMB : Hid (PlM (wr.alloc (opO 4 k q dA dn dc kA kn kc)) w db mb tb K nm F A c n L) := Lib.hid (hm.below ((Below.refl _ wr).alloc (Nat.le_refl _) _))
  have HBX : Hid (Bx (wr.alloc (opO 4 k q dA dn dc kA kn kc)) wr.heap.size 4 k q dA dn dc kA kn kc) := Lib.hid ⟨opO_heap wr⟩
  have HP := Lib.hid hp
  have HBY := Lib.hid hby
  have HY := Lib.hid hy
  have HKS := Lib.hid hks
  have HF1 := Lib.hid hf1
  have HF2 := Lib.hid hf2
  clear hm hp hf1 hf2 hby hy hks
  unfold opVal
  go_enter Try.func6, Try.ntmps6
  go_upto_region 1 with fail
  change Code.wp _ _ _ _ (wr.alloc (opO 4 k q dA dn dc kA kn kc))
  generalize hob : wr.heap.size = ob at *
  generalize wr.alloc (opO 4 k q dA dn dc kA kn kc) = w1 at *
  have o0 := HBX.out.c0
  have o1 := HBX.out.c1
  have o2 := HBX.out.c2
  have o3 := HBX.out.c3
  have o4 := HBX.out.c4
  have hdn' := HMB.out.mbge
  cases hoff : n.off with
  | true =>
    have hdd : nm.down = true := HP.out.ln.down.trans hoff
    have HR := Lib.hid (read_down HMB.out.dk hdd k)
    have c4 := HMB.out.tn.tn.c4
    rw [hoff] at c4
    have htl := block_lt_of_cell c4
    have hobl := block_lt_of_cell o1
    go_wp2_with fail
    refine HR.out.mono ?_
    rintro e w2 ⟨rfl, hb⟩
    have HM2 := Lib.hid (HMB.out.below hb)
    have p1 := (hb.cell (p := ⟨ob, 1, none⟩) hobl).trans o1
    clear hb HR
    have HLE := Lib.hid HP.out.len
    go_wp2_with fail
    refine (find_tw HM2.out.tn.tn (by have := HLE.out; omega) k).mono ?_
    rintro e w3 ⟨rfl, hb⟩
    have HM3 := Lib.hid (HM2.out.below hb)
    have c43 := HM3.out.tn.tn.c4
    rw [hoff] at c43
    clear hb
    go_wp2_with fail
    go_ret
    exact ⟨by simp, K, nm, F, A, c, n, L, HM3.out, HP.out.more hj⟩
  | false =>
    have hdd : nm.down = false := HP.out.ln.down.trans hoff
    rcases HP.out.look k with ⟨hF, hT⟩ | ⟨p, f, hpl, e1, hT, hF, e2, e3, e4⟩
    · have HR := Lib.hid (read_none HMB.out.dk hdd hk0 hk1 hF)
      have hobl := block_lt_of_cell o1
      have HTT := Lib.hid hT
      clear hT hF
      go_wp2_with fail
      refine HR.out.mono ?_
      rintro e w2 ⟨rfl, hb⟩
      have HM2 := Lib.hid (HMB.out.below hb)
      have p1 := (hb.cell (p := ⟨ob, 1, none⟩) hobl).trans o1
      clear hb HR
      have HLE := Lib.hid HP.out.len
      go_wp2_with fail
      refine (find_tw HM2.out.tn.tn (by have := HLE.out; omega) k).mono ?_
      rintro e w3 ⟨rfl, hb⟩
      rw [HTT.out, show fndI none = -1 from rfl]
      have HM3 := Lib.hid (HM2.out.below hb)
      have c43 := HM3.out.tn.tn.c4
      rw [hoff] at c43
      clear hb
      go_wp2_with fail
      go_ret
      exact ⟨by simp, K, nm, F, A, c, n, L, HM3.out, HP.out.more hj⟩
    · have HR := Lib.hid (read_some HMB.out.dk hdd hF)
      have hobl := block_lt_of_cell o1
      have HTT := Lib.hid hT
      have HE1 := Lib.hid e2
      have HE2 := Lib.hid e4
      have hfn : f.n ≤ 100000000 := by rw [e4]; exact HP.out.n8 p hpl
      clear hT hF e1 e2 e3 e4
      go_wp2_with fail
      refine HR.out.mono ?_
      rintro e w2 ⟨A', c', rfl, hown, hb⟩
      have HM2 := Lib.hid (HMB.out.below hb)
      have HO2 := Lib.hid hown
      have HB2 := Lib.hid hb
      have p1 := (hb.cell (p := ⟨ob, 1, none⟩) hobl).trans o1
      clear hb HR hown
      have HLE := Lib.hid HP.out.len
      go_wp2_with fail
      refine (find_tw HM2.out.tn.tn (by have := HLE.out; omega) k).mono ?_
      rintro e w3 ⟨rfl, hb⟩
      rw [HTT.out, show fndI (some p) = (p : Int) from rfl]
      have HM3 := Lib.hid (HM2.out.below hb)
      have HO3 := Lib.hid (HO2.out.kept hb)
      have HB3 := Lib.hid (HB2.out.trans (hb.mono HB2.out.size))
      have c43 := HM3.out.tn.tn.c4
      have c03 := HM3.out.tn.tn.c0
      rw [hoff] at c43
      clear hb HO2 HB2 HM2
      obtain ⟨g, rfl, hg, r0, r1, r2⟩ := HM3.out.tn.tn.row p hpl
      have hji : (p : Int) < (L.length : Int) := by omega
      have dp : decide ((p : Int) < 0) = false := by simp
      obtain ⟨k1, k2, k3⟩ := HM3.out.tn.rd _ (tfAt_mem hpl)
      have hst1 : ∀ q, (convert 30 9 (.slice A' f.n c')).run Try.prog (w3.drewN q) = .ok (.string (strOfNums f.bs)) (w3.drewN q) := fun q => by
        obtain ⟨A2, c2, e, hr⟩ := HO3.out.shape
        injection e with ea eb ec
        subst ea ec
        exact str_run (c := c') (hr.drewN q)
      have hst2 : ∀ q, (convert 30 9 (.slice (tfAt L p).P (tfAt L p).n (tfAt L p).c)).run Try.prog (w3.drewN q) = .ok (.string (strOfNums f.bs)) (w3.drewN q) := fun q => by
        rw [HE1.out]; exact str_run (c := (tfAt L p).c) (k1.rd.drewN q)
      have HK1 := Lib.hid k1
      clear k1 k2 k3
      generalize (tfAt L p).nm = xnm at *
      generalize (tfAt L p).P = xP at *
      generalize (tfAt L p).n = xn at *
      generalize (tfAt L p).c = xc at *
      generalize ((tfAt L p).s : Int) = xs at *
      go_wp2_with fail
      go_quiet (fail)
      rename_i nq
      generalize hfnn : f.n = fn at *
      have HFN := Lib.hid hfnn
      clear hfnn hst1 hst2 r0 r1 r2 c03 c43 o0 o1 o2 o3 o4 p1
      have HOQ : Hid (OwnY (w3.drewN nq) w1.heap.size (.slice A' fn c') fn f.bs) := Lib.hid HO3.out
      have HBQ := Lib.hid (below_drewN HB3.out nq)
      generalize w3.drewN nq = w4 at *
      clear HO3 HB3 HM3
      go_wp2_with fail
      go_loopw [14, 107] (fun v14 v107 wr' => ∃ (i : Nat) (zs : List Int), i ≤ fn ∧ v107 = .int .i64 (i : Int) ∧ Hid (OwnY wr' w1.heap.size (.slice A' fn c') fn zs) ∧ Hid (Below w1.heap.size w1 wr')) (fun _ v _ => fn - (intOf v).toNat)
      case atStart => exact ⟨0, f.bs, Nat.zero_le _, rfl, HOQ, HBQ⟩
      case round =>
        obtain ⟨i, zs, hi, rfl, HOR, HBR⟩ := hrel
        by_cases hlt : i < fn
        · have hii : (i : Int) < (fn : Int) := by omega
          obtain ⟨gb, cb, hv, hge, hgl⟩ := HOR.out.form (by omega)
          injection hv with hv1 hv2 hv3
          subst hv1 hv3
          have hcell := HOR.out.cell hlt
          have hfree := HOR.out.free i
          go_wp2_with fail
          refine ⟨⟨i + 1, zs.set i _, by omega, by go_num, Lib.hid (HOR.out.store i _), Lib.hid (HBR.out.setCell hge _)⟩, by simp [intOf]; omega⟩
        · have hii : ¬ (i : Int) < (fn : Int) := by omega
          go_wp2
          go_ret
          exact ⟨by simp, K, nm, F, _, c, n, L, HMB.out.below HBR.out, HP.out.more hj⟩
end
end Go.Proofs.Ytfpcfbolpnfacaa
