/-
 THE WALK of the statement SagaMirrors (printed by gengl2.py).
-/
import Derived.Test.YtolgmoaoheflcaaGAn
import Derived.Test.YtolgmoaoheflcaaGRe
namespace Go.Proofs.Ytolgmoaoheflcaa.Sa
open Go.RowKit
open DiP
set_option linter.unusedVariables false
set_option linter.unusedSimpArgs false
set_option maxRecDepth 10000
def uF (x : Nat) : List Value := [.int .u64 (x : Int)]
theorem infoU : (Try.prog.info? 39).map (fun i => (i.zero, i.size, i.bytes)) = some (some (.int .u64 0), 1, 8) := by kernel_rfl
theorem wplF_oneU {w : World} {ops : Array Oper} {rest : List Oper} {o : Oper} {a : Act} {Q : Exit → Act → World → Prop} (hgd : o.guard = none) (s x : Operand)
  (ho : o.op = .call { callee := .builtin .append, args := #[s, x], argTypes := #[74, 74] })
  (base : Nat) (v : Value) (l : List Nat) (hs : a.eval s = v) (hown : OwnF 39 1 uF w base v l)
  (p : Addr) (d : Nat) (y : Nat) (hx : a.eval x = .slice (some p) 1 d) (hc : w.cell? p = some (.int .u64 (y : Int))) (hn : l.length + 1 ≤ 1000000000) (hbase : base ≤ w.heap.size)
  (h : ∀ A' n' c' w', OwnF 39 1 uF w' base (.slice A' n' c') (l ++ [y]) → w.grownBy w' v.ownBlock → wpList Try.prog ops Q rest (a.put o.dst (.slice A' n' c')) w') :
  wpList Try.prog ops Q (o :: rest) a w := by
 refine wplF_appA (f := uF) (fun _ => rfl) (fun x u hu => by simp [uF] at hu; subst hu; rfl) Try.underlying74 infoU rfl (by decide) (by decide) hgd s x ho base v l hs hown p 1 d [y] hx rfl ?_ hn hbase ?_
 ·intro j u hu
  match j, hu with
  | 0, hu =>
   have : u = .int .u64 (y : Int) := by simpa [uF] using hu.symm
   rw [this]
   have : p.add 0 = p := by unfold Addr.add; simp
   rw [this]; exact hc
  | j + 1, hu => simp [uF] at hu
 ·intro v' w' ho' hg _
  obtain ⟨A', c', hv⟩ := ho'.shape
  subst hv
  exact h _ _ _ w' ho' hg
theorem flat_u : ∀ (l : List Nat) (j : Nat), j < l.length → (l.flatMap uF)[j]? = some (.int .u64 ((l.getD j 0 : Nat) : Int))
 | [], j, h => absurd h (by simp)
 | x :: l, 0, h => rfl
 | x :: l, j + 1, h => by
  rw [List.flatMap_cons]
  show (uF x ++ l.flatMap uF)[j + 1]? = _
  rw [List.getElem?_append_right (by show 1 ≤ j + 1; omega)]
  exact flat_u l j (by simpa using h)
/-- What was reached ahead of each step that is done. -/
def setsOf (dn : List Int) : List Nat := (List.range dn.length).map (fun i => setL (dn.take i))
theorem setsOf_len (dn : List Int) : (setsOf dn).length = dn.length := by simp [setsOf]
theorem setsOf_at {dn : List Int} {i : Nat} (h : i < dn.length) : (setsOf dn).getD i 0 = setL (dn.take i) := by simp [setsOf, List.getD, h]
theorem setsOf_snoc (dn : List Int) (x : Int) : setsOf (dn ++ [x]) = setsOf dn ++ [setL dn] := by
 unfold setsOf
 rw [List.length_append, List.length_singleton, List.range_succ, List.map_append]
 congr 1
 ·apply List.map_congr_left
  intro i hi
  rw [List.take_append_of_le_length (by have := List.mem_range.1 hi; omega)]
 ·simp
theorem m_begin {p : PlV} (h : takeE st0 ⟨1, 0, p⟩ = 0) : (takeS st0 ⟨1, 0, p⟩).ph = 1 ∧ (takeS st0 ⟨1, 0, p⟩).op = [] ∧ (takeS st0 ⟨1, 0, p⟩).dn = [] := by
 unfold takeS; rw [if_pos h]; exact ⟨rfl, rfl, rfl⟩
theorem m_intent {s : StV} {x : Int} (hp : s.ph = 1) (ho : s.op = []) (hm : mayB s x = true) : takeE s ⟨2, x, pl0⟩ = 0 ∧ takeS s ⟨2, x, pl0⟩ = { s with op := [x] } := by
 have e : takeE s ⟨2, x, pl0⟩ = 0 := by simp [takeE, checkI, formB, bareB, ofStepB, pl0, hearsB, hp, hm]
 refine ⟨e, ?_⟩
 unfold takeS; rw [if_pos e]
 simp [behindS, ho]
theorem m_done {s : StV} {x : Int} (hp : s.ph = 1) (ho : s.op = [x]) : takeE s ⟨3, x, pl0⟩ = 0 ∧ takeS s ⟨3, x, pl0⟩ = { s with op := [], dn := s.dn ++ [x] } := by
 have hi : inB s.op x = true := inB_iff.2 (by rw [ho]; simp)
 have e : takeE s ⟨3, x, pl0⟩ = 0 := by simp [takeE, checkI, formB, bareB, ofStepB, pl0, hearsB, hp, hi]
 refine ⟨e, ?_⟩
 unfold takeS; rw [if_pos e]
 simp [behindS, ho, withoutL]
theorem m_abort {s : StV} (hp : s.ph = 1) : takeE s ⟨5, 0, pl0⟩ = 0 ∧ takeS s ⟨5, 0, pl0⟩ = { s with ph := 2 } := by
 have e : takeE s ⟨5, 0, pl0⟩ = 0 := by simp [takeE, checkI, formB, bareB, ofStepB, pl0, hearsB, hp]
 refine ⟨e, ?_⟩
 unfold takeS; rw [if_pos e]
 simp [behindS]
theorem m_undo {s : StV} {d : List Int} {x : Int} (hi : InvS s) (hp : s.ph = 2) (ho : s.op = []) (hd : s.dn = d ++ [x]) : topO s = some x ∧ takeE s ⟨6, x, pl0⟩ = 0 ∧ takeS s ⟨6, x, pl0⟩ = { s with op := [], dn := d } := by
 have ht : topO s = some x := by unfold topO; rw [if_pos hp, if_pos ho, hd]; simp
 have e : takeE s ⟨6, x, pl0⟩ = 0 := by simp [takeE, checkI, formB, bareB, ofStepB, pl0, hearsB, hp, ht]
 refine ⟨ht, e, ?_⟩
 have hnd := hi.nd
 rw [ho, List.nil_append, hd] at hnd
 have hw : withoutL s.dn x = d := by rw [hd]; exact without_last hnd
 have hw2 : withoutL s.op x = [] := by rw [ho]; rfl
 unfold takeS; rw [if_pos e]
 simp [behindS, hw, hw2]
theorem take_less {l : List Int} {k : Nat} (h : k < l.length) : l.take (k + 1) = l.take k ++ [ix l k] := take_ix h
theorem grown_none {w w' : World} (h : w.grownBy w' none) : Below w.heap.size w w' := ⟨h.os, h.tape, h.output, h.size, fun k hk => h.block k hk (fun e => by cases e)⟩
theorem StO.grownU {w w' : World} {base b : Nat} {num ph : Int} {AF AT AS AE AO AD : Option Addr} {nF nT nS nE nO nD cF cT cS cE cO cD : Nat} {s : StV} {v : Value} {l : List Nat} (h : StO w base num ph AF nF cF AT nT cT AS nS cS AE nE cE AO nO cO AD nD cD s) (hu : OwnF 39 1 uF w b v l) (hg : w.grownBy w' v.ownBlock) : StO w' base num ph AF nF cF AT nT cT AS nS cS AE nE cE AO nO cO AD nD cD s := by
 rcases hu.2 with ⟨hv, _⟩ | ⟨g, cap, cur, hv, _, hh, _⟩
 ·rw [hv] at hg
  exact h.kept (grown_none hg)
 ·refine h.apart hh (by decide) (by decide) (by decide) (fun k hk hne => hg.block k hk (fun e => hne (by rw [hv] at e; injection e)))
theorem OwnF.cellU {w : World} {base n c : Nat} {A : Option Addr} {l : List Nat} (h : OwnF 39 1 uF w base (.slice A n c) l) {j : Nat} (hj : j < n) : ∃ b, A = some ⟨b, 0, none⟩ ∧ b < w.heap.size ∧ w.cell? ⟨b, j, none⟩ = some (.int .u64 ((l.getD j 0 : Nat) : Int)) := by
 obtain ⟨hl, hc⟩ := OwnF.cellsA (f := uF) (z := 1) (fun _ => rfl) h
 obtain ⟨b, e, hb, hcc⟩ := hc (by omega)
 exact ⟨b, e, hb, hcc j _ (flat_u l j (by omega))⟩
set_option maxHeartbeats 32000000 in
theorem law_mirrors {w : World} {AF AT AS AE : Option Addr} {nF nT nS nE cF cT cS cE nP cP : Nat} {AP : Option Addr} {p : PlV} {ps : List Int} (h : PlR w w.heap.size AF nF AT nT AS nS AE nE p) (hps : Rd w w.heap.size AP nP ps) (hnp : nP ≤ 9223372036854775807) :
 Calls Try.prog 7 #[.agg #[.slice AF nF cF, .slice AT nT cT, .slice AS nS cS, .slice AE nE cE], .slice AP nP cP] w fun e w' => e = .returned (.bool true) ∧ Below w.heap.size w w' := by
 obtain ⟨W, HW⟩ : ∃ W, Hid (W = w.alloc (.cells #[.slice AF nF cF, .slice AT nT cT, .slice AS nS cS, .slice AE nE cE] 29)) := ⟨_, Lib.hid rfl⟩
 have HBL : Hid (Below w.heap.size w W) := Lib.hid (by rw [HW.out]; exact (Below.refl _ w).alloc (Nat.le_refl _) _)
 have H0 : Hid (W.heap[w.heap.size]? = some (.cells #[.slice AF nF cF, .slice AT nT cT, .slice AS nS cS, .slice AE nE cE] 29 (0, 0))) := Lib.hid (by rw [HW.out]; exact heap_new w _)
 have HPL := Lib.hid (h.below HBL.out)
 have HPW := Lib.hid h
 have HPS := Lib.hid hps
 have HAN := Lib.hid (anchor_any W)
 clear h hps
 go_enter Try.func7, Try.ntmps7
 go_upto_region 1 with fail
 change Code.wp _ _ _ _ (w.alloc (.cells #[.slice AF nF cF, .slice AT nT cT, .slice AS nS cS, .slice AE nE cE] 29))
 rw [← HW.out]
 go_wp2_with fail
 refine HAN.out.mono ?_
 rintro e wa ⟨rfl, hb⟩
 have HBA := Lib.hid (HBL.out.trans (hb.mono HBL.out.size))
 have HHA : Hid (wa.heap[w.heap.size]? = some (.cells #[.slice AF nF cF, .slice AT nT cT, .slice AS nS cS, .slice AE nE cE] 29 (0, 0))) := Lib.hid ((hb.block _ (heapE_lt H0.out)).trans H0.out)
 clear hb HAN
 have HMP := Lib.hid (madeP_any (w := wa) (cF := cF) (cT := cT) (cS := cS) (cE := cE) (HPW.out.below HBA.out) HBA.out.size)
 obtain ⟨x0, x1, x2, x3⟩ := row4 HHA.out
 go_wp2_with fail
 refine HMP.out.mono ?_
 rintro e wb ⟨hb, hc⟩
 have HBB := Lib.hid (HBA.out.trans (hb.mono HBA.out.size))
 have HHB : Hid (wb.heap[w.heap.size]? = some (.cells #[.slice AF nF cF, .slice AT nT cT, .slice AS nS cS, .slice AE nE cE] 29 (0, 0))) := Lib.hid ((hb.block _ (heapE_lt HHA.out)).trans HHA.out)
 clear hb HMP x0 x1 x2 x3
 rcases hc with ⟨hs, rfl⟩ | ⟨hs, A', n', c', rfl, ho⟩
 ·have HBZ := Lib.hid (fun (o : Obj) => HBB.out.alloc HBB.out.size o)
  clear hs
  go_wp2_with fail
  exact bodyPost_ret (results_tmp rfl _ _ _) rfl ⟨rfl, HBZ.out _⟩
 have HSZ := Lib.hid hs
 clear hs ho
 obtain ⟨C, HCE⟩ : ∃ C, Hid (C = wb.alloc (.cells #[.slice AF nF cF, .slice AT nT cT, .slice A' n' c', .slice AE nE cE] 47)) := ⟨_, Lib.hid rfl⟩
 have hcb : Below wb.heap.size wb C := by rw [HCE.out]; exact (Below.refl _ wb).alloc (Nat.le_refl _) _
 have HBC := Lib.hid (HBB.out.trans (hcb.mono HBB.out.size))
 have HHC : Hid (C.heap[w.heap.size]? = some (.cells #[.slice AF nF cF, .slice AT nT cT, .slice AS nS cS, .slice AE nE cE] 29 (0, 0))) := Lib.hid ((hcb.block _ (heapE_lt HHB.out)).trans HHB.out)
 clear hcb
 go_upto_region 4 with fail
 change Code.wp _ _ _ _ (wb.alloc (.cells #[.slice AF nF cF, .slice AT nT cT, .slice A' n' c', .slice AE nE cE] 47))
 rw [← HCE.out]
 by_cases h40 : 40 < nP
 ·have d40 : decide (40 < (nP : Int)) = true := decide_eq_true (by omega)
  go_wp2_with fail
  exact bodyPost_ret (results_tmp rfl _ _ _) rfl ⟨rfl, HBC.out⟩
 have d40 : decide (40 < (nP : Int)) = false := decide_eq_false (by omega)
 have HTK := Lib.hid (take_any (w := C) (base := 0) (r := ⟨1, 0, p⟩) (dF := cF) (dT := cT) (dS := cS) (dE := cE) StO.nil_ InvS.start (RcW.of (HPW.out.below HBC.out) HSZ.out rfl rfl) HBC.out.size)
 obtain ⟨er, HER⟩ : ∃ q, Hid (takeE st0 ⟨1, 0, p⟩ = q) := ⟨_, Lib.hid rfl⟩
 rw [HER.out] at HTK
 obtain ⟨x0, x1, x2, x3⟩ := row4 HHC.out
 go_wp2_with fail
 refine HTK.out.mono ?_
 rintro e wd ⟨hb, hc⟩
 have HBD := Lib.hid (HBC.out.trans (hb.mono HBC.out.size))
 have HHD : Hid (wd.heap[w.heap.size]? = some (.cells #[.slice AF nF cF, .slice AT nT cT, .slice AS nS cS, .slice AE nE cE] 29 (0, 0))) := Lib.hid ((hb.block _ (heapE_lt HHC.out)).trans HHC.out)
 clear hb HTK x0 x1 x2 x3
 rcases hc with ⟨hne, rfl⟩ | ⟨he0, num, ph, A1, n1, c1, A2, n2, c2, A3, n3, c3, A4, n4, c4, A5, n5, c5, A6, n6, c6, rfl, hst⟩
 ·have hnb : (er != 0) = true := by rw [bne_iff_ne]; exact hne
  have HBZ := Lib.hid (fun (o : Obj) => HBD.out.alloc HBD.out.size o)
  clear hne
  go_wp2_with fail
  exact bodyPost_ret (results_tmp rfl _ _ _) rfl ⟨rfl, HBZ.out _⟩
 subst he0
 have HI0 := Lib.hid (InvS.start.take HER.out)
 have HM0 := Lib.hid (m_begin HER.out)
 obtain ⟨s0, HS0⟩ : ∃ q, Hid (takeS st0 ⟨1, 0, p⟩ = q) := ⟨_, Lib.hid rfl⟩
 rw [HS0.out] at HI0 HM0 hst
 obtain ⟨E, HEE⟩ : ∃ E, Hid (E = wd.alloc (.cells #[.int .i64 num, .int .i64 ph, .slice A1 n1 c1, .slice A2 n2 c2, .slice A3 n3 c3, .slice A4 n4 c4, .slice A5 n5 c5, .slice A6 n6 c6] 31)) := ⟨_, Lib.hid rfl⟩
 have heb : Below wd.heap.size wd E := by rw [HEE.out]; exact (Below.refl _ wd).alloc (Nat.le_refl _) _
 have HBE := Lib.hid (HBD.out.trans (heb.mono HBD.out.size))
 have HHE : Hid (E.heap[w.heap.size]? = some (.cells #[.slice AF nF cF, .slice AT nT cT, .slice AS nS cS, .slice AE nE cE] 29 (0, 0))) := Lib.hid ((heb.block _ (heapE_lt HHD.out)).trans HHD.out)
 have HRE : Hid (E.heap[wd.heap.size]? = some (.cells #[.int .i64 num, .int .i64 ph, .slice A1 n1 c1, .slice A2 n2 c2, .slice A3 n3 c3, .slice A4 n4 c4, .slice A5 n5 c5, .slice A6 n6 c6] 31 (0, 0))) := Lib.hid (by rw [HEE.out]; exact heap_new wd _)
 have HSE := Lib.hid ((hst.less (Nat.zero_le _)).kept heb)
 have HSBG : Hid (w.heap.size < wd.heap.size) := Lib.hid (heapE_lt HHD.out)
 obtain ⟨sb, HSBE⟩ : ∃ q, Hid (wd.heap.size = q) := ⟨_, Lib.hid rfl⟩
 rw [HSBE.out] at HRE HSBG
 clear heb hst
 go_upto_region 7 with fail
 change Code.wp _ _ _ _ (wd.alloc (.cells #[.int .i64 num, .int .i64 ph, .slice A1 n1 c1, .slice A2 n2 c2, .slice A3 n3 c3, .slice A4 n4 c4, .slice A5 n5 c5, .slice A6 n6 c6] 31))
 rw [HSBE.out]
 rw [← HEE.out]
 go_upto_region 11 with fail
 go_loopw [9, 11, 12, 13, 14, 15, 16, 17, 18, 19, 50] (fun v9 _ _ _ _ _ _ _ _ _ v wr => ∃ j : Nat, j ≤ nP ∧ v = .int .i64 (j : Int) ∧ ∃ (AU : Option Addr) (nU cU : Nat), v9 = .slice AU nU cU ∧ ∃ num ph A1 n1 c1 A2 n2 c2 A3 n3 c3 A4 n4 c4 A5 n5 c5 A6 n6 c6, ∃ s : StV, Hid (Below w.heap.size w wr) ∧ Hid (wr.heap[w.heap.size]? = some (.cells #[.slice AF nF cF, .slice AT nT cT, .slice AS nS cS, .slice AE nE cE] 29 (0, 0))) ∧ Hid (wr.heap[sb]? = some (.cells #[.int .i64 num, .int .i64 ph, .slice A1 n1 c1, .slice A2 n2 c2, .slice A3 n3 c3, .slice A4 n4 c4, .slice A5 n5 c5, .slice A6 n6 c6] 31 (0, 0))) ∧ Hid (StO wr 0 num ph A1 n1 c1 A2 n2 c2 A3 n3 c3 A4 n4 c4 A5 n5 c5 A6 n6 c6 s) ∧ Hid (InvS s) ∧ Hid (s.ph = 1 ∧ s.op = []) ∧ Hid (OwnF 39 1 uF wr w.heap.size (.slice AU nU cU) (setsOf s.dn))) (fun _ _ _ _ _ _ _ _ _ _ v _ => nP - (intOf v).toNat)
 case atStart => exact ⟨0, Nat.zero_le _, rfl, none, 0, 0, rfl, num, ph, A1, n1, c1, A2, n2, c2, A3, n3, c3, A4, n4, c4, A5, n5, c5, A6, n6, c6, s0, HBE, HHE, HRE, HSE, HI0, Lib.hid ⟨HM0.out.1, HM0.out.2.1⟩, Lib.hid (by rw [HM0.out.2.2]; exact OwnF.nil_ _ _ _ _ _)⟩
 case round =>
  obtain ⟨wo, hwo⟩ : ∃ x, x = wr := ⟨_, rfl⟩
  subst hwo
  obtain ⟨j, hj, rfl, AU, nU, cU, rfl, num, ph, A1, n1, c1, A2, n2, c2, A3, n3, c3, A4, n4, c4, A5, n5, c5, A6, n6, c6, s, HBo, HHo, HRo, HSo, HIo, HPo, HUo⟩ := hrel
  clear HHC HHD HHE HRE HSE HBE HBD HBC HBB HBA HI0 HM0
  by_cases hjn : j < nP
  rotate_left
  ·have hd : decide ((j : Int) < (nP : Int)) = false := by simp; omega
   obtain ⟨D, HDD⟩ : ∃ q, Hid (s.dn = q) := ⟨_, Lib.hid rfl⟩
   have HUx := HUo
   rw [HDD.out] at HUx
   have HDL : Hid (D.length = nU) := Lib.hid (by
    have := (OwnF.cellsA (f := uF) (z := 1) (fun _ => rfl) HUx.out).1
    rw [setsOf_len] at this; exact this)
   have HD36 : Hid (nU ≤ 36) := Lib.hid (by rw [← HDL.out, ← HDD.out]; exact HIo.out.lenO.2)
   have HDR : Hid (∀ k ∈ D, 0 ≤ k ∧ k < 64) := Lib.hid (fun k hk => by
    have := HIo.out.rg k (by rw [HDD.out]; simp [hk]); have := HIo.out.n36; omega)
   have HTA := Lib.hid (m_abort HPo.out.1)
   have HIA := Lib.hid (HIo.out.take HTA.out.1)
   rw [HTA.out.2] at HIA
   have HCA := Lib.hid (take_any (w := wo) (B := 0) (dF := 0) (dT := 0) (dS := 0) (dE := 0) HSo.out HIo.out (RcW.of (r := ⟨5, 0, pl0⟩) plr_nil rfl rfl rfl) (Nat.zero_le _))
   rw [HTA.out.1] at HCA
   obtain ⟨x0, x1, x2, x3, x4, x5, x6, x7⟩ := row8 HRo.out
   go_wp2_with fail
   refine HCA.out.mono ?_
   rintro e v1 ⟨hb, ⟨hne, _⟩ | ⟨_, num2, ph2, B1, m1, d1, B2, m2, d2, B3, m3, d3, B4, m4, d4, B5, m5, d5, B6, m6, d6, rfl, hst⟩⟩
   ·exact absurd rfl hne
   have HV1 := Lib.hid (HBo.out.trans (hb.mono HBo.out.size))
   have HVR : Hid (v1.heap[sb]? = some (.cells #[.int .i64 num, .int .i64 ph, .slice A1 n1 c1, .slice A2 n2 c2, .slice A3 n3 c3, .slice A4 n4 c4, .slice A5 n5 c5, .slice A6 n6 c6] 31 (0, 0))) := Lib.hid ((hb.block _ (heapE_lt HRo.out)).trans HRo.out)
   have HVU := Lib.hid (HUx.out.kept hb)
   have HVS := Lib.hid (hst.less (Nat.zero_le 0 |> fun _ => Nat.zero_le _))
   rw [HTA.out.2] at HVS
   clear hb hst x0 x1 x2 x3 x4 x5 x6 x7 HCA
   obtain ⟨V2, HV2⟩ : ∃ Y, Hid (Y = set8 v1 sb (.int .i64 num2) (.int .i64 ph2) (.slice B1 m1 d1) (.slice B2 m2 d2) (.slice B3 m3 d3) (.slice B4 m4 d4) (.slice B5 m5 d5) (.slice B6 m6 d6)) := ⟨_, Lib.hid rfl⟩
   have hot : ∀ k, k < v1.heap.size → k ≠ sb → V2.heap[k]? = v1.heap[k]? := fun k _ hne => by rw [HV2.out]; exact set8_other hne
   have HR2 : Hid (V2.heap[sb]? = some (.cells #[.int .i64 num2, .int .i64 ph2, .slice B1 m1 d1, .slice B2 m2 d2, .slice B3 m3 d3, .slice B4 m4 d4, .slice B5 m5 d5, .slice B6 m6 d6] 31 (0, 0))) := Lib.hid (by rw [HV2.out]; exact set8_same HVR.out)
   have HB2 : Hid (Below w.heap.size w V2) := Lib.hid (by rw [HV2.out]; exact set8_below HV1.out (by have := HSBG.out; omega))
   have HS2 := Lib.hid (HVS.out.apart HVR.out (by decide) (by decide) (by decide) hot)
   have HU2 := Lib.hid (HVU.out.apart HVR.out (by decide) hot)
   obtain ⟨y0, y1, y2, y3, y4, y5, y6, y7⟩ := row8 HVR.out
   have yf := free_row HVR.out
   have HDN : Hid (D.take (nU - 0) = D) := Lib.hid (List.take_of_length_le (by rw [HDL.out]; omega))
   clear hot
   go_upto_region 31 with fail
   change Code.wp _ _ _ _ (set8 v1 sb (.int .i64 num2) (.int .i64 ph2) (.slice B1 m1 d1) (.slice B2 m2 d2) (.slice B3 m3 d3) (.slice B4 m4 d4) (.slice B5 m5 d5) (.slice B6 m6 d6))
   rw [← HV2.out]
   clear y0 y1 y2 y3 y4 y5 y6 y7 yf
   go_upto_region 34 with fail
   go_loopw [20, 21, 22, 23, 24, 119] (fun _ _ _ _ _ v wq => ∃ i : Nat, i ≤ nU ∧ v = .int .i64 (i : Int) ∧ ∃ num ph A1 n1 c1 A2 n2 c2 A3 n3 c3 A4 n4 c4 A5 n5 c5 A6 n6 c6, ∃ t : StV, Hid (Below w.heap.size w wq) ∧ Hid (wq.heap[sb]? = some (.cells #[.int .i64 num, .int .i64 ph, .slice A1 n1 c1, .slice A2 n2 c2, .slice A3 n3 c3, .slice A4 n4 c4, .slice A5 n5 c5, .slice A6 n6 c6] 31 (0, 0))) ∧ Hid (StO wq 0 num ph A1 n1 c1 A2 n2 c2 A3 n3 c3 A4 n4 c4 A5 n5 c5 A6 n6 c6 t) ∧ Hid (InvS t) ∧ Hid (t.ph = 2 ∧ t.op = [] ∧ t.dn = D.take (nU - i)) ∧ Hid (OwnF 39 1 uF wq w.heap.size (.slice AU nU cU) (setsOf D))) (fun _ _ _ _ _ v _ => nU - (intOf v).toNat)
   case atStart => exact ⟨0, Nat.zero_le _, rfl, num2, ph2, B1, m1, d1, B2, m2, d2, B3, m3, d3, B4, m4, d4, B5, m5, d5, B6, m6, d6, _, HB2, HR2, HS2, HIA, Lib.hid ⟨rfl, HPo.out.2, by rw [HDN.out]; exact HDD.out⟩, HU2⟩
   case round =>
    obtain ⟨wi, hwi⟩ : ∃ x, x = wr := ⟨_, rfl⟩
    subst hwi
    obtain ⟨i, hi, rfl, num, ph, A1, n1, c1, A2, n2, c2, A3, n3, c3, A4, n4, c4, A5, n5, c5, A6, n6, c6, t, HBi, HRi, HSi, HIi, HPi, HUi⟩ := hrel
    clear HB2 HR2 HS2 HU2 HVR HVU HVS HV1 HIA
    have hd36 := HD36.out
    by_cases hin : i < nU
    ·have hd2 : decide ((i : Int) < (nU : Int)) = true := by simp; omega
     have hii : (i : Int) < (nU : Int) := by omega
     have hiadd : IntKind.i64.wrap ((i : Int) + 1) = ((i + 1 : Nat) : Int) := by rw [IntWalk.i64_in _ (by omega)]; omega
     obtain ⟨q, hq⟩ : ∃ q, nU - (i + 1) = q := ⟨_, rfl⟩
     have hqn : q < nU := by omega
     have hw1 : IntKind.i64.wrap ((nU : Int) - 1) = (nU : Int) - 1 := IntWalk.i64_in _ (by omega)
     have hw2 : IntKind.i64.wrap ((nU : Int) - 1 - (i : Int)) = (q : Int) := by rw [IntWalk.i64_in _ (by omega)]; omega
     have hq0 : (0 : Int) ≤ (q : Int) := by omega
     have hqi : (q : Int) < (nU : Int) := by omega
     have HTK : Hid (D.take (nU - i) = D.take q ++ [ix D q]) := Lib.hid (by rw [show nU - i = q + 1 by omega, take_ix (by rw [HDL.out]; exact hqn)])
     obtain ⟨x, HXE⟩ : ∃ r, Hid (ix D q = r) := ⟨_, Lib.hid rfl⟩
     rw [HXE.out] at HTK
     have HTU := Lib.hid (m_undo HIi.out HPi.out.1 HPi.out.2.1 (by rw [HPi.out.2.2, HTK.out]))
     have HI2 := Lib.hid (HIi.out.take HTU.out.2.1)
     rw [HTU.out.2.2] at HI2
     have HCT := Lib.hid (top_any (cF := c1) (cT := c2) (cS := c3) (cE := c4) (cO := c5) (cD := c6) (HSi.out.stw HIi.out) (Nat.le_refl _))
     rw [HTU.out.1] at HCT
     obtain ⟨x0, x1, x2, x3, x4, x5, x6, x7⟩ := row8 HRi.out
     go_wp2_with fail
     refine HCT.out.mono ?_
     rintro e w1 ⟨rfl, hb⟩
     have HB1 := Lib.hid (HBi.out.trans (hb.mono HBi.out.size))
     have HR1 : Hid (w1.heap[sb]? = some (.cells #[.int .i64 num, .int .i64 ph, .slice A1 n1 c1, .slice A2 n2 c2, .slice A3 n3 c3, .slice A4 n4 c4, .slice A5 n5 c5, .slice A6 n6 c6] 31 (0, 0))) := Lib.hid ((hb.block _ (heapE_lt HRi.out)).trans HRi.out)
     have HS1 := Lib.hid (HSi.out.kept hb)
     have HU1 := Lib.hid (HUi.out.kept hb)
     clear hb x0 x1 x2 x3 x4 x5 x6 x7 HCT
     have HTB := Lib.hid (take_any (w := w1) (B := 0) (dF := 0) (dT := 0) (dS := 0) (dE := 0) HS1.out HIi.out (RcW.of (r := ⟨6, x, pl0⟩) plr_nil rfl rfl rfl) (Nat.zero_le _))
     rw [HTU.out.2.1] at HTB
     obtain ⟨x0, x1, x2, x3, x4, x5, x6, x7⟩ := row8 HR1.out
     go_wp2_with fail
     refine HTB.out.mono ?_
     rintro e w4 ⟨hb, ⟨hne, _⟩ | ⟨_, num3, ph3, C1, k1, e1, C2, k2, e2, C3, k3, e3, C4, k4, e4, C5, k5, e5, C6, k6, e6, rfl, hst⟩⟩
     ·exact absurd rfl hne
     have hb4 := hb.alloc hb.size (.cells #[.int .i64 num3, .int .i64 ph3, .slice C1 k1 e1, .slice C2 k2 e2, .slice C3 k3 e3, .slice C4 k4 e4, .slice C5 k5 e5, .slice C6 k6 e6] 31)
     have hkb : Below w4.heap.size w4 (w4.alloc (.cells #[.int .i64 num3, .int .i64 ph3, .slice C1 k1 e1, .slice C2 k2 e2, .slice C3 k3 e3, .slice C4 k4 e4, .slice C5 k5 e5, .slice C6 k6 e6] 31)) := (Below.refl _ w4).alloc (Nat.le_refl _) _
     obtain ⟨Y4, HY4⟩ : ∃ Y, Hid (Y = w4.alloc (.cells #[.int .i64 num3, .int .i64 ph3, .slice C1 k1 e1, .slice C2 k2 e2, .slice C3 k3 e3, .slice C4 k4 e4, .slice C5 k5 e5, .slice C6 k6 e6] 31)) := ⟨_, Lib.hid rfl⟩
     rw [← HY4.out] at hb4 hkb
     have HB4 := Lib.hid (HB1.out.trans (hb4.mono HB1.out.size))
     have HR4 : Hid (Y4.heap[sb]? = some (.cells #[.int .i64 num, .int .i64 ph, .slice A1 n1 c1, .slice A2 n2 c2, .slice A3 n3 c3, .slice A4 n4 c4, .slice A5 n5 c5, .slice A6 n6 c6] 31 (0, 0))) := Lib.hid ((hb4.block _ (heapE_lt HR1.out)).trans HR1.out)
     have HX4 : Hid (Y4.heap[w4.heap.size]? = some (.cells #[.int .i64 num3, .int .i64 ph3, .slice C1 k1 e1, .slice C2 k2 e2, .slice C3 k3 e3, .slice C4 k4 e4, .slice C5 k5 e5, .slice C6 k6 e6] 31 (0, 0))) := Lib.hid (by rw [HY4.out]; exact heap_new w4 _)
     have HS4 := Lib.hid ((hst.less (Nat.zero_le _)).kept hkb)
     have HU4 := Lib.hid (HU1.out.kept hb4)
     clear hb hb4 hkb hst x0 x1 x2 x3 x4 x5 x6 x7 HTB
     rw [HTU.out.2.2] at HS4
     have HSET : Hid ((setsOf D).getD q 0 = setL (D.take q)) := Lib.hid (setsOf_at (by rw [HDL.out]; exact hqn))
     have HRC := Lib.hid (reached_any (w := Y4.drewN 1) (cF := e1) (cT := e2) (cS := e3) (cE := e4) (cO := e5) (cD := e6) (StW.below (HS4.out.stw HI2.out) (Below.drewN' (Below.refl _ Y4) 1)) (Nat.le_refl _) (fun k hk => by have := HI2.out.rg k hk; have := HI2.out.n36; omega))
     rw [show ([] : List Int) ++ D.take q = D.take q from rfl] at HRC
     obtain ⟨AQ, HAQ⟩ : ∃ r, Hid (setL (D.take q) = r) := ⟨_, Lib.hid rfl⟩
     rw [HAQ.out] at HRC HSET
     obtain ⟨gu, hAU, hgu, hcu⟩ := HU4.out.cellU hqn
     rw [HSET.out] at hcu
     have HCU := Lib.hid (And.intro hgu hcu)
     have HXX := HX4
     obtain ⟨ub, HUB⟩ : ∃ r, Hid (w4.heap.size = r) := ⟨_, Lib.hid rfl⟩
     rw [HUB.out] at HXX
     have HCEL : Hid (∀ Z, Below Y4.heap.size Y4 Z → (Z.cell? ⟨ub, 0, none⟩ = some (.int .i64 num3) ∧ Z.cell? ⟨ub, 1, none⟩ = some (.int .i64 ph3) ∧ Z.cell? ⟨ub, 2, none⟩ = some (.slice C1 k1 e1) ∧ Z.cell? ⟨ub, 3, none⟩ = some (.slice C2 k2 e2) ∧ Z.cell? ⟨ub, 4, none⟩ = some (.slice C3 k3 e3) ∧ Z.cell? ⟨ub, 5, none⟩ = some (.slice C4 k4 e4) ∧ Z.cell? ⟨ub, 6, none⟩ = some (.slice C5 k5 e5) ∧ Z.cell? ⟨ub, 7, none⟩ = some (.slice C6 k6 e6)) ∧ Z.cell? ⟨gu, q, none⟩ = some (.int .u64 (AQ : Int))) := Lib.hid (fun Z hZ => ⟨row8 ((hZ.block _ (heapE_lt HXX.out)).trans HXX.out), (hZ.cell (p := ⟨gu, q, none⟩) HCU.out.1).trans HCU.out.2⟩)
     subst hAU
     obtain ⟨⟨x0, x1, x2, x3, x4, x5, x6, x7⟩, u0⟩ := HCEL.out _ (Below.refl _ _)
     have hbn : ((AQ : Int) != (AQ : Int)) = false := by simp
     clear hgu hcu
     go_upto_region 38 with fail
     change Code.wp _ _ _ _ (w4.alloc (.cells #[.int .i64 num3, .int .i64 ph3, .slice C1 k1 e1, .slice C2 k2 e2, .slice C3 k3 e3, .slice C4 k4 e4, .slice C5 k5 e5, .slice C6 k6 e6] 31))
     rw [HUB.out]
     rw [← HY4.out]
     go_region_held3 (fun Z => (Z.cell? ⟨ub, 0, none⟩ = some (.int .i64 num3) ∧ Z.cell? ⟨ub, 1, none⟩ = some (.int .i64 ph3) ∧ Z.cell? ⟨ub, 2, none⟩ = some (.slice C1 k1 e1) ∧ Z.cell? ⟨ub, 3, none⟩ = some (.slice C2 k2 e2) ∧ Z.cell? ⟨ub, 4, none⟩ = some (.slice C3 k3 e3) ∧ Z.cell? ⟨ub, 5, none⟩ = some (.slice C4 k4 e4) ∧ Z.cell? ⟨ub, 6, none⟩ = some (.slice C5 k5 e5) ∧ Z.cell? ⟨ub, 7, none⟩ = some (.slice C6 k6 e6)) ∧ Z.cell? ⟨gu, q, none⟩ = some (.int .u64 (AQ : Int))) ((first | exact ⟨⟨x0, x1, x2, x3, x4, x5, x6, x7⟩, u0⟩ | exact HCEL.out _ HBR.out | go_keep)) (first
      | (go_at_call 14; refine HRC.out.mono ?_; rintro e w5 ⟨rfl, hb'⟩; (have HBR : Hid (Below Y4.heap.size Y4 w5) := Lib.hid ((Below.drewN' (Below.refl _ Y4) 1).trans hb')); clear hb'; (obtain ⟨⟨t0, t1, t2, t3, t4, t5, t6, t7⟩, tu⟩ := HCEL.out _ HBR.out)))
     clear x0 x1 x2 x3 x4 x5 x6 x7 u0 t0 t1 t2 t3 t4 t5 t6 t7 tu
     have HB5 := Lib.hid (HB4.out.trans (HBR.out.mono HB4.out.size))
     have HR5 : Hid (w5.heap[sb]? = some (.cells #[.int .i64 num, .int .i64 ph, .slice A1 n1 c1, .slice A2 n2 c2, .slice A3 n3 c3, .slice A4 n4 c4, .slice A5 n5 c5, .slice A6 n6 c6] 31 (0, 0))) := Lib.hid ((HBR.out.block _ (heapE_lt HR4.out)).trans HR4.out)
     have HX5 : Hid (w5.heap[ub]? = some (.cells #[.int .i64 num3, .int .i64 ph3, .slice C1 k1 e1, .slice C2 k2 e2, .slice C3 k3 e3, .slice C4 k4 e4, .slice C5 k5 e5, .slice C6 k6 e6] 31 (0, 0))) := Lib.hid ((HBR.out.block _ (heapE_lt HXX.out)).trans HXX.out)
     have HS5 := Lib.hid (HS4.out.kept HBR.out)
     have HU5 := Lib.hid (HU4.out.kept HBR.out)
     obtain ⟨Y6, HY6⟩ : ∃ Y, Hid (Y = set8 w5 sb (.int .i64 num3) (.int .i64 ph3) (.slice C1 k1 e1) (.slice C2 k2 e2) (.slice C3 k3 e3) (.slice C4 k4 e4) (.slice C5 k5 e5) (.slice C6 k6 e6)) := ⟨_, Lib.hid rfl⟩
     have hot : ∀ k, k < w5.heap.size → k ≠ sb → Y6.heap[k]? = w5.heap[k]? := fun k _ hne => by rw [HY6.out]; exact set8_other hne
     have HR6 : Hid (Y6.heap[sb]? = some (.cells #[.int .i64 num3, .int .i64 ph3, .slice C1 k1 e1, .slice C2 k2 e2, .slice C3 k3 e3, .slice C4 k4 e4, .slice C5 k5 e5, .slice C6 k6 e6] 31 (0, 0))) := Lib.hid (by rw [HY6.out]; exact set8_same HR5.out)
     have HB6 : Hid (Below w.heap.size w Y6) := Lib.hid (by rw [HY6.out]; exact set8_below HB5.out (by have := HSBG.out; omega))
     have HS6 := Lib.hid (HS5.out.apart HR5.out (by decide) (by decide) (by decide) hot)
     have HU6 := Lib.hid (HU5.out.apart HR5.out (by decide) hot)
     obtain ⟨x0, x1, x2, x3, x4, x5, x6, x7⟩ := row8 HX5.out
     obtain ⟨y0, y1, y2, y3, y4, y5, y6, y7⟩ := row8 HR5.out
     have yf := free_row HR5.out
     clear hot
     go_upto_region 41 with fail
     change Code.wp _ _ _ _ (set8 w5 sb (.int .i64 num3) (.int .i64 ph3) (.slice C1 k1 e1) (.slice C2 k2 e2) (.slice C3 k3 e3) (.slice C4 k4 e4) (.slice C5 k5 e5) (.slice C6 k6 e6))
     rw [← HY6.out]
     clear x0 x1 x2 x3 x4 x5 x6 x7 y0 y1 y2 y3 y4 y5 y6 y7 yf
     go_wp2_with fail
     go_roundw
     case rel => exact ⟨i + 1, by omega, by go_num, num3, ph3, C1, k1, e1, C2, k2, e2, C3, k3, e3, C4, k4, e4, C5, k5, e5, C6, k6, e6, _, HB6, HR6, HS6, HI2, Lib.hid ⟨HPi.out.1, rfl, by rw [show nU - (i + 1) = q from hq]⟩, HU6⟩
     case measure => simp [intOf]; omega
    ·have hd2 : decide ((i : Int) < (nU : Int)) = false := by simp; omega
     have HDZ : Hid (t.dn = []) := Lib.hid (by rw [HPi.out.2.2, show nU - i = 0 by omega]; rfl)
     have HEN := Lib.hid (ends_any (cF := c1) (cT := c2) (cS := c3) (cE := c4) (cO := c5) (cD := c6) (HSi.out.stw HIi.out) (Nat.le_refl _))
     rw [show endsB t = true by unfold endsB; rw [HPi.out.1, HPi.out.2.1, HDZ.out]; rfl] at HEN
     obtain ⟨x0, x1, x2, x3, x4, x5, x6, x7⟩ := row8 HRi.out
     go_wp2_with fail
     refine HEN.out.mono ?_
     rintro e w1 ⟨rfl, hb⟩
     have HB1 := Lib.hid (HBi.out.trans (hb.mono HBi.out.size))
     have HR1 : Hid (w1.heap[sb]? = some (.cells #[.int .i64 num, .int .i64 ph, .slice A1 n1 c1, .slice A2 n2 c2, .slice A3 n3 c3, .slice A4 n4 c4, .slice A5 n5 c5, .slice A6 n6 c6] 31 (0, 0))) := Lib.hid ((hb.block _ (heapE_lt HRi.out)).trans HRi.out)
     have HS1 := Lib.hid (HSi.out.kept hb)
     clear hb x0 x1 x2 x3 x4 x5 x6 x7 HEN
     have HRC := Lib.hid (reached_any (w := w1) (cF := c1) (cT := c2) (cS := c3) (cE := c4) (cO := c5) (cD := c6) (HS1.out.stw HIi.out) (Nat.le_refl _) (fun k hk => by have := HIi.out.rg k hk; have := HIi.out.n36; omega))
     rw [show setL (t.op ++ t.dn) = 0 by rw [HPi.out.2.1, HDZ.out]; rfl] at HRC
     obtain ⟨x0, x1, x2, x3, x4, x5, x6, x7⟩ := row8 HR1.out
     go_wp2_with fail
     refine HRC.out.mono ?_
     rintro e w2 ⟨rfl, hb⟩
     have HB2 := Lib.hid (HB1.out.trans (hb.mono HB1.out.size))
     clear hb x0 x1 x2 x3 x4 x5 x6 x7 HRC
     go_wp2_with fail
     exact bodyPost_ret (results_tmp rfl _ _ _) rfl ⟨rfl, HB2.out⟩
  have hd : decide ((j : Int) < (nP : Int)) = true := by simp; omega
  have hji : (j : Int) < (nP : Int) := by omega
  have hjadd : IntKind.i64.wrap ((j : Int) + 1) = ((j + 1 : Nat) : Int) := by rw [IntWalk.i64_in _ (by omega)]; omega
  obtain ⟨b, off, hA, _, k1⟩ := (HPS.out.below HBo.out).at_ hjn
  subst hA
  obtain ⟨pk, HPKE⟩ : ∃ q, Hid (ix ps j = q) := ⟨_, Lib.hid rfl⟩
  rw [HPKE.out] at k1
  obtain ⟨x0, x1, x2, x3⟩ := row4 HHo.out
  go_upto_region 15 with fail
  clear x0 x1 x2 x3 k1
  go_loopw [12, 13, 57] (fun v12 _ v wq => ∃ i : Nat, i ≤ nS ∧ v = .int .i64 (i : Int) ∧ ∃ (AL : Option Addr) (nL cL : Nat) (lst : List Int), v12 = .slice AL nL cL ∧ Hid (Below wo.heap.size wo wq) ∧ Hid (OwnF 3 1 inF wq wo.heap.size (.slice AL nL cL) lst) ∧ Hid (∀ x ∈ lst, mayB s x = true) ∧ Hid (lst.length ≤ i)) (fun _ _ v _ => nS - (intOf v).toNat)
  case atStart => exact ⟨0, Nat.zero_le _, rfl, none, 0, 0, [], rfl, Lib.hid (Below.refl _ _), Lib.hid (OwnF.nil_ _ _ _ _ _), Lib.hid (fun x hx => by cases hx), Lib.hid (Nat.le_refl _)⟩
  case round =>
   obtain ⟨wi, hwi⟩ : ∃ x, x = wr := ⟨_, rfl⟩
   subst hwi
   obtain ⟨i, hi, rfl, AL, nL, cL, lst, rfl, HBi, HLi, HMi, HLL⟩ := hrel
   have HRi : Hid (wi.heap[sb]? = some (.cells #[.int .i64 num, .int .i64 ph, .slice A1 n1 c1, .slice A2 n2 c2, .slice A3 n3 c3, .slice A4 n4 c4, .slice A5 n5 c5, .slice A6 n6 c6] 31 (0, 0))) := Lib.hid ((HBi.out.block _ (heapE_lt HRo.out)).trans HRo.out)
   have HSi := Lib.hid (HSo.out.kept HBi.out)
   have HS100 : Hid (nS ≤ 100) := Lib.hid (by have := (PlR.plw HPW.out HSZ.out).sz; omega)
   have hs100 := HS100.out
   by_cases hin : i < nS
   ·have hd2 : decide ((i : Int) < (nS : Int)) = true := by simp; omega
    have hii : (i : Int) < (nS : Int) := by omega
    have hiadd : IntKind.i64.wrap ((i : Int) + 1) = ((i + 1 : Nat) : Int) := by rw [IntWalk.i64_in _ (by omega)]; omega
    have HMY := Lib.hid (may_any (cF := c1) (cT := c2) (cS := c3) (cE := c4) (cO := c5) (cD := c6) (HSi.out.stw HIo.out) (Nat.le_refl _) (i : Int))
    obtain ⟨mq, HMQ⟩ : ∃ q, Hid (mayB s (i : Int) = q) := ⟨_, Lib.hid rfl⟩
    rw [HMQ.out] at HMY
    obtain ⟨x0, x1, x2, x3, x4, x5, x6, x7⟩ := row8 HRi.out
    go_wp2_with fail
    refine HMY.out.mono ?_
    rintro e w1 ⟨rfl, hb⟩
    have HB1 := Lib.hid (HBi.out.trans (hb.mono HBi.out.size))
    have HL1 := Lib.hid (HLi.out.kept hb)
    clear hb HMY x0 x1 x2 x3 x4 x5 x6 x7
    cases mq with
    | false =>
     go_wp2_with fail
     go_roundw
     case rel => exact ⟨i + 1, by omega, by go_num, AL, nL, cL, lst, rfl, HB1, HL1, HMi, Lib.hid (by have := HLL.out; omega)⟩
     case measure => simp [intOf]; omega
    | true =>
     have HAR := Lib.hid (HL1.out.alloc (.cells #[.int .i64 (i : Int)] 3))
     have HAC : Hid ((w1.alloc (.cells #[.int .i64 (i : Int)] 3)).cell? ⟨w1.heap.size, 0, none⟩ = some (.int .i64 (i : Int))) := Lib.hid (by simp)
     have HAB : Hid (Below wo.heap.size wo (w1.alloc (.cells #[.int .i64 (i : Int)] 3))) := Lib.hid (HB1.out.alloc HB1.out.size _)
     have HLN : Hid (lst.length + 1 ≤ 1000000000) := Lib.hid (by have := HLL.out; omega)
     go_wp2_with (at_builtin; refine wplF_one rfl (.tmp 63) (.tmp 65) rfl wo.heap.size _ lst rfl HAR.out ⟨w1.heap.size, 0, none⟩ 1 (i : Int) rfl HAC.out HLN.out HAB.out.size ?_; intro A7 n7 c7 y7 hown hgr; (have HO7 := Lib.hid hown); (have HR7 := Lib.hid hgr); clear hown hgr)
     have HB7 : Hid (Below wo.heap.size wo y7) := Lib.hid (HAB.out.grown HR7.out HAB.out.size HAR.out.ge)
     go_roundw
     case rel => exact ⟨i + 1, by omega, by go_num, A7, n7, c7, lst ++ [(i : Int)], rfl, HB7, HO7, Lib.hid (fun x hx => by
      simp only [List.mem_append, List.mem_singleton] at hx
      rcases hx with hx | rfl
      ·exact HMi.out x hx
      ·exact HMQ.out), Lib.hid (by have := HLL.out; simp; omega)⟩
     case measure => simp [intOf]; omega
   ·have hd2 : decide ((i : Int) < (nS : Int)) = false := by simp; omega
    have HLLN : Hid (lst.length = nL) := Lib.hid HLi.out.rdI.len
    have HBI : Hid (Below w.heap.size w wi) := Lib.hid (HBo.out.trans (HBi.out.mono HBo.out.size))
    have HHi : Hid (wi.heap[w.heap.size]? = some (.cells #[.slice AF nF cF, .slice AT nT cT, .slice AS nS cS, .slice AE nE cE] 29 (0, 0))) := Lib.hid ((HBi.out.block _ (heapE_lt HHo.out)).trans HHo.out)
    have HUi := Lib.hid (HUo.out.kept HBi.out)
    by_cases hn0 : nL = 0
    ·subst hn0
     obtain ⟨D, HDD⟩ : ∃ q, Hid (s.dn = q) := ⟨_, Lib.hid rfl⟩
     have HUx := HUi
     rw [HDD.out] at HUx
     have HDL : Hid (D.length = nU) := Lib.hid (by
      have := (OwnF.cellsA (f := uF) (z := 1) (fun _ => rfl) HUx.out).1
      rw [setsOf_len] at this; exact this)
     have HD36 : Hid (nU ≤ 36) := Lib.hid (by rw [← HDL.out, ← HDD.out]; exact HIo.out.lenO.2)
     have HDR : Hid (∀ k ∈ D, 0 ≤ k ∧ k < 64) := Lib.hid (fun k hk => by
      have := HIo.out.rg k (by rw [HDD.out]; simp [hk]); have := HIo.out.n36; omega)
     have HTA := Lib.hid (m_abort HPo.out.1)
     have HIA := Lib.hid (HIo.out.take HTA.out.1)
     rw [HTA.out.2] at HIA
     have HCA := Lib.hid (take_any (w := wi) (B := 0) (dF := 0) (dT := 0) (dS := 0) (dE := 0) HSi.out HIo.out (RcW.of (r := ⟨5, 0, pl0⟩) plr_nil rfl rfl rfl) (Nat.zero_le _))
     rw [HTA.out.1] at HCA
     obtain ⟨x0, x1, x2, x3, x4, x5, x6, x7⟩ := row8 HRi.out
     go_wp2_with fail
     refine HCA.out.mono ?_
     rintro e v1 ⟨hb, ⟨hne, _⟩ | ⟨_, num2, ph2, B1, m1, d1, B2, m2, d2, B3, m3, d3, B4, m4, d4, B5, m5, d5, B6, m6, d6, rfl, hst⟩⟩
     ·exact absurd rfl hne
     have HV1 := Lib.hid (HBI.out.trans (hb.mono HBI.out.size))
     have HVR : Hid (v1.heap[sb]? = some (.cells #[.int .i64 num, .int .i64 ph, .slice A1 n1 c1, .slice A2 n2 c2, .slice A3 n3 c3, .slice A4 n4 c4, .slice A5 n5 c5, .slice A6 n6 c6] 31 (0, 0))) := Lib.hid ((hb.block _ (heapE_lt HRi.out)).trans HRi.out)
     have HVU := Lib.hid (HUx.out.kept hb)
     have HVS := Lib.hid (hst.less (Nat.zero_le 0 |> fun _ => Nat.zero_le _))
     rw [HTA.out.2] at HVS
     clear hb hst x0 x1 x2 x3 x4 x5 x6 x7 HCA
     obtain ⟨V2, HV2⟩ : ∃ Y, Hid (Y = set8 v1 sb (.int .i64 num2) (.int .i64 ph2) (.slice B1 m1 d1) (.slice B2 m2 d2) (.slice B3 m3 d3) (.slice B4 m4 d4) (.slice B5 m5 d5) (.slice B6 m6 d6)) := ⟨_, Lib.hid rfl⟩
     have hot : ∀ k, k < v1.heap.size → k ≠ sb → V2.heap[k]? = v1.heap[k]? := fun k _ hne => by rw [HV2.out]; exact set8_other hne
     have HR2 : Hid (V2.heap[sb]? = some (.cells #[.int .i64 num2, .int .i64 ph2, .slice B1 m1 d1, .slice B2 m2 d2, .slice B3 m3 d3, .slice B4 m4 d4, .slice B5 m5 d5, .slice B6 m6 d6] 31 (0, 0))) := Lib.hid (by rw [HV2.out]; exact set8_same HVR.out)
     have HB2 : Hid (Below w.heap.size w V2) := Lib.hid (by rw [HV2.out]; exact set8_below HV1.out (by have := HSBG.out; omega))
     have HS2 := Lib.hid (HVS.out.apart HVR.out (by decide) (by decide) (by decide) hot)
     have HU2 := Lib.hid (HVU.out.apart HVR.out (by decide) hot)
     obtain ⟨y0, y1, y2, y3, y4, y5, y6, y7⟩ := row8 HVR.out
     have yf := free_row HVR.out
     have HDN : Hid (D.take (nU - 0) = D) := Lib.hid (List.take_of_length_le (by rw [HDL.out]; omega))
     clear hot
     go_upto_region 31 with fail
     change Code.wp _ _ _ _ (set8 v1 sb (.int .i64 num2) (.int .i64 ph2) (.slice B1 m1 d1) (.slice B2 m2 d2) (.slice B3 m3 d3) (.slice B4 m4 d4) (.slice B5 m5 d5) (.slice B6 m6 d6))
     rw [← HV2.out]
     clear y0 y1 y2 y3 y4 y5 y6 y7 yf
     go_upto_region 34 with fail
     go_loopw [20, 21, 22, 23, 24, 119] (fun _ _ _ _ _ v wq => ∃ i : Nat, i ≤ nU ∧ v = .int .i64 (i : Int) ∧ ∃ num ph A1 n1 c1 A2 n2 c2 A3 n3 c3 A4 n4 c4 A5 n5 c5 A6 n6 c6, ∃ t : StV, Hid (Below w.heap.size w wq) ∧ Hid (wq.heap[sb]? = some (.cells #[.int .i64 num, .int .i64 ph, .slice A1 n1 c1, .slice A2 n2 c2, .slice A3 n3 c3, .slice A4 n4 c4, .slice A5 n5 c5, .slice A6 n6 c6] 31 (0, 0))) ∧ Hid (StO wq 0 num ph A1 n1 c1 A2 n2 c2 A3 n3 c3 A4 n4 c4 A5 n5 c5 A6 n6 c6 t) ∧ Hid (InvS t) ∧ Hid (t.ph = 2 ∧ t.op = [] ∧ t.dn = D.take (nU - i)) ∧ Hid (OwnF 39 1 uF wq w.heap.size (.slice AU nU cU) (setsOf D))) (fun _ _ _ _ _ v _ => nU - (intOf v).toNat)
     case atStart => exact ⟨0, Nat.zero_le _, rfl, num2, ph2, B1, m1, d1, B2, m2, d2, B3, m3, d3, B4, m4, d4, B5, m5, d5, B6, m6, d6, _, HB2, HR2, HS2, HIA, Lib.hid ⟨rfl, HPo.out.2, by rw [HDN.out]; exact HDD.out⟩, HU2⟩
     case round =>
      obtain ⟨wi, hwi⟩ : ∃ x, x = wr := ⟨_, rfl⟩
      subst hwi
      obtain ⟨i, hi, rfl, num, ph, A1, n1, c1, A2, n2, c2, A3, n3, c3, A4, n4, c4, A5, n5, c5, A6, n6, c6, t, HBi, HRi, HSi, HIi, HPi, HUi⟩ := hrel
      clear HB2 HR2 HS2 HU2 HVR HVU HVS HV1 HIA
      have hd36 := HD36.out
      by_cases hin : i < nU
      ·have hd2 : decide ((i : Int) < (nU : Int)) = true := by simp; omega
       have hii : (i : Int) < (nU : Int) := by omega
       have hiadd : IntKind.i64.wrap ((i : Int) + 1) = ((i + 1 : Nat) : Int) := by rw [IntWalk.i64_in _ (by omega)]; omega
       obtain ⟨q, hq⟩ : ∃ q, nU - (i + 1) = q := ⟨_, rfl⟩
       have hqn : q < nU := by omega
       have hw1 : IntKind.i64.wrap ((nU : Int) - 1) = (nU : Int) - 1 := IntWalk.i64_in _ (by omega)
       have hw2 : IntKind.i64.wrap ((nU : Int) - 1 - (i : Int)) = (q : Int) := by rw [IntWalk.i64_in _ (by omega)]; omega
       have hq0 : (0 : Int) ≤ (q : Int) := by omega
       have hqi : (q : Int) < (nU : Int) := by omega
       have HTK : Hid (D.take (nU - i) = D.take q ++ [ix D q]) := Lib.hid (by rw [show nU - i = q + 1 by omega, take_ix (by rw [HDL.out]; exact hqn)])
       obtain ⟨x, HXE⟩ : ∃ r, Hid (ix D q = r) := ⟨_, Lib.hid rfl⟩
       rw [HXE.out] at HTK
       have HTU := Lib.hid (m_undo HIi.out HPi.out.1 HPi.out.2.1 (by rw [HPi.out.2.2, HTK.out]))
       have HI2 := Lib.hid (HIi.out.take HTU.out.2.1)
       rw [HTU.out.2.2] at HI2
       have HCT := Lib.hid (top_any (cF := c1) (cT := c2) (cS := c3) (cE := c4) (cO := c5) (cD := c6) (HSi.out.stw HIi.out) (Nat.le_refl _))
       rw [HTU.out.1] at HCT
       obtain ⟨x0, x1, x2, x3, x4, x5, x6, x7⟩ := row8 HRi.out
       go_wp2_with fail
       refine HCT.out.mono ?_
       rintro e w1 ⟨rfl, hb⟩
       have HB1 := Lib.hid (HBi.out.trans (hb.mono HBi.out.size))
       have HR1 : Hid (w1.heap[sb]? = some (.cells #[.int .i64 num, .int .i64 ph, .slice A1 n1 c1, .slice A2 n2 c2, .slice A3 n3 c3, .slice A4 n4 c4, .slice A5 n5 c5, .slice A6 n6 c6] 31 (0, 0))) := Lib.hid ((hb.block _ (heapE_lt HRi.out)).trans HRi.out)
       have HS1 := Lib.hid (HSi.out.kept hb)
       have HU1 := Lib.hid (HUi.out.kept hb)
       clear hb x0 x1 x2 x3 x4 x5 x6 x7 HCT
       have HTB := Lib.hid (take_any (w := w1) (B := 0) (dF := 0) (dT := 0) (dS := 0) (dE := 0) HS1.out HIi.out (RcW.of (r := ⟨6, x, pl0⟩) plr_nil rfl rfl rfl) (Nat.zero_le _))
       rw [HTU.out.2.1] at HTB
       obtain ⟨x0, x1, x2, x3, x4, x5, x6, x7⟩ := row8 HR1.out
       go_wp2_with fail
       refine HTB.out.mono ?_
       rintro e w4 ⟨hb, ⟨hne, _⟩ | ⟨_, num3, ph3, C1, k1, e1, C2, k2, e2, C3, k3, e3, C4, k4, e4, C5, k5, e5, C6, k6, e6, rfl, hst⟩⟩
       ·exact absurd rfl hne
       have hb4 := hb.alloc hb.size (.cells #[.int .i64 num3, .int .i64 ph3, .slice C1 k1 e1, .slice C2 k2 e2, .slice C3 k3 e3, .slice C4 k4 e4, .slice C5 k5 e5, .slice C6 k6 e6] 31)
       have hkb : Below w4.heap.size w4 (w4.alloc (.cells #[.int .i64 num3, .int .i64 ph3, .slice C1 k1 e1, .slice C2 k2 e2, .slice C3 k3 e3, .slice C4 k4 e4, .slice C5 k5 e5, .slice C6 k6 e6] 31)) := (Below.refl _ w4).alloc (Nat.le_refl _) _
       obtain ⟨Y4, HY4⟩ : ∃ Y, Hid (Y = w4.alloc (.cells #[.int .i64 num3, .int .i64 ph3, .slice C1 k1 e1, .slice C2 k2 e2, .slice C3 k3 e3, .slice C4 k4 e4, .slice C5 k5 e5, .slice C6 k6 e6] 31)) := ⟨_, Lib.hid rfl⟩
       rw [← HY4.out] at hb4 hkb
       have HB4 := Lib.hid (HB1.out.trans (hb4.mono HB1.out.size))
       have HR4 : Hid (Y4.heap[sb]? = some (.cells #[.int .i64 num, .int .i64 ph, .slice A1 n1 c1, .slice A2 n2 c2, .slice A3 n3 c3, .slice A4 n4 c4, .slice A5 n5 c5, .slice A6 n6 c6] 31 (0, 0))) := Lib.hid ((hb4.block _ (heapE_lt HR1.out)).trans HR1.out)
       have HX4 : Hid (Y4.heap[w4.heap.size]? = some (.cells #[.int .i64 num3, .int .i64 ph3, .slice C1 k1 e1, .slice C2 k2 e2, .slice C3 k3 e3, .slice C4 k4 e4, .slice C5 k5 e5, .slice C6 k6 e6] 31 (0, 0))) := Lib.hid (by rw [HY4.out]; exact heap_new w4 _)
       have HS4 := Lib.hid ((hst.less (Nat.zero_le _)).kept hkb)
       have HU4 := Lib.hid (HU1.out.kept hb4)
       clear hb hb4 hkb hst x0 x1 x2 x3 x4 x5 x6 x7 HTB
       rw [HTU.out.2.2] at HS4
       have HSET : Hid ((setsOf D).getD q 0 = setL (D.take q)) := Lib.hid (setsOf_at (by rw [HDL.out]; exact hqn))
       have HRC := Lib.hid (reached_any (w := Y4.drewN 1) (cF := e1) (cT := e2) (cS := e3) (cE := e4) (cO := e5) (cD := e6) (StW.below (HS4.out.stw HI2.out) (Below.drewN' (Below.refl _ Y4) 1)) (Nat.le_refl _) (fun k hk => by have := HI2.out.rg k hk; have := HI2.out.n36; omega))
       rw [show ([] : List Int) ++ D.take q = D.take q from rfl] at HRC
       obtain ⟨AQ, HAQ⟩ : ∃ r, Hid (setL (D.take q) = r) := ⟨_, Lib.hid rfl⟩
       rw [HAQ.out] at HRC HSET
       obtain ⟨gu, hAU, hgu, hcu⟩ := HU4.out.cellU hqn
       rw [HSET.out] at hcu
       have HCU := Lib.hid (And.intro hgu hcu)
       have HXX := HX4
       obtain ⟨ub, HUB⟩ : ∃ r, Hid (w4.heap.size = r) := ⟨_, Lib.hid rfl⟩
       rw [HUB.out] at HXX
       have HCEL : Hid (∀ Z, Below Y4.heap.size Y4 Z → (Z.cell? ⟨ub, 0, none⟩ = some (.int .i64 num3) ∧ Z.cell? ⟨ub, 1, none⟩ = some (.int .i64 ph3) ∧ Z.cell? ⟨ub, 2, none⟩ = some (.slice C1 k1 e1) ∧ Z.cell? ⟨ub, 3, none⟩ = some (.slice C2 k2 e2) ∧ Z.cell? ⟨ub, 4, none⟩ = some (.slice C3 k3 e3) ∧ Z.cell? ⟨ub, 5, none⟩ = some (.slice C4 k4 e4) ∧ Z.cell? ⟨ub, 6, none⟩ = some (.slice C5 k5 e5) ∧ Z.cell? ⟨ub, 7, none⟩ = some (.slice C6 k6 e6)) ∧ Z.cell? ⟨gu, q, none⟩ = some (.int .u64 (AQ : Int))) := Lib.hid (fun Z hZ => ⟨row8 ((hZ.block _ (heapE_lt HXX.out)).trans HXX.out), (hZ.cell (p := ⟨gu, q, none⟩) HCU.out.1).trans HCU.out.2⟩)
       subst hAU
       obtain ⟨⟨x0, x1, x2, x3, x4, x5, x6, x7⟩, u0⟩ := HCEL.out _ (Below.refl _ _)
       have hbn : ((AQ : Int) != (AQ : Int)) = false := by simp
       clear hgu hcu
       go_upto_region 38 with fail
       change Code.wp _ _ _ _ (w4.alloc (.cells #[.int .i64 num3, .int .i64 ph3, .slice C1 k1 e1, .slice C2 k2 e2, .slice C3 k3 e3, .slice C4 k4 e4, .slice C5 k5 e5, .slice C6 k6 e6] 31))
       rw [HUB.out]
       rw [← HY4.out]
       go_region_held3 (fun Z => (Z.cell? ⟨ub, 0, none⟩ = some (.int .i64 num3) ∧ Z.cell? ⟨ub, 1, none⟩ = some (.int .i64 ph3) ∧ Z.cell? ⟨ub, 2, none⟩ = some (.slice C1 k1 e1) ∧ Z.cell? ⟨ub, 3, none⟩ = some (.slice C2 k2 e2) ∧ Z.cell? ⟨ub, 4, none⟩ = some (.slice C3 k3 e3) ∧ Z.cell? ⟨ub, 5, none⟩ = some (.slice C4 k4 e4) ∧ Z.cell? ⟨ub, 6, none⟩ = some (.slice C5 k5 e5) ∧ Z.cell? ⟨ub, 7, none⟩ = some (.slice C6 k6 e6)) ∧ Z.cell? ⟨gu, q, none⟩ = some (.int .u64 (AQ : Int))) ((first | exact ⟨⟨x0, x1, x2, x3, x4, x5, x6, x7⟩, u0⟩ | exact HCEL.out _ HBR.out | go_keep)) (first
        | (go_at_call 14; refine HRC.out.mono ?_; rintro e w5 ⟨rfl, hb'⟩; (have HBR : Hid (Below Y4.heap.size Y4 w5) := Lib.hid ((Below.drewN' (Below.refl _ Y4) 1).trans hb')); clear hb'; (obtain ⟨⟨t0, t1, t2, t3, t4, t5, t6, t7⟩, tu⟩ := HCEL.out _ HBR.out)))
       clear x0 x1 x2 x3 x4 x5 x6 x7 u0 t0 t1 t2 t3 t4 t5 t6 t7 tu
       have HB5 := Lib.hid (HB4.out.trans (HBR.out.mono HB4.out.size))
       have HR5 : Hid (w5.heap[sb]? = some (.cells #[.int .i64 num, .int .i64 ph, .slice A1 n1 c1, .slice A2 n2 c2, .slice A3 n3 c3, .slice A4 n4 c4, .slice A5 n5 c5, .slice A6 n6 c6] 31 (0, 0))) := Lib.hid ((HBR.out.block _ (heapE_lt HR4.out)).trans HR4.out)
       have HX5 : Hid (w5.heap[ub]? = some (.cells #[.int .i64 num3, .int .i64 ph3, .slice C1 k1 e1, .slice C2 k2 e2, .slice C3 k3 e3, .slice C4 k4 e4, .slice C5 k5 e5, .slice C6 k6 e6] 31 (0, 0))) := Lib.hid ((HBR.out.block _ (heapE_lt HXX.out)).trans HXX.out)
       have HS5 := Lib.hid (HS4.out.kept HBR.out)
       have HU5 := Lib.hid (HU4.out.kept HBR.out)
       obtain ⟨Y6, HY6⟩ : ∃ Y, Hid (Y = set8 w5 sb (.int .i64 num3) (.int .i64 ph3) (.slice C1 k1 e1) (.slice C2 k2 e2) (.slice C3 k3 e3) (.slice C4 k4 e4) (.slice C5 k5 e5) (.slice C6 k6 e6)) := ⟨_, Lib.hid rfl⟩
       have hot : ∀ k, k < w5.heap.size → k ≠ sb → Y6.heap[k]? = w5.heap[k]? := fun k _ hne => by rw [HY6.out]; exact set8_other hne
       have HR6 : Hid (Y6.heap[sb]? = some (.cells #[.int .i64 num3, .int .i64 ph3, .slice C1 k1 e1, .slice C2 k2 e2, .slice C3 k3 e3, .slice C4 k4 e4, .slice C5 k5 e5, .slice C6 k6 e6] 31 (0, 0))) := Lib.hid (by rw [HY6.out]; exact set8_same HR5.out)
       have HB6 : Hid (Below w.heap.size w Y6) := Lib.hid (by rw [HY6.out]; exact set8_below HB5.out (by have := HSBG.out; omega))
       have HS6 := Lib.hid (HS5.out.apart HR5.out (by decide) (by decide) (by decide) hot)
       have HU6 := Lib.hid (HU5.out.apart HR5.out (by decide) hot)
       obtain ⟨x0, x1, x2, x3, x4, x5, x6, x7⟩ := row8 HX5.out
       obtain ⟨y0, y1, y2, y3, y4, y5, y6, y7⟩ := row8 HR5.out
       have yf := free_row HR5.out
       clear hot
       go_upto_region 41 with fail
       change Code.wp _ _ _ _ (set8 w5 sb (.int .i64 num3) (.int .i64 ph3) (.slice C1 k1 e1) (.slice C2 k2 e2) (.slice C3 k3 e3) (.slice C4 k4 e4) (.slice C5 k5 e5) (.slice C6 k6 e6))
       rw [← HY6.out]
       clear x0 x1 x2 x3 x4 x5 x6 x7 y0 y1 y2 y3 y4 y5 y6 y7 yf
       go_wp2_with fail
       go_roundw
       case rel => exact ⟨i + 1, by omega, by go_num, num3, ph3, C1, k1, e1, C2, k2, e2, C3, k3, e3, C4, k4, e4, C5, k5, e5, C6, k6, e6, _, HB6, HR6, HS6, HI2, Lib.hid ⟨HPi.out.1, rfl, by rw [show nU - (i + 1) = q from hq]⟩, HU6⟩
       case measure => simp [intOf]; omega
      ·have hd2 : decide ((i : Int) < (nU : Int)) = false := by simp; omega
       have HDZ : Hid (t.dn = []) := Lib.hid (by rw [HPi.out.2.2, show nU - i = 0 by omega]; rfl)
       have HEN := Lib.hid (ends_any (cF := c1) (cT := c2) (cS := c3) (cE := c4) (cO := c5) (cD := c6) (HSi.out.stw HIi.out) (Nat.le_refl _))
       rw [show endsB t = true by unfold endsB; rw [HPi.out.1, HPi.out.2.1, HDZ.out]; rfl] at HEN
       obtain ⟨x0, x1, x2, x3, x4, x5, x6, x7⟩ := row8 HRi.out
       go_wp2_with fail
       refine HEN.out.mono ?_
       rintro e w1 ⟨rfl, hb⟩
       have HB1 := Lib.hid (HBi.out.trans (hb.mono HBi.out.size))
       have HR1 : Hid (w1.heap[sb]? = some (.cells #[.int .i64 num, .int .i64 ph, .slice A1 n1 c1, .slice A2 n2 c2, .slice A3 n3 c3, .slice A4 n4 c4, .slice A5 n5 c5, .slice A6 n6 c6] 31 (0, 0))) := Lib.hid ((hb.block _ (heapE_lt HRi.out)).trans HRi.out)
       have HS1 := Lib.hid (HSi.out.kept hb)
       clear hb x0 x1 x2 x3 x4 x5 x6 x7 HEN
       have HRC := Lib.hid (reached_any (w := w1) (cF := c1) (cT := c2) (cS := c3) (cE := c4) (cO := c5) (cD := c6) (HS1.out.stw HIi.out) (Nat.le_refl _) (fun k hk => by have := HIi.out.rg k hk; have := HIi.out.n36; omega))
       rw [show setL (t.op ++ t.dn) = 0 by rw [HPi.out.2.1, HDZ.out]; rfl] at HRC
       obtain ⟨x0, x1, x2, x3, x4, x5, x6, x7⟩ := row8 HR1.out
       go_wp2_with fail
       refine HRC.out.mono ?_
       rintro e w2 ⟨rfl, hb⟩
       have HB2 := Lib.hid (HB1.out.trans (hb.mono HB1.out.size))
       clear hb x0 x1 x2 x3 x4 x5 x6 x7 HRC
       go_wp2_with fail
       exact bodyPost_ret (results_tmp rfl _ _ _) rfl ⟨rfl, HB2.out⟩
    have hnL : 0 < nL := by omega
    have hnb0 : ((nL : Int) == 0) = false := by rw [beq_eq_false_iff_ne]; omega
    have hnL100 : nL ≤ 100 := by have := HLL.out; have := HLLN.out; omega
    obtain ⟨rm, hrm⟩ : ∃ q : Int, Int.tmod pk (nL : Int) = q := ⟨_, rfl⟩
    have hrl : -(nL : Int) < rm ∧ rm < (nL : Int) := by
     rw [← hrm]
     exact ⟨Int.lt_tmod_of_pos _ (by omega), Int.tmod_lt_of_pos _ (by omega)⟩
    have hwneg : IntKind.i64.wrap (-rm) = -rm := IntWalk.i64_in _ (by omega)
    obtain ⟨ai, hai⟩ : ∃ q : Nat, (q : Int) = max rm (-rm) ∧ q < nL := ⟨rm.natAbs, by omega, by omega⟩
    obtain ⟨bL, oL, hAL, _, kx⟩ := HLi.out.rdI.at_ hai.2
    subst hAL
    have HMX : Hid (mayB s (ix lst ai) = true) := Lib.hid (HMi.out _ (mem_ix.2 ⟨ai, by rw [HLLN.out]; exact hai.2, rfl⟩))
    obtain ⟨x, HXE⟩ : ∃ q, Hid (ix lst ai = q) := ⟨_, Lib.hid rfl⟩
    rw [HXE.out] at kx HMX
    have hain : (ai : Int) < (nL : Int) := by omega
    have hnLne : (nL : Int) ≠ 0 := by omega
    have HRC := Lib.hid (reached_any (w := wi) (cF := c1) (cT := c2) (cS := c3) (cE := c4) (cO := c5) (cD := c6) (HSi.out.stw HIo.out) (Nat.le_refl _) (fun k hk => by have := HIo.out.rg k hk; have := HIo.out.n36; omega))
    rw [HPo.out.2, List.nil_append] at HRC
    have HT1 := Lib.hid (m_intent HPo.out.1 HPo.out.2 HMX.out)
    have HI1 := Lib.hid (HIo.out.take HT1.out.1)
    have HT2 := Lib.hid (m_done (s := takeS s ⟨2, x, pl0⟩) (x := x) (by rw [HT1.out.2]; exact HPo.out.1) (by rw [HT1.out.2]))
    have HI2 := Lib.hid (HI1.out.take HT2.out.1)
    have HF2 : Hid (takeS (takeS s ⟨2, x, pl0⟩) ⟨3, x, pl0⟩ = { s with op := [], dn := s.dn ++ [x] }) := Lib.hid (by rw [HT2.out.2, HT1.out.2])
    obtain ⟨x0, x1, x2, x3, x4, x5, x6, x7⟩ := row8 HRi.out
    have hmx : (rm ≤ -rm ∧ (ai : Int) = -rm) ∨ (-rm < rm ∧ (ai : Int) = rm) := by omega
    obtain ⟨dS, HDS⟩ : ∃ q, Hid (setL s.dn = q) := ⟨_, Lib.hid rfl⟩
    rw [HDS.out] at HRC
    rcases Int.lt_or_le 0 rm with hgt | hlt
    rotate_left
    ·have hwn : IntKind.i64.wrap (-rm) = (ai : Int) := by rw [hwneg]; omega
     have t5 : max rm (ai : Int) = (ai : Int) := by omega
     clear hwneg hlt hai hrl
     clear hmx
     go_upto_region 23 with fail
     go_wp2_with fail
     refine HRC.out.mono ?_
     rintro e w1 ⟨rfl, hb⟩
     have HBI1 := Lib.hid (HBI.out.trans (hb.mono HBI.out.size))
     have HH1 : Hid (w1.heap[w.heap.size]? = some (.cells #[.slice AF nF cF, .slice AT nT cT, .slice AS nS cS, .slice AE nE cE] 29 (0, 0))) := Lib.hid ((hb.block _ (heapE_lt HHi.out)).trans HHi.out)
     have HR1 : Hid (w1.heap[sb]? = some (.cells #[.int .i64 num, .int .i64 ph, .slice A1 n1 c1, .slice A2 n2 c2, .slice A3 n3 c3, .slice A4 n4 c4, .slice A5 n5 c5, .slice A6 n6 c6] 31 (0, 0))) := Lib.hid ((hb.block _ (heapE_lt HRi.out)).trans HRi.out)
     have HS1 := Lib.hid (HSi.out.kept hb)
     have HU1 := Lib.hid (HUi.out.kept hb)
     clear hb x0 x1 x2 x3 x4 x5 x6 x7 HRC kx
     obtain ⟨Y1, HY1⟩ : ∃ Y, Hid (Y = w1.alloc (.cells #[.int .u64 (dS : Int)] 39)) := ⟨_, Lib.hid rfl⟩
     have hyb : Below w1.heap.size w1 (w1.alloc (.cells #[.int .u64 (dS : Int)] 39)) := (Below.refl _ w1).alloc (Nat.le_refl _) _
     have HAR := Lib.hid (HU1.out.alloc (.cells #[.int .u64 (dS : Int)] 39))
     have HAC : Hid ((w1.alloc (.cells #[.int .u64 (dS : Int)] 39)).cell? ⟨w1.heap.size, 0, none⟩ = some (.int .u64 (dS : Int))) := Lib.hid (by simp)
     have HAB : Hid (Below w.heap.size w (w1.alloc (.cells #[.int .u64 (dS : Int)] 39))) := Lib.hid (HBI1.out.trans (hyb.mono HBI1.out.size))
     have HAH : Hid ((w1.alloc (.cells #[.int .u64 (dS : Int)] 39)).heap[w.heap.size]? = some (.cells #[.slice AF nF cF, .slice AT nT cT, .slice AS nS cS, .slice AE nE cE] 29 (0, 0))) := Lib.hid ((hyb.block _ (heapE_lt HH1.out)).trans HH1.out)
     have HARR : Hid ((w1.alloc (.cells #[.int .u64 (dS : Int)] 39)).heap[sb]? = some (.cells #[.int .i64 num, .int .i64 ph, .slice A1 n1 c1, .slice A2 n2 c2, .slice A3 n3 c3, .slice A4 n4 c4, .slice A5 n5 c5, .slice A6 n6 c6] 31 (0, 0))) := Lib.hid ((hyb.block _ (heapE_lt HR1.out)).trans HR1.out)
     have HAS := Lib.hid (HS1.out.kept hyb)
     have HLU : Hid ((setsOf s.dn).length + 1 ≤ 1000000000) := Lib.hid (by rw [setsOf_len]; have := HIo.out.lenO; omega)
     clear hyb
     go_upto_region 24 with (at_builtin; refine wplF_oneU rfl (.tmp 82) (.tmp 85) rfl w.heap.size _ (setsOf s.dn) rfl HAR.out ⟨w1.heap.size, 0, none⟩ 1 dS rfl HAC.out HLU.out HAB.out.size ?_; intro A9 n9 c9 y2 hown hgr; (have HU2 := Lib.hid hown); (have HGR := Lib.hid hgr); clear hown hgr)
     have HB2 : Hid (Below w.heap.size w y2) := Lib.hid (HAB.out.grown HGR.out HAB.out.size HAR.out.ge)
     have HH2 : Hid (y2.heap[w.heap.size]? = some (.cells #[.slice AF nF cF, .slice AT nT cT, .slice AS nS cS, .slice AE nE cE] 29 (0, 0))) := Lib.hid ((HGR.out.block _ (heapE_lt HAH.out) (HAR.out.neT HAH.out (by decide))).trans HAH.out)
     have HR2 : Hid (y2.heap[sb]? = some (.cells #[.int .i64 num, .int .i64 ph, .slice A1 n1 c1, .slice A2 n2 c2, .slice A3 n3 c3, .slice A4 n4 c4, .slice A5 n5 c5, .slice A6 n6 c6] 31 (0, 0))) := Lib.hid ((HGR.out.block _ (heapE_lt HARR.out) (HAR.out.neT HARR.out (by decide))).trans HARR.out)
     have HS2 := Lib.hid (HAS.out.grownU HAR.out HGR.out)
     have HSN : Hid (setsOf s.dn ++ [dS] = setsOf (s.dn ++ [x])) := Lib.hid (by rw [setsOf_snoc, HDS.out])
     rw [HSN.out] at HU2
     have HTA := Lib.hid (take_any (w := y2) (B := 0) (dF := 0) (dT := 0) (dS := 0) (dE := 0) HS2.out HIo.out (RcW.of (r := ⟨2, x, pl0⟩) plr_nil rfl rfl rfl) (Nat.zero_le _))
     rw [HT1.out.1] at HTA
     obtain ⟨x0, x1, x2, x3, x4, x5, x6, x7⟩ := row8 HR2.out
     go_wp2_with fail
     refine HTA.out.mono ?_
     rintro e w3 ⟨hb, ⟨hne, _⟩ | ⟨_, num2, ph2, B1, m1, d1, B2, m2, d2, B3, m3, d3, B4, m4, d4, B5, m5, d5, B6, m6, d6, rfl, hst⟩⟩
     ·exact absurd rfl hne
     have hb3 := hb.alloc hb.size (.cells #[.int .i64 num2, .int .i64 ph2, .slice B1 m1 d1, .slice B2 m2 d2, .slice B3 m3 d3, .slice B4 m4 d4, .slice B5 m5 d5, .slice B6 m6 d6] 31)
     have hkb : Below w3.heap.size w3 (w3.alloc (.cells #[.int .i64 num2, .int .i64 ph2, .slice B1 m1 d1, .slice B2 m2 d2, .slice B3 m3 d3, .slice B4 m4 d4, .slice B5 m5 d5, .slice B6 m6 d6] 31)) := (Below.refl _ w3).alloc (Nat.le_refl _) _
     obtain ⟨Y3, HY3⟩ : ∃ Y, Hid (Y = w3.alloc (.cells #[.int .i64 num2, .int .i64 ph2, .slice B1 m1 d1, .slice B2 m2 d2, .slice B3 m3 d3, .slice B4 m4 d4, .slice B5 m5 d5, .slice B6 m6 d6] 31)) := ⟨_, Lib.hid rfl⟩
     rw [← HY3.out] at hb3 hkb
     have HB3 := Lib.hid (HB2.out.trans (hb3.mono HB2.out.size))
     have HH3 : Hid (Y3.heap[w.heap.size]? = some (.cells #[.slice AF nF cF, .slice AT nT cT, .slice AS nS cS, .slice AE nE cE] 29 (0, 0))) := Lib.hid ((hb3.block _ (heapE_lt HH2.out)).trans HH2.out)
     have HR3 : Hid (Y3.heap[sb]? = some (.cells #[.int .i64 num, .int .i64 ph, .slice A1 n1 c1, .slice A2 n2 c2, .slice A3 n3 c3, .slice A4 n4 c4, .slice A5 n5 c5, .slice A6 n6 c6] 31 (0, 0))) := Lib.hid ((hb3.block _ (heapE_lt HR2.out)).trans HR2.out)
     have HX3 : Hid (Y3.heap[w3.heap.size]? = some (.cells #[.int .i64 num2, .int .i64 ph2, .slice B1 m1 d1, .slice B2 m2 d2, .slice B3 m3 d3, .slice B4 m4 d4, .slice B5 m5 d5, .slice B6 m6 d6] 31 (0, 0))) := Lib.hid (by rw [HY3.out]; exact heap_new w3 _)
     have HS3 := Lib.hid (hst.kept hkb)
     have HU3 := Lib.hid (HU2.out.kept hb3)
     clear hb hb3 hkb hst x0 x1 x2 x3 x4 x5 x6 x7 HTA
     have HTB := Lib.hid (take_any (w := Y3) (B := 0) (dF := 0) (dT := 0) (dS := 0) (dE := 0) HS3.out HI1.out (RcW.of (r := ⟨3, x, pl0⟩) plr_nil rfl rfl rfl) (Nat.zero_le _))
     rw [HT2.out.1] at HTB
     obtain ⟨x0, x1, x2, x3, x4, x5, x6, x7⟩ := row8 HX3.out
     go_upto_region 25 with fail
     change Code.wp _ _ _ _ (w3.alloc (.cells #[.int .i64 num2, .int .i64 ph2, .slice B1 m1 d1, .slice B2 m2 d2, .slice B3 m3 d3, .slice B4 m4 d4, .slice B5 m5 d5, .slice B6 m6 d6] 31))
     rw [← HY3.out]
     go_wp2_with fail
     refine HTB.out.mono ?_
     rintro e w4 ⟨hb, ⟨hne, _⟩ | ⟨_, num3, ph3, C1, k1, e1, C2, k2, e2, C3, k3, e3, C4, k4, e4, C5, k5, e5, C6, k6, e6, rfl, hst⟩⟩
     ·exact absurd rfl hne
     have hb4 := hb.alloc hb.size (.cells #[.int .i64 num3, .int .i64 ph3, .slice C1 k1 e1, .slice C2 k2 e2, .slice C3 k3 e3, .slice C4 k4 e4, .slice C5 k5 e5, .slice C6 k6 e6] 31)
     have hkb : Below w4.heap.size w4 (w4.alloc (.cells #[.int .i64 num3, .int .i64 ph3, .slice C1 k1 e1, .slice C2 k2 e2, .slice C3 k3 e3, .slice C4 k4 e4, .slice C5 k5 e5, .slice C6 k6 e6] 31)) := (Below.refl _ w4).alloc (Nat.le_refl _) _
     obtain ⟨Y4, HY4⟩ : ∃ Y, Hid (Y = w4.alloc (.cells #[.int .i64 num3, .int .i64 ph3, .slice C1 k1 e1, .slice C2 k2 e2, .slice C3 k3 e3, .slice C4 k4 e4, .slice C5 k5 e5, .slice C6 k6 e6] 31)) := ⟨_, Lib.hid rfl⟩
     rw [← HY4.out] at hb4 hkb
     have HB4 := Lib.hid (HB3.out.trans (hb4.mono HB3.out.size))
     have HH4 : Hid (Y4.heap[w.heap.size]? = some (.cells #[.slice AF nF cF, .slice AT nT cT, .slice AS nS cS, .slice AE nE cE] 29 (0, 0))) := Lib.hid ((hb4.block _ (heapE_lt HH3.out)).trans HH3.out)
     have HR4 : Hid (Y4.heap[sb]? = some (.cells #[.int .i64 num, .int .i64 ph, .slice A1 n1 c1, .slice A2 n2 c2, .slice A3 n3 c3, .slice A4 n4 c4, .slice A5 n5 c5, .slice A6 n6 c6] 31 (0, 0))) := Lib.hid ((hb4.block _ (heapE_lt HR3.out)).trans HR3.out)
     have HX4 : Hid (Y4.heap[w4.heap.size]? = some (.cells #[.int .i64 num3, .int .i64 ph3, .slice C1 k1 e1, .slice C2 k2 e2, .slice C3 k3 e3, .slice C4 k4 e4, .slice C5 k5 e5, .slice C6 k6 e6] 31 (0, 0))) := Lib.hid (by rw [HY4.out]; exact heap_new w4 _)
     have HS4 := Lib.hid ((hst.less (Nat.zero_le _)).kept hkb)
     have HU4 := Lib.hid (HU3.out.kept hb4)
     clear hb hb4 hkb hst x0 x1 x2 x3 x4 x5 x6 x7 HTB
     rw [HF2.out] at HS4 HI2
     obtain ⟨Y5, HY5⟩ : ∃ Y, Hid (Y = set8 Y4 sb (.int .i64 num3) (.int .i64 ph3) (.slice C1 k1 e1) (.slice C2 k2 e2) (.slice C3 k3 e3) (.slice C4 k4 e4) (.slice C5 k5 e5) (.slice C6 k6 e6)) := ⟨_, Lib.hid rfl⟩
     have hot : ∀ k, k < Y4.heap.size → k ≠ sb → Y5.heap[k]? = Y4.heap[k]? := fun k _ hne => by rw [HY5.out]; exact set8_other hne
     have HR5 : Hid (Y5.heap[sb]? = some (.cells #[.int .i64 num3, .int .i64 ph3, .slice C1 k1 e1, .slice C2 k2 e2, .slice C3 k3 e3, .slice C4 k4 e4, .slice C5 k5 e5, .slice C6 k6 e6] 31 (0, 0))) := Lib.hid (by rw [HY5.out]; exact set8_same HR4.out)
     have HH5 : Hid (Y5.heap[w.heap.size]? = some (.cells #[.slice AF nF cF, .slice AT nT cT, .slice AS nS cS, .slice AE nE cE] 29 (0, 0))) := Lib.hid ((hot _ (heapE_lt HH4.out) (by have := HSBG.out; omega)).trans HH4.out)
     have HB5 : Hid (Below w.heap.size w Y5) := Lib.hid (by rw [HY5.out]; exact set8_below HB4.out (by have := HSBG.out; omega))
     have HS5 := Lib.hid (HS4.out.apart HR4.out (by decide) (by decide) (by decide) hot)
     have HU5 := Lib.hid (HU4.out.apart HR4.out (by decide) hot)
     obtain ⟨x0, x1, x2, x3, x4, x5, x6, x7⟩ := row8 HX4.out
     obtain ⟨y0, y1, y2', y3, y4, y5, y6, y7⟩ := row8 HR4.out
     have yf := free_row HR4.out
     clear hot
     go_upto_region 26 with fail
     change Code.wp _ _ _ _ (w4.alloc (.cells #[.int .i64 num3, .int .i64 ph3, .slice C1 k1 e1, .slice C2 k2 e2, .slice C3 k3 e3, .slice C4 k4 e4, .slice C5 k5 e5, .slice C6 k6 e6] 31))
     rw [← HY4.out]
     go_upto_region 29 with fail
     change Code.wp _ _ _ _ (set8 Y4 sb (.int .i64 num3) (.int .i64 ph3) (.slice C1 k1 e1) (.slice C2 k2 e2) (.slice C3 k3 e3) (.slice C4 k4 e4) (.slice C5 k5 e5) (.slice C6 k6 e6))
     rw [← HY5.out]
     clear x0 x1 x2 x3 x4 x5 x6 x7 y0 y1 y2' y3 y4 y5 y6 y7 yf
     go_wp2_with fail
     go_roundw
     case rel => exact ⟨j + 1, by omega, by go_num, A9, n9, c9, rfl, num3, ph3, C1, k1, e1, C2, k2, e2, C3, k3, e3, C4, k4, e4, C5, k5, e5, C6, k6, e6, { s with op := [], dn := s.dn ++ [x] }, HB5, HH5, HR5, HS5, HI2, Lib.hid ⟨HPo.out.1, rfl⟩, HU5⟩
     case measure => simp [intOf]; omega
    ·obtain rfl : rm = (ai : Int) := by omega
     obtain ⟨ng, hng⟩ : ∃ q : Int, -(ai : Int) = q := ⟨_, rfl⟩
     rw [hng] at hwneg
     have hwn : IntKind.i64.wrap (-(ai : Int)) = ng := by rw [hng]; exact hwneg
     have t5 : max (ai : Int) ng = (ai : Int) := by omega
     clear hgt hai hrl hwneg hng
     clear hmx
     go_upto_region 23 with fail
     go_wp2_with fail
     refine HRC.out.mono ?_
     rintro e w1 ⟨rfl, hb⟩
     have HBI1 := Lib.hid (HBI.out.trans (hb.mono HBI.out.size))
     have HH1 : Hid (w1.heap[w.heap.size]? = some (.cells #[.slice AF nF cF, .slice AT nT cT, .slice AS nS cS, .slice AE nE cE] 29 (0, 0))) := Lib.hid ((hb.block _ (heapE_lt HHi.out)).trans HHi.out)
     have HR1 : Hid (w1.heap[sb]? = some (.cells #[.int .i64 num, .int .i64 ph, .slice A1 n1 c1, .slice A2 n2 c2, .slice A3 n3 c3, .slice A4 n4 c4, .slice A5 n5 c5, .slice A6 n6 c6] 31 (0, 0))) := Lib.hid ((hb.block _ (heapE_lt HRi.out)).trans HRi.out)
     have HS1 := Lib.hid (HSi.out.kept hb)
     have HU1 := Lib.hid (HUi.out.kept hb)
     clear hb x0 x1 x2 x3 x4 x5 x6 x7 HRC kx
     obtain ⟨Y1, HY1⟩ : ∃ Y, Hid (Y = w1.alloc (.cells #[.int .u64 (dS : Int)] 39)) := ⟨_, Lib.hid rfl⟩
     have hyb : Below w1.heap.size w1 (w1.alloc (.cells #[.int .u64 (dS : Int)] 39)) := (Below.refl _ w1).alloc (Nat.le_refl _) _
     have HAR := Lib.hid (HU1.out.alloc (.cells #[.int .u64 (dS : Int)] 39))
     have HAC : Hid ((w1.alloc (.cells #[.int .u64 (dS : Int)] 39)).cell? ⟨w1.heap.size, 0, none⟩ = some (.int .u64 (dS : Int))) := Lib.hid (by simp)
     have HAB : Hid (Below w.heap.size w (w1.alloc (.cells #[.int .u64 (dS : Int)] 39))) := Lib.hid (HBI1.out.trans (hyb.mono HBI1.out.size))
     have HAH : Hid ((w1.alloc (.cells #[.int .u64 (dS : Int)] 39)).heap[w.heap.size]? = some (.cells #[.slice AF nF cF, .slice AT nT cT, .slice AS nS cS, .slice AE nE cE] 29 (0, 0))) := Lib.hid ((hyb.block _ (heapE_lt HH1.out)).trans HH1.out)
     have HARR : Hid ((w1.alloc (.cells #[.int .u64 (dS : Int)] 39)).heap[sb]? = some (.cells #[.int .i64 num, .int .i64 ph, .slice A1 n1 c1, .slice A2 n2 c2, .slice A3 n3 c3, .slice A4 n4 c4, .slice A5 n5 c5, .slice A6 n6 c6] 31 (0, 0))) := Lib.hid ((hyb.block _ (heapE_lt HR1.out)).trans HR1.out)
     have HAS := Lib.hid (HS1.out.kept hyb)
     have HLU : Hid ((setsOf s.dn).length + 1 ≤ 1000000000) := Lib.hid (by rw [setsOf_len]; have := HIo.out.lenO; omega)
     clear hyb
     go_upto_region 24 with (at_builtin; refine wplF_oneU rfl (.tmp 82) (.tmp 85) rfl w.heap.size _ (setsOf s.dn) rfl HAR.out ⟨w1.heap.size, 0, none⟩ 1 dS rfl HAC.out HLU.out HAB.out.size ?_; intro A9 n9 c9 y2 hown hgr; (have HU2 := Lib.hid hown); (have HGR := Lib.hid hgr); clear hown hgr)
     have HB2 : Hid (Below w.heap.size w y2) := Lib.hid (HAB.out.grown HGR.out HAB.out.size HAR.out.ge)
     have HH2 : Hid (y2.heap[w.heap.size]? = some (.cells #[.slice AF nF cF, .slice AT nT cT, .slice AS nS cS, .slice AE nE cE] 29 (0, 0))) := Lib.hid ((HGR.out.block _ (heapE_lt HAH.out) (HAR.out.neT HAH.out (by decide))).trans HAH.out)
     have HR2 : Hid (y2.heap[sb]? = some (.cells #[.int .i64 num, .int .i64 ph, .slice A1 n1 c1, .slice A2 n2 c2, .slice A3 n3 c3, .slice A4 n4 c4, .slice A5 n5 c5, .slice A6 n6 c6] 31 (0, 0))) := Lib.hid ((HGR.out.block _ (heapE_lt HARR.out) (HAR.out.neT HARR.out (by decide))).trans HARR.out)
     have HS2 := Lib.hid (HAS.out.grownU HAR.out HGR.out)
     have HSN : Hid (setsOf s.dn ++ [dS] = setsOf (s.dn ++ [x])) := Lib.hid (by rw [setsOf_snoc, HDS.out])
     rw [HSN.out] at HU2
     have HTA := Lib.hid (take_any (w := y2) (B := 0) (dF := 0) (dT := 0) (dS := 0) (dE := 0) HS2.out HIo.out (RcW.of (r := ⟨2, x, pl0⟩) plr_nil rfl rfl rfl) (Nat.zero_le _))
     rw [HT1.out.1] at HTA
     obtain ⟨x0, x1, x2, x3, x4, x5, x6, x7⟩ := row8 HR2.out
     go_wp2_with fail
     refine HTA.out.mono ?_
     rintro e w3 ⟨hb, ⟨hne, _⟩ | ⟨_, num2, ph2, B1, m1, d1, B2, m2, d2, B3, m3, d3, B4, m4, d4, B5, m5, d5, B6, m6, d6, rfl, hst⟩⟩
     ·exact absurd rfl hne
     have hb3 := hb.alloc hb.size (.cells #[.int .i64 num2, .int .i64 ph2, .slice B1 m1 d1, .slice B2 m2 d2, .slice B3 m3 d3, .slice B4 m4 d4, .slice B5 m5 d5, .slice B6 m6 d6] 31)
     have hkb : Below w3.heap.size w3 (w3.alloc (.cells #[.int .i64 num2, .int .i64 ph2, .slice B1 m1 d1, .slice B2 m2 d2, .slice B3 m3 d3, .slice B4 m4 d4, .slice B5 m5 d5, .slice B6 m6 d6] 31)) := (Below.refl _ w3).alloc (Nat.le_refl _) _
     obtain ⟨Y3, HY3⟩ : ∃ Y, Hid (Y = w3.alloc (.cells #[.int .i64 num2, .int .i64 ph2, .slice B1 m1 d1, .slice B2 m2 d2, .slice B3 m3 d3, .slice B4 m4 d4, .slice B5 m5 d5, .slice B6 m6 d6] 31)) := ⟨_, Lib.hid rfl⟩
     rw [← HY3.out] at hb3 hkb
     have HB3 := Lib.hid (HB2.out.trans (hb3.mono HB2.out.size))
     have HH3 : Hid (Y3.heap[w.heap.size]? = some (.cells #[.slice AF nF cF, .slice AT nT cT, .slice AS nS cS, .slice AE nE cE] 29 (0, 0))) := Lib.hid ((hb3.block _ (heapE_lt HH2.out)).trans HH2.out)
     have HR3 : Hid (Y3.heap[sb]? = some (.cells #[.int .i64 num, .int .i64 ph, .slice A1 n1 c1, .slice A2 n2 c2, .slice A3 n3 c3, .slice A4 n4 c4, .slice A5 n5 c5, .slice A6 n6 c6] 31 (0, 0))) := Lib.hid ((hb3.block _ (heapE_lt HR2.out)).trans HR2.out)
     have HX3 : Hid (Y3.heap[w3.heap.size]? = some (.cells #[.int .i64 num2, .int .i64 ph2, .slice B1 m1 d1, .slice B2 m2 d2, .slice B3 m3 d3, .slice B4 m4 d4, .slice B5 m5 d5, .slice B6 m6 d6] 31 (0, 0))) := Lib.hid (by rw [HY3.out]; exact heap_new w3 _)
     have HS3 := Lib.hid (hst.kept hkb)
     have HU3 := Lib.hid (HU2.out.kept hb3)
     clear hb hb3 hkb hst x0 x1 x2 x3 x4 x5 x6 x7 HTA
     have HTB := Lib.hid (take_any (w := Y3) (B := 0) (dF := 0) (dT := 0) (dS := 0) (dE := 0) HS3.out HI1.out (RcW.of (r := ⟨3, x, pl0⟩) plr_nil rfl rfl rfl) (Nat.zero_le _))
     rw [HT2.out.1] at HTB
     obtain ⟨x0, x1, x2, x3, x4, x5, x6, x7⟩ := row8 HX3.out
     go_upto_region 25 with fail
     change Code.wp _ _ _ _ (w3.alloc (.cells #[.int .i64 num2, .int .i64 ph2, .slice B1 m1 d1, .slice B2 m2 d2, .slice B3 m3 d3, .slice B4 m4 d4, .slice B5 m5 d5, .slice B6 m6 d6] 31))
     rw [← HY3.out]
     go_wp2_with fail
     refine HTB.out.mono ?_
     rintro e w4 ⟨hb, ⟨hne, _⟩ | ⟨_, num3, ph3, C1, k1, e1, C2, k2, e2, C3, k3, e3, C4, k4, e4, C5, k5, e5, C6, k6, e6, rfl, hst⟩⟩
     ·exact absurd rfl hne
     have hb4 := hb.alloc hb.size (.cells #[.int .i64 num3, .int .i64 ph3, .slice C1 k1 e1, .slice C2 k2 e2, .slice C3 k3 e3, .slice C4 k4 e4, .slice C5 k5 e5, .slice C6 k6 e6] 31)
     have hkb : Below w4.heap.size w4 (w4.alloc (.cells #[.int .i64 num3, .int .i64 ph3, .slice C1 k1 e1, .slice C2 k2 e2, .slice C3 k3 e3, .slice C4 k4 e4, .slice C5 k5 e5, .slice C6 k6 e6] 31)) := (Below.refl _ w4).alloc (Nat.le_refl _) _
     obtain ⟨Y4, HY4⟩ : ∃ Y, Hid (Y = w4.alloc (.cells #[.int .i64 num3, .int .i64 ph3, .slice C1 k1 e1, .slice C2 k2 e2, .slice C3 k3 e3, .slice C4 k4 e4, .slice C5 k5 e5, .slice C6 k6 e6] 31)) := ⟨_, Lib.hid rfl⟩
     rw [← HY4.out] at hb4 hkb
     have HB4 := Lib.hid (HB3.out.trans (hb4.mono HB3.out.size))
     have HH4 : Hid (Y4.heap[w.heap.size]? = some (.cells #[.slice AF nF cF, .slice AT nT cT, .slice AS nS cS, .slice AE nE cE] 29 (0, 0))) := Lib.hid ((hb4.block _ (heapE_lt HH3.out)).trans HH3.out)
     have HR4 : Hid (Y4.heap[sb]? = some (.cells #[.int .i64 num, .int .i64 ph, .slice A1 n1 c1, .slice A2 n2 c2, .slice A3 n3 c3, .slice A4 n4 c4, .slice A5 n5 c5, .slice A6 n6 c6] 31 (0, 0))) := Lib.hid ((hb4.block _ (heapE_lt HR3.out)).trans HR3.out)
     have HX4 : Hid (Y4.heap[w4.heap.size]? = some (.cells #[.int .i64 num3, .int .i64 ph3, .slice C1 k1 e1, .slice C2 k2 e2, .slice C3 k3 e3, .slice C4 k4 e4, .slice C5 k5 e5, .slice C6 k6 e6] 31 (0, 0))) := Lib.hid (by rw [HY4.out]; exact heap_new w4 _)
     have HS4 := Lib.hid ((hst.less (Nat.zero_le _)).kept hkb)
     have HU4 := Lib.hid (HU3.out.kept hb4)
     clear hb hb4 hkb hst x0 x1 x2 x3 x4 x5 x6 x7 HTB
     rw [HF2.out] at HS4 HI2
     obtain ⟨Y5, HY5⟩ : ∃ Y, Hid (Y = set8 Y4 sb (.int .i64 num3) (.int .i64 ph3) (.slice C1 k1 e1) (.slice C2 k2 e2) (.slice C3 k3 e3) (.slice C4 k4 e4) (.slice C5 k5 e5) (.slice C6 k6 e6)) := ⟨_, Lib.hid rfl⟩
     have hot : ∀ k, k < Y4.heap.size → k ≠ sb → Y5.heap[k]? = Y4.heap[k]? := fun k _ hne => by rw [HY5.out]; exact set8_other hne
     have HR5 : Hid (Y5.heap[sb]? = some (.cells #[.int .i64 num3, .int .i64 ph3, .slice C1 k1 e1, .slice C2 k2 e2, .slice C3 k3 e3, .slice C4 k4 e4, .slice C5 k5 e5, .slice C6 k6 e6] 31 (0, 0))) := Lib.hid (by rw [HY5.out]; exact set8_same HR4.out)
     have HH5 : Hid (Y5.heap[w.heap.size]? = some (.cells #[.slice AF nF cF, .slice AT nT cT, .slice AS nS cS, .slice AE nE cE] 29 (0, 0))) := Lib.hid ((hot _ (heapE_lt HH4.out) (by have := HSBG.out; omega)).trans HH4.out)
     have HB5 : Hid (Below w.heap.size w Y5) := Lib.hid (by rw [HY5.out]; exact set8_below HB4.out (by have := HSBG.out; omega))
     have HS5 := Lib.hid (HS4.out.apart HR4.out (by decide) (by decide) (by decide) hot)
     have HU5 := Lib.hid (HU4.out.apart HR4.out (by decide) hot)
     obtain ⟨x0, x1, x2, x3, x4, x5, x6, x7⟩ := row8 HX4.out
     obtain ⟨y0, y1, y2', y3, y4, y5, y6, y7⟩ := row8 HR4.out
     have yf := free_row HR4.out
     clear hot
     go_upto_region 26 with fail
     change Code.wp _ _ _ _ (w4.alloc (.cells #[.int .i64 num3, .int .i64 ph3, .slice C1 k1 e1, .slice C2 k2 e2, .slice C3 k3 e3, .slice C4 k4 e4, .slice C5 k5 e5, .slice C6 k6 e6] 31))
     rw [← HY4.out]
     go_upto_region 29 with fail
     change Code.wp _ _ _ _ (set8 Y4 sb (.int .i64 num3) (.int .i64 ph3) (.slice C1 k1 e1) (.slice C2 k2 e2) (.slice C3 k3 e3) (.slice C4 k4 e4) (.slice C5 k5 e5) (.slice C6 k6 e6))
     rw [← HY5.out]
     clear x0 x1 x2 x3 x4 x5 x6 x7 y0 y1 y2' y3 y4 y5 y6 y7 yf
     go_wp2_with fail
     go_roundw
     case rel => exact ⟨j + 1, by omega, by go_num, A9, n9, c9, rfl, num3, ph3, C1, k1, e1, C2, k2, e2, C3, k3, e3, C4, k4, e4, C5, k5, e5, C6, k6, e6, { s with op := [], dn := s.dn ++ [x] }, HB5, HH5, HR5, HS5, HI2, Lib.hid ⟨HPo.out.1, rfl⟩, HU5⟩
     case measure => simp [intOf]; omega
end Go.Proofs.Ytolgmoaoheflcaa.Sa
