/-
  CONTRACTS of the document's twin of a dock: Sync, Remove, Cut.
-/
import Derived.Test.YtfpcfbolpnfacaaQPut
import Derived.Test.YtfpcfbolpnfacaaQCra
import Derived.Test.YtfpcfbolpnfacaaInv
import Derived.BigRegion
namespace Go.Proofs.Ytfpcfbolpnfacaa
open Go.RowKit
open ByteP
set_option linter.unusedVariables false
set_option maxRecDepth 10000
/-- A step, as the document's twin takes it. -/
def opVal (kd nm k : Int) (dA : Option Addr) (dn dc : Nat) (kA : Option Addr) (kn kc : Nat) : Value := .agg #[.int .i64 kd, .int .i64 nm, .int .i64 k, .slice dA dn dc, .slice kA kn kc]
/-- 'append(s, x...)' of files, run. -/
theorem runF_apps {w : World} {ty : TypeId} (base : Nat) (v : Value) (l : List TF) (hown : OwnF w base v l) (D : Option Addr) (d : Nat) (l2 : List TF) (hr : RdF w D l2) (hn : l.length + l2.length ≤ 1000000) (hbase : base ≤ w.heap.size) :
    ∃ v' w', (Builtin.append_ #[27, 27] ty #[v, .slice D l2.length d]).run Try.prog w = .ok v' w' ∧ OwnF w' base v' (l ++ l2) ∧ w.grownBy w' v.ownBlock ∧ (v'.ownBlock = v.ownBlock ∨ v'.ownBlock = some w.heap.size) := by
  obtain ⟨i0, hi, hz0, hz1, hz2⟩ := info_parts infoFile
  rcases D with _ | ad
  · have hm : l2 = [] := by
      rcases Nat.eq_zero_or_pos l2.length with h0 | h0
      · exact List.eq_nil_of_length_eq_zero h0
      · obtain ⟨b, off, e, _⟩ := hr h0
        cases e
    subst hm
    refine ⟨v, w, ?_, by rw [List.append_nil]; exact hown, World.grownBy.refl w _, .inl rfl⟩
    rcases hown.2 with ⟨rfl, _⟩ | ⟨g, cap, cur, rfl, _, _, hnc, _⟩
    · simp [Builtin.append_, run_underlying Try.underlying27, sizeOf, typeInfo, hi, Builtin.lenOf, Builtin.firstCells]
    · simp [Builtin.append_, run_underlying Try.underlying27, sizeOf, typeInfo, hi, Builtin.lenOf, Builtin.firstCells, hnc, storeCells]
  · obtain ⟨v', w', hrun, h2, h3, _, h5⟩ := run_append_own_at (P := Try.prog) w base 27 ty 51 i0 _ 3 40 Try.underlying27 hi hz0 hz1 hz2 rfl (by decide) v l.length _ hown ad l2.length d (fcells l2) (fcells_len l2) (by
      intro j z hj
      have hjm : 0 < l2.length := by
        have := (List.getElem?_eq_some_iff.1 hj).1
        rw [fcells_len] at this
        omega
      obtain ⟨b, off, e, hc⟩ := hr hjm
      injection e with e
      subst e
      rw [addr_addF]
      exact hc j z hj) (fcells_one l2) (by unfold maxLen; omega) (by omega) hbase
    refine ⟨v', w', hrun, ?_, h3, h5⟩
    unfold OwnF
    rw [fcells_append, List.length_append]; exact h2
theorem rdF_from {w : World} {base c g : Nat} {l : List TF} (h : OwnF w base (.slice (some ⟨g, 0, none⟩) l.length c) l) {i : Nat} : RdF w (if c = i then some ⟨g, 0, none⟩ else some ⟨g, i * 3, none⟩) (l.drop i) := fun hl => by
  rw [List.length_drop] at hl
  have hcap : l.length ≤ c := by
    rcases h.2 with ⟨hh, _⟩ | ⟨g', cap', cur, hv', _, _, hnc, _⟩
    · cases hh
    · injection hv' with e1 e2 e3; omega
  rw [if_neg (by omega)]
  have := (h.rd).from i
  rw [Nat.zero_add] at this
  exact this (by rw [List.length_drop]; exact hl)
theorem OwnF.drew {w : World} {base : Nat} {v : Value} {l : List TF} (h : OwnF w base v l) : OwnF w.drew base v l := h
/-- append of files, as a step of a region that draws. -/
theorem stepF_apps {w : World} {ops : Array Oper} {o : Oper} {a : Act} {K : Act → World → Prop} {Q : Exit → Act → World → Prop} {E : Prop} (hgd : o.guard = none) (s x : Operand)
    (ho : o.op = .call { callee := .builtin .append, args := #[s, x], argTypes := #[27, 27] })
    (base : Nat) (v : Value) (n : Nat) (l : List TF) (hln : l.length = n) (hs : a.eval s = v) (hown : OwnF w base v l)
    (D : Option Addr) (m d : Nat) (l2 : List TF) (hlm : l2.length = m) (hx : a.eval x = .slice D m d) (hr : RdF w D l2) (hn : n + m ≤ 1000000) (hbase : base ≤ w.heap.size) (nr : Nat) (hnr : n + m = nr)
    (h : ∀ A' c' w', OwnF w' base (.slice A' nr c') (l ++ l2) → w.grownBy w' v.ownBlock → ((Value.slice A' 0 0).ownBlock = v.ownBlock ∨ (Value.slice A' 0 0).ownBlock = some w.heap.size) → K (a.put o.dst (.slice A' nr c')) w') :
    if Region.wanted o (yielded ops a.tmps) = true then Oper.wp Try.prog o a w K Q else E := by
  subst hln hlm hnr
  have hw : Region.wanted o (yielded ops a.tmps) = true := by simp [Region.wanted, hgd]
  rw [if_pos hw]
  obtain ⟨v', w', hrun, h2, h3, h5⟩ := runF_apps (ty := o.type) base v l hown D d l2 hr hn hbase
  obtain ⟨A', c', e⟩ := h2.shape
  rw [List.length_append] at e
  subst e
  unfold Oper.wp
  simp only [execOp, ho, resolve, invoke, builtin, Sem.run_bind, Sem.run_pure, Result.andThen_ok, List.map_toArray, List.map_cons, List.map_nil, hs, hx, hrun]
  exact h A' c' w' h2 h3 (by rw [own_block_any A' 0 0 (l.length + l2.length) c']; exact h5)
theorem cut_fin {w : World} {M : Nat → Prop} {B0 tb c g j q mn xn : Nat} {n : TN} {L : List TF} {P : Option Addr} {bs : List Int} (h : TnB w M B0 tb (some ⟨g, 0, none⟩) c n L) (hj : j < L.length) (hP : (tfAt L j).P = P) (hn : (tfAt L j).n = xn) (hbs : (tfAt L j).bs = bs) (hy : q ≤ xn) :
    TnB ((w.drew.setCell ⟨g, j * 3 + 1, none⟩ (.slice P q q)).setCell ⟨g, j * 3 + 2, none⟩ (.int .i64 (mn : Int))) M B0 tb (some ⟨g, 0, none⟩) c n (putS (putB L j P q q (bs.take q)) j mn) ∧
      Fr w ((w.drew.setCell ⟨g, j * 3 + 1, none⟩ (.slice P q q)).setCell ⟨g, j * 3 + 2, none⟩ (.int .i64 (mn : Int))) (Tm tb (some ⟨g, 0, none⟩)) := by
  subst hP hn hbs
  obtain ⟨k1, k2, k3, k4, k5⟩ := h.rd _ (tfAt_mem hj)
  have hb : Below w.heap.size w w.drew := (Below.refl _ w).drew
  obtain ⟨h1, f1⟩ := h.setB (c2 := q) hj hb ((k1.takeQ hy).below hb) (bytes_takeQ k2 q) ⟨Nat.le_refl _, by omega, fun e => by have := k5 e; omega⟩
  obtain ⟨h2, f2⟩ := h1.setS (s := mn) (by rw [putB_len]; exact hj)
  exact ⟨h2, f1.trans f2 (fun b hb => .inl hb)⟩
def cutW (W0 W1 W2 : World) (a b : Bool) : World := if b = true then W2 else if a = true then W1 else W0
structure CutSt (W0 W1 W2 : World) (tb ob g p len c xn xc q xs mn : Nat) (xP : Option Addr) (b0 b1 b2 b3 b4 b5 b6 b7 b8 b9 b10 b11 b12 b13 b14 b15 b16 b17 b18 b19 b20 b21 b22 b23 b24 b25 b26 b27 b28 b29 b30 b31 b32 b33 b34 b35 b36 b37 b38 b39 : Bool) (v68 v69 v70 v71 v72 v73 v74 v75 v76 v77 v78 v79 v80 v81 v82 v83 v84 v85 v86 v87 v88 v89 v90 v91 v92 v93 v94 v95 v96 v97 v98 v99 v100 v101 v102 v103 v104 v105 : Value) (w' : World) : Prop where
  hw : w' = cutW W0 W1 W2 b36 b39
  s1 : b36 = true → b17 = true ∧ b30 = true
  s2 : b39 = true → b36 = true
  h0 : b0 = true → v68 = .pointer (some ⟨tb, 0, none⟩)
  h1 : b1 = true → v69 = .pointer (some ⟨tb, 0, none⟩)
  h2 : b2 = true → v70 = .pointer (some ⟨tb, 0, none⟩)
  h3 : b3 = true → v71 = .slice (some ⟨g, 0, none⟩) len c
  h4 : b4 = true → v72 = .int .i64 (p : Int)
  h5 : b5 = true → v73 = .pointer (some ⟨tb, 0, none⟩)
  h6 : b6 = true → v74 = .pointer (some ⟨tb, 0, none⟩)
  h7 : b7 = true → v75 = .pointer (some ⟨tb, 0, none⟩)
  h8 : b8 = true → v76 = .slice (some ⟨g, 0, none⟩) len c
  h9 : b9 = true → v77 = .int .i64 (p : Int)
  h10 : b10 = true → v78 = .pointer (some ⟨tb, 0, none⟩)
  h11 : b11 = true → v79 = .pointer (some ⟨tb, 0, none⟩)
  h12 : b12 = true → v80 = .pointer (some ⟨tb, 0, none⟩)
  h13 : b13 = true → v81 = .slice (some ⟨g, 0, none⟩) len c
  h14 : b14 = true → v82 = .int .i64 (p : Int)
  h15 : b15 = true → v83 = .pointer (some ⟨g, p * 3, none⟩)
  h16 : b16 = true → v84 = .pointer (some ⟨g, p * 3 + 1, none⟩)
  h17 : b17 = true → v85 = .slice xP xn xc
  h18 : b18 = true → v86 = .pointer (some ⟨ob, 2, none⟩)
  h19 : b19 = true → v87 = .int .i64 (q : Int)
  h20 : b20 = true → v88 = .pointer (some ⟨ob, 2, none⟩)
  h21 : b21 = true → v89 = .int .i64 (q : Int)
  h22 : b22 = true → v90 = .slice xP q q
  h23 : b23 = true → v91 = .pointer (some ⟨tb, 0, none⟩)
  h24 : b24 = true → v92 = .pointer (some ⟨tb, 0, none⟩)
  h25 : b25 = true → v93 = .pointer (some ⟨tb, 0, none⟩)
  h26 : b26 = true → v94 = .slice (some ⟨g, 0, none⟩) len c
  h27 : b27 = true → v95 = .int .i64 (p : Int)
  h28 : b28 = true → v96 = .pointer (some ⟨g, p * 3, none⟩)
  h29 : b29 = true → v97 = .pointer (some ⟨g, p * 3 + 2, none⟩)
  h30 : b30 = true → v98 = .int .i64 (xs : Int)
  h31 : b31 = true → v99 = .pointer (some ⟨ob, 2, none⟩)
  h32 : b32 = true → v100 = .int .i64 (q : Int)
  h33 : b33 = true → v101 = .int .i64 (mn : Int)
  h34 : b34 = true → v102 = .pointer (some ⟨g, p * 3, none⟩)
  h35 : b35 = true → v103 = .pointer (some ⟨g, p * 3 + 1, none⟩)
  h37 : b37 = true → v104 = .pointer (some ⟨g, p * 3, none⟩)
  h38 : b38 = true → v105 = .pointer (some ⟨g, p * 3 + 2, none⟩)
inductive CutJ (W0 W1 W2 : World) (tb ob g p len c xn xc q xs mn : Nat) (xP : Option Addr) (p0_ p1 p2 p3 p4 p5 p6 p7 p8 p9 p10 p11 p12 p13 p14 p15 p16 p17 p18 p19 p20 p21 p22 p23 p24 p25 p26 p27 p28 p29 p30 p31 p32 p33 p34 p35 p36 p37 p38 p39 p40 p41 p42 p43 p44 p45 p46 p47 p48 p49 p50 p51 p52 p53 p54 p55 p56 p57 p58 p59 p60 p61 p62 p63 p64 p65 p66 p67 p106 p107 p108 p109 p110 p111 p112 p113 p114 p115 p116 p117 p118 p119 p120 p121 p122 p123 p124 p125 : Value) : Array Bool → Act → World → Prop where
  | mk (b0 b1 b2 b3 b4 b5 b6 b7 b8 b9 b10 b11 b12 b13 b14 b15 b16 b17 b18 b19 b20 b21 b22 b23 b24 b25 b26 b27 b28 b29 b30 b31 b32 b33 b34 b35 b36 b37 b38 b39 : Bool) (v68 v69 v70 v71 v72 v73 v74 v75 v76 v77 v78 v79 v80 v81 v82 v83 v84 v85 v86 v87 v88 v89 v90 v91 v92 v93 v94 v95 v96 v97 v98 v99 v100 v101 v102 v103 v104 v105 : Value) (w' : World) : CutSt W0 W1 W2 tb ob g p len c xn xc q xs mn xP b0 b1 b2 b3 b4 b5 b6 b7 b8 b9 b10 b11 b12 b13 b14 b15 b16 b17 b18 b19 b20 b21 b22 b23 b24 b25 b26 b27 b28 b29 b30 b31 b32 b33 b34 b35 b36 b37 b38 b39 v68 v69 v70 v71 v72 v73 v74 v75 v76 v77 v78 v79 v80 v81 v82 v83 v84 v85 v86 v87 v88 v89 v90 v91 v92 v93 v94 v95 v96 v97 v98 v99 v100 v101 v102 v103 v104 v105 w' → CutJ W0 W1 W2 tb ob g p len c xn xc q xs mn xP p0_ p1 p2 p3 p4 p5 p6 p7 p8 p9 p10 p11 p12 p13 p14 p15 p16 p17 p18 p19 p20 p21 p22 p23 p24 p25 p26 p27 p28 p29 p30 p31 p32 p33 p34 p35 p36 p37 p38 p39 p40 p41 p42 p43 p44 p45 p46 p47 p48 p49 p50 p51 p52 p53 p54 p55 p56 p57 p58 p59 p60 p61 p62 p63 p64 p65 p66 p67 p106 p107 p108 p109 p110 p111 p112 p113 p114 p115 p116 p117 p118 p119 p120 p121 p122 p123 p124 p125 (List.toArray (b0 :: b1 :: b2 :: b3 :: b4 :: b5 :: b6 :: b7 :: b8 :: b9 :: b10 :: b11 :: b12 :: b13 :: b14 :: b15 :: b16 :: b17 :: b18 :: b19 :: b20 :: b21 :: b22 :: b23 :: b24 :: b25 :: b26 :: b27 :: b28 :: b29 :: b30 :: b31 :: b32 :: b33 :: b34 :: b35 :: b36 :: b37 :: b38 :: b39 :: [])) { tmps := List.toArray (p0_ :: p1 :: p2 :: p3 :: p4 :: p5 :: p6 :: p7 :: p8 :: p9 :: p10 :: p11 :: p12 :: p13 :: p14 :: p15 :: p16 :: p17 :: p18 :: p19 :: p20 :: p21 :: p22 :: p23 :: p24 :: p25 :: p26 :: p27 :: p28 :: p29 :: p30 :: p31 :: p32 :: p33 :: p34 :: p35 :: p36 :: p37 :: p38 :: p39 :: p40 :: p41 :: p42 :: p43 :: p44 :: p45 :: p46 :: p47 :: p48 :: p49 :: p50 :: p51 :: p52 :: p53 :: p54 :: p55 :: p56 :: p57 :: p58 :: p59 :: p60 :: p61 :: p62 :: p63 :: p64 :: p65 :: p66 :: p67 :: v68 :: v69 :: v70 :: v71 :: v72 :: v73 :: v74 :: v75 :: v76 :: v77 :: v78 :: v79 :: v80 :: v81 :: v82 :: v83 :: v84 :: v85 :: v86 :: v87 :: v88 :: v89 :: v90 :: v91 :: v92 :: v93 :: v94 :: v95 :: v96 :: v97 :: v98 :: v99 :: v100 :: v101 :: v102 :: v103 :: v104 :: v105 :: p106 :: p107 :: p108 :: p109 :: p110 :: p111 :: p112 :: p113 :: p114 :: p115 :: p116 :: p117 :: p118 :: p119 :: p120 :: p121 :: p122 :: p123 :: p124 :: p125 :: []), defers := [] } w'
section
variable {w : World} {M : Nat → Prop} {B0 tb c : Nat} {A : Option Addr} {n : TN} {L : List TF} {kd nm k : Int} {dA kA : Option Addr} {dn dc kn kc : Nat}
theorem other_off (h : Tn w tb A c n L) (hL : L.length ≤ 1000000) (ho : n.off = true) : Calls Try.prog 14 #[.pointer (some ⟨tb, 0, none⟩), opVal kd nm k dA dn dc kA kn kc] w fun e w' => e = .returned (.int .i64 51) ∧ Below w.heap.size w w' := by
  have c4 := h.c4
  rw [ho] at c4
  have htl := block_lt_of_cell c4
  have HT := Lib.hid h
  clear h
  unfold opVal
  go_enter Try.func14, Try.ntmps14
  go_wp2_with fail
  refine (find_tw (HT.out.below ((Below.refl _ w).alloc (Nat.le_refl _) _)) hL nm).mono ?_
  rintro e w1 ⟨rfl, hb⟩
  have HB : Hid (Below w.heap.size w w1) := Lib.hid (((Below.refl _ w).alloc (Nat.le_refl _) _).trans (hb.mono (by simp)))
  have c41 := (HB.out.cell (p := ⟨tb, 4, none⟩) htl).trans c4
  clear hb
  go_wp2_with fail
  go_ret
  exact ⟨rfl, HB.out⟩
theorem other_none (h : Tn w tb A c n L) (hL : L.length ≤ 1000000) (ho : n.off = false) (hf : findT L nm L.length = none) : Calls Try.prog 14 #[.pointer (some ⟨tb, 0, none⟩), opVal kd nm k dA dn dc kA kn kc] w fun e w' => e = .returned (.int .i64 52) ∧ Below w.heap.size w w' := by
  have c4 := h.c4
  rw [ho] at c4
  have htl := block_lt_of_cell c4
  have HT := Lib.hid h
  have HFF := Lib.hid hf
  clear h hf
  unfold opVal
  go_enter Try.func14, Try.ntmps14
  go_wp2_with fail
  refine (find_tw (HT.out.below ((Below.refl _ w).alloc (Nat.le_refl _) _)) hL nm).mono ?_
  rintro e w1 ⟨rfl, hb⟩
  have HB : Hid (Below w.heap.size w w1) := Lib.hid (((Below.refl _ w).alloc (Nat.le_refl _) _).trans (hb.mono (by simp)))
  have c41 := (HB.out.cell (p := ⟨tb, 4, none⟩) htl).trans c4
  clear hb
  rw [HFF.out, show fndI none = -1 from rfl]
  go_wp2_with fail
  go_ret
  exact ⟨rfl, HB.out⟩
set_option maxHeartbeats 8000000 in
theorem other_big (h : Tn w tb A c n L) (hL : L.length ≤ 1000000) (ho : n.off = false) {p : Nat} (hp : p < L.length) (hf : findT L nm L.length = some p) (hn : (tfAt L p).n ≤ 100000000) (hk : k < 0 ∨ ((tfAt L p).n : Int) < k) :
    Calls Try.prog 14 #[.pointer (some ⟨tb, 0, none⟩), opVal 8 nm k dA dn dc kA kn kc] w fun e w' => e = .returned (.int .i64 11) ∧ Below w.heap.size w w' := by
  have c4 := h.c4
  rw [ho] at c4
  have htl := block_lt_of_cell c4
  have HT := Lib.hid h
  have HFF := Lib.hid hf
  clear h hf
  unfold opVal
  go_enter Try.func14, Try.ntmps14
  go_wp2_with fail
  refine (find_tw (HT.out.below ((Below.refl _ w).alloc (Nat.le_refl _) _)) hL nm).mono ?_
  rintro e w1 ⟨rfl, hb⟩
  have HB : Hid (Below w.heap.size w w1) := Lib.hid (((Below.refl _ w).alloc (Nat.le_refl _) _).trans (hb.mono (by simp)))
  have c41 := (HB.out.cell (p := ⟨tb, 4, none⟩) htl).trans c4
  have o0 := (hb.cell (p := ⟨w.heap.size, 0, none⟩) (by simp)).trans (show _ = some (.int .i64 8) by simp)
  have o2 := (hb.cell (p := ⟨w.heap.size, 2, none⟩) (by simp)).trans (show _ = some (.int .i64 k) by simp)
  clear hb
  rw [HFF.out, show fndI (some p) = (p : Int) from rfl]
  obtain ⟨g, rfl, hg, r0, r1, r2⟩ := (HT.out.below HB.out).row p hp
  have c01 := (HT.out.below HB.out).c0
  have hp0 : (p : Int) < (L.length : Int) := by omega
  have dp : decide ((p : Int) < 0) = false := by simp
  generalize (tfAt L p).nm = x at *
  generalize (tfAt L p).P = P at *
  generalize (tfAt L p).n = pn at *
  generalize (tfAt L p).c = pc at *
  by_cases hk0 : k < 0
  · have d1 : decide (k < 0) = true := by simp; omega
    go_wp2_with fail
    go_quiet (fail)
    go_wp2
    go_ret
    exact ⟨rfl, below_drewN HB.out _⟩
  · have d1 : decide (k < 0) = false := by simp; omega
    have d2 : decide ((pn : Int) < k) = true := by simp; omega
    go_wp2_with fail
    go_quiet (fail)
    go_wp2
    go_ret
    exact ⟨rfl, below_drewN HB.out _⟩
set_option maxHeartbeats 40000000 in
theorem other_now8 (h : TnB w M B0 tb A c n L) (hL : L.length ≤ 100000) (ho : n.off = false) {p : Nat} (hp : p < L.length) (hf : findT L nm L.length = some p) (hn : (tfAt L p).n ≤ 100000000) {q : Nat} (HQ : q ≤ (tfAt L p).n) (hng : (n.armed && n.left == 0) = true)
    (hl0 : n.armed = true → 0 ≤ n.left) (hl1 : n.left ≤ 9223372036854775807) (hM : ∀ b, M b → b < w.heap.size) (hB0 : B0 ≤ w.heap.size) :
    Calls Try.prog 14 #[.pointer (some ⟨tb, 0, none⟩), opVal 8 nm (q : Int) dA dn dc kA kn kc] w fun e w' => e = .returned (.int .i64 51) ∧ TnB w' M B0 tb A c (tgd n) L ∧ Fr w w' (fun b => b = tb) := by
  have HNG := Lib.hid hng
  clear hng
  have c4 := h.tn.c4
  rw [ho] at c4
  have htl := block_lt_of_cell c4
  have HT := Lib.hid h
  have HFF := Lib.hid hf
  have HMM := Lib.hid hM
  clear h hf hM
  unfold opVal
  go_enter Try.func14, Try.ntmps14
  go_wp2_with fail
  refine (find_tw (HT.out.tn.below ((Below.refl _ w).alloc (Nat.le_refl _) _)) (by omega) nm).mono ?_
  rintro e w1 ⟨rfl, hb⟩
  have HB : Hid (Below w.heap.size w w1) := Lib.hid (((Below.refl _ w).alloc (Nat.le_refl _) _).trans (hb.mono (by simp)))
  have HT1 := Lib.hid (HT.out.below HB.out)
  have c41 := (HB.out.cell (p := ⟨tb, 4, none⟩) htl).trans c4
  have o0 := (hb.cell (p := ⟨w.heap.size, 0, none⟩) (by simp)).trans (show _ = some (.int .i64 8) by simp)
  have o2 := (hb.cell (p := ⟨w.heap.size, 2, none⟩) (by simp)).trans (show _ = some (.int .i64 (q : Int)) by simp)
  have hob : w.heap.size < w1.heap.size := Nat.lt_of_lt_of_le (by simp) hb.size
  clear hb c4
  rw [HFF.out, show fndI (some p) = (p : Int) from rfl]
  obtain ⟨g, rfl, hg, r0, r1, r2⟩ := HT1.out.tn.row p hp
  have hogn : w.heap.size ≠ g := fun e => by have := (HT.out.alt g rfl).2; omega
  have c01 := HT1.out.tn.c0
  have htl1 := HT1.out.tlt
  have hgl := block_lt_of_cell r1
  have hp0 : (p : Int) < (L.length : Int) := by omega
  have dp : decide ((p : Int) < 0) = false := by simp
  obtain ⟨X, hX⟩ : ∃ X, X = tfAt L p := ⟨_, rfl⟩
  obtain ⟨k1, k2, k3⟩ := HT1.out.rd _ (tfAt_mem hp)
  rw [← hX] at r0 r1 r2 hn k1 k2 k3 HQ
  have HX := Lib.hid hX
  have HK1 := Lib.hid k1
  have HK2 := Lib.hid k2
  have HK3 := Lib.hid k3
  clear hX k1 k2 k3
  obtain ⟨xnm, xP, xn, xc, xbs, xs⟩ := X
  simp only at r0 r1 r2 hn HK1 HK2 HK3 HQ
  have dk0 : decide ((q : Int) < 0) = false := by simp
  have dk1 : decide ((xn : Int) < (q : Int)) = false := by simp; omega
  go_wp2_with fail
  go_quiet (fail)
  rename_i nq
  have HG2 := Lib.hid (goes_tw (HT1.out.below (below_drewN (Below.refl _ w1) nq)).tn hl0 hl1)
  rw [HNG.out] at HG2
  go_wp2_with fail
  refine HG2.out.mono ?_
  rintro e w2 ⟨rfl, ht2, hf2⟩
  have HT2 := Lib.hid ((HT1.out.below (below_drewN (Below.refl _ w1) nq)).nums hf2 ht2.cells)
  have HF2 : Hid (Fr w w2 (fun b => b = tb)) := Lib.hid (Fr.of_below_then (HB.out.trans ((below_drewN (Below.refl _ w1) nq).mono HB.out.size)) hf2)
  clear ht2 hf2
  go_wp2_with fail
  go_ret
  exact ⟨rfl, HT2.out, HF2.out⟩
set_option maxHeartbeats 40000000 in
theorem other_now (h : TnB w M B0 tb A c n L) (hL : L.length ≤ 100000) (ho : n.off = false) {p : Nat} (hp : p < L.length) (hf : findT L nm L.length = some p) (hn : (tfAt L p).n ≤ 100000000) (hk8 : kd ≠ 8) (HQ : (tfAt L p).n ≤ (tfAt L p).n) (hng : (n.armed && n.left == 0) = true)
    (hl0 : n.armed = true → 0 ≤ n.left) (hl1 : n.left ≤ 9223372036854775807) (hM : ∀ b, M b → b < w.heap.size) (hB0 : B0 ≤ w.heap.size) :
    Calls Try.prog 14 #[.pointer (some ⟨tb, 0, none⟩), opVal kd nm k dA dn dc kA kn kc] w fun e w' => e = .returned (.int .i64 51) ∧ TnB w' M B0 tb A c (tgd n) L ∧ Fr w w' (fun b => b = tb) := by
  have HNG := Lib.hid hng
  clear hng
  have c4 := h.tn.c4
  rw [ho] at c4
  have htl := block_lt_of_cell c4
  have HT := Lib.hid h
  have HFF := Lib.hid hf
  have HMM := Lib.hid hM
  clear h hf hM
  unfold opVal
  go_enter Try.func14, Try.ntmps14
  go_wp2_with fail
  refine (find_tw (HT.out.tn.below ((Below.refl _ w).alloc (Nat.le_refl _) _)) (by omega) nm).mono ?_
  rintro e w1 ⟨rfl, hb⟩
  have HB : Hid (Below w.heap.size w w1) := Lib.hid (((Below.refl _ w).alloc (Nat.le_refl _) _).trans (hb.mono (by simp)))
  have HT1 := Lib.hid (HT.out.below HB.out)
  have c41 := (HB.out.cell (p := ⟨tb, 4, none⟩) htl).trans c4
  have o0 := (hb.cell (p := ⟨w.heap.size, 0, none⟩) (by simp)).trans (show _ = some (.int .i64 kd) by simp)
  have o2 := (hb.cell (p := ⟨w.heap.size, 2, none⟩) (by simp)).trans (show _ = some (.int .i64 k) by simp)
  have hob : w.heap.size < w1.heap.size := Nat.lt_of_lt_of_le (by simp) hb.size
  clear hb c4
  rw [HFF.out, show fndI (some p) = (p : Int) from rfl]
  obtain ⟨g, rfl, hg, r0, r1, r2⟩ := HT1.out.tn.row p hp
  have hogn : w.heap.size ≠ g := fun e => by have := (HT.out.alt g rfl).2; omega
  have c01 := HT1.out.tn.c0
  have htl1 := HT1.out.tlt
  have hgl := block_lt_of_cell r1
  have hp0 : (p : Int) < (L.length : Int) := by omega
  have dp : decide ((p : Int) < 0) = false := by simp
  obtain ⟨X, hX⟩ : ∃ X, X = tfAt L p := ⟨_, rfl⟩
  obtain ⟨k1, k2, k3⟩ := HT1.out.rd _ (tfAt_mem hp)
  rw [← hX] at r0 r1 r2 hn k1 k2 k3 HQ
  have HX := Lib.hid hX
  have HK1 := Lib.hid k1
  have HK2 := Lib.hid k2
  have HK3 := Lib.hid k3
  clear hX k1 k2 k3
  obtain ⟨xnm, xP, xn, xc, xbs, xs⟩ := X
  simp only at r0 r1 r2 hn HK1 HK2 HK3 HQ
  have dk8 : (kd == 8) = false := beq_eq_false_iff_ne.2 hk8
  go_wp2_with fail
  go_quiet (fail)
  rename_i nq
  have HG2 := Lib.hid (goes_tw (HT1.out.below (below_drewN (Below.refl _ w1) nq)).tn hl0 hl1)
  rw [HNG.out] at HG2
  go_wp2_with fail
  refine HG2.out.mono ?_
  rintro e w2 ⟨rfl, ht2, hf2⟩
  have HT2 := Lib.hid ((HT1.out.below (below_drewN (Below.refl _ w1) nq)).nums hf2 ht2.cells)
  have HF2 : Hid (Fr w w2 (fun b => b = tb)) := Lib.hid (Fr.of_below_then (HB.out.trans ((below_drewN (Below.refl _ w1) nq).mono HB.out.size)) hf2)
  clear ht2 hf2
  go_wp2_with fail
  go_ret
  exact ⟨rfl, HT2.out, HF2.out⟩
set_option maxHeartbeats 40000000 in
theorem other_sync (h : TnB w M B0 tb A c n L) (hL : L.length ≤ 100000) (ho : n.off = false) {p : Nat} (hp : p < L.length) (hf : findT L nm L.length = some p) (hn : (tfAt L p).n ≤ 100000000) (HQ : (tfAt L p).n ≤ (tfAt L p).n) (hng : (n.armed && n.left == 0) = false)
    (hl0 : n.armed = true → 0 ≤ n.left) (hl1 : n.left ≤ 9223372036854775807) (hM : ∀ b, M b → b < w.heap.size) (hB0 : B0 ≤ w.heap.size) :
    Calls Try.prog 14 #[.pointer (some ⟨tb, 0, none⟩), opVal 2 nm k dA dn dc kA kn kc] w fun e w' => e = .returned (.int .i64 0) ∧ TnB w' M B0 tb A c (tgd n) (putS L p (tfAt L p).n) ∧ Fr w w' (Tm tb A) := by
  have HNG := Lib.hid hng
  clear hng
  have c4 := h.tn.c4
  rw [ho] at c4
  have htl := block_lt_of_cell c4
  have HT := Lib.hid h
  have HFF := Lib.hid hf
  have HMM := Lib.hid hM
  clear h hf hM
  unfold opVal
  go_enter Try.func14, Try.ntmps14
  go_wp2_with fail
  refine (find_tw (HT.out.tn.below ((Below.refl _ w).alloc (Nat.le_refl _) _)) (by omega) nm).mono ?_
  rintro e w1 ⟨rfl, hb⟩
  have HB : Hid (Below w.heap.size w w1) := Lib.hid (((Below.refl _ w).alloc (Nat.le_refl _) _).trans (hb.mono (by simp)))
  have HT1 := Lib.hid (HT.out.below HB.out)
  have c41 := (HB.out.cell (p := ⟨tb, 4, none⟩) htl).trans c4
  have o0 := (hb.cell (p := ⟨w.heap.size, 0, none⟩) (by simp)).trans (show _ = some (.int .i64 2) by simp)
  have o2 := (hb.cell (p := ⟨w.heap.size, 2, none⟩) (by simp)).trans (show _ = some (.int .i64 k) by simp)
  have hob : w.heap.size < w1.heap.size := Nat.lt_of_lt_of_le (by simp) hb.size
  clear hb c4
  rw [HFF.out, show fndI (some p) = (p : Int) from rfl]
  obtain ⟨g, rfl, hg, r0, r1, r2⟩ := HT1.out.tn.row p hp
  have hogn : w.heap.size ≠ g := fun e => by have := (HT.out.alt g rfl).2; omega
  have c01 := HT1.out.tn.c0
  have htl1 := HT1.out.tlt
  have hgl := block_lt_of_cell r1
  have hp0 : (p : Int) < (L.length : Int) := by omega
  have dp : decide ((p : Int) < 0) = false := by simp
  obtain ⟨X, hX⟩ : ∃ X, X = tfAt L p := ⟨_, rfl⟩
  obtain ⟨k1, k2, k3⟩ := HT1.out.rd _ (tfAt_mem hp)
  rw [← hX] at r0 r1 r2 hn k1 k2 k3 HQ
  have HX := Lib.hid hX
  have HK1 := Lib.hid k1
  have HK2 := Lib.hid k2
  have HK3 := Lib.hid k3
  clear hX k1 k2 k3
  obtain ⟨xnm, xP, xn, xc, xbs, xs⟩ := X
  simp only at r0 r1 r2 hn HK1 HK2 HK3 HQ
  go_wp2_with fail
  go_quiet (fail)
  rename_i nq
  have HG2 := Lib.hid (goes_tw (HT1.out.below (below_drewN (Below.refl _ w1) nq)).tn hl0 hl1)
  rw [HNG.out] at HG2
  go_wp2_with fail
  refine HG2.out.mono ?_
  rintro e w2 ⟨rfl, ht2, hf2⟩
  have HT2 := Lib.hid ((HT1.out.below (below_drewN (Below.refl _ w1) nq)).nums hf2 ht2.cells)
  have HF2 : Hid (Fr w w2 (fun b => b = tb)) := Lib.hid (Fr.of_below_then (HB.out.trans ((below_drewN (Below.refl _ w1) nq).mono HB.out.size)) hf2)
  have hbl2 : Below w1.heap.size w1 w1 := Below.refl _ _
  have o02 := (World.cell?_of_block (w := w1.drewN nq) (a := ⟨w.heap.size, 0, none⟩) (hf2.block _ hob (by show w.heap.size ≠ tb; omega))).trans o0
  have o22 := (World.cell?_of_block (w := w1.drewN nq) (a := ⟨w.heap.size, 2, none⟩) (hf2.block _ hob (by show w.heap.size ≠ tb; omega))).trans o2
  clear ht2 hf2 hbl2 o0 o2 r0 r1 r2 c01 c41
  obtain ⟨g', hg', _, r0, r1, r2⟩ := HT2.out.tn.row p hp
  injection hg' with hg'
  injection hg' with hg1 _ _
  subst hg1
  rw [← HX.out] at r0 r1 r2
  simp only at r0 r1 r2
  have c02 := HT2.out.tn.c0
  have htl2 := HT2.out.tlt
  have hgl2 := block_lt_of_cell r1
  have hfz := HT2.out.tno.own.fz (p * 3 + 2)
  have c02' : (w2.setCell ⟨g, p * 3 + 2, none⟩ (.int .i64 (xn : Int))).cell? ⟨tb, 0, none⟩ = some (.slice (some ⟨g, 0, none⟩) L.length c) := by
    rw [World.cell?_setCell_other _ _ _ _ (by intro h; injection h with h1 h2 h3; exact hg h1)]; exact c02
  have r1' : (w2.setCell ⟨g, p * 3 + 2, none⟩ (.int .i64 (xn : Int))).cell? ⟨g, p * 3 + 1, none⟩ = some (.slice xP xn xc) := by
    rw [World.cell?_setCell_other _ _ _ _ (by intro h; injection h with h1 h2 h3; omega)]; exact r1
  go_wp2_with fail
  go_region_held3 (fun W => W.cell? ⟨tb, 0, none⟩ = some (.slice (some ⟨g, 0, none⟩) L.length c) ∧ W.cell? ⟨g, p * 3 + 1, none⟩ = some (.slice xP xn xc)) ((first | exact ⟨c02, r1⟩ | exact ⟨c02', r1'⟩ | go_keep)) (fail)
  all_goals (obtain ⟨hz1, hz2⟩ := HT2.out.setS (s := xn) hp; have HZ1 := Lib.hid (hz1.below (Below.refl _ _).drew); have HZ2 := Lib.hid (hz2.then_below (Below.refl _ _).drew); clear hz1 hz2)
  all_goals (go_wp2_with fail; go_ret; rw [← HX.out]; refine ⟨rfl, HZ1.out, ?_⟩; exact (HF2.out.weak (fun b hb => .inl hb)).trans HZ2.out (fun b hb => .inl hb))
set_option maxHeartbeats 40000000 in
theorem other_cut (h : TnB w M B0 tb A c n L) (hL : L.length ≤ 100000) (ho : n.off = false) {p : Nat} (hp : p < L.length) (hf : findT L nm L.length = some p) (hn : (tfAt L p).n ≤ 100000000) {q : Nat} (HQ : q ≤ (tfAt L p).n) (hng : (n.armed && n.left == 0) = false)
    (hl0 : n.armed = true → 0 ≤ n.left) (hl1 : n.left ≤ 9223372036854775807) (hM : ∀ b, M b → b < w.heap.size) (hB0 : B0 ≤ w.heap.size) :
    Calls Try.prog 14 #[.pointer (some ⟨tb, 0, none⟩), opVal 8 nm (q : Int) dA dn dc kA kn kc] w fun e w' => e = .returned (.int .i64 0) ∧ TnB w' M B0 tb A c (tgd n) (putS (putB L p (tfAt L p).P q q ((tfAt L p).bs.take q)) p (min (tfAt L p).s q)) ∧ Fr w w' (Tm tb A) := by
  have HNG := Lib.hid hng
  clear hng
  have c4 := h.tn.c4
  rw [ho] at c4
  have htl := block_lt_of_cell c4
  have HT := Lib.hid h
  have HFF := Lib.hid hf
  have HMM := Lib.hid hM
  clear h hf hM
  unfold opVal
  go_enter Try.func14, Try.ntmps14
  go_wp2_with fail
  refine (find_tw (HT.out.tn.below ((Below.refl _ w).alloc (Nat.le_refl _) _)) (by omega) nm).mono ?_
  rintro e w1 ⟨rfl, hb⟩
  have HB : Hid (Below w.heap.size w w1) := Lib.hid (((Below.refl _ w).alloc (Nat.le_refl _) _).trans (hb.mono (by simp)))
  have HT1 := Lib.hid (HT.out.below HB.out)
  have c41 := (HB.out.cell (p := ⟨tb, 4, none⟩) htl).trans c4
  have o0 := (hb.cell (p := ⟨w.heap.size, 0, none⟩) (by simp)).trans (show _ = some (.int .i64 8) by simp)
  have o2 := (hb.cell (p := ⟨w.heap.size, 2, none⟩) (by simp)).trans (show _ = some (.int .i64 (q : Int)) by simp)
  have hob : w.heap.size < w1.heap.size := Nat.lt_of_lt_of_le (by simp) hb.size
  clear hb c4
  rw [HFF.out, show fndI (some p) = (p : Int) from rfl]
  obtain ⟨g, rfl, hg, r0, r1, r2⟩ := HT1.out.tn.row p hp
  have hogn : w.heap.size ≠ g := fun e => by have := (HT.out.alt g rfl).2; omega
  have c01 := HT1.out.tn.c0
  have htl1 := HT1.out.tlt
  have hgl := block_lt_of_cell r1
  have hp0 : (p : Int) < (L.length : Int) := by omega
  have dp : decide ((p : Int) < 0) = false := by simp
  obtain ⟨X, hX⟩ : ∃ X, X = tfAt L p := ⟨_, rfl⟩
  obtain ⟨k1, k2, k3⟩ := HT1.out.rd _ (tfAt_mem hp)
  rw [← hX] at r0 r1 r2 hn k1 k2 k3 HQ
  have HX := Lib.hid hX
  have HK1 := Lib.hid k1
  have HK2 := Lib.hid k2
  have HK3 := Lib.hid k3
  clear hX k1 k2 k3
  obtain ⟨xnm, xP, xn, xc, xbs, xs⟩ := X
  simp only at r0 r1 r2 hn HK1 HK2 HK3 HQ
  have dk0 : decide ((q : Int) < 0) = false := by simp
  have dk1 : decide ((xn : Int) < (q : Int)) = false := by simp; omega
  go_wp2_with fail
  go_quiet (fail)
  rename_i nq
  have HG2 := Lib.hid (goes_tw (HT1.out.below (below_drewN (Below.refl _ w1) nq)).tn hl0 hl1)
  rw [HNG.out] at HG2
  go_wp2_with fail
  refine HG2.out.mono ?_
  rintro e w2 ⟨rfl, ht2, hf2⟩
  have HT2 := Lib.hid ((HT1.out.below (below_drewN (Below.refl _ w1) nq)).nums hf2 ht2.cells)
  have HF2 : Hid (Fr w w2 (fun b => b = tb)) := Lib.hid (Fr.of_below_then (HB.out.trans ((below_drewN (Below.refl _ w1) nq).mono HB.out.size)) hf2)
  have hbl2 : Below w1.heap.size w1 w1 := Below.refl _ _
  have o02 := (World.cell?_of_block (w := w1.drewN nq) (a := ⟨w.heap.size, 0, none⟩) (hf2.block _ hob (by show w.heap.size ≠ tb; omega))).trans o0
  have o22 := (World.cell?_of_block (w := w1.drewN nq) (a := ⟨w.heap.size, 2, none⟩) (hf2.block _ hob (by show w.heap.size ≠ tb; omega))).trans o2
  clear ht2 hf2 hbl2 o0 o2 r0 r1 r2 c01 c41
  obtain ⟨g', hg', _, r0, r1, r2⟩ := HT2.out.tn.row p hp
  injection hg' with hg'
  injection hg' with hg1 _ _
  subst hg1
  rw [← HX.out] at r0 r1 r2
  simp only at r0 r1 r2
  have c02 := HT2.out.tn.c0
  have htl2 := HT2.out.tlt
  have hgl2 := block_lt_of_cell r1
  have hfz1 := HT2.out.tno.own.fz (p * 3 + 1)
  have hfz2 := HT2.out.tno.own.fz (p * 3 + 2)
  have hqc : q ≤ xc := Nat.le_trans HQ HK3.out.1
  obtain ⟨mn, hmn0⟩ : ∃ mn, mn = min xs q := ⟨_, rfl⟩
  have hmn : (xs ≤ q ∧ mn = xs) ∨ (q < xs ∧ mn = q) := by omega
  go_wp2_with fail
  obtain ⟨W0, hW0⟩ : ∃ W0, W0 = w2.drew := ⟨_, rfl⟩
  obtain ⟨W1, hW1⟩ : ∃ W1, W1 = W0.setCell ⟨g, p * 3 + 1, none⟩ (.slice xP q q) := ⟨_, rfl⟩
  obtain ⟨W2, hW2⟩ : ∃ W2, W2 = W1.setCell ⟨g, p * 3 + 2, none⟩ (.int .i64 (mn : Int)) := ⟨_, rfl⟩
  have r1a : W0.cell? ⟨g, p * 3 + 1, none⟩ = some (.slice xP xn xc) := by rw [hW0]; exact r1
  have r2a : W0.cell? ⟨g, p * 3 + 2, none⟩ = some (.int .i64 (xs : Int)) := by rw [hW0]; exact r2
  have r2' : W1.cell? ⟨g, p * 3 + 2, none⟩ = some (.int .i64 (xs : Int)) := by
    rw [hW1, World.cell?_setCell_other _ _ _ _ (by intro h; injection h with h1 h2 h3; omega)]; exact r2a
  have hfz1a : W0.frozen? ⟨g, p * 3 + 1, none⟩ = false := by rw [hW0]; exact hfz1
  have hfz2' : W1.frozen? ⟨g, p * 3 + 2, none⟩ = false := by
    rw [hW1, hW0]; simpa using hfz2
  have hF1 : Fr w2 W1 (fun b => b = g) := by rw [hW1, hW0]; exact (Fr.of_below (Below.refl _ w2).drew).trans (Fr.setCell _ (fun b => b = g) (p := ⟨g, p * 3 + 1, none⟩) rfl _) (fun b hb => .inl hb)
  have hF2 : Fr W1 W2 (fun b => b = g) := by rw [hW2]; exact Fr.setCell _ (fun b => b = g) (p := ⟨g, p * 3 + 2, none⟩) rfl _
  have hF12 : Fr w2 W2 (fun b => b = g) := hF1.trans hF2 (fun b hb => .inl hb)
  have ctb : ∀ a b, (cutW W0 W1 W2 a b).cell? ⟨tb, 0, none⟩ = some (.slice (some ⟨g, 0, none⟩) L.length c) := by
    intro a b
    cases b with
    | true => exact (World.cell?_of_block (a := ⟨tb, 0, none⟩) (hF12.block tb htl2 (fun e => hg e.symm))).trans c02
    | false =>
      cases a with
      | true => exact (World.cell?_of_block (a := ⟨tb, 0, none⟩) (hF1.block tb htl2 (fun e => hg e.symm))).trans c02
      | false => show W0.cell? _ = _; rw [hW0]; exact c02
  have hobl : w.heap.size < w2.heap.size := block_lt_of_cell o02
  have hobg : w.heap.size ≠ g := hogn
  have cob : ∀ a b, (cutW W0 W1 W2 a b).cell? ⟨w.heap.size, 2, none⟩ = some (.int .i64 (q : Int)) := by
    intro a b
    cases b with
    | true => exact (World.cell?_of_block (a := ⟨w.heap.size, 2, none⟩) (hF12.block _ hobl hobg)).trans o22
    | false =>
      cases a with
      | true => exact (World.cell?_of_block (a := ⟨w.heap.size, 2, none⟩) (hF1.block _ hobl hobg)).trans o22
      | false => show W0.cell? _ = _; rw [hW0]; exact o22
  have HW0 := Lib.hid hW0
  have HW1 := Lib.hid hW1
  have HW2 := Lib.hid hW2
  have HMN := Lib.hid hmn0
  clear r1 r2 hfz1 hfz2 hF1 hF2 hF12 o02 o22 c02 hW0 hW1 hW2 hmn0
  have r1 := r1a
  have r2 := r2a
  have hfz1 := hfz1a
  clear r1a r2a hfz1a
  refine wp_region_inv (by kernel_rfl) (I := CutJ W0 W1 W2 tb w.heap.size g p L.length c xn xc q xs mn xP _ _ _ _ _ _ _ _ _ _ _ _ _ _ _ _ _ _ _ _ _ _ _ _ _ _ _ _ _ _ _ _ _ _ _ _ _ _ _ _ _ _ _ _ _ _ _ _ _ _ _ _ _ _ _ _ _ _ _ _ _ _ _ _ _ _ _ _ _ _ _ _ _ _ _ _ _ _ _ _ _ _ _ _ _ _ _ _) (by exact .mk false false false false false false false false false false false false false false false false false false false false false false false false false false false false false false false false false false false false false false false false _ _ _ _ _ _ _ _ _ _ _ _ _ _ _ _ _ _ _ _ _ _ _ _ _ _ _ _ _ _ _ _ _ _ _ _ _ _ _ ⟨HW0.out.symm, nofun, nofun, nofun, nofun, nofun, nofun, nofun, nofun, nofun, nofun, nofun, nofun, nofun, nofun, nofun, nofun, nofun, nofun, nofun, nofun, nofun, nofun, nofun, nofun, nofun, nofun, nofun, nofun, nofun, nofun, nofun, nofun, nofun, nofun, nofun, nofun, nofun, nofun, nofun, nofun⟩) ?step ?fin
  case step =>
    rintro lq a' w' ix ⟨b0, b1, b2, b3, b4, b5, b6, b7, b8, b9, b10, b11, b12, b13, b14, b15, b16, b17, b18, b19, b20, b21, b22, b23, b24, b25, b26, b27, b28, b29, b30, b31, b32, b33, b34, b35, b36, b37, b38, b39, v68, v69, v70, v71, v72, v73, v74, v75, v76, v77, v78, v79, v80, v81, v82, v83, v84, v85, v86, v87, v88, v89, v90, v91, v92, v93, v94, v95, v96, v97, v98, v99, v100, v101, v102, v103, v104, v105, _, HT⟩ hi
    obtain ⟨hi_, hib⟩ := ready_lt hi
    obtain rfl := HT.hw
    have HTH := Lib.hid HT
    match ix, hi_, hi, hib with
    | 0, _, hi, hib =>
      clear HT
      refine wpOp_one rfl rfl (fun K hK => ?_)
      go_simp
      exact hK.out _ _ (.mk true b1 b2 b3 b4 b5 b6 b7 b8 b9 b10 b11 b12 b13 b14 b15 b16 b17 b18 b19 b20 b21 b22 b23 b24 b25 b26 b27 b28 b29 b30 b31 b32 b33 b34 b35 b36 b37 b38 b39 _ _ _ _ _ _ _ _ _ _ _ _ _ _ _ _ _ _ _ _ _ _ _ _ _ _ _ _ _ _ _ _ _ _ _ _ _ _ _ { HTH.out with h0 := fun _ => rfl })
    | 1, _, hi, hib =>
      have d0 : b0 = true := ready_dep hi rfl 0 (by kernel_rfl)
      have hd0 := HT.h0 d0
      subst hd0
      clear HT
      refine wpOp_one rfl rfl (fun K hK => ?_)
      go_simp
      exact hK.out _ _ (.mk b0 true b2 b3 b4 b5 b6 b7 b8 b9 b10 b11 b12 b13 b14 b15 b16 b17 b18 b19 b20 b21 b22 b23 b24 b25 b26 b27 b28 b29 b30 b31 b32 b33 b34 b35 b36 b37 b38 b39 _ _ _ _ _ _ _ _ _ _ _ _ _ _ _ _ _ _ _ _ _ _ _ _ _ _ _ _ _ _ _ _ _ _ _ _ _ _ _ { HTH.out with h1 := fun _ => rfl })
    | 2, _, hi, hib =>
      have d1 : b1 = true := ready_dep hi rfl 1 (by kernel_rfl)
      have hd1 := HT.h1 d1
      subst hd1
      clear HT
      refine wpOp_one rfl rfl (fun K hK => ?_)
      go_simp
      exact hK.out _ _ (.mk b0 b1 true b3 b4 b5 b6 b7 b8 b9 b10 b11 b12 b13 b14 b15 b16 b17 b18 b19 b20 b21 b22 b23 b24 b25 b26 b27 b28 b29 b30 b31 b32 b33 b34 b35 b36 b37 b38 b39 _ _ _ _ _ _ _ _ _ _ _ _ _ _ _ _ _ _ _ _ _ _ _ _ _ _ _ _ _ _ _ _ _ _ _ _ _ _ _ { HTH.out with h2 := fun _ => rfl })
    | 3, _, hi, hib =>
      have d2 : b2 = true := ready_dep hi rfl 2 (by kernel_rfl)
      have hd2 := HT.h2 d2
      subst hd2
      clear HT
      refine wpOp_one rfl rfl (fun K hK => ?_)
      go_simp
      exact hK.out _ _ (.mk b0 b1 b2 true b4 b5 b6 b7 b8 b9 b10 b11 b12 b13 b14 b15 b16 b17 b18 b19 b20 b21 b22 b23 b24 b25 b26 b27 b28 b29 b30 b31 b32 b33 b34 b35 b36 b37 b38 b39 _ _ _ _ _ _ _ _ _ _ _ _ _ _ _ _ _ _ _ _ _ _ _ _ _ _ _ _ _ _ _ _ _ _ _ _ _ _ _ { HTH.out with h3 := fun _ => rfl })
    | 4, _, hi, hib =>
      clear HT
      refine wpOp_one rfl rfl (fun K hK => ?_)
      go_simp
      exact hK.out _ _ (.mk b0 b1 b2 b3 true b5 b6 b7 b8 b9 b10 b11 b12 b13 b14 b15 b16 b17 b18 b19 b20 b21 b22 b23 b24 b25 b26 b27 b28 b29 b30 b31 b32 b33 b34 b35 b36 b37 b38 b39 _ _ _ _ _ _ _ _ _ _ _ _ _ _ _ _ _ _ _ _ _ _ _ _ _ _ _ _ _ _ _ _ _ _ _ _ _ _ _ { HTH.out with h4 := fun _ => rfl })
    | 5, _, hi, hib =>
      clear HT
      refine wpOp_one rfl rfl (fun K hK => ?_)
      go_simp
      exact hK.out _ _ (.mk b0 b1 b2 b3 b4 true b6 b7 b8 b9 b10 b11 b12 b13 b14 b15 b16 b17 b18 b19 b20 b21 b22 b23 b24 b25 b26 b27 b28 b29 b30 b31 b32 b33 b34 b35 b36 b37 b38 b39 _ _ _ _ _ _ _ _ _ _ _ _ _ _ _ _ _ _ _ _ _ _ _ _ _ _ _ _ _ _ _ _ _ _ _ _ _ _ _ { HTH.out with h5 := fun _ => rfl })
    | 6, _, hi, hib =>
      have d5 : b5 = true := ready_dep hi rfl 5 (by kernel_rfl)
      have hd5 := HT.h5 d5
      subst hd5
      clear HT
      refine wpOp_one rfl rfl (fun K hK => ?_)
      go_simp
      exact hK.out _ _ (.mk b0 b1 b2 b3 b4 b5 true b7 b8 b9 b10 b11 b12 b13 b14 b15 b16 b17 b18 b19 b20 b21 b22 b23 b24 b25 b26 b27 b28 b29 b30 b31 b32 b33 b34 b35 b36 b37 b38 b39 _ _ _ _ _ _ _ _ _ _ _ _ _ _ _ _ _ _ _ _ _ _ _ _ _ _ _ _ _ _ _ _ _ _ _ _ _ _ _ { HTH.out with h6 := fun _ => rfl })
    | 7, _, hi, hib =>
      have d6 : b6 = true := ready_dep hi rfl 6 (by kernel_rfl)
      have hd6 := HT.h6 d6
      subst hd6
      clear HT
      refine wpOp_one rfl rfl (fun K hK => ?_)
      go_simp
      exact hK.out _ _ (.mk b0 b1 b2 b3 b4 b5 b6 true b8 b9 b10 b11 b12 b13 b14 b15 b16 b17 b18 b19 b20 b21 b22 b23 b24 b25 b26 b27 b28 b29 b30 b31 b32 b33 b34 b35 b36 b37 b38 b39 _ _ _ _ _ _ _ _ _ _ _ _ _ _ _ _ _ _ _ _ _ _ _ _ _ _ _ _ _ _ _ _ _ _ _ _ _ _ _ { HTH.out with h7 := fun _ => rfl })
    | 8, _, hi, hib =>
      have d7 : b7 = true := ready_dep hi rfl 7 (by kernel_rfl)
      have hd7 := HT.h7 d7
      subst hd7
      clear HT
      refine wpOp_one rfl rfl (fun K hK => ?_)
      go_simp
      exact hK.out _ _ (.mk b0 b1 b2 b3 b4 b5 b6 b7 true b9 b10 b11 b12 b13 b14 b15 b16 b17 b18 b19 b20 b21 b22 b23 b24 b25 b26 b27 b28 b29 b30 b31 b32 b33 b34 b35 b36 b37 b38 b39 _ _ _ _ _ _ _ _ _ _ _ _ _ _ _ _ _ _ _ _ _ _ _ _ _ _ _ _ _ _ _ _ _ _ _ _ _ _ _ { HTH.out with h8 := fun _ => rfl })
    | 9, _, hi, hib =>
      clear HT
      refine wpOp_one rfl rfl (fun K hK => ?_)
      go_simp
      exact hK.out _ _ (.mk b0 b1 b2 b3 b4 b5 b6 b7 b8 true b10 b11 b12 b13 b14 b15 b16 b17 b18 b19 b20 b21 b22 b23 b24 b25 b26 b27 b28 b29 b30 b31 b32 b33 b34 b35 b36 b37 b38 b39 _ _ _ _ _ _ _ _ _ _ _ _ _ _ _ _ _ _ _ _ _ _ _ _ _ _ _ _ _ _ _ _ _ _ _ _ _ _ _ { HTH.out with h9 := fun _ => rfl })
    | 10, _, hi, hib =>
      clear HT
      refine wpOp_one rfl rfl (fun K hK => ?_)
      go_simp
      exact hK.out _ _ (.mk b0 b1 b2 b3 b4 b5 b6 b7 b8 b9 true b11 b12 b13 b14 b15 b16 b17 b18 b19 b20 b21 b22 b23 b24 b25 b26 b27 b28 b29 b30 b31 b32 b33 b34 b35 b36 b37 b38 b39 _ _ _ _ _ _ _ _ _ _ _ _ _ _ _ _ _ _ _ _ _ _ _ _ _ _ _ _ _ _ _ _ _ _ _ _ _ _ _ { HTH.out with h10 := fun _ => rfl })
    | 11, _, hi, hib =>
      have d10 : b10 = true := ready_dep hi rfl 10 (by kernel_rfl)
      have hd10 := HT.h10 d10
      subst hd10
      clear HT
      refine wpOp_one rfl rfl (fun K hK => ?_)
      go_simp
      exact hK.out _ _ (.mk b0 b1 b2 b3 b4 b5 b6 b7 b8 b9 b10 true b12 b13 b14 b15 b16 b17 b18 b19 b20 b21 b22 b23 b24 b25 b26 b27 b28 b29 b30 b31 b32 b33 b34 b35 b36 b37 b38 b39 _ _ _ _ _ _ _ _ _ _ _ _ _ _ _ _ _ _ _ _ _ _ _ _ _ _ _ _ _ _ _ _ _ _ _ _ _ _ _ { HTH.out with h11 := fun _ => rfl })
    | 12, _, hi, hib =>
      have d11 : b11 = true := ready_dep hi rfl 11 (by kernel_rfl)
      have hd11 := HT.h11 d11
      subst hd11
      clear HT
      refine wpOp_one rfl rfl (fun K hK => ?_)
      go_simp
      exact hK.out _ _ (.mk b0 b1 b2 b3 b4 b5 b6 b7 b8 b9 b10 b11 true b13 b14 b15 b16 b17 b18 b19 b20 b21 b22 b23 b24 b25 b26 b27 b28 b29 b30 b31 b32 b33 b34 b35 b36 b37 b38 b39 _ _ _ _ _ _ _ _ _ _ _ _ _ _ _ _ _ _ _ _ _ _ _ _ _ _ _ _ _ _ _ _ _ _ _ _ _ _ _ { HTH.out with h12 := fun _ => rfl })
    | 13, _, hi, hib =>
      have d12 : b12 = true := ready_dep hi rfl 12 (by kernel_rfl)
      have hd12 := HT.h12 d12
      subst hd12
      clear HT
      refine wpOp_one rfl rfl (fun K hK => ?_)
      go_simp
      exact hK.out _ _ (.mk b0 b1 b2 b3 b4 b5 b6 b7 b8 b9 b10 b11 b12 true b14 b15 b16 b17 b18 b19 b20 b21 b22 b23 b24 b25 b26 b27 b28 b29 b30 b31 b32 b33 b34 b35 b36 b37 b38 b39 _ _ _ _ _ _ _ _ _ _ _ _ _ _ _ _ _ _ _ _ _ _ _ _ _ _ _ _ _ _ _ _ _ _ _ _ _ _ _ { HTH.out with h13 := fun _ => rfl })
    | 14, _, hi, hib =>
      clear HT
      refine wpOp_one rfl rfl (fun K hK => ?_)
      go_simp
      exact hK.out _ _ (.mk b0 b1 b2 b3 b4 b5 b6 b7 b8 b9 b10 b11 b12 b13 true b15 b16 b17 b18 b19 b20 b21 b22 b23 b24 b25 b26 b27 b28 b29 b30 b31 b32 b33 b34 b35 b36 b37 b38 b39 _ _ _ _ _ _ _ _ _ _ _ _ _ _ _ _ _ _ _ _ _ _ _ _ _ _ _ _ _ _ _ _ _ _ _ _ _ _ _ { HTH.out with h14 := fun _ => rfl })
    | 15, _, hi, hib =>
      have d13 : b13 = true := ready_dep hi rfl 13 (by kernel_rfl)
      have hd13 := HT.h13 d13
      subst hd13
      have d14 : b14 = true := ready_dep hi rfl 14 (by kernel_rfl)
      have hd14 := HT.h14 d14
      subst hd14
      clear HT
      refine wpOp_one rfl rfl (fun K hK => ?_)
      go_simp
      exact hK.out _ _ (.mk b0 b1 b2 b3 b4 b5 b6 b7 b8 b9 b10 b11 b12 b13 b14 true b16 b17 b18 b19 b20 b21 b22 b23 b24 b25 b26 b27 b28 b29 b30 b31 b32 b33 b34 b35 b36 b37 b38 b39 _ _ _ _ _ _ _ _ _ _ _ _ _ _ _ _ _ _ _ _ _ _ _ _ _ _ _ _ _ _ _ _ _ _ _ _ _ _ _ { HTH.out with h15 := fun _ => rfl })
    | 16, _, hi, hib =>
      have d15 : b15 = true := ready_dep hi rfl 15 (by kernel_rfl)
      have hd15 := HT.h15 d15
      subst hd15
      clear HT
      refine wpOp_one rfl rfl (fun K hK => ?_)
      go_simp
      exact hK.out _ _ (.mk b0 b1 b2 b3 b4 b5 b6 b7 b8 b9 b10 b11 b12 b13 b14 b15 true b17 b18 b19 b20 b21 b22 b23 b24 b25 b26 b27 b28 b29 b30 b31 b32 b33 b34 b35 b36 b37 b38 b39 _ _ _ _ _ _ _ _ _ _ _ _ _ _ _ _ _ _ _ _ _ _ _ _ _ _ _ _ _ _ _ _ _ _ _ _ _ _ _ { HTH.out with h16 := fun _ => rfl })
    | 17, _, hi, hib =>
      have d16 : b16 = true := ready_dep hi rfl 16 (by kernel_rfl)
      have hd16 := HT.h16 d16
      subst hd16
      have e36 : b36 = false := by
        cases hb36 : b36 with
        | false => rfl
        | true => exact absurd (HT.s1 hb36).1 (by simpa using hib)
      have e39 : b39 = false := by
        cases hb39 : b39 with
        | false => rfl
        | true => have := HT.s2 hb39; rw [e36] at this; cases this
      subst e36 e39
      have hq1 : (cutW W0 W1 W2 false false).cell? ⟨g, p * 3 + 1, none⟩ = some (.slice xP xn xc) := r1
      clear HT
      refine wpOp_one rfl rfl (fun K hK => ?_)
      go_simp
      exact hK.out _ _ (.mk b0 b1 b2 b3 b4 b5 b6 b7 b8 b9 b10 b11 b12 b13 b14 b15 b16 true b18 b19 b20 b21 b22 b23 b24 b25 b26 b27 b28 b29 b30 b31 b32 b33 b34 b35 false b37 b38 false _ _ _ _ _ _ _ _ _ _ _ _ _ _ _ _ _ _ _ _ _ _ _ _ _ _ _ _ _ _ _ _ _ _ _ _ _ _ _ { HTH.out with h17 := fun _ => rfl, s1 := nofun })
    | 18, _, hi, hib =>
      clear HT
      refine wpOp_one rfl rfl (fun K hK => ?_)
      go_simp
      exact hK.out _ _ (.mk b0 b1 b2 b3 b4 b5 b6 b7 b8 b9 b10 b11 b12 b13 b14 b15 b16 b17 true b19 b20 b21 b22 b23 b24 b25 b26 b27 b28 b29 b30 b31 b32 b33 b34 b35 b36 b37 b38 b39 _ _ _ _ _ _ _ _ _ _ _ _ _ _ _ _ _ _ _ _ _ _ _ _ _ _ _ _ _ _ _ _ _ _ _ _ _ _ _ { HTH.out with h18 := fun _ => rfl })
    | 19, _, hi, hib =>
      have d18 : b18 = true := ready_dep hi rfl 18 (by kernel_rfl)
      have hd18 := HT.h18 d18
      subst hd18
      clear HT
      refine wpOp_one rfl rfl (fun K hK => ?_)
      go_simp
      exact hK.out _ _ (.mk b0 b1 b2 b3 b4 b5 b6 b7 b8 b9 b10 b11 b12 b13 b14 b15 b16 b17 b18 true b20 b21 b22 b23 b24 b25 b26 b27 b28 b29 b30 b31 b32 b33 b34 b35 b36 b37 b38 b39 _ _ _ _ _ _ _ _ _ _ _ _ _ _ _ _ _ _ _ _ _ _ _ _ _ _ _ _ _ _ _ _ _ _ _ _ _ _ _ { HTH.out with h19 := fun _ => rfl })
    | 20, _, hi, hib =>
      clear HT
      refine wpOp_one rfl rfl (fun K hK => ?_)
      go_simp
      exact hK.out _ _ (.mk b0 b1 b2 b3 b4 b5 b6 b7 b8 b9 b10 b11 b12 b13 b14 b15 b16 b17 b18 b19 true b21 b22 b23 b24 b25 b26 b27 b28 b29 b30 b31 b32 b33 b34 b35 b36 b37 b38 b39 _ _ _ _ _ _ _ _ _ _ _ _ _ _ _ _ _ _ _ _ _ _ _ _ _ _ _ _ _ _ _ _ _ _ _ _ _ _ _ { HTH.out with h20 := fun _ => rfl })
    | 21, _, hi, hib =>
      have d20 : b20 = true := ready_dep hi rfl 20 (by kernel_rfl)
      have hd20 := HT.h20 d20
      subst hd20
      clear HT
      refine wpOp_one rfl rfl (fun K hK => ?_)
      go_simp
      exact hK.out _ _ (.mk b0 b1 b2 b3 b4 b5 b6 b7 b8 b9 b10 b11 b12 b13 b14 b15 b16 b17 b18 b19 b20 true b22 b23 b24 b25 b26 b27 b28 b29 b30 b31 b32 b33 b34 b35 b36 b37 b38 b39 _ _ _ _ _ _ _ _ _ _ _ _ _ _ _ _ _ _ _ _ _ _ _ _ _ _ _ _ _ _ _ _ _ _ _ _ _ _ _ { HTH.out with h21 := fun _ => rfl })
    | 22, _, hi, hib =>
      have d17 : b17 = true := ready_dep hi rfl 17 (by kernel_rfl)
      have hd17 := HT.h17 d17
      subst hd17
      have d19 : b19 = true := ready_dep hi rfl 19 (by kernel_rfl)
      have hd19 := HT.h19 d19
      subst hd19
      have d21 : b21 = true := ready_dep hi rfl 21 (by kernel_rfl)
      have hd21 := HT.h21 d21
      subst hd21
      clear HT
      refine wpOp_one rfl rfl (fun K hK => ?_)
      go_simp
      exact hK.out _ _ (.mk b0 b1 b2 b3 b4 b5 b6 b7 b8 b9 b10 b11 b12 b13 b14 b15 b16 b17 b18 b19 b20 b21 true b23 b24 b25 b26 b27 b28 b29 b30 b31 b32 b33 b34 b35 b36 b37 b38 b39 _ _ _ _ _ _ _ _ _ _ _ _ _ _ _ _ _ _ _ _ _ _ _ _ _ _ _ _ _ _ _ _ _ _ _ _ _ _ _ { HTH.out with h22 := fun _ => rfl })
    | 23, _, hi, hib =>
      clear HT
      refine wpOp_one rfl rfl (fun K hK => ?_)
      go_simp
      exact hK.out _ _ (.mk b0 b1 b2 b3 b4 b5 b6 b7 b8 b9 b10 b11 b12 b13 b14 b15 b16 b17 b18 b19 b20 b21 b22 true b24 b25 b26 b27 b28 b29 b30 b31 b32 b33 b34 b35 b36 b37 b38 b39 _ _ _ _ _ _ _ _ _ _ _ _ _ _ _ _ _ _ _ _ _ _ _ _ _ _ _ _ _ _ _ _ _ _ _ _ _ _ _ { HTH.out with h23 := fun _ => rfl })
    | 24, _, hi, hib =>
      have d23 : b23 = true := ready_dep hi rfl 23 (by kernel_rfl)
      have hd23 := HT.h23 d23
      subst hd23
      clear HT
      refine wpOp_one rfl rfl (fun K hK => ?_)
      go_simp
      exact hK.out _ _ (.mk b0 b1 b2 b3 b4 b5 b6 b7 b8 b9 b10 b11 b12 b13 b14 b15 b16 b17 b18 b19 b20 b21 b22 b23 true b25 b26 b27 b28 b29 b30 b31 b32 b33 b34 b35 b36 b37 b38 b39 _ _ _ _ _ _ _ _ _ _ _ _ _ _ _ _ _ _ _ _ _ _ _ _ _ _ _ _ _ _ _ _ _ _ _ _ _ _ _ { HTH.out with h24 := fun _ => rfl })
    | 25, _, hi, hib =>
      have d24 : b24 = true := ready_dep hi rfl 24 (by kernel_rfl)
      have hd24 := HT.h24 d24
      subst hd24
      clear HT
      refine wpOp_one rfl rfl (fun K hK => ?_)
      go_simp
      exact hK.out _ _ (.mk b0 b1 b2 b3 b4 b5 b6 b7 b8 b9 b10 b11 b12 b13 b14 b15 b16 b17 b18 b19 b20 b21 b22 b23 b24 true b26 b27 b28 b29 b30 b31 b32 b33 b34 b35 b36 b37 b38 b39 _ _ _ _ _ _ _ _ _ _ _ _ _ _ _ _ _ _ _ _ _ _ _ _ _ _ _ _ _ _ _ _ _ _ _ _ _ _ _ { HTH.out with h25 := fun _ => rfl })
    | 26, _, hi, hib =>
      have d25 : b25 = true := ready_dep hi rfl 25 (by kernel_rfl)
      have hd25 := HT.h25 d25
      subst hd25
      clear HT
      refine wpOp_one rfl rfl (fun K hK => ?_)
      go_simp
      exact hK.out _ _ (.mk b0 b1 b2 b3 b4 b5 b6 b7 b8 b9 b10 b11 b12 b13 b14 b15 b16 b17 b18 b19 b20 b21 b22 b23 b24 b25 true b27 b28 b29 b30 b31 b32 b33 b34 b35 b36 b37 b38 b39 _ _ _ _ _ _ _ _ _ _ _ _ _ _ _ _ _ _ _ _ _ _ _ _ _ _ _ _ _ _ _ _ _ _ _ _ _ _ _ { HTH.out with h26 := fun _ => rfl })
    | 27, _, hi, hib =>
      clear HT
      refine wpOp_one rfl rfl (fun K hK => ?_)
      go_simp
      exact hK.out _ _ (.mk b0 b1 b2 b3 b4 b5 b6 b7 b8 b9 b10 b11 b12 b13 b14 b15 b16 b17 b18 b19 b20 b21 b22 b23 b24 b25 b26 true b28 b29 b30 b31 b32 b33 b34 b35 b36 b37 b38 b39 _ _ _ _ _ _ _ _ _ _ _ _ _ _ _ _ _ _ _ _ _ _ _ _ _ _ _ _ _ _ _ _ _ _ _ _ _ _ _ { HTH.out with h27 := fun _ => rfl })
    | 28, _, hi, hib =>
      have d26 : b26 = true := ready_dep hi rfl 26 (by kernel_rfl)
      have hd26 := HT.h26 d26
      subst hd26
      have d27 : b27 = true := ready_dep hi rfl 27 (by kernel_rfl)
      have hd27 := HT.h27 d27
      subst hd27
      clear HT
      refine wpOp_one rfl rfl (fun K hK => ?_)
      go_simp
      exact hK.out _ _ (.mk b0 b1 b2 b3 b4 b5 b6 b7 b8 b9 b10 b11 b12 b13 b14 b15 b16 b17 b18 b19 b20 b21 b22 b23 b24 b25 b26 b27 true b29 b30 b31 b32 b33 b34 b35 b36 b37 b38 b39 _ _ _ _ _ _ _ _ _ _ _ _ _ _ _ _ _ _ _ _ _ _ _ _ _ _ _ _ _ _ _ _ _ _ _ _ _ _ _ { HTH.out with h28 := fun _ => rfl })
    | 29, _, hi, hib =>
      have d28 : b28 = true := ready_dep hi rfl 28 (by kernel_rfl)
      have hd28 := HT.h28 d28
      subst hd28
      clear HT
      refine wpOp_one rfl rfl (fun K hK => ?_)
      go_simp
      exact hK.out _ _ (.mk b0 b1 b2 b3 b4 b5 b6 b7 b8 b9 b10 b11 b12 b13 b14 b15 b16 b17 b18 b19 b20 b21 b22 b23 b24 b25 b26 b27 b28 true b30 b31 b32 b33 b34 b35 b36 b37 b38 b39 _ _ _ _ _ _ _ _ _ _ _ _ _ _ _ _ _ _ _ _ _ _ _ _ _ _ _ _ _ _ _ _ _ _ _ _ _ _ _ { HTH.out with h29 := fun _ => rfl })
    | 30, _, hi, hib =>
      have d29 : b29 = true := ready_dep hi rfl 29 (by kernel_rfl)
      have hd29 := HT.h29 d29
      subst hd29
      have e36 : b36 = false := by
        cases hb36 : b36 with
        | false => rfl
        | true => exact absurd (HT.s1 hb36).2 (by simpa using hib)
      have e39 : b39 = false := by
        cases hb39 : b39 with
        | false => rfl
        | true => have := HT.s2 hb39; rw [e36] at this; cases this
      subst e36 e39
      have hq2 : (cutW W0 W1 W2 false false).cell? ⟨g, p * 3 + 2, none⟩ = some (.int .i64 (xs : Int)) := r2
      clear HT
      refine wpOp_one rfl rfl (fun K hK => ?_)
      go_simp
      exact hK.out _ _ (.mk b0 b1 b2 b3 b4 b5 b6 b7 b8 b9 b10 b11 b12 b13 b14 b15 b16 b17 b18 b19 b20 b21 b22 b23 b24 b25 b26 b27 b28 b29 true b31 b32 b33 b34 b35 false b37 b38 false _ _ _ _ _ _ _ _ _ _ _ _ _ _ _ _ _ _ _ _ _ _ _ _ _ _ _ _ _ _ _ _ _ _ _ _ _ _ _ { HTH.out with h30 := fun _ => rfl, s1 := nofun })
    | 31, _, hi, hib =>
      clear HT
      refine wpOp_one rfl rfl (fun K hK => ?_)
      go_simp
      exact hK.out _ _ (.mk b0 b1 b2 b3 b4 b5 b6 b7 b8 b9 b10 b11 b12 b13 b14 b15 b16 b17 b18 b19 b20 b21 b22 b23 b24 b25 b26 b27 b28 b29 b30 true b32 b33 b34 b35 b36 b37 b38 b39 _ _ _ _ _ _ _ _ _ _ _ _ _ _ _ _ _ _ _ _ _ _ _ _ _ _ _ _ _ _ _ _ _ _ _ _ _ _ _ { HTH.out with h31 := fun _ => rfl })
    | 32, _, hi, hib =>
      have d31 : b31 = true := ready_dep hi rfl 31 (by kernel_rfl)
      have hd31 := HT.h31 d31
      subst hd31
      clear HT
      refine wpOp_one rfl rfl (fun K hK => ?_)
      go_simp
      exact hK.out _ _ (.mk b0 b1 b2 b3 b4 b5 b6 b7 b8 b9 b10 b11 b12 b13 b14 b15 b16 b17 b18 b19 b20 b21 b22 b23 b24 b25 b26 b27 b28 b29 b30 b31 true b33 b34 b35 b36 b37 b38 b39 _ _ _ _ _ _ _ _ _ _ _ _ _ _ _ _ _ _ _ _ _ _ _ _ _ _ _ _ _ _ _ _ _ _ _ _ _ _ _ { HTH.out with h32 := fun _ => rfl })
    | 33, _, hi, hib =>
      have d30 : b30 = true := ready_dep hi rfl 30 (by kernel_rfl)
      have hd30 := HT.h30 d30
      subst hd30
      have d32 : b32 = true := ready_dep hi rfl 32 (by kernel_rfl)
      have hd32 := HT.h32 d32
      subst hd32
      clear HT
      refine wpOp_one rfl rfl (fun K hK => ?_)
      rcases hmn with ⟨hm1, hm3⟩ | ⟨hm1, hm3⟩
      · subst hm3
        go_simp
        exact hK.out _ _ (.mk b0 b1 b2 b3 b4 b5 b6 b7 b8 b9 b10 b11 b12 b13 b14 b15 b16 b17 b18 b19 b20 b21 b22 b23 b24 b25 b26 b27 b28 b29 b30 b31 b32 true b34 b35 b36 b37 b38 b39 _ _ _ _ _ _ _ _ _ _ _ _ _ _ _ _ _ _ _ _ _ _ _ _ _ _ _ _ _ _ _ _ _ _ _ _ _ _ _ { HTH.out with h33 := fun _ => by first | rfl | (rw [if_neg (by omega)]) })
      · subst hm3
        go_simp
        exact hK.out _ _ (.mk b0 b1 b2 b3 b4 b5 b6 b7 b8 b9 b10 b11 b12 b13 b14 b15 b16 b17 b18 b19 b20 b21 b22 b23 b24 b25 b26 b27 b28 b29 b30 b31 b32 true b34 b35 b36 b37 b38 b39 _ _ _ _ _ _ _ _ _ _ _ _ _ _ _ _ _ _ _ _ _ _ _ _ _ _ _ _ _ _ _ _ _ _ _ _ _ _ _ { HTH.out with h33 := fun _ => by first | rfl | (rw [if_pos (by omega)]) })
    | 34, _, hi, hib =>
      have d3 : b3 = true := ready_dep hi rfl 3 (by kernel_rfl)
      have hd3 := HT.h3 d3
      subst hd3
      have d4 : b4 = true := ready_dep hi rfl 4 (by kernel_rfl)
      have hd4 := HT.h4 d4
      subst hd4
      clear HT
      refine wpOp_one rfl rfl (fun K hK => ?_)
      go_simp
      exact hK.out _ _ (.mk b0 b1 b2 b3 b4 b5 b6 b7 b8 b9 b10 b11 b12 b13 b14 b15 b16 b17 b18 b19 b20 b21 b22 b23 b24 b25 b26 b27 b28 b29 b30 b31 b32 b33 true b35 b36 b37 b38 b39 _ _ _ _ _ _ _ _ _ _ _ _ _ _ _ _ _ _ _ _ _ _ _ _ _ _ _ _ _ _ _ _ _ _ _ _ _ _ _ { HTH.out with h34 := fun _ => rfl })
    | 35, _, hi, hib =>
      have d34 : b34 = true := ready_dep hi rfl 34 (by kernel_rfl)
      have hd34 := HT.h34 d34
      subst hd34
      clear HT
      refine wpOp_one rfl rfl (fun K hK => ?_)
      go_simp
      exact hK.out _ _ (.mk b0 b1 b2 b3 b4 b5 b6 b7 b8 b9 b10 b11 b12 b13 b14 b15 b16 b17 b18 b19 b20 b21 b22 b23 b24 b25 b26 b27 b28 b29 b30 b31 b32 b33 b34 true b36 b37 b38 b39 _ _ _ _ _ _ _ _ _ _ _ _ _ _ _ _ _ _ _ _ _ _ _ _ _ _ _ _ _ _ _ _ _ _ _ _ _ _ _ { HTH.out with h35 := fun _ => rfl })
    | 36, _, hi, hib =>
      have d35 : b35 = true := ready_dep hi rfl 35 (by kernel_rfl)
      have hd35 := HT.h35 d35
      subst hd35
      have d22 : b22 = true := ready_dep hi rfl 22 (by kernel_rfl)
      have hd22 := HT.h22 d22
      subst hd22
      have d17 : b17 = true := ready_dep hi rfl 17 (by kernel_rfl)
      have d30 : b30 = true := ready_dep hi rfl 30 (by kernel_rfl)
      have e36 : b36 = false := by simpa using hib
      have e39 : b39 = false := by
        cases hb39 : b39 with
        | false => rfl
        | true => have := HT.s2 hb39; rw [e36] at this; cases this
      subst e36 e39
      have hq1 : (cutW W0 W1 W2 false false).cell? ⟨g, p * 3 + 1, none⟩ = some (.slice xP xn xc) := r1
      have hqf : (cutW W0 W1 W2 false false).frozen? ⟨g, p * 3 + 1, none⟩ = false := hfz1
      clear HT
      refine wpOp_one rfl rfl (fun K hK => ?_)
      go_simp
      exact hK.out _ _ (.mk b0 b1 b2 b3 b4 b5 b6 b7 b8 b9 b10 b11 b12 b13 b14 b15 b16 b17 b18 b19 b20 b21 b22 b23 b24 b25 b26 b27 b28 b29 b30 b31 b32 b33 b34 b35 true b37 b38 false _ _ _ _ _ _ _ _ _ _ _ _ _ _ _ _ _ _ _ _ _ _ _ _ _ _ _ _ _ _ _ _ _ _ _ _ _ _ _ { HTH.out with hw := HW1.out.symm, s1 := fun _ => ⟨d17, d30⟩, s2 := nofun })
    | 37, _, hi, hib =>
      have d8 : b8 = true := ready_dep hi rfl 8 (by kernel_rfl)
      have hd8 := HT.h8 d8
      subst hd8
      have d9 : b9 = true := ready_dep hi rfl 9 (by kernel_rfl)
      have hd9 := HT.h9 d9
      subst hd9
      clear HT
      refine wpOp_one rfl rfl (fun K hK => ?_)
      go_simp
      exact hK.out _ _ (.mk b0 b1 b2 b3 b4 b5 b6 b7 b8 b9 b10 b11 b12 b13 b14 b15 b16 b17 b18 b19 b20 b21 b22 b23 b24 b25 b26 b27 b28 b29 b30 b31 b32 b33 b34 b35 b36 true b38 b39 _ _ _ _ _ _ _ _ _ _ _ _ _ _ _ _ _ _ _ _ _ _ _ _ _ _ _ _ _ _ _ _ _ _ _ _ _ _ _ { HTH.out with h37 := fun _ => rfl })
    | 38, _, hi, hib =>
      have d37 : b37 = true := ready_dep hi rfl 37 (by kernel_rfl)
      have hd37 := HT.h37 d37
      subst hd37
      clear HT
      refine wpOp_one rfl rfl (fun K hK => ?_)
      go_simp
      exact hK.out _ _ (.mk b0 b1 b2 b3 b4 b5 b6 b7 b8 b9 b10 b11 b12 b13 b14 b15 b16 b17 b18 b19 b20 b21 b22 b23 b24 b25 b26 b27 b28 b29 b30 b31 b32 b33 b34 b35 b36 b37 true b39 _ _ _ _ _ _ _ _ _ _ _ _ _ _ _ _ _ _ _ _ _ _ _ _ _ _ _ _ _ _ _ _ _ _ _ _ _ _ _ { HTH.out with h38 := fun _ => rfl })
    | 39, _, hi, hib =>
      have d38 : b38 = true := ready_dep hi rfl 38 (by kernel_rfl)
      have hd38 := HT.h38 d38
      subst hd38
      have d33 : b33 = true := ready_dep hi rfl 33 (by kernel_rfl)
      have hd33 := HT.h33 d33
      subst hd33
      have e36 : b36 = true := ready_dep hi rfl 36 (by kernel_rfl)
      have e39 : b39 = false := by simpa using hib
      subst e36 e39
      have hq2 : (cutW W0 W1 W2 true false).cell? ⟨g, p * 3 + 2, none⟩ = some (.int .i64 (xs : Int)) := r2'
      have hqf : (cutW W0 W1 W2 true false).frozen? ⟨g, p * 3 + 2, none⟩ = false := hfz2'
      clear HT
      refine wpOp_one rfl rfl (fun K hK => ?_)
      go_simp
      exact hK.out _ _ (.mk b0 b1 b2 b3 b4 b5 b6 b7 b8 b9 b10 b11 b12 b13 b14 b15 b16 b17 b18 b19 b20 b21 b22 b23 b24 b25 b26 b27 b28 b29 b30 b31 b32 b33 b34 b35 true b37 b38 true _ _ _ _ _ _ _ _ _ _ _ _ _ _ _ _ _ _ _ _ _ _ _ _ _ _ _ _ _ _ _ _ _ _ _ _ _ _ _ { HTH.out with hw := HW2.out.symm, s2 := fun _ => rfl })
  case fin =>
    rintro lq a' w' ⟨b0, b1, b2, b3, b4, b5, b6, b7, b8, b9, b10, b11, b12, b13, b14, b15, b16, b17, b18, b19, b20, b21, b22, b23, b24, b25, b26, b27, b28, b29, b30, b31, b32, b33, b34, b35, b36, b37, b38, b39, v68, v69, v70, v71, v72, v73, v74, v75, v76, v77, v78, v79, v80, v81, v82, v83, v84, v85, v86, v87, v88, v89, v90, v91, v92, v93, v94, v95, v96, v97, v98, v99, v100, v101, v102, v103, v104, v105, _, HT⟩ hr
    obtain rfl := HT.hw
    obtain rfl : b0 = true := by
      cases b0 with
      | true => rfl
      | false => exact (ready_in 0 rfl rfl (by simp [Region.binds]) hr).elim
    obtain rfl : b1 = true := by
      cases b1 with
      | true => rfl
      | false => exact (ready_in 1 rfl rfl (by simp [Region.binds]) hr).elim
    obtain rfl : b2 = true := by
      cases b2 with
      | true => rfl
      | false => exact (ready_in 2 rfl rfl (by simp [Region.binds]) hr).elim
    obtain rfl : b3 = true := by
      cases b3 with
      | true => rfl
      | false => exact (ready_in 3 rfl rfl (by simp [Region.binds]) hr).elim
    obtain rfl : b4 = true := by
      cases b4 with
      | true => rfl
      | false => exact (ready_in 4 rfl rfl (by simp [Region.binds]) hr).elim
    obtain rfl : b5 = true := by
      cases b5 with
      | true => rfl
      | false => exact (ready_in 5 rfl rfl (by simp [Region.binds]) hr).elim
    obtain rfl : b6 = true := by
      cases b6 with
      | true => rfl
      | false => exact (ready_in 6 rfl rfl (by simp [Region.binds]) hr).elim
    obtain rfl : b7 = true := by
      cases b7 with
      | true => rfl
      | false => exact (ready_in 7 rfl rfl (by simp [Region.binds]) hr).elim
    obtain rfl : b8 = true := by
      cases b8 with
      | true => rfl
      | false => exact (ready_in 8 rfl rfl (by simp [Region.binds]) hr).elim
    obtain rfl : b9 = true := by
      cases b9 with
      | true => rfl
      | false => exact (ready_in 9 rfl rfl (by simp [Region.binds]) hr).elim
    obtain rfl : b10 = true := by
      cases b10 with
      | true => rfl
      | false => exact (ready_in 10 rfl rfl (by simp [Region.binds]) hr).elim
    obtain rfl : b11 = true := by
      cases b11 with
      | true => rfl
      | false => exact (ready_in 11 rfl rfl (by simp [Region.binds]) hr).elim
    obtain rfl : b12 = true := by
      cases b12 with
      | true => rfl
      | false => exact (ready_in 12 rfl rfl (by simp [Region.binds]) hr).elim
    obtain rfl : b13 = true := by
      cases b13 with
      | true => rfl
      | false => exact (ready_in 13 rfl rfl (by simp [Region.binds]) hr).elim
    obtain rfl : b14 = true := by
      cases b14 with
      | true => rfl
      | false => exact (ready_in 14 rfl rfl (by simp [Region.binds]) hr).elim
    obtain rfl : b15 = true := by
      cases b15 with
      | true => rfl
      | false => exact (ready_in 15 rfl rfl (by simp [Region.binds]) hr).elim
    obtain rfl : b16 = true := by
      cases b16 with
      | true => rfl
      | false => exact (ready_in 16 rfl rfl (by simp [Region.binds]) hr).elim
    obtain rfl : b17 = true := by
      cases b17 with
      | true => rfl
      | false => exact (ready_in 17 rfl rfl (by simp [Region.binds]) hr).elim
    obtain rfl : b18 = true := by
      cases b18 with
      | true => rfl
      | false => exact (ready_in 18 rfl rfl (by simp [Region.binds]) hr).elim
    obtain rfl : b19 = true := by
      cases b19 with
      | true => rfl
      | false => exact (ready_in 19 rfl rfl (by simp [Region.binds]) hr).elim
    obtain rfl : b20 = true := by
      cases b20 with
      | true => rfl
      | false => exact (ready_in 20 rfl rfl (by simp [Region.binds]) hr).elim
    obtain rfl : b21 = true := by
      cases b21 with
      | true => rfl
      | false => exact (ready_in 21 rfl rfl (by simp [Region.binds]) hr).elim
    obtain rfl : b22 = true := by
      cases b22 with
      | true => rfl
      | false => exact (ready_in 22 rfl rfl (by simp [Region.binds]) hr).elim
    obtain rfl : b23 = true := by
      cases b23 with
      | true => rfl
      | false => exact (ready_in 23 rfl rfl (by simp [Region.binds]) hr).elim
    obtain rfl : b24 = true := by
      cases b24 with
      | true => rfl
      | false => exact (ready_in 24 rfl rfl (by simp [Region.binds]) hr).elim
    obtain rfl : b25 = true := by
      cases b25 with
      | true => rfl
      | false => exact (ready_in 25 rfl rfl (by simp [Region.binds]) hr).elim
    obtain rfl : b26 = true := by
      cases b26 with
      | true => rfl
      | false => exact (ready_in 26 rfl rfl (by simp [Region.binds]) hr).elim
    obtain rfl : b27 = true := by
      cases b27 with
      | true => rfl
      | false => exact (ready_in 27 rfl rfl (by simp [Region.binds]) hr).elim
    obtain rfl : b28 = true := by
      cases b28 with
      | true => rfl
      | false => exact (ready_in 28 rfl rfl (by simp [Region.binds]) hr).elim
    obtain rfl : b29 = true := by
      cases b29 with
      | true => rfl
      | false => exact (ready_in 29 rfl rfl (by simp [Region.binds]) hr).elim
    obtain rfl : b30 = true := by
      cases b30 with
      | true => rfl
      | false => exact (ready_in 30 rfl rfl (by simp [Region.binds]) hr).elim
    obtain rfl : b31 = true := by
      cases b31 with
      | true => rfl
      | false => exact (ready_in 31 rfl rfl (by simp [Region.binds]) hr).elim
    obtain rfl : b32 = true := by
      cases b32 with
      | true => rfl
      | false => exact (ready_in 32 rfl rfl (by simp [Region.binds]) hr).elim
    obtain rfl : b33 = true := by
      cases b33 with
      | true => rfl
      | false => exact (ready_in 33 rfl rfl (by simp [Region.binds]) hr).elim
    obtain rfl : b34 = true := by
      cases b34 with
      | true => rfl
      | false => exact (ready_in 34 rfl rfl (by simp [Region.binds]) hr).elim
    obtain rfl : b35 = true := by
      cases b35 with
      | true => rfl
      | false => exact (ready_in 35 rfl rfl (by simp [Region.binds]) hr).elim
    obtain rfl : b36 = true := by
      cases b36 with
      | true => rfl
      | false => exact (ready_in 36 rfl rfl (by simp [Region.binds]) hr).elim
    obtain rfl : b37 = true := by
      cases b37 with
      | true => rfl
      | false => exact (ready_in 37 rfl rfl (by simp [Region.binds]) hr).elim
    obtain rfl : b38 = true := by
      cases b38 with
      | true => rfl
      | false => exact (ready_in 38 rfl rfl (by simp [Region.binds]) hr).elim
    obtain rfl : b39 = true := by
      cases b39 with
      | true => rfl
      | false => exact (ready_in 39 rfl rfl (by simp [Region.binds]) hr).elim
    have k0 := HT.h0 rfl
    subst k0
    have k1 := HT.h1 rfl
    subst k1
    have k2 := HT.h2 rfl
    subst k2
    have k3 := HT.h3 rfl
    subst k3
    have k4 := HT.h4 rfl
    subst k4
    have k5 := HT.h5 rfl
    subst k5
    have k6 := HT.h6 rfl
    subst k6
    have k7 := HT.h7 rfl
    subst k7
    have k8 := HT.h8 rfl
    subst k8
    have k9 := HT.h9 rfl
    subst k9
    have k10 := HT.h10 rfl
    subst k10
    have k11 := HT.h11 rfl
    subst k11
    have k12 := HT.h12 rfl
    subst k12
    have k13 := HT.h13 rfl
    subst k13
    have k14 := HT.h14 rfl
    subst k14
    have k15 := HT.h15 rfl
    subst k15
    have k16 := HT.h16 rfl
    subst k16
    have k17 := HT.h17 rfl
    subst k17
    have k18 := HT.h18 rfl
    subst k18
    have k19 := HT.h19 rfl
    subst k19
    have k20 := HT.h20 rfl
    subst k20
    have k21 := HT.h21 rfl
    subst k21
    have k22 := HT.h22 rfl
    subst k22
    have k23 := HT.h23 rfl
    subst k23
    have k24 := HT.h24 rfl
    subst k24
    have k25 := HT.h25 rfl
    subst k25
    have k26 := HT.h26 rfl
    subst k26
    have k27 := HT.h27 rfl
    subst k27
    have k28 := HT.h28 rfl
    subst k28
    have k29 := HT.h29 rfl
    subst k29
    have k30 := HT.h30 rfl
    subst k30
    have k31 := HT.h31 rfl
    subst k31
    have k32 := HT.h32 rfl
    subst k32
    have k33 := HT.h33 rfl
    subst k33
    have k34 := HT.h34 rfl
    subst k34
    have k35 := HT.h35 rfl
    subst k35
    have k37 := HT.h37 rfl
    subst k37
    have k38 := HT.h38 rfl
    subst k38
    clear HT hr
    have HCW : Hid (cutW W0 W1 W2 true true = W2) := Lib.hid rfl
    rw [HCW.out, HW2.out, HW1.out, HW0.out]
    have HCF := Lib.hid (cut_fin (mn := mn) HT2.out hp (xn := xn) (P := xP) (bs := xbs) (by rw [← HX.out]) (by rw [← HX.out]) (by rw [← HX.out]) HQ)
    clear r1 r2 r2' hfz1 hfz2' ctb cob HCW
    go_wp2_with fail
    go_ret
    rw [← HX.out]
    simp only
    rw [← HMN.out]
    exact ⟨rfl, HCF.out.1, (HF2.out.weak (fun b hb => .inl hb)).trans HCF.out.2 (fun b hb => .inl hb)⟩
set_option maxHeartbeats 40000000 in
theorem other_rem (h : TnB w M B0 tb A c n L) (hL : L.length ≤ 100000) (ho : n.off = false) {p : Nat} (hp : p < L.length) (hf : findT L nm L.length = some p) (hn : (tfAt L p).n ≤ 100000000) (hk8 : kd ≠ 8) (hk2 : kd ≠ 2) (HQ : (tfAt L p).n ≤ (tfAt L p).n) (hng : (n.armed && n.left == 0) = false)
    (hl0 : n.armed = true → 0 ≤ n.left) (hl1 : n.left ≤ 9223372036854775807) (hM : ∀ b, M b → b < w.heap.size) (hB0 : B0 ≤ w.heap.size) :
    Calls Try.prog 14 #[.pointer (some ⟨tb, 0, none⟩), opVal kd nm k dA dn dc kA kn kc] w fun e w' => e = .returned (.int .i64 0) ∧ ∃ A' c', TnB w' M B0 tb A' c' (tgd n) (L.take p ++ L.drop (p + 1)) ∧ Fr w w' (Tm tb A) ∧ (∀ b, Tm tb A' b → Tm tb A b ∨ w.heap.size ≤ b) := by
  have HNG := Lib.hid hng
  clear hng
  have c4 := h.tn.c4
  rw [ho] at c4
  have htl := block_lt_of_cell c4
  have HT := Lib.hid h
  have HFF := Lib.hid hf
  have HMM := Lib.hid hM
  clear h hf hM
  unfold opVal
  go_enter Try.func14, Try.ntmps14
  go_wp2_with fail
  refine (find_tw (HT.out.tn.below ((Below.refl _ w).alloc (Nat.le_refl _) _)) (by omega) nm).mono ?_
  rintro e w1 ⟨rfl, hb⟩
  have HB : Hid (Below w.heap.size w w1) := Lib.hid (((Below.refl _ w).alloc (Nat.le_refl _) _).trans (hb.mono (by simp)))
  have HT1 := Lib.hid (HT.out.below HB.out)
  have c41 := (HB.out.cell (p := ⟨tb, 4, none⟩) htl).trans c4
  have o0 := (hb.cell (p := ⟨w.heap.size, 0, none⟩) (by simp)).trans (show _ = some (.int .i64 kd) by simp)
  have o2 := (hb.cell (p := ⟨w.heap.size, 2, none⟩) (by simp)).trans (show _ = some (.int .i64 k) by simp)
  have hob : w.heap.size < w1.heap.size := Nat.lt_of_lt_of_le (by simp) hb.size
  clear hb c4
  rw [HFF.out, show fndI (some p) = (p : Int) from rfl]
  obtain ⟨g, rfl, hg, r0, r1, r2⟩ := HT1.out.tn.row p hp
  have hogn : w.heap.size ≠ g := fun e => by have := (HT.out.alt g rfl).2; omega
  have c01 := HT1.out.tn.c0
  have htl1 := HT1.out.tlt
  have hgl := block_lt_of_cell r1
  have hp0 : (p : Int) < (L.length : Int) := by omega
  have dp : decide ((p : Int) < 0) = false := by simp
  obtain ⟨X, hX⟩ : ∃ X, X = tfAt L p := ⟨_, rfl⟩
  obtain ⟨k1, k2, k3⟩ := HT1.out.rd _ (tfAt_mem hp)
  rw [← hX] at r0 r1 r2 hn k1 k2 k3 HQ
  have HX := Lib.hid hX
  have HK1 := Lib.hid k1
  have HK2 := Lib.hid k2
  have HK3 := Lib.hid k3
  clear hX k1 k2 k3
  obtain ⟨xnm, xP, xn, xc, xbs, xs⟩ := X
  simp only at r0 r1 r2 hn HK1 HK2 HK3 HQ
  have dk8 : (kd == 8) = false := beq_eq_false_iff_ne.2 hk8
  have dk2 : (kd == 2) = false := beq_eq_false_iff_ne.2 hk2
  go_wp2_with fail
  go_quiet (fail)
  rename_i nq
  have HG2 := Lib.hid (goes_tw (HT1.out.below (below_drewN (Below.refl _ w1) nq)).tn hl0 hl1)
  rw [HNG.out] at HG2
  go_wp2_with fail
  refine HG2.out.mono ?_
  rintro e w2 ⟨rfl, ht2, hf2⟩
  have HT2 := Lib.hid ((HT1.out.below (below_drewN (Below.refl _ w1) nq)).nums hf2 ht2.cells)
  have HF2 : Hid (Fr w w2 (fun b => b = tb)) := Lib.hid (Fr.of_below_then (HB.out.trans ((below_drewN (Below.refl _ w1) nq).mono HB.out.size)) hf2)
  have hbl2 : Below w1.heap.size w1 w1 := Below.refl _ _
  have o02 := (World.cell?_of_block (w := w1.drewN nq) (a := ⟨w.heap.size, 0, none⟩) (hf2.block _ hob (by show w.heap.size ≠ tb; omega))).trans o0
  have o22 := (World.cell?_of_block (w := w1.drewN nq) (a := ⟨w.heap.size, 2, none⟩) (hf2.block _ hob (by show w.heap.size ≠ tb; omega))).trans o2
  clear ht2 hf2 hbl2 o0 o2 r0 r1 r2 c01 c41
  obtain ⟨g', hg', _, r0, r1, r2⟩ := HT2.out.tn.row p hp
  injection hg' with hg'
  injection hg' with hg1 _ _
  subst hg1
  rw [← HX.out] at r0 r1 r2
  simp only at r0 r1 r2
  have c02 := HT2.out.tn.c0
  have htl2 := HT2.out.tlt
  have hgl2 := block_lt_of_cell r1
  have hfz := HT2.out.tn.fz 0
  have hrd := rdF_from HT2.out.tno.own (i := p + 1)
  have hpa : (0 : Int) ≤ (p : Int) + 1 := by omega
  have hpb : (p : Int) + 1 ≤ (L.length : Int) := by omega
  obtain ⟨hst, hrt⟩ := sliceF_pre HT2.out.tno.own (i := p) (by omega)
  obtain ⟨Ld, hLd⟩ : ∃ Ld, Ld = L.drop (p + 1) := ⟨_, rfl⟩
  obtain ⟨Lt, hLt⟩ : ∃ Lt, Lt = L.take p := ⟨_, rfl⟩
  rw [← hLd] at hrd
  have hdl : Ld.length = L.length - (p + 1) := by rw [hLd, List.length_drop]
  rw [← hLt] at hst hrt
  have hld : Ld.length ≤ 100000 := by rw [hLd, List.length_drop]; omega
  have hlt' : Lt.length ≤ 100000 := by rw [hLt, List.length_take]; omega
  have HRD := Lib.hid hrd
  have HRT := Lib.hid hrt
  have HLD := Lib.hid hLd
  have HLT := Lib.hid hLt
  clear hrd hrt hLd hLt
  have hp1 : IntKind.i64.wrap ((p : Int) + 1) = ((p + 1 : Nat) : Int) := by rw [IntWalk.i64_in _ (by omega)]; omega
  go_wp2_with fail
  go_region_law (first
    | (refine stepF_apps (by rfl) (.tmp 11) (.tmp 17) (by rfl) w2.heap.size _ 0 [] rfl (by rfl) (OwnF.drew (ownF_lit0 w2 w2.heap.size (Nat.le_refl _))) _ Lt.length c Lt rfl (by rfl) (HRT.out.below ((Below.refl _ _).alloc (Nat.le_refl _) _).drew) (by omega) (by simp) Lt.length (Nat.zero_add _) ?_; intro A5 c5 w5 ho5 hg5 hat5; (have hb5 : Below w2.heap.size w2 w5 := ((Below.refl _ w2).alloc (Nat.le_refl _) _).drew.grown hg5 (by simp) (fun x hx => by have := own_some hx; omega)); (have y5 := (hb5.cell (p := ⟨tb, 0, none⟩) htl2).trans c02); (have z5 := hb5.size); (have HO5 := Lib.hid ho5); (have HB5 := Lib.hid hb5); (have HAT5 : Hid (∀ x, (Value.slice A5 Lt.length c5).ownBlock = some x → w2.heap.size ≤ x) := Lib.hid (fun x hx => (ho5.lt x hx).1)); clear ho5 hg5 hat5 hb5)
    | (refine stepF_apps (by rfl) (.tmp 18) (.tmp 25) (by rfl) w2.heap.size _ Lt.length Lt rfl (by rfl) HO5.out (if c = p + 1 then some ⟨g, 0, none⟩ else some ⟨g, (p + 1) * 3, none⟩) (L.length - (p + 1)) (c - (p + 1)) Ld hdl (by rfl) (HRD.out.below HB5.out) (by omega) z5 (Lt.length + (L.length - (p + 1))) rfl ?_; intro A7 c7 w7 ho7 hg7 hat7; (have hb7 : Below w2.heap.size w2 w7 := HB5.out.grown hg7 z5 (fun x hx => HAT5.out x hx)); (have y7 := (hb7.cell (p := ⟨tb, 0, none⟩) htl2).trans c02); (have f7 := (hb7.frozen (p := ⟨tb, 0, none⟩) htl2).trans hfz); (have HO7 := Lib.hid ho7); (have HB7 := Lib.hid hb7); clear ho7 hg7 hat7 hb7))
  all_goals clear c02 y5 y7 f7 hfz
  all_goals (have HRW := HT2.out.rerow (A4 := A7) (c4 := c7) (L4 := L.take p ++ L.drop (p + 1)) (fun b hb => by have := HMM.out b hb; have := HF2.out.size; omega) (by have := HF2.out.size; omega) HB7.out (by rw [← HLT.out, ← HLD.out, List.length_append, hdl]; exact HO7.out) (fun x hx => by
      rcases List.mem_append.1 hx with h | h
      · exact .inl (List.mem_of_mem_take h)
      · exact .inl (List.mem_of_mem_drop h)))
  all_goals (rw [show (L.take p ++ L.drop (p + 1)).length = Lt.length + (L.length - (p + 1)) by rw [← HLT.out, ← HLD.out, List.length_append, hdl]] at HRW)
  all_goals (have HR1 := Lib.hid HRW.1; have HR2 := Lib.hid HRW.2.1; have HR3 := Lib.hid HRW.2.2; clear HRW)
  all_goals (generalize (if c = p + 1 then some (⟨g, 0, none⟩ : Addr) else some ⟨g, (p + 1) * 3, none⟩) = QQ)
  all_goals (go_wp2_with fail; go_ret; have HFE := (HF2.out.weak (fun b hb => .inl hb)).trans HR2.out (fun b hb => .inl hb); have HME : ∀ b, Tm tb A7 b → Tm tb (some ⟨g, 0, none⟩) b ∨ w.heap.size ≤ b := fun b hb => (HR3.out b hb).elim .inl (fun h => .inr (Nat.le_trans HF2.out.size h)); refine ⟨rfl, A7, c7, ?_, ?_, HME⟩; (first | exact HR1.out | exact HR1.out.below (Below.refl _ _).drew); (first | exact HFE | exact HFE.then_below (Below.refl _ _).drew))
end
end Go.Proofs.Ytfpcfbolpnfacaa
