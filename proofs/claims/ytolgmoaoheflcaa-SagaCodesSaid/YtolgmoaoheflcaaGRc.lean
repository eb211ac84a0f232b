/-
 WORDS FOR MEMORY: rows of records; CONTRACTS: slipwaymade.Plan, small (printed by gengrc.py).
-/
import Derived.Test.YtolgmoaoheflcaaGTa
namespace Go.Proofs.Ytolgmoaoheflcaa.Sa
open Go.RowKit
open DiP
set_option linter.unusedVariables false
set_option linter.unusedSimpArgs false
set_option maxRecDepth 10000
structure PlR (w : World) (B : Nat) (AF : Option Addr) (nF : Nat) (AT : Option Addr) (nT : Nat) (AS : Option Addr) (nS : Nat) (AE : Option Addr) (nE : Nat) (p : PlV) : Prop where
 fs : Rd w B AF nF p.fs
 ts : Rd w B AT nT p.ts
 S : RdE w B AS nS p.S
 E : RdE w B AE nE p.E
 mx : nF ≤ 9223372036854775807 ∧ nT ≤ 9223372036854775807 ∧ nS ≤ 9223372036854775807 ∧ nE ≤ 9223372036854775807
def szB (p : PlV) : Bool := decide (p.fs.length ≤ 50 ∧ p.ts.length ≤ 50 ∧ p.S.length ≤ 100 ∧ p.E.length ≤ 200)
section
variable {w w' : World} {B : Nat} {AF AT AS AE : Option Addr} {nF nT nS nE : Nat} {p : PlV}
theorem PlR.below (h : PlR w B AF nF AT nT AS nS AE nE p) (hb : Below B w w') : PlR w' B AF nF AT nT AS nS AE nE p := ⟨h.fs.below hb, h.ts.below hb, h.S.below hb, h.E.below hb, h.mx⟩
theorem PlR.plw (h : PlR w B AF nF AT nT AS nS AE nE p) (hs : szB p = true) : PlW w B AF nF AT nT AS nS AE nE p := ⟨h.fs, h.ts, h.S, h.E, by
 have := of_decide_eq_true hs
 rw [h.fs.len, h.ts.len, h.S.1, h.E.1] at this; exact this⟩
theorem PlW.plr (h : PlW w B AF nF AT nT AS nS AE nE p) : PlR w B AF nF AT nT AS nS AE nE p := ⟨h.fs, h.ts, h.S, h.E, by have := h.sz; omega⟩
theorem PlW.szB (h : PlW w B AF nF AT nT AS nS AE nE p) : szB p = true := decide_eq_true (by rw [h.fs.len, h.ts.len, h.S.1, h.E.1]; exact h.sz)
end
def rcAt (l : List RcV) (j : Nat) : RcV := l.getD j default
/-- A row of records that is only read. -/
structure RdL (w : World) (B : Nat) (A : Option Addr) (n : Nat) (l : List RcV) : Prop where
 len : l.length = n
 mx : n ≤ 9223372036854775807
 at_ : ∀ j, j < n → ∃ b off, ∃ (BF : Option Addr) (mF dF : Nat) (BT : Option Addr) (mT dT : Nat) (BS : Option Addr) (mS dS : Nat) (BE : Option Addr) (mE dE : Nat), A = some ⟨b, off, none⟩ ∧ b < B ∧ w.cell? ⟨b, off + j * 6, none⟩ = some (.int .i64 (rcAt l j).kind) ∧ w.cell? ⟨b, off + j * 6 + 1, none⟩ = some (.int .i64 (rcAt l j).step) ∧ w.cell? ⟨b, off + j * 6 + 2, none⟩ = some (.slice BF mF dF) ∧ w.cell? ⟨b, off + j * 6 + 3, none⟩ = some (.slice BT mT dT) ∧ w.cell? ⟨b, off + j * 6 + 4, none⟩ = some (.slice BS mS dS) ∧ w.cell? ⟨b, off + j * 6 + 5, none⟩ = some (.slice BE mE dE) ∧ PlR w B BF mF BT mT BS mS BE mE (rcAt l j).pl
theorem RdL.below {w w' : World} {B n : Nat} {A : Option Addr} {l : List RcV} (h : RdL w B A n l) (hb : Below B w w') : RdL w' B A n l := ⟨h.len, h.mx, fun j hj => by
 obtain ⟨b, off, BF, mF, dF, BT, mT, dT, BS, mS, dS, BE, mE, dE, e, hlt, c0, c1, c2, c3, c4, c5, hp⟩ := h.at_ j hj
 exact ⟨b, off, BF, mF, dF, BT, mT, dT, BS, mS, dS, BE, mE, dE, e, hlt, (hb.cell (p := ⟨b, off + j * 6, none⟩) hlt).trans c0, (hb.cell (p := ⟨b, off + j * 6 + 1, none⟩) hlt).trans c1, (hb.cell (p := ⟨b, off + j * 6 + 2, none⟩) hlt).trans c2, (hb.cell (p := ⟨b, off + j * 6 + 3, none⟩) hlt).trans c3, (hb.cell (p := ⟨b, off + j * 6 + 4, none⟩) hlt).trans c4, (hb.cell (p := ⟨b, off + j * 6 + 5, none⟩) hlt).trans c5, hp.below hb⟩⟩
theorem infoS10 : (Try.prog.info? 76).map (fun i => (i.zero, i.size, i.bytes)) = some (some (.agg #[.int .i64 0, .int .i64 0]), 2, 16) := by kernel_rfl
theorem wplF_oneS {w : World} {ops : Array Oper} {rest : List Oper} {o : Oper} {a : Act} {Q : Exit → Act → World → Prop} (hgd : o.guard = none) (s x : Operand)
  (ho : o.op = .call { callee := .builtin .append, args := #[s, x], argTypes := #[45, 45] })
  (base : Nat) (v : Value) (l : List Pr) (hs : a.eval s = v) (hown : OwnF 76 2 prF w base v l)
  (g d : Nat) (y : Pr) (hx : a.eval x = .slice (some ⟨g, 0, none⟩) 1 d) (hc : w.cell? ⟨g, 0, none⟩ = some (.int .i64 y.1)) (hc2 : w.cell? ⟨g, 1, none⟩ = some (.int .i64 y.2)) (hn : l.length + 1 ≤ 1000000000) (hbase : base ≤ w.heap.size)
  (h : ∀ A' n' c' w', OwnF 76 2 prF w' base (.slice A' n' c') (l ++ [y]) → w.grownBy w' v.ownBlock → wpList Try.prog ops Q rest (a.put o.dst (.slice A' n' c')) w') :
  wpList Try.prog ops Q (o :: rest) a w := by
 refine wplF_appA (f := prF) (fun _ => rfl) (fun x u hu => by simp [prF] at hu; rcases hu with rfl | rfl <;> rfl) Try.underlying45 infoS10 rfl (by decide) (by decide) hgd s x ho base v l hs hown ⟨g, 0, none⟩ 1 d [y] hx rfl ?_ hn hbase ?_
 ·intro j u hu
  rw [addr_add, Nat.zero_add]
  match j, hu with
  | 0, hu =>
   have : u = .int .i64 y.1 := by simpa [prF] using hu.symm
   rw [this]; exact hc
  | 1, hu =>
   have : u = .int .i64 y.2 := by simpa [prF] using hu.symm
   rw [this]; exact hc2
  | j + 2, hu => simp [prF] at hu
 ·intro v' w' ho' hg _
  obtain ⟨A', c', hv⟩ := ho'.shape
  subst hv
  exact h _ _ _ w' ho' hg
theorem take_pr {l : List Pr} {k : Nat} (h : k < l.length) : l.take (k + 1) = l.take k ++ [(ea l k, eb l k)] := by
 rw [pr_at l k h, List.take_add_one, List.getElem?_eq_getElem h]; rfl
set_option maxHeartbeats 8000000 in
theorem madeP_any {w : World} {B : Nat} {AF AT AS AE : Option Addr} {nF nT nS nE cF cT cS cE : Nat} {p : PlV} (h : PlR w B AF nF AT nT AS nS AE nE p) (hB : B ≤ w.heap.size) :
 Calls Try.prog 15 #[.agg #[.slice AF nF cF, .slice AT nT cT, .slice AS nS cS, .slice AE nE cE]] w fun e w' => Below w.heap.size w w' ∧ ((szB p = false ∧ e = .returned (.tuple #[.agg #[.slice AF nF cF, .slice AT nT cT, .slice none 0 0, .slice AE nE cE], .bool false])) ∨ (szB p = true ∧ ∃ A' n' c', e = .returned (.tuple #[.agg #[.slice AF nF cF, .slice AT nT cT, .slice A' n' c', .slice AE nE cE], .bool true]) ∧ OwnF 76 2 prF w' w.heap.size (.slice A' n' c') p.S)) := by
 obtain ⟨W, HW⟩ : ∃ W, Hid (W = ((w.alloc (.cells #[.slice AF nF cF, .slice AT nT cT, .slice AS nS cS, .slice AE nE cE] 29)).alloc (.cells #[.slice none 0 0, .slice none 0 0, .slice none 0 0, .slice none 0 0] 47)).alloc (.cells #[.slice AF nF cF, .slice AT nT cT, .slice none 0 0, .slice AE nE cE] 47)) := ⟨_, Lib.hid rfl⟩
 obtain ⟨W0, HW0⟩ : ∃ W, Hid (W = ((w.alloc (.cells #[.slice AF nF cF, .slice AT nT cT, .slice AS nS cS, .slice AE nE cE] 29)).alloc (.cells #[.slice none 0 0, .slice none 0 0, .slice none 0 0, .slice none 0 0] 47))) := ⟨_, Lib.hid rfl⟩
 have HWW : Hid (W = W0.alloc (.cells #[.slice AF nF cF, .slice AT nT cT, .slice none 0 0, .slice AE nE cE] 47)) := Lib.hid (by rw [HW.out, HW0.out])
 have hb0 : Below w.heap.size w W0 := by rw [HW0.out]; exact ((Below.refl _ w).alloc (Nat.le_refl _) _).alloc (by simp) _
 have HZ0 : Hid (W0.heap.size = w.heap.size + 2) := Lib.hid (by rw [HW0.out]; simp)
 have HZ : Hid (W.heap.size = w.heap.size + 3) := Lib.hid (by rw [HWW.out, World.size_alloc, HZ0.out])
 have J0 : Hid (W0.heap[w.heap.size]? = some (.cells #[.slice AF nF cF, .slice AT nT cT, .slice AS nS cS, .slice AE nE cE] 29 (0, 0))) := Lib.hid (by rw [HW0.out, Below.heap_alloc _ _ _ (by simp)]; exact heap_new w _)
 have J1 : Hid (W0.heap[w.heap.size + 1]? = some (.cells #[.slice none 0 0, .slice none 0 0, .slice none 0 0, .slice none 0 0] 47 (0, 0))) := Lib.hid (by
  rw [HW0.out]
  have h := heap_new (w.alloc (.cells #[.slice AF nF cF, .slice AT nT cT, .slice AS nS cS, .slice AE nE cE] 29)) (.cells #[.slice none 0 0, .slice none 0 0, .slice none 0 0, .slice none 0 0] 47)
  rw [World.size_alloc] at h; exact h)
 have hbl : Below w.heap.size w W := by rw [HWW.out]; exact hb0.alloc hb0.size _
 have HBL := Lib.hid hbl
 have H0 : Hid (W.heap[w.heap.size]? = some (.cells #[.slice AF nF cF, .slice AT nT cT, .slice AS nS cS, .slice AE nE cE] 29 (0, 0))) := Lib.hid (by rw [HWW.out, Below.heap_alloc _ _ _ (heapE_lt J0.out)]; exact J0.out)
 have H1 : Hid (W.heap[w.heap.size + 1]? = some (.cells #[.slice none 0 0, .slice none 0 0, .slice none 0 0, .slice none 0 0] 47 (0, 0))) := Lib.hid (by rw [HWW.out, Below.heap_alloc _ _ _ (heapE_lt J1.out)]; exact J1.out)
 have H2 : Hid (W.heap[w.heap.size + 2]? = some (.cells #[.slice AF nF cF, .slice AT nT cT, .slice none 0 0, .slice AE nE cE] 47 (0, 0))) := Lib.hid (by
  rw [HWW.out]
  have h := heap_new W0 (.cells #[.slice AF nF cF, .slice AT nT cT, .slice none 0 0, .slice AE nE cE] 47)
  rw [HZ0.out] at h; exact h)
 have hm := h.mx
 have HP := Lib.hid (h.below (hbl.mono hB))
 have HBB : Hid (B ≤ W.heap.size) := Lib.hid (Nat.le_trans hB hbl.size)
 have HSZ : Hid (szB p = decide (nF ≤ 50 ∧ nT ≤ 50 ∧ nS ≤ 100 ∧ nE ≤ 200)) := Lib.hid (by unfold szB; rw [h.fs.len, h.ts.len, h.S.1, h.E.1])
 have HNS : Hid (p.S.length = nS) := Lib.hid h.S.1
 obtain ⟨p0, p1, p2, p3⟩ := row4 J0.out
 have HPW := Lib.hid h.S
 have HBW := Lib.hid hB
 clear h hbl hb0 hB
 go_enter Try.func15, Try.ntmps15
 go_upto_region 1 with fail
 change Code.wp _ _ _ _ ((w.alloc (.cells #[.slice AF nF cF, .slice AT nT cT, .slice AS nS cS, .slice AE nE cE] 29)).alloc (.cells #[.slice none 0 0, .slice none 0 0, .slice none 0 0, .slice none 0 0] 47))
 rw [← HW0.out]
 go_upto_region 2 with fail
 rw [HZ0.out]
 change Code.wp _ _ _ _ (W0.alloc (.cells #[.slice AF nF cF, .slice AT nT cT, .slice none 0 0, .slice AE nE cE] 47))
 rw [← HWW.out]
 clear p0 p1 p2 p3
 obtain ⟨x0, x1, x2, x3⟩ := row4 H0.out
 obtain ⟨y0, y1, y2, y3⟩ := row4 H1.out
 have yf := free_row H1.out
 obtain ⟨z0, z1, z2, z3⟩ := row4 H2.out
 by_cases cnF : 50 < nF
 ·have dnF : decide (50 < (nF : Int)) = true := decide_eq_true (by omega)
  have HV : Hid (szB p = false) := Lib.hid (by rw [HSZ.out]; exact decide_eq_false (by omega))
  have HBF := Lib.hid ((((HBL.out.setCell (p := ⟨w.heap.size + 1, 0, none⟩) (by show w.heap.size ≤ w.heap.size + 1; omega) (.slice AF nF cF)).setCell (p := ⟨w.heap.size + 1, 1, none⟩) (by show w.heap.size ≤ w.heap.size + 1; omega) (.slice AT nT cT)).setCell (p := ⟨w.heap.size + 1, 2, none⟩) (by show w.heap.size ≤ w.heap.size + 1; omega) (.slice none 0 0)).setCell (p := ⟨w.heap.size + 1, 3, none⟩) (by show w.heap.size ≤ w.heap.size + 1; omega) (.slice AE nE cE))
  go_wp2_with fail
  refine bodyPost_ret (v := .tuple #[.agg #[.slice AF nF cF, .slice AT nT cT, .slice none 0 0, .slice AE nE cE], .bool false]) ?_ rfl ⟨HBF.out, .inl ⟨HV.out, rfl⟩⟩
  rw [results_cell_tmp rfl]; go_simp
 have dnF : decide (50 < (nF : Int)) = false := decide_eq_false (by omega)
 by_cases cnT : 50 < nT
 ·have dnT : decide (50 < (nT : Int)) = true := decide_eq_true (by omega)
  have HV : Hid (szB p = false) := Lib.hid (by rw [HSZ.out]; exact decide_eq_false (by omega))
  have HBF := Lib.hid ((((HBL.out.setCell (p := ⟨w.heap.size + 1, 0, none⟩) (by show w.heap.size ≤ w.heap.size + 1; omega) (.slice AF nF cF)).setCell (p := ⟨w.heap.size + 1, 1, none⟩) (by show w.heap.size ≤ w.heap.size + 1; omega) (.slice AT nT cT)).setCell (p := ⟨w.heap.size + 1, 2, none⟩) (by show w.heap.size ≤ w.heap.size + 1; omega) (.slice none 0 0)).setCell (p := ⟨w.heap.size + 1, 3, none⟩) (by show w.heap.size ≤ w.heap.size + 1; omega) (.slice AE nE cE))
  go_wp2_with fail
  refine bodyPost_ret (v := .tuple #[.agg #[.slice AF nF cF, .slice AT nT cT, .slice none 0 0, .slice AE nE cE], .bool false]) ?_ rfl ⟨HBF.out, .inl ⟨HV.out, rfl⟩⟩
  rw [results_cell_tmp rfl]; go_simp
 have dnT : decide (50 < (nT : Int)) = false := decide_eq_false (by omega)
 by_cases cnS : 100 < nS
 ·have dnS : decide (100 < (nS : Int)) = true := decide_eq_true (by omega)
  have HV : Hid (szB p = false) := Lib.hid (by rw [HSZ.out]; exact decide_eq_false (by omega))
  have HBF := Lib.hid ((((HBL.out.setCell (p := ⟨w.heap.size + 1, 0, none⟩) (by show w.heap.size ≤ w.heap.size + 1; omega) (.slice AF nF cF)).setCell (p := ⟨w.heap.size + 1, 1, none⟩) (by show w.heap.size ≤ w.heap.size + 1; omega) (.slice AT nT cT)).setCell (p := ⟨w.heap.size + 1, 2, none⟩) (by show w.heap.size ≤ w.heap.size + 1; omega) (.slice none 0 0)).setCell (p := ⟨w.heap.size + 1, 3, none⟩) (by show w.heap.size ≤ w.heap.size + 1; omega) (.slice AE nE cE))
  go_wp2_with fail
  refine bodyPost_ret (v := .tuple #[.agg #[.slice AF nF cF, .slice AT nT cT, .slice none 0 0, .slice AE nE cE], .bool false]) ?_ rfl ⟨HBF.out, .inl ⟨HV.out, rfl⟩⟩
  rw [results_cell_tmp rfl]; go_simp
 have dnS : decide (100 < (nS : Int)) = false := decide_eq_false (by omega)
 by_cases cnE : 200 < nE
 ·have dnE : decide (200 < (nE : Int)) = true := decide_eq_true (by omega)
  have HV : Hid (szB p = false) := Lib.hid (by rw [HSZ.out]; exact decide_eq_false (by omega))
  have HBF := Lib.hid ((((HBL.out.setCell (p := ⟨w.heap.size + 1, 0, none⟩) (by show w.heap.size ≤ w.heap.size + 1; omega) (.slice AF nF cF)).setCell (p := ⟨w.heap.size + 1, 1, none⟩) (by show w.heap.size ≤ w.heap.size + 1; omega) (.slice AT nT cT)).setCell (p := ⟨w.heap.size + 1, 2, none⟩) (by show w.heap.size ≤ w.heap.size + 1; omega) (.slice none 0 0)).setCell (p := ⟨w.heap.size + 1, 3, none⟩) (by show w.heap.size ≤ w.heap.size + 1; omega) (.slice AE nE cE))
  go_wp2_with fail
  refine bodyPost_ret (v := .tuple #[.agg #[.slice AF nF cF, .slice AT nT cT, .slice none 0 0, .slice AE nE cE], .bool false]) ?_ rfl ⟨HBF.out, .inl ⟨HV.out, rfl⟩⟩
  rw [results_cell_tmp rfl]; go_simp
 have dnE : decide (200 < (nE : Int)) = false := decide_eq_false (by omega)
 have HV : Hid (szB p = true) := Lib.hid (by rw [HSZ.out]; exact decide_eq_true (by omega))
 have hs100 : nS ≤ 100 := by omega
 clear cnF cnT cnS cnE
 go_upto_region 5 with fail
 clear x0 x1 x2 x3 y0 y1 y2 y3 yf z0 z1 z2 z3 dnF dnT dnS dnE
 go_loopw [6, 40] (fun _ v wr => ∃ k : Nat, k ≤ nS ∧ v = .int .i64 (k : Int) ∧ ∃ A' n' c', Hid (Below w.heap.size w wr) ∧ Hid (OwnF 76 2 prF wr w.heap.size (.slice A' n' c') (p.S.take k)) ∧ Hid (wr.heap[w.heap.size + 1]? = some (.cells #[.slice none 0 0, .slice none 0 0, .slice none 0 0, .slice none 0 0] 47 (0, 0))) ∧ Hid (wr.heap[w.heap.size + 2]? = some (.cells #[.slice AF nF cF, .slice AT nT cT, .slice A' n' c', .slice AE nE cE] 47 (0, 0)))) (fun _ v _ => nS - (intOf v).toNat)
 case atStart => exact ⟨0, Nat.zero_le _, rfl, none, 0, 0, HBL, Lib.hid (OwnF.nil_ _ _ _ _ _), H1, H2⟩
 case round =>
  obtain ⟨wo, hwo⟩ : ∃ x, x = wr := ⟨_, rfl⟩
  subst hwo
  obtain ⟨k, hk, rfl, A1, n1, c1, HBo, HOo, HH1, HH2⟩ := hrel
  by_cases hkn : k < nS
  ·have hd : decide ((k : Int) < (nS : Int)) = true := by simp; omega
   have hki : (k : Int) < (nS : Int) := by omega
   have hadd : IntKind.i64.wrap ((k : Int) + 1) = ((k + 1 : Nat) : Int) := by rw [IntWalk.i64_in _ (by omega)]; omega
   have HPo : Hid (RdE wo B AS nS p.S) := Lib.hid (HPW.out.below (HBo.out.mono HBW.out))
   obtain ⟨b, off, hA, hbB, s0, s1⟩ := HPo.out.at_ hkn
   subst hA
   have HTK : Hid (p.S.take (k + 1) = p.S.take k ++ [(ea p.S k, eb p.S k)]) := Lib.hid (take_pr (by rw [HNS.out]; exact hkn))
   have HLN : Hid ((p.S.take k).length + 1 ≤ 1000000000) := Lib.hid (by rw [List.length_take]; omega)
   obtain ⟨u, HU⟩ : ∃ u, Hid (ea p.S k = u) := ⟨_, Lib.hid rfl⟩
   obtain ⟨v, HU2⟩ : ∃ u, Hid (eb p.S k = u) := ⟨_, Lib.hid rfl⟩
   rw [HU.out] at s0
   rw [HU2.out] at s1
   rw [HU.out, HU2.out] at HTK
   obtain ⟨X, HXE⟩ : ∃ X, Hid (X = wo.alloc (.cells #[.int .i64 u, .int .i64 v] 71)) := ⟨_, Lib.hid rfl⟩
   have hxb : Below wo.heap.size wo X := by rw [HXE.out]; exact (Below.refl _ wo).alloc (Nat.le_refl _) _
   have HBX : Hid (Below w.heap.size w X) := Lib.hid (HBo.out.trans (hxb.mono HBo.out.size))
   have HN : Hid (X.heap[wo.heap.size]? = some (.cells #[.int .i64 u, .int .i64 v] 71 (0, 0))) := Lib.hid (by rw [HXE.out]; exact heap_new wo _)
   have HX1 : Hid (X.heap[w.heap.size + 1]? = _) := Lib.hid ((hxb.block _ (heapE_lt HH1.out)).trans HH1.out)
   have HX2 : Hid (X.heap[w.heap.size + 2]? = _) := Lib.hid ((hxb.block _ (heapE_lt HH2.out)).trans HH2.out)
   have HOX := Lib.hid (HOo.out.kept hxb)
   obtain ⟨Y, HYE⟩ : ∃ Y, Hid (Y = X.alloc (.cells #[.int .i64 u, .int .i64 v] 76)) := ⟨_, Lib.hid rfl⟩
   have hyb : Below X.heap.size X Y := by rw [HYE.out]; exact (Below.refl _ X).alloc (Nat.le_refl _) _
   have HBY : Hid (Below w.heap.size w Y) := Lib.hid (HBX.out.trans (hyb.mono HBX.out.size))
   have HYN : Hid (Y.heap[X.heap.size]? = some (.cells #[.int .i64 u, .int .i64 v] 76 (0, 0))) := Lib.hid (by rw [HYE.out]; exact heap_new X _)
   have HY1 : Hid (Y.heap[w.heap.size + 1]? = _) := Lib.hid ((hyb.block _ (heapE_lt HX1.out)).trans HX1.out)
   have HY2 : Hid (Y.heap[w.heap.size + 2]? = _) := Lib.hid ((hyb.block _ (heapE_lt HX2.out)).trans HX2.out)
   have HOY := Lib.hid (HOX.out.kept hyb)
   have c0 := (row2 HYN.out).1
   have c1' := (row2 HYN.out).2.1
   have HCC := Lib.hid (And.intro c0 c1')
   obtain ⟨q0, q1, _, _⟩ := row2 HN.out
   obtain ⟨z0, z1, z2, z3⟩ := row4 HX2.out
   clear hxb hyb c0 c1'
   go_upto_region 7 with fail
   change Code.wp _ _ _ _ (wo.alloc (.cells #[.int .i64 u, .int .i64 v] 71))
   rw [← HXE.out]
   rw [HYE.out] at HOY HCC HBY HY1 HY2
   go_upto_region 8 with (at_builtin; refine wplF_oneS rfl (.tmp 45) (.tmp 47) rfl w.heap.size _ (p.S.take k) rfl HOY.out X.heap.size 1 (u, v) rfl HCC.out.1 HCC.out.2 HLN.out HBY.out.size ?_; intro A7 n7 c7 y7 hown hgr; (have HO7 := Lib.hid hown); (have HR7 := Lib.hid hgr); (have HG7 : Hid (y7.heap[w.heap.size + 2]? = some (.cells #[.slice AF nF cF, .slice AT nT cT, .slice A1 n1 c1, .slice AE nE cE] 47 (0, 0))) := Lib.hid ((hgr.block _ (heapE_lt HY2.out) (HOY.out.neT HY2.out (by decide))).trans HY2.out)); (have HG71 : Hid (y7.heap[w.heap.size + 1]? = some (.cells #[.slice none 0 0, .slice none 0 0, .slice none 0 0, .slice none 0 0] 47 (0, 0))) := Lib.hid ((hgr.block _ (heapE_lt HY1.out) (HOY.out.neT HY1.out (by decide))).trans HY1.out)); clear hown hgr; (obtain ⟨t0, t1, t2, t3⟩ := row4 HG7.out); (have tf := free_row HG7.out))
   have HB7 : Hid (Below w.heap.size w y7) := Lib.hid (HBY.out.grown HR7.out HBY.out.size HOY.out.ge)
   have hot : ∀ k, k < y7.heap.size → k ≠ w.heap.size + 2 → (y7.setCell ⟨w.heap.size + 2, 2, none⟩ (.slice A7 n7 c7)).heap[k]? = y7.heap[k]? := fun k _ hne => Below.heap_setCell _ _ _ k hne
   have HO8 := Lib.hid (HO7.out.apart HG7.out (by decide) hot)
   have HB8 : Hid (Below w.heap.size w (y7.setCell ⟨w.heap.size + 2, 2, none⟩ (.slice A7 n7 c7))) := Lib.hid (HB7.out.setCell (by show w.heap.size ≤ w.heap.size + 2; omega) _)
   have HG8 : Hid ((y7.setCell ⟨w.heap.size + 2, 2, none⟩ (.slice A7 n7 c7)).heap[w.heap.size + 2]? = some (.cells #[.slice AF nF cF, .slice AT nT cT, .slice A7 n7 c7, .slice AE nE cE] 47 (0, 0))) := Lib.hid (heap_setCell_same _ _ 2 _ _ _ HG7.out)
   have HG81 := Lib.hid ((hot (w.heap.size + 1) (heapE_lt HG71.out) (by omega)).trans HG71.out)
   rw [← HTK.out] at HO8
   clear t0 t1 t2 t3 tf hot z0 z1 z2 z3 q0 q1
   go_wp2_with fail
   go_roundw
   case rel => exact ⟨k + 1, by omega, by go_num, A7, n7, c7, HB8, HO8, HG81, HG8⟩
   case measure => simp [intOf]; omega
  ·have hd : decide ((k : Int) < (nS : Int)) = false := by simp; omega
   have HTK : Hid (p.S.take k = p.S) := Lib.hid (List.take_of_length_le (by rw [HNS.out]; omega))
   rw [HTK.out] at HOo
   have HFH := Lib.hid (set4_same (a := .slice AF nF cF) (b := .slice AT nT cT) (c := .slice A1 n1 c1) (d := .slice AE nE cE) HH1.out)
   have HOF := Lib.hid (HOo.out.apart HH1.out (by decide) (fun k _ hne => set4_other (a := .slice AF nF cF) (b := .slice AT nT cT) (c := .slice A1 n1 c1) (d := .slice AE nE cE) hne))
   have HBF := Lib.hid ((((HBo.out.setCell (p := ⟨w.heap.size + 1, 0, none⟩) (by show w.heap.size ≤ w.heap.size + 1; omega) (.slice AF nF cF)).setCell (p := ⟨w.heap.size + 1, 1, none⟩) (by show w.heap.size ≤ w.heap.size + 1; omega) (.slice AT nT cT)).setCell (p := ⟨w.heap.size + 1, 2, none⟩) (by show w.heap.size ≤ w.heap.size + 1; omega) (.slice A1 n1 c1)).setCell (p := ⟨w.heap.size + 1, 3, none⟩) (by show w.heap.size ≤ w.heap.size + 1; omega) (.slice AE nE cE))
   obtain ⟨y0, y1, y2, y3⟩ := row4 HH1.out
   have yf := free_row HH1.out
   obtain ⟨z0, z1, z2, z3⟩ := row4 HH2.out
   go_wp2_with fail
   refine bodyPost_ret (v := .tuple #[.agg #[.slice AF nF cF, .slice AT nT cT, .slice A1 n1 c1, .slice AE nE cE], .bool true]) ?_ rfl ⟨HBF.out, .inr ⟨HV.out, A1, n1, c1, rfl, HOF.out⟩⟩
   rw [results_cell_tmp rfl]; go_simp
end Go.Proofs.Ytolgmoaoheflcaa.Sa
