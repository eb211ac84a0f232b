/-
 WORDS FOR MEMORY: plans and states that a call made; CONTRACT: copies.Plan (printed by gengcp.py).
-/
import Derived.Test.YtolgmoaoheflcaaGSt
import Derived.Test.YtolgmoaoheflcaaGBe
namespace Go.Proofs.Ytolgmoaoheflcaa.Sa
open Go.RowKit
open DiP
set_option linter.unusedVariables false
set_option linter.unusedSimpArgs false
set_option maxRecDepth 10000
structure PlO (w : World) (base : Nat) (AF : Option Addr) (nF cF : Nat) (AT : Option Addr) (nT cT : Nat) (AS : Option Addr) (nS cS : Nat) (AE : Option Addr) (nE cE : Nat) (p : PlV) : Prop where
 fs : OwnF 3 1 inF w base (.slice AF nF cF) p.fs
 ts : OwnF 3 1 inF w base (.slice AT nT cT) p.ts
 S : OwnF 71 2 prF w base (.slice AS nS cS) p.S
 E : OwnF 90 2 prF w base (.slice AE nE cE) p.E
 sz : nF ≤ 50 ∧ nT ≤ 50 ∧ nS ≤ 100 ∧ nE ≤ 200
structure StO (w : World) (base : Nat) (num ph : Int) (AF : Option Addr) (nF cF : Nat) (AT : Option Addr) (nT cT : Nat) (AS : Option Addr) (nS cS : Nat) (AE : Option Addr) (nE cE : Nat) (AO : Option Addr) (nO cO : Nat) (AD : Option Addr) (nD cD : Nat) (s : StV) : Prop where
 pl : PlO w base AF nF cF AT nT cT AS nS cS AE nE cE s.pl
 op : OwnF 3 1 inF w base (.slice AO nO cO) s.op
 dn : OwnF 3 1 inF w base (.slice AD nD cD) s.dn
 num : s.num = num
 ph : s.ph = ph
/-- A row survives what is written into a block of another type. -/
theorem OwnF.apart {α : Type} {E T : TypeId} {z : Nat} {f : α → List Value} {w w2 : World} {base g : Nat} {v : Value} {l : List α} {cs : Array Value} (h : OwnF E z f w base v l) (hg : w.heap[g]? = some (.cells cs T (0, 0))) (hT : T ≠ E) (hb : ∀ k, k < w.heap.size → k ≠ g → w2.heap[k]? = w.heap[k]?) : OwnF E z f w2 base v l := by
 refine ⟨h.1, ?_⟩
 rcases h.2 with h | ⟨b, cap, cur, hv, hbg, hh, r⟩
 ·exact .inl h
 ·refine .inr ⟨b, cap, cur, hv, hbg, (hb b (heapE_lt hh) (fun e => ?_)).trans hh, r⟩
  subst e
  rw [hg] at hh
  injection hh with hh
  injection hh with _ h2 _
  exact hT h2
section
variable {w w' : World} {base base' : Nat} {num ph : Int} {AF AT AS AE AO AD : Option Addr} {nF nT nS nE nO nD cF cT cS cE cO cD : Nat} {s : StV} {p : PlV}
theorem PlO.kept (h : PlO w base AF nF cF AT nT cT AS nS cS AE nE cE p) (hb : Below w.heap.size w w') : PlO w' base AF nF cF AT nT cT AS nS cS AE nE cE p := ⟨h.fs.kept hb, h.ts.kept hb, h.S.kept hb, h.E.kept hb, h.sz⟩
theorem PlO.less (h : PlO w base AF nF cF AT nT cT AS nS cS AE nE cE p) (hb : base' ≤ base) : PlO w base' AF nF cF AT nT cT AS nS cS AE nE cE p := ⟨h.fs.less hb, h.ts.less hb, h.S.less hb, h.E.less hb, h.sz⟩
theorem PlO.plw (h : PlO w base AF nF cF AT nT cT AS nS cS AE nE cE p) : PlW w w.heap.size AF nF AT nT AS nS AE nE p := ⟨h.fs.rdI, h.ts.rdI, h.S.rdE, h.E.rdE, h.sz⟩
theorem StO.kept (h : StO w base num ph AF nF cF AT nT cT AS nS cS AE nE cE AO nO cO AD nD cD s) (hb : Below w.heap.size w w') : StO w' base num ph AF nF cF AT nT cT AS nS cS AE nE cE AO nO cO AD nD cD s := ⟨h.pl.kept hb, h.op.kept hb, h.dn.kept hb, h.num, h.ph⟩
theorem StO.less (h : StO w base num ph AF nF cF AT nT cT AS nS cS AE nE cE AO nO cO AD nD cD s) (hb : base' ≤ base) : StO w base' num ph AF nF cF AT nT cT AS nS cS AE nE cE AO nO cO AD nD cD s := ⟨h.pl.less hb, h.op.less hb, h.dn.less hb, h.num, h.ph⟩
theorem StO.lens (h : StO w base num ph AF nF cF AT nT cT AS nS cS AE nE cE AO nO cO AD nD cD s) : s.pl.fs.length = nF ∧ s.pl.ts.length = nT ∧ s.pl.S.length = nS ∧ s.pl.E.length = nE ∧ s.op.length = nO ∧ s.dn.length = nD := ⟨h.pl.fs.rdI.len, h.pl.ts.rdI.len, h.pl.S.rdE.1, h.pl.E.rdE.1, h.op.rdI.len, h.dn.rdI.len⟩
theorem nodup_len : ∀ (N : Nat) (l : List Int), l.Nodup → (∀ k ∈ l, 0 ≤ k ∧ k < (N : Int)) → l.length ≤ N
 | 0, l, _, h => by
  cases l with
  | nil => simp
  | cons x l => have := h x (by simp); omega
 | N + 1, l, hn, h => by
  by_cases hm : (N : Int) ∈ l
  ·have h1 := nodup_len N (l.erase (N : Int)) (hn.erase _) (fun k hk => by
    have h2 := (hn.mem_erase_iff).1 hk
    have := h k h2.2
    have := h2.1
    omega)
   rw [List.length_erase_of_mem hm] at h1
   omega
  ·have h1 := nodup_len N l hn (fun k hk => by
    have := h k hk
    have : k ≠ (N : Int) := fun e => hm (e ▸ hk)
    omega)
   omega
theorem InvS.lenO (h : InvS s) : s.op.length ≤ 36 ∧ s.dn.length ≤ 36 := by
 have key : ∀ l : List Int, l.Nodup → (∀ k ∈ l, 0 ≤ k ∧ k < (s.pl.S.length : Int)) → l.length ≤ 36 := fun l hn hr => Nat.le_trans (nodup_len _ l hn hr) h.n36
 have hnd := List.nodup_append.1 h.nd
 exact ⟨key _ hnd.1 (fun k hk => h.rg k (by simp [hk])), key _ hnd.2.1 (fun k hk => h.rg k (by simp [hk]))⟩
theorem StO.stw (h : StO w base num ph AF nF cF AT nT cT AS nS cS AE nE cE AO nO cO AD nD cD s) (hi : InvS s) : StW w w.heap.size num ph AF nF AT nT AS nS AE nE AO nO AD nD s := ⟨h.pl.plw, h.op.rdI, h.dn.rdI, h.num, h.ph, by have := h.lens; have := hi.lenO; omega, by have := h.lens; have := hi.lenO; omega⟩
theorem StO.nil_ : StO w base 0 0 none 0 0 none 0 0 none 0 0 none 0 0 none 0 0 none 0 0 st0 := ⟨⟨OwnF.nil_ _ _ _ _ _, OwnF.nil_ _ _ _ _ _, OwnF.nil_ _ _ _ _ _, OwnF.nil_ _ _ _ _ _, by omega⟩, OwnF.nil_ _ _ _ _ _, OwnF.nil_ _ _ _ _ _, rfl, rfl⟩
/-- What is written into a block that bears a struct's type leaves plans and states. -/
theorem PlO.apart {T : TypeId} {g : Nat} {cs : Array Value} {w2 : World} (h : PlO w base AF nF cF AT nT cT AS nS cS AE nE cE p) (hg : w.heap[g]? = some (.cells cs T (0, 0))) (h1 : T ≠ 3) (h2 : T ≠ 71) (h3 : T ≠ 90) (hb : ∀ k, k < w.heap.size → k ≠ g → w2.heap[k]? = w.heap[k]?) : PlO w2 base AF nF cF AT nT cT AS nS cS AE nE cE p := ⟨h.fs.apart hg h1 hb, h.ts.apart hg h1 hb, h.S.apart hg h2 hb, h.E.apart hg h3 hb, h.sz⟩
theorem StO.apart {T : TypeId} {g : Nat} {cs : Array Value} {w2 : World} (h : StO w base num ph AF nF cF AT nT cT AS nS cS AE nE cE AO nO cO AD nD cD s) (hg : w.heap[g]? = some (.cells cs T (0, 0))) (h1 : T ≠ 3) (h2 : T ≠ 71) (h3 : T ≠ 90) (hb : ∀ k, k < w.heap.size → k ≠ g → w2.heap[k]? = w.heap[k]?) : StO w2 base num ph AF nF cF AT nT cT AS nS cS AE nE cE AO nO cO AD nD cD s := ⟨h.pl.apart hg h1 h2 h3 hb, h.op.apart hg h1 hb, h.dn.apart hg h1 hb, h.num, h.ph⟩
end
theorem set4_same {w : World} {g : Nat} {x y z u a b c d : Value} {t : TypeId} (h : w.heap[g]? = some (.cells #[x, y, z, u] t (0, 0))) : ((((w.setCell ⟨g, 0, none⟩ a).setCell ⟨g, 1, none⟩ b).setCell ⟨g, 2, none⟩ c).setCell ⟨g, 3, none⟩ d).heap[g]? = some (.cells #[a, b, c, d] t (0, 0)) :=
 heap_setCell_same _ g 3 _ _ d (heap_setCell_same _ g 2 _ _ c (heap_setCell_same _ g 1 _ _ b (heap_setCell_same w g 0 _ _ a h)))
theorem set4_other {w : World} {g k : Nat} {a b c d : Value} (h : k ≠ g) : ((((w.setCell ⟨g, 0, none⟩ a).setCell ⟨g, 1, none⟩ b).setCell ⟨g, 2, none⟩ c).setCell ⟨g, 3, none⟩ d).heap[k]? = w.heap[k]? :=
 (Below.heap_setCell _ _ _ k h).trans ((Below.heap_setCell _ _ _ k h).trans ((Below.heap_setCell _ _ _ k h).trans (Below.heap_setCell _ _ _ k h)))
set_option maxHeartbeats 8000000 in
theorem copies_any {w : World} {B : Nat} {AF AT AS AE : Option Addr} {nF nT nS nE cF cT cS cE : Nat} {p : PlV} (h : PlW w B AF nF AT nT AS nS AE nE p) (hB : B ≤ w.heap.size) :
 Calls Try.prog 70 #[.agg #[.slice AF nF cF, .slice AT nT cT, .slice AS nS cS, .slice AE nE cE]] w fun e w' => ∃ A1 c1 A2 c2 A3 c3 A4 c4, e = .returned (.agg #[.slice A1 nF c1, .slice A2 nT c2, .slice A3 nS c3, .slice A4 nE c4]) ∧ PlO w' w.heap.size A1 nF c1 A2 nT c2 A3 nS c3 A4 nE c4 p ∧ Below w.heap.size w w' := by
 obtain ⟨W, HW⟩ : ∃ W, Hid (W = (w.alloc (.cells #[.slice AF nF cF, .slice AT nT cT, .slice AS nS cS, .slice AE nE cE] 29)).alloc (.cells #[.slice none 0 0, .slice none 0 0, .slice none 0 0, .slice none 0 0] 29)) := ⟨_, Lib.hid rfl⟩
 have hbl : Below w.heap.size w W := by rw [HW.out]; exact ((Below.refl _ w).alloc (Nat.le_refl _) _).alloc (by simp) _
 have HBL := Lib.hid hbl
 have H0 : Hid (W.heap[w.heap.size]? = some (.cells #[.slice AF nF cF, .slice AT nT cT, .slice AS nS cS, .slice AE nE cE] 29 (0, 0))) := Lib.hid (by rw [HW.out, Below.heap_alloc _ _ _ (by simp)]; exact heap_new w _)
 have H1 : Hid (W.heap[w.heap.size + 1]? = some (.cells #[.slice none 0 0, .slice none 0 0, .slice none 0 0, .slice none 0 0] 29 (0, 0))) := Lib.hid (by
  rw [HW.out]
  have h := heap_new (w.alloc (.cells #[.slice AF nF cF, .slice AT nT cT, .slice AS nS cS, .slice AE nE cE] 29)) (.cells #[.slice none 0 0, .slice none 0 0, .slice none 0 0, .slice none 0 0] 29)
  rw [World.size_alloc] at h; exact h)
 have HP := Lib.hid (h.below (hbl.mono hB))
 have HBB0 : Hid (B ≤ W.heap.size) := Lib.hid (Nat.le_trans hB hbl.size)
 have HSZ := Lib.hid h.sz
 clear h hbl hB
 have HCE : Hid (∀ Z, Below W.heap.size W Z → (Z.cell? ⟨w.heap.size, 0, none⟩ = some (.slice AF nF cF) ∧ Z.cell? ⟨w.heap.size, 1, none⟩ = some (.slice AT nT cT) ∧ Z.cell? ⟨w.heap.size, 2, none⟩ = some (.slice AS nS cS) ∧ Z.cell? ⟨w.heap.size, 3, none⟩ = some (.slice AE nE cE)) ∧ Z.heap[w.heap.size + 1]? = some (.cells #[.slice none 0 0, .slice none 0 0, .slice none 0 0, .slice none 0 0] 29 (0, 0))) := Lib.hid (fun Z hZ => ⟨row4 ((hZ.block w.heap.size (heapE_lt H0.out)).trans H0.out), (hZ.block (w.heap.size + 1) (heapE_lt H1.out)).trans H1.out⟩)
 have HC1 := Lib.hid (fun (X : World) (hX : Below W.heap.size W X) => cloneIR (w := X) (c := cF) (HP.out.fs.below (hX.mono HBB0.out)) (Nat.le_trans HBB0.out hX.size) (by have := HSZ.out; omega))
 have HC2 := Lib.hid (fun (X : World) (hX : Below W.heap.size W X) => cloneIR (w := X) (c := cT) (HP.out.ts.below (hX.mono HBB0.out)) (Nat.le_trans HBB0.out hX.size) (by have := HSZ.out; omega))
 have HC3 := Lib.hid (fun (X : World) (hX : Below W.heap.size W X) => cloneSR (w := X) (c := cS) (HP.out.S.below (hX.mono HBB0.out)) (Nat.le_trans HBB0.out hX.size) (by have := HSZ.out; omega))
 have HC4 := Lib.hid (fun (X : World) (hX : Below W.heap.size W X) => cloneER (w := X) (c := cE) (HP.out.E.below (hX.mono HBB0.out)) (Nat.le_trans HBB0.out hX.size) (by have := HSZ.out; omega))
 obtain ⟨⟨q0, q1, q2, q3⟩, qh⟩ := HCE.out W (Below.refl _ _)
 obtain ⟨r0, r1, r2, r3⟩ := row4 qh
 go_enter Try.func70, Try.ntmps70
 go_upto_region 1 with fail
 change Code.wp _ _ _ _ ((w.alloc (.cells #[.slice AF nF cF, .slice AT nT cT, .slice AS nS cS, .slice AE nE cE] 29)).alloc (.cells #[.slice none 0 0, .slice none 0 0, .slice none 0 0, .slice none 0 0] 29))
 rw [← HW.out]
 clear qh r0 r1 r2 r3
 go_region_held3 (fun W' => W'.cell? ⟨w.heap.size, 0, none⟩ = some (.slice AF nF cF) ∧ W'.cell? ⟨w.heap.size, 1, none⟩ = some (.slice AT nT cT) ∧ W'.cell? ⟨w.heap.size, 2, none⟩ = some (.slice AS nS cS) ∧ W'.cell? ⟨w.heap.size, 3, none⟩ = some (.slice AE nE cE)) ((first | exact ⟨q0, q1, q2, q3⟩ | exact (HCE.out _ HBD.out).1 | exact (HCE.out _ HBC.out).1 | exact (HCE.out _ HBB.out).1 | exact (HCE.out _ HBA.out).1 | go_keep)) (first
  | (go_at_call 85; refine (HC4.out _ HBC.out).mono ?_; rintro e wd ⟨A4, c4, rfl, ho, hb⟩; (have HBD : Hid (Below W.heap.size W wd) := Lib.hid (HBC.out.trans (hb.mono HBC.out.size))); (have HO4 := Lib.hid (ho.less HBC.out.size)); (have HO3d := Lib.hid (HO3c.out.kept hb)); (have HO2d := Lib.hid (HO2c.out.kept hb)); (have HO1d := Lib.hid (HO1c.out.kept hb)); clear hb ho; (obtain ⟨⟨u0, u1, u2, u3⟩, uh⟩ := HCE.out _ HBD.out); (obtain ⟨t0, t1, t2, t3⟩ := row4 uh); (have tf := free_row uh); clear uh)
  | (go_at_call 84; refine (HC3.out _ HBB.out).mono ?_; rintro e wc ⟨A3, c3, rfl, ho, hb⟩; (have HBC : Hid (Below W.heap.size W wc) := Lib.hid (HBB.out.trans (hb.mono HBB.out.size))); (have HO3c := Lib.hid (ho.less HBB.out.size)); (have HO2c := Lib.hid (HO2b.out.kept hb)); (have HO1c := Lib.hid (HO1b.out.kept hb)); clear hb ho; (obtain ⟨⟨u0, u1, u2, u3⟩, uh⟩ := HCE.out _ HBC.out); (obtain ⟨t0, t1, t2, t3⟩ := row4 uh); clear uh)
  | (go_at_call 71; refine (HC2.out _ HBA.out).mono ?_; rintro e wb ⟨A2, c2, rfl, ho, hb⟩; (have HBB : Hid (Below W.heap.size W wb) := Lib.hid (HBA.out.trans (hb.mono HBA.out.size))); (have HO2b := Lib.hid (ho.less HBA.out.size)); (have HO1b := Lib.hid (HO1a.out.kept hb)); clear hb ho; (obtain ⟨⟨u0, u1, u2, u3⟩, uh⟩ := HCE.out _ HBB.out); (obtain ⟨t0, t1, t2, t3⟩ := row4 uh); clear uh)
  | (go_at_call 71; refine (HC1.out _ (Below.drewN' (Below.refl _ W) 1)).mono ?_; rintro e wa ⟨A1, c1, rfl, ho, hb⟩; (have HBA : Hid (Below W.heap.size W wa) := Lib.hid ((Below.drewN' (Below.refl _ W) 1).trans hb)); (have HO1a := Lib.hid (OwnF.less ho (show W.heap.size ≤ _ from Nat.le_refl _))); clear hb ho; (obtain ⟨⟨u0, u1, u2, u3⟩, uh⟩ := HCE.out _ HBA.out); (obtain ⟨t0, t1, t2, t3⟩ := row4 uh); clear uh))
 have HUH := Lib.hid (HCE.out _ HBD.out).2
 have HFH := Lib.hid (set4_same (a := .slice A1 nF c1) (b := .slice A2 nT c2) (c := .slice A3 nS c3) (d := .slice A4 nE c4) HUH.out)
 have HPO : Hid (PlO wd W.heap.size A1 nF c1 A2 nT c2 A3 nS c3 A4 nE c4 p) := Lib.hid ⟨HO1d.out, HO2d.out, HO3d.out, HO4.out, HSZ.out⟩
 have HPF := Lib.hid ((HPO.out.apart HUH.out (by decide) (by decide) (by decide) (fun k _ hne => set4_other (a := .slice A1 nF c1) (b := .slice A2 nT c2) (c := .slice A3 nS c3) (d := .slice A4 nE c4) hne)).less HBL.out.size)
 have HBF := Lib.hid (((((HBL.out.trans (HBD.out.mono HBL.out.size)).setCell (p := ⟨w.heap.size + 1, 0, none⟩) (by show w.heap.size ≤ w.heap.size + 1; omega) (.slice A1 nF c1)).setCell (p := ⟨w.heap.size + 1, 1, none⟩) (by show w.heap.size ≤ w.heap.size + 1; omega) (.slice A2 nT c2)).setCell (p := ⟨w.heap.size + 1, 2, none⟩) (by show w.heap.size ≤ w.heap.size + 1; omega) (.slice A3 nS c3)).setCell (p := ⟨w.heap.size + 1, 3, none⟩) (by show w.heap.size ≤ w.heap.size + 1; omega) (.slice A4 nE c4))
 clear q0 q1 q2 q3 u0 u1 u2 u3 t0 t1 t2 t3 tf
 go_wp2_with fail
 refine bodyPost_ret (v := .agg #[.slice A1 nF c1, .slice A2 nT c2, .slice A3 nS c3, .slice A4 nE c4]) ?_ rfl ⟨A1, c1, A2, c2, A3, c3, A4, c4, rfl, HPF.out, HBF.out⟩
 exact results_cell_row rfl _ _ (w.heap.size + 1) _ _ _ _ rfl HFH.out Try.underlying29 rfl (by kernel_rfl)
end Go.Proofs.Ytolgmoaoheflcaa.Sa
