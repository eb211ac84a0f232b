/-
  CONTRACT: made.Record; a record that came in, read for code's contracts; its opener.
-/
import Derived.Test.YtolgmoaoheflcaaGOp
import Derived.Test.YtolgmoaoheflcaaGAn
import Derived.Test.YtolgmoaoheflcaaHPu
import Derived.Laws.ResultCell
namespace Go.Proofs.Ytolgmoaoheflcaa
open Go.RowKit
open ByteP CodeP
open Go.ChangeShapes Go.WideShapes Go.Deep
set_option linter.unusedVariables false
set_option linter.unusedSimpArgs false
set_option maxRecDepth 10000
theorem szB_is {p : Sa.PlV} (h : Sa.szB p = true) : p.fs.length ≤ 50 ∧ p.ts.length ≤ 50 ∧ p.S.length ≤ 100 ∧ p.E.length ≤ 200 := of_decide_eq_true h
theorem rdP_of_e {w : World} {B n : Nat} {A : Option Addr} {l : List (Int × Int)} (h : Sa.RdE w B A n l) : RdP w B A n l := h
theorem rd_of_s {w : World} {B n : Nat} {A : Option Addr} {l : List Int} (h : Sa.Rd w B A n l) : Rd w B A n l := h
theorem plr_rdPl {w : World} {B : Nat} {AF AT AS AE : Option Addr} {nF nT nS nE : Nat} {p : Sa.PlV} (h : Sa.PlR w B AF nF AT nT AS nS AE nE p) (hs : Sa.szB p = true) :
    nF = p.fs.length ∧ nT = p.ts.length ∧ nS = p.S.length ∧ nE = p.E.length ∧ RdPl w B AF AT AS AE p.fs p.ts p.S p.E := by
  obtain ⟨s1, s2, s3, s4⟩ := szB_is hs
  have e1 := h.fs.len
  have e2 := h.ts.len
  have e3 := h.S.1
  have e4 := h.E.1
  exact ⟨e1.symm, e2.symm, e3.symm, e4.symm, by rw [e1]; exact rd_of_s h.fs, by rw [e2]; exact rd_of_s h.ts, by rw [e3]; exact rdP_of_e h.S, by rw [e4]; exact rdP_of_e h.E, by omega, by omega, by omega, by omega⟩
theorem set6_belowR {B : Nat} {w v : World} {g : Nat} (h : Below B w v) (hg : B ≤ g) (a b c d e f : Value) : Below B w ((((((v.setCell ⟨g, 0, none⟩ a).setCell ⟨g, 1, none⟩ b).setCell ⟨g, 2, none⟩ c).setCell ⟨g, 3, none⟩ d).setCell ⟨g, 4, none⟩ e).setCell ⟨g, 5, none⟩ f) :=
  (((((h.setCell (p := ⟨g, 0, none⟩) hg a).setCell (p := ⟨g, 1, none⟩) hg b).setCell (p := ⟨g, 2, none⟩) hg c).setCell (p := ⟨g, 3, none⟩) hg d).setCell (p := ⟨g, 4, none⟩) hg e).setCell (p := ⟨g, 5, none⟩) hg f
theorem set6_same {w : World} {g : Nat} {x0 x1 x2 x3 x4 x5 a b c d e f : Value} {t : TypeId} (h : w.heap[g]? = some (.cells #[x0, x1, x2, x3, x4, x5] t (0, 0))) : ((((((w.setCell ⟨g, 0, none⟩ a).setCell ⟨g, 1, none⟩ b).setCell ⟨g, 2, none⟩ c).setCell ⟨g, 3, none⟩ d).setCell ⟨g, 4, none⟩ e).setCell ⟨g, 5, none⟩ f).heap[g]? = some (.cells #[a, b, c, d, e, f] t (0, 0)) :=
  heap_setCell_same _ g 5 _ _ f (heap_setCell_same _ g 4 _ _ e (heap_setCell_same _ g 3 _ _ d (heap_setCell_same _ g 2 _ _ c (heap_setCell_same _ g 1 _ _ b (heap_setCell_same w g 0 _ _ a h)))))
/-- A record that came in. -/
structure RcI (w : World) (B : Nat) (kd sp : Int) (AF : Option Addr) (nF : Nat) (AT : Option Addr) (nT : Nat) (AS : Option Addr) (nS : Nat) (AE : Option Addr) (nE : Nat) (p : Sa.PlV) : Prop where
  pl : Sa.PlR w B AF nF AT nT AS nS AE nE p
section
variable {H : Type} {enc : TypeId × Value → H} {w : World} {held : Bool}
set_option maxRecDepth 20000 in
theorem open_recordS {r : Reach} {base : Nat} {v : Value} {d : DataW H} {ps : List MemPlace} (hval : Value.okWide Try.prog w r base 33 v) (h : DataW.Trod enc Try.prog w 0 (fun _ => true) held 33 v d ps) :
    ∃ (kd sp : Int) (BF : Option Addr) (mF dF : Nat) (BT : Option Addr) (mT dT : Nat) (BS : Option Addr) (mS dS : Nat) (BE : Option Addr) (mE dE : Nat) (p : Sa.PlV), v = .agg #[.int .i64 kd, .int .i64 sp, .slice BF mF dF, .slice BT mT dT, .slice BS mS dS, .slice BE mE dE] ∧ RcI w w.heap.size kd sp BF mF BT mT BS mS BE mE p := by
  obtain ⟨cs, rfl, hsz⟩ := okWide_struct Try.underlying33 hval
  obtain ⟨fuel, hf0⟩ := h
  obtain ⟨x, us1, ts1, e1, h1, us2, ts2, e2, h2, h3⟩ := Sa.opn_record hf0
  obtain ⟨BF, mF, dF, BT, mT, dT, BS, mS, dS, BE, mE, dE, e3, hp⟩ := Sa.plI.parts h3
  have h1' : us1 = [.int .i64 x.1] := h1
  have h2' : us2 = [.int .i64 x.2.1] := h2
  refine ⟨x.1, x.2.1, BF, mF, dF, BT, mT, dT, BS, mS, dS, BE, mE, dE, _, ?_, ⟨hp⟩⟩
  have e4 : cs.toList = us1 ++ ts1 := e1
  rw [show cs = (cs.toList).toArray by simp, e4, e2, e3, h1', h2']
  rfl
end
set_option maxHeartbeats 8000000 in
theorem recordM_any {w : World} {B : Nat} {kd sp : Int} {AF AT AS AE : Option Addr} {nF nT nS nE cF cT cS cE : Nat} {p : Sa.PlV} (h : Sa.PlR w B AF nF AT nT AS nS AE nE p) (hB : B ≤ w.heap.size) (hs : Sa.szB p = true) :
    Calls Try.prog 18 #[.agg #[.int .i64 kd, .int .i64 sp, .slice AF nF cF, .slice AT nT cT, .slice AS nS cS, .slice AE nE cE]] w fun e w' => Below w.heap.size w w' ∧ ∃ A' n' c', e = .returned (.agg #[.int .i64 kd, .int .i64 sp, .slice AF nF cF, .slice AT nT cT, .slice A' n' c', .slice AE nE cE]) ∧ Sa.OwnF 76 2 Sa.prF w' w.heap.size (.slice A' n' c') p.S := by
  obtain ⟨V, HV⟩ : ∃ V, Hid (V = w.alloc (.cells #[.int .i64 kd, .int .i64 sp, .slice AF nF cF, .slice AT nT cT, .slice AS nS cS, .slice AE nE cE] 33)) := ⟨_, Lib.hid rfl⟩
  have HBV : Hid (Below w.heap.size w V) := Lib.hid (by rw [HV.out]; exact (Below.refl _ w).alloc (Nat.le_refl _) _)
  have HZV : Hid (V.heap.size = w.heap.size + 1) := Lib.hid (by rw [HV.out]; simp)
  have G0 : Hid (V.heap[w.heap.size]? = some (.cells #[.int .i64 kd, .int .i64 sp, .slice AF nF cF, .slice AT nT cT, .slice AS nS cS, .slice AE nE cE] 33 (0, 0))) := Lib.hid (by rw [HV.out]; exact heap_new w _)
  obtain ⟨W, HW⟩ : ∃ W, Hid (W = V.alloc (.cells #[.int .i64 0, .int .i64 0, .slice none 0 0, .slice none 0 0, .slice none 0 0, .slice none 0 0] 55)) := ⟨_, Lib.hid rfl⟩
  have HBL : Hid (Below w.heap.size w W) := Lib.hid (by rw [HW.out]; exact HBV.out.alloc HBV.out.size _)
  have HZ : Hid (W.heap.size = w.heap.size + 2) := Lib.hid (by rw [HW.out, World.size_alloc, HZV.out])
  have H0 : Hid (W.heap[w.heap.size]? = some (.cells #[.int .i64 kd, .int .i64 sp, .slice AF nF cF, .slice AT nT cT, .slice AS nS cS, .slice AE nE cE] 33 (0, 0))) := Lib.hid (by rw [HW.out, Below.heap_alloc _ _ _ (heapE_lt G0.out)]; exact G0.out)
  have H1 : Hid (W.heap[w.heap.size + 1]? = some (.cells #[.int .i64 0, .int .i64 0, .slice none 0 0, .slice none 0 0, .slice none 0 0, .slice none 0 0] 55 (0, 0))) := Lib.hid (by
    rw [HW.out]
    have h := heap_new V (.cells #[.int .i64 0, .int .i64 0, .slice none 0 0, .slice none 0 0, .slice none 0 0, .slice none 0 0] 55)
    rw [HZV.out] at h; exact h)
  have HMP := Lib.hid (Sa.madeP_any (cF := cF) (cT := cT) (cS := cS) (cE := cE) (h.below (HBL.out.mono hB)) (Nat.le_trans hB HBL.out.size))
  have HS := Lib.hid hs
  clear h hs
  obtain ⟨x0, x1, x2, x3, x4, x5⟩ := Sa.row6 H0.out
  go_enter Try.func18, Try.ntmps18
  go_upto_region 1 with fail
  change Code.wp _ _ _ _ ((w.alloc (.cells #[.int .i64 kd, .int .i64 sp, .slice AF nF cF, .slice AT nT cT, .slice AS nS cS, .slice AE nE cE] 33)).alloc (.cells #[.int .i64 0, .int .i64 0, .slice none 0 0, .slice none 0 0, .slice none 0 0, .slice none 0 0] 55))
  rw [← HV.out, ← HW.out]
  go_wp2_with fail
  refine HMP.out.mono ?_
  rintro e w1 ⟨hb1, hor⟩
  rcases hor with ⟨hsz, _⟩ | ⟨_, A', n', c', rfl, hown⟩
  · rw [HS.out] at hsz; cases hsz
  have HB1 : Hid (Below w.heap.size w w1) := Lib.hid (HBL.out.trans (hb1.mono HBL.out.size))
  have hz1 : w.heap.size + 2 ≤ w1.heap.size := by have := hb1.size; have := HZ.out; omega
  have HO1 := Lib.hid (hown.alloc (.cells #[.slice AF nF cF, .slice AT nT cT, .slice A' n' c', .slice AE nE cE] 47))
  have HD1 : Hid (w1.heap[w.heap.size]? = _ ∧ w1.heap[w.heap.size + 1]? = _) := Lib.hid ⟨(hb1.block _ (heapE_lt H0.out)).trans H0.out, (hb1.block _ (heapE_lt H1.out)).trans H1.out⟩
  obtain ⟨Y, HY⟩ : ∃ Y, Hid (Y = w1.alloc (.cells #[.slice AF nF cF, .slice AT nT cT, .slice A' n' c', .slice AE nE cE] 47)) := ⟨_, Lib.hid rfl⟩
  have K0 : Hid (Y.heap[w.heap.size]? = some (.cells #[.int .i64 kd, .int .i64 sp, .slice AF nF cF, .slice AT nT cT, .slice AS nS cS, .slice AE nE cE] 33 (0, 0))) := Lib.hid (by rw [HY.out, Below.heap_alloc _ _ _ (by omega)]; exact HD1.out.1)
  have K1 : Hid (Y.heap[w.heap.size + 1]? = some (.cells #[.int .i64 0, .int .i64 0, .slice none 0 0, .slice none 0 0, .slice none 0 0, .slice none 0 0] 55 (0, 0))) := Lib.hid (by rw [HY.out, Below.heap_alloc _ _ _ (by omega)]; exact HD1.out.2)
  have K2 : Hid (Y.heap[w1.heap.size]? = some (.cells #[.slice AF nF cF, .slice AT nT cT, .slice A' n' c', .slice AE nE cE] 47 (0, 0))) := Lib.hid (by rw [HY.out]; exact heap_new w1 _)
  have HBY : Hid (Below w.heap.size w Y) := Lib.hid (by rw [HY.out]; exact HB1.out.alloc (by omega) _)
  rw [← HY.out] at HO1
  clear hb1 hown HMP x0 x1 x2 x3 x4 x5 HD1
  go_upto_region 2 with fail
  change Code.wp _ _ _ _ (w1.alloc (.cells #[.slice AF nF cF, .slice AT nT cT, .slice A' n' c', .slice AE nE cE] 47))
  rw [← HY.out]
  obtain ⟨x0, x1, x2, x3, x4, x5⟩ := Sa.row6 K0.out
  obtain ⟨y0, y1, y2, y3, y4, y5⟩ := Sa.row6 K1.out
  have q0 := Sa.free_row K1.out 0; have q1 := Sa.free_row K1.out 1; have q2 := Sa.free_row K1.out 2; have q3 := Sa.free_row K1.out 3; have q4 := Sa.free_row K1.out 4; have q5 := Sa.free_row K1.out 5
  obtain ⟨z0, z1, z2, z3⟩ := Sa.row4 K2.out
  clear hz1
  have HG := Lib.hid (Below.refl Y.heap.size Y)
  have HFH := Lib.hid (set6_same (a := .int .i64 kd) (b := .int .i64 sp) (c := .slice AF nF cF) (d := .slice AT nT cT) (e := .slice A' n' c') (f := .slice AE nE cE) K1.out)
  have HBF := Lib.hid (set6_belowR HBY.out (g := w.heap.size + 1) (by omega) (.int .i64 kd) (.int .i64 sp) (.slice AF nF cF) (.slice AT nT cT) (.slice A' n' c') (.slice AE nE cE))
  have hb0 : w.heap.size + 1 < W.heap.size := by have := HZ.out; omega
  have HOF := Lib.hid ((((((Sa.OwnF.setC HO1.out (p := ⟨w.heap.size + 1, 0, none⟩) hb0 (.int .i64 kd)).setC (p := ⟨w.heap.size + 1, 1, none⟩) hb0 (.int .i64 sp)).setC (p := ⟨w.heap.size + 1, 2, none⟩) hb0 (.slice AF nF cF)).setC (p := ⟨w.heap.size + 1, 3, none⟩) hb0 (.slice AT nT cT)).setC (p := ⟨w.heap.size + 1, 4, none⟩) hb0 (.slice A' n' c')).setC (p := ⟨w.heap.size + 1, 5, none⟩) hb0 (.slice AE nE cE))
  clear hb0
  go_wp2_with fail
  refine bodyPost_ret (v := .agg #[.int .i64 kd, .int .i64 sp, .slice AF nF cF, .slice AT nT cT, .slice A' n' c', .slice AE nE cE]) ?_ rfl ⟨HBF.out, A', n', c', rfl, HOF.out.less HBL.out.size⟩
  exact results_cell_row rfl _ _ (w.heap.size + 1) _ _ _ _ rfl HFH.out Try.underlying55 rfl (by kernel_rfl)
end Go.Proofs.Ytolgmoaoheflcaa
