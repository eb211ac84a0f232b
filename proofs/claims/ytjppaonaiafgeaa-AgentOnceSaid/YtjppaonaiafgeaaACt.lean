/-
  CONTRACTS: move, undo, do.
-/
import Derived.Test.YtjppaonaiafgeaaAGa
import Derived.BigRegion
namespace Go.Proofs.Ytjppaonaiafgeaa
open Go.RowKit
open FlP GaP
set_option linter.unusedVariables false
set_option linter.unusedSimpArgs false
set_option maxRecDepth 10000
theorem run_store_cx {P : Program} {w : World} {a : Addr} {m : Mode} (k : FloatKind) (x y : Nat) : (store a (.complex k x y) m).run P w = stored P w a (.complex k x y) m := run_store P w a _ m rfl
attribute [local go_sem] run_store_cx
theorem lit1 (w : World) (s : Int × Int) : RdC (w.alloc (.cells #[cv s] 26)) (w.heap.size + 1) (some ⟨w.heap.size, 0, none⟩) 1 [s] := by
  have h := OwnC.rd (OwnC.lit w w.heap.size [s] (Nat.le_refl _) (by simp))
  rw [World.size_alloc] at h
  exact h
set_option maxHeartbeats 4000000 in
theorem move_any {w : World} {M : Nat → Prop} {fb mb K : Nat} {ps s : Int × Int} {E : Int → Option En} {l : List Od} {ch : Int} (h : Fl w M fb mb K ps E l ch) (hs : St s) (hp : Pl ps) (hq : Pl (add2 ps s)) (h0 : 0 ≤ ch) (h1 : ch ≤ 1000) :
    Calls Try.prog 22 #[.pointer (some ⟨fb, 0, none⟩), .int .i64 0, cv s] w fun e w' => e = .returned (.int .i64 0) ∧ Fl w' M fb mb K (add2 ps s) E l (ch + 1) ∧ Fr w w' M := by
  obtain ⟨pb, cp, AL, nL, cL, hx, hmy⟩ := h
  have HMY := Lib.hid hmy
  have HX := Lib.hid hx
  have HW := Lib.hid (walk1 (c := 1) (lit1 w s) (by simp) hs hp hq)
  obtain ⟨V, HV⟩ : ∃ V, Hid (V = w.alloc (.cells #[cv s] 26)) := ⟨_, Lib.hid rfl⟩
  rw [← HV.out] at HW
  have HBV : Hid (Below w.heap.size w V) := Lib.hid (by rw [HV.out]; exact (Below.refl _ w).alloc (Nat.le_refl _) _)
  obtain ⟨hfp, r0, rz, _⟩ := hx.row
  obtain ⟨c0, c1, c2, c3⟩ := hx.c
  rw [HV.out] at HW
  clear hx hs hp hq rz hmy
  show Calls Try.prog 22 #[.pointer (some ⟨fb, 0, none⟩), .int .i64 0, .complex .f64 (fl s.1) (fl s.2)] w _
  go_enter Try.func22, Try.ntmps22
  go_wp2_with fail
  refine HW.out.mono ?_
  rintro e w2 ⟨g, c', rfl, hg, hcg, hb2⟩
  have hb2' : Below w.heap.size w w2 := by
    have h := hb2
    rw [← HV.out] at h
    exact HBV.out.trans (h.mono HBV.out.size)
  have HX2 := Lib.hid (HX.out.kept hb2')
  replace hcg : w2.cell? ⟨g, 1, none⟩ = some (.complex .f64 (fl (add2 ps s).1) (fl (add2 ps s).2)) := hcg
  have HB2 := Lib.hid hb2'
  clear hb2 hb2' c0 c1 c2 c3 r0 HW hg
  obtain ⟨hfp2, r0, rz, _⟩ := HX2.out.row
  replace r0 : w2.cell? ⟨pb, 0, none⟩ = some (.complex .f64 (fl ps.1) (fl ps.2)) := r0
  obtain ⟨c0, c1, c2, c3⟩ := HX2.out.c
  have hlt := HX.out.lt
  have hdl := HX.out.dlt
  have HLT : Hid (mb < fb ∧ fb < pb ∧ fb < w.heap.size) := Lib.hid ⟨hlt, hfp, hdl⟩
  clear hlt hdl hfp hfp2
  go_upto_region 4 with fail
  go_region
  obtain ⟨Z, HZ⟩ : ∃ Z, Hid (Z = (w2.setCell ⟨pb, 0, none⟩ (.complex .f64 (fl (add2 ps s).1) (fl (add2 ps s).2))).drew) := ⟨_, Lib.hid rfl⟩
  rw [← HZ.out]
  have HX3 : Hid (FlX Z fb mb K pb cp AL nL cL (add2 ps s) E l ch) := Lib.hid (by rw [HZ.out]; exact (HX2.out.setPl (add2 ps s)).kept ⟨rfl, rfl, rfl, Nat.le_refl _, fun _ _ => rfl⟩)
  have HB3 : Hid (Fr w Z M) := Lib.hid (by
    rw [HZ.out]
    exact ((Fr.of_below HB2.out).same (Fr.setCell w2 M (p := ⟨pb, 0, none⟩) HMY.out.2.2.1 (.complex .f64 (fl (add2 ps s).1) (fl (add2 ps s).2)))).drew)
  clear c0 c1 c2 c3 r0 rz hcg
  obtain ⟨c0, c1, c2, c3⟩ := HX3.out.c
  have z3 := HX3.out.fz 3
  have HX4 := Lib.hid (HX3.out.setCh (ch + 1))
  have HB4 : Hid (Fr w (Z.setCell ⟨fb, 3, none⟩ (.int .i64 (ch + 1))) M) := Lib.hid (HB3.out.same (Fr.setCell Z M (p := ⟨fb, 3, none⟩) HMY.out.1 _))
  go_wp2_with fail
  go_ret
  exact ⟨rfl, ⟨pb, cp, AL, nL, cL, HX4.out, HMY.out⟩, HB4.out⟩
end Go.Proofs.Ytjppaonaiafgeaa
