/-
  CONTRACTS: undo, do.
-/
import Derived.Test.YtjppaonaiafgeaaACt
namespace Go.Proofs.Ytjppaonaiafgeaa
open Go.RowKit
open FlP GaP
set_option linter.unusedVariables false
set_option linter.unusedSimpArgs false
set_option maxRecDepth 10000
attribute [local go_sem] run_store_cx
theorem row3 {w : World} {g : Nat} {x y z : Value} {t : TypeId} (h : w.heap[g]? = some (.cells #[x, y, z] t (0, 0))) : w.cell? ⟨g, 0, none⟩ = some x ∧ w.cell? ⟨g, 1, none⟩ = some y ∧ w.cell? ⟨g, 2, none⟩ = some z := by
  have h2 := cells_of h
  exact ⟨h2 0 _ rfl, h2 1 _ rfl, h2 2 _ rfl⟩
def nS (s : Int × Int) : Int × Int := (-s.1, -s.2)
structure OkS (p0 s : Int × Int) : Prop where
  hs : s = (1, 1) ∨ s = (1, 0)
  a : Pl p0
  b : Pl (add2 p0 s)
def plc (p0 s : Int × Int) : Option Bool → Int × Int
  | some false => add2 p0 s
  | _ => p0
def enK (s : Int × Int) : Option Bool → Option En
  | none => none
  | some false => some ⟨false, 0, fl s.1, fl s.2⟩
  | some true => some ⟨true, 0, 0, 0⟩
def FS (w : World) (M : Nat → Prop) (fb mb K : Nat) (k : Int) (p0 s : Int × Int) (κ : Option Bool) (l : List Od) (ch : Int) : Prop := ∃ K' E, K' ≤ K ∧ Fl w M fb mb K' (plc p0 s κ) E l ch ∧ E k = enK s κ
theorem OkS.st {p0 s : Int × Int} (h : OkS p0 s) : St s ∧ St (nS s) := by
  rcases h.hs with rfl | rfl <;> exact ⟨⟨by decide, by decide, by decide, by decide⟩, ⟨by decide, by decide, by decide, by decide⟩⟩
theorem add_neg (p s : Int × Int) : add2 (add2 p s) (nS s) = p := by
  unfold add2 nS
  ext
  · show p.1 + s.1 + -s.1 = p.1; omega
  · show p.2 + s.2 + -s.2 = p.2; omega
theorem lit1c (w : World) (s : Int × Int) : RdC (w.alloc (.cells #[.complex .f64 (fl s.1) (fl s.2)] 26)) (w.heap.size + 1) (some ⟨w.heap.size, 0, none⟩) 1 [s] := lit1 w s
theorem back_any {w : World} {B c : Nat} {A : Option Addr} {s : Int × Int} (hs : s = (1, 1) ∨ s = (1, 0)) (hx : RdC w B A 1 [s]) (hB : B ≤ w.heap.size) :
    Calls Try.prog 24 #[.slice A 1 c] w fun e w' => ∃ g c', e = .returned (.tuple #[.slice (some ⟨g, 0, none⟩) 1 c', .int .i64 0]) ∧ w'.cell? ⟨g, 0, none⟩ = some (cv (nS s)) ∧ Below w.heap.size w w' := by
  rcases hs with rfl | rfl
  · exact back11 hx hB
  · exact back10 hx hB
theorem put_same (E : Int → Option En) (k : Int) (e : En) : putF E k e k = some e := if_pos rfl
theorem below_drew {B : Nat} {w w' : World} (h : Below B w w') : Below B w w'.drew := ⟨h.os, h.tape, h.output, h.size, h.block⟩
set_option maxHeartbeats 8000000 in
theorem undo_any {w : World} {M : Nat → Prop} {fb mb K : Nat} {k : Int} {p0 s : Int × Int} {κ : Option Bool} {l : List Od} {ch : Int} (ok : OkS p0 s) (h : FS w M fb mb K k p0 s κ l ch) (hK : K ≤ 900000) (hk0 : -9223372036854775808 ≤ k) (hk1 : k ≤ 9223372036854775807) (h0 : 0 ≤ ch) (h1 : ch ≤ 1000) :
    Calls Try.prog 21 #[.pointer (some ⟨fb, 0, none⟩), .int .i64 k] w fun e w' => e = .returned (.int .i64 0) ∧ FS w' M fb mb (K + 1) k p0 s (some true) l (if κ = some false then ch + 1 else ch) ∧ Fr w w' M := by
  obtain ⟨K', E, hK', ⟨pb, cp, AL, nL, cL, hx, hmy⟩, hE⟩ := h
  have HMY := Lib.hid hmy
  have HX := Lib.hid hx
  have HE := Lib.hid hE
  have OK := Lib.hid ok
  have hlk := hx.look hk0 hk1
  obtain ⟨c0, c1, c2, c3⟩ := hx.c
  have HLT : Hid (mb < fb ∧ fb < w.heap.size) := Lib.hid ⟨hx.lt, hx.dlt⟩
  have HKB : Hid (K' ≤ 900000) := Lib.hid (by omega)
  have HH : Hid (0 ≤ ch ∧ ch ≤ 1000) := Lib.hid ⟨h0, h1⟩
  have HKK : Hid (-9223372036854775808 ≤ k ∧ k ≤ 9223372036854775807) := Lib.hid ⟨hk0, hk1⟩
  have HK2 : Hid (K' ≤ K) := Lib.hid hK'
  unfold enAt at hlk
  rw [hE] at hlk
  clear hmy hx hE ok hk0 hk1 h0 h1 hK hK'
  rcases κ with _ | _ | _
  · have hlk' : (Instr.lookup 38 (.map (some mb)) (.int .i64 k) true).run Try.prog w = .ok (.tuple #[.agg #[.bool false, .int .i64 0, .complex .f64 0 0], .bool false]) w := hlk
    obtain ⟨V, HV⟩ : ∃ V, Hid (V = w.alloc (.cells #[.bool false, .int .i64 0, .complex .f64 0 0] 51)) := ⟨_, Lib.hid rfl⟩
    have HBV : Hid (Below w.heap.size w V) := Lib.hid (by rw [HV.out]; exact (Below.refl _ w).alloc (Nat.le_refl _) _)
    have HXV := Lib.hid (HX.out.kept HBV.out)
    obtain ⟨Z, hup, hxz, hgz⟩ := HXV.out.put (by have := HKB.out; omega) HKK.out.1 HKK.out.2 ⟨true, 0, 0, 0⟩
    have hup' : (Instr.mapUpdate 38 (.map (some mb)) (.int .i64 k) (.agg #[.bool true, .int .i64 0, .complex .f64 0 0])).run Try.prog V = .ok () Z := hup
    have HXZ := Lib.hid hxz
    have HBZ : Hid (Fr w Z M) := Lib.hid ((Fr.of_below HBV.out).same (Fr.grown hgz (fun g hg => by injection hg with hg; subst hg; exact HMY.out.2.1)))
    obtain ⟨d0, d1, d2, d3⟩ := HXV.out.c
    clear hlk hup hxz hgz
    go_enter Try.func21, Try.ntmps21
    go_upto_region 2 with fail
    change Code.wp _ _ _ _ (w.alloc (.cells #[.bool false, .int .i64 0, .complex .f64 0 0] 51))
    rw [← HV.out]
    go_wp2_with fail
    go_ret
    exact ⟨rfl, ⟨K' + 1, _, by have := HK2.out; omega, ⟨pb, cp, AL, nL, cL, HXZ.out, HMY.out⟩, put_same _ _ _⟩, HBZ.out⟩
  · have hlk' : (Instr.lookup 38 (.map (some mb)) (.int .i64 k) true).run Try.prog w = .ok (.tuple #[.agg #[.bool false, .int .i64 0, .complex .f64 (fl s.1) (fl s.2)], .bool true]) w := hlk
    obtain ⟨V, HV⟩ : ∃ V, Hid (V = w.alloc (.cells #[.bool false, .int .i64 0, .complex .f64 (fl s.1) (fl s.2)] 51)) := ⟨_, Lib.hid rfl⟩
    have HBV : Hid (Below w.heap.size w V) := Lib.hid (by rw [HV.out]; exact (Below.refl _ w).alloc (Nat.le_refl _) _)
    have HXV := Lib.hid (HX.out.kept HBV.out)
    have hv := heap_new w (.cells #[.bool false, .int .i64 0, .complex .f64 (fl s.1) (fl s.2)] 51)
    rw [← HV.out] at hv
    have HVN := Lib.hid hv
    obtain ⟨v0, v1, v2⟩ := row3 hv
    have HBK := Lib.hid (back_any (c := 1) OK.out.hs (lit1c V s) (by simp))
    obtain ⟨U, HU⟩ : ∃ U, Hid (U = V.alloc (.cells #[.complex .f64 (fl s.1) (fl s.2)] 26)) := ⟨_, Lib.hid rfl⟩
    have HBU : Hid (Below w.heap.size w U) := Lib.hid (by rw [HU.out]; exact HBV.out.alloc HBV.out.size _)
    have HUN : Hid (U.heap[w.heap.size]? = some (.cells #[.bool false, .int .i64 0, .complex .f64 (fl s.1) (fl s.2)] 51 (0, 0))) := Lib.hid (by rw [HU.out, Below.heap_alloc _ _ _ (heapE_lt hv)]; exact hv)
    clear hlk hv
    go_enter Try.func21, Try.ntmps21
    go_upto_region 2 with fail
    change Code.wp _ _ _ _ (w.alloc (.cells #[.bool false, .int .i64 0, .complex .f64 (fl s.1) (fl s.2)] 51))
    rw [← HV.out]
    clear c0 c1 c2 c3
    go_wp2_with fail
    refine HBK.out.mono ?_
    rintro e w2 ⟨g, c', rfl, hcg, hb2⟩
    rw [← HU.out] at hb2
    replace hcg : w2.cell? ⟨g, 0, none⟩ = some (.complex .f64 (fl (nS s).1) (fl (nS s).2)) := hcg
    have HB2 : Hid (Below w.heap.size w w2) := Lib.hid (HBU.out.trans (hb2.mono HBU.out.size))
    have HX2 := Lib.hid (HX.out.kept HB2.out)
    have hv2 : w2.heap[w.heap.size]? = some (.cells #[.bool false, .int .i64 0, .complex .f64 (fl s.1) (fl s.2)] 51 (0, 0)) := (hb2.block _ (heapE_lt HUN.out)).trans HUN.out
    clear v0 v1 v2
    obtain ⟨v0, v1, v2⟩ := row3 hv2
    have HMV := Lib.hid (move_any (w := w2.drewN 1) (M := M) ⟨pb, cp, AL, nL, cL, HX2.out.drewN 1, HMY.out⟩ OK.out.st.2 (show Pl (add2 p0 s) from OK.out.b) (by show Pl (add2 (add2 p0 s) (nS s)); rw [add_neg]; exact OK.out.a) HH.out.1 HH.out.2)
    clear hb2 hv2 HBK
    go_wp2_with fail
    go_region_law (first
      | (go_simp; go_at_call 22; refine HMV.out.mono ?_; rintro e w3 ⟨rfl, hfl3, hb3⟩; (obtain ⟨pb3, cp3, AL3, nL3, cL3, hx3, hmy3⟩ := hfl3); (have HX3 := Lib.hid hx3); (have HMY3 := Lib.hid hmy3); (have HB3 : Hid (Fr w w3 M) := Lib.hid ((Fr.of_below HB2.out).same ⟨hb3.os, hb3.tape, hb3.output, hb3.size, hb3.block⟩)); clear hb3 hx3 hmy3))
    all_goals (obtain ⟨Z, hup, hxz, hgz⟩ := HX3.out.put (by have := HKB.out; omega) HKK.out.1 HKK.out.2 ⟨true, 0, 0, 0⟩)
    all_goals (have hup' : (Instr.mapUpdate 38 (.map (some mb)) (.int .i64 k) (.agg #[.bool true, .int .i64 0, .complex .f64 0 0])).run Try.prog w3 = .ok () Z := hup)
    all_goals (have HXZ := Lib.hid hxz)
    all_goals (have HBZ : Hid (Fr w Z M) := Lib.hid (HB3.out.same (Fr.grown hgz (fun g hg => by injection hg with hg; subst hg; exact HMY3.out.2.1))))
    all_goals (obtain ⟨d0, d1, d2, d3⟩ := HX3.out.c)
    all_goals (clear hup hxz hgz v0 v1 v2 hcg)
    all_goals (go_wp2_with fail)
    all_goals go_ret
    all_goals exact ⟨rfl, ⟨K' + 1, _, by have := HK2.out; omega, ⟨pb3, cp3, AL3, nL3, cL3, by have h := HXZ.out; rw [show add2 (plc p0 s (some false)) (nS s) = plc p0 s (some true) from add_neg p0 s] at h; exact h, HMY3.out⟩, put_same _ _ _⟩, HBZ.out⟩
  · have hlk' : (Instr.lookup 38 (.map (some mb)) (.int .i64 k) true).run Try.prog w = .ok (.tuple #[.agg #[.bool true, .int .i64 0, .complex .f64 0 0], .bool true]) w := hlk
    obtain ⟨V, HV⟩ : ∃ V, Hid (V = w.alloc (.cells #[.bool true, .int .i64 0, .complex .f64 0 0] 51)) := ⟨_, Lib.hid rfl⟩
    have HBV : Hid (Below w.heap.size w V) := Lib.hid (by rw [HV.out]; exact (Below.refl _ w).alloc (Nat.le_refl _) _)
    have HXV := Lib.hid (HX.out.kept HBV.out)
    have hv := heap_new w (.cells #[.bool true, .int .i64 0, .complex .f64 0 0] 51)
    rw [← HV.out] at hv
    obtain ⟨v0, v1, v2⟩ := row3 hv
    obtain ⟨Z, hup, hxz, hgz⟩ := HXV.out.put (by have := HKB.out; omega) HKK.out.1 HKK.out.2 ⟨true, 0, 0, 0⟩
    have hup' : (Instr.mapUpdate 38 (.map (some mb)) (.int .i64 k) (.agg #[.bool true, .int .i64 0, .complex .f64 0 0])).run Try.prog V = .ok () Z := hup
    have HXZ := Lib.hid hxz
    have HBZ : Hid (Fr w Z M) := Lib.hid ((Fr.of_below HBV.out).same (Fr.grown hgz (fun g hg => by injection hg with hg; subst hg; exact HMY.out.2.1)))
    obtain ⟨d0, d1, d2, d3⟩ := HXV.out.c
    clear hlk hup hxz hgz hv
    go_enter Try.func21, Try.ntmps21
    go_upto_region 2 with fail
    change Code.wp _ _ _ _ (w.alloc (.cells #[.bool true, .int .i64 0, .complex .f64 0 0] 51))
    rw [← HV.out]
    go_wp2_with fail
    go_ret
    exact ⟨rfl, ⟨K' + 1, _, by have := HK2.out; omega, ⟨pb, cp, AL, nL, cL, HXZ.out, HMY.out⟩, put_same _ _ _⟩, HBZ.out⟩
end Go.Proofs.Ytjppaonaiafgeaa
