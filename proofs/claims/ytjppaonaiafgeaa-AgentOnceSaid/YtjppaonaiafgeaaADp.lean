/-
  CONTRACT: do.
-/
import Derived.Test.YtjppaonaiafgeaaADo
namespace Go.Proofs.Ytjppaonaiafgeaa
open Go.RowKit
open FlP GaP
set_option linter.unusedVariables false
set_option linter.unusedSimpArgs false
set_option maxRecDepth 10000
attribute [local go_sem] run_store_cx
def doE (κ : Option Bool) (u : Bool) : Int := if u = true then 0 else if κ = some true then 63 else 0
def doK (κ : Option Bool) (u : Bool) : Option Bool := if u = true then some true else if κ = none then some false else κ
def doC (κ : Option Bool) (u : Bool) (ch : Int) : Int := if u = true then (if κ = some false then ch + 1 else ch) else if κ = none then ch + 1 else ch
section
variable {w w' : World} {M M' : Nat → Prop} {fb mb K K2 : Nat} {k : Int} {p0 s : Int × Int} {κ : Option Bool} {l : List Od} {ch : Int}
theorem FS.kept (h : FS w M fb mb K k p0 s κ l ch) (hb : Below w.heap.size w w') : FS w' M fb mb K k p0 s κ l ch := by
  obtain ⟨K', E, hK, ⟨pb, cp, AL, nL, cL, hx, hm⟩, hE⟩ := h
  exact ⟨K', E, hK, ⟨pb, cp, AL, nL, cL, hx.kept hb, hm⟩, hE⟩
theorem FS.mono (h : FS w M fb mb K k p0 s κ l ch) (hK : K ≤ K2) : FS w M fb mb K2 k p0 s κ l ch := by
  obtain ⟨K', E, hK', r⟩ := h
  exact ⟨K', E, by omega, r⟩
theorem FS.lt (h : FS w M fb mb K k p0 s κ l ch) : mb < fb ∧ fb < w.heap.size := by
  obtain ⟨K', E, hK', ⟨pb, cp, AL, nL, cL, hx, hm⟩, hE⟩ := h
  exact ⟨hx.lt, hx.dlt⟩
theorem FS.wide (h : FS w M fb mb K k p0 s κ l ch) (hm : ∀ g, M g → M' g) : FS w M' fb mb K k p0 s κ l ch := by
  obtain ⟨K', E, hK', ⟨pb, cp, AL, nL, cL, hx, h1, h2, h3, h4⟩, hE⟩ := h
  exact ⟨K', E, hK', ⟨pb, cp, AL, nL, cL, hx, hm _ h1, hm _ h2, hm _ h3, fun g hg => hm _ (h4 g hg)⟩, hE⟩
/-- All its blocks are there already. -/
theorem FS.cut (h : FS w M fb mb K k p0 s κ l ch) : FS w (fun g => M g ∧ g < w.heap.size) fb mb K k p0 s κ l ch := by
  obtain ⟨K', E, hK', ⟨pb, cp, AL, nL, cL, hx, h1, h2, h3, h4⟩, hE⟩ := h
  have hl := hx.lt
  have hd := hx.dlt
  obtain ⟨_, _, _, cs, hcs⟩ := hx.row
  exact ⟨K', E, hK', ⟨pb, cp, AL, nL, cL, hx, ⟨h1, hd⟩, ⟨h2, by omega⟩, ⟨h3, heapE_lt hcs⟩, fun g hg => ⟨h4 g hg, hx.late.lt g hg⟩⟩, hE⟩
end
set_option maxHeartbeats 8000000 in
theorem do_any {w : World} {M : Nat → Prop} {fb mb K re im : Nat} {k : Int} {u : Bool} {p0 s : Int × Int} {κ : Option Bool} {l : List Od} {ch : Int} (ok : OkS p0 s) (h : FS w M fb mb K k p0 s κ l ch) (hu : u = false → re = fl s.1 ∧ im = fl s.2) (hK : K ≤ 900000) (hk0 : -9223372036854775808 ≤ k) (hk1 : k ≤ 9223372036854775807) (h0 : 0 ≤ ch) (h1 : ch ≤ 1000) :
    Calls Try.prog 14 #[.pointer (some ⟨fb, 0, none⟩), .agg #[.int .i64 k, .int .i64 0, .complex .f64 re im, .bool u]] w fun e w' => e = .returned (.int .i64 (doE κ u)) ∧ FS w' M fb mb (K + 1) k p0 s (doK κ u) l (doC κ u ch) ∧ Fr w w' M := by
  obtain ⟨M0, HM0⟩ : ∃ M0 : Nat → Prop, Hid (M0 = fun g => M g ∧ g < w.heap.size) := ⟨_, Lib.hid rfl⟩
  have HMW : Hid (∀ g, M0 g → M g ∧ g < w.heap.size) := Lib.hid (by rw [HM0.out]; exact fun g h => h)
  obtain ⟨W, HW⟩ : ∃ W, Hid (W = w.alloc (.cells #[.int .i64 k, .int .i64 0, .complex .f64 re im, .bool u] 29)) := ⟨_, Lib.hid rfl⟩
  have HBW : Hid (Below w.heap.size w W) := Lib.hid (by rw [HW.out]; exact (Below.refl _ w).alloc (Nat.le_refl _) _)
  have hw0 := heap_new w (.cells #[.int .i64 k, .int .i64 0, .complex .f64 re im, .bool u] 29)
  rw [← HW.out] at hw0
  have HN := Lib.hid hw0
  have HFW : Hid (FS W M0 fb mb K k p0 s κ l ch) := Lib.hid (by rw [HM0.out]; exact h.cut.kept HBW.out)
  have HLT := Lib.hid h.lt
  have OK := Lib.hid ok
  have HKK : Hid (-9223372036854775808 ≤ k ∧ k ≤ 9223372036854775807) := Lib.hid ⟨hk0, hk1⟩
  have HH : Hid (0 ≤ ch ∧ ch ≤ 1000) := Lib.hid ⟨h0, h1⟩
  have HKB := Lib.hid hK
  obtain ⟨o0, o1, o2, o3⟩ := row4 hw0
  cases u with
  | true =>
    have HUN := Lib.hid (undo_any ok HFW.out hK hk0 hk1 h0 h1)
    clear h hw0 hu ok hk0 hk1 h0 h1 hK
    go_enter Try.func14, Try.ntmps14
    go_upto_region 1 with fail
    change Code.wp _ _ _ _ (w.alloc (.cells #[.int .i64 k, .int .i64 0, .complex .f64 re im, .bool true] 29))
    rw [← HW.out]
    go_wp2_with fail
    refine HUN.out.mono ?_
    rintro e w2 ⟨rfl, hf, hb⟩
    have HF := Lib.hid hf
    have HB : Hid (Fr w w2 M) := Lib.hid ((Fr.of_below HBW.out).same (hb.wide (fun g hg => (HMW.out g hg).1)))
    clear hf hb
    go_wp2_with fail
    go_ret
    exact ⟨rfl, HF.out.wide (fun g hg => (HMW.out g hg).1), HB.out⟩
  | false =>
    obtain ⟨rfl, rfl⟩ := hu rfl
    obtain ⟨K', E, hK', ⟨pb, cp, AL, nL, cL, hx, hmy⟩, hE⟩ := HFW.out
    have HMY := Lib.hid hmy
    have HX := Lib.hid hx
    have HK2 : Hid (K' ≤ K) := Lib.hid hK'
    have HE := Lib.hid hE
    have hlk := hx.look hk0 hk1
    unfold enAt at hlk
    rw [hE] at hlk
    obtain ⟨c0, c1, c2, c3⟩ := hx.c
    clear h hw0 ok hk0 hk1 h0 h1 hK hx hmy hK' hE hu
    rcases κ with _ | _ | _
    · have hlk' : (Instr.lookup 38 (.map (some mb)) (.int .i64 k) true).run Try.prog W = .ok (.tuple #[.agg #[.bool false, .int .i64 0, .complex .f64 0 0], .bool false]) W := hlk
      clear hlk
      go_enter Try.func14, Try.ntmps14
      go_upto_region 1 with fail
      change Code.wp _ _ _ _ (w.alloc (.cells #[.int .i64 k, .int .i64 0, .complex .f64 (fl s.1) (fl s.2), .bool false] 29))
      rw [← HW.out]
      go_upto_region 3 with fail
      obtain ⟨Y, HY⟩ : ∃ Y, Hid (Y = (W.alloc (.cells #[.bool false, .int .i64 0, .complex .f64 0 0] 51)).drew) := ⟨_, Lib.hid rfl⟩
      have HXD := Lib.hid HX.out.drew
      have HYB : Hid (Below W.heap.size W Y) := Lib.hid (by rw [HY.out]; exact below_drew ((Below.refl _ W).alloc (Nat.le_refl _) _))
      have HXY := Lib.hid (HX.out.kept HYB.out)
      have l1 := HXD.out.look HKK.out.1 HKK.out.2
      have l2 := HXY.out.look HKK.out.1 HKK.out.2
      unfold enAt at l1 l2
      rw [HE.out] at l1 l2
      replace l1 : (Instr.lookup 38 (.map (some mb)) (.int .i64 k) true).run Try.prog W.drew = .ok (.tuple #[.agg #[.bool false, .int .i64 0, .complex .f64 0 0], .bool false]) W.drew := l1
      replace l2 : (Instr.lookup 38 (.map (some mb)) (.int .i64 k) true).run Try.prog Y = .ok (.tuple #[.agg #[.bool false, .int .i64 0, .complex .f64 0 0], .bool false]) Y := l2
      obtain ⟨y0, y1, y2, y3⟩ := HXY.out.c
      obtain ⟨t0, t1, t2, t3⟩ := row4 ((HYB.out.block _ (heapE_lt HN.out)).trans HN.out)
      rw [HY.out] at l2 y0 y1 y2 y3 t0 t1 t2 t3
      go_region
      all_goals (rw [← HY.out])
      all_goals (clear l1 l2 y0 y1 y2 y3 t0 t1 t2 t3 o0 o1 o2 o3 c0 c1 c2 c3 hlk')
      all_goals (obtain ⟨y0, y1, y2, y3⟩ := HXY.out.c)
      all_goals (have hyn : Y.heap[w.heap.size]? = some (.cells #[.int .i64 k, .int .i64 0, .complex .f64 (fl s.1) (fl s.2), .bool false] 29 (0, 0)) := (HYB.out.block _ (heapE_lt HN.out)).trans HN.out)
      all_goals (obtain ⟨t0, t1, t2, t3⟩ := row4 hyn)
      all_goals (have hye : Y.heap[W.heap.size]? = some (.cells #[.bool false, .int .i64 0, .complex .f64 0 0] 51 (0, 0)) := by rw [HY.out]; exact heap_new W _)
      all_goals (obtain ⟨v0, v1, v2⟩ := row3 hye)
      all_goals (have HYN := Lib.hid hyn)
      all_goals (have HMV := Lib.hid (move_any (w := Y) (M := M0) ⟨pb, cp, AL, nL, cL, HXY.out, HMY.out⟩ OK.out.st.1 (show Pl p0 from OK.out.a) (show Pl (add2 p0 s) from OK.out.b) HH.out.1 HH.out.2))
      all_goals (clear hyn hye)
      all_goals (go_wp2_with fail)
      all_goals (refine HMV.out.mono ?_)
      all_goals (rintro e w3 ⟨rfl, hfl3, hb3⟩)
      all_goals (obtain ⟨pb3, cp3, AL3, nL3, cL3, hx3, hmy3⟩ := hfl3)
      all_goals (have HX3 := Lib.hid hx3)
      all_goals (have HMY3 := Lib.hid hmy3)
      all_goals (have hyz : Y.heap.size > w.heap.size := heapE_lt HYN.out)
      all_goals (have HN3 : Hid (w3.heap[w.heap.size]? = some (.cells #[.int .i64 k, .int .i64 0, .complex .f64 (fl s.1) (fl s.2), .bool false] 29 (0, 0))) := Lib.hid ((hb3.block _ hyz (fun hm => by have := (HMW.out _ hm).2; omega)).trans HYN.out))
      all_goals (have HB3 : Hid (Fr w w3 M) := Lib.hid ((Fr.of_below (HBW.out.trans (HYB.out.mono HBW.out.size))).same (hb3.wide (fun g hg => (HMW.out g hg).1))))
      all_goals (obtain ⟨Z, hup, hxz, hgz⟩ := HX3.out.drew.put (by have := HKB.out; have := HK2.out; omega) HKK.out.1 HKK.out.2 ⟨false, 0, fl s.1, fl s.2⟩)
      all_goals (have hup' : (Instr.mapUpdate 38 (.map (some mb)) (.int .i64 k) (.agg #[.bool false, .int .i64 0, .complex .f64 (fl s.1) (fl s.2)])).run Try.prog w3.drew = .ok () Z := hup)
      all_goals (have HXZ := Lib.hid hxz)
      all_goals (have HBZ : Hid (Fr w Z M) := Lib.hid (HB3.out.drew.same (Fr.grown hgz (fun g hg => by injection hg with hg; subst hg; exact (HMW.out _ HMY3.out.2.1).1))))
      all_goals (clear y0 y1 y2 y3 t0 t1 t2 t3 v0 v1 v2 hup hxz hgz hb3 hx3 hmy3 hyz HMV)
      all_goals (obtain ⟨y0, y1, y2, y3⟩ := HX3.out.c)
      all_goals (obtain ⟨t0, t1, t2, t3⟩ := row4 HN3.out)
      all_goals (go_upto_region 11 with fail)
      all_goals go_region
      all_goals (go_wp2_with fail)
      all_goals go_ret
      all_goals exact ⟨rfl, ⟨K' + 1, _, by have := HK2.out; omega, ⟨pb3, cp3, AL3, nL3, cL3, HXZ.out, (HMW.out _ HMY3.out.1).1, (HMW.out _ HMY3.out.2.1).1, (HMW.out _ HMY3.out.2.2.1).1, fun g hg => (HMW.out _ (HMY3.out.2.2.2 g hg)).1⟩, put_same _ _ _⟩, HBZ.out⟩
    · have hlk' : (Instr.lookup 38 (.map (some mb)) (.int .i64 k) true).run Try.prog W = .ok (.tuple #[.agg #[.bool false, .int .i64 0, .complex .f64 (fl s.1) (fl s.2)], .bool true]) W := hlk
      clear hlk
      go_enter Try.func14, Try.ntmps14
      go_upto_region 1 with fail
      change Code.wp _ _ _ _ (w.alloc (.cells #[.int .i64 k, .int .i64 0, .complex .f64 (fl s.1) (fl s.2), .bool false] 29))
      rw [← HW.out]
      go_upto_region 3 with fail
      obtain ⟨Y, HY⟩ : ∃ Y, Hid (Y = (W.alloc (.cells #[.bool false, .int .i64 0, .complex .f64 0 0] 51)).drew) := ⟨_, Lib.hid rfl⟩
      have HXD := Lib.hid HX.out.drew
      have HYB : Hid (Below W.heap.size W Y) := Lib.hid (by rw [HY.out]; exact below_drew ((Below.refl _ W).alloc (Nat.le_refl _) _))
      have HXY := Lib.hid (HX.out.kept HYB.out)
      have l1 := HXD.out.look HKK.out.1 HKK.out.2
      have l2 := HXY.out.look HKK.out.1 HKK.out.2
      unfold enAt at l1 l2
      rw [HE.out] at l1 l2
      replace l1 : (Instr.lookup 38 (.map (some mb)) (.int .i64 k) true).run Try.prog W.drew = .ok (.tuple #[.agg #[.bool false, .int .i64 0, .complex .f64 (fl s.1) (fl s.2)], .bool true]) W.drew := l1
      replace l2 : (Instr.lookup 38 (.map (some mb)) (.int .i64 k) true).run Try.prog Y = .ok (.tuple #[.agg #[.bool false, .int .i64 0, .complex .f64 (fl s.1) (fl s.2)], .bool true]) Y := l2
      obtain ⟨y0, y1, y2, y3⟩ := HXY.out.c
      obtain ⟨t0, t1, t2, t3⟩ := row4 ((HYB.out.block _ (heapE_lt HN.out)).trans HN.out)
      rw [HY.out] at l2 y0 y1 y2 y3 t0 t1 t2 t3
      go_region
      all_goals (clear l1 l2 y0 y1 y2 y3 t0 t1 t2 t3 o0 o1 o2 o3 c0 c1 c2 c3 hlk')
      all_goals (obtain ⟨Z, HZ⟩ : ∃ Z, Hid (Z = (W.alloc (.cells #[.bool false, .int .i64 0, .complex .f64 (fl s.1) (fl s.2)] 51)).drew) := ⟨_, Lib.hid rfl⟩)
      all_goals (rw [← HZ.out])
      all_goals (have hze : Z.heap[W.heap.size]? = some (.cells #[.bool false, .int .i64 0, .complex .f64 (fl s.1) (fl s.2)] 51 (0, 0)) := by rw [HZ.out]; exact heap_new W _)
      all_goals (obtain ⟨v0, v1, v2⟩ := row3 hze)
      all_goals (have HZB : Hid (Below W.heap.size W Z) := Lib.hid (by rw [HZ.out]; exact below_drew ((Below.refl _ W).alloc (Nat.le_refl _) _)))
      all_goals (clear hze)
      all_goals (go_wp2_with fail)
      all_goals go_ret
      all_goals exact ⟨rfl, ((HFW.out.kept HZB.out).wide (fun g hg => (HMW.out g hg).1)).mono (by omega), Fr.of_below (HBW.out.trans (HZB.out.mono HBW.out.size))⟩
    · have hlk' : (Instr.lookup 38 (.map (some mb)) (.int .i64 k) true).run Try.prog W = .ok (.tuple #[.agg #[.bool true, .int .i64 0, .complex .f64 0 0], .bool true]) W := hlk
      clear hlk
      go_enter Try.func14, Try.ntmps14
      go_upto_region 1 with fail
      change Code.wp _ _ _ _ (w.alloc (.cells #[.int .i64 k, .int .i64 0, .complex .f64 (fl s.1) (fl s.2), .bool false] 29))
      rw [← HW.out]
      go_upto_region 3 with fail
      obtain ⟨Y, HY⟩ : ∃ Y, Hid (Y = (W.alloc (.cells #[.bool false, .int .i64 0, .complex .f64 0 0] 51)).drew) := ⟨_, Lib.hid rfl⟩
      have HXD := Lib.hid HX.out.drew
      have HYB : Hid (Below W.heap.size W Y) := Lib.hid (by rw [HY.out]; exact below_drew ((Below.refl _ W).alloc (Nat.le_refl _) _))
      have HXY := Lib.hid (HX.out.kept HYB.out)
      have l1 := HXD.out.look HKK.out.1 HKK.out.2
      have l2 := HXY.out.look HKK.out.1 HKK.out.2
      unfold enAt at l1 l2
      rw [HE.out] at l1 l2
      replace l1 : (Instr.lookup 38 (.map (some mb)) (.int .i64 k) true).run Try.prog W.drew = .ok (.tuple #[.agg #[.bool true, .int .i64 0, .complex .f64 0 0], .bool true]) W.drew := l1
      replace l2 : (Instr.lookup 38 (.map (some mb)) (.int .i64 k) true).run Try.prog Y = .ok (.tuple #[.agg #[.bool true, .int .i64 0, .complex .f64 0 0], .bool true]) Y := l2
      obtain ⟨y0, y1, y2, y3⟩ := HXY.out.c
      obtain ⟨t0, t1, t2, t3⟩ := row4 ((HYB.out.block _ (heapE_lt HN.out)).trans HN.out)
      rw [HY.out] at l2 y0 y1 y2 y3 t0 t1 t2 t3
      go_region
      all_goals (clear l1 l2 y0 y1 y2 y3 t0 t1 t2 t3 o0 o1 o2 o3 c0 c1 c2 c3 hlk')
      all_goals (obtain ⟨Z, HZ⟩ : ∃ Z, Hid (Z = (W.alloc (.cells #[.bool true, .int .i64 0, .complex .f64 0 0] 51)).drew) := ⟨_, Lib.hid rfl⟩)
      all_goals (rw [← HZ.out])
      all_goals (have hze : Z.heap[W.heap.size]? = some (.cells #[.bool true, .int .i64 0, .complex .f64 0 0] 51 (0, 0)) := by rw [HZ.out]; exact heap_new W _)
      all_goals (obtain ⟨v0, v1, v2⟩ := row3 hze)
      all_goals (have HZB : Hid (Below W.heap.size W Z) := Lib.hid (by rw [HZ.out]; exact below_drew ((Below.refl _ W).alloc (Nat.le_refl _) _)))
      all_goals (clear hze)
      all_goals (go_wp2_with fail)
      all_goals go_ret
      all_goals exact ⟨rfl, ((HFW.out.kept HZB.out).wide (fun g hg => (HMW.out g hg).1)).mono (by omega), Fr.of_below (HBW.out.trans (HZB.out.mono HBW.out.size))⟩
end Go.Proofs.Ytjppaonaiafgeaa
