/-
  CONTRACTS: Deliver of the first, Places, Changes, Key.
-/
import Derived.Test.YtjppaonaiafgeaaADe
namespace Go.Proofs.Ytjppaonaiafgeaa
open Go.RowKit
open FlP GaP
set_option linter.unusedVariables false
set_option linter.unusedSimpArgs false
set_option maxRecDepth 10000
attribute [local go_sem] run_store_cx
def GoodO (k : Int) (s : Int × Int) (o : Od) : Prop := o.key = k ∧ o.svc = 0 ∧ (o.undo = false → o.re = fl s.1 ∧ o.im = fl s.2)
set_option maxHeartbeats 16000000 in
theorem deliver_any {w : World} {M : Nat → Prop} {fb mb K : Nat} {k : Int} {p0 s : Int × Int} {κ : Option Bool} {l : List Od} {ch : Int} (ok : OkS p0 s) (h : FS w M fb mb K k p0 s κ l ch) (hP : ∀ o ∈ l, GoodO k s o) (hK : K ≤ 800000) (hk0 : -9223372036854775808 ≤ k) (hk1 : k ≤ 9223372036854775807) (h0 : 0 ≤ ch) (h1 : ch ≤ 800) (hl : l.length ≤ 100000) :
    Calls Try.prog 9 #[.pointer (some ⟨fb, 0, none⟩), .int .i64 0] w fun e w' => ∃ er κ' l' ch', e = .returned (.int .i64 er) ∧ FS w' M fb mb (K + 1) k p0 s κ' l' ch' ∧ Fr w w' M ∧ ((l = [] ∧ κ' = κ ∧ l' = [] ∧ ch' = ch) ∨ ∃ o t, l = o :: t ∧ κ' = doK κ o.undo ∧ l' = t ∧ ch' = doC κ o.undo ch) := by
  obtain ⟨M0, HM0⟩ : ∃ M0 : Nat → Prop, Hid (M0 = fun g => M g ∧ g < w.heap.size) := ⟨_, Lib.hid rfl⟩
  have HMW : Hid (∀ g, M0 g → M g ∧ g < w.heap.size) := Lib.hid (by rw [HM0.out]; exact fun g h => h)
  have HFS := Lib.hid h
  have hcut : FS w M0 fb mb K k p0 s κ l ch := by rw [HM0.out]; exact h.cut
  obtain ⟨K', E, hK', ⟨pb, cp, AL, nL, cL, hx, hmy⟩, hE⟩ := hcut
  have HX := Lib.hid hx
  have HMY := Lib.hid hmy
  have OK := Lib.hid ok
  have HKK : Hid (-9223372036854775808 ≤ k ∧ k ≤ 9223372036854775807) := Lib.hid ⟨hk0, hk1⟩
  have HH : Hid (0 ≤ ch ∧ ch ≤ 800) := Lib.hid ⟨h0, h1⟩
  have HKB := Lib.hid hK
  have HLL := Lib.hid hl
  have HKL := Lib.hid hK'
  have HEE := Lib.hid hE
  have HPP := Lib.hid hP
  have hnl := hx.nl
  obtain ⟨c0, c1, c2, c3⟩ := hx.c
  clear h ok hk0 hk1 h0 h1 hK hl hx hmy hK' hE hP
  cases l with
  | nil =>
    have hn0 : nL = 0 := hnl
    subst hn0
    clear hnl
    go_enter Try.func9, Try.ntmps9
    go_wp2_with fail
    go_ret
    exact ⟨63, κ, [], ch, rfl, HFS.out.mono (by omega), Fr.refl _ _, by simp⟩
  | cons o t =>
    obtain ⟨ok1, ok2, ok3⟩ := HPP.out o (by simp)
    have hn1 : nL = t.length + 1 := hnl
    subst hn1
    have hlate := HX.out.late
    obtain ⟨g, rfl⟩ : ∃ g, AL = some ⟨g, 0, none⟩ := by
      rcases hlate.2 with ⟨e, _⟩ | ⟨g', cap, cur, hv, _⟩
      · injection e with _ e _
        exact absurd e (by omega)
      · injection hv with e1 _ _
        exact ⟨g', e1⟩
    have hrow : w.cell? ⟨g, 0, none⟩ = some (.int .i64 k) ∧ w.cell? ⟨g, 1, none⟩ = some (.int .i64 0) ∧ w.cell? ⟨g, 2, none⟩ = some (.complex .f64 o.re o.im) ∧ w.cell? ⟨g, 3, none⟩ = some (.bool o.undo) := by
      rcases hlate.2 with ⟨e, _⟩ | ⟨g', cap, cur, hv, hbg, hh, hn, hm, hsz, htk⟩
      · cases e
      · injection hv with e1 _ _
        injection e1 with e1
        injection e1 with e1 _ _
        subst e1
        have key : ∀ j u, ((o :: t).flatMap odF)[j]? = some u → w.cell? ⟨g, j, none⟩ = some u := by
          intro j u hj
          have hj2 : j < (o :: t).length * 4 := by
            rw [← flat_len]; exact (List.getElem?_eq_some_iff.1 hj).1
          have htk' : cur.toList.take ((o :: t).length * 4) = (o :: t).flatMap odF := htk
          rw [← htk', List.getElem?_take_of_lt hj2, Array.getElem?_toList] at hj
          simp [World.cell?, hh, hj]
        refine ⟨?_, ?_, ?_, ?_⟩
        · rw [← ok1]; exact key 0 _ rfl
        · rw [← ok2]; exact key 1 _ rfl
        · exact key 2 _ rfl
        · exact key 3 _ rfl
    obtain ⟨r0, r1, r2, r3⟩ := hrow
    obtain ⟨re, im, u, HO⟩ : ∃ re im u, Hid (o.re = re ∧ o.im = im ∧ o.undo = u) := ⟨_, _, _, Lib.hid ⟨rfl, rfl, rfl⟩⟩
    rw [HO.out.1, HO.out.2.1] at r2
    rw [HO.out.2.2] at r3
    have HU : Hid (u = false → re = fl s.1 ∧ im = fl s.2) := Lib.hid (by rw [← HO.out.1, ← HO.out.2.1, ← HO.out.2.2]; exact ok3)
    obtain ⟨W, HW⟩ : ∃ W, Hid (W = w.alloc (.cells #[.int .i64 k, .int .i64 0, .complex .f64 re im, .bool u] 29)) := ⟨_, Lib.hid rfl⟩
    have HBW : Hid (Below w.heap.size w W) := Lib.hid (by rw [HW.out]; exact (Below.refl _ w).alloc (Nat.le_refl _) _)
    have hw0 := heap_new w (.cells #[.int .i64 k, .int .i64 0, .complex .f64 re im, .bool u] 29)
    rw [← HW.out] at hw0
    have HN := Lib.hid hw0
    have HXW := Lib.hid (HX.out.kept HBW.out)
    have HDL := Lib.hid (delete_any HXW.out.late (by have := HLL.out; simp at this; omega))
    clear hw0 ok1 ok2 ok3 hlate hnl
    go_enter Try.func9, Try.ntmps9
    go_upto_region 4 with fail
    change Code.wp _ _ _ _ (w.alloc (.cells #[.int .i64 k, .int .i64 0, .complex .f64 re im, .bool u] 29))
    rw [← HW.out]
    clear c0 c1 c2 c3 r0 r1 r2 r3
    obtain ⟨c0, c1, c2, c3⟩ := HXW.out.c
    go_wp2_with fail
    refine HDL.out.mono ?_
    rintro e w2 ⟨rfl, ho2, hg2⟩
    have HG2 := Lib.hid hg2
    have HX3 := Lib.hid (HX.out.setLate HBW.out hg2 ho2)
    have hgw : g < w.heap.size := HX.out.late.lt g rfl
    have hgf : fb + 1 ≤ g := HX.out.late.ge g rfl
    have hfw : fb < w.heap.size := HX.out.dlt
    have hWs : w.heap.size ≤ W.heap.size := HBW.out.size
    have e2 : w2.heap[fb]? = _ := (hg2.block fb (by omega) (fun e => by injection e with e; omega)).trans HXW.out.cells
    have b2 : w2.heap[w.heap.size]? = some (.cells #[.int .i64 k, .int .i64 0, .complex .f64 re im, .bool u] 29 (0, 0)) := (hg2.block w.heap.size (heapE_lt HN.out) (fun e => by injection e with e; omega)).trans HN.out
    have b3 : (w2.setCell ⟨fb, 2, none⟩ (.slice (some ⟨g, 0, none⟩) t.length cL)).heap[w.heap.size]? = some (.cells #[.int .i64 k, .int .i64 0, .complex .f64 re im, .bool u] 29 (0, 0)) := (heap_setCell_other w2 ⟨fb, 2, none⟩ w.heap.size _ (by show w.heap.size ≠ fb; omega)).trans b2
    obtain ⟨X3, HX3E⟩ : ∃ X, Hid (X = w2.setCell ⟨fb, 2, none⟩ (.slice (some ⟨g, 0, none⟩) t.length cL)) := ⟨_, Lib.hid rfl⟩
    have HF3 : Hid (FS X3 M0 fb mb K k p0 s κ t ch) := Lib.hid (by
      rw [HX3E.out]
      exact ⟨K', E, HKL.out, ⟨pb, cp, some ⟨g, 0, none⟩, t.length, cL, HX3.out, HMY.out.1, HMY.out.2.1, HMY.out.2.2.1, fun gg hgg => HMY.out.2.2.2 gg hgg⟩, HEE.out⟩)
    have HR3 : Hid (Fr w X3 M) := Lib.hid (by
      rw [HX3E.out]
      exact ((Fr.of_below HBW.out).same (Fr.grown hg2 (fun gg hgg => by injection hgg with hgg; subst hgg; exact (HMW.out _ (HMY.out.2.2.2 _ rfl)).1))).same (Fr.setCell w2 M (p := ⟨fb, 2, none⟩) (HMW.out _ HMY.out.1).1 _))
    rw [← HX3E.out] at b3
    have HDO := Lib.hid (do_any (re := re) (im := im) (u := u) OK.out HF3.out HU.out (by have := HKB.out; omega) HKK.out.1 HKK.out.2 HH.out.1 (by have := HH.out; omega))
    clear c0 c1 c2 c3
    obtain ⟨c0, c1, c2, c3⟩ := row4 e2
    have cz := free_row e2 2
    clear hg2 ho2 e2 b2 HDL hgw hgf hfw hWs
    go_upto_region 5 with fail
    change Code.wp _ _ _ _ (w2.setCell ⟨fb, 2, none⟩ (.slice (some ⟨g, 0, none⟩) t.length cL))
    rw [← HX3E.out]
    clear c0 c1 c2 c3 cz
    obtain ⟨c0, c1, c2, c3⟩ := row4 b3
    go_wp2_with fail
    refine HDO.out.mono ?_
    rintro e w4 ⟨rfl, hf4, hb4⟩
    have HF4 := Lib.hid hf4
    have HB4 := Lib.hid hb4
    clear hf4 hb4
    go_wp2_with fail
    go_ret
    exact ⟨_, _, t, _, rfl, HF4.out.wide (fun g hg => (HMW.out g hg).1), HR3.out.same (HB4.out.wide (fun g hg => (HMW.out g hg).1)), .inr ⟨o, t, rfl, by rw [HO.out.2.2], rfl, by rw [HO.out.2.2]⟩⟩
/-- 'append(s, z)', s the call's own: s grows by one. -/
theorem wpl_appCc {w : World} {ops : Array Oper} {rest : List Oper} {o : Oper} {a : Act} {Q : Exit → Act → World → Prop} (hgd : o.guard = none) (s x : Operand)
    (ho : o.op = .call { callee := .builtin .append, args := #[s, x], argTypes := #[27, 27] })
    (base : Nat) (v : Value) (n : Nat) (xs : List (Int × Int)) (hs : a.eval s = v) (hown : OwnC w base v n xs)
    (b cq : Nat) (u : Int × Int) (hx : a.eval x = .slice (some ⟨b, 0, none⟩) 1 cq) (hc : w.cell? ⟨b, 0, none⟩ = some (cv u)) (hn : n ≤ 1099511627776) (hbase : base ≤ w.heap.size)
    (h : ∀ g c w', OwnC w' base (.slice (some ⟨g, 0, none⟩) (n + 1) c) (n + 1) (xs ++ [u]) → base ≤ g → w.grownBy w' v.ownBlock → (v.ownBlock = some g ∨ g = w.heap.size) → wpList Try.prog ops Q rest (a.put o.dst (.slice (some ⟨g, 0, none⟩) (n + 1) c)) w') :
    wpList Try.prog ops Q (o :: rest) a w := by
  obtain ⟨i0, hi, hz0, hz1, hz2⟩ := info_parts infoCx
  refine wpList_append_own_at w hgd s x 27 ho base 26 i0 (.complex .f64 0 0) 1 16 Try.underlying27 hi hz0 hz1 hz2 rfl (by decide) v n _ hs hown ⟨b, 0, none⟩ 1 cq [cv u] hx rfl ?_ ?_ (by unfold maxLen; omega) (by omega) hbase ?_
  · intro j z hj
    match j, hj with
    | 0, hj => simp at hj; subst hj; simpa [Addr.add] using hc
  · intro z hz; simp at hz; subst hz; rfl
  · intro v' w' hown' hg _ hat
    have ho' : OwnC w' base v' (n + 1) (xs ++ [u]) := by unfold OwnC; rw [List.map_append]; exact hown'
    obtain ⟨g, c, rfl, hbg, _⟩ := ho'.form (by omega)
    exact h g c w' ho' hbg hg (by
      rcases hat with h | h
      · exact .inl h.symm
      · right; have : some g = some w.heap.size := h; injection this)
/-- A copy of the one place. -/
theorem clone1 {w : World} {g cp : Nat} {z : Int × Int} (hg : g < w.heap.size) (hc : w.cell? ⟨g, 0, none⟩ = some (cv z)) :
    Calls Try.prog 15 #[.slice (some ⟨g, 0, none⟩) 1 cp] w fun e w' => ∃ g' c', e = .returned (.slice (some ⟨g', 0, none⟩) 1 c') ∧ w.heap.size ≤ g' ∧ g' < w'.heap.size ∧ w'.cell? ⟨g', 0, none⟩ = some (cv z) ∧ Below w.heap.size w w' := by
  have hnil := fun (W : World) (A : Option Addr) (n c : Nat) => Lib.run_eql_slice_nil (P := Try.prog) W 27 26 A n c 0 0 Try.underlying27
  have HO : Hid (OwnC (w.alloc (.cells #[] 26)) w.heap.size (.slice (some ⟨w.heap.size, 0, none⟩) 0 0) 0 []) := Lib.hid ⟨rfl, .inr ⟨w.heap.size, 0, #[], rfl, Nat.le_refl _, heap_alloc_new _ _, Nat.le_refl _, by unfold maxLen; omega, rfl, rfl⟩⟩
  have HN : Hid ((w.alloc (.cells #[] 26)).cell? ⟨g, 0, none⟩ = some (cv z)) := Lib.hid (by
    rw [World.cell?_alloc_lt w _ ⟨g, 0, none⟩ hg]; exact hc)
  clear hc
  go_enter Try.func15, Try.ntmps15
  go_wp2_with (at_builtin; refine wpl_appCc rfl (.tmp 5) (.tmp 6) rfl w.heap.size _ 0 [] rfl HO.out g cp z rfl HN.out (by omega) (by simp) ?_; intro g' c' w1 hown hge hg1 hat)
  have HB1 : Hid (Below w.heap.size w w1) := Lib.hid (((Below.refl _ w).alloc (Nat.le_refl _) _).grown hg1 (by simp) (fun k h => by have h' : some w.heap.size = some k := h; cases h'; exact Nat.le_refl _))
  obtain ⟨b2, off2, e2, hb2, hc2⟩ := hown.rd.at_ (k := 0) (by omega)
  injection e2 with e2
  injection e2 with e21 e22 _
  subst e21 e22
  have HC2 := Lib.hid hc2
  have HGE := Lib.hid hge
  have HGL := Lib.hid hb2
  clear hown hg1 hat hc2 hge hb2
  go_wp2_with fail
  exact bodyPost_ret (results_tmp rfl _ _ _) rfl ⟨g', ⟨c', rfl⟩, HGE.out, HGL.out, HC2.out, HB1.out⟩
theorem places_any {w : World} {M : Nat → Prop} {fb mb K : Nat} {k : Int} {p0 s : Int × Int} {κ : Option Bool} {l : List Od} {ch : Int} (h : FS w M fb mb K k p0 s κ l ch) :
    Calls Try.prog 7 #[.pointer (some ⟨fb, 0, none⟩)] w fun e w' => ∃ g' c', e = .returned (.slice (some ⟨g', 0, none⟩) 1 c') ∧ w.heap.size ≤ g' ∧ g' < w'.heap.size ∧ w'.cell? ⟨g', 0, none⟩ = some (cv (plc p0 s κ)) ∧ Below w.heap.size w w' := by
  obtain ⟨K', E, hK', ⟨pb, cp, AL, nL, cL, hx, hmy⟩, hE⟩ := h
  obtain ⟨c0, c1, c2, c3⟩ := hx.c
  obtain ⟨_, r0, _, cs, hcs⟩ := hx.row
  have HCL := Lib.hid (clone1 (cp := cp) (heapE_lt hcs) r0)
  clear hx hmy hE r0 hcs
  go_enter Try.func7, Try.ntmps7
  go_wp2_with fail
  refine HCL.out.mono ?_
  rintro e w2 ⟨g', c', rfl, hge, hgl, hc, hb⟩
  have HGE := Lib.hid hge
  have HGL := Lib.hid hgl
  have HC := Lib.hid hc
  have HB := Lib.hid hb
  clear hc hb HCL hge hgl
  go_wp2_with fail
  exact bodyPost_ret (results_tmp rfl _ _ _) rfl ⟨g', c', rfl, HGE.out, HGL.out, HC.out, HB.out⟩
theorem changes_any {w : World} {M : Nat → Prop} {fb mb K : Nat} {k : Int} {p0 s : Int × Int} {κ : Option Bool} {l : List Od} {ch : Int} (h : FS w M fb mb K k p0 s κ l ch) :
    Calls Try.prog 8 #[.pointer (some ⟨fb, 0, none⟩)] w fun e w' => e = .returned (.int .i64 ch) ∧ w' = w := by
  obtain ⟨K', E, hK', ⟨pb, cp, AL, nL, cL, hx, hmy⟩, hE⟩ := h
  obtain ⟨c0, c1, c2, c3⟩ := hx.c
  clear hx hmy hE
  go_enter Try.func8, Try.ntmps8
  go_wp2_with fail
  exact bodyPost_ret (results_tmp rfl _ _ _) rfl ⟨rfl, rfl⟩
/-- Of a dead key. -/
theorem key_dead {w : World} {M : Nat → Prop} {fb mb K : Nat} {k : Int} {p0 s : Int × Int} {l : List Od} {ch : Int} (h : FS w M fb mb K k p0 s (some true) l ch) (hk0 : -9223372036854775808 ≤ k) (hk1 : k ≤ 9223372036854775807) :
    Calls Try.prog 10 #[.pointer (some ⟨fb, 0, none⟩), .int .i64 k] w fun e w' => e = .returned (.tuple #[.bool false, .bool true]) ∧ Below w.heap.size w w' := by
  obtain ⟨K', E, hK', ⟨pb, cp, AL, nL, cL, hx, hmy⟩, hE⟩ := h
  have hlk := hx.look hk0 hk1
  unfold enAt at hlk
  rw [hE] at hlk
  have hlk' : (Instr.lookup 38 (.map (some mb)) (.int .i64 k) true).run Try.prog w = .ok (.tuple #[.agg #[.bool true, .int .i64 0, .complex .f64 0 0], .bool true]) w := hlk
  obtain ⟨c0, c1, c2, c3⟩ := hx.c
  obtain ⟨V, HV⟩ : ∃ V, Hid (V = w.alloc (.cells #[.bool true, .int .i64 0, .complex .f64 0 0] 51)) := ⟨_, Lib.hid rfl⟩
  have HBV : Hid (Below w.heap.size w V) := Lib.hid (by rw [HV.out]; exact (Below.refl _ w).alloc (Nat.le_refl _) _)
  have hv := heap_new w (.cells #[.bool true, .int .i64 0, .complex .f64 0 0] 51)
  rw [← HV.out] at hv
  obtain ⟨v0, v1, v2⟩ := row3 hv
  clear hx hmy hE hlk hk0 hk1 hv
  go_enter Try.func10, Try.ntmps10
  go_upto_region 2 with fail
  change Code.wp _ _ _ _ (w.alloc (.cells #[.bool true, .int .i64 0, .complex .f64 0 0] 51))
  rw [← HV.out]
  go_wp2_with fail
  go_quiet (fail)
  go_wp2
  go_ret2
  exact ⟨rfl, ⟨HBV.out.os, HBV.out.tape, HBV.out.output, HBV.out.size, HBV.out.block⟩⟩
end Go.Proofs.Ytjppaonaiafgeaa
