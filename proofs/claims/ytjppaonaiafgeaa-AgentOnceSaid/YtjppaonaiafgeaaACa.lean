/-
  CONTRACT: Call (printed by genagca.py).
-/
import Derived.Test.YtjppaonaiafgeaaADp
namespace Go.Proofs.Ytjppaonaiafgeaa
open Go.RowKit
open FlP GaP
set_option linter.unusedVariables false
set_option linter.unusedSimpArgs false
set_option maxRecDepth 10000
attribute [local go_sem] run_store_cx
section
variable {α : Type} {E : TypeId} {z : Nat} {f : α → List Value} {w w' : World} {base : Nat} {v : Value} {l : List α}
theorem stepF_apps {S : TypeId} {bytes : Nat} {zero : Value} (hz : ∀ x, (f x).length = z) (h1c : ∀ x, ∀ u ∈ f x, u.oneCell' = true) (hu : Try.prog.underlying S = some (.slice E)) (hinfo : (Try.prog.info? E).map (fun i => (i.zero, i.size, i.bytes)) = some (some zero, z, bytes)) (hzs : zero.cells.size = z) (hz0 : 0 < z) (hby : bytes ≤ 100000)
  {o : Oper} {a : Act} {K : Act → World → Prop} {Q : Exit → Act → World → Prop} {ops : Array Oper} {Ex : Prop} (hgd : o.guard = none) (s x : Operand)
  (ho : o.op = .call { callee := .builtin .append, args := #[s, x], argTypes := #[S, S] })
  (base : Nat) (v : Value) (l : List α) (hs : a.eval s = v) (hown : OwnF E z f w base v l)
  (b m d : Nat) (ys : List α) (hx : a.eval x = .slice (some ⟨b, 0, none⟩) m d) (hm : ys.length = m) (hm0 : 0 < m) (hc : ∀ j u, (ys.flatMap f)[j]? = some u → w.cell? ⟨b, j, none⟩ = some u) (hn : l.length + m ≤ 1000000000) (hbase : base ≤ w.heap.size)
  (h : ∀ g c w', OwnF E z f w' base (.slice (some ⟨g, 0, none⟩) (l.length + m) c) (l ++ ys) → w.grownBy w' v.ownBlock → (v.ownBlock = some g ∨ g = w.heap.size) → K (a.put o.dst (.slice (some ⟨g, 0, none⟩) (l.length + m) c)) w') :
  if Region.wanted o (yielded ops a.tmps) = true then Oper.wp Try.prog o a w K Q else Ex := by
 have hw : Region.wanted o (yielded ops a.tmps) = true := by simp [Region.wanted, hgd]
 rw [if_pos hw]
 obtain ⟨i0, hi, hz0', hz1, hz2⟩ := info_parts hinfo
 obtain ⟨v', w', hr, hown', hg, _, hat⟩ := run_append_own_at (P := Try.prog) w base S o.type E i0 zero z bytes hu hi hz0' hz1 hz2 hzs hz0 v l.length _ hown ⟨b, 0, none⟩ m d (ys.flatMap f) (by rw [flatF_len hz, hm]) (by
  intro j u hju
  have ha : (Addr.add ⟨b, 0, none⟩ j) = ⟨b, j, none⟩ := by
   unfold Addr.add
   by_cases h0 : j = 0 <;> simp [h0]
  rw [ha]; exact hc j u hju) (fun u hu => by obtain ⟨x, _, hx⟩ := List.mem_flatMap.1 hu; exact h1c x u hx) (by unfold maxLen; omega) (by have := Nat.mul_le_mul (show l.length + m ≤ 1000000000 from hn) hby; omega) hbase
 unfold Oper.wp execOp
 simp only [ho, resolve, invoke, builtin, Sem.run_bind, Sem.run_pure, Result.andThen_ok, List.map_toArray, List.map_cons, List.map_nil, hs, hx, hr]
 have ho' : OwnF E z f w' base v' (l ++ ys) := by unfold OwnF; rw [List.length_append, List.flatMap_append, hm]; exact hown'
 obtain ⟨g, c, hv, _, _⟩ := World.ownsRow.form hown' (by omega)
 subst hv
 refine h g c w' ho' hg ?_
 rcases hat with e | e
 ·exact .inl e.symm
 ·right
  have e2 : some g = some w.heap.size := e
  injection e2
end
/-- The rows of those that wait are another. -/
theorem FlX.setLate {w w1 w2 : World} {fb mb K pb cp nL cL g c2 n2 : Nat} {AL : Option Addr} {ps : Int × Int} {E : Int → Option En} {l l2 : List Od} {ch : Int} (h : FlX w fb mb K pb cp AL nL cL ps E l ch) (h1 : Below w.heap.size w w1) (hg : w1.grownBy w2 (Value.slice AL nL cL).ownBlock) (ho : OwnF 29 4 odF w2 (fb + 1) (.slice (some ⟨g, 0, none⟩) n2 c2) l2) :
    FlX (w2.setCell ⟨fb, 2, none⟩ (.slice (some ⟨g, 0, none⟩) n2 c2)) fb mb K pb cp (some ⟨g, 0, none⟩) n2 c2 ps E l2 ch := by
  have hx := h.kept h1
  obtain ⟨D, hm, hD⟩ := hx.map
  have hl := hx.lt
  obtain ⟨hfp, _, _, cs, hcs⟩ := hx.row
  have hb : ∀ k, (∀ gg, (Value.slice AL nL cL).ownBlock = some gg → k ≠ gg) → k < w1.heap.size → w2.heap[k]? = w1.heap[k]? := fun k hk hk2 => hg.block k hk2 (fun e => hk k e.symm rfl)
  have hlate := hx.late
  have hfb : w2.heap[fb]? = w1.heap[fb]? := hb fb (fun gg hgg => by have := hlate.ge gg hgg; omega) hx.dlt
  have hmb : w2.heap[mb]? = w1.heap[mb]? := hb mb (fun gg hgg => by have := hlate.ge gg hgg; omega) (by have := hx.dlt; omega)
  have hpb : w2.heap[pb]? = w1.heap[pb]? := hb pb (fun gg hgg e => by
    subst e
    rcases hlate.2 with h | ⟨b, cap, cur, hv, hbg, hh, r⟩
    · rw [h.1] at hgg; cases hgg
    · have e2 : b = pb := by
        rw [hv] at hgg
        simpa [Value.ownBlock] using hgg
      subst e2
      rw [hcs] at hh
      injection hh with hh
      injection hh with _ h2 _
      exact absurd h2 (by decide)) (heapE_lt hcs)
  have hs2 : w2.heap[fb]? = some (.cells #[.slice (some ⟨pb, 0, none⟩) 1 cp, .map (some mb), .slice AL nL cL, .int .i64 ch] 41 (0, 0)) := hfb.trans hx.cells
  have hset : ∀ k, k ≠ fb → (w2.setCell ⟨fb, 2, none⟩ (.slice (some ⟨g, 0, none⟩) n2 c2)).heap[k]? = w2.heap[k]? := fun k hk => heap_setCell_other w2 ⟨fb, 2, none⟩ k _ hk
  refine ⟨hl, heap_setCell_same w2 fb 2 _ _ _ hs2, ?_, ho.apart hs2 (by decide) (fun k _ hk => hset k hk), D, own_map_kept hm ((hset mb (by omega)).trans hmb), hD⟩
  have hp := hx.pl
  refine ⟨hp.1, ?_⟩
  rcases hp.2 with ⟨e, _⟩ | ⟨gg, cap, cur, hv, hbg, hh, r⟩
  · cases e
  · have e2 : pb = gg := by
      injection hv with e1 _ _
      injection e1 with e1
      injection e1
    subst e2
    exact .inr ⟨pb, cap, cur, hv, hbg, (hset pb (by omega)).trans (hpb.trans hh), r⟩
/-- What a call does. -/
def CallR (κ : Option Bool) (od : Od) (l : List Od) (ch x er : Int) (κ' : Option Bool) (l' : List Od) (ch' : Int) : Prop :=
  (x = 1 ∧ er = 60 ∧ κ' = κ ∧ l' = l ∧ ch' = ch) ∨ (x = 2 ∧ er = 61 ∧ κ' = κ ∧ l' = l ∧ ch' = ch) ∨ (x = 3 ∧ er = 62 ∧ κ' = κ ∧ l' = l ∧ ch' = ch) ∨
  (x = 4 ∧ er = 62 ∧ κ' = doK κ od.undo ∧ l' = l ∧ ch' = doC κ od.undo ch) ∨
  (x = 5 ∧ er = doE (doK κ od.undo) od.undo ∧ κ' = doK (doK κ od.undo) od.undo ∧ l' = l ∧ ch' = doC (doK κ od.undo) od.undo (doC κ od.undo ch)) ∨
  (x = 6 ∧ er = 62 ∧ κ' = κ ∧ l' = l ++ [od] ∧ ch' = ch) ∨
  (er = doE κ od.undo ∧ κ' = doK κ od.undo ∧ l' = l ∧ ch' = doC κ od.undo ch)
theorem doC_bd {κ : Option Bool} {u : Bool} {ch : Int} (h0 : 0 ≤ ch) (h1 : ch ≤ 900) : 0 ≤ doC κ u ch ∧ doC κ u ch ≤ 901 := by
  unfold doC
  cases u <;> rcases κ with _ | _ | _ <;> simp <;> omega
set_option maxHeartbeats 16000000 in
theorem call_any {w : World} {M : Nat → Prop} {fb mb K re im : Nat} {k : Int} {u : Bool} {p0 s : Int × Int} {κ : Option Bool} {l : List Od} {ch : Int} (x : Int) (ok : OkS p0 s) (h : FS w M fb mb K k p0 s κ l ch) (hu : u = false → re = fl s.1 ∧ im = fl s.2) (hz : ∃ z : Int × Int, St z ∧ re = fl z.1 ∧ im = fl z.2) (hM : ∀ g, w.heap.size ≤ g → M g) (hK : K ≤ 800000) (hk0 : -9223372036854775808 ≤ k) (hk1 : k ≤ 9223372036854775807) (h0 : 0 ≤ ch) (h1 : ch ≤ 800) (hl : l.length ≤ 100000) :
    Calls Try.prog 6 #[.pointer (some ⟨fb, 0, none⟩), .agg #[.int .i64 k, .int .i64 0, .complex .f64 re im, .bool u], .int .i64 x] w fun e w' => ∃ er κ' l' ch', e = .returned (.int .i64 er) ∧ FS w' M fb mb (K + 2) k p0 s κ' l' ch' ∧ Fr w w' M ∧ CallR κ ⟨k, 0, re, im, u⟩ l ch x er κ' l' ch' := by
  obtain ⟨W, HW⟩ : ∃ W, Hid (W = w.alloc (.cells #[.int .i64 k, .int .i64 0, .complex .f64 re im, .bool u] 29)) := ⟨_, Lib.hid rfl⟩
  have HBW : Hid (Below w.heap.size w W) := Lib.hid (by rw [HW.out]; exact (Below.refl _ w).alloc (Nat.le_refl _) _)
  have hw0 := heap_new w (.cells #[.int .i64 k, .int .i64 0, .complex .f64 re im, .bool u] 29)
  rw [← HW.out] at hw0
  have HN := Lib.hid hw0
  obtain ⟨M0, HM0⟩ : ∃ M0 : Nat → Prop, Hid (M0 = fun g => M g ∧ g < w.heap.size) := ⟨_, Lib.hid rfl⟩
  have HMW : Hid (∀ g, M0 g → M g ∧ g < w.heap.size) := Lib.hid (by rw [HM0.out]; exact fun g h => h)
  have HFW : Hid (FS W M0 fb mb K k p0 s κ l ch) := Lib.hid (by rw [HM0.out]; exact h.cut.kept HBW.out)
  have OK := Lib.hid ok
  have HU := Lib.hid hu
  have HMS := Lib.hid hM
  have HKK : Hid (-9223372036854775808 ≤ k ∧ k ≤ 9223372036854775807) := Lib.hid ⟨hk0, hk1⟩
  have HH : Hid (0 ≤ ch ∧ ch ≤ 800) := Lib.hid ⟨h0, h1⟩
  have HKB := Lib.hid hK
  have HLL := Lib.hid hl
  obtain ⟨o0, o1, o2, o3⟩ := row4 hw0
  have HSU : Hid (Calls Try.prog 13 #[.slice (some ⟨W.heap.size, 0, none⟩) 1 1] (W.alloc (.cells #[.complex .f64 re im] 26)) fun e w' => e = .returned (.tuple #[.complex .f64 re im, .int .i64 0]) ∧ w' = W.alloc (.cells #[.complex .f64 re im] 26)) := Lib.hid (by
    obtain ⟨z, hz1, rfl, rfl⟩ := hz
    exact sum1 (lit1c W z) hz1)
  obtain ⟨V, HV⟩ : ∃ V, Hid (V = W.alloc (.cells #[.complex .f64 re im] 26)) := ⟨_, Lib.hid rfl⟩
  have HWV : Hid (Below W.heap.size W V) := Lib.hid (by rw [HV.out]; exact (Below.refl _ W).alloc (Nat.le_refl _) _)
  have HFV := Lib.hid (HFW.out.kept HWV.out)
  have HNV : Hid (V.heap[w.heap.size]? = some (.cells #[.int .i64 k, .int .i64 0, .complex .f64 re im, .bool u] 29 (0, 0))) := Lib.hid ((HWV.out.block _ (heapE_lt hw0)).trans hw0)
  have HBV : Hid (Below w.heap.size w V) := Lib.hid (HBW.out.trans (HWV.out.mono HBW.out.size))
  rw [← HV.out] at HSU
  clear h hw0 hu hz ok hk0 hk1 h0 h1 hK hM hl
  rw [HV.out] at HSU
  go_enter Try.func6, Try.ntmps6
  go_upto_region 1 with fail
  change Code.wp _ _ _ _ (w.alloc (.cells #[.int .i64 k, .int .i64 0, .complex .f64 re im, .bool u] 29))
  rw [← HW.out]
  go_wp2_with fail
  refine HSU.out.mono ?_
  rintro e w' ⟨rfl, rfl⟩
  rw [← HV.out]
  obtain ⟨K', E, hK', ⟨pb, cp, AL, nL, cL, hx, hmy⟩, hE⟩ := HFV.out
  have HX := Lib.hid hx
  have HMY := Lib.hid hmy
  clear o0 o1 o2 o3 HSU
  obtain ⟨o0, o1, o2, o3⟩ := row4 HNV.out
  obtain ⟨c0, c1, c2, c3⟩ := hx.c
  clear hx hmy
  go_wp2_with fail
  go_quiet (fail)
  obtain ⟨Q, HQ⟩ : ∃ Q, Hid (Q = V.drewN nq) := ⟨_, Lib.hid rfl⟩
  rw [← HQ.out]
  have HVQ : Hid (Below V.heap.size V Q) := Lib.hid (by rw [HQ.out]; exact ⟨rfl, rfl, rfl, Nat.le_refl _, fun _ _ => rfl⟩)
  have HFQ := Lib.hid (HFV.out.kept HVQ.out)
  have HXQ := Lib.hid (HX.out.kept HVQ.out)
  have HBQ : Hid (Below w.heap.size w Q) := Lib.hid (HBV.out.trans (HVQ.out.mono HBV.out.size))
  have HNQ : Hid (Q.heap[w.heap.size]? = some (.cells #[.int .i64 k, .int .i64 0, .complex .f64 re im, .bool u] 29 (0, 0))) := Lib.hid ((HVQ.out.block _ (heapE_lt HNV.out)).trans HNV.out)
  clear o0 o1 o2 o3 c0 c1 c2 c3
  obtain ⟨o0, o1, o2, o3⟩ := row4 HNQ.out
  obtain ⟨c0, c1, c2, c3⟩ := HXQ.out.c
  have HSAME : Hid (FS Q M fb mb (K + 2) k p0 s κ l ch ∧ Fr w Q M) := Lib.hid ⟨(HFQ.out.wide (fun g hg => (HMW.out g hg).1)).mono (by omega), Fr.of_below HBQ.out⟩
  have HDO := Lib.hid (do_any (re := re) (im := im) (u := u) OK.out HFQ.out HU.out (by have := HKB.out; omega) HKK.out.1 HKK.out.2 HH.out.1 (by have := HH.out; omega))
  by_cases e1 : x = 1
  · subst e1
    go_wp2_with fail
    go_ret
    exact ⟨60, κ, l, ch, rfl, HSAME.out.1, HSAME.out.2, .inl ⟨rfl, rfl, rfl, rfl, rfl⟩⟩
  have d1 : (x == 1) = false := by rw [beq_eq_false_iff_ne]; exact e1
  by_cases e2 : x = 2
  · subst e2
    clear e1 d1
    go_wp2_with fail
    go_ret
    exact ⟨61, κ, l, ch, rfl, HSAME.out.1, HSAME.out.2, .inr (.inl ⟨rfl, rfl, rfl, rfl, rfl⟩)⟩
  have d2 : (x == 2) = false := by rw [beq_eq_false_iff_ne]; exact e2
  by_cases e4 : x = 4
  · subst e4
    clear e1 d1 e2 d2
    go_wp2_with fail
    refine HDO.out.mono ?_
    rintro e w3 ⟨rfl, hf3, hb3⟩
    have HF3 := Lib.hid hf3
    have HB3 := Lib.hid hb3
    clear hf3 hb3
    go_wp2_with fail
    go_ret
    exact ⟨62, _, l, _, rfl, (HF3.out.wide (fun g hg => (HMW.out g hg).1)).mono (by omega), (Fr.of_below HBQ.out).same (HB3.out.wide (fun g hg => (HMW.out g hg).1)), .inr (.inr (.inr (.inl ⟨rfl, rfl, rfl, rfl, rfl⟩)))⟩
  have d4 : (x == 4) = false := by rw [beq_eq_false_iff_ne]; exact e4
  by_cases e3 : x = 3
  · subst e3
    clear e1 d1 e2 d2 e4 d4
    go_wp2_with fail
    go_ret
    exact ⟨62, κ, l, ch, rfl, HSAME.out.1, HSAME.out.2, .inr (.inr (.inl ⟨rfl, rfl, rfl, rfl, rfl⟩))⟩
  have d3 : (x == 3) = false := by rw [beq_eq_false_iff_ne]; exact e3
  by_cases e5 : x = 5
  · subst e5
    clear e1 d1 e2 d2 e4 d4 e3 d3
    go_wp2_with fail
    refine HDO.out.mono ?_
    rintro e w3 ⟨rfl, hf3, hb3⟩
    have HF3 := Lib.hid hf3
    have HB3 := Lib.hid hb3
    have HN3 : Hid (w3.heap[w.heap.size]? = some (.cells #[.int .i64 k, .int .i64 0, .complex .f64 re im, .bool u] 29 (0, 0))) := Lib.hid ((hb3.block _ (heapE_lt HNQ.out) (fun hm => by have := (HMW.out _ hm).2; omega)).trans HNQ.out)
    have hch := doC_bd (κ := κ) (u := u) HH.out.1 (by have := HH.out; omega)
    have HDP := Lib.hid (do_any (re := re) (im := im) (u := u) OK.out hf3 HU.out (by have := HKB.out; omega) HKK.out.1 HKK.out.2 hch.1 (by omega))
    clear hf3 hb3 o0 o1 o2 o3 hch
    obtain ⟨o0, o1, o2, o3⟩ := row4 HN3.out
    go_wp2_with fail
    refine HDP.out.mono ?_
    rintro e w4 ⟨rfl, hf4, hb4⟩
    have HF4 := Lib.hid hf4
    have HB4 := Lib.hid hb4
    clear hf4 hb4
    go_wp2_with fail
    go_ret
    exact ⟨_, _, l, _, rfl, HF4.out.wide (fun g hg => (HMW.out g hg).1), ((Fr.of_below HBQ.out).same (HB3.out.wide (fun g hg => (HMW.out g hg).1))).same (HB4.out.wide (fun g hg => (HMW.out g hg).1)), .inr (.inr (.inr (.inr (.inl ⟨rfl, rfl, rfl, rfl, rfl⟩))))⟩
  have d5 : (x == 5) = false := by rw [beq_eq_false_iff_ne]; exact e5
  by_cases e6 : x = 6
  · subst e6
    clear e1 d1 e2 d2 e4 d4 e3 d3 e5 d5
    have hnl := HXQ.out.nl
    subst hnl
    obtain ⟨n0, n1, n2, n3⟩ := row4 (show (Q.alloc (.cells #[.int .i64 k, .int .i64 0, .complex .f64 re im, .bool u] 29)).drew.heap[Q.heap.size]? = _ from heap_new Q (.cells #[.int .i64 k, .int .i64 0, .complex .f64 re im, .bool u] 29))
    have HC4 := Lib.hid (And.intro n0 (And.intro n1 (And.intro n2 n3)))
    clear n0 n1 n2 n3
    have HQD : Hid (Below Q.heap.size Q ((Q.alloc (.cells #[.int .i64 k, .int .i64 0, .complex .f64 re im, .bool u] 29)).drew)) := Lib.hid (below_drew ((Below.refl _ Q).alloc (Nat.le_refl _) _))
    have HCC : Hid (∀ j z, (([⟨k, 0, re, im, u⟩] : List Od).flatMap odF)[j]? = some z → (Q.alloc (.cells #[.int .i64 k, .int .i64 0, .complex .f64 re im, .bool u] 29)).drew.cell? ⟨Q.heap.size, j, none⟩ = some z) := Lib.hid (by
      intro j z hj
      match j, hj with
      | 0, hj => simp [odF] at hj; subst hj; exact HC4.out.1
      | 1, hj => simp [odF] at hj; subst hj; exact HC4.out.2.1
      | 2, hj => simp [odF] at hj; subst hj; exact HC4.out.2.2.1
      | 3, hj => simp [odF] at hj; subst hj; exact HC4.out.2.2.2
      | j + 4, hj => simp [odF] at hj)
    have HXA := Lib.hid (HXQ.out.kept HQD.out)
    have cz := HXA.out.fz 2
    obtain ⟨k0, k1, k2, k3⟩ := HXA.out.c
    go_wp2_with fail
    go_region_law (first
      | (refine stepF_apps odF_len odF_one Try.underlying39 infoOd (by decide) (by decide) (by decide) (by rfl) (.tmp 59) (.tmp 61) (by rfl) (fb + 1) _ l (by rfl) HXA.out.late Q.heap.size 1 1 [⟨k, 0, re, im, u⟩] (by rfl) rfl (by decide) HCC.out (by have := HLL.out; omega) (by have := HXA.out.dlt; omega) ?_; intro g6 c6 w6 hown6 hgr6 hat6; (have HO6 := Lib.hid hown6); (have HG6 := Lib.hid hgr6); (have HA6 := Lib.hid hat6); (have HX6 := Lib.hid (HXQ.out.setLate HQD.out hgr6 hown6)); (have e6 : w6.heap[fb]? = _ := (hgr6.block fb HXA.out.dlt (fun e => by have := HXA.out.late.ge _ e.symm; omega)).trans HXA.out.cells); (obtain ⟨p0', p1', p2', p3'⟩ := row4 e6); (have pz := free_row e6 2); clear hown6 hgr6 hat6 e6))
    all_goals (have HFR : Hid (Fr w (w6.setCell ⟨fb, 2, none⟩ (.slice (some ⟨g6, 0, none⟩) (l.length + 1) c6)) M) := Lib.hid (((Fr.of_below (HBQ.out.trans (HQD.out.mono HBQ.out.size))).same (Fr.grown HG6.out (fun g hg => (HMW.out _ (HMY.out.2.2.2 g hg)).1))).same (Fr.setCell w6 M (p := ⟨fb, 2, none⟩) (HMW.out _ HMY.out.1).1 _)))
    all_goals (have HMY6 : Hid (MyB M fb mb pb (some ⟨g6, 0, none⟩) (l.length + 1) c6) := Lib.hid ⟨(HMW.out _ HMY.out.1).1, (HMW.out _ HMY.out.2.1).1, (HMW.out _ HMY.out.2.2.1).1, fun g hg => by
      have hg2 : g6 = g := by simpa [Value.ownBlock] using hg
      subst hg2
      rcases HA6.out with h | h
      · exact (HMW.out _ (HMY.out.2.2.2 _ h)).1
      · exact HMS.out _ (by have := HBQ.out.size; have := HQD.out.size; omega)⟩)
    all_goals (clear k0 k1 k2 k3 p0' p1' p2' p3' pz cz)
    all_goals (go_wp2_with fail)
    all_goals go_ret
    all_goals exact ⟨62, κ, l ++ [⟨k, 0, re, im, u⟩], ch, rfl, ⟨K', E, by omega, ⟨pb, cp, some ⟨g6, 0, none⟩, l.length + 1, c6, HX6.out, HMY6.out⟩, hE⟩, HFR.out, .inr (.inr (.inr (.inr (.inr (.inl ⟨rfl, rfl, rfl, rfl, rfl⟩)))))⟩
  have d6 : (x == 6) = false := by rw [beq_eq_false_iff_ne]; exact e6
  clear e1 e2 e4 e3 e5 e6
  go_wp2_with fail
  refine HDO.out.mono ?_
  rintro e w3 ⟨rfl, hf3, hb3⟩
  have HF3 := Lib.hid hf3
  have HB3 := Lib.hid hb3
  clear hf3 hb3
  go_wp2_with fail
  go_ret
  exact ⟨_, _, l, _, rfl, (HF3.out.wide (fun g hg => (HMW.out g hg).1)).mono (by omega), (Fr.of_below HBQ.out).same (HB3.out.wide (fun g hg => (HMW.out g hg).1)), .inr (.inr (.inr (.inr (.inr (.inr ⟨rfl, rfl, rfl, rfl⟩)))))⟩
end Go.Proofs.Ytjppaonaiafgeaa
