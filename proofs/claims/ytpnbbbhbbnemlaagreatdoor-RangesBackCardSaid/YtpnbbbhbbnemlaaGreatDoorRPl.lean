/-
  CONTRACT of the law's own plain: a range as the document has it (printed by genrplain.py).
-/
import Derived.Test.YtpnbbbhbbnemlaaGreatDoorRParse
import Derived.Test.YtpnbbbhbbnemlaaGreatDoorRRR
namespace Go.Proofs.YtpnbbbhbbnemlaaGreatDoor
open Go.RowKit
open SemP
set_option linter.unusedVariables false
set_option linter.unusedSimpArgs false
set_option maxRecDepth 100000

theorem infoCompD : (Tryz.prog.info? 76).map (fun i => (i.zero, i.size, i.bytes)) = some (some (.agg #[.int .i64 0, .int .i64 0, .int .i64 0, .int .i64 0, .string ⟨#[]⟩]), 5, 48) := by kernel_rfl
theorem infoListD : (Tryz.prog.info? 71).map (fun i => (i.zero, i.size, i.bytes)) = some (some (.slice none 0 0), 1, 24) := by kernel_rfl
def OwnD (w : World) (base : Nat) (v : Value) (l : List CV) : Prop := w.ownsRow base 76 5 v l.length (ccells l)
theorem OwnD.nil_ (w : World) (base : Nat) : OwnD w base (.slice none 0 0) [] := World.ownsRow_nil _ _ _ _
theorem OwnD.shape {w : World} {base : Nat} {v : Value} {l : List CV} (h : OwnD w base v l) : ∃ A c, v = .slice A l.length c := by
  rcases h.2 with ⟨rfl, h0⟩ | ⟨g, cap, cur, rfl, _⟩
  · exact ⟨none, 0, by rw [h0]⟩
  · exact ⟨some ⟨g, 0, none⟩, cap, rfl⟩
theorem OwnD.rd {w : World} {base n c : Nat} {A : Option Addr} {l : List CV} (h : OwnD w base (.slice A n c) l) (hn : l.length = n) : RdC w w.heap.size A n l := by
  refine ⟨hn, fun j hj => ?_⟩
  obtain ⟨g, cap, hv, _, hlt⟩ := World.ownsRow.form h (by omega)
  injection hv with h1 h2 h3
  subst h1
  obtain ⟨c0, c1, c2, c3, c4⟩ := ccells_get l j (by omega)
  have e : ∀ x, (Addr.add ⟨g, 0, none⟩ x) = ⟨g, 0 + x, none⟩ := fun x => by unfold Addr.add; by_cases h0 : x = 0 <;> simp [h0]
  have k0 := World.ownsRow.cells h (g := g) rfl _ _ c0
  have k1 := World.ownsRow.cells h (g := g) rfl _ _ c1
  have k2 := World.ownsRow.cells h (g := g) rfl _ _ c2
  have k3 := World.ownsRow.cells h (g := g) rfl _ _ c3
  have k4 := World.ownsRow.cells h (g := g) rfl _ _ c4
  rw [e] at k0 k1 k2 k3 k4
  exact ⟨g, 0, rfl, hlt, k0, by rw [Nat.add_assoc]; exact k1, by rw [Nat.add_assoc]; exact k2, by rw [Nat.add_assoc]; exact k3, by rw [Nat.add_assoc]; exact k4⟩
theorem wpl_appD {w : World} {ops : Array Oper} {rest : List Oper} {o : Oper} {a : Act} {Q : Exit → Act → World → Prop} (hgd : o.guard = none) (s x : Operand)
    (ho : o.op = .call { callee := .builtin .append, args := #[s, x], argTypes := #[71, 71] })
    (base : Nat) (v : Value) (l : List CV) (hs : a.eval s = v) (hown : OwnD w base v l)
    (b : Nat) (y : CV) (hx : a.eval x = .slice (some ⟨b, 0, none⟩) 1 1) (hc0 : w.cell? ⟨b, 0, none⟩ = some (.int .i64 y.op)) (hc1 : w.cell? ⟨b, 1, none⟩ = some (.int .i64 y.a)) (hc2 : w.cell? ⟨b, 2, none⟩ = some (.int .i64 y.b)) (hc3 : w.cell? ⟨b, 3, none⟩ = some (.int .i64 y.c)) (hc4 : w.cell? ⟨b, 4, none⟩ = some (.string y.s)) (hn : l.length ≤ 1099511627) (hbase : base ≤ w.heap.size)
    (h : ∀ g c w', OwnD w' base (.slice (some ⟨g, 0, none⟩) (l.length + 1) c) (l ++ [y]) → w.grownBy w' v.ownBlock → wpList Tryz.prog ops Q rest (a.put o.dst (.slice (some ⟨g, 0, none⟩) (l.length + 1) c)) w') :
    wpList Tryz.prog ops Q (o :: rest) a w := by
  obtain ⟨i0, hi, hz0, hz1, hz2⟩ := info_parts infoCompD
  refine wpList_append_own_at w hgd s x 71 ho base 76 i0 _ 5 48 Tryz.underlying71 hi hz0 hz1 hz2 rfl (by decide) v l.length _ hs hown ⟨b, 0, none⟩ 1 1 [.int .i64 y.op, .int .i64 y.a, .int .i64 y.b, .int .i64 y.c, .string y.s] hx rfl ?_ ?_ (by unfold maxLen; omega) (by omega) hbase ?_
  · intro j z hj
    match j, hj with
    | 0, hj => simp at hj; subst hj; simpa [Addr.add] using hc0
    | 1, hj => simp at hj; subst hj; simpa [Addr.add] using hc1
    | 2, hj => simp at hj; subst hj; simpa [Addr.add] using hc2
    | 3, hj => simp at hj; subst hj; simpa [Addr.add] using hc3
    | 4, hj => simp at hj; subst hj; simpa [Addr.add] using hc4
  · intro z hz
    simp at hz
    rcases hz with rfl | rfl | rfl | rfl | rfl <;> rfl
  · intro v' w' hown' hg _ hat
    have ho' : w'.ownsRow base 76 5 v' (l ++ [y]).length (ccells (l ++ [y])) := by
      rw [ccells_append, List.length_append]; exact hown'
    obtain ⟨g, c, hv, _, _⟩ := World.ownsRow.form ho' (by simp)
    rw [List.length_append] at hv
    have hv' : v' = .slice (some ⟨g, 0, none⟩) (l.length + 1) c := hv
    subst hv'
    exact h g c w' ho' hg

/-- The outer row. -/
def OwnW (w : World) (base : Nat) (v : Value) (vs : List Value) : Prop := w.ownsRow base 71 1 v vs.length vs
theorem OwnW.shape {w : World} {base : Nat} {v : Value} {l : List Value} (h : OwnW w base v l) : ∃ A c, v = .slice A l.length c := by
  rcases h.2 with ⟨rfl, h0⟩ | ⟨g, cap, cur, rfl, _⟩
  · exact ⟨none, 0, by rw [h0]⟩
  · exact ⟨some ⟨g, 0, none⟩, cap, rfl⟩
theorem wpl_appM {w : World} {ops : Array Oper} {rest : List Oper} {o : Oper} {a : Act} {Q : Exit → Act → World → Prop} (hgd : o.guard = none) (s x : Operand)
    (ho : o.op = .call { callee := .builtin .append, args := #[s, x], argTypes := #[26, 26] })
    (base : Nat) (v : Value) (l : List Value) (hs : a.eval s = v) (hown : OwnW w base v l)
    (b : Nat) (A : Option Addr) (n c0 : Nat) (hx : a.eval x = .slice (some ⟨b, 0, none⟩) 1 1) (hc0 : w.cell? ⟨b, 0, none⟩ = some (.slice A n c0)) (hn : l.length ≤ 1099511627) (hbase : base ≤ w.heap.size)
    (h : ∀ g c w', OwnW w' base (.slice (some ⟨g, 0, none⟩) (l.length + 1) c) (l ++ [.slice A n c0]) → w.grownBy w' v.ownBlock → (some g = v.ownBlock ∨ some g = some w.heap.size) → wpList Tryz.prog ops Q rest (a.put o.dst (.slice (some ⟨g, 0, none⟩) (l.length + 1) c)) w') :
    wpList Tryz.prog ops Q (o :: rest) a w := by
  obtain ⟨i0, hi, hz0, hz1, hz2⟩ := info_parts infoListD
  refine wpList_append_own_at w hgd s x 26 ho base 71 i0 _ 1 24 Tryz.underlying26 hi hz0 hz1 hz2 rfl (by decide) v l.length _ hs hown ⟨b, 0, none⟩ 1 1 [.slice A n c0] hx rfl ?_ ?_ (by unfold maxLen; omega) (by omega) hbase ?_
  · intro j z hj
    match j, hj with
    | 0, hj => simp at hj; subst hj; simpa [Addr.add] using hc0
  · intro z hz
    simp at hz
    subst hz; rfl
  · intro v' w' hown' hg _ hat
    have ho' : w'.ownsRow base 71 1 v' (l ++ [Value.slice A n c0]).length (l ++ [.slice A n c0]) := by
      rw [List.length_append]; exact hown'
    obtain ⟨g, c, hv, _, _⟩ := World.ownsRow.form ho' (by simp)
    rw [List.length_append] at hv
    have hv' : v' = .slice (some ⟨g, 0, none⟩) (l.length + 1) c := hv
    subst hv'
    exact h g c w' ho' hg hat
theorem RowL.rdD {w : World} {b5 base m c : Nat} {A : Option Addr} {vs : List Value} {r : List (List CV)} (h : RowL w b5 (.slice A m c) vs r) (ho : OwnW w base (.slice A m c) vs) (hm : r.length = m) : RdR w w.heap.size A m r := by
  refine ⟨hm, fun j hj => ?_⟩
  obtain ⟨Aj, nj, cj, e, hi⟩ := h.2 j (by omega)
  obtain ⟨g, cap, hv, _, hlt⟩ := World.ownsRow.form ho (by rw [h.1]; omega)
  injection hv with h1 h2 h3
  subst h1
  have k := World.ownsRow.cells ho (g := g) rfl _ _ e
  have ee : (Addr.add ⟨g, 0, none⟩ j) = ⟨g, 0 + j, none⟩ := by unfold Addr.add; by_cases h0 : j = 0 <;> simp [h0]
  rw [ee] at k
  exact ⟨g, 0, Aj, nj, cj, rfl, hlt, k, hi.1⟩
def plainL (l : List CV) : Bool := decide (l.length ≤ 20) && l.all (fun x => decide (x.s.size ≤ 100))
def plainR (r : List (List CV)) : Bool := decide (r.length ≤ 20) && r.all plainL
/-- What plain answers. -/
def PlainR (r : List (List CV)) (e : Ending) (w' : World) : Prop := if plainR r = true then ∃ A c, e = .returned (.tuple #[.agg #[.slice A r.length c], .bool true]) ∧ RdR w' w'.heap.size A r.length r else ∃ A n c, e = .returned (.tuple #[.agg #[.slice A n c], .bool false])
theorem plainR_not {r : List (List CV)} {e : Ending} {w' : World} (h : plainR r = false) {A : Option Addr} {n c : Nat} (he : e = .returned (.tuple #[.agg #[.slice A n c], .bool false])) : PlainR r e w' := by
  unfold PlainR; rw [if_neg (by rw [h]; decide)]; exact ⟨A, n, c, he⟩
theorem take_snocR {r : List (List CV)} {i : Nat} (h : i < r.length) : r.take (i + 1) = r.take i ++ [lsAt r i] := by
  rw [List.take_succ_eq_append_getElem h]; simp [lsAt, List.getD, h]
theorem take_snocC {l : List CV} {k : Nat} (h : k < l.length) : l.take (k + 1) = l.take k ++ [cvAt l k] := by
  rw [List.take_succ_eq_append_getElem h]; simp [cvAt, List.getD, h]
set_option maxHeartbeats 16000000 in
theorem plain_any (A : Option Addr) (m cp : Nat) (r : List (List CV)) (w : World) (B : Nat) (hr : RdR w B A m r) (hB : B ≤ w.heap.size) :
    Calls Tryz.prog 11 #[.agg #[.slice A m cp]] w fun e w' => PlainR r e w' ∧ Below w.heap.size w w' := by
  obtain ⟨W0, hW0⟩ : ∃ W0, ((w.alloc (.cells #[.slice A m cp] 24)).alloc (.cells #[.slice none 0 0] 28)).alloc (.cells #[.slice none 0 0] 28) = W0 := ⟨_, rfl⟩
  have hz0 : W0.heap.size = w.heap.size + 3 := by rw [← hW0]; simp
  have hb0 : Below w.heap.size w W0 := by rw [← hW0]; exact (((Below.refl _ w).alloc (Nat.le_refl _) _).alloc (by simp) _).alloc (by simp; omega) _
  have hX0 : W0.heap[w.heap.size]? = some (.cells #[.slice A m cp] 24) := by
    rw [← hW0, Below.heap_alloc _ _ _ (by simp; omega), Below.heap_alloc _ _ _ (by simp)]; exact World.alloc_heap_new _ _
  have hX1 : W0.heap[w.heap.size + 1]? = some (.cells #[.slice none 0 0] 28) := by
    rw [← hW0, Below.heap_alloc _ _ _ (by simp)]
    have h := World.alloc_heap_new (w.alloc (.cells #[.slice A m cp] 24)) (.cells #[.slice none 0 0] 28)
    rw [World.size_alloc] at h; exact h
  have hX2 : W0.heap[w.heap.size + 1 + 1]? = some (.cells #[.slice none 0 0] 28) := by
    rw [← hW0]
    have h := World.alloc_heap_new ((w.alloc (.cells #[.slice A m cp] 24)).alloc (.cells #[.slice none 0 0] 28)) (.cells #[.slice none 0 0] 28)
    rw [World.size_alloc, World.size_alloc] at h; exact h
  obtain ⟨b5, hb5⟩ : ∃ b5, w.heap.size + 1 + 1 = b5 := ⟨_, rfl⟩
  have HX1 := Lib.hid hX1
  have HX2 : Hid (W0.heap[b5]? = some (.cells #[.slice none 0 0] 28)) := Lib.hid (by rw [← hb5]; exact hX2)
  have HZ0 : Hid (W0.heap.size = b5 + 1) := Lib.hid (by omega)
  have HLW : Hid (w.heap.size < b5 ∧ w.heap.size + 1 < b5) := Lib.hid ⟨by omega, by omega⟩
  have HB5 := Lib.hid hb5
  have HR0 : Hid (RdR W0 B A m r) := Lib.hid (hr.below (hb0.mono hB))
  have HBB : Hid (B ≤ w.heap.size) := Lib.hid hB
  have HLE := Lib.hid hr.1
  have HB0 := Lib.hid hb0
  have HW0 := Lib.hid hW0
  have HV := Lib.hid (show plainR r = (decide (r.length ≤ 20) && r.all plainL) from rfl)
  have c1 := cell1 hX0
  have c2 := cell1 hX1
  have c5 := cell1 hX2
  have f2 : W0.frozen? ⟨w.heap.size + 1, 0, none⟩ = false := by simp only [World.frozen?, hX1]; rfl
  rw [← hW0] at c1 c2 c5 f2
  have HBS : Hid (∀ (W : World) u, Below w.heap.size w W → Below w.heap.size w (W.setCell ⟨w.heap.size + 1, 0, none⟩ u)) := Lib.hid (fun W u h => h.setCell (p := ⟨w.heap.size + 1, 0, none⟩) (by simp) u)
  clear hr hB hb0 hW0 hX0 hX1 hX2 hz0
  by_cases hm20 : 20 < m
  · have d1 : decide (20 < (m : Int)) = true := decide_eq_true (by omega)
    have HN : Hid (plainR r = false) := Lib.hid (by rw [HV.out, HLE.out, decide_eq_false (show ¬ m ≤ 20 by omega)]; rfl)
    have HBx : Hid (Below w.heap.size w (((w.alloc (.cells #[.slice A m cp] 24)).alloc (.cells #[.slice none 0 0] 28)).alloc (.cells #[.slice none 0 0] 28))) := Lib.hid (by rw [HW0.out]; exact HB0.out)
    clear hb5 HB5
    go_enter Tryz.func11, Tryz.ntmps11
    go_wp2
    refine bodyPost_ret (v := .tuple #[.agg #[.slice none 0 0], .bool false]) (by simp [results, Tryz.results11, go_sem, c2]) rfl ⟨plainR_not HN.out rfl, ?_⟩
    first | exact HBS.out _ _ HBx.out | exact HBx.out
  · have d1 : decide (20 < (m : Int)) = false := decide_eq_false (by omega)
    have HM20 : Hid (m ≤ 20) := Lib.hid (by omega)
    go_enter Tryz.func11, Tryz.ntmps11
    go_wp2
    try rw [show ((w.alloc (.cells #[.slice A m cp] 24)).alloc (.cells #[.slice none 0 0] 28)).alloc (.cells #[.slice none 0 0] 28) = W0 from HW0.out]
    try rw [hb5]
    clear c1 c2 c5 f2 d1 hm20
    go_loopw [6, 7, 9, 18] (fun v6 v7 v9 v18 wr => ∃ (i : Nat) (v : Value) (vs : List Value), i ≤ m ∧ v18 = .int .i64 (i : Int) ∧ Hid (∀ j, j < i → plainL (lsAt r j) = true) ∧ Hid (wr.cell? ⟨b5, 0, none⟩ = some v ∧ wr.frozen? ⟨b5, 0, none⟩ = false) ∧ Hid (OwnW wr (b5 + 1) v vs) ∧ Hid (RowL wr b5 v vs (r.take i)) ∧ Hid (Below b5 W0 wr) ∧ Hid (b5 + 1 ≤ wr.heap.size)) (fun _ _ _ v _ => m - (intOf v).toNat)
    case atStart => exact ⟨0, .slice none 0 0, [], Nat.zero_le _, rfl, Lib.hid (fun j hj => absurd hj (by omega)), Lib.hid ⟨cell1 HX2.out, by simp only [World.frozen?, HX2.out]; rfl⟩, Lib.hid (World.ownsRow_nil _ _ _ _), Lib.hid (RowL.nil _ _ _), Lib.hid (Below.refl _ _), Lib.hid (Nat.le_of_eq HZ0.out.symm)⟩
    case round =>
      obtain ⟨i, v, vs, hi, rfl, HD, HC, HO, HR, HB, HZ⟩ := hrel
      obtain ⟨wo, hwo⟩ : ∃ x, x = wr := ⟨_, rfl⟩
      subst hwo
      have HTL : Hid ((r.take i).length = i) := Lib.hid (by rw [List.length_take, HLE.out]; omega)
      have HVL : Hid (vs.length = i) := Lib.hid (HR.out.1.trans HTL.out)
      have HBw : Hid (Below w.heap.size w wo) := Lib.hid (HB0.out.trans (HB.out.mono (by have := HLW.out.1; omega)))
      have hx1 : wo.heap[w.heap.size + 1]? = some (.cells #[.slice none 0 0] 28) := (HB.out.block _ HLW.out.2).trans HX1.out
      have HX1o := Lib.hid hx1
      by_cases him : i < m
      · have hd : decide ((i : Int) < (m : Int)) = true := decide_eq_true (by omega)
        have hadd : IntKind.i64.wrap ((i : Int) + 1) = ((i + 1 : Nat) : Int) := by rw [IntWalk.i64_in _ (by have := HM20.out; omega)]; omega
        obtain ⟨b, off, Aj, nj, cj, rfl, hlt, q0, hrc⟩ := (HR0.out.below (HB.out.mono (by have := HBB.out; have := HLW.out.1; omega))).2 i him
        have HIL : Hid (i < r.length) := Lib.hid (by rw [HLE.out]; exact him)
        obtain ⟨l, hl⟩ : ∃ l, lsAt r i = l := ⟨_, rfl⟩
        have HLL := Lib.hid hl
        rw [hl] at hrc
        have HRC := Lib.hid hrc
        have HNL : Hid (l.length = nj) := Lib.hid hrc.1
        have HPLl := Lib.hid (show plainL l = (decide (l.length ≤ 20) && l.all (fun x => decide (x.s.size ≤ 100))) from rfl)
        have HFALSE : Hid (plainL l = false → plainR r = false) := Lib.hid (fun h => by rw [HV.out, allR_not HIL.out (by rw [HLL.out]; exact h), Bool.and_false])
        obtain ⟨Av, cv, hv⟩ := HO.out.shape
        rw [HVL.out] at hv
        subst hv
        clear hrc hl
        by_cases hk20 : 20 < nj
        · have d2 : decide (20 < (nj : Int)) = true := decide_eq_true (by omega)
          have HN : Hid (plainR r = false) := Lib.hid (HFALSE.out (by rw [HPLl.out, HNL.out, decide_eq_false (show ¬ nj ≤ 20 by omega)]; rfl))
          have x0 := HC.out.1
          have c2 := cell1 hx1
          have f2 : wo.frozen? ⟨w.heap.size + 1, 0, none⟩ = false := by simp only [World.frozen?, hx1]; rfl
          have g0 : (wo.setCell ⟨w.heap.size + 1, 0, none⟩ (.slice Av i cv)).cell? ⟨w.heap.size + 1, 0, none⟩ = some (.slice Av i cv) := World.cell?_setCell_same _ _ _ c2
          clear hx1
          go_wp2
          refine bodyPost_ret (v := .tuple #[.agg #[.slice Av i cv], .bool false]) (by simp [results, Tryz.results11, go_sem, g0]) rfl ⟨plainR_not HN.out rfl, HBS.out _ _ HBw.out⟩
        · have d2 : decide (20 < (nj : Int)) = false := decide_eq_false (by omega)
          have HK20 : Hid (nj ≤ 20) := Lib.hid (by omega)
          have HPL2 : Hid (plainL l = l.all (fun x => decide (x.s.size ≤ 100))) := Lib.hid (by rw [HPLl.out, HNL.out, decide_eq_true (show nj ≤ 20 by omega)]; rfl)
          have HLo : Hid (B ≤ wo.heap.size) := Lib.hid (by have := HBB.out; have := HLW.out.1; have := HZ.out; omega)
          have HOV : Hid (∀ g, (Value.slice Av i cv).ownBlock = some g → g < wo.heap.size) := Lib.hid (own_lt HO.out)
          go_wp2
          clear q0 hx1 d2 hk20
          go_loopw [7, 9, 28] (fun v7 v9 v28 wr => ∃ (k : Nat), k ≤ nj ∧ v28 = .int .i64 (k : Int) ∧ Hid (∀ j, j < k → decide ((cvAt l j).s.size ≤ 100) = true) ∧ Hid (OwnD wr wo.heap.size v7 (l.take k)) ∧ Hid (Below wo.heap.size wo wr)) (fun _ _ v _ => nj - (intOf v).toNat)
          case atStart => exact ⟨0, Nat.zero_le _, rfl, Lib.hid (fun j hj => absurd hj (by omega)), Lib.hid (OwnD.nil_ _ _), Lib.hid (Below.refl _ _)⟩
          case round =>
            obtain ⟨k, hk, rfl, HDk, HOk, HBr⟩ := hrel
            have HTK : Hid ((l.take k).length = k) := Lib.hid (by rw [List.length_take, HNL.out]; omega)
            obtain ⟨Al, cl, hv7⟩ := HOk.out.shape
            rw [HTK.out] at hv7
            subst hv7
            by_cases hkn : k < nj
            · have hdk : decide ((k : Int) < (nj : Int)) = true := decide_eq_true (by omega)
              have haddk : IntKind.i64.wrap ((k : Int) + 1) = ((k + 1 : Nat) : Int) := by rw [IntWalk.i64_in _ (by have := HK20.out; omega)]; omega
              obtain ⟨b2, off2, rfl, hlt2, p0, p1, p2, p3, p4⟩ := (HRC.out.below (HBr.out.mono HLo.out)).2 k hkn
              have HIK : Hid (k < l.length) := Lib.hid (by rw [HNL.out]; exact hkn)
              obtain ⟨x, hx⟩ : ∃ x, cvAt l k = x := ⟨_, rfl⟩
              have HX := Lib.hid hx
              rw [hx] at p0 p1 p2 p3 p4
              clear hx
              have HB9 : Hid (Below wo.heap.size wo (wr.alloc (compC x.op x.a x.b x.c x.s))) := Lib.hid (HBr.out.alloc HBr.out.size _)
              by_cases hsz : 100 < x.s.size
              · have d3 : decide (100 < (x.s.size : Int)) = true := decide_eq_true (by omega)
                have HN : Hid (plainR r = false) := Lib.hid (HFALSE.out (by rw [HPL2.out]; exact all_not HIK.out (by rw [HX.out]; exact decide_eq_false (by omega))))
                have hb9 := HB9.out
                have hx9 : (wr.alloc (compC x.op x.a x.b x.c x.s)).heap[w.heap.size + 1]? = some (.cells #[.slice none 0 0] 28) := (hb9.block _ (by have := HLW.out.2; have := HZ.out; omega)).trans HX1o.out
                have c2 := cell1 hx9
                have x0 : (wr.alloc (compC x.op x.a x.b x.c x.s)).cell? ⟨b5, 0, none⟩ = some (.slice Av i cv) := (hb9.cell (p := ⟨b5, 0, none⟩) (by have := HZ.out; show b5 < _; omega)).trans HC.out.1
                have f2 : (wr.alloc (compC x.op x.a x.b x.c x.s)).frozen? ⟨w.heap.size + 1, 0, none⟩ = false := by simp only [World.frozen?, hx9]; rfl
                have g0 : ((wr.alloc (compC x.op x.a x.b x.c x.s)).setCell ⟨w.heap.size + 1, 0, none⟩ (.slice Av i cv)).cell? ⟨w.heap.size + 1, 0, none⟩ = some (.slice Av i cv) := World.cell?_setCell_same _ _ _ c2
                simp only [compC] at x0 c2 f2 g0
                clear hb9 hx9
                go_wp2
                refine bodyPost_ret (v := .tuple #[.agg #[.slice Av i cv], .bool false]) (by simp [results, Tryz.results11, go_sem, g0]) rfl ⟨plainR_not HN.out rfl, HBS.out _ _ (HBw.out.trans (HB9.out.mono HBw.out.size))⟩
              · have d3 : decide (100 < (x.s.size : Int)) = false := decide_eq_false (by omega)
                have HDk2 : Hid (∀ j, j < k + 1 → decide ((cvAt l j).s.size ≤ 100) = true) := Lib.hid (fun j hj => by
                  rcases Nat.lt_succ_iff_lt_or_eq.1 hj with h | h
                  · exact HDk.out j h
                  · subst h; rw [HX.out]; exact decide_eq_true (by omega))
                have HTS : Hid (l.take (k + 1) = l.take k ++ [x]) := Lib.hid (by rw [take_snocC HIK.out, HX.out])
                have HO3 : Hid (OwnD ((wr.alloc (compC x.op x.a x.b x.c x.s)).alloc (.cells #[.int .i64 x.op, .int .i64 x.a, .int .i64 x.b, .int .i64 x.c, .string x.s] 76)) wo.heap.size (.slice Al k cl) (l.take k)) := Lib.hid (World.ownsRow.alloc (World.ownsRow.alloc HOk.out _) _)
                have HB3 : Hid (Below wo.heap.size wo ((wr.alloc (compC x.op x.a x.b x.c x.s)).alloc (.cells #[.int .i64 x.op, .int .i64 x.a, .int .i64 x.b, .int .i64 x.c, .string x.s] 76))) := Lib.hid (HB9.out.alloc HB9.out.size _)
                have hz3 : ((wr.alloc (compC x.op x.a x.b x.c x.s)).alloc (.cells #[.int .i64 x.op, .int .i64 x.a, .int .i64 x.b, .int .i64 x.c, .string x.s] 76)).heap[wr.heap.size + 1]? = some (.cells #[.int .i64 x.op, .int .i64 x.a, .int .i64 x.b, .int .i64 x.c, .string x.s] 76) := by
                  have h := World.alloc_heap_new (wr.alloc (compC x.op x.a x.b x.c x.s)) (.cells #[.int .i64 x.op, .int .i64 x.a, .int .i64 x.b, .int .i64 x.c, .string x.s] 76)
                  rw [World.size_alloc] at h; exact h
                have HCC := Lib.hid (cells5 hz3)
                have HSZ := Lib.hid HB3.out.size
                clear hz3 hsz
                go_wp2_with (at_builtin; refine wpl_appD rfl (.tmp 38) (.tmp 44) rfl wo.heap.size (.slice Al k cl) _ rfl HO3.out (wr.heap.size + 1) x rfl HCC.out.1 HCC.out.2.1 HCC.out.2.2.1 HCC.out.2.2.2.1 HCC.out.2.2.2.2 (by rw [HTK.out]; have := HK20.out; omega) HSZ.out ?_; intro g c2 w2 hown2 hgr2)
                go_roundw
                case rel => exact ⟨k + 1, by omega, rfl, HDk2, Lib.hid (by rw [HTS.out, show min k l.length = (l.take k).length from by simp]; exact hown2), Lib.hid (HB3.out.grown hgr2 HSZ.out (fun g hg => own_ge HO3.out g hg))⟩
                case measure => simp [intOf]; omega
            · have hdk : decide ((k : Int) < (nj : Int)) = false := decide_eq_false (by omega)
              have hkn2 : k = l.length := by rw [HNL.out]; omega
              have HP1 : Hid (plainL l = true) := Lib.hid (by rw [HPL2.out]; exact all_at (p := fun x => decide (x.s.size ≤ 100)) (fun j hj => HDk.out j (by rw [HNL.out] at hj; omega)))
              have HOL : Hid (OwnD wr wo.heap.size (.slice Al k cl) l) := Lib.hid (by have h := HOk.out; rw [List.take_of_length_le (by omega)] at h; exact h)
              have HOK2 : Hid (∀ j, j < i + 1 → plainL (lsAt r j) = true) := Lib.hid (fun j hj => by
                rcases Nat.lt_succ_iff_lt_or_eq.1 hj with h | h
                · exact HD.out j h
                · subst h; rw [HLL.out]; exact HP1.out)
              subst hkn2
              have HTS : Hid (r.take (i + 1) = r.take i ++ [l]) := Lib.hid (by rw [take_snocR HIL.out, HLL.out])
              have HC4 : Hid (wr.cell? ⟨b5, 0, none⟩ = some (.slice Av i cv) ∧ wr.frozen? ⟨b5, 0, none⟩ = false) := Lib.hid ⟨(HBr.out.cell (p := ⟨b5, 0, none⟩) (by have := HZ.out; show b5 < _; omega)).trans HC.out.1, (HBr.out.frozen (p := ⟨b5, 0, none⟩) (by have := HZ.out; show b5 < _; omega)).trans HC.out.2⟩
              have HO4 : Hid (OwnW wr (b5 + 1) (.slice Av i cv) vs) := Lib.hid (own_kept HO.out HBr.out)
              have HR4 := Lib.hid (HR.out.map (fun A n l h => h.below HBr.out))
              have HB4 : Hid (Below b5 W0 wr) := Lib.hid (HB.out.trans (HBr.out.mono (by have := HZ.out; omega)))
              have HZ4 : Hid (b5 + 1 ≤ wr.heap.size) := Lib.hid (Nat.le_trans HZ.out HBr.out.size)
              have HIN : Hid (InL wr b5 (.slice Av i cv) Al l.length l) := Lib.hid ⟨HOL.out.rd rfl, fun b off e => by
                subst e
                have h1 := own_ge HOL.out b rfl
                have h2 := own_lt HOL.out b rfl
                exact ⟨fun e2 => by have h3 := HOV.out b e2; omega, by have := HZ.out; omega, h2⟩⟩
              have x0 := HC4.out.1
              have xf := HC4.out.2
              have HO5 : Hid (OwnW (wr.alloc (.cells #[.slice Al l.length cl] 71)) (b5 + 1) (.slice Av i cv) vs) := Lib.hid (World.ownsRow.alloc HO4.out _)
              have ha : Below wr.heap.size wr (wr.alloc (.cells #[.slice Al l.length cl] 71)) := (Below.refl _ wr).alloc (Nat.le_refl _) _
              have HR5 := Lib.hid ((HR4.out.snoc (c := cl) HIN.out).map (fun A n l h => h.below ha))
              have HB5' : Hid (Below b5 W0 (wr.alloc (.cells #[.slice Al l.length cl] 71))) := Lib.hid (HB4.out.trans (ha.mono (by have := HZ4.out; omega)))
              have HZ5 : Hid (b5 + 1 ≤ (wr.alloc (.cells #[.slice Al l.length cl] 71)).heap.size) := Lib.hid (Nat.le_trans HZ4.out ha.size)
              have HC5 : Hid ((wr.alloc (.cells #[.slice Al l.length cl] 71)).heap[b5]? = wr.heap[b5]?) := Lib.hid (Below.heap_alloc _ _ _ (by have := HZ4.out; omega))
              clear ha
              go_wp2_with (at_builtin; refine wpl_appM rfl (.tmp 48) (.tmp 50) rfl (b5 + 1) (.slice Av i cv) vs rfl HO5.out wr.heap.size Al l.length cl rfl (by simp) (by rw [HVL.out]; have := HM20.out; omega) HZ5.out ?_; intro g c2 w2 hown2 hgr2 hat2; (have hb52 : w2.heap[b5]? = wr.heap[b5]? := (hgr2.block b5 (by have := HZ5.out; omega) (fun e2 => by have := own_ge HO5.out b5 e2.symm; omega)).trans HC5.out); (have y0 : w2.cell? ⟨b5, 0, none⟩ = some (.slice Av i cv) := (World.cell?_of_block hb52).trans HC4.out.1); (have yf : w2.frozen? ⟨b5, 0, none⟩ = false := (World.frozen?_of_block hb52).trans HC4.out.2); (have HOWN2 := Lib.hid hown2); (have HGR2 := Lib.hid hgr2); (have HAT2 := Lib.hid hat2); clear hown2 hgr2 hat2 hb52)
              go_roundw
              case rel =>
                have hV : (Value.slice (some ⟨g, 0, none⟩) (vs.length + 1) c2).ownBlock = (Value.slice Av i cv).ownBlock ∨ (Value.slice (some ⟨g, 0, none⟩) (vs.length + 1) c2).ownBlock = some (wr.alloc (.cells #[.slice Al l.length cl] 71)).heap.size := HAT2.out
                have hgb : b5 + 1 ≤ g := own_ge HOWN2.out g rfl
                refine ⟨i + 1, .slice (some ⟨g, 0, none⟩) (vs.length + 1) c2, vs ++ [.slice Al l.length cl], by omega, rfl, HOK2, Lib.hid ⟨World.cell?_setCell_same _ _ _ y0, by simp [yf]⟩, Lib.hid ?_, Lib.hid ?_, Lib.hid ?_, Lib.hid ?_⟩
                · have h := HOWN2.out
                  refine ⟨h.1, ?_⟩
                  rcases h.2 with h | ⟨g', cap, cur, hv, hbg, hh, r⟩
                  · exact .inl h
                  · refine .inr ⟨g', cap, cur, hv, hbg, ?_, r⟩
                    rw [Below.heap_setCell _ _ _ _ (by show g' ≠ b5; omega)]
                    exact hh
                · rw [HTS.out]
                  exact (HR5.out.map (fun A n l h => h.grown HGR2.out hV)).map (fun A n l h => h.setBox (Nat.le_refl _))
                · exact (HB5'.out.grown HGR2.out (by have := HZ5.out; omega) (fun g hg => by have := own_ge HO5.out g hg; omega)).setCell (p := ⟨b5, 0, none⟩) (Nat.le_refl _) _
                · have := HGR2.out.size; have := HZ5.out; simp; omega
              case measure => simp [intOf]; omega
      · have hd : decide ((i : Int) < (m : Int)) = false := decide_eq_false (by omega)
        have hiL : i = m := by omega
        subst hiL
        have HT : Hid (plainR r = true) := Lib.hid (by rw [HV.out, HLE.out, decide_eq_true HM20.out, Bool.true_and]; exact allR_at (fun j hj => HD.out j (by rw [HLE.out] at hj; exact hj)))
        have HRF : Hid (RowL wo b5 v vs r) := Lib.hid (by have h := HR.out; rw [List.take_of_length_le (by rw [HLE.out]; exact Nat.le_refl _)] at h; exact h)
        obtain ⟨Av, cv, hv⟩ := HO.out.shape
        rw [HRF.out.1] at hv
        subst hv
        have x0 := HC.out.1
        have y0 : wo.cell? ⟨w.heap.size + 1, 0, none⟩ = some (.slice none 0 0) := cell1 hx1
        have yf : wo.frozen? ⟨w.heap.size + 1, 0, none⟩ = false := by simp only [World.frozen?, hx1]; rfl
        have g0 : ∀ u, (wo.setCell ⟨w.heap.size + 1, 0, none⟩ u).cell? ⟨w.heap.size + 1, 0, none⟩ = some u := fun u => World.cell?_setCell_same _ _ _ y0
        have HRD : Hid (∀ u, RdR (wo.setCell ⟨w.heap.size + 1, 0, none⟩ u) (wo.setCell ⟨w.heap.size + 1, 0, none⟩ u).heap.size Av r.length r) := Lib.hid (fun u => by
          have h1 := HRF.out.map (fun A n l h => h.setBox (u := u) (k := w.heap.size + 1) (by have := HLW.out.2; omega))
          refine RowL.rdD h1 (base := b5 + 1) ?_ rfl
          have h := HO.out
          refine ⟨h.1, ?_⟩
          rcases h.2 with h | ⟨g', cap, cur, hv, hbg, hh, r⟩
          · exact .inl h
          · refine .inr ⟨g', cap, cur, hv, hbg, ?_, r⟩
            rw [Below.heap_setCell _ _ _ _ (by have := HLW.out.2; show g' ≠ w.heap.size + 1; omega)]
            exact hh)
        clear hx1
        go_wp2
        refine bodyPost_ret (v := .tuple #[.agg #[.slice Av r.length cv], .bool true]) (by simp [results, Tryz.results11, go_sem, g0]) rfl ⟨?_, HBS.out _ _ HBw.out⟩
        unfold PlainR
        rw [if_pos HT.out]
        exact ⟨Av, cv, rfl, HRD.out _⟩
end Go.Proofs.YtpnbbbhbbnemlaaGreatDoor
