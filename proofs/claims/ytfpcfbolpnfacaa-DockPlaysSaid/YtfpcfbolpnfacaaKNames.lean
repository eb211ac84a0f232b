/-
  CONTRACTS of package dock, over this translation: names (a range over the map, then the library's sort).
-/
import Derived.Test.YtfpcfbolpnfacaaKRead
import Derived.Test.YtfpcfbolpnfacaaKInts
import Derived.Test.YtfpcfbolpnfacaaKSort
import Derived.Maps.RangeWalk
import Derived.Sort.OwnSortedInts
import Derived.Shelf.Slices.In.SortNone
namespace Go.Proofs.Ytfpcfbolpnfacaa
open Go.RowKit
open ByteP
set_option linter.unusedVariables false
set_option maxRecDepth 10000

/-- What a loop over the files has met. -/
structure Come (F : Int → Option Fi) (left : Lit → Bool) (xs : List Int) : Prop where
  nodup : xs.Nodup
  mem : ∀ x, x ∈ xs ↔ ((F x).isSome = true ∧ left (kI x) = false)
  todo : ∀ x, left (kI x) = true → (F x).isSome = true
theorem sameKI (x y : Int) : (kI y).sameKey (kI x) = decide (y = x) := by
  by_cases h : y = x
  · subst h; rw [decide_eq_true rfl]; simp [Lit.sameKey]
  · rw [decide_eq_false h, Maps.sameKey_ne (fun e => h (kI_inj e))]
theorem Come.start {D : DataW Value} {F : Int → Option Fi} (h : FilesD D F) : Come F (Maps.has D) [] :=
  ⟨List.nodup_nil, fun x => ⟨fun hx => by simp at hx, fun ⟨h1, h2⟩ => by rw [(h x).1, h1] at h2; cases h2⟩, fun x hx => by rw [← (h x).1]; exact hx⟩
theorem Come.step {F : Int → Option Fi} {left : Lit → Bool} {xs : List Int} (h : Come F left xs) {x : Int} (hl : left (kI x) = true) : Come F (fun z => left z && !z.sameKey (kI x)) (xs ++ [x]) := by
  have hx : x ∉ xs := fun hm => by rw [((h.mem x).1 hm).2] at hl; cases hl
  refine ⟨?_, fun y => ?_, fun y hy => h.todo y (by simp only [Bool.and_eq_true] at hy; exact hy.1)⟩
  · rw [List.nodup_append]
    exact ⟨h.nodup, by simp, fun a ha b hb e => by simp at hb; subst hb e; exact hx ha⟩
  · simp only [List.mem_append, List.mem_singleton, sameKI]
    by_cases e : y = x
    · subst e
      simp [h.todo y hl]
    · simp [e, h.mem y]
theorem Come.done {F : Int → Option Fi} {left : Lit → Bool} {xs : List Int} (h : Come F left xs) (hl : ∀ k, left k = false) : ∀ x, x ∈ xs ↔ (F x).isSome = true := fun x => by
  rw [h.mem x, hl]; simp

/-- The step of a loop over the files. -/
theorem wplK_next {w : World} {ops : Array Oper} {rest : List Oper} {o : Oper} {a : Act} {Q : Exit → Act → World → Prop} (hgd : o.guard = none) (it : Operand) (ho : o.op = Op.next it false)
    (b r n : Nat) (D : DataW Value) (left : Lit → Bool) (cnt : Nat) (hit : a.eval it = .pointer (some ⟨r, 0, none⟩)) (h : w.ranges Try.prog 3 held b r n D left cnt)
    (hDone : cnt = 0 → (∀ kl, left kl = false) → wpList Try.prog ops Q rest (a.put o.dst (.tuple #[.bool false])) w)
    (hMore : ∀ (x : Int) (v : Value) (w' : World) (cnt' : Nat), left (kI x) = true → w'.ranges Try.prog 3 held b r n D (fun z => left z && !z.sameKey (kI x)) cnt' → cnt' < cnt →
      w.grownBy w' (some r) → w'.heap.size = w.heap.size → (Instr.entry (.pointer (some ⟨r, 0, none⟩))).run Try.prog w' = .ok (.tuple #[.int .i64 x, v]) w' → wpList Try.prog ops Q rest (a.put o.dst (.tuple #[.bool true, .int .i64 x, v])) w') :
    wpList Try.prog ops Q (o :: rest) a w :=
  wpList_next_ranges w hgd it ho 3 keyedInt held (Value.int .i64) (fun v : Value => v) (fun key kl hkey => by obtain ⟨x, rfl, _⟩ := Maps.keyOf_int_inv Try.underlying3 hkey; exact ⟨x, rfl⟩) (fun v y hv => ⟨v, rfl⟩)
    b r n D left cnt hit h hDone (fun x c kl y w' cnt' hkey hlk hv hat hrg hlt hgr hsz hen => by
      obtain ⟨x', ex, rfl, hwx⟩ := Maps.keyOf_int_inv Try.underlying3 hkey
      cases ex
      exact hMore x c w' cnt' hlk hrg hlt hgr hsz hen)

/-- Ascending, none twice. -/
def Asc (xs : List Int) : Prop := xs.Pairwise (· < ·)
theorem asc_sort {xs : List Int} (h : xs.Nodup) : Asc (xs.mergeSort fun x y => decide (x ≤ y)) := by
  have h1 : (xs.mergeSort fun x y => decide (x ≤ y)).Pairwise (fun x y => decide (x ≤ y) = true) := List.pairwise_mergeSort (fun a b c h1 h2 => by simp at *; omega) (fun a b => by simp; omega) xs
  have h2 : (xs.mergeSort fun x y => decide (x ≤ y)).Nodup := (List.mergeSort_perm xs _).nodup_iff.2 h
  unfold Asc
  exact (List.Pairwise.and h1 h2).imp (fun {a b} hab => by have := hab.1; have := hab.2; simp at *; omega)

section
variable {w : World} {base n c : Nat} {A : Option Addr} {xs : List Int}
/-- 'slices.Sort', of a slice of the call's own. -/
theorem sort_own (h : Own w base (.slice A n c) n xs) (hn : n ≤ 1099511627776) :
    Calls Try.prog 31 #[.slice A n c] w fun e w' => e = .returned (.tuple #[]) ∧ Own w' base (.slice A n c) n (xs.mergeSort fun x y => decide (x ≤ y)) ∧ w.grownBy w' (Value.slice A n c).ownBlock := by
  have hl := h.len
  rcases h.2 with ⟨hv, h0⟩ | ⟨g, cap, cur, hv, hb, hg, hnc, hcm, hcs, ht⟩
  · injection hv with h1 h2 h3
    subst h1 h3
    subst h0
    have : xs = [] := List.eq_nil_of_length_eq_zero hl
    subst this
    refine (Go.Proofs.Any.slices_Sort_int_none Try.laysSort none 0 w).mono ?_
    rintro e w' ⟨rfl, rfl⟩
    exact ⟨rfl, by simpa using h, World.grownBy.refl _ _⟩
  · injection hv with h1 h2 h3
    subst h1 h3
    rw [Nat.mul_one] at ht
    have hlt : g < w.heap.size := heapK_lt hg
    have hH := holds_of_blockI (ss := xs) hg (by rw [hl]; exact ht)
    have hc := Go.Proofs.Any.slices_Sort_int Try.laysSort g 0 c xs w hH hlt (by omega)
    rw [hl] at hc
    refine hc.mono ?_
    rintro e w' ⟨rfl, k, os, rfl⟩
    refine ⟨rfl, ?_, grownBy_sortedI _⟩
    have h5 := ownsRow_sortedI (n := k) (os := os) (ts := xs.mergeSort fun x y => decide (x ≤ y)) (ss := xs) (by simp) hb hg (by omega) hcm hcs
    rw [hl] at h5
    exact h5
end

section
variable {w : World} {db mb K : Nat} {n : Nm} {F : Int → Option Fi}
theorem names_any (h : Dk w db mb K n F) (hK : K ≤ 1000000000) :
    Calls Try.prog 27 #[.pointer (some ⟨db, 0, none⟩)] w fun e w' => ∃ (A : Option Addr) (c : Nat) (ns : List Int), e = .returned (.slice A ns.length c) ∧ Own w' w.heap.size (.slice A ns.length c) ns.length ns ∧ Asc ns ∧ (∀ x, x ∈ ns ↔ (F x).isSome = true) ∧ ns.length ≤ K ∧ Below w.heap.size w w' := by
  obtain ⟨D, hown, hD⟩ := h.map
  have hmlt : mb < w.heap.size := Nat.lt_trans h.lt h.dlt
  have c2 := h.c2
  have HD := Lib.hid hD
  have HS := Lib.hid hown.size_le
  clear h hD
  go_enter Try.func27, Try.ntmps27
  go_wp2_with (first
    | (at_range; refine wpList_range_own _ rfl _ 44 rfl 3 57 keyedInt Try.underlying44 held mb K D rfl hown ?_; intro w0 hrg0 hg0 hs0)
    | go_in)
  go_frame
  have HB0 : Hid (Below w.heap.size w w0) := Lib.hid ((Below.refl _ _).grown hg0 (Nat.le_refl _) (fun j hj => by cases hj))
  clear hown c2
  go_loopw [3] (fun v wr => ∃ (left : Lit → Bool) (cnt : Nat) (A : Option Addr) (c : Nat) (xs : List Int), v = .slice A xs.length c ∧ Hid (wr.ranges Try.prog 3 held mb w.heap.size K D left cnt) ∧ xs.length + cnt ≤ K ∧
      Hid (Own wr (w.heap.size + 1) (.slice A xs.length c) xs.length xs) ∧ Hid (Come F left xs) ∧ Hid (Below w.heap.size w wr) ∧ w.heap.size + 1 ≤ wr.heap.size)
    (fun _ wr => wr.rangeLeft mb w.heap.size)
  case atStart =>
    exact ⟨_, _, none, 0, [], rfl, Lib.hid hrg0, by have := HS.out; simp; omega, Lib.hid (Own.nil_ _ _), Lib.hid (Come.start HD.out), HB0, by omega⟩
  case round =>
    obtain ⟨left, cnt, A, c, xs, rfl, hrg, hcnt, hown, hcome, hbel, hsz⟩ := hrel
    go_wp2_with (first
      | (at_next; refine wplK_next rfl _ rfl mb w.heap.size K D left cnt rfl hrg.out ?_ ?_)
      | go_in)
    · intro hc0 hl0
      have HM : Hid (∀ x, x ∈ xs ↔ (F x).isSome = true) := Lib.hid (hcome.out.done hl0)
      clear hl0 hrg
      go_wp2_with fail
      refine (sort_own hown.out (by omega)).mono ?_
      rintro e w5 ⟨rfl, hown5, hgr5⟩
      have HO5 := Lib.hid hown5
      have HB5 : Hid (Below w.heap.size w w5) := Lib.hid (hbel.out.grown hgr5 (by omega) (fun g hg => by have := hown.out.ge g hg; omega))
      clear hown5 hgr5
      go_wp2
      go_ret
      have hp := List.mergeSort_perm xs (fun x y => decide (x ≤ y))
      refine ⟨A, c, xs.mergeSort fun x y => decide (x ≤ y), by rw [hp.length_eq]; rfl, ?_, asc_sort hcome.out.nodup, fun x => by rw [hp.mem_iff]; exact HM.out x, by rw [hp.length_eq]; omega, HB5.out⟩
      rw [hp.length_eq]
      exact HO5.out.less (by omega)
    · intro x v w1 cnt1 hlx hrg1 hlt hg1 hs1 hen
      have HRG1 := Lib.hid hrg1
      have HO1 : Hid (Own w1 (w.heap.size + 1) (.slice A xs.length c) xs.length xs) := Lib.hid (hown.out.other hg1 (fun g hg e => by injection e with e; have := hown.out.ge g hg; omega))
      have HB1 : Hid (Below w.heap.size w w1) := Lib.hid (hbel.out.grown hg1 (by omega) (fun g hg => by injection hg with e; omega))
      have HC1 : Hid (Come F _ (xs ++ [x])) := Lib.hid (hcome.out.step hlx)
      have HL : Hid (wr.rangeLeft mb w.heap.size = cnt) := Lib.hid hrg.out.left_eq
      have HS1 := Lib.hid hs1
      clear hrg1 hg1 hown hbel hcome hrg hlx hs1
      go_wp2_with (at_builtin; refine wpl_app rfl (.tmp 14) (.tmp 16) rfl (w.heap.size + 1) (.slice A xs.length c) xs.length xs rfl (HO1.out.alloc _) w1.heap.size x rfl (by simp) (by omega) (by have := HS1.out; simp; omega) ?_; intro g c2 w2 hown2 hge hgr2 hat2)
      go_roundw
      case rel =>
        have hs1 := HS1.out
        refine ⟨_, cnt1, some ⟨g, 0, none⟩, c2, xs ++ [x], by simp, Lib.hid ((HRG1.out.alloc _).kept hgr2 ?_ ?_), by simp; omega, Lib.hid (by simpa using hown2), HC1, Lib.hid ((HB1.out.alloc (by omega) _).grown hgr2 (by simp; omega) (fun g hg => by have := HO1.out.ge g hg; omega)), by have := hgr2.size; simp at this; omega⟩
        · intro e; have := HO1.out.ge mb e.symm; omega
        · intro e; have := HO1.out.ge _ e.symm; omega
      case measure =>
        rw [HL.out, ((HRG1.out.alloc _).kept hgr2 (by intro e; have := HO1.out.ge mb e.symm; omega) (by intro e; have := HO1.out.ge _ e.symm; omega)).left_eq]
        exact hlt

theorem names_down (h : Dk w db mb K n F) (hd : n.down = true) : Calls Try.prog 21 #[.pointer (some ⟨db, 0, none⟩)] w fun e w' => e = .returned (.tuple #[.slice none 0 0, .int .i64 51]) ∧ w = w' := by
  have c4 := h.c4
  rw [hd] at c4
  clear h
  go_enter Try.func21, Try.ntmps21
  go_wp2
  go_ret2
  exact ⟨rfl, rfl⟩
theorem names_up (h : Dk w db mb K n F) (hK : K ≤ 1000000000) (hd : n.down = false) : Calls Try.prog 21 #[.pointer (some ⟨db, 0, none⟩)] w fun e w' => ∃ (A : Option Addr) (c : Nat) (ns : List Int), e = .returned (.tuple #[.slice A ns.length c, .int .i64 0]) ∧ Own w' w.heap.size (.slice A ns.length c) ns.length ns ∧ Asc ns ∧ (∀ x, x ∈ ns ↔ (F x).isSome = true) ∧ ns.length ≤ K ∧ Below w.heap.size w w' := by
  have c4 := h.c4
  rw [hd] at c4
  have H := Lib.hid h
  clear h
  go_enter Try.func21, Try.ntmps21
  go_wp2_with fail
  refine (names_any H.out hK).mono ?_
  rintro e w1 ⟨A, c, ns, rfl, h1, h2, h3, h4, h5⟩
  have H1 := Lib.hid h1
  have H2 := Lib.hid h2
  have H3 := Lib.hid h3
  have H5 := Lib.hid h5
  clear h1 h2 h3 h5
  go_wp2
  go_ret2
  exact ⟨A, c, ns, rfl, H1.out, H2.out, H3.out, h4, H5.out⟩
end
end Go.Proofs.Ytfpcfbolpnfacaa
