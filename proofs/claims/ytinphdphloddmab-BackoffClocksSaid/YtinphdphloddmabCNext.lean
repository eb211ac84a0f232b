/-
  CONTRACTS of the clock over this translation: Next, Now; what a map of alarms says.
-/
import Derived.Test.YtinphdphloddmabCCmp
import Derived.Test.YtinphdphloddmabKInts
namespace Go.Proofs.Ytinphdphloddmab
open Go.RowKit
set_option linter.unusedVariables false
set_option maxRecDepth 10000

/-- What a map of alarms says. -/
def AlD (D : DataW Unit) (G : Int → Option Int) : Prop := ∀ k, Maps.has D (kI k) = (G k).isSome ∧ ∀ t, G k = some t → ∀ z, D.atKey (kI k) z = .lit (.int .i64 t)
def putG (G : Int → Option Int) (k : Int) (t : Int) : Int → Option Int := fun x => if x = k then some t else G x
theorem alD_empty : AlD (.map []) (fun _ => none) := fun k => ⟨rfl, fun f h => by cases h⟩
theorem AlD.put {D : DataW Unit} {G : Int → Option Int} (h : AlD D G) (hm : Maps.IsMap D) (k : Int) (t : Int) : AlD (D.put (kI k) (.lit (.int .i64 t))) (putG G k t) := fun x => by
  unfold putG
  by_cases e : x = k
  · subst e
    rw [if_pos rfl]
    exact ⟨Maps.has_put_same hm (keyLit _) _, fun f' hf z => by injection hf with hf; subst hf; exact Maps.atKey_put_same hm (keyLit _) _ z⟩
  · rw [if_neg e]
    have hne : kI x ≠ kI k := fun h => e (kI_inj h)
    exact ⟨(Maps.has_put_other hne _).trans (h x).1, fun f' hf z => (Maps.atKey_put_other hne _ z).trans ((h x).2 f' hf z)⟩
theorem sameKJ (x y : Int) : (kI y).sameKey (kI x) = decide (y = x) := by
  by_cases h : y = x
  · subst h; rw [decide_eq_true rfl]; simp [Lit.sameKey]
  · rw [decide_eq_false h, Maps.sameKey_ne (fun e => h (kI_inj e))]
/-- What comes of an entry. -/
theorem AlD.entry {D : DataW Unit} {G : Int → Option Int} (h : AlD D G) {x c : Int} (hx : (G x).isSome = true) (hat : ∀ zd, D.atKey (kI x) zd = .lit (.int .i64 c)) : G x = some c := by
  obtain ⟨t, ht⟩ := Option.isSome_iff_exists.1 hx
  have h1 := (h x).2 t ht .nil
  rw [hat] at h1
  injection h1 with h1
  injection h1 with _ h1
  rw [ht, h1]

/-- What a loop for the next alarm has found. -/
structure NxR (G : Int → Option Int) (now : Int) (left : Lit → Bool) (a : Int) (ok : Bool) : Prop where
  todo : ∀ x, left (kI x) = true → (G x).isSome = true
  lo : ∀ x t, G x = some t → left (kI x) = false → now < t → ok = true ∧ a ≤ t
  hi : ok = true → now < a ∧ ∃ x, G x = some a
  zero : ok = false → a = 0
theorem NxR.start {D : DataW Unit} {G : Int → Option Int} (h : AlD D G) (now : Int) : NxR G now (Maps.has D) 0 false :=
  ⟨fun x hx => (by rw [← (h x).1]; exact hx), fun x t hx hl _ => (by rw [(h x).1, hx] at hl; cases hl), fun h => (by cases h), fun _ => rfl⟩
theorem NxR.keep {G : Int → Option Int} {now a : Int} {left : Lit → Bool} {ok : Bool} (h : NxR G now left a ok) {x c : Int} (hc : G x = some c) (hn : now < c → ok = true ∧ a ≤ c) : NxR G now (fun z => left z && !z.sameKey (kI x)) a ok := by
  refine ⟨fun y hy => h.todo y (by simp only [Bool.and_eq_true] at hy; exact hy.1), fun y t hy hl ht => ?_, h.hi, h.zero⟩
  simp only [sameKJ] at hl
  by_cases e : y = x
  · subst e
    rw [hc] at hy
    injection hy with hy
    subst hy
    exact hn ht
  · simp [e] at hl
    exact h.lo y t hy hl ht
theorem NxR.take {G : Int → Option Int} {now a : Int} {left : Lit → Bool} {ok : Bool} (h : NxR G now left a ok) {x c : Int} (hc : G x = some c) (hn : now < c) (hs : ok = true → c ≤ a) : NxR G now (fun z => left z && !z.sameKey (kI x)) c true := by
  refine ⟨fun y hy => h.todo y (by simp only [Bool.and_eq_true] at hy; exact hy.1), fun y t hy hl ht => ⟨rfl, ?_⟩, fun _ => ⟨hn, x, hc⟩, fun h => (by cases h)⟩
  simp only [sameKJ] at hl
  by_cases e : y = x
  · subst e
    rw [hc] at hy
    injection hy with hy
    omega
  · simp [e] at hl
    have h1 := h.lo y t hy hl ht
    have h2 := hs h1.1
    omega
theorem now_any {w : World} {cb bm n : Nat} {now : Int} {D : DataW Unit} (hc : Clk w cb bm now n D) : Calls Try.prog 35 #[.pointer (some ⟨cb, 0, none⟩)] w fun e w' => e = .returned (.int .i64 now) ∧ w = w' := by
  have c0 := hc.c0
  clear hc
  go_enter Try.func35, Try.ntmps35
  go_wp2
  go_ret
  exact ⟨rfl, rfl⟩
theorem next_any {w : World} {cb bm n : Nat} {now : Int} {D : DataW Unit} {G : Int → Option Int} (hc : Clk w cb bm now n D) (hG : AlD D G) :
    Calls Try.prog 37 #[.pointer (some ⟨cb, 0, none⟩)] w fun e w' => ∃ a ok, e = .returned (.tuple #[.int .i64 a, .bool ok]) ∧ (ok = true → now < a ∧ ∃ x, G x = some a) ∧ (∀ x t, G x = some t → now < t → ok = true ∧ a ≤ t) ∧ Below w.heap.size w w' := by
  have c0 := hc.c0
  have c1 := hc.c1
  have hlt := hc.lt
  have hown := hc.own
  have HG := Lib.hid hG
  have HC0 := Lib.hid c0
  clear hc hG
  go_enter Try.func37, Try.ntmps37
  go_wp2_with (first
    | (at_range; refine wpList_range_own _ rfl _ 95 rfl 3 3 lawI Try.underlying95 _ bm n D rfl hown ?_; intro w0 hrg0 hg0 hs0)
    | go_in)
  go_frame
  have HB0 : Hid (Below w.heap.size w w0) := Lib.hid ((Below.refl _ _).grown hg0 (Nat.le_refl _) (fun j hj => by cases hj))
  clear hown c0 c1
  go_loopw [2, 3] (fun a ok wr => ∃ (left : Lit → Bool) (cnt : Nat) (av : Int) (okv : Bool), a = .int .i64 av ∧ ok = .bool okv ∧ Hid (wr.ranges Try.prog 3 (plainElem Try.prog 3) bm w.heap.size n D left cnt) ∧ Hid (NxR G now left av okv) ∧ Hid (Below w.heap.size w wr))
    (fun _ _ wr => wr.rangeLeft bm w.heap.size)
  case atStart => exact ⟨_, _, 0, false, rfl, rfl, Lib.hid hrg0, Lib.hid (NxR.start HG.out now), HB0⟩
  case round =>
    obtain ⟨left, cnt, av, okv, rfl, rfl, hrg, hnx, hbel⟩ := hrel
    go_wp2_with (first
      | (at_next; refine wpList_next_ranges_ii _ rfl _ rfl 3 3 .i64 .i64 lawI Try.underlying3 Try.underlying3 bm w.heap.size n _ _ _ rfl hrg.out ?_ ?_)
      | go_in)
    · intro hc0 hl0
      have HN : Hid (∀ x t, G x = some t → now < t → okv = true ∧ av ≤ t) := Lib.hid (fun x t hx ht => hnx.out.lo x t hx (hl0 _) ht)
      clear hl0 hrg
      go_wp2
      go_ret2
      exact ⟨av, okv, rfl, hnx.out.hi, HN.out, hbel.out⟩
    · intro x c w1 cnt1 hwx hwc hlx hat hrg1 hlt1 hg1 hs1 hen
      have HGX : Hid (G x = some c) := Lib.hid (HG.out.entry (hnx.out.todo x hlx) hat)
      have HRG1 := Lib.hid hrg1
      have HB1 : Hid (Below w.heap.size w w1) := Lib.hid (hbel.out.grown hg1 hbel.out.size (fun g hg => by injection hg with e; omega))
      have HL : Hid (wr.rangeLeft bm w.heap.size = cnt) := Lib.hid hrg.out.left_eq
      have d0 := (HB1.out.cell (p := ⟨cb, 0, none⟩) hlt).trans HC0.out
      clear hrg1 hg1 hat hwx hwc hlx hs1
      by_cases hn : now < c
      · have e1 : decide (now < c) = true := by simp; omega
        cases okv with
        | false =>
          go_wp2
          go_roundw
          case rel => exact ⟨_, cnt1, c, true, rfl, rfl, HRG1, Lib.hid (hnx.out.take HGX.out hn (fun h => by cases h)), HB1⟩
          case measure => rw [HL.out, HRG1.out.left_eq]; exact hlt1
        | true =>
          by_cases hs : c < av
          · have e2 : decide (c < av) = true := by simp; omega
            go_wp2
            go_roundw
            case rel => exact ⟨_, cnt1, c, true, rfl, rfl, HRG1, Lib.hid (hnx.out.take HGX.out hn (fun _ => by omega)), HB1⟩
            case measure => rw [HL.out, HRG1.out.left_eq]; exact hlt1
          · have e2 : decide (c < av) = false := by simp; omega
            go_wp2
            go_roundw
            case rel => exact ⟨_, cnt1, av, true, rfl, rfl, HRG1, Lib.hid (hnx.out.keep HGX.out (fun _ => ⟨rfl, by omega⟩)), HB1⟩
            case measure => rw [HL.out, HRG1.out.left_eq]; exact hlt1
      · have e1 : decide (now < c) = false := by simp; omega
        go_wp2
        go_roundw
        case rel => exact ⟨_, cnt1, av, okv, rfl, rfl, HRG1, Lib.hid (hnx.out.keep HGX.out (fun h => absurd h hn)), HB1⟩
        case measure => rw [HL.out, HRG1.out.left_eq]; exact hlt1
end Go.Proofs.Ytinphdphloddmab
