/-
  CONTRACT of the clock's Next over this translation, with the time that it answers where there is none.
-/
import Derived.Test.YtinphdphloddmabCNext
namespace Go.Proofs.Ytinphdphloddmab
open Go.RowKit
set_option linter.unusedVariables false
set_option maxRecDepth 10000

theorem next_full {w : World} {cb bm n : Nat} {now : Int} {D : DataW Unit} {G : Int → Option Int} (hc : Clk w cb bm now n D) (hG : AlD D G) :
    Calls Try.prog 37 #[.pointer (some ⟨cb, 0, none⟩)] w fun e w' => ∃ a ok, e = .returned (.tuple #[.int .i64 a, .bool ok]) ∧ (ok = true → now < a ∧ ∃ x, G x = some a) ∧ (∀ x t, G x = some t → now < t → ok = true ∧ a ≤ t) ∧ (ok = false → a = 0) ∧ Below w.heap.size w w' := by
  have c0 := hc.c0
  have c1 := hc.c1
  have hlt := hc.lt
  have hown := hc.own
  have HG := Lib.hid hG
  have HC0 := Lib.hid c0
  clear hc hG
  go_enter Try.func37, Try.ntmps37
  go_wp2_with (first
    | (at_range; refine wpList_range_own _ rfl _ 95 rfl 3 3 lawI Try.underlying95 _ bm n D rfl hown ?_; intro w0 hrg0 hg0 hs0)
    | go_in)
  go_frame
  have HB0 : Hid (Below w.heap.size w w0) := Lib.hid ((Below.refl _ _).grown hg0 (Nat.le_refl _) (fun j hj => by cases hj))
  clear hown c0 c1
  go_loopw [2, 3] (fun a ok wr => ∃ (left : Lit → Bool) (cnt : Nat) (av : Int) (okv : Bool), a = .int .i64 av ∧ ok = .bool okv ∧ Hid (wr.ranges Try.prog 3 (plainElem Try.prog 3) bm w.heap.size n D left cnt) ∧ Hid (NxR G now left av okv) ∧ Hid (Below w.heap.size w wr))
    (fun _ _ wr => wr.rangeLeft bm w.heap.size)
  case atStart => exact ⟨_, _, 0, false, rfl, rfl, Lib.hid hrg0, Lib.hid (NxR.start HG.out now), HB0⟩
  case round =>
    obtain ⟨left, cnt, av, okv, rfl, rfl, hrg, hnx, hbel⟩ := hrel
    go_wp2_with (first
      | (at_next; refine wpList_next_ranges_ii _ rfl _ rfl 3 3 .i64 .i64 lawI Try.underlying3 Try.underlying3 bm w.heap.size n _ _ _ rfl hrg.out ?_ ?_)
      | go_in)
    · intro hc0 hl0
      have HN : Hid (∀ x t, G x = some t → now < t → okv = true ∧ av ≤ t) := Lib.hid (fun x t hx ht => hnx.out.lo x t hx (hl0 _) ht)
      clear hl0 hrg
      go_wp2
      go_ret2
      exact ⟨av, okv, rfl, hnx.out.hi, HN.out, hnx.out.zero, hbel.out⟩
    · intro x c w1 cnt1 hwx hwc hlx hat hrg1 hlt1 hg1 hs1 hen
      have HGX : Hid (G x = some c) := Lib.hid (HG.out.entry (hnx.out.todo x hlx) hat)
      have HRG1 := Lib.hid hrg1
      have HB1 : Hid (Below w.heap.size w w1) := Lib.hid (hbel.out.grown hg1 hbel.out.size (fun g hg => by injection hg with e; omega))
      have HL : Hid (wr.rangeLeft bm w.heap.size = cnt) := Lib.hid hrg.out.left_eq
      have d0 := (HB1.out.cell (p := ⟨cb, 0, none⟩) hlt).trans HC0.out
      clear hrg1 hg1 hat hwx hwc hlx hs1
      by_cases hn : now < c
      · have e1 : decide (now < c) = true := by simp; omega
        cases okv with
        | false =>
          go_wp2
          go_roundw
          case rel => exact ⟨_, cnt1, c, true, rfl, rfl, HRG1, Lib.hid (hnx.out.take HGX.out hn (fun h => by cases h)), HB1⟩
          case measure => rw [HL.out, HRG1.out.left_eq]; exact hlt1
        | true =>
          by_cases hs : c < av
          · have e2 : decide (c < av) = true := by simp; omega
            go_wp2
            go_roundw
            case rel => exact ⟨_, cnt1, c, true, rfl, rfl, HRG1, Lib.hid (hnx.out.take HGX.out hn (fun _ => by omega)), HB1⟩
            case measure => rw [HL.out, HRG1.out.left_eq]; exact hlt1
          · have e2 : decide (c < av) = false := by simp; omega
            go_wp2
            go_roundw
            case rel => exact ⟨_, cnt1, av, true, rfl, rfl, HRG1, Lib.hid (hnx.out.keep HGX.out (fun _ => ⟨rfl, by omega⟩)), HB1⟩
            case measure => rw [HL.out, HRG1.out.left_eq]; exact hlt1
      · have e1 : decide (now < c) = false := by simp; omega
        go_wp2
        go_roundw
        case rel => exact ⟨_, cnt1, av, okv, rfl, rfl, HRG1, Lib.hid (hnx.out.keep HGX.out (fun h => absurd h hn)), HB1⟩
        case measure => rw [HL.out, HRG1.out.left_eq]; exact hlt1
end Go.Proofs.Ytinphdphloddmab
