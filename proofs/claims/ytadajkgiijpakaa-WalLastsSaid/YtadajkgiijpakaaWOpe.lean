/-
  CONTRACTS of package wal, over this translation: Open of a new dock.
-/
import Derived.Test.YtadajkgiijpakaaWNew
import Derived.Test.YtadajkgiijpakaaWBeg
namespace Go.Proofs.Ytadajkgiijpakaa
open Go.RowKit
open ByteP
set_option linter.unusedVariables false
set_option maxRecDepth 10000
section
variable {w : World} {B0 db mb K : Nat} {n : Nm}
set_option maxHeartbeats 2000000 in
theorem open_new (h : Dk w db mb K n (fun _ => none)) (hK : K ≤ 999999990) (hd : n.down = false) (hl : n.left = -1) (hs0 : 0 ≤ n.size) (hc : n.cap ≤ 16777216) (hfit : n.size + 9 ≤ n.cap) (hB0 : B0 ≤ w.heap.size) :
    Calls Try.prog 15 #[.pointer (some ⟨db, 0, none⟩)] w fun e w' => ∃ lb f', e = .returned (.tuple #[.pointer (some ⟨lb, 0, none⟩), .int .i64 0]) ∧ w.heap.size ≤ lb ∧
      f'.bs = frmP 0 [] ∧ f'.n = 9 ∧ f'.s = 9 ∧ Dk w' db mb (K + 2) { n with size := n.size + 9 } (putF (fun _ => none) 0 f') ∧ Lg w' (Mine db mb (putF (fun _ => none) 0 f')) B0 lb (lgNew db 9) [] [] ∧ Fr w w' (Mine db mb (fun _ => none)) ∧ (∀ b, Mine db mb (putF (fun _ => none) 0 f') b → Mine db mb (fun _ => none) b ∨ w.heap.size ≤ b) := by
  have H := Lib.hid h
  clear h
  go_enter Try.func15, Try.ntmps15
  go_wp2_with fail
  refine (names_up H.out (by omega) hd).mono ?_
  rintro e w1 ⟨A1, c1, ns, rfl, hown, hasc, hmem, _, hb1⟩
  have hns : ns = [] := by
    cases ns with
    | nil => rfl
    | cons x t => have := (hmem x).1 (by simp); cases this
  subst hns
  have H1 := Lib.hid (H.out.below hb1)
  have HB1 := Lib.hid hb1
  have HNW := Lib.hid (newest_any (A := A1) (c := c1) (m := 0) (ns := []) H1.out hd ⟨rfl, fun h => absurd h (Nat.lt_irrefl _)⟩ (by omega) List.Pairwise.nil (fun x hx => by cases hx) (fun k f hf => by cases hf))
  clear hown hasc hmem hb1
  go_wp2_with fail
  refine HNW.out.mono ?_
  rintro e w2 ⟨lb0, b, rfl, hlb, hb2, hor⟩
  obtain ⟨hb0, hnl⟩ : b = 0 ∧ NoLog w2 lb0 := by
    rcases hor with ⟨_, h1, h2⟩ | ⟨k, hk, _⟩
    · exact ⟨h1, h2⟩
    · cases hk
  subst hb0
  have HB2 : Hid (Below w.heap.size w w2) := Lib.hid (HB1.out.trans (hb2.mono HB1.out.size))
  have x1 := cellK_of_heap hnl (i := 1) (x := .int .i64 (-1)) rfl
  have HBG := Lib.hid (begin_ok (B0 := B0) (H1.out.below hb2) hK hd hl hs0 hc rfl hfit (by have := HB2.out.size; omega))
  clear hor hb2 hnl HNW
  go_wp2_with fail
  go_loopw [33] (fun i wr => i = .int .i64 0 ∧ wr = w2) (fun _ _ => 0)
  case atStart => exact ⟨rfl, rfl⟩
  case round =>
    obtain ⟨rfl, rfl⟩ := hrel
    go_wp2_with fail
    refine HBG.out.mono ?_
    rintro e w3 ⟨lb, f', rfl, hle, h1, h2, h3, h4, h5, h6, h7⟩
    have HR := Lib.hid (And.intro hle (And.intro h1 (And.intro h2 (And.intro h3 (And.intro h4 (And.intro h5 (And.intro h6 h7)))))))
    clear hle h1 h2 h3 h4 h5 h6 h7
    go_wp2
    go_ret2
    obtain ⟨hle, h1, h2, h3, h4, h5, h6, h7⟩ := HR.out
    have hz := HB2.out.size
    exact ⟨lb, f', rfl, by omega, h1, h2, h3, h4, h5, Fr.of_below_then HB2.out h6, fun b hb => (h7 b hb).imp id (fun h => by omega)⟩
end
end Go.Proofs.Ytadajkgiijpakaa
