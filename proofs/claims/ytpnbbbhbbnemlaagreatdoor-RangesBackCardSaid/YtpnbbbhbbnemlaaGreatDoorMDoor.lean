/-
  A heap for the rows of ranges: what the listed variables hold there; what the list says of the signs.
-/
import Derived.Test.YtpnbbbhbbnemlaaGreatDoorRows
import Derived.ProofKit
import Derived.LaidMore
import Derived.Stop.Joined
import Derived.Test.YtpnbbbhbbnemlaaGreatDoorSDigR
import Derived.Test.YtpnbbbhbbnemlaaGreatDoorRSign
import Derived.MakeChecks
import Derived.Stop.LaidErr
import Derived.OpenShut
import Derived.Lay
namespace Go.Proofs.YtpnbbbhbbnemlaaGreatDoor
open Go.ChangeShapes Go.WideShapes Go.ChangeAt Go.RowKit
set_option maxRecDepth 100000
theorem ran_door_met (os : Os) (args : Array Value) : laidMetH Tryz.prog Rows.rangesBackRow.laid ((World.laidAll Tryz.prog os Rows.rangesBackRow.laid).forCall (fun _ _ => 0) ⟨#[], args, []⟩).memory := by
  rw [MakeChecks.laidMetH_plain _ _ _ (by kernel_rfl)]; exact laidMet_laidAll _ (by kernel_rfl) (by kernel_rfl)
theorem ran_door_shaped (os : Os) (args : Array Value) : ((World.laidAll Tryz.prog os Rows.rangesBackRow.laid).forCall (fun _ _ => 0) ⟨#[], args, []⟩).Shaped Tryz.prog := World.shaped_of_ZipB (by kernel_rfl) (by kernel_rfl)
theorem ran_signs {w : World} (h : laidMetH Tryz.prog Rows.rangesBackRow.laid w) : SignsAt w := by
  rw [MakeChecks.laidMetH_plain _ _ _ (by kernel_rfl)] at h
  have h2 := h.tail.tail.tail.tail.tail.tail
  obtain ⟨ps, ⟨g0, t0, cs0, f0, p0, q0, hg0, ht0, hv0, hd0, _, _⟩, _, _⟩ := h2
  obtain rfl := Option.some.inj ((show Tryz.prog.globalNamed "slipway/ranges.signs" = some 0 by kernel_rfl).symm.trans hg0)
  obtain rfl := Option.some.inj ((show (Tryz.prog.globals[0]?).map (·.type) = some 123 by kernel_rfl).symm.trans ht0)
  obtain ⟨xs, m1, _, hx1, hlen, hn8, hel⟩ := DataW.trod_array Tryz.underlying123 hd0
  have cS : Tryz.prog.cellsOf 9 = 1 := by kernel_rfl
  have c8 : Tryz.prog.cellsOf 123 = 8 := by kernel_rfl
  simp only [Prod.mk.injEq] at hx1
  have hx := hx1.1
  unfold Rows.laid_slipway_ranges_signs at hx
  injection hx with hx
  rw [c8] at hlen
  intro i hi
  have hix : i < xs.length := by omega
  have h0 := hel i hi
  rw [cS] at h0
  have hxi : xs[i]? = some xs[i] := List.getElem?_eq_getElem hix
  rw [hxi] at h0
  obtain ⟨s, hs, hsx, _⟩ := DataW.trod_string Tryz.underlying9 h0
  have hc : cs0[i]? = some (.string s) := by
    have := congrArg (·[0]?) hs
    simpa [List.getElem?_take, List.getElem?_drop] using this
  have hval : s.data.toList = sg i := by
    have h3 := congrArg (·[i]?) hx
    rw [List.getElem?_map, hxi, hsx] at h3
    match i, hi with
    | 0, _ => simp at h3; exact h3.symm
    | 1, _ => simp at h3; exact h3.symm
    | 2, _ => simp at h3; exact h3.symm
    | 3, _ => simp at h3; exact h3.symm
    | 4, _ => simp at h3; exact h3.symm
    | 5, _ => simp at h3; exact h3.symm
    | 6, _ => simp at h3; exact h3.symm
    | 7, _ => simp at h3; exact h3.symm
  have := World.var?_cell hg0 hv0 i
  rw [this, hc, ← hval]
theorem ran_pow {w : World} (h : laidMetH Tryz.prog Rows.rangesBackRow.laid w) : PowAt w := by
  rw [MakeChecks.laidMetH_plain _ _ _ (by kernel_rfl)] at h
  exact Lib.tabIs_of_head (g := 2) (by kernel_rfl) (by kernel_rfl) Tryz.underlying205 Tryz.underlying167 (by kernel_rfl) (by kernel_rfl) h.tail.tail
end Go.Proofs.YtpnbbbhbbnemlaaGreatDoor
