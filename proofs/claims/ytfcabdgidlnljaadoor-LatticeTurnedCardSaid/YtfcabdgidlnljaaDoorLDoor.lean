/-
  A heap for the rows of the lattice: what the listed variable holds there; what the list says of the table.
-/
import Derived.Test.YtfcabdgidlnljaaDoorRows
import Derived.Test.YtfcabdgidlnljaaDoorLMem
import Derived.ProofKit
import Derived.LaidMore
import Derived.Stop.Joined
import Derived.MakeChecks
import Derived.Stop.LaidErr
import Derived.OpenShut
import Derived.Lay
namespace Go.Proofs.YtfcabdgidlnljaaDoor
open Go.ChangeShapes Go.WideShapes Go.ChangeAt Go.RowKit
set_option maxRecDepth 100000
theorem lat_door_met (os : Os) (args : Array Value) : laidMetH Tryd.prog Rows.latticeDownRow.laid ((World.laidAll Tryd.prog os Rows.latticeDownRow.laid).forCall (fun _ _ => 0) ⟨#[], args, []⟩).memory := by
  rw [MakeChecks.laidMetH_plain _ _ _ (by kernel_rfl)]; exact laidMet_laidAll _ (by kernel_rfl) (by kernel_rfl)
theorem lat_door_shaped (os : Os) (args : Array Value) : ((World.laidAll Tryd.prog os Rows.latticeDownRow.laid).forCall (fun _ _ => 0) ⟨#[], args, []⟩).Shaped Tryd.prog := World.shaped_of_ZipB (by kernel_rfl) (by kernel_rfl)
theorem lat_tz {w : World} (h : laidMetH Tryd.prog Rows.latticeDownRow.laid w) : Tz w ∧ 0 < w.heap.size := by
  rw [MakeChecks.laidMetH_plain _ _ _ (by kernel_rfl)] at h
  obtain ⟨ps, ⟨g0, t0, cs0, f0, p0, q0, hg0, ht0, hv0, hd0, _, _⟩, _, _⟩ := h
  obtain rfl := Option.some.inj ((show Tryd.prog.globalNamed "math/bits.deBruijn64tab" = some 0 by kernel_rfl).symm.trans hg0)
  obtain rfl := Option.some.inj ((show (Tryd.prog.globals[0]?).map (·.type) = some 82 by kernel_rfl).symm.trans ht0)
  obtain ⟨xs, m1, _, hx1, hlen, hn8, hel⟩ := DataW.trod_array Tryd.underlying82 hd0
  have cS : Tryd.prog.cellsOf 5 = 1 := by kernel_rfl
  have c8 : Tryd.prog.cellsOf 82 = 64 := by kernel_rfl
  simp only [Prod.mk.injEq] at hx1
  have hx := hx1.1
  rw [show (Rows.laid_math_bits_deBruijn64tab : DataW _) = .agg (Lib.deBruijn64tab.map fun (n : Nat) => DataW.lit (.int .u8 (n : Int))) from rfl] at hx
  injection hx with hx
  rw [c8] at hlen
  have htz : Tz w := by
    intro i hi
    have hix : i < xs.length := by
      have : Lib.deBruijn64tab.length = 64 := rfl
      omega
    have h0 := hel i (by omega)
    rw [cS] at h0
    have hxi : xs[i]? = some xs[i] := List.getElem?_eq_getElem hix
    rw [hxi] at h0
    obtain ⟨a, ha, hax, _⟩ := DataW.trod_int Tryd.underlying5 h0
    have hc : cs0[i]? = some (.int .u8 a) := by
      have := congrArg (·[0]?) ha
      simpa [List.getElem?_take, List.getElem?_drop] using this
    have hval : a = ((Lib.deBruijn64tab.getD i 0 : Nat) : Int) := by
      have h3 := congrArg (·[i]?) hx
      simp only [List.getElem?_map, hxi, Option.map_some, hax] at h3
      rw [List.getElem?_eq_getElem hi, Option.map_some] at h3
      injection h3 with h3
      injection h3 with h3
      injection h3 with _ h3
      rw [List.getD_eq_getElem?_getD, List.getElem?_eq_getElem hi]
      exact h3.symm
    have := World.var?_cell hg0 hv0 i
    rw [this, hc, hval]
  refine ⟨htz, ?_⟩
  exact block_lt_of_cell (htz 0 (by decide))
end Go.Proofs.YtfcabdgidlnljaaDoor
