/-
  THE WALK of the statement DigraphEdges, all cases together.
-/
import Derived.Test.YtinphdphloddmaaDEdgesA
import Derived.Test.YtinphdphloddmaaDEdgesH
namespace Go.Proofs.Ytinphdphloddmaa
open Go.RowKit
open DiP
set_option linter.unusedVariables false

theorem law_edges {w : World} {m c : Nat} {n i j : Int} {A : Option Addr} {es : List (Int × Int)} (hx : RdE w w.heap.size A m es) (hm0 : m ≤ 9223372036854775807) :
    Calls Try.prog 9 #[.agg #[.int .i64 n, .slice A m c], .int .i64 i, .int .i64 j] w fun e w' => e = .returned (.bool true) ∧ Below w.heap.size w w' := by
  by_cases hr : GraphR n es
  · by_cases hsm : m ≤ 100 ∧ n ≤ 20
    · by_cases ho : okE n i j
      · obtain ⟨N, g, rfl, rfl, hi, hN, hl⟩ := graph_nat hr
        obtain ⟨h1, h2, h3, h4, h5⟩ := ho
        obtain ⟨I, rfl⟩ := Int.eq_ofNat_of_zero_le h2
        obtain ⟨J, rfl⟩ := Int.eq_ofNat_of_zero_le h3
        by_cases hG : Goes (befG g) N N
        · cases hb : bt (rchG N g I) J with
          | true => exact law_edges_yes hx hi (by omega) hsm.1 (by omega) (by omega) hG hb
          | false => exact law_edges_not hx hi (by omega) hsm.1 (by omega) (by omega) hG hb
        · exact law_edges_cyc hx hi (by omega) hsm.1 (by omega) (by omega) hG
      · exact law_edges_out hx hr hsm ho
    · exact law_edges_great hx hr hsm
  · by_cases hm : m ≤ 100
    · by_cases ho : okE n i j
      · exact law_edges_bad hx hr hm ho
      · exact law_edges_badout hx hr hm ho
    · exact law_edges_long hx hr hm0 hm
end Go.Proofs.Ytinphdphloddmaa
