/-
  THE LAW RangesParts: its three cases.
-/
import Derived.Test.YtbmhjmdbolnbaaaDoorRParta
import Derived.Test.YtbmhjmdbolnbaaaDoorRPartb
import Derived.Test.YtbmhjmdbolnbaaaDoorRPartc
namespace Go.Proofs.YtbmhjmdbolnbaaaDoor
open Go.RowKit
open SemP
theorem law_parts (ma1 mi1 pa1 : Int) (s1 : ByteArray) (ma2 mi2 pa2 : Int) (s2 : ByteArray) (w : World) (hg : SignsAt w) (hm : LenAt w) (h1 : 1 < w.heap.size) :
    Calls Tryd.prog 16 #[verV ma1 mi1 pa1 s1, verV ma2 mi2 pa2 s2] w fun e w' => e = .returned (.bool true) ∧ Below w.heap.size w w' := by
  rcases cmpV_tot.range ⟨ma1, mi1, pa1, bs s1⟩ ⟨ma2, mi2, pa2, bs s2⟩ with h | h | h
  · exact law_parts_a _ _ _ _ _ _ _ _ w hg hm h1 h
  · exact law_parts_b _ _ _ _ _ _ _ _ w hg hm h1 h
  · exact law_parts_c _ _ _ _ _ _ _ _ w hg hm h1 h
end Go.Proofs.YtbmhjmdbolnbaaaDoor
