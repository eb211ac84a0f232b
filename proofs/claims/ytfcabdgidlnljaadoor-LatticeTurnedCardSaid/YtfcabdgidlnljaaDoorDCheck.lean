/-
  CONTRACTS of hasNode and Check of package digraph, over this translation.
-/
import Derived.Test.YtfcabdgidlnljaaDoorDMem
namespace Go.Proofs.YtfcabdgidlnljaaDoor
open Go.RowKit
set_option linter.unusedVariables false

def node (n x : Int) : Bool := decide (0 ≤ x) && decide (x < n)
theorem hasNode_any {w : World} {n x : Int} {A : Option Addr} {m c : Nat} :
    Calls Tryd.prog 49 #[.agg #[.int .i64 n, .slice A m c], .int .i64 x] w fun e w' => e = .returned (.bool (node n x)) ∧ Below w.heap.size w w' := by
  by_cases h : 0 ≤ x
  · go_enter Tryd.func49, Tryd.ntmps49
    go_wp2
    go_ret
    exact ⟨by simp [node, h], (Below.refl _ _).alloc (Nat.le_refl _) _⟩
  · go_enter Tryd.func49, Tryd.ntmps49
    go_wp2
    go_ret
    exact ⟨by rw [show node n x = false by unfold node; rw [decide_eq_false (show ¬ 0 ≤ x by omega)]; rfl]; rfl, (Below.refl _ _).alloc (Nat.le_refl _) _⟩

/-- Is it a graph? -/
def GraphR (n : Int) (es : List (Int × Int)) : Prop := 0 ≤ n ∧ n ≤ 64 ∧ es.length ≤ 4096 ∧ ∀ k < es.length, node n (ea es k) = true ∧ node n (eb es k) = true

/-- The graph's own block: its two fields. -/
def Boxed (w : World) (g : Nat) (n : Int) (A : Option Addr) (m c : Nat) : Prop := w.cell? ⟨g, 0, none⟩ = some (.int .i64 n) ∧ w.cell? ⟨g, 1, none⟩ = some (.slice A m c)
theorem boxed_alloc (w : World) (n : Int) (A : Option Addr) (m c : Nat) (t : TypeId) : Boxed (w.alloc (.cells #[.int .i64 n, .slice A m c] t)) w.heap.size n A m c := by
  constructor <;> simp
theorem Boxed.below {w w' : World} {B g m c : Nat} {n : Int} {A : Option Addr} (h : Boxed w g n A m c) (hb : Below B w w') (hg : g < B) : Boxed w' g n A m c :=
  ⟨(hb.cell (p := ⟨g, 0, none⟩) hg).trans h.1, (hb.cell (p := ⟨g, 1, none⟩) hg).trans h.2⟩

set_option maxHeartbeats 1600000 in
theorem check_yes {w : World} {B m c : Nat} {n : Int} {A : Option Addr} {es : List (Int × Int)} (hx : RdE w B A m es) (hr : GraphR n es) (hB : B ≤ w.heap.size) :
    Calls Tryd.prog 36 #[.agg #[.int .i64 n, .slice A m c]] w fun e w' => e = .returned (.int .i64 0) ∧ Below w.heap.size w w' := by
  have hm : m ≤ 4096 := by have := hr.2.2.1; rw [hx.1] at this; exact this
  have hn0 := hr.1
  have hn1 := hr.2.1
  have HX := Lib.hid hx
  have HR : Hid (∀ k < m, node n (ea es k) = true ∧ node n (eb es k) = true) := Lib.hid (by have := hr.2.2.2; rwa [hx.1] at this)
  clear hx hr
  go_enter Tryd.func36, Tryd.ntmps36
  go_wp2_with fail
  have HW : Hid (Boxed (w.alloc (.cells #[.int .i64 n, .slice A m c] 24)) w.heap.size n A m c ∧ Below w.heap.size w (w.alloc (.cells #[.int .i64 n, .slice A m c] 24))) := Lib.hid ⟨boxed_alloc _ _ _ _ _ _, (Below.refl _ _).alloc (Nat.le_refl _) _⟩
  have hsz : (w.alloc (.cells #[.int .i64 n, .slice A m c] 24)).heap.size = w.heap.size + 1 := by simp
  generalize (w.alloc (.cells #[.int .i64 n, .slice A m c] 24)) = W0 at HW hsz ⊢
  go_loopw [22] (fun i wr => ∃ k : Nat, k ≤ m ∧ i = .int .i64 (k : Int) ∧ Hid (Below (w.heap.size + 1) W0 wr)) (fun i _ => m - (intOf i).toNat)
  case atStart => exact ⟨0, by omega, rfl, Lib.hid (Below.refl _ _)⟩
  case round =>
    obtain ⟨k, hk, rfl, HB⟩ := hrel
    have HBw : Hid (Below w.heap.size w wr) := Lib.hid (HW.out.2.trans (HB.out.mono (by omega)))
    by_cases hlt : k < m
    · obtain ⟨b, off, rfl, hbb, hca, hcb⟩ := (HX.out.below (HBw.out.mono hB)).at_ hlt
      obtain ⟨hcn, hcs⟩ := HW.out.1.below HB.out (Nat.lt_succ_self _)
      obtain ⟨hna, hnb⟩ := HR.out k hlt
      have hwr : w.heap.size < wr.heap.size := by have := HB.out.size; omega
      obtain ⟨hcn1, hcs1⟩ := (Boxed.below ⟨hcn, hcs⟩ ((Below.refl wr.heap.size wr).alloc (Nat.le_refl _) (.cells #[.int .i64 (ea es k), .int .i64 (eb es k)] 43)) hwr : Boxed (wr.alloc (.cells #[.int .i64 (ea es k), .int .i64 (eb es k)] 43)) w.heap.size n (some ⟨b, off, none⟩) m c)
      have HB1 : Hid (Below (w.heap.size + 1) W0 (wr.alloc (.cells #[.int .i64 (ea es k), .int .i64 (eb es k)] 43))) := Lib.hid (HB.out.alloc (by omega) _)
      go_wp2_with fail
      refine hasNode_any.mono ?_
      rintro e w2 ⟨rfl, hbel2⟩
      rw [hna]
      have hce1 : w2.cell? ⟨wr.heap.size, 0, none⟩ = some (.int .i64 (ea es k)) := by rw [hbel2.cell (p := ⟨wr.heap.size, 0, none⟩) (by simp)]; simp
      have hce2 : w2.cell? ⟨wr.heap.size, 1, none⟩ = some (.int .i64 (eb es k)) := by rw [hbel2.cell (p := ⟨wr.heap.size, 1, none⟩) (by simp)]; simp
      have HB2 : Hid (Below (w.heap.size + 1) W0 w2) := Lib.hid (HB1.out.trans (hbel2.mono (by simp; omega)))
      obtain ⟨hcn2, hcs2⟩ := HW.out.1.below HB2.out (Nat.lt_succ_self _)
      clear hbel2
      go_wp2_with fail
      refine hasNode_any.mono ?_
      rintro e w3 ⟨rfl, hbel3⟩
      rw [hnb]
      have HB3 : Hid (Below (w.heap.size + 1) W0 w3) := Lib.hid (HB2.out.trans (hbel3.mono (by have := HB2.out.size; omega)))
      clear hbel3
      go_wp2
      go_roundw
      case rel => exact ⟨k + 1, by omega, by go_num, HB3⟩
      case measure => simp [intOf]; omega
    · go_wp2
      go_ret
      exact ⟨rfl, HBw.out⟩

set_option maxHeartbeats 1600000 in
theorem check_no {w : World} {B m c : Nat} {n : Int} {A : Option Addr} {es : List (Int × Int)} (hx : RdE w B A m es) (hr : ¬ GraphR n es) (hm0 : m ≤ 9223372036854775807) (hB : B ≤ w.heap.size) :
    Calls Tryd.prog 36 #[.agg #[.int .i64 n, .slice A m c]] w fun e w' => e = .returned (.int .i64 20) ∧ Below w.heap.size w w' := by
  have HX := Lib.hid hx
  have HXL := Lib.hid hx.1
  have HR := Lib.hid hr
  clear hx hr
  by_cases h1 : n < 0
  · go_enter Tryd.func36, Tryd.ntmps36
    go_wp2
    go_ret
    exact ⟨rfl, (Below.refl _ _).alloc (Nat.le_refl _) _⟩
  by_cases h2 : 64 < n
  · go_enter Tryd.func36, Tryd.ntmps36
    go_wp2
    go_ret
    exact ⟨rfl, (Below.refl _ _).alloc (Nat.le_refl _) _⟩
  by_cases h3 : 4096 < m
  · go_enter Tryd.func36, Tryd.ntmps36
    go_wp2
    go_ret
    exact ⟨rfl, (Below.refl _ _).alloc (Nat.le_refl _) _⟩
  go_enter Tryd.func36, Tryd.ntmps36
  go_wp2_with fail
  have HW : Hid (Boxed (w.alloc (.cells #[.int .i64 n, .slice A m c] 24)) w.heap.size n A m c ∧ Below w.heap.size w (w.alloc (.cells #[.int .i64 n, .slice A m c] 24))) := Lib.hid ⟨boxed_alloc _ _ _ _ _ _, (Below.refl _ _).alloc (Nat.le_refl _) _⟩
  have hsz : (w.alloc (.cells #[.int .i64 n, .slice A m c] 24)).heap.size = w.heap.size + 1 := by simp
  generalize (w.alloc (.cells #[.int .i64 n, .slice A m c] 24)) = W0 at HW hsz ⊢
  go_loopw [22] (fun i wr => ∃ k : Nat, k ≤ m ∧ i = .int .i64 (k : Int) ∧ Hid (∀ j < k, node n (ea es j) = true ∧ node n (eb es j) = true) ∧ Hid (Below (w.heap.size + 1) W0 wr)) (fun i _ => m - (intOf i).toNat)
  case atStart => exact ⟨0, by omega, rfl, Lib.hid (fun j hj => absurd hj (by omega)), Lib.hid (Below.refl _ _)⟩
  case round =>
    obtain ⟨k, hk, rfl, HG, HB⟩ := hrel
    have HBw : Hid (Below w.heap.size w wr) := Lib.hid (HW.out.2.trans (HB.out.mono (by omega)))
    by_cases hlt : k < m
    · obtain ⟨b, off, rfl, hbb, hca, hcb⟩ := (HX.out.below (HBw.out.mono hB)).at_ hlt
      obtain ⟨hcn, hcs⟩ := HW.out.1.below HB.out (Nat.lt_succ_self _)
      have hwr : w.heap.size < wr.heap.size := by have := HB.out.size; omega
      obtain ⟨hcn1, hcs1⟩ := (Boxed.below ⟨hcn, hcs⟩ ((Below.refl wr.heap.size wr).alloc (Nat.le_refl _) (.cells #[.int .i64 (ea es k), .int .i64 (eb es k)] 43)) hwr : Boxed (wr.alloc (.cells #[.int .i64 (ea es k), .int .i64 (eb es k)] 43)) w.heap.size n (some ⟨b, off, none⟩) m c)
      have HB1 : Hid (Below (w.heap.size + 1) W0 (wr.alloc (.cells #[.int .i64 (ea es k), .int .i64 (eb es k)] 43))) := Lib.hid (HB.out.alloc (by omega) _)
      go_wp2_with fail
      refine hasNode_any.mono ?_
      rintro e w2 ⟨rfl, hbel2⟩
      have hce1 : w2.cell? ⟨wr.heap.size, 0, none⟩ = some (.int .i64 (ea es k)) := by rw [hbel2.cell (p := ⟨wr.heap.size, 0, none⟩) (by simp)]; simp
      have hce2 : w2.cell? ⟨wr.heap.size, 1, none⟩ = some (.int .i64 (eb es k)) := by rw [hbel2.cell (p := ⟨wr.heap.size, 1, none⟩) (by simp)]; simp
      have HB2 : Hid (Below (w.heap.size + 1) W0 w2) := Lib.hid (HB1.out.trans (hbel2.mono (by simp; omega)))
      obtain ⟨hcn2, hcs2⟩ := HW.out.1.below HB2.out (Nat.lt_succ_self _)
      clear hbel2
      cases hna : node n (ea es k) with
      | false =>
        go_wp2
        go_ret
        exact ⟨rfl, HW.out.2.trans (HB2.out.mono (by omega))⟩
      | true =>
        go_wp2_with fail
        refine hasNode_any.mono ?_
        rintro e w3 ⟨rfl, hbel3⟩
        have HB3 : Hid (Below (w.heap.size + 1) W0 w3) := Lib.hid (HB2.out.trans (hbel3.mono (by have := HB2.out.size; omega)))
        clear hbel3
        cases hnb : node n (eb es k) with
        | false =>
          go_wp2
          go_ret
          exact ⟨rfl, HW.out.2.trans (HB3.out.mono (by omega))⟩
        | true =>
          go_wp2
          go_roundw
          case rel => exact ⟨k + 1, by omega, by go_num, Lib.hid (fun j hj => by
            by_cases hjk : j < k
            · exact HG.out j hjk
            · obtain rfl : j = k := by omega
              exact ⟨hna, hnb⟩), HB3⟩
          case measure => simp [intOf]; omega
    · exfalso
      refine HR.out ⟨by omega, by omega, by rw [HXL.out]; omega, fun j hj => HG.out j (by rw [HXL.out] at hj; omega)⟩
end Go.Proofs.YtfcabdgidlnljaaDoor
