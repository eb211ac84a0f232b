/-
  CONTRACT of the statements' anchor (the document's example), over this translation.
-/
import Derived.Test.YtinphdphloddmaaDThin
namespace Go.Proofs.Ytinphdphloddmaa
open Go.RowKit
open DiP
set_option linter.unusedVariables false

/-- The document's example. -/
def exG : List (Nat × Nat) := [(0, 1), (1, 2), (0, 2)]
theorem exG_goes : Goes (befG exG) 3 3 := by unfold Goes; decide
theorem exG_ord : ordA (befG exG) 3 = [0, 1, 2] := by decide
theorem exG_thin : thnG 3 exG = [(0, 1), (1, 2)] := by decide
theorem exG_in : InN 3 exG := by
  intro k hk
  match k, hk with
  | 0, _ => decide
  | 1, _ => decide
  | 2, _ => decide
theorem exG_closed : closedB exG 5 = false := by decide
theorem exG_fits : fitsB 5 3 = true := by decide

/-- The example's edges in memory. -/
theorem exG_rd (w : World) : RdG (w.alloc (.cells #[.int .i64 0, .int .i64 1, .int .i64 1, .int .i64 2, .int .i64 0, .int .i64 2] 52)) (w.heap.size + 1) (some ⟨w.heap.size, 0, none⟩) 3 exG := by
  refine ⟨rfl, fun _ => ⟨_, 0, rfl, by omega, fun j hj => ?_⟩⟩
  match j, hj with
  | 0, _ => constructor <;> (simp; rfl)
  | 1, _ => constructor <;> (simp; rfl)
  | 2, _ => constructor <;> (simp; rfl)

theorem order_ex {w : World} {B c : Nat} {A : Option Addr} (hx : RdG w B A 3 exG) (hB : B ≤ w.heap.size) :
    Calls Try.prog 17 #[.agg #[.int .i64 3, .slice A 3 c]] w fun e w' => ∃ g c', e = .returned (.tuple #[.slice (some ⟨g, 0, none⟩) 3 c', .int .i64 0]) ∧ Below w.heap.size w w' ∧ g < w'.heap.size ∧ w'.cell? ⟨g, 0, none⟩ = some (.int .i64 0) ∧ w'.cell? ⟨g, 2, none⟩ = some (.int .i64 2) := by
  refine Calls.mono (order_any (n := 3) hx exG_in (by omega) (by omega) hB) ?_
  rintro e w' ⟨hb, ho⟩
  rcases ho with ⟨_, A', c', rfl, hown⟩ | ⟨h, _⟩
  · rw [exG_ord] at hown
    obtain ⟨g, c'', hv, _, hlt⟩ := hown.form (by omega)
    injection hv with h1 h2 h3
    subst h1
    exact ⟨g, c', rfl, hb, hlt, hown.cell (j := 0) (by omega), hown.cell (j := 2) (by omega)⟩
  · exact absurd exG_goes h
theorem thin_ex {w : World} {B c : Nat} {A : Option Addr} (hx : RdG w B A 3 exG) (hB : B ≤ w.heap.size) :
    Calls Try.prog 33 #[.agg #[.int .i64 3, .slice A 3 c]] w fun e w' => ∃ A' c', e = .returned (.tuple #[.slice A' 2 c', .int .i64 0]) ∧ Below w.heap.size w w' := by
  refine Calls.mono (thin_any (n := 3) hx hB exG_in (by omega) (by omega) exG_goes) ?_
  rintro e w' ⟨hb, A', c', rfl, _⟩
  exact ⟨A', c', by rw [exG_thin]; rfl, hb⟩
theorem closed_ex {w : World} {B c : Nat} {A : Option Addr} (hx : RdG w B A 3 exG) (hB : B ≤ w.heap.size) :
    Calls Try.prog 28 #[.agg #[.int .i64 3, .slice A 3 c], .int .u64 5] w fun e w' => e = .returned (.tuple #[.bool false, .int .i64 0]) ∧ Below w.heap.size w w' := by
  refine Calls.mono (closed_any (n := 3) (s := 5) hx exG_in (by omega) (by omega) hB (by decide) exG_fits) ?_
  rintro e w' ⟨he, hb⟩
  rw [exG_closed] at he
  exact ⟨he, hb⟩

set_option maxRecDepth 100000 in
set_option maxHeartbeats 1000000 in
theorem anchor_any (w : World) : Calls Try.prog 15 #[] w fun e w' => e = .returned (.bool true) ∧ Below w.heap.size w w' := by
  go_enter Try.func15, Try.ntmps15
  go_wp2_with fail
  obtain ⟨W1, hW⟩ : ∃ W1, W1 = ((w.alloc (.cells #[.int .i64 0, .int .i64 1, .int .i64 1, .int .i64 2, .int .i64 0, .int .i64 2] 52)).alloc (.cells #[.int .i64 3, .slice (some ⟨w.heap.size, 0, none⟩) 3 3] 24)) := ⟨_, rfl⟩
  have HX : Hid (RdG W1 (w.heap.size + 1) (some ⟨w.heap.size, 0, none⟩) 3 exG) := Lib.hid (by rw [hW]; exact RdE.alloc (exG_rd w) (by simp) _)
  have HB1 : Hid (Below w.heap.size w W1) := Lib.hid (by rw [hW]; exact ((Below.refl _ _).alloc (Nat.le_refl _) _).alloc (by simp) _)
  have hcn : W1.cell? ⟨w.heap.size + 1, 0, none⟩ = some (.int .i64 3) := by rw [hW]; simp
  have hcs : W1.cell? ⟨w.heap.size + 1, 1, none⟩ = some (.slice (some ⟨w.heap.size, 0, none⟩) 3 3) := by rw [hW]; simp
  have hsz : w.heap.size + 1 < W1.heap.size := by rw [hW]; simp
  rw [← hW]
  clear hW
  refine (order_ex HX.out (by omega)).mono ?_
  rintro e w2 ⟨g, c2, rfl, hb, hg, ho0, ho2⟩
  have HX2 : Hid (RdG w2 (w.heap.size + 1) (some ⟨w.heap.size, 0, none⟩) 3 exG) := Lib.hid (HX.out.below (hb.mono (by omega)))
  have HB2 : Hid (Below w.heap.size w w2) := Lib.hid (HB1.out.trans (hb.mono (by omega)))
  have hcn2 := (hb.cell (p := ⟨w.heap.size + 1, 0, none⟩) hsz).trans hcn
  have hcs2 := (hb.cell (p := ⟨w.heap.size + 1, 1, none⟩) hsz).trans hcs
  have hsz2 : w.heap.size + 1 < w2.heap.size := Nat.lt_of_lt_of_le hsz hb.size
  clear hb hcn hcs hsz
  go_wp2_with fail
  refine (thin_ex HX2.out (by omega)).mono ?_
  rintro e w3 ⟨A3, c3, rfl, hb⟩
  have HX3 : Hid (RdG w3 (w.heap.size + 1) (some ⟨w.heap.size, 0, none⟩) 3 exG) := Lib.hid (HX2.out.below (hb.mono (by omega)))
  have HB3 : Hid (Below w.heap.size w w3) := Lib.hid (HB2.out.trans (hb.mono (by omega)))
  have hcn3 := (hb.cell (p := ⟨w.heap.size + 1, 0, none⟩) hsz2).trans hcn2
  have hcs3 := (hb.cell (p := ⟨w.heap.size + 1, 1, none⟩) hsz2).trans hcs2
  have ho03 := (hb.cell (p := ⟨g, 0, none⟩) hg).trans ho0
  have ho23 := (hb.cell (p := ⟨g, 2, none⟩) hg).trans ho2
  have hsz3 : w.heap.size + 1 < w3.heap.size := Nat.lt_of_lt_of_le hsz2 hb.size
  have hg3 : g < w3.heap.size := Nat.lt_of_lt_of_le hg hb.size
  clear hb hcn2 hcs2 ho0 ho2 hsz2 hg
  go_wp2_with fail
  refine (closed_ex HX3.out (by omega)).mono ?_
  rintro e w4 ⟨rfl, hb⟩
  have HB4 : Hid (Below w.heap.size w w4) := Lib.hid (HB3.out.trans (hb.mono (by omega)))
  have ho04 := (hb.cell (p := ⟨g, 0, none⟩) hg3).trans ho03
  have ho24 := (hb.cell (p := ⟨g, 2, none⟩) hg3).trans ho23
  clear hb hcn3 hcs3 ho03 ho23 hsz3 hg3
  go_wp2
  go_ret
  exact ⟨rfl, HB4.out⟩
end Go.Proofs.Ytinphdphloddmaa
