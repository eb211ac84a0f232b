/-
  CONTRACT of the document's Circle, over this translation: there is one just if there is no order of all nodes.
-/
import Derived.Test.YtfcabdgidlnljaaDoorDFrom
namespace Go.Proofs.YtfcabdgidlnljaaDoor
open Go.RowKit
open DiP
set_option linter.unusedVariables false
namespace DiP
theorem cf_mono {f f' : Nat → Bool} (h : ∀ v, f v = true → f' v = true) : ∀ k, cf f k ≤ cf f' k := by
  intro k
  induction k with
  | zero => exact Nat.le_refl _
  | succ k ih =>
    unfold cf
    by_cases e : f k = true
    · rw [if_pos e, if_pos (h k e)]; omega
    · rw [if_neg e]; omega
theorem cf_less {f f' : Nat → Bool} (h : ∀ v, f v = true → f' v = true) {i : Nat} (h1 : f i = false) (h2 : f' i = true) : ∀ k, i < k → cf f k < cf f' k := by
  intro k
  induction k with
  | zero => intro hk; omega
  | succ k ih =>
    intro hk
    unfold cf
    by_cases e : i = k
    · subst e
      have := cf_mono h i
      rw [h1, h2]; simp; omega
    · have := ih (by omega)
      by_cases e : f k = true
      · rw [if_pos e, if_pos (h k e)]; omega
      · rw [if_neg e]; omega
theorem no_circle {g : List (Nat × Nat)} {n a : Nat} (hi : InN n g) (hn : n ≤ 64) (hg : Goes (befG g) n n) : ¬ Way g a a := fun h => by
  have := way_rank (fun _ _ e => levG_edge hi hn hg e) h
  omega
theorem goes_of_no_circle {g : List (Nat × Nat)} {n : Nat} (hi : InN n g) (hn : n ≤ 64) (h : ∀ a, a < n → ¬ Way g a a) : Goes (befG g) n n := by
  refine goes_of_rank hi hn (fun v => cf (fun u => bt (rchG n g u) v) n) (fun u v e => ?_)
  have hu := (e.lt hi).1
  refine cf_less (f := fun x => bt (rchG n g x) u) (f' := fun x => bt (rchG n g x) v) (i := u) (fun x hx => ?_) ?_ ?_ n hu
  · have hxn : x < n ∨ ¬ x < n := Nat.lt_or_ge x n |>.imp id (fun h => by omega)
    rcases hxn with hxn | hxn
    · exact (rch_way hi hxn).2 (.more ((rch_way hi hxn).1 hx) e)
    · exfalso
      have key : ∀ k, rchK n g k x = aftG g x := by
        intro k
        induction k with
        | zero => rfl
        | succ k ih => show thrJ (rchK n g k) k n x = _; unfold thrJ; rw [if_neg (fun h => hxn h.1)]; exact ih
      have hx' : bt (rchG n g x) u = true := hx
      rw [show rchG n g x = aftG g x from key n, bt_aftG] at hx'
      exact hxn (hx'.lt hi).1
  · cases hb : bt (rchG n g u) u with
    | false => rfl
    | true => exact absurd ((rch_way hi hu).1 hb) (h u hu)
  · exact (rch_way hi hu).2 (.one e)
theorem circle_of {g : List (Nat × Nat)} {n : Nat} (hi : InN n g) (hn : n ≤ 64) (hg : ¬ Goes (befG g) n n) : ∃ a, a < n ∧ bt (rchG n g a) a = true := by
  apply Classical.byContradiction
  intro h
  refine hg (goes_of_no_circle hi hn fun a ha hw => h ⟨a, ha, (rch_way hi ha).2 hw⟩)
end DiP

set_option maxRecDepth 100000 in
set_option maxHeartbeats 1000000 in
theorem circle_any {w : World} {B m c N : Nat} {A : Option Addr} {g : List (Nat × Nat)} (hx : RdG w B A m g) (hi : InN N g) (hn : N ≤ 64) (hm : m ≤ 4096) (hB : B ≤ w.heap.size) (q : Bool) (hq : q = true ↔ ¬ Goes (befG g) N N) :
    Calls Tryd.prog 16 #[.agg #[.int .i64 (N : Int), .slice A m c]] w fun e w' => e = .returned (.bool q) ∧ Below w.heap.size w w' := by
  have HX := Lib.hid hx
  have HI := Lib.hid hi
  have HL := Lib.hid hx.len
  have HQ := Lib.hid hq
  clear hx hi hq
  go_enter Tryd.func16, Tryd.ntmps16
  go_wp2_with fail
  have HW : Hid (Boxed (w.alloc (.cells #[.int .i64 (N : Int), .slice A m c] 26)) w.heap.size (N : Int) A m c ∧ Below w.heap.size w (w.alloc (.cells #[.int .i64 (N : Int), .slice A m c] 26)) ∧ w.heap.size < (w.alloc (.cells #[.int .i64 (N : Int), .slice A m c] 26)).heap.size) :=
    Lib.hid ⟨boxed_alloc _ _ _ _ _ _, (Below.refl _ _).alloc (Nat.le_refl _) _, by simp⟩
  generalize (w.alloc (.cells #[.int .i64 (N : Int), .slice A m c] 26)) = W0 at HW ⊢
  have hlt0 := HW.out.2.2
  go_loopw [3] (fun i wr => ∃ k : Nat, k ≤ N ∧ i = .int .i64 (k : Int) ∧ Hid (Below W0.heap.size W0 wr) ∧ Hid (∀ a, a < k → bt (rchG N g a) a = false)) (fun i _ => N - (intOf i).toNat)
  case atStart => exact ⟨0, Nat.zero_le _, rfl, Lib.hid (Below.refl _ _), Lib.hid (fun a h => absurd h (Nat.not_lt_zero _))⟩
  case round =>
    obtain ⟨k, hk, rfl, HR, HF⟩ := hrel
    have hszr := HR.out.size
    obtain ⟨hcn, hcs⟩ := Boxed.below HW.out.1 HR.out hlt0
    by_cases hlt : k < N
    · have HXR := Lib.hid (HX.out.below ((HW.out.2.1.trans (HR.out.mono (by omega))).mono hB))
      go_wp2_with fail
      refine (from_any HXR.out HI.out (by omega) (by omega) (by omega) hlt).mono ?_
      rintro e w6 ⟨ob, rfl, hown, hb⟩
      have hbl := OwnB.cell hown (j := k) hlt
      rw [blL_bx _ hlt] at hbl
      have HR6 : Hid (Below W0.heap.size W0 w6) := Lib.hid (HR.out.trans (hb.mono (by omega)))
      clear hb hown hcn hcs
      cases hbt : bt (rchG N g k) k with
      | true =>
        rw [hbt] at hbl
        have HT : Hid (q = true) := Lib.hid (HQ.out.2 (fun hg => no_circle HI.out hn hg ((rch_way HI.out hlt).1 hbt)))
        clear hbt
        go_wp2
        go_ret
        exact ⟨congrArg (fun b => Ending.returned (.bool b)) HT.out.symm, HW.out.2.1.trans (HR6.out.mono (by omega))⟩
      | false =>
        rw [hbt] at hbl
        have HT : Hid (∀ a, a < k + 1 → bt (rchG N g a) a = false) := Lib.hid (fun a ha => by
          by_cases e : a = k
          · subst e; exact hbt
          · exact HF.out a (by omega))
        clear hbt
        go_wp2
        go_roundw
        case rel => exact ⟨k + 1, by omega, by go_num, HR6, HT⟩
        case measure => simp [intOf]; omega
    · obtain rfl : k = N := by omega
      have HT : Hid (q = false) := Lib.hid (by
        cases hb : q with
        | false => rfl
        | true =>
          obtain ⟨a, ha, h⟩ := circle_of HI.out hn (HQ.out.1 hb)
          rw [HF.out a ha] at h; cases h)
      go_wp2
      go_ret
      exact ⟨congrArg (fun b => Ending.returned (.bool b)) HT.out.symm, HW.out.2.1.trans (HR.out.mono (by omega))⟩
end Go.Proofs.YtfcabdgidlnljaaDoor
