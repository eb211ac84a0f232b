/-
  CONTRACT: New of one place.
-/
import Derived.Test.YtjppaonaiafgeaaADl
namespace Go.Proofs.Ytjppaonaiafgeaa
open Go.RowKit
open FlP GaP
set_option linter.unusedVariables false
set_option linter.unusedSimpArgs false
set_option maxRecDepth 10000
attribute [local go_sem] run_store_cx
set_option maxHeartbeats 8000000 in
theorem new_any {w : World} {B cp : Nat} {A : Option Addr} {p0 : Int × Int} (hx : RdC w B A 1 [p0]) (hB : B ≤ w.heap.size) (hp : Pl p0) :
    Calls Try.prog 5 #[.slice A 1 cp] w fun e w' => ∃ fb mb, e = .returned (.pointer (some ⟨fb, 0, none⟩)) ∧ w.heap.size ≤ mb ∧ Fl w' (fun g => w.heap.size ≤ g) fb mb 0 p0 (fun _ => none) [] 0 ∧ Below w.heap.size w w' := by
  have hmm := @run_makeMap Try.prog
  obtain ⟨b, off, rfl, hb, hc⟩ := hx.at_ (k := 0) (by omega)
  obtain ⟨W, HW⟩ : ∃ W, Hid (W = (w.alloc (.map #[] 0)).alloc (.cells #[.slice none 0 0, .map (some w.heap.size), .slice none 0 0, .int .i64 0] 41)) := ⟨_, Lib.hid rfl⟩
  have HZ : Hid (W.heap.size = w.heap.size + 2) := Lib.hid (by rw [HW.out]; simp)
  have HBW : Hid (Below w.heap.size w W) := Lib.hid (by rw [HW.out]; exact ((Below.refl _ w).alloc (Nat.le_refl _) _).alloc (by simp) _)
  have hcW : W.cell? ⟨b, off, none⟩ = some (cv p0) := (HBW.out.cell (p := ⟨b, off, none⟩) (by show b < w.heap.size; omega)).trans hc
  have HF : Hid (W.heap[w.heap.size + 1]? = some (.cells #[.slice none 0 0, .map (some w.heap.size), .slice none 0 0, .int .i64 0] 41 (0, 0))) := Lib.hid (by
    rw [HW.out]
    have h := heap_new (w.alloc (.map #[] 0)) (.cells #[.slice none 0 0, .map (some w.heap.size), .slice none 0 0, .int .i64 0] 41)
    rw [World.size_alloc] at h; exact h)
  have HM : Hid (W.ownsMap Try.prog 3 held w.heap.size 0 (.map [])) := Lib.hid (by
    rw [HW.out]; exact (World.ownsMap_made (H := Value) w Try.prog 3 held).alloc _)
  have HPA := Lib.hid (fun Z => parts_yes p0 hp Z)
  have HAT : Hid (∀ Z, Calls Try.prog 12 #[.int .i64 p0.1, .int .i64 p0.2] Z fun e w' => e = .returned (.tuple #[.complex .f64 (fl p0.1) (fl p0.2), .int .i64 0]) ∧ Z = w') := Lib.hid (fun Z => at_yes p0.1 p0.2 Z hp)
  obtain ⟨f0, f1, f2, f3⟩ := row4 HF.out
  have fz := free_row HF.out 0
  have HNL : Hid (OwnC W (w.heap.size + 2) (.slice none 0 0) 0 []) := Lib.hid (World.ownsRow_nil _ _ _ _)
  clear hx hp hc
  go_enter Try.func5, Try.ntmps5
  go_upto_region 4 with fail
  change Code.wp _ _ _ _ ((w.alloc (.map #[] 0)).alloc (.cells #[.slice none 0 0, .map (some w.heap.size), .slice none 0 0, .int .i64 0] 41))
  rw [← HW.out]
  go_wp2_with fail
  refine wp_loop_rounds 2 ?_
  rw [rounds_succ]
  go_wp2_with fail
  refine (HPA.out _).mono ?_
  rintro e w' ⟨rfl, rfl⟩
  go_wp2_with fail
  refine (HAT.out _).mono ?_
  rintro e w' ⟨rfl, rfl⟩
  obtain ⟨V, HV⟩ : ∃ V, Hid (V = W.alloc (.cells #[.complex .f64 (fl p0.1) (fl p0.2)] 26)) := ⟨_, Lib.hid rfl⟩
  have HWV : Hid (Below W.heap.size W V) := Lib.hid (by rw [HV.out]; exact (Below.refl _ W).alloc (Nat.le_refl _) _)
  have HVF : Hid (V.heap[w.heap.size + 1]? = _) := Lib.hid ((HWV.out.block _ (heapE_lt HF.out)).trans HF.out)
  go_wp2_with (at_builtin; refine wpl_appC rfl _ _ rfl (w.heap.size + 2) (.slice none 0 0) 0 [] rfl (OwnC.alloc HNL.out _) W.heap.size p0 rfl (by simp [cv]) (by omega) (by simp; have := HZ.out; omega) ?_; intro g c2 w2 hown2 hge2 hgr2 hat2; (have e2 : w2.heap[w.heap.size + 1]? = some (.cells #[.slice none 0 0, .map (some w.heap.size), .slice none 0 0, .int .i64 0] 41 (0, 0)) := (hgr2.block (w.heap.size + 1) (by rw [World.size_alloc]; have := HZ.out; omega) (fun e => by cases e)).trans ((Below.heap_alloc W _ (w.heap.size + 1) (heapE_lt HF.out)).trans HF.out)); (obtain ⟨k0, k1, k2, k3⟩ := row4 e2); (have kz := free_row e2 0); (have E2 := Lib.hid e2); (have HO2 := Lib.hid hown2); (have HG2 := Lib.hid hgr2); (have HGE := Lib.hid hge2); clear e2 hown2 hgr2 hge2 hat2)
  try rw [rounds_succ]
  have HEND : Hid (Fl (w2.setCell ⟨w.heap.size + 1, 0, none⟩ (.slice (some ⟨g, 0, none⟩) 1 c2)) (fun g => w.heap.size ≤ g) (w.heap.size + 1) w.heap.size 0 p0 (fun _ => none) [] 0) := Lib.hid (by
    have hset : ∀ k, k ≠ w.heap.size + 1 → (w2.setCell ⟨w.heap.size + 1, 0, none⟩ (.slice (some ⟨g, 0, none⟩) 1 c2)).heap[k]? = w2.heap[k]? := fun k hk => heap_setCell_other w2 ⟨w.heap.size + 1, 0, none⟩ k _ hk
    have hge := HGE.out
    refine ⟨g, c2, none, 0, 0, ⟨by omega, heap_setCell_same w2 (w.heap.size + 1) 0 _ _ _ E2.out, ?_, OwnF.nil_ _ _ _ _ _, .map [], ?_, enD_empty⟩, ⟨by omega, Nat.le_refl _, by omega, fun gg hgg => by cases hgg⟩⟩
    · have hp := HO2.out
      refine ⟨hp.1, ?_⟩
      rcases hp.2 with ⟨e, _⟩ | ⟨gg, cap, cur, hv, hbg, hh, r⟩
      · cases e
      · exact .inr ⟨gg, cap, cur, hv, by omega, (hset gg (by omega)).trans hh, r⟩
    · refine own_map_kept HM.out ?_
      refine (hset w.heap.size (by omega)).trans ?_
      refine (HG2.out.block w.heap.size (by rw [World.size_alloc]; have := HZ.out; omega) (fun e => by cases e)).trans ?_
      exact Below.heap_alloc W _ w.heap.size (by have := HZ.out; omega))
  have HBE : Hid (Below w.heap.size w (w2.setCell ⟨w.heap.size + 1, 0, none⟩ (.slice (some ⟨g, 0, none⟩) 1 c2))) := Lib.hid (by
    have h1 : Below w.heap.size w w2 := (HBW.out.alloc HBW.out.size (.cells #[.complex .f64 (fl p0.1) (fl p0.2)] 26)).grown HG2.out (by rw [World.size_alloc]; have := HZ.out; omega) (fun x hx => by cases hx)
    exact h1.setCell (p := ⟨w.heap.size + 1, 0, none⟩) (by show w.heap.size ≤ w.heap.size + 1; omega) _)
  go_wp2_with fail
  exact bodyPost_ret (results_tmp rfl _ _ _) rfl ⟨w.heap.size + 1, w.heap.size, rfl, Nat.le_refl _, HEND.out, HBE.out⟩
end Go.Proofs.Ytjppaonaiafgeaa
