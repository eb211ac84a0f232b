/-
  CONTRACT: slices.Delete of the first of those that wait.
-/
import Derived.Test.YtjppaonaiafgeaaACa
import Derived.Lib.LazyBuf
import Derived.Lib.SliceRun
namespace Go.Proofs.Ytjppaonaiafgeaa
open Go.RowKit
open FlP GaP
set_option linter.unusedVariables false
set_option linter.unusedSimpArgs false
set_option maxRecDepth 10000
attribute [local go_sem] run_store_cx
def z4 : List Value := [.int .i64 0, .int .i64 0, .complex .f64 0 0, .bool false]
theorem run_clear1 (w : World) (ty : TypeId) (b o c : Nat) (hc : ∀ j, j < 4 → (w.cell? ⟨b, o + j, none⟩).isSome = true) (hf : ∀ j, j < 4 → w.frozen? ⟨b, o + j, none⟩ = false) :
    (Builtin.clear_ #[39] ty #[.slice (some ⟨b, o, none⟩) 1 c]).run Try.prog w = .ok (.tuple #[]) (w.setCells b o z4) := by
  have hv : ∀ w, (zeroValue 29).run Try.prog w = .ok (.agg #[.int .i64 0, .int .i64 0, .complex .f64 0 0, .bool false]) w := fun w => by kernel_rfl
  have hzc : (Builtin.zeroCells (Value.agg #[.int .i64 0, .int .i64 0, .complex .f64 0 0, .bool false]).cells 1).toList = z4 := by kernel_rfl
  have hst := run_storeCells_cells (P := Try.prog) b o z4 0 w (by simpa [z4] using hc) (by simpa [z4] using hf) (by
    intro v hv
    simp [z4] at hv
    rcases hv with rfl | rfl | rfl | rfl <;> rfl)
  simp only [Nat.add_zero] at hst
  simp [Builtin.clear_, run_underlying Try.underlying39, hv, hzc, hst]
theorem flat_len (l : List Od) : (l.flatMap odF).length = l.length * 4 := flatF_len odF_len l
theorem grown_setCells (w : World) (g : Nat) : ∀ (vs : List Value) (o : Nat) (w' : World), w.grownBy w' (some g) → w.grownBy (w'.setCells g o vs) (some g)
  | [], _, _, h => h
  | v :: r, o, w', h => grown_setCells w g r (o + 1) _ (grown_add h (grown_set w' g o v))
/-- The row behind the deletion. -/
theorem del_row {w : World} {base g cap : Nat} {o : Od} {t : List Od} {cur : Array Value} (hh : w.heap[g]? = some (.cells cur 29 (0, 0))) (hb : base ≤ g) (hn : t.length + 1 ≤ cap) (hm : cap ≤ maxLen) (hs : cur.size = cap * 4) :
    OwnF 29 4 odF ((w.setCells g 0 (t.flatMap odF)).setCells g (t.length * 4) z4) base (.slice (some ⟨g, 0, none⟩) t.length cap) t := by
  have h0 : w.rowIs g 29 (cap * 4) (fun j => cur[j]?.getD default) := ⟨cur, hh, hs, fun i hi => by
    have : i < cur.size := by omega
    show cur[i]? = some (cur[i]?.getD default)
    rw [Array.getElem?_eq_getElem this]; rfl⟩
  have h1 := rowIs_setCells (t.flatMap odF) 0 w _ h0
  have h2 := rowIs_setCells z4 (t.length * 4) _ _ h1
  obtain ⟨c, hc, hcs, hca⟩ := h2
  have hfl := flat_len t
  refine ⟨hfl, .inr ⟨g, cap, c, rfl, hb, hc, by omega, hm, hcs, ?_⟩⟩
  apply List.ext_getElem?
  intro i
  by_cases hi : i < t.length * 4
  · have e := hca i (by omega)
    dsimp only at e
    rw [if_neg (by omega), if_pos (by rw [hfl]; omega), Nat.sub_zero] at e
    rw [List.getElem?_take_of_lt hi, Array.getElem?_toList, e]
    have : i < (t.flatMap odF).length := by rw [hfl]; exact hi
    rw [List.getElem?_eq_getElem this]; rfl
  · rw [List.getElem?_eq_none (by have := List.length_take_le (t.length * 4) c.toList; omega), List.getElem?_eq_none (by rw [hfl]; omega)]
set_option maxHeartbeats 8000000 in
theorem delete_any {w : World} {base g cL : Nat} {o : Od} {t : List Od} (h : OwnF 29 4 odF w base (.slice (some ⟨g, 0, none⟩) (t.length + 1) cL) (o :: t)) (hl : t.length ≤ 100000) :
    Calls Try.prog 16 #[.slice (some ⟨g, 0, none⟩) (t.length + 1) cL, .int .i64 0, .int .i64 1] w fun e w' => e = .returned (.slice (some ⟨g, 0, none⟩) t.length cL) ∧ OwnF 29 4 odF w' base (.slice (some ⟨g, 0, none⟩) t.length cL) t ∧ w.grownBy w' (some g) := by
  rcases h.2 with ⟨e, _⟩ | ⟨g', cap, cur, hv, hbg, hh, hn, hm, hsz, htk⟩
  · cases e
  injection hv with e1 e2 e3
  injection e1 with e1
  injection e1 with e1 _ _
  subst e1 e3
  obtain ⟨i0, hi0, _, hz1, _⟩ := info_parts infoOd
  have hcell : ∀ j u, ((o :: t).flatMap odF)[j]? = some u → w.cell? ⟨g, j, none⟩ = some u := by
    intro j u hj
    have hfl := flat_len (o :: t)
    have hj2 : j < (o :: t).length * 4 := by
      rw [← hfl]; exact (List.getElem?_eq_some_iff.1 hj).1
    have htk' : cur.toList.take ((o :: t).length * 4) = (o :: t).flatMap odF := htk
    rw [← htk', List.getElem?_take_of_lt hj2, Array.getElem?_toList] at hj
    simp [World.cell?, hh, hj]
  have hsome : ∀ j, j < cL * 4 → (w.cell? ⟨g, j, none⟩).isSome = true ∧ w.frozen? ⟨g, j, none⟩ = false := by
    intro j hj
    have : j < cur.size := by omega
    refine ⟨?_, by simp [World.frozen?, hh]⟩
    simp [World.cell?, hh, Array.getElem?_eq_getElem this]
  have hnn : t.length + 1 ≤ cL := hn
  obtain ⟨news, hnews⟩ : ∃ news, news = t.flatMap odF := ⟨_, rfl⟩
  have hnl : news.length = t.length * 4 := by rw [hnews]; exact flat_len t
  have HS1 : Hid (∀ u ∈ news, u.oneCell' = true) := Lib.hid (by
    intro u hu
    rw [hnews] at hu
    obtain ⟨x, _, hx⟩ := List.mem_flatMap.1 hu
    exact odF_one x u hx)
  obtain ⟨W1, HW1⟩ : ∃ W1, Hid (W1 = w.drew.setCells g (0 + 0 * 4) news) := ⟨_, Lib.hid rfl⟩
  have HW1' : Hid (W1 = w.drew.setCells g 0 (t.flatMap odF)) := Lib.hid (by rw [HW1.out, hnews])
  have HS3 : Hid (∀ j, j < news.length → (w.drew.cell? ⟨g, 0 + 0 * 4 + j, none⟩).isSome = true ∧ w.drew.frozen? ⟨g, 0 + 0 * 4 + j, none⟩ = false) := Lib.hid (fun j hj => by
    have e : 0 + 0 * 4 + j = j := by omega
    rw [e]; exact hsome j (by omega))
  have HCL : Hid (∀ ty c, (Builtin.clear_ #[39] ty #[.slice (some ⟨g, t.length * 4, none⟩) 1 c]).run Try.prog W1 = .ok (.tuple #[]) (W1.setCells g (t.length * 4) z4)) := Lib.hid (fun ty c => run_clear1 W1 ty g (t.length * 4) c (fun j hj => by
      rw [HW1.out]
      exact World.isSome_setCells g news _ w.drew ⟨g, t.length * 4 + j, none⟩ (hsome _ (by omega)).1) (fun j hj => by
      rw [HW1.out, World.frozen?_setCells]
      exact (hsome _ (by omega)).2))
  have HOW : Hid (OwnF 29 4 odF (W1.setCells g (t.length * 4) z4) base (.slice (some ⟨g, 0, none⟩) t.length cL) t) := Lib.hid (by
    rw [HW1'.out]; exact del_row (o := o) (w := w.drew) hh hbg hn hm hsz)
  have HGR : Hid (w.grownBy (W1.setCells g (t.length * 4) z4) (some g)) := Lib.hid (by
    rw [HW1'.out]
    have h0 : w.grownBy w.drew (some g) := ⟨rfl, rfl, rfl, Nat.le_refl _, fun _ _ _ => rfl⟩
    exact grown_setCells w g z4 _ _ (grown_setCells w g (t.flatMap odF) _ _ h0))
  have HNL := Lib.hid hnl
  have HI0 := Lib.hid hi0
  have HZ1 := Lib.hid hz1
  by_cases h1 : cL = 1
  · have ht0 : t = [] := List.eq_nil_of_length_eq_zero (by omega)
    subst ht0 h1
    have hsrc : Hid (∀ j u, news[j]? = some u → w.drew.cell? ((⟨g, 0, none⟩ : Addr).add j) = some u) := Lib.hid (by
      intro j u hj
      rw [hnews] at hj
      simp at hj)
    clear hcell hsome hnews hh hsz htk h hi0 hz1 hbg hm hn e2 hnl hnn
    go_enter Try.func16, Try.ntmps16
    go_wp2_with fail
    go_region_law (refine step_append_room rfl (.tmp 22) (.tmp 25) 39 rfl 29 i0 4 Try.underlying39 HI0.out HZ1.out g 0 0 1 (by simp [Act.eval, Act.put]) ⟨g, 0, none⟩ 0 0 news (by simp [Act.eval, Act.put]) HNL.out hsrc.out HS1.out (by omega) HS3.out ?_; rw [← HW1.out])
    have hcl : ∀ ty c, (Builtin.clear_ #[39] ty #[.slice (some ⟨g, 0, none⟩) 1 c]).run Try.prog W1 = .ok (.tuple #[]) (W1.setCells g 0 z4) := HCL.out
    go_wp2
    go_ret
    exact ⟨rfl, HOW.out, HGR.out⟩
  · have hsrc : Hid (∀ j u, news[j]? = some u → w.drew.cell? ((⟨g, 4, none⟩ : Addr).add j) = some u) := Lib.hid (by
      intro j u hj
      have e : (⟨g, 4, none⟩ : Addr).add j = ⟨g, 4 + j, none⟩ := by
        unfold Addr.add
        by_cases h0 : j = 0 <;> simp [h0]
      rw [e]
      refine hcell (4 + j) u ?_
      rw [List.flatMap_cons, List.getElem?_append_right (by rw [odF_len]; omega), odF_len, Nat.add_sub_cancel_left, ← hnews]
      exact hj)
    have hb1 : (1 : Int) ≤ (t.length : Int) + 1 := by omega
    have hc1 : (cL == 1) = false := by rw [beq_eq_false_iff_ne]; exact h1
    clear hcell hsome hnews hh hsz htk h hi0 hz1 hbg hm hn e2 hnl
    go_enter Try.func16, Try.ntmps16
    go_wp2_with fail
    go_region_law (refine step_append_room rfl (.tmp 22) (.tmp 25) 39 rfl 29 i0 4 Try.underlying39 HI0.out HZ1.out g 0 0 cL (by simp [Act.eval, Act.put]) ⟨g, 4, none⟩ t.length (cL - 1) news (by simp [Act.eval, Act.put]) HNL.out hsrc.out HS1.out (by omega) HS3.out ?_; rw [← HW1.out])
    have hcl := HCL.out
    have hc2 : (cL == t.length) = false := by rw [beq_eq_false_iff_ne]; omega
    have hc3 : ¬ cL = t.length := by omega
    have hb2 : (t.length : Int) ≤ (t.length : Int) + 1 := by omega
    go_wp2
    go_ret
    exact ⟨rfl, HOW.out, HGR.out⟩
end Go.Proofs.Ytjppaonaiafgeaa
