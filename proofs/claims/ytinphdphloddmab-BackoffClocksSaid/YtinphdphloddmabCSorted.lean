/-
  slices.SortFunc with the closure of Due, over this translation: the row holds what is due, by time, then by number.
-/
import Derived.Test.YtinphdphloddmabCMore
import Derived.Sort.OwnSortedInts
namespace Go.Proofs.Ytinphdphloddmab
open Go.RowKit Go.Sort
open ByteP
set_option linter.unusedVariables false
set_option maxRecDepth 10000

theorem cf_total (G : Int → Option Int) (x y : I64) (h1 : ltOf (cfI G) x y = false) (h2 : ltOf (cfI G) y x = false) : x = y := by
  rw [lt_cf] at h1 h2
  apply Subtype.ext
  simp only [decide_eq_false_iff_not] at h1 h2
  omega
section
variable [Inhabited I64]
theorem put_same (w : World) (blk : Nat) (d : Array I64) : putRow encI w blk 0 d = putRow (Value.int .i64) w blk 0 (d.map (·.1)) := by
  have e : ∀ cur : Array Value, putCells encI 0 d cur = putCells (Value.int .i64) 0 (d.map (·.1)) cur := fun cur => by
    apply Array.ext
    · simp [putCells]
    · intro i h1 h2
      simp only [putCells, Array.getElem_mapIdx, Array.size_map]
      by_cases hi : i < d.size
      · simp [encI, hi]
      · simp [hi]
  unfold putRow
  congr 1
  funext cur
  exact e cur
/-- By time, then by number. -/
def LexG (G : Int → Option Int) (x y : Int) : Prop := tOf G x < tOf G y ∨ (tOf G x = tOf G y ∧ x ≤ y)
theorem sortF_own {w : World} {base vb cb bm n k c : Nat} {A : Option Addr} {xs : List Int} {now : Int} {D : DataW Unit} {G : Int → Option Int} (h : Own w base (.slice A k c) k xs) (hk : k ≤ 1099511627776) (hx : ∀ x ∈ xs, -9223372036854775808 ≤ x ∧ x ≤ 9223372036854775807)
    (hv : w.cell? ⟨vb, 0, none⟩ = some (.pointer (some ⟨cb, 0, none⟩))) (hvl : vb < base) (hc : Clk w cb bm now n D) (hcb : cb < base) (hbm : bm < base) (hb : base ≤ w.heap.size) (hG : AlD D G) :
    Calls Try.prog 54 #[.slice A k c, .func (.func 55) #[] #[.pointer (some ⟨vb, 0, none⟩)]] w fun e w' => e = .returned (.tuple #[]) ∧ w.grownBy w' (Value.slice A k c).ownBlock ∧ ∃ ys : List Int, Own w' base (.slice A k c) k ys ∧ ys.Perm xs ∧ ys.Pairwise (LexG G) := by
  have hl := h.len
  by_cases hk0 : k = 0
  · subst hk0
    refine (Go.Proofs.AnyF.slices_SortFunc_none (P := Try.prog) (ρ := Try.laysSF_ren) { Try.laysSF with } A c _ w).mono ?_
    rintro e w' ⟨rfl, rfl⟩
    have hxs : xs = [] := List.eq_nil_of_length_eq_zero hl
    subst hxs
    exact ⟨rfl, (World.grownBy.refl _ _), [], h, List.Perm.refl _, List.Pairwise.nil⟩
  · rcases h.2 with ⟨_, h0⟩ | ⟨g, cap, cur, hvv, hge, hg, hnc, hcm, hcs, ht⟩
    · exact absurd h0 hk0
    injection hvv with h1 h2 h3
    subst h1 h3
    rw [Nat.mul_one] at ht
    have hlt : g < w.heap.size := heapK_lt hg
    obtain ⟨d, hd⟩ : ∃ d : Array I64, d = (xs.pmap (fun x hx => (⟨x, hx⟩ : I64)) hx).toArray := ⟨_, rfl⟩
    have hds : d.size = k := by rw [hd, List.size_toArray, List.length_pmap]; exact hl
    have hH : Holds encI w g 0 d := by
      intro j hj
      have hj' : j < xs.length := by rw [hl, ← hds]; exact hj
      refine ⟨?_, by rw [Nat.zero_add]; exact h.free j⟩
      rw [Nat.zero_add, h.cell (by omega)]
      have e : d[j]! = ⟨xs[j], hx _ (List.getElem_mem hj')⟩ := by
        rw [getElem!_pos d j hj]
        subst hd
        rw [List.getElem_toArray, List.getElem_pmap]
      rw [e]
      unfold encI ix
      simp [List.getD, hj']
    have eg : ∀ args w, (callFunc 55 args).run Try.prog w = .ok (.enter 55 args) w := enters_of Try.func55 (by kernel_rfl) rfl
    have hS := Go.Proofs.Any.slices_SortFunc_total Try.laysSF encI (fun _ => rfl) (cfI G) (swo_cf G) 55 #[.pointer (some ⟨vb, 0, none⟩)] g 0 c d w eg (cmp_lays hv (by omega) (by omega) hc (by omega) (by omega) hG d.size) hH hlt (by omega) (cf_total G)
    rw [hds] at hS
    refine hS.mono ?_
    rintro e w' ⟨rfl, m, os, rfl⟩
    have hdl : d.toList.map (·.1) = xs := by
      rw [hd, List.toList_toArray, List.map_pmap]
      simp
    obtain ⟨es, hes⟩ : ∃ es : List I64, es = d.toList.mergeSort (fun x y => !(ltOf (cfI G)) y x) := ⟨_, rfl⟩
    rw [← hes]
    have hperm : es.Perm d.toList := by rw [hes]; exact List.mergeSort_perm _ _
    have hpw : es.Pairwise (fun x y => (!(ltOf (cfI G)) y x) = true) := by
      rw [hes]
      exact List.pairwise_mergeSort (fun a b c h1 h2 => by rw [lt_cf] at *; simp at *; omega) (fun a b => by rw [lt_cf, lt_cf]; simp; omega) _
    refine ⟨rfl, sortW_grown, es.map (·.1), ?_, by rw [← hdl]; exact hperm.map _, ?_⟩
    · have hlen : (es.map (·.1)).length = xs.length := by rw [← hdl, List.length_map, List.length_map]; exact hperm.length_eq
      have h5 := ownsRow_sortedI (n := m) (os := os) (ts := es.map (·.1)) (ss := xs) hlen hge hg (by omega) hcm hcs
      rw [hl] at h5
      unfold sortWorld
      rw [put_same]
      have e : es.toArray.map (·.1) = (es.map (·.1)).toArray := by simp
      rw [e]
      exact h5
    · rw [List.pairwise_map]
      exact hpw.imp (fun {x y} hxy => by rw [lt_cf] at hxy; unfold LexG; simp at hxy; omega)
end
end Go.Proofs.Ytinphdphloddmab
