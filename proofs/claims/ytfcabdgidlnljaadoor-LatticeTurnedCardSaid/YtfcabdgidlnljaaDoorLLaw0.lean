/-
  What the walks of the lattice statements share.
-/
import Derived.Test.YtfcabdgidlnljaaDoorLPlain
import Derived.Test.YtfcabdgidlnljaaDoorLPa
namespace Go.Proofs.YtfcabdgidlnljaaDoor
open Go.RowKit
open DiP
set_option linter.unusedVariables false
set_option linter.unusedSimpArgs false
set_option maxRecDepth 100000
theorem graph_nat {n : Int} {es : List (Int × Int)} (hr : GraphR n es) : ∃ (N : Nat) (g : List (Nat × Nat)), n = (N : Int) ∧ es = castE g ∧ InN N g ∧ N ≤ 64 ∧ g.length ≤ 4096 := by
  obtain ⟨h0, h1, h2, h3⟩ := hr
  obtain ⟨N, rfl⟩ := Int.eq_ofNat_of_zero_le h0
  have hes : es = castE (es.map fun e => (e.1.toNat, e.2.toNat)) := by
    unfold castE
    rw [List.map_map]
    apply List.ext_getElem?
    intro k
    rw [List.getElem?_map]
    cases hk : es[k]? with
    | none => rfl
    | some e =>
      obtain ⟨hlt, he⟩ := List.getElem?_eq_some_iff.1 hk
      obtain ⟨ha, hb⟩ := h3 k hlt
      have e1 : ea es k = e.1 := by simp [ea, List.getD, hk]
      have e2 : eb es k = e.2 := by simp [eb, List.getD, hk]
      rw [e1] at ha
      rw [e2] at hb
      have := (node_iff.1 ha).1
      have := (node_iff.1 hb).1
      simp only [Option.map_some, Function.comp]
      congr 1
      ext <;> simp <;> omega
  refine ⟨N, es.map fun e => (e.1.toNat, e.2.toNat), rfl, hes, fun k hk => ?_, by omega, by simpa using h2⟩
  have hk' : k < es.length := by simpa using hk
  obtain ⟨ha, hb⟩ := h3 k hk'
  rw [hes, ea_cast] at ha
  rw [hes, eb_cast] at hb
  have := (node_iff.1 ha).2
  have := (node_iff.1 hb).2
  omega
theorem fits_of {s n : Nat} (h : ∀ u, n ≤ u → bt s u = false) : fitsB s n = true := by
  unfold fitsB
  have : s < 2 ^ n := Nat.lt_pow_two_of_testBit s (fun i hi => h i hi)
  rw [Nat.div_eq_of_lt this]; rfl
theorem plain_any {w : World} {B m c : Nat} {z : Int} {A : Option Addr} {es : List (Int × Int)} (hx : RdE w B A m es) (hB : B ≤ w.heap.size) (hm0 : m ≤ 9223372036854775807) (ok : Bool) (hok : ok = true ↔ m ≤ 60 ∧ (z ≤ 10 ∨ ¬ GraphR z es)) :
    Calls Tryd.prog 12 #[.agg #[.int .i64 z, .slice A m c]] w fun e w' => e = .returned (.tuple #[.agg #[.int .i64 z, .slice A m c], .bool ok]) ∧ Below w.heap.size w w' := by
  by_cases hm : m ≤ 60
  · by_cases hz : z ≤ 10
    · rw [hok.2 ⟨hm, .inl hz⟩]
      exact plain_few hm hz
    · have h := plain_ask (c := c) hx hB hm0 hm hz (!ok) (by
        cases ok with
        | true => exact ⟨nofun, fun h => ((hok.1 rfl).2.elim hz (fun h2 => h2 h)).elim⟩
        | false => exact ⟨fun _ => Classical.byContradiction fun h => (by have := hok.2 ⟨hm, .inr h⟩; cases this), fun _ => rfl⟩)
      rw [Bool.not_not] at h
      exact h
  · have : ok = false := by
      cases ok with
      | false => rfl
      | true => exact (hm (hok.1 rfl).1).elim
    rw [this]
    exact plain_more hm
theorem inS_fits {n s : Nat} (hn : n ≤ 64) (h : fitsB s n = true) : inS n s := by
  rw [inS_iff hn]
  unfold fitsB at h
  have h2 := of_decide_eq_true h
  rcases Nat.div_eq_zero_iff.1 h2 with h3 | h3
  · have := Nat.two_pow_pos n; omega
  · exact h3
theorem down_is {g : List (Nat × Nat)} {n s : Nat} (hi : InN n g) (hn : n ≤ 64) (hs : s < lim) : IsDown g n s (dwnG n g s) := by
  refine ⟨dwnK_lt hs n hn, fun u => ?_⟩
  unfold dwnG
  rw [bt_dwnK]
  simp only [Bool.or_eq_true, Bool.and_eq_true, decide_eq_true_eq, Bool.not_eq_true', decide_eq_false_iff_not]
  refine or_congr_right (and_congr_right fun hu => ?_)
  rw [← ne_eq, meet_iff hs]
  exact exists_congr fun v => and_congr_left fun _ => rch_way hi hu
theorem fits_eql {s n : Nat} (h : fitsB s n = true) : ((s : Int) / 2 ^ n == 0) = true := by
  have := fits_neq (s := s) (n := n)
  rw [h] at this
  simpa using this
end Go.Proofs.YtfcabdgidlnljaaDoor
