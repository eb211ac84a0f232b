/-
  WHAT THE PLAIN SEARCH FINDS IS THE FIRST TARGET OF ALL CHOICES; Solve's answer in one form.
-/
import Derived.Test.YtlodledcglleiaaGreatVBe
namespace Go.Proofs.YtlodledcglleiaaGreat
open Go.RowKit
open SemP DiP FlP GaP SeaP
set_option linter.unusedVariables false
set_option maxRecDepth 10000
theorem find_same {α : Type} {p q : α → Bool} : ∀ {L : List α}, (∀ t ∈ L, p t = q t) → L.find? p = L.find? q
  | [], _ => rfl
  | x :: L, h => by
    rw [List.find?_cons, List.find?_cons, h x (by simp), find_same (L := L) (fun t ht => h t (by simp [ht]))]
theorem best_is {l : List Sv} {vs ms : List Int} {ps : List Nd} (hs : ∀ s ∈ l, s.2.length ≤ 12) (h : chkR l vs ps ms = 0) : bestR l vs ps ms = (dfs (okS l ps) (ordsL l ms vs) []).2 := by
  obtain ⟨h1, h2, h3, h4, h5, h6⟩ := chkR_ok h
  rw [dfs_spec]
  unfold bestR
  rw [find_same (p := tgtB l ps) (q := pre (okS l ps) []) (fun t ht => ?_)]
  · cases (prods (ordsL l ms vs)).find? (pre (okS l ps) []) <;> simp
  · have hl := prods_len ht
    have hl2 : t.length = l.length := by rw [hl]; exact ordsK_len _ _ _ _
    have hset : setB l t = true := setB_iff.2 ⟨hl2, fun k hk => by
      have hk' : k < l.length := by omega
      have := prods_at ht k (by rw [ordsL_len]; exact hk')
      rw [ordsL_at _ _ _ hk'] at this
      exact ordV_mem hs h1 h4 h3 hk' this⟩
    rw [Bool.eq_iff_iff]
    exact (pre_okS hset h6).symm
theorem sol_one {w w' : World} {e : Ending} {n : Nat} {x : List Int × Int} (h : SolPost w w' e n x) : ∃ A nt c, e = .returned (.tuple #[.slice A nt c, .int .i64 x.2]) ∧ Own w' w.heap.size (.slice A nt c) nt x.1 ∧ (x.2 ≠ 0 → nt = 0) ∧ Below w.heap.size w w' := by
  obtain ⟨hb, ⟨h0, hl, v, rfl, ho⟩ | ⟨h0, hl, rfl⟩⟩ := h
  · obtain ⟨A, c, rfl, _⟩ := ho.shape
    exact ⟨A, n, c, by rw [h0], ho, fun q => absurd h0 q, hb⟩
  · exact ⟨none, 0, 0, rfl, by rw [hl]; exact Own.nil_ _ _, fun _ => rfl, hb⟩
end Go.Proofs.YtlodledcglleiaaGreat
