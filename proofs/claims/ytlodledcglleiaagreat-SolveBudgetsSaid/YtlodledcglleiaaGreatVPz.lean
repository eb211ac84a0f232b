/-
  WHAT THE PLAIN SEARCH ANSWERS: consequences.
-/
import Derived.Test.YtlodledcglleiaaGreatVPa
namespace Go.Proofs.YtlodledcglleiaaGreat
open Go.RowKit
open SemP DiP FlP GaP SeaP
set_option linter.unusedVariables false
theorem solR_ok {l : List Sv} {now : List Int} {ps : List Nd} {ms : List Int} {b : Int} (h : (solR l now ps ms b).2 = 0) : chkR l now ps ms = 0 ∧ (1 ≤ b ∧ b ≤ 1048576) ∧ (dfs (okS l ps) (ordsL l ms now) []).2 = some (solR l now ps ms b).1 ∧ ((dfs (okS l ps) (ordsL l ms now) []).1 : Int) ≤ b := by
  unfold solR at h ⊢
  by_cases h1 : chkR l now ps ms ≠ 0
  · rw [if_pos h1] at h; exact absurd h h1
  · rw [if_neg h1] at h ⊢
    by_cases h2 : b < 1 ∨ 1048576 < b
    · rw [if_pos h2] at h; exact absurd h (by decide)
    · rw [if_neg h2] at h ⊢
      by_cases h3 : b < ((dfs (okS l ps) (ordsL l ms now) []).1 : Int)
      · rw [if_pos h3] at h; exact absurd h (by decide)
      · rw [if_neg h3] at h ⊢
        revert h
        split
        · intro hh
          rename_i t ht
          exact ⟨by omega, by omega, ht, by omega⟩
        · intro h; exact absurd h (by decide)
theorem solR_of {l : List Sv} {now : List Int} {ps : List Nd} {ms : List Int} {b : Int} {t : List Int} (hc : chkR l now ps ms = 0) (hb : 1 ≤ b ∧ b ≤ 1048576) (hd : (dfs (okS l ps) (ordsL l ms now) []).2 = some t) (hle : ((dfs (okS l ps) (ordsL l ms now) []).1 : Int) ≤ b) : solR l now ps ms b = (t, 0) := by
  unfold solR
  rw [if_neg (by omega), if_neg (by omega), if_neg (by omega), hd]
theorem ordsL_at (l : List Sv) (ms now : List Int) {i : Nat} (h : i < l.length) : (ordsL l ms now).getD i [] = ordV l ms now i := ordsK_at l ms now h
theorem ordsL_len (l : List Sv) (ms now : List Int) : (ordsL l ms now).length = l.length := ordsK_len _ _ _ _
theorem setB_at {l : List Sv} {t : List Int} (h : setB l t = true) {i : Nat} (hi : i < l.length) : 0 ≤ ix t i ∧ ix t i < ((svAt l i).2.length : Int) := by
  obtain ⟨hl, hk⟩ := setB_iff.1 h
  have := hk i (by omega)
  unfold isR isS at this
  rw [decide_eq_true (show (0 : Int) ≤ (i : Int) by omega), decide_eq_true (show (i : Int) < (l.length : Int) by omega), Int.toNat_natCast] at this
  simpa using this
theorem ix_replicate {n i : Nat} {v : Int} (h : i < n) : ix (List.replicate n v) i = v := by
  unfold ix; simp [List.getD, h]
theorem modB_rep (n : Nat) : modB (List.replicate n 2) = true := by
  unfold modB
  rw [List.all_eq_true]
  intro x hx
  obtain rfl := List.eq_of_mem_replicate hx
  rfl
theorem chkR_of {l : List Sv} {now : List Int} {ps : List Nd} {ms : List Int} (h1 : setB l now = true) (h2 : ps.length ≤ 24) (h3 : ms.length = l.length) (h4 : modB ms = true) (h5 : pinsB ps = true) (h6 : svcB l ps = true) : chkR l now ps ms = 0 := by
  unfold chkR
  rw [if_neg (by simp [h1]), if_neg (by omega), if_neg (by simp [h4, h5]), if_neg (by simp [h6])]
theorem held_heads {l : List Sv} {t : List Int} (ht : setB l t = true) : heads (ordsL l (List.replicate l.length 2) t) t := by
  refine heads_of (by rw [ordsL_len]; exact (setB_iff.1 ht).1) (fun i hi => ?_)
  rw [ordsL_len] at hi
  rw [ordsL_at _ _ _ hi]
  have h := setB_at ht hi
  unfold ordV
  rw [ix_replicate hi]
  refine ⟨(newestL (svAt l i).2.length).filter (fun v => v != (((ix t i).toNat : Nat) : Int)), ?_⟩
  show heldL _ _ = _
  unfold heldL
  rw [Int.toNat_of_nonneg h.1]; rfl
theorem solR_held {l : List Sv} {now t : List Int} {ps : List Nd} {ms : List Int} (h16 : l.length ≤ 16) (hc : chkR l now ps ms = 0) (ht : tgtB l ps t = true) : solR l t ps (List.replicate l.length 2) 1048576 = (t, 0) := by
  obtain ⟨_, h2, _, _, h5, h6⟩ := chkR_ok hc
  have hset := (tgtB_iff.1 ht).1
  have hp := (pre_okS hset h6).2 ht
  have hd := dfs_heads (ok := okS l ps) (held_heads hset) hp
  refine solR_of (chkR_of hset h2 (by simp) (modB_rep _) h5 h6) (by omega) (by rw [hd]; simp) (by rw [hd, ordsL_len]; show (l.length : Int) ≤ _; omega)
theorem solR_tgt {l : List Sv} {now : List Int} {ps : List Nd} {ms : List Int} {b : Int} (hs : ∀ s ∈ l, s.2.length ≤ 12) (h : (solR l now ps ms b).2 = 0) : tgtB l ps (solR l now ps ms b).1 = true := by
  obtain ⟨h1, _, h3, _⟩ := solR_ok h
  exact found_tgt hs h1 h3
end Go.Proofs.YtlodledcglleiaaGreat
