/-
  WITHOUT NEEDS AND PINS each service goes to what its mode prefers.
-/
import Derived.Test.YteiknbkigbdfgaaVPz
import Derived.Test.YteiknbkigbdfgaaCBs
namespace Go.Proofs.Yteiknbkigbdfgaa
open Go.RowKit
open SemP DiP FlP GaP SeaP
set_option linter.unusedVariables false
set_option linter.unusedSimpArgs false
def wantF (l : List Sv) (now ms : List Int) (i : Nat) : Int :=
  if ix ms i = 1 then 0 else if 1 < ix ms i then ix now i else ((svAt l i).2.length : Int) - 1
def freeT (l : List Sv) (now ms : List Int) : List Int := (List.range l.length).map (wantF l now ms)
theorem freeT_len (l : List Sv) (now ms : List Int) : (freeT l now ms).length = l.length := by simp [freeT]
theorem freeT_at (l : List Sv) (now ms : List Int) {i : Nat} (h : i < l.length) : ix (freeT l now ms) i = wantF l now ms i := by
  unfold freeT ix; simp [List.getD, h]
theorem newest_head {n : Nat} (h : 1 ≤ n) : ∃ o, newestL n = ((n : Int) - 1) :: o := by
  obtain ⟨k, rfl⟩ : ∃ k, n = k + 1 := ⟨n - 1, by omega⟩
  refine ⟨newestL k, ?_⟩
  unfold newestL
  rw [oldestL_succ, List.reverse_append]
  simp
theorem oldest_head {n : Nat} (h : 1 ≤ n) : ∃ o, oldestL n = (0 : Int) :: o := by
  obtain ⟨k, rfl⟩ : ∃ k, n = k + 1 := ⟨n - 1, by omega⟩
  refine ⟨((List.range k).map Nat.succ).map Int.ofNat, ?_⟩
  unfold oldestL
  rw [List.range_succ_eq_map, List.map_cons]
  rfl
theorem bare_fits {l l2 : List Sv} (h : Bared l l2) {vs : List Int} (hset : setB l2 vs = true) {i j : Nat} (hi : i < vs.length) (hj : j < vs.length) (hne : i ≠ j) : fitsC l2 (i : Int) (ix vs i) (j : Int) (ix vs j) = true := by
  obtain ⟨s1, s2⟩ := setB_iff.1 hset
  have b1 : ∀ (i : Int) v (j : Int) x, isR l2 i v = true → bearsB l2 i v j x = true := fun i v j x hr => by
    obtain ⟨a, b, rfl, rfl, ha, hb⟩ := isR_nat hr
    rw [h.len] at ha
    unfold bearsB
    rw [Int.toNat_natCast, Int.toNat_natCast, h.no a ha b (by rw [← (h.sub a ha).2.1]; exact hb)]
    rfl
  have r1 := s2 i hi
  have r2 := s2 j hj
  unfold fitsC
  rw [decide_eq_true (by omega), r1, r2, b1 _ _ _ _ r1, b1 _ _ _ _ r2]
  rfl
theorem setB_of {l : List Sv} {t : List Int} (hl : t.length = l.length) (h : ∀ i, i < l.length → 0 ≤ ix t i ∧ ix t i < ((svAt l i).2.length : Int)) : setB l t = true :=
  setB_iff.2 ⟨hl, fun k hk => by
    have := h k (by omega)
    unfold isR isS
    rw [decide_eq_true (show (0 : Int) ≤ (k : Int) by omega), decide_eq_true (show (k : Int) < (l.length : Int) by omega), Int.toNat_natCast]
    simpa using this⟩
theorem bare_set {l l2 : List Sv} (h : Bared l l2) {vs : List Int} (hset : setB l vs = true) : setB l2 vs = true :=
  setB_of (by rw [(setB_iff.1 hset).1, h.len]) (fun i hi => by
    rw [h.len] at hi
    rw [(h.sub i hi).2.1]; exact setB_at hset hi)
theorem solR_free {l l2 : List Sv} {now ms : List Int} (h : Bared l l2) (hck : (chkC l).2.2 = 0) (hset : setB l now = true) (hml : ms.length = l.length) (hm : modB ms = true) : solR l2 now [] ms 100 = (freeT l now ms, 0) := by
  have hl12 := (ck_len hck).2
  have hs2 := bare_set h hset
  have hw : ∀ i, i < l.length → 0 ≤ wantF l now ms i ∧ wantF l now ms i < ((svAt l i).2.length : Int) := by
    intro i hi
    have h1 := ck_rel1 hck hi
    have h2 := setB_at hset hi
    unfold wantF
    split
    · omega
    · split <;> omega
  have hT : setB l2 (freeT l now ms) = true := setB_of (by rw [freeT_len, h.len]) (fun i hi => by
    rw [h.len] at hi
    rw [(h.sub i hi).2.1, freeT_at l now ms hi]; exact hw i hi)
  have htg : tgtB l2 [] (freeT l now ms) = true := tgtB_iff.2 ⟨hT, rfl, fun j hj => ⟨rfl, fun i hi => bare_fits h hT (by omega) hj (by omega)⟩⟩
  have hh : heads (ordsL l2 ms now) (freeT l now ms) := heads_of (by rw [ordsL_len, freeT_len, h.len]) (fun i hi => by
    rw [ordsL_len] at hi
    rw [ordsL_at _ _ _ hi]
    rw [h.len] at hi
    have h1 := ck_rel1 hck hi
    have h2 := setB_at hset hi
    have hmi := modB_at hm (i := i) (by omega)
    rw [iz_ix, freeT_at l now ms hi]
    unfold ordV
    rw [(h.sub i hi).2.1]
    unfold orderL wantF
    by_cases m1 : ix ms i = 1
    · rw [if_pos (by rw [m1]; rfl), if_pos m1]
      exact oldest_head h1
    rw [if_neg (by omega), if_neg m1]
    by_cases m2 : ix ms i = 2
    · rw [if_pos (by rw [m2]; rfl), if_pos (by omega)]
      refine ⟨(newestL (svAt l i).2.length).filter (fun v => v != (((ix now i).toNat : Nat) : Int)), ?_⟩
      show heldL _ _ = _
      unfold heldL
      rw [Int.toNat_of_nonneg h2.1]
    rw [if_neg (by omega)]
    by_cases m3 : ix ms i = 3
    · rw [if_pos (by rw [m3]; rfl), if_pos (by omega)]
      refine ⟨(List.range ((svAt l i).2.length - 1)).flatMap fun j => nearAt (svAt l i).2.length (ix now i).toNat (j + 1), ?_⟩
      unfold nearestL
      rw [Int.toNat_of_nonneg h2.1]
    rw [if_neg (by omega), if_neg (by omega)]
    exact newest_head h1)
  have hd := dfs_heads (ok := okS l2 []) hh ((pre_okS hT rfl).2 htg)
  refine solR_of (chkR_of hs2 (by simp) (by rw [h.len]; exact hml) hm rfl rfl) (by omega) (by rw [hd]; simp) (by rw [hd, ordsL_len, h.len]; show (l.length : Int) ≤ _; omega)
theorem solR_count {l l2 : List Sv} {now ms : List Int} (h : Bared l l2) (hset : setB l now = true) (hml : ms.length ≠ l.length) : solR l2 now [] ms 100 = ([], 36) := by
  have hc : chkR l2 now [] ms = 36 := by
    unfold chkR
    rw [if_neg (by simp [bare_set h hset]), if_pos (.inr (by rw [h.len]; exact hml))]
  unfold solR
  rw [hc, if_pos (by decide)]
theorem solR_form {l l2 : List Sv} {now ms : List Int} (h : Bared l l2) (hset : setB l now = true) (hml : ms.length = l.length) (hm : modB ms = false) : solR l2 now [] ms 100 = ([], 12) := by
  have hc : chkR l2 now [] ms = 12 := by
    unfold chkR
    rw [if_neg (by simp [bare_set h hset]), if_neg (by rw [h.len]; simp; exact hml), if_pos (by rw [hm]; rfl)]
  unfold solR
  rw [hc, if_pos (by decide)]
theorem modB_false {ms : List Int} (h : modB ms = false) (hk : ∀ i, i < ms.length → 0 ≤ ix ms i ∧ ix ms i ≤ 3) : False := by
  have : modB ms = true := by
    unfold modB
    rw [List.all_eq_true]
    intro x hx
    obtain ⟨i, hi, rfl⟩ := List.getElem_of_mem hx
    have := hk i hi
    unfold ix at this
    simp [List.getD, hi] at this
    simp [this]
  rw [this] at h; cases h
end Go.Proofs.Yteiknbkigbdfgaa
