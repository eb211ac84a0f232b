/-
  PURE: how many steps a service has; from a fleet to itself.
-/
import Derived.Test.YtminihiecloglaaGreatPAn
namespace Go.Proofs.YtminihiecloglaaGreat
open Go.RowKit
open SemP FlP GaP DiP
set_option linter.unusedVariables false
set_option linter.unusedSimpArgs false
set_option maxRecDepth 10000
theorem stAt_all (l : List Sv) (fs ts : List Int) (k i : Nat) : (stAt l fs ts k).countP (fun x => x.1 == (i : Int)) = if k = i then (stAt l fs ts k).length else 0 := by
  by_cases h : k = i
  · subst h
    rw [if_pos rfl]
    apply List.countP_eq_length.2
    intro x hx
    rw [(mem_stAt.1 hx).1]
    simp
  · rw [if_neg h]
    apply List.countP_eq_zero.2
    intro x hx
    rw [(mem_stAt.1 hx).1]
    simp; omega
theorem stK_count (l : List Sv) (fs ts : List Int) (i : Nat) : ∀ K, (stK l fs ts K).countP (fun x => x.1 == (i : Int)) = if i < K then (stAt l fs ts i).length else 0
  | 0 => by simp [stK]
  | K + 1 => by
    rw [stK_succ, List.countP_append, stK_count l fs ts i K, stAt_all]
    by_cases h1 : i < K
    · rw [if_pos h1, if_neg (by omega), if_pos (by omega), Nat.add_zero]
    · rw [if_neg h1]
      by_cases h2 : K = i
      · subst h2; rw [if_pos rfl, if_pos (by omega), Nat.zero_add]
      · rw [if_neg h2, if_neg (by omega)]
/-- How many of the first k steps are of each service. -/
def cntL (S : List StP) (m k : Nat) : List Int := (List.range m).map fun (i : Nat) => (((S.take k).countP (fun x => x.1 == (i : Int)) : Nat) : Int)
theorem cntL_len (S : List StP) (m k : Nat) : (cntL S m k).length = m := by simp [cntL]
theorem ix_cntL (S : List StP) {m k i : Nat} (h : i < m) : ix (cntL S m k) i = (((S.take k).countP (fun x => x.1 == (i : Int)) : Nat) : Int) := by
  unfold ix cntL; simp [List.getD, h]
theorem cntL_zero (S : List StP) (m : Nat) : cntL S m 0 = List.replicate m 0 := by
  refine list_ext_getD (by simp [cntL]) (fun i hi => ?_)
  rw [cntL_len] at hi
  rw [ix_cntL S hi]
  unfold ix; simp [List.getD, hi]
theorem take_snoc {S : List StP} {k : Nat} (h : k < S.length) : S.take (k + 1) = S.take k ++ [sAt S k] := by
  rw [List.take_add_one]; simp [sAt, List.getD, h]
theorem cntL_succ {S : List StP} {m k j : Nat} (h : k < S.length) (hj : (sAt S k).1 = (j : Int)) (hjm : j < m) : cntL S m (k + 1) = (cntL S m k).set j (ix (cntL S m k) j + 1) := by
  refine list_ext_getD (by simp [cntL]) (fun i hi => ?_)
  rw [cntL_len] at hi
  rw [ix_cntL S hi, ix_set _ _ _ _ (by rw [cntL_len]; exact hjm), take_snoc h, List.countP_append, ix_cntL S hjm, ix_cntL S hi]
  by_cases e : j = i
  · subst e
    rw [if_pos rfl]
    simp [hj]
  · rw [if_neg e]
    have : List.countP (fun x : StP => x.1 == (i : Int)) [sAt S k] = 0 := by
      apply List.countP_eq_zero.2
      intro x hx
      obtain rfl : x = sAt S k := by simpa using hx
      rw [hj]; simp; omega
    rw [this, Nat.add_zero]
theorem cntL_all {l : List Sv} {fs ts : List Int} {m i : Nat} (hi : i < m) (hm : fs.length = m) : ix (cntL (stL l fs ts) m (stL l fs ts).length) i = ((stAt l fs ts i).length : Int) := by
  rw [ix_cntL _ hi, List.take_length]
  unfold stL
  rw [stK_count, if_pos (by omega)]
theorem stAt_want {l : List Sv} {fs ts : List Int} {i : Nat} (h : 0 ≤ rise l fs ts i ∧ rise l fs ts i ≤ 1) : ((stAt l fs ts i).length : Int) = if ix fs i = ix ts i then 0 else 1 + 2 * rise l fs ts i := by
  unfold stAt
  by_cases h1 : ix fs i = ix ts i
  · rw [if_pos h1, if_pos h1]; rfl
  · rw [if_neg h1, if_neg h1]
    by_cases h2 : rise l fs ts i = 0
    · rw [if_pos h2, h2]; rfl
    · rw [if_neg h2]
      have : rise l fs ts i = 1 := by omega
      rw [this]; rfl
theorem rise_self (l : List Sv) (fs : List Int) (i : Nat) : rise l fs fs i = 0 := by unfold rise; omega
theorem stL_self (l : List Sv) (fs : List Int) : stL l fs fs = [] := by
  have : ∀ K, stK l fs fs K = [] := fun K => by
    induction K with
    | zero => rfl
    | succ K ih => rw [stK_succ, ih]; unfold stAt; rw [if_pos rfl]; rfl
  exact this _
theorem makeE_ok {l : List Sv} {fs ts : List Int} (h : makeE l fs ts = 0) : chkE l fs ts = 0 ∧ Goes (befG (befP l fs ts (stL l fs ts))) (stL l fs ts).length (stL l fs ts).length := by
  unfold makeE at h
  by_cases h1 : chkE l fs ts = 0
  · rw [if_pos h1] at h
    refine ⟨h1, ?_⟩
    by_cases h2 : Goes (befG (befP l fs ts (stL l fs ts))) (stL l fs ts).length (stL l fs ts).length
    · exact h2
    · rw [if_neg h2] at h; exact absurd h (by decide)
  · rw [if_neg h1] at h; exact absurd h h1
theorem chkE_self {l : List Sv} {fs ts : List Int} (h : chkE l fs ts = 0) : chkE l fs fs = 0 := by
  obtain ⟨h1, _, h3, _, _⟩ := chkE_ok h
  unfold chkE
  rw [if_neg (by rw [h1]; simp), if_neg (by rw [h3]; simp), if_neg]
  rw [show (List.range fs.length).all (riseB l fs fs) = true from rise_all (fun i _ => by unfold riseB; rw [rise_self]; rfl)]
  decide
theorem makeE_self {l : List Sv} {fs ts : List Int} (h : makeE l fs ts = 0) : makeE l fs fs = 0 := by
  unfold makeE
  rw [if_pos (chkE_self (makeE_ok h).1), if_pos (by rw [stL_self]; exact Goes.zero _ _)]
end Go.Proofs.YtminihiecloglaaGreat
