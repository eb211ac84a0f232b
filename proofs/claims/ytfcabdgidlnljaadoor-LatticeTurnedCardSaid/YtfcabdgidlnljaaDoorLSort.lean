/-
  CONTRACT of slices.Sort at sets, where there are at most twelve.
-/
import Derived.Test.YtfcabdgidlnljaaDoorLLay
import Derived.Test.YtfcabdgidlnljaaDoorDMem
import Derived.Sort.LotA
import Derived.Sort.Row
import Derived.Sort.Statements
import Derived.BigGuard
import Derived.BigCall
import Derived.CellFam
import Derived.Deep.Draws
import Derived.Deep.QuietTactic
import Derived.BigQuiet
import Derived.LoopN
namespace Go.Proofs.YtfcabdgidlnljaaDoor
open Go.RowKit Go.Sort
set_option linter.unusedVariables false
set_option linter.unusedSimpArgs false
set_option maxRecDepth 100000
/-- A set as a value. -/
abbrev eU : Int → Value := Value.int .u64
theorem nan_any (x : Int) (w : World) : Calls Tryd.prog 66 #[.int .u64 x] w fun e w' => e = .returned (.bool false) ∧ w' = w := by
  go_enter Tryd.func66, Tryd.ntmps66
  go_wp2
  go_ret
  exact ⟨by simp, rfl⟩
theorem less_any (x y : Int) (w : World) : Calls Tryd.prog 56 #[.int .u64 x, .int .u64 y] w fun e w' => e = .returned (.bool (ltInt x y)) ∧ w' = w := by
  go_enter Tryd.func56, Tryd.ntmps56
  go_wp2_with (go_at_call 66; refine (nan_any _ _).mono ?_; rintro e w' ⟨rfl, rfl⟩)
  go_ret
  exact ⟨rfl, rfl⟩
section
variable (lt : Int → Int → Bool)
/-- One step of the inner loop; where it stops. -/
theorem inn_step {a j : Nat} {d : Array Int} (hj : a < j) (hl : lt d[j]! d[j - 1]! = true) : insInner lt a j d = insInner lt a (j - 1) (swp d j (j - 1)) := by
  cases j with
  | zero => omega
  | succ k =>
    have h1 : k + 1 > a := hj
    rw [Nat.add_sub_cancel] at hl ⊢
    rw [insInner, if_pos (by simp only [Bool.and_eq_true, decide_eq_true_eq]; exact ⟨h1, hl⟩)]
theorem inn_end {a j : Nat} {d : Array Int} (h : j ≤ a ∨ lt d[j]! d[j - 1]! = false) : insInner lt a j d = d := by
  cases j with
  | zero => rfl
  | succ k =>
    rw [Nat.add_sub_cancel] at h
    rw [insInner, if_neg]
    simp only [Bool.and_eq_true, decide_eq_true_eq]
    rintro ⟨h1, h2⟩
    rcases h with h | h
    · omega
    · rw [h] at h2; cases h2
end
/-- Where the row stands: what it holds now, so many draws on. -/
def RowS (w : World) (blk off : Nat) (d : Array Int) (w' : World) : Prop := ∃ n, w' = putRow eU (Sort.ahead w n) blk off d
theorem RowS.drew {w w' : World} {blk off : Nat} {d : Array Int} (h : RowS w blk off d w') (q : Nat) : RowS w blk off d (w'.drewN q) := by
  obtain ⟨n, rfl⟩ := h
  refine ⟨n + q, ?_⟩
  rw [putRow_ahead, putRow_ahead]
  show Sort.ahead (Sort.ahead _ n) q = _
  simp only [Sort.ahead, Nat.add_assoc]
theorem RowS.swap {w w' : World} {blk off : Nat} {d : Array Int} (h : RowS w blk off d w') {j k : Nat} (hj : j < d.size) (hk : k < d.size) : RowS w blk off (swp d j k) ((w'.setCell ⟨blk, off + j, none⟩ (eU d[k]!)).setCell ⟨blk, off + k, none⟩ (eU d[j]!)) := by
  obtain ⟨n, rfl⟩ := h
  exact ⟨n, putRow_swp eU _ blk off d j k hj hk⟩
set_option maxHeartbeats 4000000 in
theorem insertion_any (blk off cap a b : Nat) (d : Array Int) (w : World) (hH : Holds eU w blk off d) (hab : a ≤ b) (hb : b ≤ d.size) (hsz : d.size < 1000000) :
    Calls Tryd.prog 50 #[.slice (some ⟨blk, off, none⟩) d.size cap, .int .i64 a, .int .i64 b] w fun e w' => e = .returned (.tuple #[]) ∧ RowS w blk off (insertionSort ltInt d a b) w' := by
  have HH := Lib.hid hH
  clear hH
  go_enter Tryd.func50, Tryd.ntmps50
  go_wp2
  go_loopw [6] (fun vi wr => ∃ (i : Nat) (dk : Array Int), vi = .int .i64 i ∧ a < i ∧ i ≤ b + 1 ∧ dk.size = d.size ∧ Hid (RowS w blk off dk wr) ∧ Hid (insOuter ltInt a b i dk = insOuter ltInt a b (a + 1) d)) (fun vi _ => b + 1 - (intOf vi).toNat)
  case atStart => exact ⟨a + 1, d, by go_num, by omega, by omega, rfl, Lib.hid ⟨0, (putRow_self _ _ _ _ _ HH.out).symm⟩, Lib.hid rfl⟩
  case round =>
    obtain ⟨i, dk, rfl, hai, hib, hsk, HR, HO⟩ := hrel
    by_cases hlt : i < b
    · have hd : decide ((i : Int) < (b : Int)) = true := decide_eq_true (by omega)
      go_wp2_with fail
      obtain ⟨wo, hwo⟩ : ∃ x, x = wr := ⟨_, rfl⟩
      subst hwo
      go_loopw [7] (fun vj wr => ∃ (j : Nat) (dj : Array Int), vj = .int .i64 j ∧ a ≤ j ∧ j ≤ i ∧ dj.size = d.size ∧ Hid (RowS w blk off dj wr) ∧ Hid (insInner ltInt a j dj = insInner ltInt a i dk)) (fun vj _ => (intOf vj).toNat)
      case atStart => exact ⟨i, dk, rfl, by omega, Nat.le_refl _, hsk, HR, Lib.hid rfl⟩
      case round =>
        obtain ⟨j, dj, rfl, haj, hji, hsj, HR2, HI⟩ := hrel
        obtain ⟨m, hm⟩ := HR2.out
        obtain ⟨V, hV⟩ : ∃ V : Nat → Int, ∀ t, V t = dj[t]! := ⟨fun t => dj[t]!, fun _ => rfl⟩
        have hcw : ∀ t, t < d.size → wr.cell? ⟨blk, off + t, none⟩ = some (.int .u64 (V t)) := fun t ht => by
          rw [hm, hV]; exact cell?_putRow _ _ _ _ d dj (holds_ahead _ _ _ _ _ _ HH.out) hsj t (by omega)
        have hfw : ∀ t, t < d.size → wr.frozen? ⟨blk, off + t, none⟩ = false := fun t ht => by
          rw [hm, frozen?_putRow]; exact ((holds_ahead _ _ m _ _ _ HH.out) t ht).2
        have HV := Lib.hid hV
        clear hm hV
        by_cases hja : a < j
        · have hdj : decide ((a : Int) < (j : Int)) = true := decide_eq_true (by omega)
          have hj1 : ((j : Int) - 1) = ((j - 1 : Nat) : Int) := by omega
          have hjw : IntKind.i64.wrap ((j - 1 : Nat) : Int) = ((j - 1 : Nat) : Int) := IntWalk.i64_in _ (by omega)
          go_wp2_with fail
          go_quiet (first | (go_at_call 56; refine Calls.quiet_of_same (less_any _ _ _)))
          cases hl : ltInt (V j) (V (j - 1)) with
          | true =>
            have HLL : Hid (ltInt dj[j]! dj[j - 1]! = true) := Lib.hid (by rw [← HV.out, ← HV.out]; exact hl)
            clear hl
            go_wp2_with fail
            go_region
            all_goals go_wp2
            go_roundw
            case rel =>
              refine ⟨j - 1, swp dj j (j - 1), rfl, by omega, by omega, by rw [size_swp]; exact hsj, Lib.hid ?_, Lib.hid ?_⟩
              · have h := (HR2.out.drew (nq + 1)).swap (j := j) (k := j - 1) (by omega) (by omega)
                rw [← HV.out, ← HV.out] at h
                exact h
              · rw [← HI.out, inn_step ltInt hja HLL.out]
            case measure => simp [intOf]; omega
          | false =>
            have HE : Hid (insInner ltInt a i dk = dj) := Lib.hid (by rw [← HI.out]; exact inn_end ltInt (.inr (by rw [← HV.out, ← HV.out]; exact hl)))
            have HLT := Lib.hid hlt
            clear hl
            go_wp2
            go_roundw
            case rel => exact ⟨i + 1, dj, by go_num, by omega, by have := HLT.out; omega, hsj, Lib.hid (HR2.out.drew _), Lib.hid (by rw [← HO.out, ← HE.out]; conv => rhs; rw [insOuter, if_pos HLT.out])⟩
            case measure => have := HLT.out; simp [intOf]; omega
        · have hdj : decide ((a : Int) < (j : Int)) = false := decide_eq_false (by omega)
          go_wp2_with fail
          go_quiet (first | (go_at_call 56; refine Calls.quiet_of_same (less_any _ _ _)))
          have HE : Hid (insInner ltInt a i dk = dj) := Lib.hid (by rw [← HI.out]; exact inn_end ltInt (.inl (by omega)))
          have HLT := Lib.hid hlt
          go_wp2
          go_roundw
          case rel => exact ⟨i + 1, dj, by go_num, by omega, by have := HLT.out; omega, hsj, Lib.hid (HR2.out.drew _), Lib.hid (by rw [← HO.out, ← HE.out]; conv => rhs; rw [insOuter, if_pos HLT.out])⟩
          case measure => have := HLT.out; simp [intOf]; omega
    · have hd : decide ((i : Int) < (b : Int)) = false := decide_eq_false (by omega)
      have HE : Hid (insertionSort ltInt d a b = dk) := Lib.hid (by unfold insertionSort; rw [← HO.out, insOuter, if_neg hlt])
      go_wp2
      go_end0
      exact ⟨rfl, by rw [HE.out]; exact HR.out⟩
set_option maxHeartbeats 4000000 in
theorem pdq_small_any (blk off cap : Nat) (d : Array Int) (w : World) (hH : Holds eU w blk off d) (h12 : d.size ≤ 12) (lim : Int) :
    Calls Tryd.prog 47 #[.slice (some ⟨blk, off, none⟩) d.size cap, .int .i64 0, .int .i64 d.size, .int .i64 lim] w fun e w' => e = .returned (.tuple #[]) ∧ RowS w blk off (insertionSort ltInt d 0 d.size) w' := by
  have HC := Lib.hid (insertion_any blk off cap 0 d.size d w hH (Nat.zero_le _) (Nat.le_refl _) (by omega))
  have hd : decide ((d.size : Int) ≤ 12) = true := decide_eq_true (by omega)
  clear hH
  go_enter Tryd.func47, Tryd.ntmps47
  go_wp2_with fail
  refine wp_loop_rounds 1 ?_
  rw [rounds_succ]
  go_wp2_with (go_at_call 50; refine HC.out.mono ?_; rintro e w' ⟨rfl, hr⟩; clear HC)
  refine bodyPost_ret (results_none rfl _ _ _) rfl ⟨rfl, hr⟩
theorem RowS.grown {w w' : World} {blk off : Nat} {d : Array Int} (h : RowS w blk off d w') : w.grownBy w' (some blk) := by
  obtain ⟨n, rfl⟩ := h
  refine ⟨rfl, rfl, rfl, by rw [size_putRow]; exact Nat.le_refl _, fun k _ hk => ?_⟩
  have hne : blk ≠ k := fun e => hk (by rw [e])
  show (w.heap.modify blk _)[k]? = w.heap[k]?
  rw [Array.getElem?_modify, if_neg hne]
set_option maxHeartbeats 4000000 in
theorem sort_small_any (blk off cap : Nat) (d : Array Int) (w : World) (hH : Holds eU w blk off d) (h12 : d.size ≤ 12) :
    Calls Tryd.prog 35 #[.slice (some ⟨blk, off, none⟩) d.size cap] w fun e w' => e = .returned (.tuple #[]) ∧ RowS w blk off (insertionSort ltInt d 0 d.size) w' := by
  have HL := Lib.hid (Tryd.bits_Len (d.size : Int) w (by omega) (by omega))
  obtain ⟨k, hk⟩ : ∃ k, ((Lib.bitLen ((d.size : Int)).toNat : Nat) : Int) = k := ⟨_, rfl⟩
  have HK := Lib.hid hk
  have HC := Lib.hid (pdq_small_any blk off cap d w hH h12 k)
  have hw : IntKind.u64.wrap (d.size : Int) = (d.size : Int) := by rw [IntKind.wrap_u64]; omega
  clear hH hk
  go_enter Tryd.func35, Tryd.ntmps35
  go_wp2_with (first
    | (go_at_call 48; refine HL.out.mono ?_; rintro e w' ⟨rfl, rfl⟩; rw [HK.out]; clear HL)
    | (go_at_call 47; refine HC.out.mono ?_; rintro e w' ⟨rfl, hr⟩; clear HC))
  go_end0
  exact ⟨rfl, hr⟩
/-- slices.Sort sorts as many sets as L. -/
def SortOK (L : Nat) : Prop := ∀ (zs : List Nat) (w : World) (blk cap : Nat), zs.length ≤ L → (∀ j, j < zs.length → w.cell? ⟨blk, j, none⟩ = some (.int .u64 ((zs.getD j 0 : Nat) : Int)) ∧ w.frozen? ⟨blk, j, none⟩ = false) →
    Calls Tryd.prog 35 #[.slice (some ⟨blk, 0, none⟩) zs.length cap] w fun e w' => e = .returned (.tuple #[]) ∧ w.grownBy w' (some blk) ∧ ∃ l : List Nat, l.Perm zs ∧ l.Pairwise (· ≤ ·) ∧ ∀ j, j < l.length → w'.cell? ⟨blk, j, none⟩ = some (.int .u64 ((l.getD j 0 : Nat) : Int))
/-- What is behind a sort of numbers that are sets. -/
theorem sorted_sets {zs : List Nat} {d d' : Array Int} (hd : d = (zs.map Int.ofNat).toArray) (hp : PermIn 0 d.size d d') (hs : SortedIn ltInt 0 d.size d') : ∃ l : List Nat, l.Perm zs ∧ l.Pairwise (· ≤ ·) ∧ l.length = d'.size ∧ ∀ j, j < l.length → d'[j]! = ((l.getD j 0 : Nat) : Int) := by
  obtain ⟨h1, _, h3⟩ := hp
  have e1 : (d.extract 0 d.size).toList = d.toList := by simp
  have e2 : (d'.extract 0 d.size).toList = d'.toList := by rw [← h1]; simp
  rw [e1, e2] at h3
  have hdl : d.toList = zs.map Int.ofNat := by rw [hd]
  have hpos : ∀ x ∈ d'.toList, 0 ≤ x := fun x hx => by
    have h := h3.mem_iff.1 hx
    rw [hdl] at h
    obtain ⟨z, _, rfl⟩ := List.mem_map.1 h
    exact Int.natCast_nonneg z
  have hget : ∀ j, j < d'.size → d'[j]! = d'.toList.getD j 0 := fun j hj => by
    rw [getElem!_pos d' j hj, List.getD_eq_getElem?_getD, Array.getElem?_toList, Array.getElem?_eq_getElem hj]; rfl
  refine ⟨d'.toList.map Int.toNat, ?_, ?_, by simp, fun j hj => ?_⟩
  · have h := h3.map Int.toNat
    rw [hdl, List.map_map] at h
    have : zs.map (Int.toNat ∘ Int.ofNat) = zs := by
      conv => rhs; rw [← List.map_id zs]
      exact List.map_congr_left fun z _ => rfl
    rw [this] at h
    exact h
  · rw [List.pairwise_map, List.pairwise_iff_getElem]
    intro i j hi hj hij
    have hi' : i < d'.size := by simpa using hi
    have hj' : j < d'.size := by simpa using hj
    have h := hs i j (Nat.zero_le _) hij (by omega)
    rw [getElem!_pos d' i hi', getElem!_pos d' j hj'] at h
    have h2 : d'[i] ≤ d'[j] := by
      unfold ltInt at h
      have := of_decide_eq_false h
      omega
    simp only [Array.getElem_toList]
    omega
  · have hj' : j < d'.size := by simpa using hj
    rw [hget j hj', List.getD_eq_getElem?_getD, List.getD_eq_getElem?_getD, List.getElem?_map, Array.getElem?_toList, Array.getElem?_eq_getElem hj']
    simp only [Option.getD_some, Option.map_some]
    have := hpos d'[j] (by simp)
    omega
theorem sort_ok : SortOK 12 := by
  intro zs w blk cap hl hc
  obtain ⟨d, hd⟩ : ∃ d : Array Int, d = (zs.map Int.ofNat).toArray := ⟨_, rfl⟩
  have hsz : d.size = zs.length := by rw [hd]; simp
  have hH : Holds eU w blk 0 d := fun j hj => by
    obtain ⟨h1, h2⟩ := hc j (by omega)
    rw [Nat.zero_add]
    refine ⟨?_, h2⟩
    rw [h1, getElem!_pos d j hj]
    have : d[j] = ((zs.getD j 0 : Nat) : Int) := by
      subst hd
      have hj' : j < zs.length := by omega
      simp [List.getD, hj']
    rw [this]
  have h := sort_small_any blk 0 cap d w hH (by omega)
  rw [hsz] at h
  refine h.mono ?_
  rintro e w' ⟨rfl, hr⟩
  have hg := hr.grown
  obtain ⟨hp, hs⟩ := insertionSort_holds (lt := ltInt) swo_ltInt d 0 d.size (Nat.zero_le _) (Nat.le_refl _)
  obtain ⟨l, h1, h2, h3, h4⟩ := sorted_sets hd hp hs
  refine ⟨rfl, hg, l, h1, h2, fun j hj => ?_⟩
  obtain ⟨n, rfl⟩ := hr
  have hj2 : j < (insertionSort ltInt d 0 d.size).size := by omega
  have := cell?_putRow eU (Sort.ahead w n) blk 0 d (insertionSort ltInt d 0 d.size) (holds_ahead _ _ _ _ _ _ hH) hp.1 j hj2
  rw [Nat.zero_add, h4 j hj, hsz] at this
  exact this
end Go.Proofs.YtfcabdgidlnljaaDoor
