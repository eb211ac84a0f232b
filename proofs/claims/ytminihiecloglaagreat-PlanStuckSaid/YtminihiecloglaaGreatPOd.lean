/-
  MERGED: PSk POd.
-/
import Derived.Test.YtminihiecloglaaGreatPGo
import Derived.Test.YtminihiecloglaaGreatDLev
import Derived.Test.YtminihiecloglaaGreatCQm
import Derived.Test.YtminihiecloglaaGreatCPv
import Derived.Deep.QuietTactic
import Derived.BigQuiet
import Derived.Deep.RegionWith
import Derived.Deep.RegionHeld3
set_option linter.unusedVariables false
set_option linter.unusedSimpArgs false
namespace Go.Proofs.YtminihiecloglaaGreat
open Go.RowKit
open SemP FlP GaP DiP
set_option maxRecDepth 10000
def nowI (fs ts : List Int) (g i : Nat) : Int := if bt g i = true then ix ts i else ix fs i
def fitN (l : List Sv) (fs ts : List Int) (g : Nat) : Bool := (List.range fs.length).all fun i => (List.range i).all fun j => fitsC l (i : Int) (nowI fs ts g i) (j : Int) (nowI fs ts g j)
def doneN (fs ts : List Int) (g : Nat) : Bool := (List.range fs.length).all fun i => decide (nowI fs ts g i = ix ts i)
def leftN (fs ts : List Int) (g i : Nat) : Bool := decide (nowI fs ts g i ≠ ix ts i)
def ordN (l : List Sv) (fs ts : List Int) : Nat → Nat → Bool
  | 0, g => fitN l fs ts g && doneN fs ts g
  | k + 1, g => fitN l fs ts g && (doneN fs ts g || (List.range fs.length).any fun i => leftN fs ts g i && ordN l fs ts k (add g i))
def Wait (l : List Sv) (fs ts : List Int) (a b : Nat) : Prop := a < fs.length ∧ b < fs.length ∧ a ≠ b ∧ ix fs a ≠ ix ts a ∧ ix fs b ≠ ix ts b ∧ fitsC l (a : Int) (ix fs a) (b : Int) (ix ts b) = false
theorem min_of {P : Nat → Prop} (ρ : Nat → Nat) : ∀ r i, ρ i ≤ r → P i → ∃ i, P i ∧ ∀ j, P j → ρ i ≤ ρ j
  | 0, i, h, hp => ⟨i, hp, fun j _ => by omega⟩
  | r + 1, i, h, hp => by
    by_cases hx : ∃ j, P j ∧ ρ j < ρ i
    · obtain ⟨j, hj, hlt⟩ := hx
      exact min_of ρ r j (by omega) hj
    · exact ⟨i, hp, fun j hj => Nat.le_of_not_lt fun hc => hx ⟨j, hj, hc⟩⟩
theorem nowI_left {fs ts : List Int} {g i : Nat} : leftN fs ts g i = true ↔ bt g i = false ∧ ix fs i ≠ ix ts i := by
  unfold leftN nowI
  cases bt g i <;> simp
theorem done_left {fs ts : List Int} {g : Nat} (h : doneN fs ts g = false) : ∃ i, i < fs.length ∧ leftN fs ts g i = true := by
  unfold doneN at h
  rw [List.all_eq_false] at h
  obtain ⟨i, hi, hd⟩ := h
  refine ⟨i, List.mem_range.1 hi, ?_⟩
  unfold leftN
  simpa using hd
theorem E_iff {g : List (Nat × Nat)} {u v : Nat} : E g u v ↔ (u, v) ∈ g := by
  constructor
  · rintro ⟨k, hk, rfl, rfl⟩
    exact getD_mem hk
  · intro h
    obtain ⟨k, hk, e⟩ := List.mem_iff_getElem.1 h
    refine ⟨k, hk, ?_, ?_⟩
    · show (g.getD k (0, 0)).1 = u
      rw [List.getD_eq_getElem?_getD, List.getElem?_eq_getElem hk, e]; rfl
    · show (g.getD k (0, 0)).2 = v
      rw [List.getD_eq_getElem?_getD, List.getElem?_eq_getElem hk, e]; rfl
theorem bef_in (l : List Sv) (fs ts : List Int) (S : List StP) : InN S.length (befP l fs ts S) := fun k hk => by
  have hmem : (befP l fs ts S).getD k default ∈ befP l fs ts S := getD_mem hk
  have := mem_befP.1 hmem
  exact ⟨this.1, this.2.1⟩
theorem fit_pair {l : List Sv} {fs : List Int} (hs : setB l fs = true) (hg : goodC l (setL l fs) = true) {i j : Nat} (hi : i < fs.length) (hj : j < fs.length) (hij : i ≠ j) : fitsC l (i : Int) (ix fs i) (j : Int) (ix fs j) = true := by
  obtain ⟨_, _, a3⟩ := goodC_iff.1 hg
  rw [setL_len] at a3
  rcases Nat.lt_or_gt_of_ne hij with h | h
  · have := a3 j hj i h
    rwa [fitP_set hi hj] at this
  · have := a3 i hi j h
    rw [fitP_set hj hi] at this
    rw [fitsC_swap]; exact this
theorem fit_now {l : List Sv} {fs ts : List Int} (he : chkE l fs ts = 0) {g : Nat} (hc : ∀ a b, Wait l fs ts a b → bt g b = true → bt g a = true) {i j : Nat} (hi : i < fs.length) (hj : j < fs.length) (hij : i ≠ j) :
    fitsC l (i : Int) (nowI fs ts g i) (j : Int) (nowI fs ts g j) = true := by
  obtain ⟨h1, h2, h3, h4, _⟩ := chkE_ok he
  have hlen : fs.length = ts.length := by rw [(setB_iff.1 h1).1, (setB_iff.1 h2).1]
  have old := fun a b (ha : a < fs.length) (hb : b < fs.length) (hab : a ≠ b) => fit_pair h1 h3 ha hb hab
  have new := fun a b (ha : a < fs.length) (hb : b < fs.length) (hab : a ≠ b) => fit_pair h2 h4 (hlen ▸ ha) (hlen ▸ hb) hab
  have cross : ∀ a b, a < fs.length → b < fs.length → a ≠ b → bt g a = false → bt g b = true → fitsC l (a : Int) (ix fs a) (b : Int) (ix ts b) = true := by
    intro a b ha hb hab hga hgb
    by_cases e1 : ix fs a = ix ts a
    · rw [e1]; exact new a b ha hb hab
    by_cases e2 : ix fs b = ix ts b
    · rw [← e2]; exact old a b ha hb hab
    cases hf : fitsC l (a : Int) (ix fs a) (b : Int) (ix ts b) with
    | true => rfl
    | false =>
      have := hc a b ⟨ha, hb, hab, e1, e2, hf⟩ hgb
      rw [hga] at this; exact absurd this (by decide)
  unfold nowI
  cases hgi : bt g i <;> cases hgj : bt g j
  · exact old i j hi hj hij
  · exact cross i j hi hj hij hgi hgj
  · have := cross j i hj hi (Ne.symm hij) hgj hgi
    rw [fitsC_swap]; exact this
  · exact new i j hi hj hij
theorem fitN_of {l : List Sv} {fs ts : List Int} (he : chkE l fs ts = 0) {g : Nat} (hc : ∀ a b, Wait l fs ts a b → bt g b = true → bt g a = true) : fitN l fs ts g = true := by
  unfold fitN
  rw [List.all_eq_true]
  intro i hi
  rw [List.all_eq_true]
  intro j hj
  have := List.mem_range.1 hi
  have := List.mem_range.1 hj
  exact fit_now he hc (by omega) (by omega) (by omega)
theorem fitN_wait {l : List Sv} {fs ts : List Int} {g : Nat} (h : fitN l fs ts g = true) {a b : Nat} (hw : Wait l fs ts a b) (hb : bt g b = true) : bt g a = true := by
  obtain ⟨h1, h2, h3, _, _, h6⟩ := hw
  cases hga : bt g a with
  | true => rfl
  | false =>
    unfold fitN at h
    rw [List.all_eq_true] at h
    have ea : nowI fs ts g a = ix fs a := by unfold nowI; rw [hga]; rfl
    have eb : nowI fs ts g b = ix ts b := by unfold nowI; rw [hb]; rfl
    rcases Nat.lt_or_gt_of_ne h3 with hlt | hlt
    · have := List.all_eq_true.1 (h b (List.mem_range.2 h2)) a (List.mem_range.2 hlt)
      rw [ea, eb, fitsC_swap, h6] at this; exact absurd this (by decide)
    · have := List.all_eq_true.1 (h a (List.mem_range.2 h1)) b (List.mem_range.2 hlt)
      rw [ea, eb, h6] at this; exact absurd this (by decide)
theorem bt_of_cnt {g n : Nat} (h : n - cnt g n = 0) {i : Nat} (hi : i < n) : bt g i = true := cnt_full n (by have := cnt_le g n; omega) i hi
theorem ordN_of {l : List Sv} {fs ts : List Int} (he : chkE l fs ts = 0) (ρ : Nat → Nat) (hρ : ∀ a b, Wait l fs ts a b → ρ a < ρ b) : ∀ k g, fs.length - cnt g fs.length ≤ k → (∀ a b, Wait l fs ts a b → bt g b = true → bt g a = true) → ordN l fs ts k g = true
  | 0, g, hk, hc => by
    unfold ordN
    rw [fitN_of he hc, Bool.true_and]
    unfold doneN
    rw [List.all_eq_true]
    intro i hi
    have := bt_of_cnt (show fs.length - cnt g fs.length = 0 by omega) (List.mem_range.1 hi)
    unfold nowI
    rw [this]; simp
  | k + 1, g, hk, hc => by
    unfold ordN
    rw [fitN_of he hc, Bool.true_and]
    cases hd : doneN fs ts g with
    | true => rfl
    | false =>
      rw [Bool.false_or, List.any_eq_true]
      obtain ⟨i0, hi0, hl0⟩ := done_left hd
      obtain ⟨i, ⟨hi, hl⟩, hm⟩ := min_of (P := fun i => i < fs.length ∧ leftN fs ts g i = true) ρ (ρ i0) i0 (Nat.le_refl _) ⟨hi0, hl0⟩
      refine ⟨i, List.mem_range.2 hi, ?_⟩
      rw [hl, Bool.true_and]
      obtain ⟨q1, q2⟩ := nowI_left.1 hl
      refine ordN_of he ρ hρ k (add g i) ?_ ?_
      · rw [cnt_add q1, if_pos hi]; have := cnt_le g fs.length; omega
      · intro a b hw hb
        rw [bt_add] at hb ⊢
        rcases Bool.or_eq_true _ _ ▸ hb with hb | hb
        · rw [hc a b hw hb]; rfl
        · have hb := of_decide_eq_true hb
          subst hb
          cases hga : bt g a with
          | true => rfl
          | false =>
            have := hm a ⟨hw.1, nowI_left.2 ⟨hga, hw.2.2.2.1⟩⟩
            have := hρ a i hw
            omega
theorem rank_of {l : List Sv} {fs ts : List Int} : ∀ k g, ordN l fs ts k g = true → ∃ ρ : Nat → Nat, ∀ a b, Wait l fs ts a b → bt g a = false → bt g b = false → ρ a < ρ b
  | 0, g, h => by
    unfold ordN at h
    rw [Bool.and_eq_true] at h
    refine ⟨fun _ => 0, fun a b hw ha hb => ?_⟩
    have hd := h.2
    unfold doneN at hd
    have := of_decide_eq_true (List.all_eq_true.1 hd a (List.mem_range.2 hw.1))
    unfold nowI at this
    rw [ha] at this
    exact absurd this hw.2.2.2.1
  | k + 1, g, h => by
    unfold ordN at h
    rw [Bool.and_eq_true, Bool.or_eq_true] at h
    rcases h.2 with hd | hd
    · refine ⟨fun _ => 0, fun a b hw ha hb => ?_⟩
      unfold doneN at hd
      have := of_decide_eq_true (List.all_eq_true.1 hd a (List.mem_range.2 hw.1))
      unfold nowI at this
      rw [ha] at this
      exact absurd this hw.2.2.2.1
    · rw [List.any_eq_true] at hd
      obtain ⟨i, hi, hx⟩ := hd
      rw [Bool.and_eq_true] at hx
      obtain ⟨ρ, hρ⟩ := rank_of k (add g i) hx.2
      have hfit : fitN l fs ts (add g i) = true := by
        have := hx.2
        cases k with
        | zero => unfold ordN at this; exact (Bool.and_eq_true _ _ ▸ this).1
        | succ k => unfold ordN at this; exact (Bool.and_eq_true _ _ ▸ this).1
      refine ⟨fun x => if x = i then 0 else ρ x + 1, fun a b hw ha hb => ?_⟩
      by_cases hbi : b = i
      · subst hbi
        have := fitN_wait hfit hw (by rw [bt_add]; simp)
        rw [bt_add, ha, Bool.false_or] at this
        have := of_decide_eq_true this
        exact absurd this.symm hw.2.2.1
      · by_cases hai : a = i
        · subst hai
          simp only [if_true, if_neg hbi]; omega
        · simp only [if_neg hbi, if_neg hai]
          have := hρ a b hw (by rw [bt_add, ha]; simp; exact fun e => hai e.symm) (by rw [bt_add, hb]; simp; exact fun e => hbi e.symm)
          omega
theorem stuck_iff {l : List Sv} {fs ts : List Int} (he : chkE l fs ts = 0) (h16 : fs.length ≤ 16) : ordN l fs ts fs.length 0 = true ↔ Goes (befG (befP l fs ts (stL l fs ts))) (stL l fs ts).length (stL l fs ts).length := by
  have hN : (stL l fs ts).length ≤ 64 := by have := stK_len l fs ts fs.length; unfold stL; omega
  constructor
  · intro h
    obtain ⟨ρ, hρ⟩ := rank_of _ _ h
    refine goes_of_rank (bef_in l fs ts _) hN (fun u => 3 * ρ (sAt (stL l fs ts) u).1.toNat + (sAt (stL l fs ts) u).2.toNat) ?_
    intro u v e
    obtain ⟨hu, hv, hm⟩ := mem_befP.1 (E_iff.1 e)
    obtain ⟨a, ha, ea, na, ka⟩ := mem_stL.1 (sAt_mem (show u < (stL l fs ts).length from hu))
    obtain ⟨b, hb, eb, nb, kb⟩ := mem_stL.1 (sAt_mem (show v < (stL l fs ts).length from hv))
    simp only at hu hv hm
    unfold mustR at hm
    show 3 * ρ (sAt (stL l fs ts) u).1.toNat + (sAt (stL l fs ts) u).2.toNat < 3 * ρ (sAt (stL l fs ts) v).1.toNat + (sAt (stL l fs ts) v).2.toNat
    by_cases hs : (sAt (stL l fs ts) u).1 = (sAt (stL l fs ts) v).1
    · rw [if_pos hs] at hm
      have h9 := of_decide_eq_true hm
      obtain ⟨ρv, hρv⟩ : ∃ x, ρ (sAt (stL l fs ts) v).1.toNat = x := ⟨_, rfl⟩
      rw [hs, hρv]
      have h10 : 1 ≤ (sAt (stL l fs ts) u).2 := by rcases ka with h | ⟨_, h | h⟩ <;> omega
      omega
    · rw [if_neg hs, Bool.and_eq_true, Bool.and_eq_true] at hm
      have k1 := of_decide_eq_true hm.1
      have k2 := of_decide_eq_true hm.2.1
      have hf := hm.2.2
      rw [ea, eb, Int.toNat_natCast, Int.toNat_natCast] at hf
      rw [ea, eb] at hs
      rw [ea, eb, k1, k2, Int.toNat_natCast, Int.toNat_natCast]
      have := hρ a b ⟨ha, hb, by omega, na, nb, by simpa using hf⟩ (bt_zero _) (bt_zero _)
      omega
  · intro h
    refine ordN_of he (fun i => levG (stL l fs ts).length (befP l fs ts (stL l fs ts)) ((stL l fs ts).idxOf ((i : Int), (2 : Int)))) ?_ _ _ (Nat.sub_le _ _) (fun a b _ hb => by rw [bt_zero] at hb; exact absurd hb (by decide))
    intro a b hw
    refine levG_edge (bef_in l fs ts _) hN h (E_iff.2 (mem_befP.2 ?_))
    obtain ⟨ha, hb, hab, na, nb, hf⟩ := hw
    have ma : ((a : Int), (2 : Int)) ∈ stL l fs ts := (mem_at ha).2 ⟨na, .inl rfl⟩
    have mb : ((b : Int), (2 : Int)) ∈ stL l fs ts := (mem_at hb).2 ⟨nb, .inl rfl⟩
    refine ⟨idx_lt ma, idx_lt mb, ?_⟩
    simp only [sAt_idx ma, sAt_idx mb]
    unfold mustR
    rw [if_neg (by simp; omega)]
    simp only [Int.toNat_natCast, hf]
    rfl
end Go.Proofs.YtminihiecloglaaGreat

set_option linter.unusedVariables false
set_option linter.unusedSimpArgs false
namespace Go.Proofs.YtminihiecloglaaGreat
open Go.RowKit
open SemP FlP GaP DiP
set_option maxRecDepth 10000
theorem in_bitsO {s v : Nat} (hs : s < lim) : (((s : Int) / 2 ^ v) % 2 == 1) = bt s v := by
 have e : ((s : Int) / 2 ^ v) = ((s / 2 ^ v : Nat) : Int) := by simp
 rw [e, bt_div]
 have : s / 2 ^ v % 2 < 2 := Nat.mod_lt _ (by decide)
 by_cases h : s / 2 ^ v % 2 = 1
 ·have h' : ((s / 2 ^ v : Nat) : Int) % 2 = 1 := by omega
  rw [h', h]; rfl
 ·have h0 : s / 2 ^ v % 2 = 0 := by omega
  have h' : ((s / 2 ^ v : Nat) : Int) % 2 = 0 := by omega
  rw [h', h0]; rfl
set_option maxHeartbeats 400000 in
theorem in_od {s v : Nat} {w : World} (hs : s < lim) (hv : v < 64) : Calls Tryz.prog 30 #[.int .u64 (s : Int), .int .i64 (v : Int)] w fun e w' => e = .returned (.bool (bt s v)) ∧ w = w' := by
 have HS := Lib.hid (in_bitsO (v := v) hs)
 have hv1 : (0 : Int) ≤ (v : Int) := by omega
 go_enter Tryz.func30, Tryz.ntmps30
 go_wp2
 go_ret
 exact ⟨by rw [← HS.out]; rfl, rfl⟩
end Go.Proofs.YtminihiecloglaaGreat
namespace Go.Proofs.YtminihiecloglaaGreat
open Go.RowKit
open SemP FlP GaP DiP
def mixK (fs ts : List Int) (g m k : Nat) : List Int := (List.range m).map fun i => if i < k ∧ bt g i = true then ix ts i else ix fs i
theorem mixK_len (fs ts : List Int) (g m k : Nat) : (mixK fs ts g m k).length = m := by simp [mixK]
theorem ix_mixK {fs ts : List Int} {g m k i : Nat} (h : i < m) : ix (mixK fs ts g m k) i = if i < k ∧ bt g i = true then ix ts i else ix fs i := by
  unfold mixK
  unfold DiP.ix
  rw [List.getD_eq_getElem?_getD, List.getElem?_map, List.getElem?_range h]; rfl
theorem ext_ix {a b : List Int} (hl : a.length = b.length) (h : ∀ i, i < a.length → ix a i = ix b i) : a = b := by
  refine List.ext_getElem hl fun i h1 h2 => ?_
  have := h i h1
  unfold DiP.ix at this
  rw [List.getD_eq_getElem?_getD, List.getD_eq_getElem?_getD, List.getElem?_eq_getElem h1, List.getElem?_eq_getElem h2] at this
  exact this
theorem mixK_zero {fs ts : List Int} {g m : Nat} (h : fs.length = m) : mixK fs ts g m 0 = fs := by
  refine ext_ix (by rw [mixK_len, h]) fun i hi => ?_
  rw [mixK_len] at hi
  rw [ix_mixK hi, if_neg (by omega)]
theorem ix_setP (xs : List Int) (k : Nat) (u : Int) (i : Nat) (h : i < xs.length) : ix (xs.set k u) i = if k = i then u else ix xs i := by
  unfold DiP.ix
  rw [List.getD_eq_getElem?_getD, List.getD_eq_getElem?_getD, List.getElem?_set]
  by_cases e : k = i
  · subst e; simp [h]
  · simp [e]
theorem mixK_no {fs ts : List Int} {g m k : Nat} (h : bt g k = false) : mixK fs ts g m (k + 1) = mixK fs ts g m k := by
  refine ext_ix (by rw [mixK_len, mixK_len]) fun i hi => ?_
  rw [mixK_len] at hi
  rw [ix_mixK hi, ix_mixK hi]
  by_cases e : i = k
  · subst e; rw [h]; simp
  · by_cases e2 : i < k
    · simp [e2, show i < k + 1 by omega]
    · simp [e2, show ¬ i < k + 1 by omega]
theorem mixK_yes {fs ts : List Int} {g m k : Nat} (h : bt g k = true) (hk : k < m) : mixK fs ts g m (k + 1) = (mixK fs ts g m k).set k (ix ts k) := by
  refine ext_ix (by rw [List.length_set, mixK_len, mixK_len]) fun i hi => ?_
  rw [mixK_len] at hi
  rw [ix_setP _ _ _ _ (by rw [mixK_len]; exact hi), ix_mixK hi, ix_mixK hi]
  by_cases e : k = i
  · subst e; rw [h]; simp
  · by_cases e2 : i < k
    · simp [e, e2, show i < k + 1 by omega]
    · simp [e, e2, show ¬ i < k + 1 by omega]
theorem ix_mixAll {fs ts : List Int} {g m i : Nat} (h : i < m) : ix (mixK fs ts g m m) i = nowI fs ts g i := by
  rw [ix_mixK h]
  unfold nowI
  simp [h]
def dnK (fs ts : List Int) (g k : Nat) : Bool := (List.range k).all fun i => decide (nowI fs ts g i = ix ts i)
theorem dnK_succ (fs ts : List Int) (g k : Nat) : Go.Proofs.YtminihiecloglaaGreat.dnK fs ts g (k + 1) = (Go.Proofs.YtminihiecloglaaGreat.dnK fs ts g k && decide (nowI fs ts g k = ix ts k)) := by
  unfold Go.Proofs.YtminihiecloglaaGreat.dnK
  rw [List.range_succ, List.all_append]
  simp
def ordW (l : List Sv) (fs ts : List Int) (R : Nat → Bool) (g : Nat) : Bool := fitN l fs ts g && (doneN fs ts g || (List.range fs.length).any fun i => leftN fs ts g i && R i)
set_option maxHeartbeats 16000000 in
theorem ordered_step {w : World} {B BF BT n c m c2 c3 g : Nat} {A A2 A3 : Option Addr} {l : List Sv} {fs ts : List Int} {R : Nat → Bool} (h : CatAt w B A n c l) (hF : Rd w BF A2 m fs) (hT : Rd w BT A3 m ts) (hBF : BF ≤ w.heap.size) (hBT : BT ≤ w.heap.size) (hm0 : 0 < m) (hm6 : m ≤ 16) (hg : g < lim)
    (hrec : ∀ i, i < m → leftN fs ts g i = true → ∀ W, Below w.heap.size w W → Calls Tryz.prog 23 #[.agg #[.slice A n c], .slice A2 m c2, .slice A3 m c3, .int .u64 (add g i : Nat)] W fun e w' => e = .returned (.bool (R i)) ∧ Below W.heap.size W w') :
    Calls Tryz.prog 23 #[.agg #[.slice A n c], .slice A2 m c2, .slice A3 m c3, .int .u64 (g : Int)] w fun e w' => e = .returned (.bool (ordW l fs ts R g)) ∧ Below w.heap.size w w' := by
  obtain ⟨W, HW⟩ : ∃ W, Hid (W = w.alloc (.cells #[.slice A n c] 29)) := ⟨_, Lib.hid rfl⟩
  have hbl : Below w.heap.size w W := by rw [HW.out]; exact (Below.refl _ w).alloc (Nat.le_refl _) _
  have H0 : Hid (W.heap[w.heap.size]? = some (.cells #[.slice A n c] 29 (0, 0))) := Lib.hid (by rw [HW.out]; exact heap_new w _)
  have HBL := Lib.hid hbl
  have HA := Lib.hid (h.below hbl)
  have HF := Lib.hid (hF.below (hbl.mono hBF))
  have HT := Lib.hid (hT.below (hbl.mono hBT))
  have LF : Hid (BF ≤ W.heap.size) := Lib.hid (Nat.le_trans hBF hbl.size)
  have LT : Hid (BT ≤ W.heap.size) := Lib.hid (Nat.le_trans hBT hbl.size)
  have HFL : Hid (fs.length = m) := Lib.hid hF.len
  have HRC := Lib.hid hrec
  have HG := Lib.hid hg
  have HM0 := Lib.hid hm0
  have HM6 := Lib.hid hm6
  have HE0 := Lib.hid (Own.empty W W.heap.size (Nat.le_refl _))
  have HV4a : Hid (Rd (W.alloc (.cells #[] 3)) BF A2 m fs) := Lib.hid (HF.out.alloc LF.out _)
  clear h hF hT hBF hBT hrec hg hbl hm0
  go_enter Tryz.func23, Tryz.ntmps23
  go_upto_region 1 with fail
  change Code.wp _ _ _ _ (w.alloc (.cells #[.slice A n c] 29))
  rw [← HW.out]
  go_upto_region 2 with (at_builtin; refine wpl_apps rfl (.tmp 15) (.tmp 16) rfl W.heap.size _ 0 [] rfl HE0.out BF A2 m c2 fs rfl HV4a.out (by omega) (by simp) ?_; intro v' w5 hown5 hgr5 hat5)
  have HB5 : Hid (Below W.heap.size W w5) := Lib.hid (((Below.refl _ W).alloc (Nat.le_refl _) _).grown hgr5 (by simp) (fun g hg => by
    have h1 : some W.heap.size = some g := hg
    injection h1 with h1; omega))
  have hown5' : Own w5 W.heap.size v' m fs := by simpa using hown5
  obtain ⟨gb, c6, rfl, hg1, hg2⟩ := hown5'.form HM0.out
  have HO5 := Lib.hid hown5'
  have HG1 := Lib.hid hg1
  clear hown5 hown5' hgr5 hat5 HE0 HV4a
  go_wp2_with fail
  go_loopw [10, 11] (fun d v wr => ∃ (k : Nat) (q : Bool), k ≤ m ∧ v = .int .i64 (k : Int) ∧ d = .bool q ∧ Hid (Go.Proofs.YtminihiecloglaaGreat.dnK fs ts g k = q) ∧ Hid (Below W.heap.size W wr) ∧ Hid (Own wr W.heap.size (.slice (some ⟨gb, 0, none⟩) m c6) m (mixK fs ts g m k))) (fun _ v _ => m - (intOf v).toNat)
  case atStart => exact ⟨0, true, Nat.zero_le _, rfl, rfl, Lib.hid rfl, HB5, Lib.hid (by rw [mixK_zero HFL.out]; exact HO5.out)⟩
  case round =>
    obtain ⟨wo, hwo⟩ : ∃ x, x = wr := ⟨_, rfl⟩
    subst hwo
    obtain ⟨k, q, hk, rfl, rfl, HDN, HBo, HOo⟩ := hrel
    by_cases hkm : k < m
    · have hd : decide ((k : Int) < (m : Int)) = true := by simp; omega
      have hki : (k : Int) < (m : Int) := by omega
      have hk0 : (0 : Int) ≤ (k : Int) := by omega
      have hadd : IntKind.i64.wrap ((k : Int) + 1) = ((k + 1 : Nat) : Int) := by rw [IntWalk.i64_in _ (by have := HM6.out; omega)]; omega
      have HIN := Lib.hid (in_od (w := wo) HG.out (show k < 64 by have := HM6.out; omega))
      have HSU := Lib.hid (dnK_succ fs ts g k)
      rw [HDN.out] at HSU
      rcases Bool.eq_false_or_eq_true (bt g k) with hbt | hbt
      · rw [hbt] at HIN
        obtain ⟨T, HTT⟩ : ∃ T, Hid (ix ts k = T) := ⟨_, Lib.hid rfl⟩
        obtain ⟨b4, o4, hA4, hb4, r0⟩ := (HT.out.below (HBo.out.mono LT.out)).at_ hkm
        have p0 := HOo.out.cell hkm
        have pf := HOo.out.free k
        have HO7 : Hid (Own (wo.setCell ⟨gb, k, none⟩ (.int .i64 (ix ts k))) W.heap.size (.slice (some ⟨gb, 0, none⟩) m c6) m (mixK fs ts g m (k + 1))) := Lib.hid (by rw [mixK_yes hbt hkm]; exact HOo.out.store k (ix ts k))
        have HB7 : Hid (Below W.heap.size W (wo.setCell ⟨gb, k, none⟩ (.int .i64 (ix ts k)))) := Lib.hid (HBo.out.setCell (p := ⟨gb, k, none⟩) HG1.out _)
        rw [HTT.out] at r0 HO7 HB7
        have HNW : Hid (nowI fs ts g k = T) := Lib.hid (by unfold nowI; rw [hbt]; exact HTT.out)
        obtain ⟨X, HXX⟩ : ∃ X, Hid (ix (mixK fs ts g m k) k = X) := ⟨_, Lib.hid rfl⟩
        rw [HXX.out] at p0
        obtain ⟨W7, HW7⟩ : ∃ W7, Hid (W7 = wo.setCell ⟨gb, k, none⟩ (.int .i64 T)) := ⟨_, Lib.hid rfl⟩
        subst hA4
        go_upto_region 7 with (first | (go_at_call 30; refine HIN.out.mono ?_; rintro e w1 ⟨rfl, rfl⟩) | fail)
        go_upto_region 8 with fail
        rw [← HW7.out] at HO7 HB7 ⊢
        clear p0 pf r0
        have p0 := HO7.out.cell hkm
        rw [ix_mixK hkm, if_pos ⟨by omega, hbt⟩, HTT.out] at p0
        obtain ⟨b5, o5, hA5, hb5, r0⟩ := (HT.out.below (HB7.out.mono LT.out)).at_ hkm
        injection hA5 with hA5
        injection hA5 with e1 e2 _
        subst e1 e2
        rw [HTT.out] at r0
        cases q with
        | false =>
          go_wp2_with fail
          go_quiet (fail)
          go_wp2_with fail
          go_roundw
          case rel => exact ⟨k + 1, false, by omega, by go_num, rfl, Lib.hid (by rw [HSU.out]; rfl), Lib.hid (by first | exact HB7.out | exact Below.drewN' HB7.out _ | exact HB7.out.drew), Lib.hid (by first | exact HO7.out | exact HO7.out.drewN _ | exact HO7.out.drew)⟩
          case measure => simp [intOf]; omega
        | true =>
          go_wp2_with fail
          go_quiet (fail)
          go_wp2_with fail
          go_roundw
          case rel => exact ⟨k + 1, true, by omega, by go_num, by simp, Lib.hid (by rw [HSU.out, HNW.out, HTT.out]; simp), Lib.hid (by first | exact HB7.out | exact Below.drewN' HB7.out _ | exact HB7.out.drew), Lib.hid (by first | exact HO7.out | exact HO7.out.drewN _ | exact HO7.out.drew)⟩
          case measure => simp [intOf]; omega
      · rw [hbt] at HIN
        obtain ⟨T, HTT⟩ : ∃ T, Hid (ix ts k = T) := ⟨_, Lib.hid rfl⟩
        obtain ⟨X, HXX⟩ : ∃ X, Hid (ix fs k = X) := ⟨_, Lib.hid rfl⟩
        have HO7 : Hid (Own wo W.heap.size (.slice (some ⟨gb, 0, none⟩) m c6) m (mixK fs ts g m (k + 1))) := Lib.hid (by rw [mixK_no hbt]; exact HOo.out)
        have HNW : Hid (nowI fs ts g k = X) := Lib.hid (by unfold nowI; rw [hbt]; exact HXX.out)
        obtain ⟨b4, o4, hA4, hb4, r0⟩ := (HT.out.below (HBo.out.mono LT.out)).at_ hkm
        have p0 := HOo.out.cell hkm
        rw [ix_mixK hkm, if_neg (by omega), HXX.out] at p0
        rw [HTT.out] at r0
        subst hA4
        cases q with
        | false =>
          go_wp2_with (first | (go_at_call 30; refine HIN.out.mono ?_; rintro e w1 ⟨rfl, rfl⟩) | fail)
          go_quiet (fail)
          go_wp2_with fail
          go_roundw
          case rel => exact ⟨k + 1, false, by omega, by go_num, rfl, Lib.hid (by rw [HSU.out]; rfl), Lib.hid (by first | exact HBo.out | exact Below.drewN' HBo.out _ | exact HBo.out.drew), Lib.hid (by first | exact HO7.out | exact HO7.out.drewN _ | exact HO7.out.drew)⟩
          case measure => simp [intOf]; omega
        | true =>
          obtain ⟨qq, hqq⟩ : ∃ qq, (X == T) = qq := ⟨_, rfl⟩
          have HQQ : Hid (decide (nowI fs ts g k = ix ts k) = qq) := Lib.hid (by rw [HNW.out, HTT.out, ← hqq]; simp [BEq.beq])
          go_wp2_with (first | (go_at_call 30; refine HIN.out.mono ?_; rintro e w1 ⟨rfl, rfl⟩) | fail)
          go_quiet (fail)
          go_wp2_with fail
          go_roundw
          case rel => exact ⟨k + 1, qq, by omega, by go_num, rfl, Lib.hid (by rw [HSU.out, HQQ.out]; rfl), Lib.hid (by first | exact HBo.out | exact Below.drewN' HBo.out _ | exact HBo.out.drew), Lib.hid (by first | exact HO7.out | exact HO7.out.drewN _ | exact HO7.out.drew)⟩
          case measure => simp [intOf]; omega
    · have hd : decide ((k : Int) < (m : Int)) = false := by simp; omega
      obtain rfl : k = m := by omega
      go_wp2_with fail
      have HDA : Hid (doneN fs ts g = q) := Lib.hid (by rw [← HDN.out]; unfold doneN Go.Proofs.YtminihiecloglaaGreat.dnK; rw [HFL.out])
      have HFA : Hid (fitN l fs ts g = (List.range k).all fun i => (List.range i).all fun j => fitsC l (i : Int) (nowI fs ts g i) (j : Int) (nowI fs ts g j)) := Lib.hid (by unfold fitN; rw [HFL.out])
      go_loopw [12, 13] (fun v _ wr => ∃ j : Nat, j ≤ k ∧ v = .int .i64 (j : Int) ∧ Hid (Below wo.heap.size wo wr) ∧ Hid (∀ x, x < j → (List.range x).all (fun i => fitsC l (x : Int) (nowI fs ts g x) (i : Int) (nowI fs ts g i)) = true)) (fun v _ _ => k - (intOf v).toNat)
      case atStart => exact ⟨0, Nat.zero_le _, rfl, Lib.hid (Below.refl _ _), Lib.hid (fun x hx => absurd hx (by omega))⟩
      case round =>
        obtain ⟨wj, hwj⟩ : ∃ x, x = wr := ⟨_, rfl⟩
        subst hwj
        obtain ⟨j, hj, rfl, HBj, HJ⟩ := hrel
        by_cases hjn : j < k
        · have hd2 : decide ((j : Int) < (k : Int)) = true := by simp; omega
          have hji : (j : Int) < (k : Int) := by omega
          have hj0 : (0 : Int) ≤ (j : Int) := by omega
          have hadd2 : IntKind.i64.wrap ((j : Int) + 1) = ((j + 1 : Nat) : Int) := by rw [IntWalk.i64_in _ (by have := HM6.out; omega)]; omega
          go_wp2_with fail
          go_loopw [13] (fun v wr => ∃ i : Nat, i ≤ j ∧ v = .int .i64 (i : Int) ∧ Hid (Below wo.heap.size wo wr) ∧ Hid (∀ x, x < i → fitsC l (j : Int) (nowI fs ts g j) (x : Int) (nowI fs ts g x) = true)) (fun v _ => j - (intOf v).toNat)
          case atStart => exact ⟨0, Nat.zero_le _, rfl, HBj, Lib.hid (fun x hx => absurd hx (by omega))⟩
          case round =>
            obtain ⟨wi, hwi⟩ : ∃ x, x = wr := ⟨_, rfl⟩
            subst hwi
            obtain ⟨i, hi, rfl, HBi, HI⟩ := hrel
            have HBWi : Hid (Below W.heap.size W wi) := Lib.hid (HBo.out.trans (HBi.out.mono HBo.out.size))
            by_cases hij : i < j
            · have hd3 : decide ((i : Int) < (j : Int)) = true := by simp; omega
              have hii : (i : Int) < (k : Int) := by omega
              have hi0 : (0 : Int) ≤ (i : Int) := by omega
              have hadd3 : IntKind.i64.wrap ((i : Int) + 1) = ((i + 1 : Nat) : Int) := by rw [IntWalk.i64_in _ (by have := HM6.out; omega)]; omega
              have HOi := HOo.out.kept HBi.out
              have s0 := HOi.cell hjn
              have t0 := HOi.cell (show i < k by omega)
              rw [ix_mixAll hjn] at s0
              rw [ix_mixAll (show i < k by omega)] at t0
              have hglt : gb < wi.heap.size := by
                obtain ⟨gg, cc, hgg, _, hlt⟩ := HOi.form HM0.out
                injection hgg with hgg
                injection hgg with hgg
                injection hgg with hgg
                rw [hgg]; exact hlt
              obtain ⟨V, HVV⟩ : ∃ q, Hid (nowI fs ts g j = q) := ⟨_, Lib.hid rfl⟩
              obtain ⟨U, HUU⟩ : ∃ q, Hid (nowI fs ts g i = q) := ⟨_, Lib.hid rfl⟩
              rw [HVV.out] at s0
              rw [HUU.out] at t0
              have hAi := HA.out.below HBWi.out
              have hAD : CatAt (wi.drewN 1) B A n c l := ⟨hAi.rd, hAi.cap, hAi.le, hAi.sm, hAi.len, hAi.one⟩
              have HFT := Lib.hid (fitsQ_any (i := (j : Int)) (v := V) (j := (i : Int)) (x := U) hAD)
              obtain ⟨ft, HFF⟩ : ∃ q, Hid (fitsC l (j : Int) V (i : Int) U = q) := ⟨_, Lib.hid rfl⟩
              rw [HFF.out] at HFT
              have Ki : Hid (wi.heap[w.heap.size]? = _) := Lib.hid ((HBWi.out.block w.heap.size (heapE_lt H0.out)).trans H0.out)
              obtain ⟨x0, _⟩ := row1f Ki.out
              clear hAi hAD HOi
              go_wp2_with fail
              go_region_held3 (fun W' => W'.cell? ⟨w.heap.size, 0, none⟩ = some (.slice A n c) ∧ W'.cell? ⟨gb, j, none⟩ = some (.int .i64 V) ∧ W'.cell? ⟨gb, i, none⟩ = some (.int .i64 U)) ((first | exact ⟨x0, s0, t0⟩ | exact ⟨z0, z1, z2⟩ | go_keep)) (first
                | (go_at_call 58; refine HFT.out.mono ?_; rintro e w1 ⟨rfl, hb'⟩; (have hb : Below wi.heap.size wi w1 := (Below.drewN' (Below.refl _ wi) 1).trans hb'); (have z0 := (row1f ((hb.block w.heap.size (heapE_lt Ki.out)).trans Ki.out)).1); (have z1 := (hb.cell (p := ⟨gb, j, none⟩) hglt).trans s0); (have z2 := (hb.cell (p := ⟨gb, i, none⟩) hglt).trans t0); (have HBZ := Lib.hid hb); clear hb hb'))
              have HB1 : Hid (Below wo.heap.size wo w1) := Lib.hid (HBi.out.trans (HBZ.out.mono HBi.out.size))
              clear z0 z1 z2 s0 t0 x0
              cases ft with
              | false =>
                have HX : Hid (ordW l fs ts R g = false) := Lib.hid (by
                  have h1 : fitN l fs ts g = false := by
                    rw [HFA.out, List.all_eq_false]
                    refine ⟨j, List.mem_range.2 hjn, ?_⟩
                    rw [Bool.not_eq_true, List.all_eq_false]
                    exact ⟨i, List.mem_range.2 hij, by rw [HVV.out, HUU.out, HFF.out]; decide⟩
                  unfold ordW
                  rw [h1]; rfl)
                go_wp2_with fail
                exact bodyPost_ret (results_tmp rfl _ _ _) rfl ⟨by rw [HX.out]; rfl, HBL.out.trans ((HBo.out.trans (HB1.out.mono HBo.out.size)).mono HBL.out.size)⟩
              | true =>
                go_wp2_with fail
                go_roundw
                case rel => exact ⟨i + 1, by omega, by go_num, HB1, Lib.hid (fun x hx => by
                  by_cases e : x = i
                  · subst e; rw [HVV.out, HUU.out]; exact HFF.out
                  · exact HI.out x (by omega))⟩
                case measure => simp [intOf]; omega
            · have hd3 : decide ((i : Int) < (j : Int)) = false := by simp; omega
              obtain rfl : i = j := by omega
              go_wp2_with fail
              go_roundw
              case rel => exact ⟨i + 1, by omega, by go_num, HBi, Lib.hid (fun x hx => by
                by_cases e : x = i
                · subst e; rw [List.all_eq_true]; exact fun y hy => HI.out y (List.mem_range.1 hy)
                · exact HJ.out x (by omega))⟩
              case measure => simp [intOf]; omega
        · have hd2 : decide ((j : Int) < (k : Int)) = false := by simp; omega
          obtain rfl : j = k := by omega
          have HFY : Hid (fitN l fs ts g = true) := Lib.hid (by rw [HFA.out, List.all_eq_true]; exact fun x hx => HJ.out x (List.mem_range.1 hx))
          have HBWj : Hid (Below W.heap.size W wj) := Lib.hid (HBo.out.trans (HBj.out.mono HBo.out.size))
          have HOj := Lib.hid (HOo.out.kept HBj.out)
          cases q with
          | true =>
            go_wp2_with fail
            exact bodyPost_ret (results_tmp rfl _ _ _) rfl ⟨by unfold ordW; rw [HFY.out, HDA.out]; rfl, HBL.out.trans (HBWj.out.mono HBL.out.size)⟩
          | false =>
            have HWW : Hid (ordW l fs ts R g = (List.range j).any fun i => leftN fs ts g i && R i) := Lib.hid (by unfold ordW; rw [HFY.out, HDA.out, HFL.out]; rfl)
            go_wp2_with fail
            go_loopw [14] (fun v wr => ∃ i : Nat, i ≤ j ∧ v = .int .i64 (i : Int) ∧ Hid (Below wj.heap.size wj wr) ∧ Hid (∀ x, x < i → (leftN fs ts g x && R x) = false)) (fun v _ => j - (intOf v).toNat)
            case atStart => exact ⟨0, Nat.zero_le _, rfl, Lib.hid (Below.refl _ _), Lib.hid (fun x hx => absurd hx (by omega))⟩
            case round =>
              obtain ⟨wi, hwi⟩ : ∃ x, x = wr := ⟨_, rfl⟩
              subst hwi
              obtain ⟨i, hi, rfl, HBi, HI⟩ := hrel
              have HBWi : Hid (Below W.heap.size W wi) := Lib.hid (HBWj.out.trans (HBi.out.mono HBWj.out.size))
              by_cases hij : i < j
              · have hd3 : decide ((i : Int) < (j : Int)) = true := by simp; omega
                have hii : (i : Int) < (j : Int) := by omega
                have hi0 : (0 : Int) ≤ (i : Int) := by omega
                have hadd3 : IntKind.i64.wrap ((i : Int) + 1) = ((i + 1 : Nat) : Int) := by rw [IntWalk.i64_in _ (by have := HM6.out; omega)]; omega
                have HOi := HOj.out.kept HBi.out
                have s0 := HOi.cell hij
                rw [ix_mixAll hij] at s0
                have hglt : gb < wi.heap.size := by
                  obtain ⟨gg, cc, hgg, _, hlt⟩ := HOi.form HM0.out
                  injection hgg with hgg
                  injection hgg with hgg
                  injection hgg with hgg
                  rw [hgg]; exact hlt
                obtain ⟨b4, o4, hA4, hb4, t0⟩ := (HT.out.below (HBWi.out.mono LT.out)).at_ hij
                have hb4' : b4 < wi.heap.size := Nat.lt_of_lt_of_le hb4 (Nat.le_trans LT.out HBWi.out.size)
                subst hA4
                obtain ⟨V, HVV⟩ : ∃ q, Hid (nowI fs ts g i = q) := ⟨_, Lib.hid rfl⟩
                obtain ⟨U, HUU⟩ : ∃ q, Hid (ix ts i = q) := ⟨_, Lib.hid rfl⟩
                rw [HVV.out] at s0
                rw [HUU.out] at t0
                have Ki : Hid (wi.heap[w.heap.size]? = _) := Lib.hid ((HBWi.out.block w.heap.size (heapE_lt H0.out)).trans H0.out)
                obtain ⟨x0, _⟩ := row1f Ki.out
                clear HOi
                by_cases hvu : V = U
                · have hne : (V != U) = false := by simp [hvu]
                  have HLF : Hid (leftN fs ts g i = false) := Lib.hid (by unfold leftN; rw [HVV.out, HUU.out]; simp [hvu])
                  clear hvu
                  go_wp2_with fail
                  go_quiet (fail)
                  go_wp2_with fail
                  go_roundw
                  case rel => exact ⟨i + 1, by omega, by go_num, Lib.hid (by first | exact HBi.out | exact Below.drewN' HBi.out _ | exact HBi.out.drew), Lib.hid (fun x hx => by
                    by_cases e : x = i
                    · subst e; rw [HLF.out]; rfl
                    · exact HI.out x (by omega))⟩
                  case measure => simp [intOf]; omega
                · have hne : (V != U) = true := by simp [hvu]
                  have HLF : Hid (leftN fs ts g i = true) := Lib.hid (by unfold leftN; rw [HVV.out, HUU.out]; simp [hvu])
                  clear hvu
                  have HOR := Lib.hid (or_spell HG.out (show i < 64 by have := HM6.out; omega))
                  have HOR2 := Lib.hid (or_spell2 HG.out (show i < 64 by have := HM6.out; omega))
                  obtain ⟨G2, HG2⟩ : ∃ q, Hid (add g i = q) := ⟨_, Lib.hid rfl⟩
                  have HCL := Lib.hid (HRC.out i hij HLF.out (wi.drewN 1) (Below.drewN' (HBL.out.trans (HBWi.out.mono HBL.out.size)) 1))
                  rw [HG2.out] at HOR HOR2 HCL
                  have o1 := HOR.out
                  have o2 := HOR2.out
                  obtain ⟨r, HRR⟩ : ∃ q, Hid (R i = q) := ⟨_, Lib.hid rfl⟩
                  rw [HRR.out] at HCL
                  go_wp2_with fail
                  go_region_held3 (fun W' => W'.cell? ⟨w.heap.size, 0, none⟩ = some (.slice A n c) ∧ W'.cell? ⟨gb, i, none⟩ = some (.int .i64 V) ∧ W'.cell? ⟨b4, o4 + i, none⟩ = some (.int .i64 U)) ((first | exact ⟨x0, s0, t0⟩ | exact ⟨z0, z1, z2⟩ | go_keep)) (first
                    | (go_at_call 23; refine HCL.out.mono ?_; rintro e w1 ⟨rfl, hb'⟩; (have hb : Below wi.heap.size wi w1 := (Below.drewN' (Below.refl _ wi) 1).trans hb'); (have z0 := (row1f ((hb.block w.heap.size (heapE_lt Ki.out)).trans Ki.out)).1); (have z1 := (hb.cell (p := ⟨gb, i, none⟩) hglt).trans s0); (have z2 := (hb.cell (p := ⟨b4, o4 + i, none⟩) hb4').trans t0); (have HBZ := Lib.hid hb); clear hb hb'))
                  have HB1 : Hid (Below wj.heap.size wj w1) := Lib.hid (HBi.out.trans (HBZ.out.mono HBi.out.size))
                  clear z0 z1 z2 s0 t0 x0 o1 o2
                  cases r with
                  | true =>
                    have HX : Hid (ordW l fs ts R g = true) := Lib.hid (by
                      rw [HWW.out, List.any_eq_true]
                      exact ⟨i, List.mem_range.2 hij, by rw [HLF.out, HRR.out]; rfl⟩)
                    go_wp2_with fail
                    exact bodyPost_ret (results_tmp rfl _ _ _) rfl ⟨by rw [HX.out]; rfl, HBL.out.trans ((HBWj.out.trans (HB1.out.mono HBWj.out.size)).mono HBL.out.size)⟩
                  | false =>
                    go_wp2_with fail
                    go_roundw
                    case rel => exact ⟨i + 1, by omega, by go_num, HB1, Lib.hid (fun x hx => by
                      by_cases e : x = i
                      · subst e; rw [HLF.out, HRR.out]; rfl
                      · exact HI.out x (by omega))⟩
                    case measure => simp [intOf]; omega
              · have hd3 : decide ((i : Int) < (j : Int)) = false := by simp; omega
                obtain rfl : i = j := by omega
                have HX : Hid (ordW l fs ts R g = false) := Lib.hid (by
                  rw [HWW.out, List.any_eq_false]
                  exact fun x hx => by rw [HI.out x (List.mem_range.1 hx)]; decide)
                go_wp2_with fail
                exact bodyPost_ret (results_tmp rfl _ _ _) rfl ⟨by rw [HX.out]; rfl, HBL.out.trans (HBWi.out.mono HBL.out.size)⟩
theorem ordered_any {B BF BT n c m c2 c3 : Nat} {A A2 A3 : Option Addr} {l : List Sv} {fs ts : List Int} (hm0 : 0 < m) (hm6 : m ≤ 16) : ∀ (k g : Nat) (w : World), m - cnt g m ≤ k → CatAt w B A n c l → Rd w BF A2 m fs → Rd w BT A3 m ts → BF ≤ w.heap.size → BT ≤ w.heap.size → g < lim →
    Calls Tryz.prog 23 #[.agg #[.slice A n c], .slice A2 m c2, .slice A3 m c3, .int .u64 (g : Int)] w fun e w' => e = .returned (.bool (ordN l fs ts k g)) ∧ Below w.heap.size w w'
  | 0, g, w, hk, h, hF, hT, hBF, hBT, hg => by
    have hno : ∀ i, i < m → leftN fs ts g i = false := fun i hi => by
      have := bt_of_cnt (show m - cnt g m = 0 by omega) hi
      unfold leftN nowI
      rw [this]; simp
    have hdn : doneN fs ts g = true := by
      unfold doneN
      rw [List.all_eq_true]
      intro i hi
      have := hno i (by rw [← hF.len]; exact List.mem_range.1 hi)
      unfold leftN at this
      simpa using this
    have := ordered_step (c2 := c2) (c3 := c3) (R := fun _ => false) h hF hT hBF hBT hm0 hm6 hg (fun i hi hl => by rw [hno i hi] at hl; cases hl)
    have e : ordW l fs ts (fun _ => false) g = ordN l fs ts 0 g := by unfold ordW ordN; rw [hdn]; simp
    rw [e] at this
    exact this
  | k + 1, g, w, hk, h, hF, hT, hBF, hBT, hg => by
    have := ordered_step (c2 := c2) (c3 := c3) (R := fun i => ordN l fs ts k (add g i)) h hF hT hBF hBT hm0 hm6 hg (fun i hi hl W hb => by
      have hx := (nowI_left.1 hl).1
      exact ordered_any hm0 hm6 k (add g i) W (by rw [cnt_add hx, if_pos hi]; have := cnt_le g m; omega) (h.below hb) (hF.below (hb.mono hBF)) (hT.below (hb.mono hBT)) (Nat.le_trans hBF hb.size) (Nat.le_trans hBT hb.size) (add_lt hg (by omega)))
    exact this
end Go.Proofs.YtminihiecloglaaGreat
