/-
 MERGED: PDg PFp PFl.
-/
import Derived.Test.YtminihiecloglaaGreatPZb
import Derived.Test.YtminihiecloglaaGreatPGb
import Derived.Deep.QuietTactic
import Derived.BigQuiet
import Derived.Deep.RegionWith
import Derived.Deep.RegionHeld3
set_option linter.unusedVariables false
set_option linter.unusedSimpArgs false
namespace Go.Proofs.YtminihiecloglaaGreat
open Go.RowKit
open SemP FlP GaP DiP
set_option maxRecDepth 10000
def fitsB (s n : Nat) : Bool := decide (s / 2 ^ n = 0)
theorem fits_neq {s n : Nat} : ((s : Int) / 2 ^ n != 0) = !fitsB s n := by
 have e : ((s : Int) / 2 ^ n) = ((s / 2 ^ n : Nat) : Int) := by simp
 rw [e]
 unfold fitsB
 by_cases h : s / 2 ^ n = 0
 ·rw [h]; rfl
 ·simp only [h, decide_false, Bool.not_false, bne_iff_ne, ne_eq]
  omega
theorem in_bits {s v : Nat} (hs : s < lim) : (((s : Int) / 2 ^ v) % 2 == 1) = bt s v := by
 have e : ((s : Int) / 2 ^ v) = ((s / 2 ^ v : Nat) : Int) := by simp
 rw [e, bt_div]
 have : s / 2 ^ v % 2 < 2 := Nat.mod_lt _ (by decide)
 by_cases h : s / 2 ^ v % 2 = 1
 ·have h' : ((s / 2 ^ v : Nat) : Int) % 2 = 1 := by omega
  rw [h', h]; rfl
 ·have h0 : s / 2 ^ v % 2 = 0 := by omega
  have h' : ((s / 2 ^ v : Nat) : Int) % 2 = 0 := by omega
  rw [h', h0]; rfl
set_option maxHeartbeats 400000 in
theorem in_any {s v : Nat} {w : World} (hs : s < lim) (hv : v < 64) : Calls Tryz.prog 30 #[.int .u64 (s : Int), .int .i64 (v : Int)] w fun e w' => e = .returned (.bool (bt s v)) ∧ w = w' := by
 have HS := Lib.hid (in_bits (v := v) hs)
 have hv1 : (0 : Int) ≤ (v : Int) := by omega
 go_enter Tryz.func30, Tryz.ntmps30
 go_wp2
 go_ret
 exact ⟨by rw [← HS.out]; rfl, rfl⟩
end Go.Proofs.YtminihiecloglaaGreat
namespace Go.Proofs.YtminihiecloglaaGreat
open Go.RowKit
open SemP FlP GaP DiP
def mvS (fs ts : List Int) (ps : List (Int × Int)) (x : StP) : List (Int × Int) :=
 ps.set x.1.toNat (if x.2 = 2 then ((at_ ps x.1.toNat).1 + (ix ts x.1.toNat - ix fs x.1.toNat), (at_ ps x.1.toNat).2) else ((at_ ps x.1.toNat).1, (at_ ps x.1.toNat).2 + 1))
theorem mvS_len (fs ts : List Int) (ps : List (Int × Int)) (x : StP) : (mvS fs ts ps x).length = ps.length := by unfold mvS; rw [List.length_set]
def flK (l : List Sv) (fs ts : List Int) (S : List StP) (s : Nat) : Nat → List (Int × Int)
 | 0 => setL l fs
 | k + 1 => if bt s k then mvS fs ts (flK l fs ts S s k) (sAt S k) else flK l fs ts S s k
theorem flK_len (l : List Sv) (fs ts : List Int) (S : List StP) (s : Nat) : ∀ k, (flK l fs ts S s k).length = fs.length
 | 0 => setL_len l fs
 | k + 1 => by
  unfold flK
  split
  ·rw [mvS_len]; exact flK_len l fs ts S s k
  ·exact flK_len l fs ts S s k
def dnK (S : List StP) (s k i : Nat) (q : Int) : Bool := (List.range k).any fun j => decide (sAt S j = ((i : Int), q)) && bt s j
theorem dnK_zero (S : List StP) (s i : Nat) (q : Int) : dnK S s 0 i q = false := rfl
theorem dnK_succ (S : List StP) (s k i : Nat) (q : Int) : dnK S s (k + 1) i q = (dnK S s k i q || (decide (sAt S k = ((i : Int), q)) && bt s k)) := by
 unfold dnK; rw [List.range_succ, List.any_append]; simp
theorem dnK_skip {S : List StP} {s k i : Nat} {q : Int} (h : bt s k = false ∨ sAt S k ≠ ((i : Int), q)) : dnK S s (k + 1) i q = dnK S s k i q := by
 rw [dnK_succ]
 rcases h with h | h
 ·rw [h]; simp
 ·rw [decide_eq_false h]; simp
theorem dnK_new {S : List StP} {s k i : Nat} {q : Int} (hn : S.Nodup) (hk : k < S.length) (h : sAt S k = ((i : Int), q)) : dnK S s k i q = false := by
 unfold dnK
 rw [List.any_eq_false]
 intro j hj
 have hj := List.mem_range.1 hj
 rw [decide_eq_false]
 ·simp
 ·intro e
  have h1 := idx_sAt hn hk
  have h2 := idx_sAt hn (show j < S.length by omega)
  rw [h] at h1
  rw [e] at h2
  omega
theorem dnK_done {S : List StP} {s k i : Nat} {q : Int} (h : sAt S k = ((i : Int), q)) (hb : bt s k = true) : dnK S s (k + 1) i q = true := by
 rw [dnK_succ, decide_eq_true h, hb]; simp
theorem dnK_all {S : List StP} (hn : S.Nodup) (s i : Nat) (q : Int) : dnK S s S.length i q = dne S s i q := by
 unfold dne
 by_cases hm : ((i : Int), q) ∈ S
 ·rw [decide_eq_true hm, Bool.true_and]
  cases hb : bt s (S.idxOf ((i : Int), q)) with
  | true =>
   unfold dnK
   rw [List.any_eq_true]
   exact ⟨_, List.mem_range.2 (idx_lt hm), by rw [sAt_idx hm, hb]; simp⟩
  | false =>
   unfold dnK
   rw [List.any_eq_false]
   intro j hj
   have hj := List.mem_range.1 hj
   by_cases e : sAt S j = ((i : Int), q)
   ·have h2 := idx_sAt hn hj
    rw [e] at h2
    rw [h2] at hb
    rw [hb]; simp
   ·rw [decide_eq_false e]; simp
 ·rw [decide_eq_false hm, Bool.false_and]
  unfold dnK
  rw [List.any_eq_false]
  intro j hj
  rw [decide_eq_false]
  ·simp
  ·intro e
   exact hm (by rw [← e]; exact sAt_mem (List.mem_range.1 hj))
def plK (l : List Sv) (fs ts : List Int) (S : List StP) (s k i : Nat) : Int × Int := (if dnK S s k i 2 then ix ts i else ix fs i, 2 * levAt l i (ix fs i).toNat + (b2i (dnK S s k i 1) + b2i (dnK S s k i 3)))
theorem at_set {ps : List (Int × Int)} {i j : Nat} {u : Int × Int} (hi : i < ps.length) : at_ (ps.set i u) j = if i = j then u else at_ ps j := by
 unfold at_
 simp only [List.getD_eq_getElem?_getD]
 by_cases h : i = j
 ·subst h
  rw [if_pos rfl, List.getElem?_set_self hi]; rfl
 ·rw [if_neg h, List.getElem?_set_ne h]
def StepsOK (S : List StP) (n : Nat) : Prop := S.Nodup ∧ ∀ k, k < S.length → ∃ i : Nat, i < n ∧ (sAt S k).1 = (i : Int) ∧ 1 ≤ (sAt S k).2 ∧ (sAt S k).2 ≤ 3
theorem stepsOK {l : List Sv} {fs ts : List Int} : StepsOK (stL l fs ts) fs.length := by
 refine ⟨stK_nodup l fs ts _, fun k hk => ?_⟩
 obtain ⟨i, hi, e, _, h⟩ := mem_stL.1 (sAt_mem hk)
 refine ⟨i, hi, e, ?_⟩
 rcases h with h | ⟨_, h | h⟩ <;> omega
theorem flK_at {l : List Sv} {fs ts : List Int} {S : List StP} {s : Nat} (hS : StepsOK S fs.length) : ∀ k, k ≤ S.length → ∀ i, i < fs.length → at_ (flK l fs ts S s k) i = plK l fs ts S s k i
 | 0, _, i, hi => by
  show at_ (setL l fs) i = _
  rw [setL_at l fs hi]
  unfold plK setP
  rw [dnK_zero, dnK_zero, dnK_zero]
  simp [b2i]
 | k + 1, hk, i, hi => by
  have ih := flK_at (l := l) (ts := ts) (s := s) hS k (by omega)
  obtain ⟨j, hj, e, hq1, hq3⟩ := hS.2 k (by omega)
  unfold flK
  cases hb : bt s k with
  | false =>
   rw [if_neg (by simp), ih i hi]
   unfold plK
   rw [dnK_skip (.inl hb), dnK_skip (.inl hb), dnK_skip (.inl hb)]
  | true =>
   rw [if_pos rfl]
   have hx : sAt S k = ((j : Int), (sAt S k).2) := Prod.ext e rfl
   obtain ⟨q, hq⟩ : ∃ q, (sAt S k).2 = q := ⟨_, rfl⟩
   rw [hq] at hx hq1 hq3
   unfold mvS
   rw [hx]
   simp only [Int.toNat_natCast]
   rw [at_set (by rw [flK_len]; exact hj)]
   by_cases hij : j = i
   ·subst hij
    rw [if_pos rfl, ih j hj]
    have hnew := dnK_new (s := s) hS.1 (show k < S.length by omega) hx
    have hdone := dnK_done hx hb
    by_cases h2 : q = 2
    ·subst h2
     rw [if_pos rfl]
     have s1 : dnK S s (k + 1) j 1 = dnK S s k j 1 := dnK_skip (.inr (by rw [hx]; intro h; injection h with _ h; exact absurd h (by decide)))
     have s3 : dnK S s (k + 1) j 3 = dnK S s k j 3 := dnK_skip (.inr (by rw [hx]; intro h; injection h with _ h; exact absurd h (by decide)))
     unfold plK
     rw [hnew, hdone, s1, s3]
     simp only [Bool.false_eq_true, if_false, if_true]
     refine Prod.ext ?_ rfl
     show ix fs j + (ix ts j - ix fs j) = ix ts j
     omega
    ·rw [if_neg h2]
     have s2 : dnK S s (k + 1) j 2 = dnK S s k j 2 := dnK_skip (.inr (by rw [hx]; intro h; injection h with _ h; exact h2 h))
     unfold plK
     rw [s2]
     by_cases h1 : q = 1
     ·subst h1
      have s3 : dnK S s (k + 1) j 3 = dnK S s k j 3 := dnK_skip (.inr (by rw [hx]; intro h; injection h with _ h; exact absurd h (by decide)))
      rw [hnew, hdone, s3]
      refine Prod.ext rfl ?_
      simp [b2i]; omega
     ·obtain rfl : q = 3 := by omega
      have s1 : dnK S s (k + 1) j 1 = dnK S s k j 1 := dnK_skip (.inr (by rw [hx]; intro h; injection h with _ h; exact absurd h (by decide)))
      rw [hnew, hdone, s1]
      refine Prod.ext rfl ?_
      simp [b2i]; omega
   ·rw [if_neg hij, ih i hi]
    have hne : ∀ q' : Int, sAt S k ≠ ((i : Int), q') := fun q' h => by
     rw [hx] at h
     injection h with h _
     omega
    unfold plK
    rw [dnK_skip (.inr (hne 2)), dnK_skip (.inr (hne 1)), dnK_skip (.inr (hne 3))]
theorem flK_all {l : List Sv} {fs ts : List Int} {S : List StP} {s : Nat} (hS : StepsOK S fs.length) : flK l fs ts S s S.length = plL l fs ts S s := by
 have h1 : (flK l fs ts S s S.length).length = (plL l fs ts S s).length := by rw [flK_len, plL_len]
 apply List.ext_getElem h1
 intro i h2 h3
 have hi : i < fs.length := by rw [flK_len] at h2; exact h2
 have h4 := flK_at (l := l) (ts := ts) (s := s) hS S.length (Nat.le_refl _) i hi
 have h5 := plL_at l fs ts S s hi
 have e : plK l fs ts S s S.length i = plP l fs ts S s i := by
  unfold plK plP
  rw [dnK_all hS.1, dnK_all hS.1, dnK_all hS.1]
 rw [e, ← h5] at h4
 unfold at_ at h4
 simpa [List.getD, h2, h3] using h4
theorem flK_small {l : List Sv} {fs ts : List Int} {S : List StP} {s : Nat} (hS : StepsOK S fs.length) (hlv : LevOK l) (hsm : SmCat l) (hf : setB l fs = true) (ht : setB l ts = true) {k i : Nat} (hk : k ≤ S.length) (hi : i < fs.length) :
  ∃ v : Nat, (at_ (flK l fs ts S s k) i).1 = (v : Int) ∧ v < (svAt l i).2.length ∧ v ≤ 16 ∧ 0 ≤ (at_ (flK l fs ts S s k) i).2 ∧ (at_ (flK l fs ts S s k) i).2 ≤ 2002 := by
 rw [flK_at hS k hk i hi]
 obtain ⟨f1, f2⟩ := setB_iff.1 hf
 obtain ⟨t1, t2⟩ := setB_iff.1 ht
 obtain ⟨a, b, ea, eb, ha, hb⟩ := isR_nat (f2 i hi)
 obtain rfl : i = a := by omega
 obtain ⟨a', b', ea', eb', ha', hb'⟩ := isR_nat (t2 i (by omega))
 obtain rfl : i = a' := by omega
 have l1 := levAt_ok hlv ha hb
 have hsz := (hsm.2 _ (svAt_mem ha)).2.1
 have c1 : 0 ≤ b2i (dnK S s k i 1) ∧ b2i (dnK S s k i 1) ≤ 1 := by unfold b2i; split <;> omega
 have c3 : 0 ≤ b2i (dnK S s k i 3) ∧ b2i (dnK S s k i 3) ≤ 1 := by unfold b2i; split <;> omega
 unfold plK
 rw [eb, Int.toNat_natCast]
 cases dnK S s k i 2 with
 | true => exact ⟨b', by simp [eb'], hb', by omega, by show 0 ≤ 2 * levAt l i b + _; omega, by show 2 * levAt l i b + _ ≤ 2002; omega⟩
 | false => exact ⟨b, by simp, hb, by omega, by show 0 ≤ 2 * levAt l i b + _; omega, by show 2 * levAt l i b + _ ≤ 2002; omega⟩
end Go.Proofs.YtminihiecloglaaGreat
namespace Go.Proofs.YtminihiecloglaaGreat
open Go.RowKit
open SemP FlP GaP DiP
set_option maxRecDepth 10000
theorem PrR.flat {w : World} {b off m : Nat} {ps : List (Int × Int)} (h : PrR w (some ⟨b, off, none⟩) m ps) : ∀ j u, (ps.flatMap spF)[j]? = some u → w.cell? ((⟨b, off, none⟩ : Addr).add j) = some u ∧ b < w.heap.size := by
 intro j u hj
 have hlt : j < ps.length * 2 := by
  have := (List.getElem?_eq_some_iff.1 hj).1
  rw [flatF_len (f := spF) (z := 2) (fun _ => rfl)] at this
  exact this
 have hq : j / 2 < ps.length := by omega
 have ht : j % 2 < 2 := Nat.mod_lt _ (by decide)
 have hjj : j / 2 * 2 + j % 2 = j := by omega
 have h1 := flatF_at (f := spF) (z := 2) (fun _ => rfl) ps (j / 2) (j % 2) hq ht
 rw [hjj, hj] at h1
 obtain ⟨b', off', e, hb, c0, c1⟩ := h.2 (j / 2) (by rw [← h.1]; exact hq)
 injection e with e
 injection e with e1 e2 _
 subst e1 e2
 rw [addr_add]
 refine ⟨?_, hb⟩
 rcases (show j % 2 = 0 ∨ j % 2 = 1 by omega) with h2 | h2
 ·rw [h2] at h1
  have h3 : u = .int .i64 (at_ ps (j / 2)).1 := by
   have : some u = some (Value.int .i64 (at_ ps (j / 2)).1) := h1
   injection this
  rw [h3, show off + j = off + j / 2 * 2 by omega]; exact c0
 ·rw [h2] at h1
  have h3 : u = .int .i64 (at_ ps (j / 2)).2 := by
   have : some u = some (Value.int .i64 (at_ ps (j / 2)).2) := h1
   injection this
  rw [h3, show off + j = off + j / 2 * 2 + 1 by omega]; exact c1
theorem PrR.ofF {E : TypeId} {w : World} {base m c : Nat} {A : Option Addr} {ps : List (Int × Int)} (h : OwnF E 2 spF w base (.slice A m c) ps) : PrR w A m ps := by
 have hn : ps.length = m := by obtain ⟨_, _, e⟩ := h.shape; injection e with _ e _; exact e.symm
 have hr := OwnF.rdG h
 refine ⟨hn, fun j hj => ?_⟩
 obtain ⟨b, off, e, hlt, c0, c1⟩ := hr.at_ j hj
 exact ⟨b, off, e, hlt, c0, c1⟩
theorem flat_set0 : ∀ (ps : List (Int × Int)) (i : Nat) (u : Int), i < ps.length → (ps.flatMap spF).set (i * 2) (.int .i64 u) = (ps.set i (u, (at_ ps i).2)).flatMap spF
 | [], i, u, h => absurd h (by simp)
 | p :: ps, 0, u, h => by simp [spF, at_]
 | p :: ps, i + 1, u, h => by
  have ih := flat_set0 ps i u (by simpa using h)
  have e : (i + 1) * 2 = i * 2 + 1 + 1 := by omega
  rw [List.set_cons_succ, List.flatMap_cons, List.flatMap_cons]
  show (Value.int .i64 p.1 :: Value.int .i64 p.2 :: ps.flatMap spF).set ((i + 1) * 2) (.int .i64 u) = Value.int .i64 p.1 :: Value.int .i64 p.2 :: (ps.set i (u, (at_ ps i).2)).flatMap spF
  rw [e, List.set_cons_succ, List.set_cons_succ, ih]
theorem flat_set1 : ∀ (ps : List (Int × Int)) (i : Nat) (u : Int), i < ps.length → (ps.flatMap spF).set (i * 2 + 1) (.int .i64 u) = (ps.set i ((at_ ps i).1, u)).flatMap spF
 | [], i, u, h => absurd h (by simp)
 | p :: ps, 0, u, h => by simp [spF, at_]
 | p :: ps, i + 1, u, h => by
  have ih := flat_set1 ps i u (by simpa using h)
  have e : (i + 1) * 2 + 1 = i * 2 + 1 + 1 + 1 := by omega
  rw [List.set_cons_succ, List.flatMap_cons, List.flatMap_cons]
  show (Value.int .i64 p.1 :: Value.int .i64 p.2 :: ps.flatMap spF).set ((i + 1) * 2 + 1) (.int .i64 u) = Value.int .i64 p.1 :: Value.int .i64 p.2 :: (ps.set i ((at_ ps i).1, u)).flatMap spF
  rw [e, List.set_cons_succ, List.set_cons_succ, ih]
theorem OwnF.set0 {E : TypeId} {w : World} {base g m c i : Nat} {ps : List (Int × Int)} (h : OwnF E 2 spF w base (.slice (some ⟨g, 0, none⟩) m c) ps) (hi : i < ps.length) (u : Int) : OwnF E 2 spF (w.setCell ⟨g, i * 2, none⟩ (.int .i64 u)) base (.slice (some ⟨g, 0, none⟩) m c) (ps.set i (u, (at_ ps i).2)) := by
 obtain ⟨A', c', hA⟩ := h.shape
 injection hA with hA hn hc
 subst hn
 have := (World.ownsRow.stored h (i * 2) (.int .i64 u)).1
 unfold OwnF
 rw [List.length_set, ← flat_set0 ps i u hi]; exact this
theorem OwnF.set1 {E : TypeId} {w : World} {base g m c i : Nat} {ps : List (Int × Int)} (h : OwnF E 2 spF w base (.slice (some ⟨g, 0, none⟩) m c) ps) (hi : i < ps.length) (u : Int) : OwnF E 2 spF (w.setCell ⟨g, i * 2 + 1, none⟩ (.int .i64 u)) base (.slice (some ⟨g, 0, none⟩) m c) (ps.set i ((at_ ps i).1, u)) := by
 obtain ⟨A', c', hA⟩ := h.shape
 injection hA with hA hn hc
 subst hn
 have := (World.ownsRow.stored h (i * 2 + 1) (.int .i64 u)).1
 unfold OwnF
 rw [List.length_set, ← flat_set1 ps i u hi]; exact this
theorem OwnF.free2 {E : TypeId} {w : World} {base g m c : Nat} {ps : List (Int × Int)} (h : OwnF E 2 spF w base (.slice (some ⟨g, 0, none⟩) m c) ps) (j : Nat) : w.frozen? ⟨g, j, none⟩ = false := by
 obtain ⟨A', c', hA⟩ := h.shape
 injection hA with hA hn hc
 subst hn
 exact World.ownsRow.frozenAt h j
set_option maxHeartbeats 16000000 in
theorem moved_any {w : World} {BF BT BS nF cF nT cT nS cS nE cE m c k i : Nat} {AF AT AS AE A : Option Addr} {fs ts : List Int} {S : List StP} {ps : List (Int × Int)} {q : Int} (hF : Rd w BF AF nF fs) (hT : Rd w BT AT nT ts) (hS : RdS w BS AS nS S) (hBF : BF ≤ w.heap.size) (hBT : BT ≤ w.heap.size) (hBS : BS ≤ w.heap.size) (hP : PrR w A m ps) (hk : k < nS) (hx : sAt S k = ((i : Int), q)) (hi : i < m) (hiF : i < nF) (hiT : i < nT) (hm : m ≤ 64)
  (v1 : -1000000 ≤ (at_ ps i).1 ∧ (at_ ps i).1 ≤ 1000000) (v2 : -1000000 ≤ (at_ ps i).2 ∧ (at_ ps i).2 ≤ 1000000) (v3 : -1000000 ≤ ix fs i ∧ ix fs i ≤ 1000000) (v4 : -1000000 ≤ ix ts i ∧ ix ts i ≤ 1000000) :
  Calls Tryz.prog 61 #[.agg #[.slice AF nF cF, .slice AT nT cT, .slice AS nS cS, .slice AE nE cE], .slice A m c, .int .i64 (k : Int)] w fun e w' => ∃ A' c', e = .returned (.slice A' m c') ∧ PrR w' A' m (mvS fs ts ps (sAt S k)) ∧ Below w.heap.size w w' := by
 obtain ⟨W, HW⟩ : ∃ W, Hid (W = w.alloc (.cells #[.slice AF nF cF, .slice AT nT cT, .slice AS nS cS, .slice AE nE cE] 41)) := ⟨_, Lib.hid rfl⟩
 have hbl : Below w.heap.size w W := by rw [HW.out]; exact (Below.refl _ w).alloc (Nat.le_refl _) _
 have HBL := Lib.hid hbl
 have H0 : Hid (W.heap[w.heap.size]? = some (.cells #[.slice AF nF cF, .slice AT nT cT, .slice AS nS cS, .slice AE nE cE] 41 (0, 0))) := Lib.hid (by rw [HW.out]; exact heap_new w _)
 have HF := Lib.hid (hF.below (hbl.mono hBF))
 have HT := Lib.hid (hT.below (hbl.mono hBT))
 have HS := Lib.hid (hS.below (hbl.mono hBS) hBS)
 have LF : Hid (BF ≤ W.heap.size) := Lib.hid (Nat.le_trans hBF hbl.size)
 have LT : Hid (BT ≤ W.heap.size) := Lib.hid (Nat.le_trans hBT hbl.size)
 have LS : Hid (BS ≤ W.heap.size) := Lib.hid (Nat.le_trans hBS hbl.size)
 have HPL : Hid (ps.length = m) := Lib.hid hP.1
 obtain ⟨b, off, hA, _⟩ := hP.2 i hi
 subst hA
 have HPW := Lib.hid (hP.below hbl)
 obtain ⟨U, HU⟩ : ∃ U, Hid (U = W.alloc (.cells #[] 66)) := ⟨_, Lib.hid rfl⟩
 have HWU : Hid (Below W.heap.size W U) := Lib.hid (by rw [HU.out]; exact (Below.refl _ W).alloc (Nat.le_refl _) _)
 have HO : Hid (OwnF 66 2 spF (W.alloc (.cells #[] 66)) W.heap.size (.slice (some ⟨W.heap.size, 0, none⟩) 0 0) []) := Lib.hid ⟨rfl, .inr ⟨W.heap.size, 0, #[], rfl, Nat.le_refl _, heap_alloc_new _ _, Nat.le_refl _, by unfold maxLen; omega, rfl, rfl⟩⟩
 have HN : Hid (∀ j u, (ps.flatMap spF)[j]? = some u → (W.alloc (.cells #[] 66)).cell? ((⟨b, off, none⟩ : Addr).add j) = some u) := Lib.hid (fun j u hj => by
  obtain ⟨h1, h2⟩ := HPW.out.flat j u hj
  rw [World.cell?_alloc_lt W _ _ (by unfold Addr.add; split <;> exact h2)]
  exact h1)
 obtain ⟨V1, HV1⟩ : ∃ x, Hid ((at_ ps i).1 = x) := ⟨_, Lib.hid rfl⟩
 obtain ⟨V2, HV2⟩ : ∃ x, Hid ((at_ ps i).2 = x) := ⟨_, Lib.hid rfl⟩
 obtain ⟨F, HFV⟩ : ∃ x, Hid (ix fs i = x) := ⟨_, Lib.hid rfl⟩
 obtain ⟨G, HGV⟩ : ∃ x, Hid (ix ts i = x) := ⟨_, Lib.hid rfl⟩
 rw [HV1.out] at v1
 rw [HV2.out] at v2
 rw [HFV.out] at v3
 rw [HGV.out] at v4
 have HX := Lib.hid hx
 have HMV : Hid (mvS fs ts ps (sAt S k) = ps.set i (if q = 2 then (V1 + (G - F), V2) else (V1, V2 + 1))) := Lib.hid (by
  unfold mvS; rw [hx]; simp only [Int.toNat_natCast]; rw [HV1.out, HV2.out, HFV.out, HGV.out])
 have hki : (k : Int) < (nS : Int) := by omega
 have hk0 : (0 : Int) ≤ (k : Int) := by omega
 have hii : (i : Int) < (m : Int) := by omega
 have hi0 : (0 : Int) ≤ (i : Int) := by omega
 have hiF' : (i : Int) < (nF : Int) := by omega
 have hiT' : (i : Int) < (nT : Int) := by omega
 have hsub : IntKind.i64.wrap (G - F) = G - F := IntWalk.i64_in _ (by omega)
 have hadd : IntKind.i64.wrap (V1 + (G - F)) = V1 + (G - F) := IntWalk.i64_in _ (by omega)
 have had1 : IntKind.i64.wrap (V2 + 1) = V2 + 1 := IntWalk.i64_in _ (by omega)
 clear hF hT hS hBF hBT hBS hP hbl hx v1 v2 v3 v4
 go_enter Tryz.func61, Tryz.ntmps61
 go_upto_region 1 with fail
 change Code.wp _ _ _ _ (w.alloc (.cells #[.slice AF nF cF, .slice AT nT cT, .slice AS nS cS, .slice AE nE cE] 41))
 rw [← HW.out]
 go_upto_region 2 with (at_builtin; refine wplF_appA (f := spF) (fun _ => rfl) (fun x u hu => by simp [spF] at hu; rcases hu with rfl | rfl <;> rfl) Tryz.underlying68 infoP4 rfl (by decide) (by decide) rfl (.tmp 9) (.tmp 10) rfl W.heap.size _ [] rfl HO.out ⟨b, off, none⟩ m c ps rfl HPL.out HN.out (by simp; omega) (by simp) ?_; intro v' w1 hown hg hat; rw [List.nil_append] at hown; (have HB1 : Hid (Below W.heap.size W w1) := Lib.hid (((Below.refl _ W).alloc (Nat.le_refl _) _).grown hg (by simp) (fun k h => by have h' : some W.heap.size = some k := h; cases h'; exact Nat.le_refl _))); (have HO1 := Lib.hid hown); clear hown hg hat)
 obtain ⟨g, c', hv, hge, hglt⟩ : ∃ g c', v' = .slice (some ⟨g, 0, none⟩) m c' ∧ W.heap.size ≤ g ∧ g < w1.heap.size := by
  obtain ⟨g, cap, h1, h2, h3⟩ := World.ownsRow.form HO1.out (by rw [HPL.out]; omega)
  rw [HPL.out] at h1
  exact ⟨g, cap, h1, h2, h3⟩
 subst hv
 obtain ⟨b2, o2, rfl, hl2, s0, s1⟩ := (HS.out.below (HB1.out.mono LS.out) LS.out).at_ k hk
 rw [HX.out] at s0 s1
 replace s0 : w1.cell? ⟨b2, o2 + k * 2, none⟩ = some (.int .i64 (i : Int)) := s0
 replace s1 : w1.cell? ⟨b2, o2 + k * 2 + 1, none⟩ = some (.int .i64 q) := s1
 obtain ⟨w2, HW2⟩ : ∃ w2, Hid (w2 = w1.alloc (.cells #[.int .i64 (i : Int), .int .i64 q] 111)) := ⟨_, Lib.hid rfl⟩
 have HB12 : Hid (Below w1.heap.size w1 w2) := Lib.hid (by rw [HW2.out]; exact (Below.refl _ w1).alloc (Nat.le_refl _) _)
 have KS : Hid (w2.heap[w1.heap.size]? = some (.cells #[.int .i64 (i : Int), .int .i64 q] 111 (0, 0))) := Lib.hid (by rw [HW2.out]; exact heap_new w1 _)
 have HB2 : Hid (Below W.heap.size W w2) := Lib.hid (HB1.out.trans (HB12.out.mono HB1.out.size))
 have HO2 := Lib.hid (HO1.out.kept HB12.out)
 have HBW : Hid (Below w.heap.size w w2) := Lib.hid (HBL.out.trans (HB2.out.mono HBL.out.size))
 obtain ⟨y0, y1, y2, y3⟩ := row4 ((HB1.out.block w.heap.size (heapE_lt H0.out)).trans H0.out)
 go_upto_region 3 with fail
 rw [← HW2.out]
 clear s0 s1 y0 y1 y2 y3
 obtain ⟨y0, y1, y2, y3⟩ := row4 ((HB2.out.block w.heap.size (heapE_lt H0.out)).trans H0.out)
 obtain ⟨q0, q1, _, _⟩ := row2 KS.out
 obtain ⟨g', off', hA', hlt', r0, r1⟩ := (PrR.ofF HO2.out).2 i hi
 injection hA' with hA'
 injection hA' with e1 e2 _
 subst e1 e2
 rw [HV1.out, Nat.zero_add] at r0
 rw [HV2.out, Nat.zero_add] at r1
 have f0 := HO2.out.free2 (i * 2)
 have f1 := HO2.out.free2 (i * 2 + 1)
 obtain ⟨bF, oF, rfl, _, cF0⟩ := (HF.out.below (HB2.out.mono LF.out)).at_ hiF
 obtain ⟨bT, oT, rfl, _, cT0⟩ := (HT.out.below (HB2.out.mono LT.out)).at_ hiT
 rw [HFV.out] at cF0
 rw [HGV.out] at cT0
 have HIL : Hid (i < ps.length) := Lib.hid (by rw [HPL.out]; exact hi)
 by_cases hq : q = 2
 ·subst hq
  have e2 : ((2 : Int) == 2) = true := rfl
  have HRES := Lib.hid (HO2.out.set0 HIL.out (V1 + (G - F)))
  have HLB : Hid (Below w.heap.size w (w2.setCell ⟨g, i * 2, none⟩ (.int .i64 (V1 + (G - F))))) := Lib.hid (HBW.out.setCell (p := ⟨g, i * 2, none⟩) (by have := HBL.out.size; show w.heap.size ≤ g; omega) _)
  have HL2 : Hid (mvS fs ts ps (sAt S k) = ps.set i (V1 + (G - F), (at_ ps i).2)) := Lib.hid (by rw [HMV.out, if_pos rfl, HV2.out])
  go_wp2_with fail
  go_region
  go_wp2_with fail
  exact bodyPost_ret (results_tmp rfl _ _ _) rfl ⟨_, c', rfl, by rw [HL2.out]; exact PrR.ofF HRES.out, by first | exact HLB.out | exact HLB.out.drew⟩
 ·have e2 : (q == 2) = false := by rw [beq_eq_false_iff_ne]; exact hq
  have HRES := Lib.hid (HO2.out.set1 HIL.out (V2 + 1))
  have HLB : Hid (Below w.heap.size w (w2.setCell ⟨g, i * 2 + 1, none⟩ (.int .i64 (V2 + 1)))) := Lib.hid (HBW.out.setCell (p := ⟨g, i * 2 + 1, none⟩) (by have := HBL.out.size; show w.heap.size ≤ g; omega) _)
  have HL2 : Hid (mvS fs ts ps (sAt S k) = ps.set i ((at_ ps i).1, V2 + 1)) := Lib.hid (by rw [HMV.out, if_neg hq, HV1.out])
  clear hq
  go_wp2_with fail
  have HPR : Hid (PrR _ _ m (mvS fs ts ps (sAt S k))) := Lib.hid (by rw [HL2.out]; exact PrR.ofF HRES.out)
  first
  | exact bodyPost_ret (results_tmp rfl _ _ _) rfl ⟨_, c', rfl, HPR.out, HLB.out⟩
  | exact bodyPost_ret (results_tmp rfl _ _ _) rfl ⟨_, ⟨c', rfl⟩, HPR.out, HLB.out⟩
set_option maxHeartbeats 16000000 in
theorem fleetQ_any {w : World} {B BF BT BS n c nF cF nT cT nS cS nE cE s : Nat} {A AF AT AS AE : Option Addr} {l : List Sv} {fs ts : List Int} {S : List StP} (h : CatAt w B A n c l) (hlv : LevOK l) (hF : Rd w BF AF nF fs) (hT : Rd w BT AT nT ts) (hS : RdS w BS AS nS S) (hBF : BF ≤ w.heap.size) (hBT : BT ≤ w.heap.size) (hBS : BS ≤ w.heap.size) (hOK : StepsOK S fs.length) (hsf : setB l fs = true) (hst : setB l ts = true) (hs : s < lim) (hN : nS ≤ 64) :
  Calls Tryz.prog 27 #[.agg #[.slice A n c], .agg #[.slice AF nF cF, .slice AT nT cT, .slice AS nS cS, .slice AE nE cE], .int .u64 (s : Int)] w fun e w' => ∃ A' c', e = .returned (.slice A' nF c') ∧ PrR w' A' nF (plL l fs ts S s) ∧ Below w.heap.size w w' := by
 obtain ⟨W, HW⟩ : ∃ W, Hid (W = (w.alloc (.cells #[.slice A n c] 29)).alloc (.cells #[.slice AF nF cF, .slice AT nT cT, .slice AS nS cS, .slice AE nE cE] 41)) := ⟨_, Lib.hid rfl⟩
 have hbl : Below w.heap.size w W := by rw [HW.out]; exact ((Below.refl _ w).alloc (Nat.le_refl _) _).alloc (by simp) _
 have HBL := Lib.hid hbl
 have H0 : Hid (W.heap[w.heap.size]? = some (.cells #[.slice A n c] 29 (0, 0))) := Lib.hid (by
  rw [HW.out, Below.heap_alloc _ _ _ (by simp)]; exact heap_new w _)
 have H1 : Hid (W.heap[w.heap.size + 1]? = some (.cells #[.slice AF nF cF, .slice AT nT cT, .slice AS nS cS, .slice AE nE cE] 41 (0, 0))) := Lib.hid (by
  rw [HW.out]
  have h := heap_new (w.alloc (.cells #[.slice A n c] 29)) (.cells #[.slice AF nF cF, .slice AT nT cT, .slice AS nS cS, .slice AE nE cE] 41)
  rw [World.size_alloc] at h; exact h)
 have HF := Lib.hid (hF.below (hbl.mono hBF))
 have HT := Lib.hid (hT.below (hbl.mono hBT))
 have HS := Lib.hid (hS.below (hbl.mono hBS) hBS)
 have LF : Hid (BF ≤ W.heap.size) := Lib.hid (Nat.le_trans hBF hbl.size)
 have LT : Hid (BT ≤ W.heap.size) := Lib.hid (Nat.le_trans hBT hbl.size)
 have LS : Hid (BS ≤ W.heap.size) := Lib.hid (Nat.le_trans hBS hbl.size)
 have HFL : Hid (fs.length = nF) := Lib.hid hF.len
 have HTL : Hid (ts.length = nT) := Lib.hid hT.len
 have HSL : Hid (S.length = nS) := Lib.hid hS.len
 have hn16 := h.n16
 have hfn : fs.length = l.length := (setB_iff.1 hsf).1
 have htn : ts.length = l.length := (setB_iff.1 hst).1
 have hln : l.length = n := h.rd.1
 have hnF16 : nF ≤ 16 := by rw [← HFL.out, hfn, hln]; exact hn16
 have hFT : nF = nT := by rw [← HFL.out, ← HTL.out, hfn, htn]
 subst hFT
 have HST := Lib.hid (settledQ_any (w := W) (c := c) (c2 := cF) (h.below hbl) hlv HF.out LF.out (by omega) hsf)
 have HSM := Lib.hid (fun k (hk : k ≤ S.length) i (hi : i < fs.length) => flK_small (s := s) hOK hlv h.sm hsf hst hk hi)
 have HR := Lib.hid (fun i (hi : i < fs.length) => And.intro (isR_nat ((setB_iff.1 hsf).2 i hi)) (isR_nat ((setB_iff.1 hst).2 i (by rw [htn, ← hfn]; exact hi))))
 have HM16 := Lib.hid (fun a (ha : a < l.length) => (h.sm.2 _ (svAt_mem ha)).2.1)
 have HOK := Lib.hid hOK
 have HALL := Lib.hid (flK_all (l := l) (ts := ts) (s := s) hOK)
 have HSS := Lib.hid hs
 clear h hlv hF hT hS hBF hBT hBS hOK hsf hst hbl hfn htn hln hs
 obtain ⟨x0, _⟩ := row1f H0.out
 obtain ⟨y0, y1, y2, y3⟩ := row4 H1.out
 go_enter Tryz.func27, Tryz.ntmps27
 go_upto_region 1 with fail
 change Code.wp _ _ _ _ ((w.alloc (.cells #[.slice A n c] 29)).alloc (.cells #[.slice AF nF cF, .slice AT nF cT, .slice AS nS cS, .slice AE nE cE] 41))
 rw [← HW.out]
 go_wp2_with fail
 refine HST.out.mono ?_
 rintro e X ⟨A', c', rfl, hrd, hb⟩
 have HBX := Lib.hid hb
 have HP0 : Hid (PrR X A' nF (setL l fs)) := Lib.hid (PrR.of hrd)
 clear hb hrd x0 y0 y1 y2 y3 HST
 go_wp2_with fail
 go_loopw [7, 8] (fun u v wr => ∃ k : Nat, k ≤ nS ∧ v = .int .i64 (k : Int) ∧ Hid (Below W.heap.size W wr) ∧ ∃ A2 c2, u = .slice A2 nF c2 ∧ Hid (PrR wr A2 nF (flK l fs ts S s k))) (fun _ v _ => nS - (intOf v).toNat)
 case atStart => exact ⟨0, Nat.zero_le _, rfl, HBX, A', c', rfl, HP0⟩
 case round =>
  obtain ⟨wo, hwo⟩ : ∃ x, x = wr := ⟨_, rfl⟩
  subst hwo
  obtain ⟨k, hk, rfl, HBo, A2, c2, rfl, HPo⟩ := hrel
  obtain ⟨y0, y1, y2, y3⟩ := row4 ((HBo.out.block (w.heap.size + 1) (heapE_lt H1.out)).trans H1.out)
  by_cases hkn : k < nS
  ·have hd : decide ((k : Int) < (nS : Int)) = true := by simp; omega
   have hki : (k : Int) < (nS : Int) := by omega
   have hk0 : (0 : Int) ≤ (k : Int) := by omega
   have hadd : IntKind.i64.wrap ((k : Int) + 1) = ((k + 1 : Nat) : Int) := by rw [IntWalk.i64_in _ (by omega)]; omega
   have HIN := Lib.hid (in_any (w := wo) (v := k) HSS.out (by omega))
   cases hb : bt s k with
   | false =>
    have HNX : Hid (flK l fs ts S s (k + 1) = flK l fs ts S s k) := Lib.hid (by show (if bt s k = true then _ else _) = _; rw [hb]; rfl)
    rw [hb] at HIN
    clear hb
    go_wp2_with fail
    refine HIN.out.mono ?_
    rintro e wx ⟨rfl, rfl⟩
    go_wp2_with fail
    go_roundw
    case rel => exact ⟨k + 1, by omega, by go_num, HBo, A2, c2, rfl, Lib.hid (by rw [HNX.out]; exact HPo.out)⟩
    case measure => simp [intOf]; omega
   | true =>
    have HNX : Hid (flK l fs ts S s (k + 1) = mvS fs ts (flK l fs ts S s k) (sAt S k)) := Lib.hid (by show (if bt s k = true then _ else _) = _; rw [hb]; rfl)
    rw [hb] at HIN
    obtain ⟨i, hi, e, hq1, hq3⟩ := HOK.out.2 k (by rw [HSL.out]; exact hkn)
    obtain ⟨⟨xk, q⟩, HX⟩ : ∃ x, Hid (sAt S k = x) := ⟨_, Lib.hid rfl⟩
    rw [HX.out] at e hq1 hq3
    have e' : xk = (i : Int) := e
    subst e'
    obtain ⟨v, ev, _, hv16, hf0, hf2⟩ := HSM.out k (by rw [HSL.out]; omega) i hi
    obtain ⟨⟨a1, u1, ea1, eu1, ha1, hu1⟩, ⟨a2, u2, ea2, eu2, ha2, hu2⟩⟩ := HR.out i hi
    have hs1 := HM16.out a1 ha1
    have hs2 := HM16.out a2 ha2
    have hif : i < nF := by rw [← HFL.out]; exact hi
    have HMV := Lib.hid (moved_any (w := wo) (nE := nE) (cE := cE) (cF := cF) (cT := cT) (cS := cS) (c := c2) (AE := AE) (HF.out.below (HBo.out.mono LF.out)) (HT.out.below (HBo.out.mono LT.out)) (HS.out.below (HBo.out.mono LS.out) LS.out) (Nat.le_trans LF.out HBo.out.size) (Nat.le_trans LT.out HBo.out.size) (Nat.le_trans LS.out HBo.out.size) HPo.out hkn HX.out hif hif (by omega) (by omega) (by omega) (by omega) (by omega) (by omega))
    clear hb e hq1 hq3 ev hv16 hf0 hf2 ea1 eu1 ha1 hu1 ea2 eu2 ha2 hu2 hs1 hs2
    go_wp2_with fail
    refine HIN.out.mono ?_
    rintro e wx ⟨rfl, rfl⟩
    go_wp2_with fail
    refine HMV.out.mono ?_
    rintro e w1 ⟨A3, c3, rfl, hp, hb⟩
    have HB1 : Hid (Below W.heap.size W w1) := Lib.hid (HBo.out.trans (hb.mono HBo.out.size))
    have HP1 := Lib.hid hp
    clear hb hp
    go_wp2_with fail
    go_roundw
    case rel => exact ⟨k + 1, by omega, by go_num, HB1, A3, c3, rfl, Lib.hid (by rw [HNX.out]; exact HP1.out)⟩
    case measure => simp [intOf]; omega
  ·have hd : decide ((k : Int) < (nS : Int)) = false := by simp; omega
   obtain rfl : k = nS := by omega
   go_wp2_with fail
   exact bodyPost_ret (results_tmp rfl _ _ _) rfl ⟨A2, c2, rfl, by rw [← HALL.out, HSL.out]; exact HPo.out, HBL.out.trans (HBo.out.mono HBL.out.size)⟩
end Go.Proofs.YtminihiecloglaaGreat
