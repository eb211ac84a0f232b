/-
  CONTRACTS of the sort's parts at sets: partialInsertionSort (printed by genlsrth.py).
  CONTRACTS of the sort's parts at sets: partitionEqual (printed by genlsrti.py).
-/
import Derived.Test.YtfcabdgidlnljaaDoorLSrt1
import Derived.Sort.LotC
namespace Go.Proofs.YtfcabdgidlnljaaDoor
open Go.RowKit Go.Sort
set_option linter.unusedVariables false
set_option linter.unusedSimpArgs false
set_option maxRecDepth 100000
section
variable (lt : Int → Int → Bool)
theorem scs_step {b k : Nat} {d : Array Int} (h : k < b) (hl : lt d[k]! d[k - 1]! = false) : scanSorted lt d b k = scanSorted lt d b (k + 1) := by
  conv => lhs; rw [scanSorted]
  rw [if_pos (by simp [h, hl])]
theorem scs_stop {b k : Nat} {d : Array Int} (h : ¬ k < b ∨ lt d[k]! d[k - 1]! = true) : scanSorted lt d b k = k := by
  rw [scanSorted, if_neg]
  simp only [Bool.and_eq_true, decide_eq_true_eq, Bool.not_eq_true']
  rintro ⟨h1, h2⟩
  rcases h with h | h
  · exact h h1
  · rw [h] at h2; cases h2
theorem shd_step {j : Nat} {d : Array Int} (h : 1 ≤ j) (hl : lt d[j]! d[j - 1]! = true) : shiftDown lt j d = shiftDown lt (j - 1) (swp d j (j - 1)) := by
  cases j with
  | zero => omega
  | succ q => rw [Nat.add_sub_cancel] at hl ⊢; rw [shiftDown, hl]; rfl
theorem shd_stop {j : Nat} {d : Array Int} (h : ¬ 1 ≤ j ∨ lt d[j]! d[j - 1]! = false) : shiftDown lt j d = d := by
  cases j with
  | zero => rfl
  | succ q =>
    rw [Nat.add_sub_cancel] at h
    rcases h with h | h
    · omega
    · rw [shiftDown, h]; rfl
theorem shu_step {b j : Nat} {d : Array Int} (h : j < b) (hl : lt d[j]! d[j - 1]! = true) : shiftUp lt b j d = shiftUp lt b (j + 1) (swp d j (j - 1)) := by
  conv => lhs; rw [shiftUp]
  rw [if_pos h, hl]; rfl
theorem shu_stop {b j : Nat} {d : Array Int} (h : ¬ j < b ∨ lt d[j]! d[j - 1]! = false) : shiftUp lt b j d = d := by
  rw [shiftUp]
  rcases h with h | h
  · rw [if_neg h]
  · rw [h]; simp
theorem pin_end {a b s i : Nat} {d : Array Int} (hk : scanSorted lt d b i = b) : partialIns lt a b (s + 1) i d = (d, true) := by
  rw [partialIns]; simp [hk]
theorem pin_short {a b s i k : Nat} {d : Array Int} (hk : scanSorted lt d b i = k) (hb : k ≠ b) (h : b - a < 50) : partialIns lt a b (s + 1) i d = (d, false) := by
  rw [partialIns]; simp [hk, hb, h]
theorem pin_step {a b s i k : Nat} {d d3 d4 : Array Int} (hk : scanSorted lt d b i = k) (hb : k ≠ b) (h : ¬ b - a < 50)
    (h3 : d3 = if 2 ≤ k - a then shiftDown lt (k - 1) (swp d k (k - 1)) else swp d k (k - 1)) (h4 : d4 = if 2 ≤ b - k then shiftUp lt b (k + 1) d3 else d3) : partialIns lt a b (s + 1) i d = partialIns lt a b s k d4 := by
  rw [partialIns]
  simp only [hk, hb, h, if_false]
  rw [h4, h3]
end
/-- What partialInsertionSort leaves. -/
def PartR (w : World) (blk off : Nat) (d : Array Int) (a b : Nat) (e : Ending) (w' : World) : Prop := ∃ r d', e = .returned (.bool r) ∧ partialInsertionSort ltInt d a b = (d', r) ∧ RowS w blk off d' w'
set_option maxHeartbeats 8000000 in
theorem partial_any {blk off cap L a b : Nat} {d : Array Int} {w : World} (hL : d.size = L) (hH : Holds eU w blk off d) (hab : a < b) (hb : b ≤ L) (hsz : L < 1000000) :
    Calls Tryd.prog 55 #[.slice (some ⟨blk, off, none⟩) L cap, .int .i64 a, .int .i64 b] w (PartR w blk off d a b) := by
  have HH := Lib.hid hH
  obtain ⟨a1, ha1⟩ : ∃ a1, a + 1 = a1 := ⟨_, rfl⟩
  obtain ⟨T, hT⟩ : ∃ T, b - a = T := ⟨_, rfl⟩
  have e1 : IntKind.i64.wrap ((a : Int) + 1) = (a1 : Int) := by rw [IntWalk.i64_in _ (by omega)]; omega
  have e2 : IntKind.i64.wrap ((b : Int) - (a : Int)) = (T : Int) := by rw [IntWalk.i64_in _ (by omega)]; omega
  have HQ : Hid (a < b ∧ b ≤ L ∧ L < 1000000 ∧ d.size = L ∧ a + 1 = a1 ∧ b - a = T) := Lib.hid ⟨hab, hb, hsz, hL, ha1, hT⟩
  have HP : Hid (partialInsertionSort ltInt d a b = partialIns ltInt a b 5 a1 d) := Lib.hid (by rw [← ha1]; rfl)
  have HCELL : Hid (∀ (dk : Array Int) (w1 : World), dk.size = L → RowS w blk off dk w1 → ∀ t, t < L → w1.cell? ⟨blk, off + t, none⟩ = some (.int .u64 dk[t]!) ∧ w1.frozen? ⟨blk, off + t, none⟩ = false) := Lib.hid fun dk w1 hs hr t ht => (hr.holds hH (by omega)) t (by omega)
  clear hL hH hab hb hsz ha1 hT
  go_enter Tryd.func55, Tryd.ntmps55
  go_wp2
  go_loopw [7, 8] (fun v7 v8 wr => ∃ (i n s : Nat) (dk : Array Int), v7 = .int .i64 i ∧ v8 = .int .i64 n ∧ n + s = 5 ∧ a1 ≤ i ∧ i ≤ b ∧ dk.size = L ∧ Hid (RowS w blk off dk wr) ∧ Hid (partialIns ltInt a b s i dk = partialIns ltInt a b 5 a1 d)) (fun _ v8 _ => 5 - (intOf v8).toNat)
  case atStart => exact ⟨a1, 0, 5, d, rfl, rfl, rfl, Nat.le_refl _, by have := HQ.out; omega, HQ.out.2.2.2.1, Lib.hid ⟨0, (putRow_self _ _ _ _ _ HH.out).symm⟩, Lib.hid rfl⟩
  case round =>
    obtain ⟨i, n, s, dk, rfl, rfl, hns, hi0, hi1, hsk, HR, HO⟩ := hrel
    cases s with
    | zero =>
      obtain rfl : n = 5 := by omega
      go_wp2
      exact bodyPost_ret (results_tmp rfl _ _ _) rfl ⟨false, dk, rfl, by rw [HP.out, ← HO.out]; rfl, HR.out⟩
    | succ s =>
      have hn5 : n < 5 := by omega
      have hd5 : decide ((n : Int) < 5) = true := decide_eq_true (by omega)
      have hn1 : IntKind.i64.wrap ((n : Int) + 1) = ((n + 1 : Nat) : Int) := by rw [IntWalk.i64_in _ (by omega)]; omega
      go_wp2_with fail
      obtain ⟨wo, hwo⟩ : ∃ x, x = wr := ⟨_, rfl⟩
      subst hwo
      go_loopw [7] (fun v wr => ∃ k : Nat, v = .int .i64 k ∧ i ≤ k ∧ k ≤ b ∧ Hid (RowS w blk off dk wr) ∧ Hid (scanSorted ltInt dk b k = scanSorted ltInt dk b i)) (fun v _ => b - (intOf v).toNat)
      case atStart => exact ⟨i, rfl, Nat.le_refl _, hi1, HR, Lib.hid rfl⟩
      case round =>
        obtain ⟨k, rfl, hik, hkb, HR2, HSC⟩ := hrel
        by_cases hk : k < b
        · have hdk : decide ((k : Int) < (b : Int)) = true := decide_eq_true (by omega)
          have hkL : k < L := by have := HQ.out; omega
          obtain ⟨p, hp⟩ : ∃ p, k - 1 = p := ⟨_, rfl⟩
          have hpk : p + 1 = k := by have := HQ.out; omega
          have ep : IntKind.i64.wrap ((k : Int) - 1) = (p : Int) := by rw [IntWalk.i64_in _ (by have := HQ.out; omega)]; omega
          have ek : IntKind.i64.wrap ((k : Int) + 1) = ((k + 1 : Nat) : Int) := by rw [IntWalk.i64_in _ (by have := HQ.out; omega)]; omega
          obtain ⟨V, hV⟩ : ∃ V : Nat → Int, ∀ t, V t = dk[t]! := ⟨fun t => dk[t]!, fun _ => rfl⟩
          have HV := Lib.hid hV
          have hpL : p < L := by omega
          obtain ⟨q1, f1⟩ := HCELL.out dk wr hsk HR2.out k hkL
          obtain ⟨q2, f2⟩ := HCELL.out dk wr hsk HR2.out p hpL
          rw [← hV] at q1 q2
          have l1 : (k : Int) < (L : Int) := by omega
          have l2 : (p : Int) < (L : Int) := by omega
          have HPK : Hid (k - 1 = p ∧ p + 1 = k ∧ k < L ∧ p < L) := Lib.hid ⟨hp, hpk, hkL, hpL⟩
          clear hV hp hpk hkL hpL
          go_wp2_with fail
          go_quiet (first | (go_at_call 56; refine Calls.quiet_of_same (less_any _ _ _)))
          cases hl : ltInt (V k) (V p) with
          | false =>
            have HE : Hid (scanSorted ltInt dk b (k + 1) = scanSorted ltInt dk b i) := Lib.hid (by rw [← HSC.out]; exact (scs_step ltInt hk (by rw [HPK.out.1, ← HV.out, ← HV.out]; exact hl)).symm)
            clear hl
            go_wp2
            go_roundw
            case rel => exact ⟨k + 1, by go_num, by omega, by omega, Lib.hid (HR2.out.drew _), HE⟩
            case measure => simp [intOf]; omega
          | true =>
            have HE : Hid (scanSorted ltInt dk b i = k) := Lib.hid (by rw [← HSC.out]; exact scs_stop ltInt (.inr (by rw [HPK.out.1, ← HV.out, ← HV.out]; exact hl)))
            clear hl
            have z1 : (wr.drewN nq).cell? ⟨blk, off + k, none⟩ = some (.int .u64 (V k)) := q1
            have z2 : (wr.drewN nq).cell? ⟨blk, off + p, none⟩ = some (.int .u64 (V p)) := q2
            have y1 : (wr.drewN nq).frozen? ⟨blk, off + k, none⟩ = false := f1
            have y2 : (wr.drewN nq).frozen? ⟨blk, off + p, none⟩ = false := f2
            have HRq : Hid (RowS w blk off dk (wr.drewN nq)) := Lib.hid (HR2.out.drew nq)
            clear q1 q2 f1 f2
            generalize wr.drewN nq = wq at z1 z2 y1 y2 HRq ⊢
            have hkn : k ≠ b := by omega
            have hkn1 : decide ((k : Int) = (b : Int)) = false := decide_eq_false (by omega)
            have hkn2 : decide (k = b) = false := decide_eq_false hkn
            by_cases h50 : T < 50
            · have hdT : decide ((T : Int) < 50) = true := decide_eq_true (by omega)
              have hdU : decide (T < 50) = true := decide_eq_true h50
              have HEND : Hid (partialInsertionSort ltInt d a b = (dk, false)) := Lib.hid (by rw [HP.out, ← HO.out]; exact pin_short ltInt HE.out (by omega) (by have := HQ.out; omega))
              go_wp2
              exact bodyPost_ret (results_tmp rfl _ _ _) rfl ⟨false, dk, rfl, HEND.out, HRq.out⟩
            · have hdT : decide ((T : Int) < 50) = false := decide_eq_false (by omega)
              have hdU : decide (T < 50) = false := decide_eq_false h50
              have HST : Hid (∀ d3 d4 : Array Int, (d3 = if 2 ≤ k - a then shiftDown ltInt (k - 1) (swp dk k (k - 1)) else swp dk k (k - 1)) → (d4 = if 2 ≤ b - k then shiftUp ltInt b (k + 1) d3 else d3) → partialIns ltInt a b s k d4 = partialIns ltInt a b 5 a1 d) := Lib.hid (fun d3 d4 h3 h4 => by rw [← HO.out]; exact (pin_step ltInt HE.out (by omega) (by have := HQ.out; omega) h3 h4).symm)
              have hkp : k ≠ p := by have := HPK.out; omega
              have hpk2 : p ≠ k := by have := HPK.out; omega
              obtain ⟨U, hU⟩ : ∃ U, k - a = U := ⟨_, rfl⟩
              obtain ⟨X, hX⟩ : ∃ X, b - k = X := ⟨_, rfl⟩
              have eU : IntKind.i64.wrap ((k : Int) - (a : Int)) = (U : Int) := by rw [IntWalk.i64_in _ (by have := HQ.out; omega)]; have := HQ.out; omega
              have eX : IntKind.i64.wrap ((b : Int) - (k : Int)) = (X : Int) := by rw [IntWalk.i64_in _ (by have := HQ.out; omega)]; omega
              have HSW : Hid (∀ W, W = ((wq.drewN 1).setCell ⟨blk, off + k, none⟩ (.int .u64 (V p))).setCell ⟨blk, off + p, none⟩ (.int .u64 (V k)) → RowS w blk off (swp dk k p) W) := Lib.hid fun W hW => by
                rw [hW]; simp only [HV.out]; exact (HRq.out.drew 1).swap (j := k) (k := p) (by have := HPK.out; omega) (by have := HPK.out; omega)
              by_cases h2 : 2 ≤ U
              · by_cases h3 : 2 ≤ X
                · have H2 : Hid (2 ≤ k - a) := Lib.hid (by omega)
                  have hd2 : decide ((2 : Int) ≤ (U : Int)) = true := decide_eq_true (by omega)
                  have H3 : Hid (2 ≤ b - k) := Lib.hid (by omega)
                  have hd3 : decide ((2 : Int) ≤ (X : Int)) = true := decide_eq_true (by omega)
                  clear hU hX
                  go_wp2_with fail
                  go_region
                  all_goals go_wp2_with fail
                  obtain ⟨wo3, hwo3⟩ : ∃ x, x = wq := ⟨_, rfl⟩
                  go_loopw [9] (fun v wr => ∃ (j : Nat) (dj : Array Int), v = .int .i64 j ∧ j ≤ p ∧ dj.size = L ∧ Hid (RowS w blk off dj wr) ∧ Hid (shiftDown ltInt j dj = shiftDown ltInt p (swp dk k p))) (fun v _ => (intOf v).toNat)
                  case atStart => exact ⟨p, swp dk k p, rfl, Nat.le_refl _, by rw [size_swp]; exact hsk, Lib.hid (HSW.out _ rfl), Lib.hid rfl⟩
                  case round =>
                    obtain ⟨j, dj, rfl, hj0, hsj, HRj, HSD⟩ := hrel
                    clear z1 z2 y1 y2 HRq hwo3 l1 l2
                    by_cases hj1 : 1 ≤ j
                    · have hdj : decide ((1 : Int) ≤ (j : Int)) = true := decide_eq_true (by omega)
                      have hjL : j < L := by have := HPK.out; omega
                      obtain ⟨q, hq⟩ : ∃ q, j - 1 = q := ⟨_, rfl⟩
                      have hqj : q + 1 = j := by omega
                      have hqL : q < L := by omega
                      have eq : IntKind.i64.wrap ((j : Int) - 1) = (q : Int) := by rw [IntWalk.i64_in _ (by have := HQ.out; omega)]; omega
                      obtain ⟨V, hV⟩ : ∃ V : Nat → Int, ∀ t, V t = dj[t]! := ⟨fun t => dj[t]!, fun _ => rfl⟩
                      have HV := Lib.hid hV
                      obtain ⟨q1, f1⟩ := HCELL.out dj wr hsj HRj.out j hjL
                      obtain ⟨q2, f2⟩ := HCELL.out dj wr hsj HRj.out q hqL
                      rw [← hV] at q1 q2
                      have l1 : (j : Int) < (L : Int) := by omega
                      have l2 : (q : Int) < (L : Int) := by omega
                      have hne1 : j ≠ q := by omega
                      have hne2 : q ≠ j := by omega
                      have HQJ : Hid (j - 1 = q ∧ q + 1 = j ∧ j < L ∧ q < L) := Lib.hid ⟨hq, hqj, hjL, hqL⟩
                      clear hV hq hqj hjL hqL
                      go_wp2_with fail
                      go_quiet (first | (go_at_call 56; refine Calls.quiet_of_same (less_any _ _ _)))
                      cases hl : ltInt (V j) (V q) with
                      | false =>
                        have HE3 : Hid (dj = shiftDown ltInt p (swp dk k p)) := Lib.hid (by rw [← HSD.out]; exact (shd_stop ltInt (.inr (by rw [HQJ.out.1, ← HV.out, ← HV.out]; exact hl))).symm)
                        have HRx : Hid (RowS w blk off dj (wr.drewN nq)) := Lib.hid (HRj.out.drew _)
                        clear hl q1 q2 f1 f2
                        generalize wr.drewN nq = wx at HRx ⊢
                        obtain ⟨dx, hdx⟩ : ∃ x, x = dj := ⟨_, rfl⟩
                        subst hdx
                        have hsx := hsj
                        go_wp2_with fail
                        obtain ⟨wo2, hwo2⟩ : ∃ x, x = wx := ⟨_, rfl⟩
                        subst hwo2
                        go_loopw [10] (fun v wr => ∃ (j : Nat) (dj : Array Int), v = .int .i64 j ∧ k + 1 ≤ j ∧ j ≤ b ∧ dj.size = L ∧ Hid (RowS w blk off dj wr) ∧ Hid (shiftUp ltInt b j dj = shiftUp ltInt b (k + 1) (dx))) (fun v _ => b - (intOf v).toNat)
                        case atStart => exact ⟨k + 1, _, by go_num, Nat.le_refl _, by omega, hsx, HRx, Lib.hid rfl⟩
                        case round =>
                          obtain ⟨j, dj, rfl, hj0, hj1, hsj, HRj, HSU⟩ := hrel
                          by_cases hjb : j < b
                          · have hdj : decide ((j : Int) < (b : Int)) = true := decide_eq_true (by omega)
                            have hjL : j < L := by have := HQ.out; omega
                            obtain ⟨q, hq⟩ : ∃ q, j - 1 = q := ⟨_, rfl⟩
                            have hqj : q + 1 = j := by omega
                            have hqL : q < L := by omega
                            have eq : IntKind.i64.wrap ((j : Int) - 1) = (q : Int) := by rw [IntWalk.i64_in _ (by have := HQ.out; omega)]; omega
                            have ej : IntKind.i64.wrap ((j : Int) + 1) = ((j + 1 : Nat) : Int) := by rw [IntWalk.i64_in _ (by have := HQ.out; omega)]; omega
                            obtain ⟨V, hV⟩ : ∃ V : Nat → Int, ∀ t, V t = dj[t]! := ⟨fun t => dj[t]!, fun _ => rfl⟩
                            have HV := Lib.hid hV
                            obtain ⟨q1, f1⟩ := HCELL.out dj wr hsj HRj.out j hjL
                            obtain ⟨q2, f2⟩ := HCELL.out dj wr hsj HRj.out q hqL
                            rw [← hV] at q1 q2
                            have l1 : (j : Int) < (L : Int) := by omega
                            have l2 : (q : Int) < (L : Int) := by omega
                            have hne1 : j ≠ q := by omega
                            have hne2 : q ≠ j := by omega
                            have HQJ : Hid (j - 1 = q ∧ q + 1 = j ∧ j < L ∧ q < L) := Lib.hid ⟨hq, hqj, hjL, hqL⟩
                            clear hV hq hqj hjL hqL
                            go_wp2_with fail
                            go_quiet (first | (go_at_call 56; refine Calls.quiet_of_same (less_any _ _ _)))
                            cases hl : ltInt (V j) (V q) with
                            | false =>
                              have HE : Hid (dj = shiftUp ltInt b (k + 1) (dx)) := Lib.hid (by rw [← HSU.out]; exact (shu_stop ltInt (.inr (by rw [HQJ.out.1, ← HV.out, ← HV.out]; exact hl))).symm)
                              clear hl
                              go_wp2
                              go_roundw
                              case rel => exact ⟨k, n + 1, s, dj, rfl, by go_num, by omega, by have := HPK.out; omega, by omega, hsj, Lib.hid (HRj.out.drew _), Lib.hid (HST.out (dx) _ (by rw [if_pos H2.out, HPK.out.1]; exact HE3.out) (by rw [if_pos H3.out]; exact HE.out))⟩
                              case measure => simp [intOf]; omega
                            | true =>
                              have HE : Hid (shiftUp ltInt b (j + 1) (swp dj j q) = shiftUp ltInt b (k + 1) (dx)) := Lib.hid (by rw [← HSU.out]; have h := shu_step ltInt hjb (d := dj) (by rw [HQJ.out.1, ← HV.out, ← HV.out]; exact hl); rw [HQJ.out.1] at h; exact h.symm)
                              clear hl
                              have z1 : (wr.drewN nq).cell? ⟨blk, off + j, none⟩ = some (.int .u64 (V j)) := q1
                              have z2 : (wr.drewN nq).cell? ⟨blk, off + q, none⟩ = some (.int .u64 (V q)) := q2
                              have y1 : (wr.drewN nq).frozen? ⟨blk, off + j, none⟩ = false := f1
                              have y2 : (wr.drewN nq).frozen? ⟨blk, off + q, none⟩ = false := f2
                              have HRq : Hid (RowS w blk off dj (wr.drewN nq)) := Lib.hid (HRj.out.drew nq)
                              clear q1 q2 f1 f2
                              generalize wr.drewN nq = wq at z1 z2 y1 y2 HRq ⊢
                              go_wp2_with fail
                              go_region
                              all_goals go_wp2_with fail
                              go_roundw
                              case rel =>
                                refine ⟨j + 1, swp dj j q, by go_num, by omega, by omega, by rw [size_swp]; exact hsj, Lib.hid ?_, HE⟩
                                simp only [HV.out]
                                exact (HRq.out.drew 1).swap (j := j) (k := q) (by have := HQJ.out; omega) (by have := HQJ.out; omega)
                              case measure => simp [intOf]; omega
                          · have hdj : decide ((j : Int) < (b : Int)) = false := decide_eq_false (by omega)
                            have HE : Hid (dj = shiftUp ltInt b (k + 1) (dx)) := Lib.hid (by rw [← HSU.out]; exact (shu_stop ltInt (.inl hjb)).symm)
                            go_wp2
                            go_roundw
                            case rel => exact ⟨k, n + 1, s, dj, rfl, by go_num, by omega, by have := HPK.out; omega, by omega, hsj, HRj, Lib.hid (HST.out (dx) _ (by rw [if_pos H2.out, HPK.out.1]; exact HE3.out) (by rw [if_pos H3.out]; exact HE.out))⟩
                            case measure => simp [intOf]; omega
                      | true =>
                        have HE : Hid (shiftDown ltInt q (swp dj j q) = shiftDown ltInt p (swp dk k p)) := Lib.hid (by rw [← HSD.out]; have h := shd_step ltInt hj1 (d := dj) (by rw [HQJ.out.1, ← HV.out, ← HV.out]; exact hl); rw [HQJ.out.1] at h; exact h.symm)
                        clear hl
                        have z1 : (wr.drewN nq).cell? ⟨blk, off + j, none⟩ = some (.int .u64 (V j)) := q1
                        have z2 : (wr.drewN nq).cell? ⟨blk, off + q, none⟩ = some (.int .u64 (V q)) := q2
                        have y1 : (wr.drewN nq).frozen? ⟨blk, off + j, none⟩ = false := f1
                        have y2 : (wr.drewN nq).frozen? ⟨blk, off + q, none⟩ = false := f2
                        have HRq : Hid (RowS w blk off dj (wr.drewN nq)) := Lib.hid (HRj.out.drew nq)
                        clear q1 q2 f1 f2
                        generalize wr.drewN nq = wq at z1 z2 y1 y2 HRq ⊢
                        go_wp2_with fail
                        go_region
                        all_goals go_wp2_with fail
                        go_roundw
                        case rel =>
                          refine ⟨q, swp dj j q, by go_num, by have := HQJ.out; omega, by rw [size_swp]; exact hsj, Lib.hid ?_, HE⟩
                          simp only [HV.out]
                          exact (HRq.out.drew 1).swap (j := j) (k := q) (by have := HQJ.out; omega) (by have := HQJ.out; omega)
                        case measure => have := HQJ.out; simp [intOf]; omega
                    · have hdj : decide ((1 : Int) ≤ (j : Int)) = false := decide_eq_false (by omega)
                      have HE3 : Hid (dj = shiftDown ltInt p (swp dk k p)) := Lib.hid (by rw [← HSD.out]; exact (shd_stop ltInt (.inl hj1)).symm)
                      have HRx : Hid (RowS w blk off dj wr) := HRj
                      obtain ⟨wx, hwx⟩ : ∃ x, x = wr := ⟨_, rfl⟩
                      subst hwx
                      obtain ⟨dx, hdx⟩ : ∃ x, x = dj := ⟨_, rfl⟩
                      subst hdx
                      have hsx := hsj
                      go_wp2_with fail
                      obtain ⟨wo2, hwo2⟩ : ∃ x, x = wx := ⟨_, rfl⟩
                      subst hwo2
                      go_loopw [10] (fun v wr => ∃ (j : Nat) (dj : Array Int), v = .int .i64 j ∧ k + 1 ≤ j ∧ j ≤ b ∧ dj.size = L ∧ Hid (RowS w blk off dj wr) ∧ Hid (shiftUp ltInt b j dj = shiftUp ltInt b (k + 1) (dx))) (fun v _ => b - (intOf v).toNat)
                      case atStart => exact ⟨k + 1, _, by go_num, Nat.le_refl _, by omega, hsx, HRx, Lib.hid rfl⟩
                      case round =>
                        obtain ⟨j, dj, rfl, hj0, hj1, hsj, HRj, HSU⟩ := hrel
                        by_cases hjb : j < b
                        · have hdj : decide ((j : Int) < (b : Int)) = true := decide_eq_true (by omega)
                          have hjL : j < L := by have := HQ.out; omega
                          obtain ⟨q, hq⟩ : ∃ q, j - 1 = q := ⟨_, rfl⟩
                          have hqj : q + 1 = j := by omega
                          have hqL : q < L := by omega
                          have eq : IntKind.i64.wrap ((j : Int) - 1) = (q : Int) := by rw [IntWalk.i64_in _ (by have := HQ.out; omega)]; omega
                          have ej : IntKind.i64.wrap ((j : Int) + 1) = ((j + 1 : Nat) : Int) := by rw [IntWalk.i64_in _ (by have := HQ.out; omega)]; omega
                          obtain ⟨V, hV⟩ : ∃ V : Nat → Int, ∀ t, V t = dj[t]! := ⟨fun t => dj[t]!, fun _ => rfl⟩
                          have HV := Lib.hid hV
                          obtain ⟨q1, f1⟩ := HCELL.out dj wr hsj HRj.out j hjL
                          obtain ⟨q2, f2⟩ := HCELL.out dj wr hsj HRj.out q hqL
                          rw [← hV] at q1 q2
                          have l1 : (j : Int) < (L : Int) := by omega
                          have l2 : (q : Int) < (L : Int) := by omega
                          have hne1 : j ≠ q := by omega
                          have hne2 : q ≠ j := by omega
                          have HQJ : Hid (j - 1 = q ∧ q + 1 = j ∧ j < L ∧ q < L) := Lib.hid ⟨hq, hqj, hjL, hqL⟩
                          clear hV hq hqj hjL hqL
                          go_wp2_with fail
                          go_quiet (first | (go_at_call 56; refine Calls.quiet_of_same (less_any _ _ _)))
                          cases hl : ltInt (V j) (V q) with
                          | false =>
                            have HE : Hid (dj = shiftUp ltInt b (k + 1) (dx)) := Lib.hid (by rw [← HSU.out]; exact (shu_stop ltInt (.inr (by rw [HQJ.out.1, ← HV.out, ← HV.out]; exact hl))).symm)
                            clear hl
                            go_wp2
                            go_roundw
                            case rel => exact ⟨k, n + 1, s, dj, rfl, by go_num, by omega, by have := HPK.out; omega, by omega, hsj, Lib.hid (HRj.out.drew _), Lib.hid (HST.out (dx) _ (by rw [if_pos H2.out, HPK.out.1]; exact HE3.out) (by rw [if_pos H3.out]; exact HE.out))⟩
                            case measure => simp [intOf]; omega
                          | true =>
                            have HE : Hid (shiftUp ltInt b (j + 1) (swp dj j q) = shiftUp ltInt b (k + 1) (dx)) := Lib.hid (by rw [← HSU.out]; have h := shu_step ltInt hjb (d := dj) (by rw [HQJ.out.1, ← HV.out, ← HV.out]; exact hl); rw [HQJ.out.1] at h; exact h.symm)
                            clear hl
                            have z1 : (wr.drewN nq).cell? ⟨blk, off + j, none⟩ = some (.int .u64 (V j)) := q1
                            have z2 : (wr.drewN nq).cell? ⟨blk, off + q, none⟩ = some (.int .u64 (V q)) := q2
                            have y1 : (wr.drewN nq).frozen? ⟨blk, off + j, none⟩ = false := f1
                            have y2 : (wr.drewN nq).frozen? ⟨blk, off + q, none⟩ = false := f2
                            have HRq : Hid (RowS w blk off dj (wr.drewN nq)) := Lib.hid (HRj.out.drew nq)
                            clear q1 q2 f1 f2
                            generalize wr.drewN nq = wq at z1 z2 y1 y2 HRq ⊢
                            go_wp2_with fail
                            go_region
                            all_goals go_wp2_with fail
                            go_roundw
                            case rel =>
                              refine ⟨j + 1, swp dj j q, by go_num, by omega, by omega, by rw [size_swp]; exact hsj, Lib.hid ?_, HE⟩
                              simp only [HV.out]
                              exact (HRq.out.drew 1).swap (j := j) (k := q) (by have := HQJ.out; omega) (by have := HQJ.out; omega)
                            case measure => simp [intOf]; omega
                        · have hdj : decide ((j : Int) < (b : Int)) = false := decide_eq_false (by omega)
                          have HE : Hid (dj = shiftUp ltInt b (k + 1) (dx)) := Lib.hid (by rw [← HSU.out]; exact (shu_stop ltInt (.inl hjb)).symm)
                          go_wp2
                          go_roundw
                          case rel => exact ⟨k, n + 1, s, dj, rfl, by go_num, by omega, by have := HPK.out; omega, by omega, hsj, HRj, Lib.hid (HST.out (dx) _ (by rw [if_pos H2.out, HPK.out.1]; exact HE3.out) (by rw [if_pos H3.out]; exact HE.out))⟩
                          case measure => simp [intOf]; omega
                · have H2 : Hid (2 ≤ k - a) := Lib.hid (by omega)
                  have hd2 : decide ((2 : Int) ≤ (U : Int)) = true := decide_eq_true (by omega)
                  have H3 : Hid (¬ 2 ≤ b - k) := Lib.hid (by omega)
                  have hd3 : decide ((2 : Int) ≤ (X : Int)) = false := decide_eq_false (by omega)
                  clear hU hX
                  go_wp2_with fail
                  go_region
                  all_goals go_wp2_with fail
                  obtain ⟨wo3, hwo3⟩ : ∃ x, x = wq := ⟨_, rfl⟩
                  go_loopw [9] (fun v wr => ∃ (j : Nat) (dj : Array Int), v = .int .i64 j ∧ j ≤ p ∧ dj.size = L ∧ Hid (RowS w blk off dj wr) ∧ Hid (shiftDown ltInt j dj = shiftDown ltInt p (swp dk k p))) (fun v _ => (intOf v).toNat)
                  case atStart => exact ⟨p, swp dk k p, rfl, Nat.le_refl _, by rw [size_swp]; exact hsk, Lib.hid (HSW.out _ rfl), Lib.hid rfl⟩
                  case round =>
                    obtain ⟨j, dj, rfl, hj0, hsj, HRj, HSD⟩ := hrel
                    clear z1 z2 y1 y2 HRq hwo3 l1 l2
                    by_cases hj1 : 1 ≤ j
                    · have hdj : decide ((1 : Int) ≤ (j : Int)) = true := decide_eq_true (by omega)
                      have hjL : j < L := by have := HPK.out; omega
                      obtain ⟨q, hq⟩ : ∃ q, j - 1 = q := ⟨_, rfl⟩
                      have hqj : q + 1 = j := by omega
                      have hqL : q < L := by omega
                      have eq : IntKind.i64.wrap ((j : Int) - 1) = (q : Int) := by rw [IntWalk.i64_in _ (by have := HQ.out; omega)]; omega
                      obtain ⟨V, hV⟩ : ∃ V : Nat → Int, ∀ t, V t = dj[t]! := ⟨fun t => dj[t]!, fun _ => rfl⟩
                      have HV := Lib.hid hV
                      obtain ⟨q1, f1⟩ := HCELL.out dj wr hsj HRj.out j hjL
                      obtain ⟨q2, f2⟩ := HCELL.out dj wr hsj HRj.out q hqL
                      rw [← hV] at q1 q2
                      have l1 : (j : Int) < (L : Int) := by omega
                      have l2 : (q : Int) < (L : Int) := by omega
                      have hne1 : j ≠ q := by omega
                      have hne2 : q ≠ j := by omega
                      have HQJ : Hid (j - 1 = q ∧ q + 1 = j ∧ j < L ∧ q < L) := Lib.hid ⟨hq, hqj, hjL, hqL⟩
                      clear hV hq hqj hjL hqL
                      go_wp2_with fail
                      go_quiet (first | (go_at_call 56; refine Calls.quiet_of_same (less_any _ _ _)))
                      cases hl : ltInt (V j) (V q) with
                      | false =>
                        have HE3 : Hid (dj = shiftDown ltInt p (swp dk k p)) := Lib.hid (by rw [← HSD.out]; exact (shd_stop ltInt (.inr (by rw [HQJ.out.1, ← HV.out, ← HV.out]; exact hl))).symm)
                        have HRx : Hid (RowS w blk off dj (wr.drewN nq)) := Lib.hid (HRj.out.drew _)
                        clear hl q1 q2 f1 f2
                        generalize wr.drewN nq = wx at HRx ⊢
                        go_wp2
                        go_roundw
                        case rel => exact ⟨k, n + 1, s, dj, rfl, by go_num, by omega, by have := HPK.out; omega, by omega, hsj, HRx, Lib.hid (HST.out (dj) _ (by rw [if_pos H2.out, HPK.out.1]; exact HE3.out) (by rw [if_neg H3.out]))⟩
                        case measure => simp [intOf]; omega
                      | true =>
                        have HE : Hid (shiftDown ltInt q (swp dj j q) = shiftDown ltInt p (swp dk k p)) := Lib.hid (by rw [← HSD.out]; have h := shd_step ltInt hj1 (d := dj) (by rw [HQJ.out.1, ← HV.out, ← HV.out]; exact hl); rw [HQJ.out.1] at h; exact h.symm)
                        clear hl
                        have z1 : (wr.drewN nq).cell? ⟨blk, off + j, none⟩ = some (.int .u64 (V j)) := q1
                        have z2 : (wr.drewN nq).cell? ⟨blk, off + q, none⟩ = some (.int .u64 (V q)) := q2
                        have y1 : (wr.drewN nq).frozen? ⟨blk, off + j, none⟩ = false := f1
                        have y2 : (wr.drewN nq).frozen? ⟨blk, off + q, none⟩ = false := f2
                        have HRq : Hid (RowS w blk off dj (wr.drewN nq)) := Lib.hid (HRj.out.drew nq)
                        clear q1 q2 f1 f2
                        generalize wr.drewN nq = wq at z1 z2 y1 y2 HRq ⊢
                        go_wp2_with fail
                        go_region
                        all_goals go_wp2_with fail
                        go_roundw
                        case rel =>
                          refine ⟨q, swp dj j q, by go_num, by have := HQJ.out; omega, by rw [size_swp]; exact hsj, Lib.hid ?_, HE⟩
                          simp only [HV.out]
                          exact (HRq.out.drew 1).swap (j := j) (k := q) (by have := HQJ.out; omega) (by have := HQJ.out; omega)
                        case measure => have := HQJ.out; simp [intOf]; omega
                    · have hdj : decide ((1 : Int) ≤ (j : Int)) = false := decide_eq_false (by omega)
                      have HE3 : Hid (dj = shiftDown ltInt p (swp dk k p)) := Lib.hid (by rw [← HSD.out]; exact (shd_stop ltInt (.inl hj1)).symm)
                      have HRx : Hid (RowS w blk off dj wr) := HRj
                      obtain ⟨wx, hwx⟩ : ∃ x, x = wr := ⟨_, rfl⟩
                      subst hwx
                      go_wp2
                      go_roundw
                      case rel => exact ⟨k, n + 1, s, dj, rfl, by go_num, by omega, by have := HPK.out; omega, by omega, hsj, HRx, Lib.hid (HST.out (dj) _ (by rw [if_pos H2.out, HPK.out.1]; exact HE3.out) (by rw [if_neg H3.out]))⟩
                      case measure => simp [intOf]; omega
              · by_cases h3 : 2 ≤ X
                · have H2 : Hid (¬ 2 ≤ k - a) := Lib.hid (by omega)
                  have hd2 : decide ((2 : Int) ≤ (U : Int)) = false := decide_eq_false (by omega)
                  have H3 : Hid (2 ≤ b - k) := Lib.hid (by omega)
                  have hd3 : decide ((2 : Int) ≤ (X : Int)) = true := decide_eq_true (by omega)
                  clear hU hX
                  go_wp2_with fail
                  go_region
                  all_goals go_wp2_with fail
                  obtain ⟨wo2, hwo2⟩ : ∃ x, x = wq := ⟨_, rfl⟩
                  go_loopw [10] (fun v wr => ∃ (j : Nat) (dj : Array Int), v = .int .i64 j ∧ k + 1 ≤ j ∧ j ≤ b ∧ dj.size = L ∧ Hid (RowS w blk off dj wr) ∧ Hid (shiftUp ltInt b j dj = shiftUp ltInt b (k + 1) (swp dk k p))) (fun v _ => b - (intOf v).toNat)
                  case atStart => exact ⟨k + 1, _, by go_num, Nat.le_refl _, by omega, by rw [size_swp]; exact hsk, Lib.hid (HSW.out _ rfl), Lib.hid rfl⟩
                  case round =>
                    obtain ⟨j, dj, rfl, hj0, hj1, hsj, HRj, HSU⟩ := hrel
                    by_cases hjb : j < b
                    · have hdj : decide ((j : Int) < (b : Int)) = true := decide_eq_true (by omega)
                      have hjL : j < L := by have := HQ.out; omega
                      obtain ⟨q, hq⟩ : ∃ q, j - 1 = q := ⟨_, rfl⟩
                      have hqj : q + 1 = j := by omega
                      have hqL : q < L := by omega
                      have eq : IntKind.i64.wrap ((j : Int) - 1) = (q : Int) := by rw [IntWalk.i64_in _ (by have := HQ.out; omega)]; omega
                      have ej : IntKind.i64.wrap ((j : Int) + 1) = ((j + 1 : Nat) : Int) := by rw [IntWalk.i64_in _ (by have := HQ.out; omega)]; omega
                      clear z1 z2 y1 y2 HRq HSW l1 l2 hwo2
                      obtain ⟨V, hV⟩ : ∃ V : Nat → Int, ∀ t, V t = dj[t]! := ⟨fun t => dj[t]!, fun _ => rfl⟩
                      have HV := Lib.hid hV
                      obtain ⟨q1, f1⟩ := HCELL.out dj wr hsj HRj.out j hjL
                      obtain ⟨q2, f2⟩ := HCELL.out dj wr hsj HRj.out q hqL
                      rw [← hV] at q1 q2
                      have l1 : (j : Int) < (L : Int) := by omega
                      have l2 : (q : Int) < (L : Int) := by omega
                      have hne1 : j ≠ q := by omega
                      have hne2 : q ≠ j := by omega
                      have HQJ : Hid (j - 1 = q ∧ q + 1 = j ∧ j < L ∧ q < L) := Lib.hid ⟨hq, hqj, hjL, hqL⟩
                      clear hV hq hqj hjL hqL
                      go_wp2_with fail
                      go_quiet (first | (go_at_call 56; refine Calls.quiet_of_same (less_any _ _ _)))
                      cases hl : ltInt (V j) (V q) with
                      | false =>
                        have HE : Hid (dj = shiftUp ltInt b (k + 1) (swp dk k p)) := Lib.hid (by rw [← HSU.out]; exact (shu_stop ltInt (.inr (by rw [HQJ.out.1, ← HV.out, ← HV.out]; exact hl))).symm)
                        clear hl
                        go_wp2
                        go_roundw
                        case rel => exact ⟨k, n + 1, s, dj, rfl, by go_num, by omega, by have := HPK.out; omega, by omega, hsj, Lib.hid (HRj.out.drew _), Lib.hid (HST.out (swp dk k p) _ (by rw [if_neg H2.out, HPK.out.1]) (by rw [if_pos H3.out]; exact HE.out))⟩
                        case measure => simp [intOf]; omega
                      | true =>
                        have HE : Hid (shiftUp ltInt b (j + 1) (swp dj j q) = shiftUp ltInt b (k + 1) (swp dk k p)) := Lib.hid (by rw [← HSU.out]; have h := shu_step ltInt hjb (d := dj) (by rw [HQJ.out.1, ← HV.out, ← HV.out]; exact hl); rw [HQJ.out.1] at h; exact h.symm)
                        clear hl
                        have z1 : (wr.drewN nq).cell? ⟨blk, off + j, none⟩ = some (.int .u64 (V j)) := q1
                        have z2 : (wr.drewN nq).cell? ⟨blk, off + q, none⟩ = some (.int .u64 (V q)) := q2
                        have y1 : (wr.drewN nq).frozen? ⟨blk, off + j, none⟩ = false := f1
                        have y2 : (wr.drewN nq).frozen? ⟨blk, off + q, none⟩ = false := f2
                        have HRq : Hid (RowS w blk off dj (wr.drewN nq)) := Lib.hid (HRj.out.drew nq)
                        clear q1 q2 f1 f2
                        generalize wr.drewN nq = wq at z1 z2 y1 y2 HRq ⊢
                        go_wp2_with fail
                        go_region
                        all_goals go_wp2_with fail
                        go_roundw
                        case rel =>
                          refine ⟨j + 1, swp dj j q, by go_num, by omega, by omega, by rw [size_swp]; exact hsj, Lib.hid ?_, HE⟩
                          simp only [HV.out]
                          exact (HRq.out.drew 1).swap (j := j) (k := q) (by have := HQJ.out; omega) (by have := HQJ.out; omega)
                        case measure => simp [intOf]; omega
                    · have hdj : decide ((j : Int) < (b : Int)) = false := decide_eq_false (by omega)
                      have HE : Hid (dj = shiftUp ltInt b (k + 1) (swp dk k p)) := Lib.hid (by rw [← HSU.out]; exact (shu_stop ltInt (.inl hjb)).symm)
                      go_wp2
                      go_roundw
                      case rel => exact ⟨k, n + 1, s, dj, rfl, by go_num, by omega, by have := HPK.out; omega, by omega, hsj, HRj, Lib.hid (HST.out (swp dk k p) _ (by rw [if_neg H2.out, HPK.out.1]) (by rw [if_pos H3.out]; exact HE.out))⟩
                      case measure => simp [intOf]; omega
                · have H2 : Hid (¬ 2 ≤ k - a) := Lib.hid (by omega)
                  have hd2 : decide ((2 : Int) ≤ (U : Int)) = false := decide_eq_false (by omega)
                  have H3 : Hid (¬ 2 ≤ b - k) := Lib.hid (by omega)
                  have hd3 : decide ((2 : Int) ≤ (X : Int)) = false := decide_eq_false (by omega)
                  clear hU hX
                  go_wp2_with fail
                  go_region
                  all_goals go_wp2_with fail
                  go_roundw
                  case rel => exact ⟨k, n + 1, s, swp dk k p, rfl, by go_num, by omega, by have := HPK.out; omega, by omega, by rw [size_swp]; exact hsk, Lib.hid (HSW.out _ rfl), Lib.hid (HST.out (swp dk k p) _ (by rw [if_neg H2.out, HPK.out.1]) (by rw [if_neg H3.out]))⟩
                  case measure => simp [intOf]; omega
        · have hdk : decide ((k : Int) < (b : Int)) = false := decide_eq_false (by omega)
          obtain rfl : k = b := by omega
          have HE : Hid (scanSorted ltInt dk k i = k) := Lib.hid (by rw [← HSC.out]; exact scs_stop ltInt (.inl hk))
          have HEND : Hid (partialInsertionSort ltInt d a k = (dk, true)) := Lib.hid (by rw [HP.out, ← HO.out]; exact pin_end ltInt HE.out)
          go_wp2_with fail
          go_quiet (first | (go_at_call 56; refine Calls.quiet_of_same (less_any _ _ _)))
          go_wp2
          exact bodyPost_ret (results_tmp rfl _ _ _) rfl ⟨true, dk, rfl, HEND.out, HR2.out.drew _⟩
end Go.Proofs.YtfcabdgidlnljaaDoor
namespace Go.Proofs.YtfcabdgidlnljaaDoor
open Go.RowKit Go.Sort
set_option linter.unusedVariables false
set_option linter.unusedSimpArgs false
set_option maxRecDepth 100000
theorem scu_step {p : Int → Bool} {d : Array Int} {j k : Nat} (h : k ≤ j) (hp : p d[k]! = true) : scanUp p d j k = scanUp p d j (k + 1) := by
  conv => lhs; rw [scanUp]
  rw [if_pos (by simp [h, hp])]
theorem scu_stop {p : Int → Bool} {d : Array Int} {j k : Nat} (h : ¬ k ≤ j ∨ p d[k]! = false) : scanUp p d j k = k := by
  rw [scanUp, if_neg]
  simp only [Bool.and_eq_true, decide_eq_true_eq]
  rintro ⟨h1, h2⟩
  rcases h with h | h
  · exact h h1
  · rw [h] at h2; cases h2
theorem scd_step {q : Int → Bool} {d : Array Int} {i m : Nat} (h1 : 1 ≤ i) (h : i ≤ m) (hq : q d[m]! = true) : scanDown q d i m = scanDown q d i (m - 1) := by
  cases m with
  | zero => omega
  | succ n => rw [scanDown, if_pos (by simp [h, hq])]; rfl
theorem scd_stop {q : Int → Bool} {d : Array Int} {i m : Nat} (h : ¬ i ≤ m ∨ q d[m]! = false) : scanDown q d i m = m := by
  cases m with
  | zero => rfl
  | succ n =>
    rw [scanDown, if_neg]
    simp only [Bool.and_eq_true, decide_eq_true_eq]
    rintro ⟨h1, h2⟩
    rcases h with h | h
    · exact h h1
    · rw [h] at h2; cases h2
/-- What partitionEqual leaves. -/
def PeqR (w : World) (blk off : Nat) (d : Array Int) (a b pv : Nat) (e : Ending) (w' : World) : Prop := ∃ (mid : Nat) (d' : Array Int), e = .returned (.int .i64 mid) ∧ partitionEqual ltInt d a b pv = (mid, d') ∧ RowS w blk off d' w'
set_option maxHeartbeats 8000000 in
theorem parteq_any {blk off cap L a b pv : Nat} {d : Array Int} {w : World} (hL : d.size = L) (hH : Holds eU w blk off d) (hab : a + 2 < b) (hb : b ≤ L) (hsz : L < 1000000) (hp0 : a ≤ pv) (hp1 : pv < b) :
    Calls Tryd.prog 57 #[.slice (some ⟨blk, off, none⟩) L cap, .int .i64 a, .int .i64 b, .int .i64 pv] w (PeqR w blk off d a b pv) := by
  have HH := Lib.hid hH
  obtain ⟨a1, ha1⟩ : ∃ a1, a + 1 = a1 := ⟨_, rfl⟩
  obtain ⟨b1, hb1⟩ : ∃ b1, b - 1 = b1 := ⟨_, rfl⟩
  have e1 : IntKind.i64.wrap ((a : Int) + 1) = (a1 : Int) := by rw [IntWalk.i64_in _ (by omega)]; omega
  have e2 : IntKind.i64.wrap ((b : Int) - 1) = (b1 : Int) := by rw [IntWalk.i64_in _ (by omega)]; omega
  obtain ⟨d1, hd1⟩ : ∃ d1, swp d a pv = d1 := ⟨_, rfl⟩
  have HP : Hid (partitionEqual ltInt d a b pv = partEqLoop ltInt a a1 b1 d1) := Lib.hid (by rw [← ha1, ← hb1, ← hd1]; rfl)
  have HCELL : Hid (∀ (dk : Array Int) (w1 : World), dk.size = L → RowS w blk off dk w1 → ∀ t, t < L → w1.cell? ⟨blk, off + t, none⟩ = some (.int .u64 dk[t]!) ∧ w1.frozen? ⟨blk, off + t, none⟩ = false) := Lib.hid fun dk w1 hs hr t ht => (hr.holds hH (by omega)) t (by omega)
  have haL : a < L := by omega
  have hpL : pv < L := by omega
  obtain ⟨V, hV⟩ : ∃ V : Nat → Int, ∀ t, V t = d[t]! := ⟨fun t => d[t]!, fun _ => rfl⟩
  have hR0 : RowS w blk off d w := ⟨0, (putRow_self _ _ _ _ _ hH).symm⟩
  obtain ⟨q1, f1⟩ := HCELL.out d w hL hR0 a haL
  obtain ⟨q2, f2⟩ := HCELL.out d w hL hR0 pv hpL
  rw [← hV] at q1 q2
  have l1 : (a : Int) < (L : Int) := by omega
  have l2 : (pv : Int) < (L : Int) := by omega
  have HSW : Hid (∀ W, W = ((w.drewN 1).setCell ⟨blk, off + a, none⟩ (.int .u64 (V pv))).setCell ⟨blk, off + pv, none⟩ (.int .u64 (V a)) → RowS w blk off d1 W) := Lib.hid fun W hW => by
    rw [hW, hV, hV, ← hd1]; exact (hR0.drew 1).swap (j := a) (k := pv) (by omega) (by omega)
  have HQ : Hid (a + 2 < b ∧ b ≤ L ∧ L < 1000000 ∧ d1.size = L ∧ a + 1 = a1 ∧ b - 1 = b1) := Lib.hid ⟨hab, hb, hsz, by rw [← hd1, size_swp]; exact hL, ha1, hb1⟩
  have LA := Lib.hid l1
  clear hL hH hab hb hsz ha1 hb1 hd1 hp0 hp1 hV hR0 hpL
  have hcc : a = pv ∨ a ≠ pv := by omega
  rcases hcc with hcc | hne
  · subst hcc
    go_enter Tryd.func57, Tryd.ntmps57
    go_wp2_with fail
    go_region
    all_goals go_wp2_with fail
    have HR1 : Hid (RowS w blk off d1 ((w.setCell ⟨blk, off + a, none⟩ (.int .u64 (V a))).setCell ⟨blk, off + a, none⟩ (.int .u64 (V a))).drew) := Lib.hid (HSW.out _ rfl)
    generalize ((w.setCell ⟨blk, off + a, none⟩ (.int .u64 (V a))).setCell ⟨blk, off + a, none⟩ (.int .u64 (V a))).drew = w1 at HR1 ⊢
    clear q1 q2 f1 f2 l2 HSW
    go_loopw [9, 10] (fun v9 v10 wr => ∃ (i j : Nat) (dk : Array Int), v9 = .int .i64 i ∧ v10 = .int .i64 j ∧ a < i ∧ i ≤ j + 2 ∧ j < b ∧ dk.size = L ∧ Hid (RowS w blk off dk wr) ∧ Hid (partEqLoop ltInt a i j dk = partEqLoop ltInt a a1 b1 d1)) (fun v9 v10 _ => (intOf v10).toNat + 1 - (intOf v9).toNat)
    case atStart => exact ⟨a1, b1, d1, rfl, rfl, by have := HQ.out; omega, by have := HQ.out; omega, by have := HQ.out; omega, HQ.out.2.2.2.1, HR1, Lib.hid rfl⟩
    case round =>
      obtain ⟨i, j, dk, rfl, rfl, hi0, hij, hjb, hsk, HR, HO⟩ := hrel
      go_wp2_with fail
      obtain ⟨V, hV⟩ : ∃ V : Nat → Int, ∀ t, V t = dk[t]! := ⟨fun t => dk[t]!, fun _ => rfl⟩
      have HV := Lib.hid hV
      clear hV
      obtain ⟨wo, hwo⟩ : ∃ x, x = wr := ⟨_, rfl⟩
      subst hwo
      go_loopw [9] (fun v wr => ∃ k : Nat, v = .int .i64 k ∧ i ≤ k ∧ Hid (RowS w blk off dk wr) ∧ Hid (scanUp (fun x => !ltInt dk[a]! x) dk j k = scanUp (fun x => !ltInt dk[a]! x) dk j i)) (fun v _ => j + 1 - (intOf v).toNat)
      case atStart => exact ⟨i, rfl, Nat.le_refl _, HR, Lib.hid rfl⟩
      case round =>
        obtain ⟨k, rfl, hik, HRk, HSU⟩ := hrel
        by_cases hk : k ≤ j
        · have hdk : decide ((k : Int) ≤ (j : Int)) = true := decide_eq_true (by omega)
          have hdkn : decide (k ≤ j) = true := decide_eq_true hk
          have hk1 : IntKind.i64.wrap ((k : Int) + 1) = ((k + 1 : Nat) : Int) := by rw [IntWalk.i64_in _ (by have := HQ.out; omega)]; omega
          have hkL : k < L := by have := HQ.out; omega
          obtain ⟨qa, fa⟩ := HCELL.out dk wr hsk HRk.out a haL
          obtain ⟨qk, fk⟩ := HCELL.out dk wr hsk HRk.out k hkL
          rw [← HV.out] at qa qk
          have lk : (k : Int) < (L : Int) := by omega
          go_wp2_with fail
          go_quiet (first | (go_at_call 56; refine Calls.quiet_of_same (less_any _ _ _)))
          cases hl : ltInt (V a) (V k) with
          | false =>
            have HE : Hid (scanUp (fun x => !ltInt dk[a]! x) dk j (k + 1) = scanUp (fun x => !ltInt dk[a]! x) dk j i) := Lib.hid (by rw [← HSU.out]; exact (scu_step hk (by first | (simp only [← HV.out, hl]; done) | (simp only [← HV.out, hl]; rfl))).symm)
            clear hl
            go_wp2
            go_roundw
            case rel => exact ⟨k + 1, by go_num, by omega, Lib.hid (HRk.out.drew _), HE⟩
            case measure => simp [intOf]; omega
          | true =>
            have HU : Hid (scanUp (fun x => !ltInt dk[a]! x) dk j i = k) := Lib.hid (by rw [← HSU.out]; exact scu_stop (.inr (by first | (simp only [← HV.out, hl]; done) | (simp only [← HV.out, hl]; rfl))))
            have HRu : Hid (RowS w blk off dk (wr.drewN nq)) := Lib.hid (HRk.out.drew nq)
            clear hl qa qk fa fk hdk hdkn lk hkL hk1
            generalize wr.drewN nq = wu at HRu ⊢
            go_wp2_with fail
            obtain ⟨wo2, hwo2⟩ : ∃ x, x = wu := ⟨_, rfl⟩
            subst hwo2
            go_loopw [10] (fun v wr => ∃ m : Nat, v = .int .i64 m ∧ m ≤ j ∧ Hid (RowS w blk off dk wr) ∧ Hid (scanDown (fun x => ltInt dk[a]! x) dk k m = scanDown (fun x => ltInt dk[a]! x) dk k j)) (fun v _ => (intOf v).toNat)
            case atStart => exact ⟨j, rfl, Nat.le_refl _, HRu, Lib.hid rfl⟩
            case round =>
              obtain ⟨m, rfl, hmj, HRm, HSD⟩ := hrel
              by_cases hm : k ≤ m
              · have hdm : decide ((k : Int) ≤ (m : Int)) = true := decide_eq_true (by omega)
                have hdn : decide (k ≤ m) = true := decide_eq_true hm
                have hm1 : IntKind.i64.wrap ((m : Int) - 1) = ((m - 1 : Nat) : Int) := by rw [IntWalk.i64_in _ (by have := HQ.out; omega)]; have := HQ.out; omega
                have hmL : m < L := by have := HQ.out; omega
                obtain ⟨qa, fa⟩ := HCELL.out dk wr hsk HRm.out a haL
                obtain ⟨qm, fm⟩ := HCELL.out dk wr hsk HRm.out m hmL
                rw [← HV.out] at qa qm
                have lm : (m : Int) < (L : Int) := by omega
                go_wp2_with fail
                go_quiet (first | (go_at_call 56; refine Calls.quiet_of_same (less_any _ _ _)))
                cases hl : ltInt (V a) (V m) with
                | true =>
                  have HE : Hid (scanDown (fun x => ltInt dk[a]! x) dk k (m - 1) = scanDown (fun x => ltInt dk[a]! x) dk k j) := Lib.hid (by rw [← HSD.out]; exact (scd_step (by have := HQ.out; omega) hm (by first | (simp only [← HV.out, hl]; done) | (simp only [← HV.out, hl]; rfl))).symm)
                  clear hl
                  go_wp2
                  go_roundw
                  case rel => exact ⟨m - 1, rfl, by omega, Lib.hid (HRm.out.drew _), HE⟩
                  case measure => have := HQ.out; simp [intOf]; omega
                | false =>
                  have HD : Hid (scanDown (fun x => ltInt dk[a]! x) dk k j = m) := Lib.hid (by rw [← HSD.out]; exact scd_stop (.inr (by first | (simp only [← HV.out, hl]; done) | (simp only [← HV.out, hl]; rfl))))
                  have HRx : Hid (RowS w blk off dk (wr.drewN nq)) := Lib.hid (HRm.out.drew nq)
                  clear hl qa qm fa fm hdm hdn lm hmL
                  generalize wr.drewN nq = wx at HRx ⊢
                  have hkm : ¬ m < k := by omega
                  have hd1 : decide ((m : Int) < (k : Int)) = false := decide_eq_false (by omega)
                  have hd2 : decide (m < k) = false := decide_eq_false hkm
                  have hxL : k < L := by have := HQ.out; omega
                  have hyL : m < L := by have := HQ.out; omega
                  have hk1 : IntKind.i64.wrap ((k : Int) + 1) = ((k + 1 : Nat) : Int) := by rw [IntWalk.i64_in _ (by have := HQ.out; omega)]; omega
                  have hm1 : IntKind.i64.wrap ((m : Int) - 1) = ((m - 1 : Nat) : Int) := by rw [IntWalk.i64_in _ (by have := HQ.out; omega)]; have := HQ.out; omega
                  obtain ⟨q1, f1⟩ := HCELL.out dk wx hsk HRx.out k hxL
                  obtain ⟨q2, f2⟩ := HCELL.out dk wx hsk HRx.out m hyL
                  rw [← HV.out] at q1 q2
                  have l1 : (k : Int) < (L : Int) := by omega
                  have l2 : (m : Int) < (L : Int) := by omega
                  have HE : Hid (partEqLoop ltInt a (k + 1) (m - 1) (swp dk k m) = partEqLoop ltInt a a1 b1 d1) := Lib.hid (by rw [← HO.out]; conv => rhs; rw [partEqLoop_eq, HU.out, HD.out, if_neg hkm])
                  have hcc : k = m ∨ k ≠ m := by omega
                  rcases hcc with hcc | hne
                  · subst hcc
                    go_wp2_with fail
                    go_region
                    all_goals go_wp2_with fail
                    go_roundw
                    case rel =>
                      refine ⟨k + 1, k - 1, swp dk k k, by go_num, by go_num, by omega, by omega, by omega, by rw [size_swp]; exact hsk, Lib.hid ?_, HE⟩
                      simp only [HV.out]
                      exact (HRx.out.drew 1).swap (j := k) (k := k) (by omega) (by omega)
                    case measure => have := HQ.out; simp [intOf]; omega
                  · have hne2 : m ≠ k := fun e => hne e.symm
                    go_wp2_with fail
                    go_region
                    all_goals go_wp2_with fail
                    go_roundw
                    case rel =>
                      refine ⟨k + 1, m - 1, swp dk k m, by go_num, by go_num, by omega, by omega, by omega, by rw [size_swp]; exact hsk, Lib.hid ?_, HE⟩
                      simp only [HV.out]
                      exact (HRx.out.drew 1).swap (j := k) (k := m) (by omega) (by omega)
                    case measure => have := HQ.out; simp [intOf]; omega
              · have hdm : decide ((k : Int) ≤ (m : Int)) = false := decide_eq_false (by omega)
                have hdn : decide (k ≤ m) = false := decide_eq_false hm
                have HD : Hid (scanDown (fun x => ltInt dk[a]! x) dk k j = m) := Lib.hid (by rw [← HSD.out]; exact scd_stop (.inl hm))
                go_wp2_with fail
                go_quiet (first | (go_at_call 56; refine Calls.quiet_of_same (less_any _ _ _)))
                have HRx : Hid (RowS w blk off dk (wr.drewN nq)) := Lib.hid (HRm.out.drew nq)
                generalize wr.drewN nq = wx at HRx ⊢
                have hkm : m < k := by omega
                have hd1 : decide ((m : Int) < (k : Int)) = true := decide_eq_true (by omega)
                have hd2 : decide (m < k) = true := decide_eq_true hkm
                have HEND : Hid (partitionEqual ltInt d a b a = (k, dk)) := Lib.hid (by rw [HP.out, ← HO.out, partEqLoop_eq, HU.out, HD.out, if_pos hkm])
                go_wp2
                exact bodyPost_ret (results_tmp rfl _ _ _) rfl ⟨k, dk, rfl, HEND.out, HRx.out⟩
        · have hdk : decide ((k : Int) ≤ (j : Int)) = false := decide_eq_false (by omega)
          have hdkn : decide (k ≤ j) = false := decide_eq_false hk
          have HU : Hid (scanUp (fun x => !ltInt dk[a]! x) dk j i = k) := Lib.hid (by rw [← HSU.out]; exact scu_stop (.inl hk))
          go_wp2_with fail
          go_quiet (first | (go_at_call 56; refine Calls.quiet_of_same (less_any _ _ _)))
          have HRu : Hid (RowS w blk off dk (wr.drewN nq)) := Lib.hid (HRk.out.drew nq)
          generalize wr.drewN nq = wu at HRu ⊢
          go_wp2_with fail
          obtain ⟨wo2, hwo2⟩ : ∃ x, x = wu := ⟨_, rfl⟩
          subst hwo2
          go_loopw [10] (fun v wr => ∃ m : Nat, v = .int .i64 m ∧ m ≤ j ∧ Hid (RowS w blk off dk wr) ∧ Hid (scanDown (fun x => ltInt dk[a]! x) dk k m = scanDown (fun x => ltInt dk[a]! x) dk k j)) (fun v _ => (intOf v).toNat)
          case atStart => exact ⟨j, rfl, Nat.le_refl _, HRu, Lib.hid rfl⟩
          case round =>
            obtain ⟨m, rfl, hmj, HRm, HSD⟩ := hrel
            by_cases hm : k ≤ m
            · exfalso; omega
            · have hdm : decide ((k : Int) ≤ (m : Int)) = false := decide_eq_false (by omega)
              have hdn : decide (k ≤ m) = false := decide_eq_false hm
              have HD : Hid (scanDown (fun x => ltInt dk[a]! x) dk k j = m) := Lib.hid (by rw [← HSD.out]; exact scd_stop (.inl hm))
              go_wp2_with fail
              go_quiet (first | (go_at_call 56; refine Calls.quiet_of_same (less_any _ _ _)))
              have HRx : Hid (RowS w blk off dk (wr.drewN nq)) := Lib.hid (HRm.out.drew nq)
              generalize wr.drewN nq = wx at HRx ⊢
              have hkm : m < k := by omega
              have hd1 : decide ((m : Int) < (k : Int)) = true := decide_eq_true (by omega)
              have hd2 : decide (m < k) = true := decide_eq_true hkm
              have HEND : Hid (partitionEqual ltInt d a b a = (k, dk)) := Lib.hid (by rw [HP.out, ← HO.out, partEqLoop_eq, HU.out, HD.out, if_pos hkm])
              go_wp2
              exact bodyPost_ret (results_tmp rfl _ _ _) rfl ⟨k, dk, rfl, HEND.out, HRx.out⟩
  · have hne2 : pv ≠ a := fun e => hne e.symm
    go_enter Tryd.func57, Tryd.ntmps57
    go_wp2_with fail
    go_region
    all_goals go_wp2_with fail
    have HR1 : Hid (RowS w blk off d1 ((w.setCell ⟨blk, off + a, none⟩ (.int .u64 (V pv))).setCell ⟨blk, off + pv, none⟩ (.int .u64 (V a))).drew) := Lib.hid (HSW.out _ rfl)
    generalize ((w.setCell ⟨blk, off + a, none⟩ (.int .u64 (V pv))).setCell ⟨blk, off + pv, none⟩ (.int .u64 (V a))).drew = w1 at HR1 ⊢
    clear q1 q2 f1 f2 l2 HSW
    go_loopw [9, 10] (fun v9 v10 wr => ∃ (i j : Nat) (dk : Array Int), v9 = .int .i64 i ∧ v10 = .int .i64 j ∧ a < i ∧ i ≤ j + 2 ∧ j < b ∧ dk.size = L ∧ Hid (RowS w blk off dk wr) ∧ Hid (partEqLoop ltInt a i j dk = partEqLoop ltInt a a1 b1 d1)) (fun v9 v10 _ => (intOf v10).toNat + 1 - (intOf v9).toNat)
    case atStart => exact ⟨a1, b1, d1, rfl, rfl, by have := HQ.out; omega, by have := HQ.out; omega, by have := HQ.out; omega, HQ.out.2.2.2.1, HR1, Lib.hid rfl⟩
    case round =>
      obtain ⟨i, j, dk, rfl, rfl, hi0, hij, hjb, hsk, HR, HO⟩ := hrel
      go_wp2_with fail
      obtain ⟨V, hV⟩ : ∃ V : Nat → Int, ∀ t, V t = dk[t]! := ⟨fun t => dk[t]!, fun _ => rfl⟩
      have HV := Lib.hid hV
      clear hV
      obtain ⟨wo, hwo⟩ : ∃ x, x = wr := ⟨_, rfl⟩
      subst hwo
      go_loopw [9] (fun v wr => ∃ k : Nat, v = .int .i64 k ∧ i ≤ k ∧ Hid (RowS w blk off dk wr) ∧ Hid (scanUp (fun x => !ltInt dk[a]! x) dk j k = scanUp (fun x => !ltInt dk[a]! x) dk j i)) (fun v _ => j + 1 - (intOf v).toNat)
      case atStart => exact ⟨i, rfl, Nat.le_refl _, HR, Lib.hid rfl⟩
      case round =>
        obtain ⟨k, rfl, hik, HRk, HSU⟩ := hrel
        by_cases hk : k ≤ j
        · have hdk : decide ((k : Int) ≤ (j : Int)) = true := decide_eq_true (by omega)
          have hdkn : decide (k ≤ j) = true := decide_eq_true hk
          have hk1 : IntKind.i64.wrap ((k : Int) + 1) = ((k + 1 : Nat) : Int) := by rw [IntWalk.i64_in _ (by have := HQ.out; omega)]; omega
          have hkL : k < L := by have := HQ.out; omega
          obtain ⟨qa, fa⟩ := HCELL.out dk wr hsk HRk.out a haL
          obtain ⟨qk, fk⟩ := HCELL.out dk wr hsk HRk.out k hkL
          rw [← HV.out] at qa qk
          have lk : (k : Int) < (L : Int) := by omega
          go_wp2_with fail
          go_quiet (first | (go_at_call 56; refine Calls.quiet_of_same (less_any _ _ _)))
          cases hl : ltInt (V a) (V k) with
          | false =>
            have HE : Hid (scanUp (fun x => !ltInt dk[a]! x) dk j (k + 1) = scanUp (fun x => !ltInt dk[a]! x) dk j i) := Lib.hid (by rw [← HSU.out]; exact (scu_step hk (by first | (simp only [← HV.out, hl]; done) | (simp only [← HV.out, hl]; rfl))).symm)
            clear hl
            go_wp2
            go_roundw
            case rel => exact ⟨k + 1, by go_num, by omega, Lib.hid (HRk.out.drew _), HE⟩
            case measure => simp [intOf]; omega
          | true =>
            have HU : Hid (scanUp (fun x => !ltInt dk[a]! x) dk j i = k) := Lib.hid (by rw [← HSU.out]; exact scu_stop (.inr (by first | (simp only [← HV.out, hl]; done) | (simp only [← HV.out, hl]; rfl))))
            have HRu : Hid (RowS w blk off dk (wr.drewN nq)) := Lib.hid (HRk.out.drew nq)
            clear hl qa qk fa fk hdk hdkn lk hkL hk1
            generalize wr.drewN nq = wu at HRu ⊢
            go_wp2_with fail
            obtain ⟨wo2, hwo2⟩ : ∃ x, x = wu := ⟨_, rfl⟩
            subst hwo2
            go_loopw [10] (fun v wr => ∃ m : Nat, v = .int .i64 m ∧ m ≤ j ∧ Hid (RowS w blk off dk wr) ∧ Hid (scanDown (fun x => ltInt dk[a]! x) dk k m = scanDown (fun x => ltInt dk[a]! x) dk k j)) (fun v _ => (intOf v).toNat)
            case atStart => exact ⟨j, rfl, Nat.le_refl _, HRu, Lib.hid rfl⟩
            case round =>
              obtain ⟨m, rfl, hmj, HRm, HSD⟩ := hrel
              by_cases hm : k ≤ m
              · have hdm : decide ((k : Int) ≤ (m : Int)) = true := decide_eq_true (by omega)
                have hdn : decide (k ≤ m) = true := decide_eq_true hm
                have hm1 : IntKind.i64.wrap ((m : Int) - 1) = ((m - 1 : Nat) : Int) := by rw [IntWalk.i64_in _ (by have := HQ.out; omega)]; have := HQ.out; omega
                have hmL : m < L := by have := HQ.out; omega
                obtain ⟨qa, fa⟩ := HCELL.out dk wr hsk HRm.out a haL
                obtain ⟨qm, fm⟩ := HCELL.out dk wr hsk HRm.out m hmL
                rw [← HV.out] at qa qm
                have lm : (m : Int) < (L : Int) := by omega
                go_wp2_with fail
                go_quiet (first | (go_at_call 56; refine Calls.quiet_of_same (less_any _ _ _)))
                cases hl : ltInt (V a) (V m) with
                | true =>
                  have HE : Hid (scanDown (fun x => ltInt dk[a]! x) dk k (m - 1) = scanDown (fun x => ltInt dk[a]! x) dk k j) := Lib.hid (by rw [← HSD.out]; exact (scd_step (by have := HQ.out; omega) hm (by first | (simp only [← HV.out, hl]; done) | (simp only [← HV.out, hl]; rfl))).symm)
                  clear hl
                  go_wp2
                  go_roundw
                  case rel => exact ⟨m - 1, rfl, by omega, Lib.hid (HRm.out.drew _), HE⟩
                  case measure => have := HQ.out; simp [intOf]; omega
                | false =>
                  have HD : Hid (scanDown (fun x => ltInt dk[a]! x) dk k j = m) := Lib.hid (by rw [← HSD.out]; exact scd_stop (.inr (by first | (simp only [← HV.out, hl]; done) | (simp only [← HV.out, hl]; rfl))))
                  have HRx : Hid (RowS w blk off dk (wr.drewN nq)) := Lib.hid (HRm.out.drew nq)
                  clear hl qa qm fa fm hdm hdn lm hmL
                  generalize wr.drewN nq = wx at HRx ⊢
                  have hkm : ¬ m < k := by omega
                  have hd1 : decide ((m : Int) < (k : Int)) = false := decide_eq_false (by omega)
                  have hd2 : decide (m < k) = false := decide_eq_false hkm
                  have hxL : k < L := by have := HQ.out; omega
                  have hyL : m < L := by have := HQ.out; omega
                  have hk1 : IntKind.i64.wrap ((k : Int) + 1) = ((k + 1 : Nat) : Int) := by rw [IntWalk.i64_in _ (by have := HQ.out; omega)]; omega
                  have hm1 : IntKind.i64.wrap ((m : Int) - 1) = ((m - 1 : Nat) : Int) := by rw [IntWalk.i64_in _ (by have := HQ.out; omega)]; have := HQ.out; omega
                  obtain ⟨q1, f1⟩ := HCELL.out dk wx hsk HRx.out k hxL
                  obtain ⟨q2, f2⟩ := HCELL.out dk wx hsk HRx.out m hyL
                  rw [← HV.out] at q1 q2
                  have l1 : (k : Int) < (L : Int) := by omega
                  have l2 : (m : Int) < (L : Int) := by omega
                  have HE : Hid (partEqLoop ltInt a (k + 1) (m - 1) (swp dk k m) = partEqLoop ltInt a a1 b1 d1) := Lib.hid (by rw [← HO.out]; conv => rhs; rw [partEqLoop_eq, HU.out, HD.out, if_neg hkm])
                  have hcc : k = m ∨ k ≠ m := by omega
                  rcases hcc with hcc | hne
                  · subst hcc
                    go_wp2_with fail
                    go_region
                    all_goals go_wp2_with fail
                    go_roundw
                    case rel =>
                      refine ⟨k + 1, k - 1, swp dk k k, by go_num, by go_num, by omega, by omega, by omega, by rw [size_swp]; exact hsk, Lib.hid ?_, HE⟩
                      simp only [HV.out]
                      exact (HRx.out.drew 1).swap (j := k) (k := k) (by omega) (by omega)
                    case measure => have := HQ.out; simp [intOf]; omega
                  · have hne2 : m ≠ k := fun e => hne e.symm
                    go_wp2_with fail
                    go_region
                    all_goals go_wp2_with fail
                    go_roundw
                    case rel =>
                      refine ⟨k + 1, m - 1, swp dk k m, by go_num, by go_num, by omega, by omega, by omega, by rw [size_swp]; exact hsk, Lib.hid ?_, HE⟩
                      simp only [HV.out]
                      exact (HRx.out.drew 1).swap (j := k) (k := m) (by omega) (by omega)
                    case measure => have := HQ.out; simp [intOf]; omega
              · have hdm : decide ((k : Int) ≤ (m : Int)) = false := decide_eq_false (by omega)
                have hdn : decide (k ≤ m) = false := decide_eq_false hm
                have HD : Hid (scanDown (fun x => ltInt dk[a]! x) dk k j = m) := Lib.hid (by rw [← HSD.out]; exact scd_stop (.inl hm))
                go_wp2_with fail
                go_quiet (first | (go_at_call 56; refine Calls.quiet_of_same (less_any _ _ _)))
                have HRx : Hid (RowS w blk off dk (wr.drewN nq)) := Lib.hid (HRm.out.drew nq)
                generalize wr.drewN nq = wx at HRx ⊢
                have hkm : m < k := by omega
                have hd1 : decide ((m : Int) < (k : Int)) = true := decide_eq_true (by omega)
                have hd2 : decide (m < k) = true := decide_eq_true hkm
                have HEND : Hid (partitionEqual ltInt d a b pv = (k, dk)) := Lib.hid (by rw [HP.out, ← HO.out, partEqLoop_eq, HU.out, HD.out, if_pos hkm])
                go_wp2
                exact bodyPost_ret (results_tmp rfl _ _ _) rfl ⟨k, dk, rfl, HEND.out, HRx.out⟩
        · have hdk : decide ((k : Int) ≤ (j : Int)) = false := decide_eq_false (by omega)
          have hdkn : decide (k ≤ j) = false := decide_eq_false hk
          have HU : Hid (scanUp (fun x => !ltInt dk[a]! x) dk j i = k) := Lib.hid (by rw [← HSU.out]; exact scu_stop (.inl hk))
          go_wp2_with fail
          go_quiet (first | (go_at_call 56; refine Calls.quiet_of_same (less_any _ _ _)))
          have HRu : Hid (RowS w blk off dk (wr.drewN nq)) := Lib.hid (HRk.out.drew nq)
          generalize wr.drewN nq = wu at HRu ⊢
          go_wp2_with fail
          obtain ⟨wo2, hwo2⟩ : ∃ x, x = wu := ⟨_, rfl⟩
          subst hwo2
          go_loopw [10] (fun v wr => ∃ m : Nat, v = .int .i64 m ∧ m ≤ j ∧ Hid (RowS w blk off dk wr) ∧ Hid (scanDown (fun x => ltInt dk[a]! x) dk k m = scanDown (fun x => ltInt dk[a]! x) dk k j)) (fun v _ => (intOf v).toNat)
          case atStart => exact ⟨j, rfl, Nat.le_refl _, HRu, Lib.hid rfl⟩
          case round =>
            obtain ⟨m, rfl, hmj, HRm, HSD⟩ := hrel
            by_cases hm : k ≤ m
            · exfalso; omega
            · have hdm : decide ((k : Int) ≤ (m : Int)) = false := decide_eq_false (by omega)
              have hdn : decide (k ≤ m) = false := decide_eq_false hm
              have HD : Hid (scanDown (fun x => ltInt dk[a]! x) dk k j = m) := Lib.hid (by rw [← HSD.out]; exact scd_stop (.inl hm))
              go_wp2_with fail
              go_quiet (first | (go_at_call 56; refine Calls.quiet_of_same (less_any _ _ _)))
              have HRx : Hid (RowS w blk off dk (wr.drewN nq)) := Lib.hid (HRm.out.drew nq)
              generalize wr.drewN nq = wx at HRx ⊢
              have hkm : m < k := by omega
              have hd1 : decide ((m : Int) < (k : Int)) = true := decide_eq_true (by omega)
              have hd2 : decide (m < k) = true := decide_eq_true hkm
              have HEND : Hid (partitionEqual ltInt d a b pv = (k, dk)) := Lib.hid (by rw [HP.out, ← HO.out, partEqLoop_eq, HU.out, HD.out, if_pos hkm])
              go_wp2
              exact bodyPost_ret (results_tmp rfl _ _ _) rfl ⟨k, dk, rfl, HEND.out, HRx.out⟩
end Go.Proofs.YtfcabdgidlnljaaDoor
