/-
  CONTRACTS of the sort's parts at sets: partition (printed by genlsrtj.py).
-/
import Derived.Test.YtfcabdgidlnljaaDoorLSrt2
namespace Go.Proofs.YtfcabdgidlnljaaDoor
open Go.RowKit Go.Sort
set_option linter.unusedVariables false
set_option linter.unusedSimpArgs false
set_option maxRecDepth 100000
/-- What partition leaves. -/
def PartnR (w : World) (blk off : Nat) (d : Array Int) (a b pv : Nat) (e : Ending) (w' : World) : Prop := ∃ (mid : Nat) (r : Bool) (d' : Array Int), e = .returned (.tuple #[.int .i64 mid, .bool r]) ∧ partition ltInt d a b pv = (mid, r, d') ∧ RowS w blk off d' w'
set_option maxHeartbeats 16000000 in
theorem partn_any {blk off cap L a b pv : Nat} {d : Array Int} {w : World} (hL : d.size = L) (hH : Holds eU w blk off d) (hab : a + 2 < b) (hb : b ≤ L) (hsz : L < 1000000) (hp0 : a ≤ pv) (hp1 : pv < b) :
    Calls Tryd.prog 58 #[.slice (some ⟨blk, off, none⟩) L cap, .int .i64 a, .int .i64 b, .int .i64 pv] w (PartnR w blk off d a b pv) := by
  have HH := Lib.hid hH
  obtain ⟨i, ha1⟩ : ∃ i, a + 1 = i := ⟨_, rfl⟩
  obtain ⟨j, hb1⟩ : ∃ j, b - 1 = j := ⟨_, rfl⟩
  have e1 : IntKind.i64.wrap ((a : Int) + 1) = (i : Int) := by rw [IntWalk.i64_in _ (by omega)]; omega
  have e2 : IntKind.i64.wrap ((b : Int) - 1) = (j : Int) := by rw [IntWalk.i64_in _ (by omega)]; omega
  obtain ⟨dk, hdk⟩ : ∃ dk, swp d a pv = dk := ⟨_, rfl⟩
  have HP : Hid (partition ltInt d a b pv = if scanUp (fun x => ltInt x dk[a]!) dk j i > scanDown (fun x => !ltInt x dk[a]!) dk (scanUp (fun x => ltInt x dk[a]!) dk j i) j then (scanDown (fun x => !ltInt x dk[a]!) dk (scanUp (fun x => ltInt x dk[a]!) dk j i) j, true, swp dk (scanDown (fun x => !ltInt x dk[a]!) dk (scanUp (fun x => ltInt x dk[a]!) dk j i) j) a) else ((partLoop ltInt a (scanUp (fun x => ltInt x dk[a]!) dk j i + 1) (scanDown (fun x => !ltInt x dk[a]!) dk (scanUp (fun x => ltInt x dk[a]!) dk j i) j - 1) (swp dk (scanUp (fun x => ltInt x dk[a]!) dk j i) (scanDown (fun x => !ltInt x dk[a]!) dk (scanUp (fun x => ltInt x dk[a]!) dk j i) j))).1, false, swp (partLoop ltInt a (scanUp (fun x => ltInt x dk[a]!) dk j i + 1) (scanDown (fun x => !ltInt x dk[a]!) dk (scanUp (fun x => ltInt x dk[a]!) dk j i) j - 1) (swp dk (scanUp (fun x => ltInt x dk[a]!) dk j i) (scanDown (fun x => !ltInt x dk[a]!) dk (scanUp (fun x => ltInt x dk[a]!) dk j i) j))).2 (partLoop ltInt a (scanUp (fun x => ltInt x dk[a]!) dk j i + 1) (scanDown (fun x => !ltInt x dk[a]!) dk (scanUp (fun x => ltInt x dk[a]!) dk j i) j - 1) (swp dk (scanUp (fun x => ltInt x dk[a]!) dk j i) (scanDown (fun x => !ltInt x dk[a]!) dk (scanUp (fun x => ltInt x dk[a]!) dk j i) j))).1 a)) := Lib.hid (by rw [← ha1, ← hb1, ← hdk]; rfl)
  have HCELL : Hid (∀ (dk : Array Int) (w1 : World), dk.size = L → RowS w blk off dk w1 → ∀ t, t < L → w1.cell? ⟨blk, off + t, none⟩ = some (.int .u64 dk[t]!) ∧ w1.frozen? ⟨blk, off + t, none⟩ = false) := Lib.hid fun dk w1 hs hr t ht => (hr.holds hH (by omega)) t (by omega)
  have haL : a < L := by omega
  have hpL : pv < L := by omega
  obtain ⟨V, hV⟩ : ∃ V : Nat → Int, ∀ t, V t = d[t]! := ⟨fun t => d[t]!, fun _ => rfl⟩
  have hR0 : RowS w blk off d w := ⟨0, (putRow_self _ _ _ _ _ hH).symm⟩
  obtain ⟨q1, f1⟩ := HCELL.out d w hL hR0 a haL
  obtain ⟨q2, f2⟩ := HCELL.out d w hL hR0 pv hpL
  rw [← hV] at q1 q2
  have l1 : (a : Int) < (L : Int) := by omega
  have l2 : (pv : Int) < (L : Int) := by omega
  have HSW : Hid (∀ W, W = ((w.drewN 1).setCell ⟨blk, off + a, none⟩ (.int .u64 (V pv))).setCell ⟨blk, off + pv, none⟩ (.int .u64 (V a)) → RowS w blk off dk W) := Lib.hid fun W hW => by
    rw [hW, hV, hV, ← hdk]; exact (hR0.drew 1).swap (j := a) (k := pv) (by omega) (by omega)
  have hsk : dk.size = L := by rw [← hdk, size_swp]; exact hL
  have HQ : Hid (a + 2 < b ∧ b ≤ L ∧ L < 1000000 ∧ dk.size = L ∧ a + 1 = i ∧ b - 1 = j) := Lib.hid ⟨hab, hb, hsz, hsk, ha1, hb1⟩
  have hi0 : a < i := by omega
  have hjb : j < b := by omega
  have LA := Lib.hid l1
  clear hL hH hab hb hsz ha1 hb1 hdk hp0 hp1 hV hR0 hpL
  have hcc : a = pv ∨ a ≠ pv := by omega
  rcases hcc with hcc | hne
  · subst hcc
    go_enter Tryd.func58, Tryd.ntmps58
    go_wp2_with fail
    go_region
    all_goals go_wp2_with fail
    have HR : Hid (RowS w blk off dk ((w.setCell ⟨blk, off + a, none⟩ (.int .u64 (V a))).setCell ⟨blk, off + a, none⟩ (.int .u64 (V a))).drew) := Lib.hid (HSW.out _ rfl)
    generalize ((w.setCell ⟨blk, off + a, none⟩ (.int .u64 (V a))).setCell ⟨blk, off + a, none⟩ (.int .u64 (V a))).drew = w1 at HR ⊢
    clear q1 q2 f1 f2 l2 HSW
    obtain ⟨V, hV⟩ : ∃ V : Nat → Int, ∀ t, V t = dk[t]! := ⟨fun t => dk[t]!, fun _ => rfl⟩
    have HV := Lib.hid hV
    clear hV
    obtain ⟨wo, hwo⟩ : ∃ x, x = w1 := ⟨_, rfl⟩
    subst hwo
    go_loopw [10] (fun v wr => ∃ k : Nat, v = .int .i64 k ∧ i ≤ k ∧ Hid (RowS w blk off dk wr) ∧ Hid (scanUp (fun x => ltInt x dk[a]!) dk j k = scanUp (fun x => ltInt x dk[a]!) dk j i)) (fun v _ => j + 1 - (intOf v).toNat)
    case atStart => exact ⟨i, rfl, Nat.le_refl _, HR, Lib.hid rfl⟩
    case round =>
      obtain ⟨k, rfl, hik, HRk, HSU⟩ := hrel
      by_cases hk : k ≤ j
      · have hdk : decide ((k : Int) ≤ (j : Int)) = true := decide_eq_true (by omega)
        have hdkn : decide (k ≤ j) = true := decide_eq_true hk
        have hk1 : IntKind.i64.wrap ((k : Int) + 1) = ((k + 1 : Nat) : Int) := by rw [IntWalk.i64_in _ (by have := HQ.out; omega)]; omega
        have hkL : k < L := by have := HQ.out; omega
        obtain ⟨qa, fa⟩ := HCELL.out dk wr hsk HRk.out a haL
        obtain ⟨qk, fk⟩ := HCELL.out dk wr hsk HRk.out k hkL
        rw [← HV.out] at qa qk
        have lk : (k : Int) < (L : Int) := by omega
        go_wp2_with fail
        go_quiet (first | (go_at_call 56; refine Calls.quiet_of_same (less_any _ _ _)))
        cases hl : ltInt (V k) (V a) with
        | true =>
          have HE : Hid (scanUp (fun x => ltInt x dk[a]!) dk j (k + 1) = scanUp (fun x => ltInt x dk[a]!) dk j i) := Lib.hid (by rw [← HSU.out]; exact (scu_step hk (by first | (simp only [← HV.out, hl]; done) | (simp only [← HV.out, hl]; rfl))).symm)
          clear hl
          go_wp2
          go_roundw
          case rel => exact ⟨k + 1, by go_num, by omega, Lib.hid (HRk.out.drew _), HE⟩
          case measure => simp [intOf]; omega
        | false =>
          have HU : Hid (scanUp (fun x => ltInt x dk[a]!) dk j i = k) := Lib.hid (by rw [← HSU.out]; exact scu_stop (.inr (by first | (simp only [← HV.out, hl]; done) | (simp only [← HV.out, hl]; rfl))))
          have HRu : Hid (RowS w blk off dk (wr.drewN nq)) := Lib.hid (HRk.out.drew nq)
          clear hl qa qk fa fk hdk hdkn lk hkL hk1
          generalize wr.drewN nq = wu at HRu ⊢
          go_wp2_with fail
          obtain ⟨wo2, hwo2⟩ : ∃ x, x = wu := ⟨_, rfl⟩
          subst hwo2
          go_loopw [11] (fun v wr => ∃ m : Nat, v = .int .i64 m ∧ m ≤ j ∧ Hid (RowS w blk off dk wr) ∧ Hid (scanDown (fun x => !ltInt x dk[a]!) dk k m = scanDown (fun x => !ltInt x dk[a]!) dk k j)) (fun v _ => (intOf v).toNat)
          case atStart => exact ⟨j, rfl, Nat.le_refl _, HRu, Lib.hid rfl⟩
          case round =>
            obtain ⟨m, rfl, hmj, HRm, HSD⟩ := hrel
            by_cases hm : k ≤ m
            · have hdm : decide ((k : Int) ≤ (m : Int)) = true := decide_eq_true (by omega)
              have hdn : decide (k ≤ m) = true := decide_eq_true hm
              have hm1 : IntKind.i64.wrap ((m : Int) - 1) = ((m - 1 : Nat) : Int) := by rw [IntWalk.i64_in _ (by have := HQ.out; omega)]; have := HQ.out; omega
              have hmL : m < L := by have := HQ.out; omega
              obtain ⟨qa, fa⟩ := HCELL.out dk wr hsk HRm.out a haL
              obtain ⟨qm, fm⟩ := HCELL.out dk wr hsk HRm.out m hmL
              rw [← HV.out] at qa qm
              have lm : (m : Int) < (L : Int) := by omega
              go_wp2_with fail
              go_quiet (first | (go_at_call 56; refine Calls.quiet_of_same (less_any _ _ _)))
              cases hl : ltInt (V m) (V a) with
              | false =>
                have HE : Hid (scanDown (fun x => !ltInt x dk[a]!) dk k (m - 1) = scanDown (fun x => !ltInt x dk[a]!) dk k j) := Lib.hid (by rw [← HSD.out]; exact (scd_step (by have := HQ.out; omega) hm (by first | (simp only [← HV.out, hl]; done) | (simp only [← HV.out, hl]; rfl))).symm)
                clear hl
                go_wp2
                go_roundw
                case rel => exact ⟨m - 1, rfl, by omega, Lib.hid (HRm.out.drew _), HE⟩
                case measure => have := HQ.out; simp [intOf]; omega
              | true =>
                have HD : Hid (scanDown (fun x => !ltInt x dk[a]!) dk k j = m) := Lib.hid (by rw [← HSD.out]; exact scd_stop (.inr (by first | (simp only [← HV.out, hl]; done) | (simp only [← HV.out, hl]; rfl))))
                have HRx : Hid (RowS w blk off dk (wr.drewN nq)) := Lib.hid (HRm.out.drew nq)
                clear hl qa qm fa fm hdm hdn lm hmL
                generalize wr.drewN nq = wx at HRx ⊢
                have hkm : ¬ m < k := by omega
                have hd1 : decide ((m : Int) < (k : Int)) = false := decide_eq_false (by omega)
                have hd2 : decide (m < k) = false := decide_eq_false hkm
                have hxL : k < L := by have := HQ.out; omega
                have hyL : m < L := by have := HQ.out; omega
                have hk1 : IntKind.i64.wrap ((k : Int) + 1) = ((k + 1 : Nat) : Int) := by rw [IntWalk.i64_in _ (by have := HQ.out; omega)]; omega
                have hm1 : IntKind.i64.wrap ((m : Int) - 1) = ((m - 1 : Nat) : Int) := by rw [IntWalk.i64_in _ (by have := HQ.out; omega)]; have := HQ.out; omega
                obtain ⟨q1, f1⟩ := HCELL.out dk wx hsk HRx.out k hxL
                obtain ⟨q2, f2⟩ := HCELL.out dk wx hsk HRx.out m hyL
                rw [← HV.out] at q1 q2
                have l1 : (k : Int) < (L : Int) := by omega
                have l2 : (m : Int) < (L : Int) := by omega
                obtain ⟨RL, hRL⟩ : ∃ RL, partLoop ltInt a (k + 1) (m - 1) (swp dk k m) = RL := ⟨_, rfl⟩
                have HRL := Lib.hid hRL
                have HPG : Hid (partition ltInt d a b a = (RL.1, false, swp RL.2 RL.1 a)) := Lib.hid (by rw [HP.out, HU.out, HD.out, if_neg hkm, hRL])
                clear hRL
                have hcc : k = m ∨ k ≠ m := by omega
                rcases hcc with hcc | hne
                · subst hcc
                  go_wp2_with fail
                  go_region
                  all_goals go_wp2_with fail
                  have HRS : Hid (RowS w blk off (swp dk k k) ((wx.setCell ⟨blk, off + k, none⟩ (.int .u64 (V k))).setCell ⟨blk, off + k, none⟩ (.int .u64 (V k))).drew) := Lib.hid (by
                    simp only [HV.out]
                    exact (HRx.out.drew 1).swap (j := k) (k := k) (by omega) (by omega))
                  generalize ((wx.setCell ⟨blk, off + k, none⟩ (.int .u64 (V k))).setCell ⟨blk, off + k, none⟩ (.int .u64 (V k))).drew = wy at HRS ⊢
                  clear q1 q2 f1 f2
                  go_loopw [10, 11] (fun v10 v11 wr => ∃ (i j : Nat) (dk : Array Int), v10 = .int .i64 i ∧ v11 = .int .i64 j ∧ a < i ∧ i ≤ j + 2 ∧ j < b ∧ dk.size = L ∧ Hid (RowS w blk off dk wr) ∧ Hid (partLoop ltInt a i j dk = RL)) (fun v10 v11 _ => (intOf v11).toNat + 1 - (intOf v10).toNat)
                  case atStart => exact ⟨k + 1, k - 1, swp dk k k, by go_num, by go_num, by omega, by omega, by omega, by rw [size_swp]; exact hsk, HRS, HRL⟩
                  case round =>
                    obtain ⟨i, j, dk, rfl, rfl, hi0, hij, hjb, hsk, HR, HO⟩ := hrel
                    go_wp2_with fail
                    obtain ⟨V, hV⟩ : ∃ V : Nat → Int, ∀ t, V t = dk[t]! := ⟨fun t => dk[t]!, fun _ => rfl⟩
                    have HV := Lib.hid hV
                    clear hV
                    obtain ⟨wo, hwo⟩ : ∃ x, x = wr := ⟨_, rfl⟩
                    subst hwo
                    go_loopw [10] (fun v wr => ∃ k : Nat, v = .int .i64 k ∧ i ≤ k ∧ Hid (RowS w blk off dk wr) ∧ Hid (scanUp (fun x => ltInt x dk[a]!) dk j k = scanUp (fun x => ltInt x dk[a]!) dk j i)) (fun v _ => j + 1 - (intOf v).toNat)
                    case atStart => exact ⟨i, rfl, Nat.le_refl _, HR, Lib.hid rfl⟩
                    case round =>
                      obtain ⟨k, rfl, hik, HRk, HSU⟩ := hrel
                      by_cases hk : k ≤ j
                      · have hdk : decide ((k : Int) ≤ (j : Int)) = true := decide_eq_true (by omega)
                        have hdkn : decide (k ≤ j) = true := decide_eq_true hk
                        have hk1 : IntKind.i64.wrap ((k : Int) + 1) = ((k + 1 : Nat) : Int) := by rw [IntWalk.i64_in _ (by have := HQ.out; omega)]; omega
                        have hkL : k < L := by have := HQ.out; omega
                        obtain ⟨qa, fa⟩ := HCELL.out dk wr hsk HRk.out a haL
                        obtain ⟨qk, fk⟩ := HCELL.out dk wr hsk HRk.out k hkL
                        rw [← HV.out] at qa qk
                        have lk : (k : Int) < (L : Int) := by omega
                        go_wp2_with fail
                        go_quiet (first | (go_at_call 56; refine Calls.quiet_of_same (less_any _ _ _)))
                        cases hl : ltInt (V k) (V a) with
                        | true =>
                          have HE : Hid (scanUp (fun x => ltInt x dk[a]!) dk j (k + 1) = scanUp (fun x => ltInt x dk[a]!) dk j i) := Lib.hid (by rw [← HSU.out]; exact (scu_step hk (by first | (simp only [← HV.out, hl]; done) | (simp only [← HV.out, hl]; rfl))).symm)
                          clear hl
                          go_wp2
                          go_roundw
                          case rel => exact ⟨k + 1, by go_num, by omega, Lib.hid (HRk.out.drew _), HE⟩
                          case measure => simp [intOf]; omega
                        | false =>
                          have HU : Hid (scanUp (fun x => ltInt x dk[a]!) dk j i = k) := Lib.hid (by rw [← HSU.out]; exact scu_stop (.inr (by first | (simp only [← HV.out, hl]; done) | (simp only [← HV.out, hl]; rfl))))
                          have HRu : Hid (RowS w blk off dk (wr.drewN nq)) := Lib.hid (HRk.out.drew nq)
                          clear hl qa qk fa fk hdk hdkn lk hkL hk1
                          generalize wr.drewN nq = wu at HRu ⊢
                          go_wp2_with fail
                          obtain ⟨wo2, hwo2⟩ : ∃ x, x = wu := ⟨_, rfl⟩
                          subst hwo2
                          go_loopw [11] (fun v wr => ∃ m : Nat, v = .int .i64 m ∧ m ≤ j ∧ Hid (RowS w blk off dk wr) ∧ Hid (scanDown (fun x => !ltInt x dk[a]!) dk k m = scanDown (fun x => !ltInt x dk[a]!) dk k j)) (fun v _ => (intOf v).toNat)
                          case atStart => exact ⟨j, rfl, Nat.le_refl _, HRu, Lib.hid rfl⟩
                          case round =>
                            obtain ⟨m, rfl, hmj, HRm, HSD⟩ := hrel
                            by_cases hm : k ≤ m
                            · have hdm : decide ((k : Int) ≤ (m : Int)) = true := decide_eq_true (by omega)
                              have hdn : decide (k ≤ m) = true := decide_eq_true hm
                              have hm1 : IntKind.i64.wrap ((m : Int) - 1) = ((m - 1 : Nat) : Int) := by rw [IntWalk.i64_in _ (by have := HQ.out; omega)]; have := HQ.out; omega
                              have hmL : m < L := by have := HQ.out; omega
                              obtain ⟨qa, fa⟩ := HCELL.out dk wr hsk HRm.out a haL
                              obtain ⟨qm, fm⟩ := HCELL.out dk wr hsk HRm.out m hmL
                              rw [← HV.out] at qa qm
                              have lm : (m : Int) < (L : Int) := by omega
                              go_wp2_with fail
                              go_quiet (first | (go_at_call 56; refine Calls.quiet_of_same (less_any _ _ _)))
                              cases hl : ltInt (V m) (V a) with
                              | false =>
                                have HE : Hid (scanDown (fun x => !ltInt x dk[a]!) dk k (m - 1) = scanDown (fun x => !ltInt x dk[a]!) dk k j) := Lib.hid (by rw [← HSD.out]; exact (scd_step (by have := HQ.out; omega) hm (by first | (simp only [← HV.out, hl]; done) | (simp only [← HV.out, hl]; rfl))).symm)
                                clear hl
                                go_wp2
                                go_roundw
                                case rel => exact ⟨m - 1, rfl, by omega, Lib.hid (HRm.out.drew _), HE⟩
                                case measure => have := HQ.out; simp [intOf]; omega
                              | true =>
                                have HD : Hid (scanDown (fun x => !ltInt x dk[a]!) dk k j = m) := Lib.hid (by rw [← HSD.out]; exact scd_stop (.inr (by first | (simp only [← HV.out, hl]; done) | (simp only [← HV.out, hl]; rfl))))
                                have HRx : Hid (RowS w blk off dk (wr.drewN nq)) := Lib.hid (HRm.out.drew nq)
                                clear hl qa qm fa fm hdm hdn lm hmL
                                generalize wr.drewN nq = wx at HRx ⊢
                                have hkm : ¬ m < k := by omega
                                have hd1 : decide ((m : Int) < (k : Int)) = false := decide_eq_false (by omega)
                                have hd2 : decide (m < k) = false := decide_eq_false hkm
                                have hxL : k < L := by have := HQ.out; omega
                                have hyL : m < L := by have := HQ.out; omega
                                have hk1 : IntKind.i64.wrap ((k : Int) + 1) = ((k + 1 : Nat) : Int) := by rw [IntWalk.i64_in _ (by have := HQ.out; omega)]; omega
                                have hm1 : IntKind.i64.wrap ((m : Int) - 1) = ((m - 1 : Nat) : Int) := by rw [IntWalk.i64_in _ (by have := HQ.out; omega)]; have := HQ.out; omega
                                obtain ⟨q1, f1⟩ := HCELL.out dk wx hsk HRx.out k hxL
                                obtain ⟨q2, f2⟩ := HCELL.out dk wx hsk HRx.out m hyL
                                rw [← HV.out] at q1 q2
                                have l1 : (k : Int) < (L : Int) := by omega
                                have l2 : (m : Int) < (L : Int) := by omega
                                have HE : Hid (partLoop ltInt a (k + 1) (m - 1) (swp dk k m) = RL) := Lib.hid (by rw [← HO.out]; conv => rhs; rw [partLoop_eq, HU.out, HD.out, if_neg hkm])
                                have hcc : k = m ∨ k ≠ m := by omega
                                rcases hcc with hcc | hne
                                · subst hcc
                                  go_wp2_with fail
                                  go_region
                                  all_goals go_wp2_with fail
                                  go_roundw
                                  case rel =>
                                    refine ⟨k + 1, k - 1, swp dk k k, by go_num, by go_num, by omega, by omega, by omega, by rw [size_swp]; exact hsk, Lib.hid ?_, HE⟩
                                    simp only [HV.out]
                                    exact (HRx.out.drew 1).swap (j := k) (k := k) (by omega) (by omega)
                                  case measure => have := HQ.out; simp [intOf]; omega
                                · have hne2 : m ≠ k := fun e => hne e.symm
                                  go_wp2_with fail
                                  go_region
                                  all_goals go_wp2_with fail
                                  go_roundw
                                  case rel =>
                                    refine ⟨k + 1, m - 1, swp dk k m, by go_num, by go_num, by omega, by omega, by omega, by rw [size_swp]; exact hsk, Lib.hid ?_, HE⟩
                                    simp only [HV.out]
                                    exact (HRx.out.drew 1).swap (j := k) (k := m) (by omega) (by omega)
                                  case measure => have := HQ.out; simp [intOf]; omega
                            · have hdm : decide ((k : Int) ≤ (m : Int)) = false := decide_eq_false (by omega)
                              have hdn : decide (k ≤ m) = false := decide_eq_false hm
                              have HD : Hid (scanDown (fun x => !ltInt x dk[a]!) dk k j = m) := Lib.hid (by rw [← HSD.out]; exact scd_stop (.inl hm))
                              go_wp2_with fail
                              go_quiet (first | (go_at_call 56; refine Calls.quiet_of_same (less_any _ _ _)))
                              have HRx : Hid (RowS w blk off dk (wr.drewN nq)) := Lib.hid (HRm.out.drew nq)
                              generalize wr.drewN nq = wx at HRx ⊢
                              have hkm : m < k := by omega
                              have hd1 : decide ((m : Int) < (k : Int)) = true := decide_eq_true (by omega)
                              have hd2 : decide (m < k) = true := decide_eq_true hkm
                              have hyL : m < L := by have := HQ.out; omega
                              have HEND : Hid (partition ltInt d a b a = (m, false, swp dk m a)) := Lib.hid (by
                                have h : partLoop ltInt a i j dk = (m, dk) := by rw [partLoop_eq, HU.out, HD.out, if_pos hkm]
                                rw [HPG.out, ← HO.out, h])
                              obtain ⟨q1, f1⟩ := HCELL.out dk wx hsk HRx.out a haL
                              obtain ⟨q2, f2⟩ := HCELL.out dk wx hsk HRx.out m hyL
                              rw [← HV.out] at q1 q2
                              have l2 : (m : Int) < (L : Int) := by omega
                              have l1 := LA.out
                              have hcc : a = m ∨ a ≠ m := by omega
                              rcases hcc with hcc | hne
                              · subst hcc
                                go_wp2_with fail
                                go_region
                                all_goals go_wp2_with fail
                                refine bodyPost_ret (results_tmp2 rfl _ _ _) rfl ⟨a, false, swp dk a a, rfl, HEND.out, ?_⟩
                                simp only [HV.out]
                                exact (HRx.out.drew 1).swap (j := a) (k := a) (by omega) (by omega)
                              · have hne2 : m ≠ a := fun e => hne e.symm
                                go_wp2_with fail
                                go_region
                                all_goals go_wp2_with fail
                                refine bodyPost_ret (results_tmp2 rfl _ _ _) rfl ⟨m, false, swp dk m a, rfl, HEND.out, ?_⟩
                                simp only [HV.out]
                                exact (HRx.out.drew 1).swap (j := m) (k := a) (by omega) (by omega)
                      · have hdk : decide ((k : Int) ≤ (j : Int)) = false := decide_eq_false (by omega)
                        have hdkn : decide (k ≤ j) = false := decide_eq_false hk
                        have HU : Hid (scanUp (fun x => ltInt x dk[a]!) dk j i = k) := Lib.hid (by rw [← HSU.out]; exact scu_stop (.inl hk))
                        go_wp2_with fail
                        go_quiet (first | (go_at_call 56; refine Calls.quiet_of_same (less_any _ _ _)))
                        have HRu : Hid (RowS w blk off dk (wr.drewN nq)) := Lib.hid (HRk.out.drew nq)
                        generalize wr.drewN nq = wu at HRu ⊢
                        go_wp2_with fail
                        obtain ⟨wo2, hwo2⟩ : ∃ x, x = wu := ⟨_, rfl⟩
                        subst hwo2
                        go_loopw [11] (fun v wr => ∃ m : Nat, v = .int .i64 m ∧ m ≤ j ∧ Hid (RowS w blk off dk wr) ∧ Hid (scanDown (fun x => !ltInt x dk[a]!) dk k m = scanDown (fun x => !ltInt x dk[a]!) dk k j)) (fun v _ => (intOf v).toNat)
                        case atStart => exact ⟨j, rfl, Nat.le_refl _, HRu, Lib.hid rfl⟩
                        case round =>
                          obtain ⟨m, rfl, hmj, HRm, HSD⟩ := hrel
                          by_cases hm : k ≤ m
                          · exfalso; omega
                          · have hdm : decide ((k : Int) ≤ (m : Int)) = false := decide_eq_false (by omega)
                            have hdn : decide (k ≤ m) = false := decide_eq_false hm
                            have HD : Hid (scanDown (fun x => !ltInt x dk[a]!) dk k j = m) := Lib.hid (by rw [← HSD.out]; exact scd_stop (.inl hm))
                            go_wp2_with fail
                            go_quiet (first | (go_at_call 56; refine Calls.quiet_of_same (less_any _ _ _)))
                            have HRx : Hid (RowS w blk off dk (wr.drewN nq)) := Lib.hid (HRm.out.drew nq)
                            generalize wr.drewN nq = wx at HRx ⊢
                            have hkm : m < k := by omega
                            have hd1 : decide ((m : Int) < (k : Int)) = true := decide_eq_true (by omega)
                            have hd2 : decide (m < k) = true := decide_eq_true hkm
                            have hyL : m < L := by have := HQ.out; omega
                            have HEND : Hid (partition ltInt d a b a = (m, false, swp dk m a)) := Lib.hid (by
                              have h : partLoop ltInt a i j dk = (m, dk) := by rw [partLoop_eq, HU.out, HD.out, if_pos hkm]
                              rw [HPG.out, ← HO.out, h])
                            obtain ⟨q1, f1⟩ := HCELL.out dk wx hsk HRx.out a haL
                            obtain ⟨q2, f2⟩ := HCELL.out dk wx hsk HRx.out m hyL
                            rw [← HV.out] at q1 q2
                            have l2 : (m : Int) < (L : Int) := by omega
                            have l1 := LA.out
                            have hcc : a = m ∨ a ≠ m := by omega
                            rcases hcc with hcc | hne
                            · subst hcc
                              go_wp2_with fail
                              go_region
                              all_goals go_wp2_with fail
                              refine bodyPost_ret (results_tmp2 rfl _ _ _) rfl ⟨a, false, swp dk a a, rfl, HEND.out, ?_⟩
                              simp only [HV.out]
                              exact (HRx.out.drew 1).swap (j := a) (k := a) (by omega) (by omega)
                            · have hne2 : m ≠ a := fun e => hne e.symm
                              go_wp2_with fail
                              go_region
                              all_goals go_wp2_with fail
                              refine bodyPost_ret (results_tmp2 rfl _ _ _) rfl ⟨m, false, swp dk m a, rfl, HEND.out, ?_⟩
                              simp only [HV.out]
                              exact (HRx.out.drew 1).swap (j := m) (k := a) (by omega) (by omega)
                · have hne2 : m ≠ k := fun e => hne e.symm
                  go_wp2_with fail
                  go_region
                  all_goals go_wp2_with fail
                  have HRS : Hid (RowS w blk off (swp dk k m) ((wx.setCell ⟨blk, off + k, none⟩ (.int .u64 (V m))).setCell ⟨blk, off + m, none⟩ (.int .u64 (V k))).drew) := Lib.hid (by
                    simp only [HV.out]
                    exact (HRx.out.drew 1).swap (j := k) (k := m) (by omega) (by omega))
                  generalize ((wx.setCell ⟨blk, off + k, none⟩ (.int .u64 (V m))).setCell ⟨blk, off + m, none⟩ (.int .u64 (V k))).drew = wy at HRS ⊢
                  clear q1 q2 f1 f2
                  go_loopw [10, 11] (fun v10 v11 wr => ∃ (i j : Nat) (dk : Array Int), v10 = .int .i64 i ∧ v11 = .int .i64 j ∧ a < i ∧ i ≤ j + 2 ∧ j < b ∧ dk.size = L ∧ Hid (RowS w blk off dk wr) ∧ Hid (partLoop ltInt a i j dk = RL)) (fun v10 v11 _ => (intOf v11).toNat + 1 - (intOf v10).toNat)
                  case atStart => exact ⟨k + 1, m - 1, swp dk k m, by go_num, by go_num, by omega, by omega, by omega, by rw [size_swp]; exact hsk, HRS, HRL⟩
                  case round =>
                    obtain ⟨i, j, dk, rfl, rfl, hi0, hij, hjb, hsk, HR, HO⟩ := hrel
                    go_wp2_with fail
                    obtain ⟨V, hV⟩ : ∃ V : Nat → Int, ∀ t, V t = dk[t]! := ⟨fun t => dk[t]!, fun _ => rfl⟩
                    have HV := Lib.hid hV
                    clear hV
                    obtain ⟨wo, hwo⟩ : ∃ x, x = wr := ⟨_, rfl⟩
                    subst hwo
                    go_loopw [10] (fun v wr => ∃ k : Nat, v = .int .i64 k ∧ i ≤ k ∧ Hid (RowS w blk off dk wr) ∧ Hid (scanUp (fun x => ltInt x dk[a]!) dk j k = scanUp (fun x => ltInt x dk[a]!) dk j i)) (fun v _ => j + 1 - (intOf v).toNat)
                    case atStart => exact ⟨i, rfl, Nat.le_refl _, HR, Lib.hid rfl⟩
                    case round =>
                      obtain ⟨k, rfl, hik, HRk, HSU⟩ := hrel
                      by_cases hk : k ≤ j
                      · have hdk : decide ((k : Int) ≤ (j : Int)) = true := decide_eq_true (by omega)
                        have hdkn : decide (k ≤ j) = true := decide_eq_true hk
                        have hk1 : IntKind.i64.wrap ((k : Int) + 1) = ((k + 1 : Nat) : Int) := by rw [IntWalk.i64_in _ (by have := HQ.out; omega)]; omega
                        have hkL : k < L := by have := HQ.out; omega
                        obtain ⟨qa, fa⟩ := HCELL.out dk wr hsk HRk.out a haL
                        obtain ⟨qk, fk⟩ := HCELL.out dk wr hsk HRk.out k hkL
                        rw [← HV.out] at qa qk
                        have lk : (k : Int) < (L : Int) := by omega
                        go_wp2_with fail
                        go_quiet (first | (go_at_call 56; refine Calls.quiet_of_same (less_any _ _ _)))
                        cases hl : ltInt (V k) (V a) with
                        | true =>
                          have HE : Hid (scanUp (fun x => ltInt x dk[a]!) dk j (k + 1) = scanUp (fun x => ltInt x dk[a]!) dk j i) := Lib.hid (by rw [← HSU.out]; exact (scu_step hk (by first | (simp only [← HV.out, hl]; done) | (simp only [← HV.out, hl]; rfl))).symm)
                          clear hl
                          go_wp2
                          go_roundw
                          case rel => exact ⟨k + 1, by go_num, by omega, Lib.hid (HRk.out.drew _), HE⟩
                          case measure => simp [intOf]; omega
                        | false =>
                          have HU : Hid (scanUp (fun x => ltInt x dk[a]!) dk j i = k) := Lib.hid (by rw [← HSU.out]; exact scu_stop (.inr (by first | (simp only [← HV.out, hl]; done) | (simp only [← HV.out, hl]; rfl))))
                          have HRu : Hid (RowS w blk off dk (wr.drewN nq)) := Lib.hid (HRk.out.drew nq)
                          clear hl qa qk fa fk hdk hdkn lk hkL hk1
                          generalize wr.drewN nq = wu at HRu ⊢
                          go_wp2_with fail
                          obtain ⟨wo2, hwo2⟩ : ∃ x, x = wu := ⟨_, rfl⟩
                          subst hwo2
                          go_loopw [11] (fun v wr => ∃ m : Nat, v = .int .i64 m ∧ m ≤ j ∧ Hid (RowS w blk off dk wr) ∧ Hid (scanDown (fun x => !ltInt x dk[a]!) dk k m = scanDown (fun x => !ltInt x dk[a]!) dk k j)) (fun v _ => (intOf v).toNat)
                          case atStart => exact ⟨j, rfl, Nat.le_refl _, HRu, Lib.hid rfl⟩
                          case round =>
                            obtain ⟨m, rfl, hmj, HRm, HSD⟩ := hrel
                            by_cases hm : k ≤ m
                            · have hdm : decide ((k : Int) ≤ (m : Int)) = true := decide_eq_true (by omega)
                              have hdn : decide (k ≤ m) = true := decide_eq_true hm
                              have hm1 : IntKind.i64.wrap ((m : Int) - 1) = ((m - 1 : Nat) : Int) := by rw [IntWalk.i64_in _ (by have := HQ.out; omega)]; have := HQ.out; omega
                              have hmL : m < L := by have := HQ.out; omega
                              obtain ⟨qa, fa⟩ := HCELL.out dk wr hsk HRm.out a haL
                              obtain ⟨qm, fm⟩ := HCELL.out dk wr hsk HRm.out m hmL
                              rw [← HV.out] at qa qm
                              have lm : (m : Int) < (L : Int) := by omega
                              go_wp2_with fail
                              go_quiet (first | (go_at_call 56; refine Calls.quiet_of_same (less_any _ _ _)))
                              cases hl : ltInt (V m) (V a) with
                              | false =>
                                have HE : Hid (scanDown (fun x => !ltInt x dk[a]!) dk k (m - 1) = scanDown (fun x => !ltInt x dk[a]!) dk k j) := Lib.hid (by rw [← HSD.out]; exact (scd_step (by have := HQ.out; omega) hm (by first | (simp only [← HV.out, hl]; done) | (simp only [← HV.out, hl]; rfl))).symm)
                                clear hl
                                go_wp2
                                go_roundw
                                case rel => exact ⟨m - 1, rfl, by omega, Lib.hid (HRm.out.drew _), HE⟩
                                case measure => have := HQ.out; simp [intOf]; omega
                              | true =>
                                have HD : Hid (scanDown (fun x => !ltInt x dk[a]!) dk k j = m) := Lib.hid (by rw [← HSD.out]; exact scd_stop (.inr (by first | (simp only [← HV.out, hl]; done) | (simp only [← HV.out, hl]; rfl))))
                                have HRx : Hid (RowS w blk off dk (wr.drewN nq)) := Lib.hid (HRm.out.drew nq)
                                clear hl qa qm fa fm hdm hdn lm hmL
                                generalize wr.drewN nq = wx at HRx ⊢
                                have hkm : ¬ m < k := by omega
                                have hd1 : decide ((m : Int) < (k : Int)) = false := decide_eq_false (by omega)
                                have hd2 : decide (m < k) = false := decide_eq_false hkm
                                have hxL : k < L := by have := HQ.out; omega
                                have hyL : m < L := by have := HQ.out; omega
                                have hk1 : IntKind.i64.wrap ((k : Int) + 1) = ((k + 1 : Nat) : Int) := by rw [IntWalk.i64_in _ (by have := HQ.out; omega)]; omega
                                have hm1 : IntKind.i64.wrap ((m : Int) - 1) = ((m - 1 : Nat) : Int) := by rw [IntWalk.i64_in _ (by have := HQ.out; omega)]; have := HQ.out; omega
                                obtain ⟨q1, f1⟩ := HCELL.out dk wx hsk HRx.out k hxL
                                obtain ⟨q2, f2⟩ := HCELL.out dk wx hsk HRx.out m hyL
                                rw [← HV.out] at q1 q2
                                have l1 : (k : Int) < (L : Int) := by omega
                                have l2 : (m : Int) < (L : Int) := by omega
                                have HE : Hid (partLoop ltInt a (k + 1) (m - 1) (swp dk k m) = RL) := Lib.hid (by rw [← HO.out]; conv => rhs; rw [partLoop_eq, HU.out, HD.out, if_neg hkm])
                                have hcc : k = m ∨ k ≠ m := by omega
                                rcases hcc with hcc | hne
                                · subst hcc
                                  go_wp2_with fail
                                  go_region
                                  all_goals go_wp2_with fail
                                  go_roundw
                                  case rel =>
                                    refine ⟨k + 1, k - 1, swp dk k k, by go_num, by go_num, by omega, by omega, by omega, by rw [size_swp]; exact hsk, Lib.hid ?_, HE⟩
                                    simp only [HV.out]
                                    exact (HRx.out.drew 1).swap (j := k) (k := k) (by omega) (by omega)
                                  case measure => have := HQ.out; simp [intOf]; omega
                                · have hne2 : m ≠ k := fun e => hne e.symm
                                  go_wp2_with fail
                                  go_region
                                  all_goals go_wp2_with fail
                                  go_roundw
                                  case rel =>
                                    refine ⟨k + 1, m - 1, swp dk k m, by go_num, by go_num, by omega, by omega, by omega, by rw [size_swp]; exact hsk, Lib.hid ?_, HE⟩
                                    simp only [HV.out]
                                    exact (HRx.out.drew 1).swap (j := k) (k := m) (by omega) (by omega)
                                  case measure => have := HQ.out; simp [intOf]; omega
                            · have hdm : decide ((k : Int) ≤ (m : Int)) = false := decide_eq_false (by omega)
                              have hdn : decide (k ≤ m) = false := decide_eq_false hm
                              have HD : Hid (scanDown (fun x => !ltInt x dk[a]!) dk k j = m) := Lib.hid (by rw [← HSD.out]; exact scd_stop (.inl hm))
                              go_wp2_with fail
                              go_quiet (first | (go_at_call 56; refine Calls.quiet_of_same (less_any _ _ _)))
                              have HRx : Hid (RowS w blk off dk (wr.drewN nq)) := Lib.hid (HRm.out.drew nq)
                              generalize wr.drewN nq = wx at HRx ⊢
                              have hkm : m < k := by omega
                              have hd1 : decide ((m : Int) < (k : Int)) = true := decide_eq_true (by omega)
                              have hd2 : decide (m < k) = true := decide_eq_true hkm
                              have hyL : m < L := by have := HQ.out; omega
                              have HEND : Hid (partition ltInt d a b a = (m, false, swp dk m a)) := Lib.hid (by
                                have h : partLoop ltInt a i j dk = (m, dk) := by rw [partLoop_eq, HU.out, HD.out, if_pos hkm]
                                rw [HPG.out, ← HO.out, h])
                              obtain ⟨q1, f1⟩ := HCELL.out dk wx hsk HRx.out a haL
                              obtain ⟨q2, f2⟩ := HCELL.out dk wx hsk HRx.out m hyL
                              rw [← HV.out] at q1 q2
                              have l2 : (m : Int) < (L : Int) := by omega
                              have l1 := LA.out
                              have hcc : a = m ∨ a ≠ m := by omega
                              rcases hcc with hcc | hne
                              · subst hcc
                                go_wp2_with fail
                                go_region
                                all_goals go_wp2_with fail
                                refine bodyPost_ret (results_tmp2 rfl _ _ _) rfl ⟨a, false, swp dk a a, rfl, HEND.out, ?_⟩
                                simp only [HV.out]
                                exact (HRx.out.drew 1).swap (j := a) (k := a) (by omega) (by omega)
                              · have hne2 : m ≠ a := fun e => hne e.symm
                                go_wp2_with fail
                                go_region
                                all_goals go_wp2_with fail
                                refine bodyPost_ret (results_tmp2 rfl _ _ _) rfl ⟨m, false, swp dk m a, rfl, HEND.out, ?_⟩
                                simp only [HV.out]
                                exact (HRx.out.drew 1).swap (j := m) (k := a) (by omega) (by omega)
                      · have hdk : decide ((k : Int) ≤ (j : Int)) = false := decide_eq_false (by omega)
                        have hdkn : decide (k ≤ j) = false := decide_eq_false hk
                        have HU : Hid (scanUp (fun x => ltInt x dk[a]!) dk j i = k) := Lib.hid (by rw [← HSU.out]; exact scu_stop (.inl hk))
                        go_wp2_with fail
                        go_quiet (first | (go_at_call 56; refine Calls.quiet_of_same (less_any _ _ _)))
                        have HRu : Hid (RowS w blk off dk (wr.drewN nq)) := Lib.hid (HRk.out.drew nq)
                        generalize wr.drewN nq = wu at HRu ⊢
                        go_wp2_with fail
                        obtain ⟨wo2, hwo2⟩ : ∃ x, x = wu := ⟨_, rfl⟩
                        subst hwo2
                        go_loopw [11] (fun v wr => ∃ m : Nat, v = .int .i64 m ∧ m ≤ j ∧ Hid (RowS w blk off dk wr) ∧ Hid (scanDown (fun x => !ltInt x dk[a]!) dk k m = scanDown (fun x => !ltInt x dk[a]!) dk k j)) (fun v _ => (intOf v).toNat)
                        case atStart => exact ⟨j, rfl, Nat.le_refl _, HRu, Lib.hid rfl⟩
                        case round =>
                          obtain ⟨m, rfl, hmj, HRm, HSD⟩ := hrel
                          by_cases hm : k ≤ m
                          · exfalso; omega
                          · have hdm : decide ((k : Int) ≤ (m : Int)) = false := decide_eq_false (by omega)
                            have hdn : decide (k ≤ m) = false := decide_eq_false hm
                            have HD : Hid (scanDown (fun x => !ltInt x dk[a]!) dk k j = m) := Lib.hid (by rw [← HSD.out]; exact scd_stop (.inl hm))
                            go_wp2_with fail
                            go_quiet (first | (go_at_call 56; refine Calls.quiet_of_same (less_any _ _ _)))
                            have HRx : Hid (RowS w blk off dk (wr.drewN nq)) := Lib.hid (HRm.out.drew nq)
                            generalize wr.drewN nq = wx at HRx ⊢
                            have hkm : m < k := by omega
                            have hd1 : decide ((m : Int) < (k : Int)) = true := decide_eq_true (by omega)
                            have hd2 : decide (m < k) = true := decide_eq_true hkm
                            have hyL : m < L := by have := HQ.out; omega
                            have HEND : Hid (partition ltInt d a b a = (m, false, swp dk m a)) := Lib.hid (by
                              have h : partLoop ltInt a i j dk = (m, dk) := by rw [partLoop_eq, HU.out, HD.out, if_pos hkm]
                              rw [HPG.out, ← HO.out, h])
                            obtain ⟨q1, f1⟩ := HCELL.out dk wx hsk HRx.out a haL
                            obtain ⟨q2, f2⟩ := HCELL.out dk wx hsk HRx.out m hyL
                            rw [← HV.out] at q1 q2
                            have l2 : (m : Int) < (L : Int) := by omega
                            have l1 := LA.out
                            have hcc : a = m ∨ a ≠ m := by omega
                            rcases hcc with hcc | hne
                            · subst hcc
                              go_wp2_with fail
                              go_region
                              all_goals go_wp2_with fail
                              refine bodyPost_ret (results_tmp2 rfl _ _ _) rfl ⟨a, false, swp dk a a, rfl, HEND.out, ?_⟩
                              simp only [HV.out]
                              exact (HRx.out.drew 1).swap (j := a) (k := a) (by omega) (by omega)
                            · have hne2 : m ≠ a := fun e => hne e.symm
                              go_wp2_with fail
                              go_region
                              all_goals go_wp2_with fail
                              refine bodyPost_ret (results_tmp2 rfl _ _ _) rfl ⟨m, false, swp dk m a, rfl, HEND.out, ?_⟩
                              simp only [HV.out]
                              exact (HRx.out.drew 1).swap (j := m) (k := a) (by omega) (by omega)
            · have hdm : decide ((k : Int) ≤ (m : Int)) = false := decide_eq_false (by omega)
              have hdn : decide (k ≤ m) = false := decide_eq_false hm
              have HD : Hid (scanDown (fun x => !ltInt x dk[a]!) dk k j = m) := Lib.hid (by rw [← HSD.out]; exact scd_stop (.inl hm))
              go_wp2_with fail
              go_quiet (first | (go_at_call 56; refine Calls.quiet_of_same (less_any _ _ _)))
              have HRx : Hid (RowS w blk off dk (wr.drewN nq)) := Lib.hid (HRm.out.drew nq)
              generalize wr.drewN nq = wx at HRx ⊢
              have hkm : m < k := by omega
              have hd1 : decide ((m : Int) < (k : Int)) = true := decide_eq_true (by omega)
              have hd2 : decide (m < k) = true := decide_eq_true hkm
              have hyL : m < L := by have := HQ.out; omega
              have HEND : Hid (partition ltInt d a b a = (m, true, swp dk m a)) := Lib.hid (by rw [HP.out, HU.out, HD.out, if_pos hkm])
              obtain ⟨q1, f1⟩ := HCELL.out dk wx hsk HRx.out a haL
              obtain ⟨q2, f2⟩ := HCELL.out dk wx hsk HRx.out m hyL
              rw [← HV.out] at q1 q2
              have l2 : (m : Int) < (L : Int) := by omega
              have l1 := LA.out
              have hcc : a = m ∨ a ≠ m := by omega
              rcases hcc with hcc | hne
              · subst hcc
                go_wp2_with fail
                go_region
                all_goals go_wp2_with fail
                refine bodyPost_ret (results_tmp2 rfl _ _ _) rfl ⟨a, true, swp dk a a, rfl, HEND.out, ?_⟩
                simp only [HV.out]
                exact (HRx.out.drew 1).swap (j := a) (k := a) (by omega) (by omega)
              · have hne2 : m ≠ a := fun e => hne e.symm
                go_wp2_with fail
                go_region
                all_goals go_wp2_with fail
                refine bodyPost_ret (results_tmp2 rfl _ _ _) rfl ⟨m, true, swp dk m a, rfl, HEND.out, ?_⟩
                simp only [HV.out]
                exact (HRx.out.drew 1).swap (j := m) (k := a) (by omega) (by omega)
      · have hdk : decide ((k : Int) ≤ (j : Int)) = false := decide_eq_false (by omega)
        have hdkn : decide (k ≤ j) = false := decide_eq_false hk
        have HU : Hid (scanUp (fun x => ltInt x dk[a]!) dk j i = k) := Lib.hid (by rw [← HSU.out]; exact scu_stop (.inl hk))
        go_wp2_with fail
        go_quiet (first | (go_at_call 56; refine Calls.quiet_of_same (less_any _ _ _)))
        have HRu : Hid (RowS w blk off dk (wr.drewN nq)) := Lib.hid (HRk.out.drew nq)
        generalize wr.drewN nq = wu at HRu ⊢
        go_wp2_with fail
        obtain ⟨wo2, hwo2⟩ : ∃ x, x = wu := ⟨_, rfl⟩
        subst hwo2
        go_loopw [11] (fun v wr => ∃ m : Nat, v = .int .i64 m ∧ m ≤ j ∧ Hid (RowS w blk off dk wr) ∧ Hid (scanDown (fun x => !ltInt x dk[a]!) dk k m = scanDown (fun x => !ltInt x dk[a]!) dk k j)) (fun v _ => (intOf v).toNat)
        case atStart => exact ⟨j, rfl, Nat.le_refl _, HRu, Lib.hid rfl⟩
        case round =>
          obtain ⟨m, rfl, hmj, HRm, HSD⟩ := hrel
          by_cases hm : k ≤ m
          · exfalso; omega
          · have hdm : decide ((k : Int) ≤ (m : Int)) = false := decide_eq_false (by omega)
            have hdn : decide (k ≤ m) = false := decide_eq_false hm
            have HD : Hid (scanDown (fun x => !ltInt x dk[a]!) dk k j = m) := Lib.hid (by rw [← HSD.out]; exact scd_stop (.inl hm))
            go_wp2_with fail
            go_quiet (first | (go_at_call 56; refine Calls.quiet_of_same (less_any _ _ _)))
            have HRx : Hid (RowS w blk off dk (wr.drewN nq)) := Lib.hid (HRm.out.drew nq)
            generalize wr.drewN nq = wx at HRx ⊢
            have hkm : m < k := by omega
            have hd1 : decide ((m : Int) < (k : Int)) = true := decide_eq_true (by omega)
            have hd2 : decide (m < k) = true := decide_eq_true hkm
            have hyL : m < L := by have := HQ.out; omega
            have HEND : Hid (partition ltInt d a b a = (m, true, swp dk m a)) := Lib.hid (by rw [HP.out, HU.out, HD.out, if_pos hkm])
            obtain ⟨q1, f1⟩ := HCELL.out dk wx hsk HRx.out a haL
            obtain ⟨q2, f2⟩ := HCELL.out dk wx hsk HRx.out m hyL
            rw [← HV.out] at q1 q2
            have l2 : (m : Int) < (L : Int) := by omega
            have l1 := LA.out
            have hcc : a = m ∨ a ≠ m := by omega
            rcases hcc with hcc | hne
            · subst hcc
              go_wp2_with fail
              go_region
              all_goals go_wp2_with fail
              refine bodyPost_ret (results_tmp2 rfl _ _ _) rfl ⟨a, true, swp dk a a, rfl, HEND.out, ?_⟩
              simp only [HV.out]
              exact (HRx.out.drew 1).swap (j := a) (k := a) (by omega) (by omega)
            · have hne2 : m ≠ a := fun e => hne e.symm
              go_wp2_with fail
              go_region
              all_goals go_wp2_with fail
              refine bodyPost_ret (results_tmp2 rfl _ _ _) rfl ⟨m, true, swp dk m a, rfl, HEND.out, ?_⟩
              simp only [HV.out]
              exact (HRx.out.drew 1).swap (j := m) (k := a) (by omega) (by omega)
  · have hne2 : pv ≠ a := fun e => hne e.symm
    go_enter Tryd.func58, Tryd.ntmps58
    go_wp2_with fail
    go_region
    all_goals go_wp2_with fail
    have HR : Hid (RowS w blk off dk ((w.setCell ⟨blk, off + a, none⟩ (.int .u64 (V pv))).setCell ⟨blk, off + pv, none⟩ (.int .u64 (V a))).drew) := Lib.hid (HSW.out _ rfl)
    generalize ((w.setCell ⟨blk, off + a, none⟩ (.int .u64 (V pv))).setCell ⟨blk, off + pv, none⟩ (.int .u64 (V a))).drew = w1 at HR ⊢
    clear q1 q2 f1 f2 l2 HSW
    obtain ⟨V, hV⟩ : ∃ V : Nat → Int, ∀ t, V t = dk[t]! := ⟨fun t => dk[t]!, fun _ => rfl⟩
    have HV := Lib.hid hV
    clear hV
    obtain ⟨wo, hwo⟩ : ∃ x, x = w1 := ⟨_, rfl⟩
    subst hwo
    go_loopw [10] (fun v wr => ∃ k : Nat, v = .int .i64 k ∧ i ≤ k ∧ Hid (RowS w blk off dk wr) ∧ Hid (scanUp (fun x => ltInt x dk[a]!) dk j k = scanUp (fun x => ltInt x dk[a]!) dk j i)) (fun v _ => j + 1 - (intOf v).toNat)
    case atStart => exact ⟨i, rfl, Nat.le_refl _, HR, Lib.hid rfl⟩
    case round =>
      obtain ⟨k, rfl, hik, HRk, HSU⟩ := hrel
      by_cases hk : k ≤ j
      · have hdk : decide ((k : Int) ≤ (j : Int)) = true := decide_eq_true (by omega)
        have hdkn : decide (k ≤ j) = true := decide_eq_true hk
        have hk1 : IntKind.i64.wrap ((k : Int) + 1) = ((k + 1 : Nat) : Int) := by rw [IntWalk.i64_in _ (by have := HQ.out; omega)]; omega
        have hkL : k < L := by have := HQ.out; omega
        obtain ⟨qa, fa⟩ := HCELL.out dk wr hsk HRk.out a haL
        obtain ⟨qk, fk⟩ := HCELL.out dk wr hsk HRk.out k hkL
        rw [← HV.out] at qa qk
        have lk : (k : Int) < (L : Int) := by omega
        go_wp2_with fail
        go_quiet (first | (go_at_call 56; refine Calls.quiet_of_same (less_any _ _ _)))
        cases hl : ltInt (V k) (V a) with
        | true =>
          have HE : Hid (scanUp (fun x => ltInt x dk[a]!) dk j (k + 1) = scanUp (fun x => ltInt x dk[a]!) dk j i) := Lib.hid (by rw [← HSU.out]; exact (scu_step hk (by first | (simp only [← HV.out, hl]; done) | (simp only [← HV.out, hl]; rfl))).symm)
          clear hl
          go_wp2
          go_roundw
          case rel => exact ⟨k + 1, by go_num, by omega, Lib.hid (HRk.out.drew _), HE⟩
          case measure => simp [intOf]; omega
        | false =>
          have HU : Hid (scanUp (fun x => ltInt x dk[a]!) dk j i = k) := Lib.hid (by rw [← HSU.out]; exact scu_stop (.inr (by first | (simp only [← HV.out, hl]; done) | (simp only [← HV.out, hl]; rfl))))
          have HRu : Hid (RowS w blk off dk (wr.drewN nq)) := Lib.hid (HRk.out.drew nq)
          clear hl qa qk fa fk hdk hdkn lk hkL hk1
          generalize wr.drewN nq = wu at HRu ⊢
          go_wp2_with fail
          obtain ⟨wo2, hwo2⟩ : ∃ x, x = wu := ⟨_, rfl⟩
          subst hwo2
          go_loopw [11] (fun v wr => ∃ m : Nat, v = .int .i64 m ∧ m ≤ j ∧ Hid (RowS w blk off dk wr) ∧ Hid (scanDown (fun x => !ltInt x dk[a]!) dk k m = scanDown (fun x => !ltInt x dk[a]!) dk k j)) (fun v _ => (intOf v).toNat)
          case atStart => exact ⟨j, rfl, Nat.le_refl _, HRu, Lib.hid rfl⟩
          case round =>
            obtain ⟨m, rfl, hmj, HRm, HSD⟩ := hrel
            by_cases hm : k ≤ m
            · have hdm : decide ((k : Int) ≤ (m : Int)) = true := decide_eq_true (by omega)
              have hdn : decide (k ≤ m) = true := decide_eq_true hm
              have hm1 : IntKind.i64.wrap ((m : Int) - 1) = ((m - 1 : Nat) : Int) := by rw [IntWalk.i64_in _ (by have := HQ.out; omega)]; have := HQ.out; omega
              have hmL : m < L := by have := HQ.out; omega
              obtain ⟨qa, fa⟩ := HCELL.out dk wr hsk HRm.out a haL
              obtain ⟨qm, fm⟩ := HCELL.out dk wr hsk HRm.out m hmL
              rw [← HV.out] at qa qm
              have lm : (m : Int) < (L : Int) := by omega
              go_wp2_with fail
              go_quiet (first | (go_at_call 56; refine Calls.quiet_of_same (less_any _ _ _)))
              cases hl : ltInt (V m) (V a) with
              | false =>
                have HE : Hid (scanDown (fun x => !ltInt x dk[a]!) dk k (m - 1) = scanDown (fun x => !ltInt x dk[a]!) dk k j) := Lib.hid (by rw [← HSD.out]; exact (scd_step (by have := HQ.out; omega) hm (by first | (simp only [← HV.out, hl]; done) | (simp only [← HV.out, hl]; rfl))).symm)
                clear hl
                go_wp2
                go_roundw
                case rel => exact ⟨m - 1, rfl, by omega, Lib.hid (HRm.out.drew _), HE⟩
                case measure => have := HQ.out; simp [intOf]; omega
              | true =>
                have HD : Hid (scanDown (fun x => !ltInt x dk[a]!) dk k j = m) := Lib.hid (by rw [← HSD.out]; exact scd_stop (.inr (by first | (simp only [← HV.out, hl]; done) | (simp only [← HV.out, hl]; rfl))))
                have HRx : Hid (RowS w blk off dk (wr.drewN nq)) := Lib.hid (HRm.out.drew nq)
                clear hl qa qm fa fm hdm hdn lm hmL
                generalize wr.drewN nq = wx at HRx ⊢
                have hkm : ¬ m < k := by omega
                have hd1 : decide ((m : Int) < (k : Int)) = false := decide_eq_false (by omega)
                have hd2 : decide (m < k) = false := decide_eq_false hkm
                have hxL : k < L := by have := HQ.out; omega
                have hyL : m < L := by have := HQ.out; omega
                have hk1 : IntKind.i64.wrap ((k : Int) + 1) = ((k + 1 : Nat) : Int) := by rw [IntWalk.i64_in _ (by have := HQ.out; omega)]; omega
                have hm1 : IntKind.i64.wrap ((m : Int) - 1) = ((m - 1 : Nat) : Int) := by rw [IntWalk.i64_in _ (by have := HQ.out; omega)]; have := HQ.out; omega
                obtain ⟨q1, f1⟩ := HCELL.out dk wx hsk HRx.out k hxL
                obtain ⟨q2, f2⟩ := HCELL.out dk wx hsk HRx.out m hyL
                rw [← HV.out] at q1 q2
                have l1 : (k : Int) < (L : Int) := by omega
                have l2 : (m : Int) < (L : Int) := by omega
                obtain ⟨RL, hRL⟩ : ∃ RL, partLoop ltInt a (k + 1) (m - 1) (swp dk k m) = RL := ⟨_, rfl⟩
                have HRL := Lib.hid hRL
                have HPG : Hid (partition ltInt d a b pv = (RL.1, false, swp RL.2 RL.1 a)) := Lib.hid (by rw [HP.out, HU.out, HD.out, if_neg hkm, hRL])
                clear hRL
                have hcc : k = m ∨ k ≠ m := by omega
                rcases hcc with hcc | hne
                · subst hcc
                  go_wp2_with fail
                  go_region
                  all_goals go_wp2_with fail
                  have HRS : Hid (RowS w blk off (swp dk k k) ((wx.setCell ⟨blk, off + k, none⟩ (.int .u64 (V k))).setCell ⟨blk, off + k, none⟩ (.int .u64 (V k))).drew) := Lib.hid (by
                    simp only [HV.out]
                    exact (HRx.out.drew 1).swap (j := k) (k := k) (by omega) (by omega))
                  generalize ((wx.setCell ⟨blk, off + k, none⟩ (.int .u64 (V k))).setCell ⟨blk, off + k, none⟩ (.int .u64 (V k))).drew = wy at HRS ⊢
                  clear q1 q2 f1 f2
                  go_loopw [10, 11] (fun v10 v11 wr => ∃ (i j : Nat) (dk : Array Int), v10 = .int .i64 i ∧ v11 = .int .i64 j ∧ a < i ∧ i ≤ j + 2 ∧ j < b ∧ dk.size = L ∧ Hid (RowS w blk off dk wr) ∧ Hid (partLoop ltInt a i j dk = RL)) (fun v10 v11 _ => (intOf v11).toNat + 1 - (intOf v10).toNat)
                  case atStart => exact ⟨k + 1, k - 1, swp dk k k, by go_num, by go_num, by omega, by omega, by omega, by rw [size_swp]; exact hsk, HRS, HRL⟩
                  case round =>
                    obtain ⟨i, j, dk, rfl, rfl, hi0, hij, hjb, hsk, HR, HO⟩ := hrel
                    go_wp2_with fail
                    obtain ⟨V, hV⟩ : ∃ V : Nat → Int, ∀ t, V t = dk[t]! := ⟨fun t => dk[t]!, fun _ => rfl⟩
                    have HV := Lib.hid hV
                    clear hV
                    obtain ⟨wo, hwo⟩ : ∃ x, x = wr := ⟨_, rfl⟩
                    subst hwo
                    go_loopw [10] (fun v wr => ∃ k : Nat, v = .int .i64 k ∧ i ≤ k ∧ Hid (RowS w blk off dk wr) ∧ Hid (scanUp (fun x => ltInt x dk[a]!) dk j k = scanUp (fun x => ltInt x dk[a]!) dk j i)) (fun v _ => j + 1 - (intOf v).toNat)
                    case atStart => exact ⟨i, rfl, Nat.le_refl _, HR, Lib.hid rfl⟩
                    case round =>
                      obtain ⟨k, rfl, hik, HRk, HSU⟩ := hrel
                      by_cases hk : k ≤ j
                      · have hdk : decide ((k : Int) ≤ (j : Int)) = true := decide_eq_true (by omega)
                        have hdkn : decide (k ≤ j) = true := decide_eq_true hk
                        have hk1 : IntKind.i64.wrap ((k : Int) + 1) = ((k + 1 : Nat) : Int) := by rw [IntWalk.i64_in _ (by have := HQ.out; omega)]; omega
                        have hkL : k < L := by have := HQ.out; omega
                        obtain ⟨qa, fa⟩ := HCELL.out dk wr hsk HRk.out a haL
                        obtain ⟨qk, fk⟩ := HCELL.out dk wr hsk HRk.out k hkL
                        rw [← HV.out] at qa qk
                        have lk : (k : Int) < (L : Int) := by omega
                        go_wp2_with fail
                        go_quiet (first | (go_at_call 56; refine Calls.quiet_of_same (less_any _ _ _)))
                        cases hl : ltInt (V k) (V a) with
                        | true =>
                          have HE : Hid (scanUp (fun x => ltInt x dk[a]!) dk j (k + 1) = scanUp (fun x => ltInt x dk[a]!) dk j i) := Lib.hid (by rw [← HSU.out]; exact (scu_step hk (by first | (simp only [← HV.out, hl]; done) | (simp only [← HV.out, hl]; rfl))).symm)
                          clear hl
                          go_wp2
                          go_roundw
                          case rel => exact ⟨k + 1, by go_num, by omega, Lib.hid (HRk.out.drew _), HE⟩
                          case measure => simp [intOf]; omega
                        | false =>
                          have HU : Hid (scanUp (fun x => ltInt x dk[a]!) dk j i = k) := Lib.hid (by rw [← HSU.out]; exact scu_stop (.inr (by first | (simp only [← HV.out, hl]; done) | (simp only [← HV.out, hl]; rfl))))
                          have HRu : Hid (RowS w blk off dk (wr.drewN nq)) := Lib.hid (HRk.out.drew nq)
                          clear hl qa qk fa fk hdk hdkn lk hkL hk1
                          generalize wr.drewN nq = wu at HRu ⊢
                          go_wp2_with fail
                          obtain ⟨wo2, hwo2⟩ : ∃ x, x = wu := ⟨_, rfl⟩
                          subst hwo2
                          go_loopw [11] (fun v wr => ∃ m : Nat, v = .int .i64 m ∧ m ≤ j ∧ Hid (RowS w blk off dk wr) ∧ Hid (scanDown (fun x => !ltInt x dk[a]!) dk k m = scanDown (fun x => !ltInt x dk[a]!) dk k j)) (fun v _ => (intOf v).toNat)
                          case atStart => exact ⟨j, rfl, Nat.le_refl _, HRu, Lib.hid rfl⟩
                          case round =>
                            obtain ⟨m, rfl, hmj, HRm, HSD⟩ := hrel
                            by_cases hm : k ≤ m
                            · have hdm : decide ((k : Int) ≤ (m : Int)) = true := decide_eq_true (by omega)
                              have hdn : decide (k ≤ m) = true := decide_eq_true hm
                              have hm1 : IntKind.i64.wrap ((m : Int) - 1) = ((m - 1 : Nat) : Int) := by rw [IntWalk.i64_in _ (by have := HQ.out; omega)]; have := HQ.out; omega
                              have hmL : m < L := by have := HQ.out; omega
                              obtain ⟨qa, fa⟩ := HCELL.out dk wr hsk HRm.out a haL
                              obtain ⟨qm, fm⟩ := HCELL.out dk wr hsk HRm.out m hmL
                              rw [← HV.out] at qa qm
                              have lm : (m : Int) < (L : Int) := by omega
                              go_wp2_with fail
                              go_quiet (first | (go_at_call 56; refine Calls.quiet_of_same (less_any _ _ _)))
                              cases hl : ltInt (V m) (V a) with
                              | false =>
                                have HE : Hid (scanDown (fun x => !ltInt x dk[a]!) dk k (m - 1) = scanDown (fun x => !ltInt x dk[a]!) dk k j) := Lib.hid (by rw [← HSD.out]; exact (scd_step (by have := HQ.out; omega) hm (by first | (simp only [← HV.out, hl]; done) | (simp only [← HV.out, hl]; rfl))).symm)
                                clear hl
                                go_wp2
                                go_roundw
                                case rel => exact ⟨m - 1, rfl, by omega, Lib.hid (HRm.out.drew _), HE⟩
                                case measure => have := HQ.out; simp [intOf]; omega
                              | true =>
                                have HD : Hid (scanDown (fun x => !ltInt x dk[a]!) dk k j = m) := Lib.hid (by rw [← HSD.out]; exact scd_stop (.inr (by first | (simp only [← HV.out, hl]; done) | (simp only [← HV.out, hl]; rfl))))
                                have HRx : Hid (RowS w blk off dk (wr.drewN nq)) := Lib.hid (HRm.out.drew nq)
                                clear hl qa qm fa fm hdm hdn lm hmL
                                generalize wr.drewN nq = wx at HRx ⊢
                                have hkm : ¬ m < k := by omega
                                have hd1 : decide ((m : Int) < (k : Int)) = false := decide_eq_false (by omega)
                                have hd2 : decide (m < k) = false := decide_eq_false hkm
                                have hxL : k < L := by have := HQ.out; omega
                                have hyL : m < L := by have := HQ.out; omega
                                have hk1 : IntKind.i64.wrap ((k : Int) + 1) = ((k + 1 : Nat) : Int) := by rw [IntWalk.i64_in _ (by have := HQ.out; omega)]; omega
                                have hm1 : IntKind.i64.wrap ((m : Int) - 1) = ((m - 1 : Nat) : Int) := by rw [IntWalk.i64_in _ (by have := HQ.out; omega)]; have := HQ.out; omega
                                obtain ⟨q1, f1⟩ := HCELL.out dk wx hsk HRx.out k hxL
                                obtain ⟨q2, f2⟩ := HCELL.out dk wx hsk HRx.out m hyL
                                rw [← HV.out] at q1 q2
                                have l1 : (k : Int) < (L : Int) := by omega
                                have l2 : (m : Int) < (L : Int) := by omega
                                have HE : Hid (partLoop ltInt a (k + 1) (m - 1) (swp dk k m) = RL) := Lib.hid (by rw [← HO.out]; conv => rhs; rw [partLoop_eq, HU.out, HD.out, if_neg hkm])
                                have hcc : k = m ∨ k ≠ m := by omega
                                rcases hcc with hcc | hne
                                · subst hcc
                                  go_wp2_with fail
                                  go_region
                                  all_goals go_wp2_with fail
                                  go_roundw
                                  case rel =>
                                    refine ⟨k + 1, k - 1, swp dk k k, by go_num, by go_num, by omega, by omega, by omega, by rw [size_swp]; exact hsk, Lib.hid ?_, HE⟩
                                    simp only [HV.out]
                                    exact (HRx.out.drew 1).swap (j := k) (k := k) (by omega) (by omega)
                                  case measure => have := HQ.out; simp [intOf]; omega
                                · have hne2 : m ≠ k := fun e => hne e.symm
                                  go_wp2_with fail
                                  go_region
                                  all_goals go_wp2_with fail
                                  go_roundw
                                  case rel =>
                                    refine ⟨k + 1, m - 1, swp dk k m, by go_num, by go_num, by omega, by omega, by omega, by rw [size_swp]; exact hsk, Lib.hid ?_, HE⟩
                                    simp only [HV.out]
                                    exact (HRx.out.drew 1).swap (j := k) (k := m) (by omega) (by omega)
                                  case measure => have := HQ.out; simp [intOf]; omega
                            · have hdm : decide ((k : Int) ≤ (m : Int)) = false := decide_eq_false (by omega)
                              have hdn : decide (k ≤ m) = false := decide_eq_false hm
                              have HD : Hid (scanDown (fun x => !ltInt x dk[a]!) dk k j = m) := Lib.hid (by rw [← HSD.out]; exact scd_stop (.inl hm))
                              go_wp2_with fail
                              go_quiet (first | (go_at_call 56; refine Calls.quiet_of_same (less_any _ _ _)))
                              have HRx : Hid (RowS w blk off dk (wr.drewN nq)) := Lib.hid (HRm.out.drew nq)
                              generalize wr.drewN nq = wx at HRx ⊢
                              have hkm : m < k := by omega
                              have hd1 : decide ((m : Int) < (k : Int)) = true := decide_eq_true (by omega)
                              have hd2 : decide (m < k) = true := decide_eq_true hkm
                              have hyL : m < L := by have := HQ.out; omega
                              have HEND : Hid (partition ltInt d a b pv = (m, false, swp dk m a)) := Lib.hid (by
                                have h : partLoop ltInt a i j dk = (m, dk) := by rw [partLoop_eq, HU.out, HD.out, if_pos hkm]
                                rw [HPG.out, ← HO.out, h])
                              obtain ⟨q1, f1⟩ := HCELL.out dk wx hsk HRx.out a haL
                              obtain ⟨q2, f2⟩ := HCELL.out dk wx hsk HRx.out m hyL
                              rw [← HV.out] at q1 q2
                              have l2 : (m : Int) < (L : Int) := by omega
                              have l1 := LA.out
                              have hcc : a = m ∨ a ≠ m := by omega
                              rcases hcc with hcc | hne
                              · subst hcc
                                go_wp2_with fail
                                go_region
                                all_goals go_wp2_with fail
                                refine bodyPost_ret (results_tmp2 rfl _ _ _) rfl ⟨a, false, swp dk a a, rfl, HEND.out, ?_⟩
                                simp only [HV.out]
                                exact (HRx.out.drew 1).swap (j := a) (k := a) (by omega) (by omega)
                              · have hne2 : m ≠ a := fun e => hne e.symm
                                go_wp2_with fail
                                go_region
                                all_goals go_wp2_with fail
                                refine bodyPost_ret (results_tmp2 rfl _ _ _) rfl ⟨m, false, swp dk m a, rfl, HEND.out, ?_⟩
                                simp only [HV.out]
                                exact (HRx.out.drew 1).swap (j := m) (k := a) (by omega) (by omega)
                      · have hdk : decide ((k : Int) ≤ (j : Int)) = false := decide_eq_false (by omega)
                        have hdkn : decide (k ≤ j) = false := decide_eq_false hk
                        have HU : Hid (scanUp (fun x => ltInt x dk[a]!) dk j i = k) := Lib.hid (by rw [← HSU.out]; exact scu_stop (.inl hk))
                        go_wp2_with fail
                        go_quiet (first | (go_at_call 56; refine Calls.quiet_of_same (less_any _ _ _)))
                        have HRu : Hid (RowS w blk off dk (wr.drewN nq)) := Lib.hid (HRk.out.drew nq)
                        generalize wr.drewN nq = wu at HRu ⊢
                        go_wp2_with fail
                        obtain ⟨wo2, hwo2⟩ : ∃ x, x = wu := ⟨_, rfl⟩
                        subst hwo2
                        go_loopw [11] (fun v wr => ∃ m : Nat, v = .int .i64 m ∧ m ≤ j ∧ Hid (RowS w blk off dk wr) ∧ Hid (scanDown (fun x => !ltInt x dk[a]!) dk k m = scanDown (fun x => !ltInt x dk[a]!) dk k j)) (fun v _ => (intOf v).toNat)
                        case atStart => exact ⟨j, rfl, Nat.le_refl _, HRu, Lib.hid rfl⟩
                        case round =>
                          obtain ⟨m, rfl, hmj, HRm, HSD⟩ := hrel
                          by_cases hm : k ≤ m
                          · exfalso; omega
                          · have hdm : decide ((k : Int) ≤ (m : Int)) = false := decide_eq_false (by omega)
                            have hdn : decide (k ≤ m) = false := decide_eq_false hm
                            have HD : Hid (scanDown (fun x => !ltInt x dk[a]!) dk k j = m) := Lib.hid (by rw [← HSD.out]; exact scd_stop (.inl hm))
                            go_wp2_with fail
                            go_quiet (first | (go_at_call 56; refine Calls.quiet_of_same (less_any _ _ _)))
                            have HRx : Hid (RowS w blk off dk (wr.drewN nq)) := Lib.hid (HRm.out.drew nq)
                            generalize wr.drewN nq = wx at HRx ⊢
                            have hkm : m < k := by omega
                            have hd1 : decide ((m : Int) < (k : Int)) = true := decide_eq_true (by omega)
                            have hd2 : decide (m < k) = true := decide_eq_true hkm
                            have hyL : m < L := by have := HQ.out; omega
                            have HEND : Hid (partition ltInt d a b pv = (m, false, swp dk m a)) := Lib.hid (by
                              have h : partLoop ltInt a i j dk = (m, dk) := by rw [partLoop_eq, HU.out, HD.out, if_pos hkm]
                              rw [HPG.out, ← HO.out, h])
                            obtain ⟨q1, f1⟩ := HCELL.out dk wx hsk HRx.out a haL
                            obtain ⟨q2, f2⟩ := HCELL.out dk wx hsk HRx.out m hyL
                            rw [← HV.out] at q1 q2
                            have l2 : (m : Int) < (L : Int) := by omega
                            have l1 := LA.out
                            have hcc : a = m ∨ a ≠ m := by omega
                            rcases hcc with hcc | hne
                            · subst hcc
                              go_wp2_with fail
                              go_region
                              all_goals go_wp2_with fail
                              refine bodyPost_ret (results_tmp2 rfl _ _ _) rfl ⟨a, false, swp dk a a, rfl, HEND.out, ?_⟩
                              simp only [HV.out]
                              exact (HRx.out.drew 1).swap (j := a) (k := a) (by omega) (by omega)
                            · have hne2 : m ≠ a := fun e => hne e.symm
                              go_wp2_with fail
                              go_region
                              all_goals go_wp2_with fail
                              refine bodyPost_ret (results_tmp2 rfl _ _ _) rfl ⟨m, false, swp dk m a, rfl, HEND.out, ?_⟩
                              simp only [HV.out]
                              exact (HRx.out.drew 1).swap (j := m) (k := a) (by omega) (by omega)
                · have hne2 : m ≠ k := fun e => hne e.symm
                  go_wp2_with fail
                  go_region
                  all_goals go_wp2_with fail
                  have HRS : Hid (RowS w blk off (swp dk k m) ((wx.setCell ⟨blk, off + k, none⟩ (.int .u64 (V m))).setCell ⟨blk, off + m, none⟩ (.int .u64 (V k))).drew) := Lib.hid (by
                    simp only [HV.out]
                    exact (HRx.out.drew 1).swap (j := k) (k := m) (by omega) (by omega))
                  generalize ((wx.setCell ⟨blk, off + k, none⟩ (.int .u64 (V m))).setCell ⟨blk, off + m, none⟩ (.int .u64 (V k))).drew = wy at HRS ⊢
                  clear q1 q2 f1 f2
                  go_loopw [10, 11] (fun v10 v11 wr => ∃ (i j : Nat) (dk : Array Int), v10 = .int .i64 i ∧ v11 = .int .i64 j ∧ a < i ∧ i ≤ j + 2 ∧ j < b ∧ dk.size = L ∧ Hid (RowS w blk off dk wr) ∧ Hid (partLoop ltInt a i j dk = RL)) (fun v10 v11 _ => (intOf v11).toNat + 1 - (intOf v10).toNat)
                  case atStart => exact ⟨k + 1, m - 1, swp dk k m, by go_num, by go_num, by omega, by omega, by omega, by rw [size_swp]; exact hsk, HRS, HRL⟩
                  case round =>
                    obtain ⟨i, j, dk, rfl, rfl, hi0, hij, hjb, hsk, HR, HO⟩ := hrel
                    go_wp2_with fail
                    obtain ⟨V, hV⟩ : ∃ V : Nat → Int, ∀ t, V t = dk[t]! := ⟨fun t => dk[t]!, fun _ => rfl⟩
                    have HV := Lib.hid hV
                    clear hV
                    obtain ⟨wo, hwo⟩ : ∃ x, x = wr := ⟨_, rfl⟩
                    subst hwo
                    go_loopw [10] (fun v wr => ∃ k : Nat, v = .int .i64 k ∧ i ≤ k ∧ Hid (RowS w blk off dk wr) ∧ Hid (scanUp (fun x => ltInt x dk[a]!) dk j k = scanUp (fun x => ltInt x dk[a]!) dk j i)) (fun v _ => j + 1 - (intOf v).toNat)
                    case atStart => exact ⟨i, rfl, Nat.le_refl _, HR, Lib.hid rfl⟩
                    case round =>
                      obtain ⟨k, rfl, hik, HRk, HSU⟩ := hrel
                      by_cases hk : k ≤ j
                      · have hdk : decide ((k : Int) ≤ (j : Int)) = true := decide_eq_true (by omega)
                        have hdkn : decide (k ≤ j) = true := decide_eq_true hk
                        have hk1 : IntKind.i64.wrap ((k : Int) + 1) = ((k + 1 : Nat) : Int) := by rw [IntWalk.i64_in _ (by have := HQ.out; omega)]; omega
                        have hkL : k < L := by have := HQ.out; omega
                        obtain ⟨qa, fa⟩ := HCELL.out dk wr hsk HRk.out a haL
                        obtain ⟨qk, fk⟩ := HCELL.out dk wr hsk HRk.out k hkL
                        rw [← HV.out] at qa qk
                        have lk : (k : Int) < (L : Int) := by omega
                        go_wp2_with fail
                        go_quiet (first | (go_at_call 56; refine Calls.quiet_of_same (less_any _ _ _)))
                        cases hl : ltInt (V k) (V a) with
                        | true =>
                          have HE : Hid (scanUp (fun x => ltInt x dk[a]!) dk j (k + 1) = scanUp (fun x => ltInt x dk[a]!) dk j i) := Lib.hid (by rw [← HSU.out]; exact (scu_step hk (by first | (simp only [← HV.out, hl]; done) | (simp only [← HV.out, hl]; rfl))).symm)
                          clear hl
                          go_wp2
                          go_roundw
                          case rel => exact ⟨k + 1, by go_num, by omega, Lib.hid (HRk.out.drew _), HE⟩
                          case measure => simp [intOf]; omega
                        | false =>
                          have HU : Hid (scanUp (fun x => ltInt x dk[a]!) dk j i = k) := Lib.hid (by rw [← HSU.out]; exact scu_stop (.inr (by first | (simp only [← HV.out, hl]; done) | (simp only [← HV.out, hl]; rfl))))
                          have HRu : Hid (RowS w blk off dk (wr.drewN nq)) := Lib.hid (HRk.out.drew nq)
                          clear hl qa qk fa fk hdk hdkn lk hkL hk1
                          generalize wr.drewN nq = wu at HRu ⊢
                          go_wp2_with fail
                          obtain ⟨wo2, hwo2⟩ : ∃ x, x = wu := ⟨_, rfl⟩
                          subst hwo2
                          go_loopw [11] (fun v wr => ∃ m : Nat, v = .int .i64 m ∧ m ≤ j ∧ Hid (RowS w blk off dk wr) ∧ Hid (scanDown (fun x => !ltInt x dk[a]!) dk k m = scanDown (fun x => !ltInt x dk[a]!) dk k j)) (fun v _ => (intOf v).toNat)
                          case atStart => exact ⟨j, rfl, Nat.le_refl _, HRu, Lib.hid rfl⟩
                          case round =>
                            obtain ⟨m, rfl, hmj, HRm, HSD⟩ := hrel
                            by_cases hm : k ≤ m
                            · have hdm : decide ((k : Int) ≤ (m : Int)) = true := decide_eq_true (by omega)
                              have hdn : decide (k ≤ m) = true := decide_eq_true hm
                              have hm1 : IntKind.i64.wrap ((m : Int) - 1) = ((m - 1 : Nat) : Int) := by rw [IntWalk.i64_in _ (by have := HQ.out; omega)]; have := HQ.out; omega
                              have hmL : m < L := by have := HQ.out; omega
                              obtain ⟨qa, fa⟩ := HCELL.out dk wr hsk HRm.out a haL
                              obtain ⟨qm, fm⟩ := HCELL.out dk wr hsk HRm.out m hmL
                              rw [← HV.out] at qa qm
                              have lm : (m : Int) < (L : Int) := by omega
                              go_wp2_with fail
                              go_quiet (first | (go_at_call 56; refine Calls.quiet_of_same (less_any _ _ _)))
                              cases hl : ltInt (V m) (V a) with
                              | false =>
                                have HE : Hid (scanDown (fun x => !ltInt x dk[a]!) dk k (m - 1) = scanDown (fun x => !ltInt x dk[a]!) dk k j) := Lib.hid (by rw [← HSD.out]; exact (scd_step (by have := HQ.out; omega) hm (by first | (simp only [← HV.out, hl]; done) | (simp only [← HV.out, hl]; rfl))).symm)
                                clear hl
                                go_wp2
                                go_roundw
                                case rel => exact ⟨m - 1, rfl, by omega, Lib.hid (HRm.out.drew _), HE⟩
                                case measure => have := HQ.out; simp [intOf]; omega
                              | true =>
                                have HD : Hid (scanDown (fun x => !ltInt x dk[a]!) dk k j = m) := Lib.hid (by rw [← HSD.out]; exact scd_stop (.inr (by first | (simp only [← HV.out, hl]; done) | (simp only [← HV.out, hl]; rfl))))
                                have HRx : Hid (RowS w blk off dk (wr.drewN nq)) := Lib.hid (HRm.out.drew nq)
                                clear hl qa qm fa fm hdm hdn lm hmL
                                generalize wr.drewN nq = wx at HRx ⊢
                                have hkm : ¬ m < k := by omega
                                have hd1 : decide ((m : Int) < (k : Int)) = false := decide_eq_false (by omega)
                                have hd2 : decide (m < k) = false := decide_eq_false hkm
                                have hxL : k < L := by have := HQ.out; omega
                                have hyL : m < L := by have := HQ.out; omega
                                have hk1 : IntKind.i64.wrap ((k : Int) + 1) = ((k + 1 : Nat) : Int) := by rw [IntWalk.i64_in _ (by have := HQ.out; omega)]; omega
                                have hm1 : IntKind.i64.wrap ((m : Int) - 1) = ((m - 1 : Nat) : Int) := by rw [IntWalk.i64_in _ (by have := HQ.out; omega)]; have := HQ.out; omega
                                obtain ⟨q1, f1⟩ := HCELL.out dk wx hsk HRx.out k hxL
                                obtain ⟨q2, f2⟩ := HCELL.out dk wx hsk HRx.out m hyL
                                rw [← HV.out] at q1 q2
                                have l1 : (k : Int) < (L : Int) := by omega
                                have l2 : (m : Int) < (L : Int) := by omega
                                have HE : Hid (partLoop ltInt a (k + 1) (m - 1) (swp dk k m) = RL) := Lib.hid (by rw [← HO.out]; conv => rhs; rw [partLoop_eq, HU.out, HD.out, if_neg hkm])
                                have hcc : k = m ∨ k ≠ m := by omega
                                rcases hcc with hcc | hne
                                · subst hcc
                                  go_wp2_with fail
                                  go_region
                                  all_goals go_wp2_with fail
                                  go_roundw
                                  case rel =>
                                    refine ⟨k + 1, k - 1, swp dk k k, by go_num, by go_num, by omega, by omega, by omega, by rw [size_swp]; exact hsk, Lib.hid ?_, HE⟩
                                    simp only [HV.out]
                                    exact (HRx.out.drew 1).swap (j := k) (k := k) (by omega) (by omega)
                                  case measure => have := HQ.out; simp [intOf]; omega
                                · have hne2 : m ≠ k := fun e => hne e.symm
                                  go_wp2_with fail
                                  go_region
                                  all_goals go_wp2_with fail
                                  go_roundw
                                  case rel =>
                                    refine ⟨k + 1, m - 1, swp dk k m, by go_num, by go_num, by omega, by omega, by omega, by rw [size_swp]; exact hsk, Lib.hid ?_, HE⟩
                                    simp only [HV.out]
                                    exact (HRx.out.drew 1).swap (j := k) (k := m) (by omega) (by omega)
                                  case measure => have := HQ.out; simp [intOf]; omega
                            · have hdm : decide ((k : Int) ≤ (m : Int)) = false := decide_eq_false (by omega)
                              have hdn : decide (k ≤ m) = false := decide_eq_false hm
                              have HD : Hid (scanDown (fun x => !ltInt x dk[a]!) dk k j = m) := Lib.hid (by rw [← HSD.out]; exact scd_stop (.inl hm))
                              go_wp2_with fail
                              go_quiet (first | (go_at_call 56; refine Calls.quiet_of_same (less_any _ _ _)))
                              have HRx : Hid (RowS w blk off dk (wr.drewN nq)) := Lib.hid (HRm.out.drew nq)
                              generalize wr.drewN nq = wx at HRx ⊢
                              have hkm : m < k := by omega
                              have hd1 : decide ((m : Int) < (k : Int)) = true := decide_eq_true (by omega)
                              have hd2 : decide (m < k) = true := decide_eq_true hkm
                              have hyL : m < L := by have := HQ.out; omega
                              have HEND : Hid (partition ltInt d a b pv = (m, false, swp dk m a)) := Lib.hid (by
                                have h : partLoop ltInt a i j dk = (m, dk) := by rw [partLoop_eq, HU.out, HD.out, if_pos hkm]
                                rw [HPG.out, ← HO.out, h])
                              obtain ⟨q1, f1⟩ := HCELL.out dk wx hsk HRx.out a haL
                              obtain ⟨q2, f2⟩ := HCELL.out dk wx hsk HRx.out m hyL
                              rw [← HV.out] at q1 q2
                              have l2 : (m : Int) < (L : Int) := by omega
                              have l1 := LA.out
                              have hcc : a = m ∨ a ≠ m := by omega
                              rcases hcc with hcc | hne
                              · subst hcc
                                go_wp2_with fail
                                go_region
                                all_goals go_wp2_with fail
                                refine bodyPost_ret (results_tmp2 rfl _ _ _) rfl ⟨a, false, swp dk a a, rfl, HEND.out, ?_⟩
                                simp only [HV.out]
                                exact (HRx.out.drew 1).swap (j := a) (k := a) (by omega) (by omega)
                              · have hne2 : m ≠ a := fun e => hne e.symm
                                go_wp2_with fail
                                go_region
                                all_goals go_wp2_with fail
                                refine bodyPost_ret (results_tmp2 rfl _ _ _) rfl ⟨m, false, swp dk m a, rfl, HEND.out, ?_⟩
                                simp only [HV.out]
                                exact (HRx.out.drew 1).swap (j := m) (k := a) (by omega) (by omega)
                      · have hdk : decide ((k : Int) ≤ (j : Int)) = false := decide_eq_false (by omega)
                        have hdkn : decide (k ≤ j) = false := decide_eq_false hk
                        have HU : Hid (scanUp (fun x => ltInt x dk[a]!) dk j i = k) := Lib.hid (by rw [← HSU.out]; exact scu_stop (.inl hk))
                        go_wp2_with fail
                        go_quiet (first | (go_at_call 56; refine Calls.quiet_of_same (less_any _ _ _)))
                        have HRu : Hid (RowS w blk off dk (wr.drewN nq)) := Lib.hid (HRk.out.drew nq)
                        generalize wr.drewN nq = wu at HRu ⊢
                        go_wp2_with fail
                        obtain ⟨wo2, hwo2⟩ : ∃ x, x = wu := ⟨_, rfl⟩
                        subst hwo2
                        go_loopw [11] (fun v wr => ∃ m : Nat, v = .int .i64 m ∧ m ≤ j ∧ Hid (RowS w blk off dk wr) ∧ Hid (scanDown (fun x => !ltInt x dk[a]!) dk k m = scanDown (fun x => !ltInt x dk[a]!) dk k j)) (fun v _ => (intOf v).toNat)
                        case atStart => exact ⟨j, rfl, Nat.le_refl _, HRu, Lib.hid rfl⟩
                        case round =>
                          obtain ⟨m, rfl, hmj, HRm, HSD⟩ := hrel
                          by_cases hm : k ≤ m
                          · exfalso; omega
                          · have hdm : decide ((k : Int) ≤ (m : Int)) = false := decide_eq_false (by omega)
                            have hdn : decide (k ≤ m) = false := decide_eq_false hm
                            have HD : Hid (scanDown (fun x => !ltInt x dk[a]!) dk k j = m) := Lib.hid (by rw [← HSD.out]; exact scd_stop (.inl hm))
                            go_wp2_with fail
                            go_quiet (first | (go_at_call 56; refine Calls.quiet_of_same (less_any _ _ _)))
                            have HRx : Hid (RowS w blk off dk (wr.drewN nq)) := Lib.hid (HRm.out.drew nq)
                            generalize wr.drewN nq = wx at HRx ⊢
                            have hkm : m < k := by omega
                            have hd1 : decide ((m : Int) < (k : Int)) = true := decide_eq_true (by omega)
                            have hd2 : decide (m < k) = true := decide_eq_true hkm
                            have hyL : m < L := by have := HQ.out; omega
                            have HEND : Hid (partition ltInt d a b pv = (m, false, swp dk m a)) := Lib.hid (by
                              have h : partLoop ltInt a i j dk = (m, dk) := by rw [partLoop_eq, HU.out, HD.out, if_pos hkm]
                              rw [HPG.out, ← HO.out, h])
                            obtain ⟨q1, f1⟩ := HCELL.out dk wx hsk HRx.out a haL
                            obtain ⟨q2, f2⟩ := HCELL.out dk wx hsk HRx.out m hyL
                            rw [← HV.out] at q1 q2
                            have l2 : (m : Int) < (L : Int) := by omega
                            have l1 := LA.out
                            have hcc : a = m ∨ a ≠ m := by omega
                            rcases hcc with hcc | hne
                            · subst hcc
                              go_wp2_with fail
                              go_region
                              all_goals go_wp2_with fail
                              refine bodyPost_ret (results_tmp2 rfl _ _ _) rfl ⟨a, false, swp dk a a, rfl, HEND.out, ?_⟩
                              simp only [HV.out]
                              exact (HRx.out.drew 1).swap (j := a) (k := a) (by omega) (by omega)
                            · have hne2 : m ≠ a := fun e => hne e.symm
                              go_wp2_with fail
                              go_region
                              all_goals go_wp2_with fail
                              refine bodyPost_ret (results_tmp2 rfl _ _ _) rfl ⟨m, false, swp dk m a, rfl, HEND.out, ?_⟩
                              simp only [HV.out]
                              exact (HRx.out.drew 1).swap (j := m) (k := a) (by omega) (by omega)
            · have hdm : decide ((k : Int) ≤ (m : Int)) = false := decide_eq_false (by omega)
              have hdn : decide (k ≤ m) = false := decide_eq_false hm
              have HD : Hid (scanDown (fun x => !ltInt x dk[a]!) dk k j = m) := Lib.hid (by rw [← HSD.out]; exact scd_stop (.inl hm))
              go_wp2_with fail
              go_quiet (first | (go_at_call 56; refine Calls.quiet_of_same (less_any _ _ _)))
              have HRx : Hid (RowS w blk off dk (wr.drewN nq)) := Lib.hid (HRm.out.drew nq)
              generalize wr.drewN nq = wx at HRx ⊢
              have hkm : m < k := by omega
              have hd1 : decide ((m : Int) < (k : Int)) = true := decide_eq_true (by omega)
              have hd2 : decide (m < k) = true := decide_eq_true hkm
              have hyL : m < L := by have := HQ.out; omega
              have HEND : Hid (partition ltInt d a b pv = (m, true, swp dk m a)) := Lib.hid (by rw [HP.out, HU.out, HD.out, if_pos hkm])
              obtain ⟨q1, f1⟩ := HCELL.out dk wx hsk HRx.out a haL
              obtain ⟨q2, f2⟩ := HCELL.out dk wx hsk HRx.out m hyL
              rw [← HV.out] at q1 q2
              have l2 : (m : Int) < (L : Int) := by omega
              have l1 := LA.out
              have hcc : a = m ∨ a ≠ m := by omega
              rcases hcc with hcc | hne
              · subst hcc
                go_wp2_with fail
                go_region
                all_goals go_wp2_with fail
                refine bodyPost_ret (results_tmp2 rfl _ _ _) rfl ⟨a, true, swp dk a a, rfl, HEND.out, ?_⟩
                simp only [HV.out]
                exact (HRx.out.drew 1).swap (j := a) (k := a) (by omega) (by omega)
              · have hne2 : m ≠ a := fun e => hne e.symm
                go_wp2_with fail
                go_region
                all_goals go_wp2_with fail
                refine bodyPost_ret (results_tmp2 rfl _ _ _) rfl ⟨m, true, swp dk m a, rfl, HEND.out, ?_⟩
                simp only [HV.out]
                exact (HRx.out.drew 1).swap (j := m) (k := a) (by omega) (by omega)
      · have hdk : decide ((k : Int) ≤ (j : Int)) = false := decide_eq_false (by omega)
        have hdkn : decide (k ≤ j) = false := decide_eq_false hk
        have HU : Hid (scanUp (fun x => ltInt x dk[a]!) dk j i = k) := Lib.hid (by rw [← HSU.out]; exact scu_stop (.inl hk))
        go_wp2_with fail
        go_quiet (first | (go_at_call 56; refine Calls.quiet_of_same (less_any _ _ _)))
        have HRu : Hid (RowS w blk off dk (wr.drewN nq)) := Lib.hid (HRk.out.drew nq)
        generalize wr.drewN nq = wu at HRu ⊢
        go_wp2_with fail
        obtain ⟨wo2, hwo2⟩ : ∃ x, x = wu := ⟨_, rfl⟩
        subst hwo2
        go_loopw [11] (fun v wr => ∃ m : Nat, v = .int .i64 m ∧ m ≤ j ∧ Hid (RowS w blk off dk wr) ∧ Hid (scanDown (fun x => !ltInt x dk[a]!) dk k m = scanDown (fun x => !ltInt x dk[a]!) dk k j)) (fun v _ => (intOf v).toNat)
        case atStart => exact ⟨j, rfl, Nat.le_refl _, HRu, Lib.hid rfl⟩
        case round =>
          obtain ⟨m, rfl, hmj, HRm, HSD⟩ := hrel
          by_cases hm : k ≤ m
          · exfalso; omega
          · have hdm : decide ((k : Int) ≤ (m : Int)) = false := decide_eq_false (by omega)
            have hdn : decide (k ≤ m) = false := decide_eq_false hm
            have HD : Hid (scanDown (fun x => !ltInt x dk[a]!) dk k j = m) := Lib.hid (by rw [← HSD.out]; exact scd_stop (.inl hm))
            go_wp2_with fail
            go_quiet (first | (go_at_call 56; refine Calls.quiet_of_same (less_any _ _ _)))
            have HRx : Hid (RowS w blk off dk (wr.drewN nq)) := Lib.hid (HRm.out.drew nq)
            generalize wr.drewN nq = wx at HRx ⊢
            have hkm : m < k := by omega
            have hd1 : decide ((m : Int) < (k : Int)) = true := decide_eq_true (by omega)
            have hd2 : decide (m < k) = true := decide_eq_true hkm
            have hyL : m < L := by have := HQ.out; omega
            have HEND : Hid (partition ltInt d a b pv = (m, true, swp dk m a)) := Lib.hid (by rw [HP.out, HU.out, HD.out, if_pos hkm])
            obtain ⟨q1, f1⟩ := HCELL.out dk wx hsk HRx.out a haL
            obtain ⟨q2, f2⟩ := HCELL.out dk wx hsk HRx.out m hyL
            rw [← HV.out] at q1 q2
            have l2 : (m : Int) < (L : Int) := by omega
            have l1 := LA.out
            have hcc : a = m ∨ a ≠ m := by omega
            rcases hcc with hcc | hne
            · subst hcc
              go_wp2_with fail
              go_region
              all_goals go_wp2_with fail
              refine bodyPost_ret (results_tmp2 rfl _ _ _) rfl ⟨a, true, swp dk a a, rfl, HEND.out, ?_⟩
              simp only [HV.out]
              exact (HRx.out.drew 1).swap (j := a) (k := a) (by omega) (by omega)
            · have hne2 : m ≠ a := fun e => hne e.symm
              go_wp2_with fail
              go_region
              all_goals go_wp2_with fail
              refine bodyPost_ret (results_tmp2 rfl _ _ _) rfl ⟨m, true, swp dk m a, rfl, HEND.out, ?_⟩
              simp only [HV.out]
              exact (HRx.out.drew 1).swap (j := m) (k := a) (by omega) (by omega)
end Go.Proofs.YtfcabdgidlnljaaDoor
