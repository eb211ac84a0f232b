/-
  CONTRACT of the sort at sets: pdqsort, slices.Sort (printed by genlsrtk.py).
  CONTRACT of slices.Sort at sets, however many (up to 1024 of them).
-/
import Derived.Test.YtfcabdgidlnljaaDoorLSrtJ
import Derived.Test.YtfcabdgidlnljaaDoorLSrt2
import Derived.Test.YtfcabdgidlnljaaDoorLSrt1
import Derived.Sort.LotD3
import Derived.Deep.DeepCutAuto
import Derived.Deep.LoopGhost
namespace Go.Proofs.YtfcabdgidlnljaaDoor
open Go.RowKit Go.Sort
set_option linter.unusedVariables false
set_option linter.unusedSimpArgs false
set_option maxRecDepth 100000
theorem RowG.then_S {w w1 w2 : World} {blk off : Nat} {d d' : Array Int} (h : RowG w blk off d w1) (k : RowS w1 blk off d' w2) (hs : d'.size = d.size) : RowG w blk off d' w2 := h.trans (k.toG h.holds hs)
theorem RowG.drewN {w w1 : World} {blk off : Nat} {d : Array Int} (h : RowG w blk off d w1) (n : Nat) : RowG w blk off d (w1.drewN n) := ⟨⟨h.grown.os, h.grown.tape, h.grown.output, h.grown.size, h.grown.block⟩, h.holds⟩
/-- What pdqsort leaves. -/
def PdqR (w : World) (blk off : Nat) (d : Array Int) (a b : Nat) (e : Ending) (w' : World) : Prop := e = .returned (.tuple #[]) ∧ ∃ d', PermIn a b d d' ∧ SortedIn ltInt a b d' ∧ RowG w blk off d' w'
/-- The loop's words. -/
def PdqL (w : World) (blk off : Nat) (d : Array Int) (a b L : Nat) (x y : Nat) (wr : World) : Prop :=
  ∃ dk : Array Int, a ≤ x ∧ x ≤ y ∧ y ≤ b ∧ dk.size = L ∧ RowG w blk off dk wr ∧ Go.Sort.Below ltInt x y dk ∧ ∀ R, PermIn x y dk R → SortedIn ltInt x y R → PermIn a b d R ∧ SortedIn ltInt a b R
theorem insertion_L {blk off cap L a b : Nat} {d : Array Int} {w : World} (hL : d.size = L) (hH : Holds eU w blk off d) (hab : a ≤ b) (hb : b ≤ L) (hsz : L < 1000000) :
    Calls Tryd.prog 50 #[.slice (some ⟨blk, off, none⟩) L cap, .int .i64 a, .int .i64 b] w fun e w' => e = .returned (.tuple #[]) ∧ RowS w blk off (insertionSort ltInt d a b) w' := by
  subst hL
  exact insertion_any blk off cap a b d w hH hab hb hsz
theorem heap_L {blk off cap L a b : Nat} {d : Array Int} {w : World} (hL : d.size = L) (hH : Holds eU w blk off d) (hab : a < b) (hb : b ≤ L) (hsz : L < 1000000) :
    Calls Tryd.prog 51 #[.slice (some ⟨blk, off, none⟩) L cap, .int .i64 a, .int .i64 b] w fun e w' => e = .returned (.tuple #[]) ∧ RowS w blk off (heapSort ltInt d a b) w' := by
  subst hL
  exact heap_any blk off cap a b d w hH hab hb hsz
theorem reverse_L {blk off cap L a b : Nat} {d : Array Int} {w : World} (hL : d.size = L) (hH : Holds eU w blk off d) (hab : a < b) (hb : b ≤ L) (hsz : L < 1000000) :
    Calls Tryd.prog 54 #[.slice (some ⟨blk, off, none⟩) L cap, .int .i64 a, .int .i64 b] w fun e w' => e = .returned (.tuple #[]) ∧ RowS w blk off (reverseRange d a b) w' := by
  subst hL
  exact reverse_any blk off cap a b d w hH (by omega) hb hsz (by omega)
set_option maxHeartbeats 16000000 in
theorem pdq_any (n : Nat) : ∀ {blk off cap L a b lim : Nat} {d : Array Int} {w : World}, b - a = n → d.size = L → Holds eU w blk off d → a ≤ b → b ≤ L → L < 1000000 → Go.Sort.Below ltInt a b d → lim ≤ 1000000 →
    Calls Tryd.prog 47 #[.slice (some ⟨blk, off, none⟩) L cap, .int .i64 a, .int .i64 b, .int .i64 lim] w (PdqR w blk off d a b) := by
  induction n using Nat.strongRecOn with
  | _ n IH =>
    intro blk off cap L a b lim d w hn hL hH hab hb hsz hB hlim
    have HI : Hid (∀ {a' b' lim' : Nat} {d' : Array Int} {w' : World}, b' - a' < b - a → d'.size = L → Holds eU w' blk off d' → a' ≤ b' → b' ≤ L → Go.Sort.Below ltInt a' b' d' → lim' ≤ 1000000 → Calls Tryd.prog 47 #[.slice (some ⟨blk, off, none⟩) L cap, .int .i64 a', .int .i64 b', .int .i64 lim'] w' (PdqR w' blk off d' a' b')) :=
      Lib.hid (fun h1 h2 h3 h4 h5 h6 h7 => IH _ (by omega) rfl h2 h3 h4 h5 hsz h6 h7)
    have HQ : Hid (a ≤ b ∧ b ≤ L ∧ L < 1000000 ∧ d.size = L ∧ lim ≤ 1000000) := Lib.hid ⟨hab, hb, hsz, hL, hlim⟩
    have HL0 : Hid (PdqL w blk off d a b L a b w) := Lib.hid ⟨d, Nat.le_refl _, hab, Nat.le_refl _, hL, RowG.refl hH, hB, fun R h1 h2 => ⟨h1, h2⟩⟩
    clear IH hn hL hH hab hb hsz hB hlim
    go_enter Tryd.func47, Tryd.ntmps47
    go_wp2
    go_loopg [1, 2, 3, 8, 9] (b - a) (fun g v1 v2 v3 v8 v9 wr => ∃ (x y l : Nat) (wb wp : Bool), g + x = y ∧ v1 = .int .i64 x ∧ v2 = .int .i64 y ∧ v3 = .int .i64 l ∧ v8 = .bool wb ∧ v9 = .bool wp ∧ l ≤ lim ∧ Hid (PdqL w blk off d a b L x y wr))
    case atStart => exact ⟨a, b, lim, true, true, by have := HQ.out; omega, rfl, rfl, rfl, rfl, rfl, Nat.le_refl _, HL0⟩
    case round =>
      obtain ⟨x, y, l, wb, wp, hg, rfl, rfl, rfl, rfl, rfl, hll, HPL⟩ := hrel
      obtain ⟨dk, hax, hxy, hyb, hsk, hR, hBk, hG⟩ := HPL.out
      have HR := Lib.hid hR
      have HB := Lib.hid hBk
      have HG := Lib.hid hG
      obtain ⟨T, hT⟩ : ∃ T, y - x = T := ⟨_, rfl⟩
      have eT : IntKind.i64.wrap ((y : Int) - (x : Int)) = (T : Int) := by rw [IntWalk.i64_in _ (by have := HQ.out; omega)]; omega
      have HX : Hid (a ≤ x ∧ x ≤ y ∧ y ≤ b ∧ y - x = T ∧ dk.size = L) := Lib.hid ⟨hax, hxy, hyb, hT, hsk⟩
      clear HPL hR hBk hG
      by_cases h12 : T ≤ 12
      · have hd : decide ((T : Int) ≤ 12) = true := decide_eq_true (by omega)
        have hd2 : decide (T ≤ 12) = true := decide_eq_true h12
        have HC := Lib.hid (insertion_L (cap := cap) hsk HR.out.holds hxy (by have := HQ.out; omega) HQ.out.2.2.1)
        have HS := Lib.hid (insertionSort_holds (lt := ltInt) swo_ltInt dk x y hxy (by have := HQ.out; omega))
        go_wp2_with (go_at_call 50; refine HC.out.mono ?_; rintro e w1 ⟨rfl, hr⟩; have HR1 := Lib.hid hr; clear hr HC)
        exact bodyPost_ret (results_none rfl _ _ _) rfl ⟨rfl, _, (HG.out _ HS.out.1 HS.out.2).1, (HG.out _ HS.out.1 HS.out.2).2, HR.out.then_S HR1.out HS.out.1.1⟩
      · have hd : decide ((T : Int) ≤ 12) = false := decide_eq_false (by omega)
        have hd2 : decide (T ≤ 12) = false := decide_eq_false h12
        by_cases hl0 : l = 0
        · subst hl0
          have HC := Lib.hid (heap_L (cap := cap) (a := x) (b := y) hsk HR.out.holds (by omega) (by have := HQ.out; omega) HQ.out.2.2.1)
          have HS := Lib.hid (heapSort_holds (lt := ltInt) swo_ltInt dk x y hxy (by have := HQ.out; omega))
          go_wp2_with (go_at_call 51; refine HC.out.mono ?_; rintro e w1 ⟨rfl, hr⟩; have HR1 := Lib.hid hr; clear hr HC)
          exact bodyPost_ret (results_none rfl _ _ _) rfl ⟨rfl, _, (HG.out _ HS.out.1 HS.out.2).1, (HG.out _ HS.out.1 HS.out.2).2, HR.out.then_S HR1.out HS.out.1.1⟩
        · have hl1 : decide ((l : Int) = 0) = false := decide_eq_false (by omega)
          have hl2 : ((l : Int) == 0) = false := beq_eq_false_iff_ne.2 (by omega)
          have hlw : IntKind.i64.wrap ((l : Int) - 1) = ((l - 1 : Nat) : Int) := by rw [IntWalk.i64_in _ (by have := HQ.out; omega)]; omega
          have HT : Hid (12 < T ∧ 12 < y - x) := Lib.hid ⟨by omega, by omega⟩
          clear h12 hT
          go_upto_if 35 with fail
          go_cut [3] (fun v3 w' => ∃ (l1 : Nat) (d1 : Array Int), v3 = .int .i64 l1 ∧ l1 ≤ l ∧ Hid (RowG w blk off d1 w') ∧ Hid (PermIn x y dk d1))
          case first =>
            cases wb with
            | true =>
              go_wp2_with fail
              go_meet
              exact ⟨l, dk, rfl, Nat.le_refl _, HR, Lib.hid (permIn_refl _ _ _)⟩
            | false =>
              have HC := Lib.hid (break_any (cap := cap) hsk HR.out.holds HT.out.2 (by have := HQ.out; omega) HQ.out.2.2.1)
              go_wp2_with (go_at_call 52; refine HC.out.mono ?_; rintro e w1 ⟨rfl, d1, hp, hr⟩; have HR1 : Hid (RowG w blk off d1 w1) := Lib.hid (HR.out.trans hr); have HP1 := Lib.hid hp; clear hr hp HC)
              go_meet
              exact ⟨l - 1, d1, by go_num, by omega, HR1, HP1⟩
          case rest =>
            obtain ⟨l1, d1, rfl, hl1l, HR1, HP1⟩ := hcut
            obtain ⟨w1, rfl⟩ : ∃ w1 : World, w1 = wc := ⟨_, rfl⟩
            have hs1 : d1.size = L := by rw [HP1.out.1]; exact hsk
            have HC := Lib.hid (choose_any (cap := cap) hs1 HR1.out.holds HT.out.2 (by have := HQ.out; omega) HQ.out.2.2.1)
            have hb1 : blk < w1.heap.size := holds_lt HR1.out.holds (by have := HT.out; have := HQ.out; omega)
            have HBK : Hid (blk < w1.heap.size ∧ w.heap.size ≤ w1.heap.size) := Lib.hid ⟨hb1, HR1.out.grown.size⟩
            clear hb1
            go_upto_if 50 with (go_at_call 53; refine HC.out.mono ?_; rintro e w2 ⟨p, h, rfl, hp0, hp1, hbel⟩; have HR2 : Hid (RowG w blk off d1 w2) := Lib.hid (HR1.out.below HBK.out.1 HBK.out.2 hbel); clear HC hbel)
            go_cut [11, 12] (fun v11 v12 w' => ∃ (p : Nat) (h : Int) (d2 : Array Int), v11 = .int .i64 p ∧ v12 = .int .i64 h ∧ x ≤ p ∧ p < y ∧ Hid (RowG w blk off d2 w') ∧ Hid (PermIn x y d1 d2))
            case first =>
              by_cases hh : h = 2
              · subst hh
                obtain ⟨A1, hA1⟩ : ∃ A1, y - 1 = A1 := ⟨_, rfl⟩
                obtain ⟨B1, hB1⟩ : ∃ B1, p - x = B1 := ⟨_, rfl⟩
                obtain ⟨C1, hC1⟩ : ∃ C1, A1 - B1 = C1 := ⟨_, rfl⟩
                have f1 : IntKind.i64.wrap ((y : Int) - 1) = (A1 : Int) := by rw [IntWalk.i64_in _ (by have := HQ.out; omega)]; omega
                have f2 : IntKind.i64.wrap ((p : Int) - (x : Int)) = (B1 : Int) := by rw [IntWalk.i64_in _ (by have := HQ.out; omega)]; omega
                have f3 : IntKind.i64.wrap ((A1 : Int) - (B1 : Int)) = (C1 : Int) := by rw [IntWalk.i64_in _ (by have := HQ.out; omega)]; omega
                have HC := Lib.hid (reverse_L (cap := cap) (a := x) (b := y) hs1 HR2.out.holds (by omega) (by have := HQ.out; omega) HQ.out.2.2.1)
                have HPV : Hid (PermIn x y d1 (reverseRange d1 x y)) := Lib.hid (reverseRange_holds d1 x y hxy (by have := HQ.out; omega))
                have HCC : Hid (x ≤ C1 ∧ C1 < y) := Lib.hid ⟨by omega, by omega⟩
                clear hA1 hB1 hC1
                go_wp2_with (go_at_call 54; refine HC.out.mono ?_; rintro e w3 ⟨rfl, hr⟩; have HR3 : Hid (RowG w blk off (reverseRange d1 x y) w3) := Lib.hid (HR2.out.then_S hr HPV.out.1); clear hr HC)
                go_meet
                exact ⟨C1, 1, _, rfl, rfl, HCC.out.1, HCC.out.2, HR3, HPV⟩
              · have hhd : (h == 2) = false := beq_eq_false_iff_ne.2 hh
                go_wp2_with fail
                go_meet
                exact ⟨p, h, d1, rfl, rfl, hp0, hp1, HR2, Lib.hid (permIn_refl _ _ _)⟩
            case rest =>
              clear hp0 hp1 HR2
              clear h
              clear p
              obtain ⟨p, h, d2, rfl, rfl, hp0, hp1, HR2, HP2⟩ := hcut
              obtain ⟨w2, rfl⟩ : ∃ w2 : World, w2 = wc := ⟨_, rfl⟩
              have hs2 : d2.size = L := by rw [HP2.out.1]; exact hs1
              go_upto_region 15 with fail
              go_cut [68] (fun v w' => ∃ q : Bool, v = .bool q ∧ w' = w2)
              case first =>
                cases wb <;> cases wp
                all_goals (go_wp2_with fail)
                all_goals go_meet
                all_goals exact ⟨_, rfl, rfl⟩
              case rest =>
                obtain ⟨q, rfl, rfl⟩ := hcut
                go_upto_if 68 with fail
                go_cut [0] (fun v w' => v = .slice (some ⟨blk, off, none⟩) L cap ∧ ∃ d3 : Array Int, Hid (RowG w blk off d3 w') ∧ Hid (PermIn x y d2 d3))
                case first =>
                  cases q with
                  | false =>
                    go_wp2_with fail
                    go_meet
                    exact ⟨rfl, d2, HR2, Lib.hid (permIn_refl _ _ _)⟩
                  | true =>
                    have HB2 : Hid (Go.Sort.Below ltInt x y d2) := Lib.hid ((HB.out.perm (by have := HQ.out; omega) HP1.out).perm (by have := HQ.out; omega) HP2.out)
                    have HS := Lib.hid (partialInsertionSort_holds (lt := ltInt) swo_ltInt d2 x y (by omega) (by have := HQ.out; omega) HB2.out)
                    have HC := Lib.hid (partial_any (cap := cap) (a := x) (b := y) hs2 HR2.out.holds (by omega) (by have := HQ.out; omega) HQ.out.2.2.1)
                    go_wp2_with fail
                    go_at_call 55
                    refine HC.out.mono ?_
                    rintro e w3 ⟨r, d3, rfl, hp, hr⟩
                    rw [hp] at HS
                    have HR3 : Hid (RowG w blk off d3 w3) := Lib.hid (HR2.out.then_S hr HS.out.1.1)
                    clear HC hp hr
                    cases r with
                    | false =>
                      go_wp2_with fail
                      go_meet
                      exact ⟨rfl, d3, HR3, Lib.hid HS.out.1⟩
                    | true =>
                      have HPP : Hid (PermIn x y dk d3) := Lib.hid (permIn_trans _ _ _ _ _ (permIn_trans _ _ _ _ _ HP1.out HP2.out) HS.out.1)
                      have HSS : Hid (SortedIn ltInt x y d3) := Lib.hid (HS.out.2 rfl)
                      go_wp2_with fail
                      exact bodyPost_ret (results_none rfl _ _ _) rfl ⟨rfl, d3, (HG.out _ HPP.out HSS.out).1, (HG.out _ HPP.out HSS.out).2, HR3.out⟩
                case rest =>
                  obtain ⟨hs0, d3, HR3, HP3⟩ := hcut
                  subst hs0
                  obtain ⟨w3, rfl⟩ : ∃ w3 : World, w3 = wc := ⟨_, rfl⟩
                  have hs3 : d3.size = L := by rw [HP3.out.1]; exact hs2
                  have HPP : Hid (PermIn x y dk d3) := Lib.hid (permIn_trans _ _ _ _ _ (permIn_trans _ _ _ _ _ HP1.out HP2.out) HP3.out)
                  have HB3 : Hid (Go.Sort.Below ltInt x y d3) := Lib.hid (HB.out.perm (by have := HQ.out; omega) HPP.out)
                  have HG3 : Hid (∀ R, PermIn x y d3 R ∧ SortedIn ltInt x y R → PermIn a b d R ∧ SortedIn ltInt a b R) := Lib.hid fun R h => HG.out R (permIn_trans _ _ _ _ _ HPP.out h.1) h.2
                  clear HR1 HR2 HP1 HP2 HP3 hs1 hs2
                  go_upto_region 17 with fail
                  go_cut [87] (fun v w' => ∃ q : Bool, v = .bool q ∧ Hid (∃ n, w' = w3.drewN n) ∧ Hid (q = true → 0 < x ∧ ltInt d3[x - 1]! d3[p]! = false))
                  case first =>
                    obtain ⟨V, hV⟩ : ∃ V : Nat → Int, ∀ t, V t = d3[t]! := ⟨fun t => d3[t]!, fun _ => rfl⟩
                    have HV := Lib.hid hV
                    have hpL : p < L := by have := HQ.out; omega
                    obtain ⟨c1, y1⟩ := HR3.out.holds p (by omega)
                    rw [← hV] at c1
                    have lp : (p : Int) < (L : Int) := by omega
                    by_cases hx0 : 0 < x
                    · obtain ⟨x1, hx1⟩ : ∃ x1, x - 1 = x1 := ⟨_, rfl⟩
                      have hxL : x1 < L := by have := HQ.out; omega
                      have ex : IntKind.i64.wrap ((x : Int) - 1) = (x1 : Int) := by rw [IntWalk.i64_in _ (by have := HQ.out; omega)]; omega
                      have hdx : decide ((0 : Int) < (x : Int)) = true := decide_eq_true (by omega)
                      obtain ⟨c2, y2⟩ := HR3.out.holds x1 (by omega)
                      rw [← hV] at c2
                      have lx : (x1 : Int) < (L : Int) := by omega
                      have HX1 : Hid (x - 1 = x1 ∧ 0 < x) := Lib.hid ⟨hx1, hx0⟩
                      clear hV hx1 hpL hxL
                      go_wp2_with fail
                      go_quiet (first | (go_at_call 56; refine Calls.quiet_of_same (less_any _ _ _)))
                      cases hl : ltInt (V x1) (V p) with
                      | true =>
                        clear hl
                        go_wp2_with fail
                        go_meet
                        exact ⟨false, rfl, Lib.hid ⟨_, rfl⟩, Lib.hid (fun h => by cases h)⟩
                      | false =>
                        have HE : Hid (ltInt d3[x - 1]! d3[p]! = false) := Lib.hid (by rw [HX1.out.1, ← HV.out, ← HV.out]; exact hl)
                        clear hl
                        go_wp2_with fail
                        go_meet
                        exact ⟨true, rfl, Lib.hid ⟨_, rfl⟩, Lib.hid (fun _ => ⟨HX1.out.2, HE.out⟩)⟩
                    · have hdx : decide ((0 : Int) < (x : Int)) = false := decide_eq_false (by omega)
                      clear hV hpL
                      go_wp2_with fail
                      go_quiet (first | (go_at_call 56; refine Calls.quiet_of_same (less_any _ _ _)))
                      go_wp2_with fail
                      go_meet
                      exact ⟨false, rfl, Lib.hid ⟨_, rfl⟩, Lib.hid (fun h => by cases h)⟩
                  case rest =>
                    obtain ⟨q, rfl, HW, HQQ⟩ := hcut
                    obtain ⟨w4, rfl⟩ : ∃ w4 : World, w4 = wc := ⟨_, rfl⟩
                    have HR4 : Hid (RowG w blk off d3 w4) := Lib.hid (by obtain ⟨n, hn⟩ := HW.out; rw [hn]; exact HR3.out.drewN n)
                    clear HW HR3
                    cases q with
                    | true =>
                      have HC := Lib.hid (parteq_any (cap := cap) (a := x) (b := y) (pv := p) hs3 HR4.out.holds (by have := HT.out; omega) (by have := HQ.out; omega) HQ.out.2.2.1 hp0 hp1)
                      go_wp2_with fail
                      go_at_call 57
                      refine HC.out.mono ?_
                      rintro e w5 ⟨mid, d4, rfl, hpe, hr⟩
                      obtain ⟨r1, r2, r3, r4, r5⟩ := round_eq swo_ltInt (partitionEqual_holds ltInt) (HQQ.out (by simp)).1 hp0 hp1 (by have := HQ.out; omega) HB3.out (HQQ.out (by simp)).2 hpe
                      have HR5 : Hid (RowG w blk off d4 w5) := Lib.hid (HR4.out.then_S hr r3)
                      have HN : Hid (PdqL w blk off d a b L mid y w5) := Lib.hid ⟨d4, by omega, r2, hyb, by rw [r3]; exact hs3, HR5.out, r4, fun R h1 h2 => HG3.out R (r5 R h1 h2)⟩
                      have hmm : x < mid ∧ mid ≤ y := ⟨r1, r2⟩
                      clear HC hpe hr r1 r2 r3 r4 r5 HR5
                      go_wp2_with fail
                      go_roundg (y - mid)
                      case measure => omega
                      case rel => exact ⟨mid, y, l1, wb, wp, by omega, rfl, rfl, rfl, rfl, rfl, by omega, HN⟩
                    | false =>
                      have HC := Lib.hid (partn_any (cap := cap) (a := x) (b := y) (pv := p) hs3 HR4.out.holds (by have := HT.out; omega) (by have := HQ.out; omega) HQ.out.2.2.1 hp0 hp1)
                      go_wp2_with fail
                      go_at_call 58
                      refine HC.out.mono ?_
                      rintro e w5 ⟨mid, r, d4, rfl, hpe, hr⟩
                      obtain ⟨r1, r2, r3, r4, r5, r6, r7⟩ := round_part swo_ltInt (partition_holds ltInt) hp0 hp1 (by have := HQ.out; omega) HB3.out hpe
                      have HR5 : Hid (RowG w blk off d4 w5) := Lib.hid (HR4.out.then_S hr r3)
                      have hs4 : d4.size = L := by rw [r3]; exact hs3
                      have H4 := Lib.hid r4
                      have H5 := Lib.hid r5
                      have H6 := Lib.hid r6
                      have H7 := Lib.hid r7
                      clear HC hpe hr r3 r4 r5 r6 r7
                      obtain ⟨A, hA⟩ : ∃ A, mid - x = A := ⟨_, rfl⟩
                      obtain ⟨B, hB⟩ : ∃ B, y - mid = B := ⟨_, rfl⟩
                      obtain ⟨Q, hQ8⟩ : ∃ Q, T / 8 = Q := ⟨_, rfl⟩
                      obtain ⟨m1, hm1⟩ : ∃ m1, mid + 1 = m1 := ⟨_, rfl⟩
                      have k1 : IntKind.i64.wrap ((mid : Int) - (x : Int)) = (A : Int) := by rw [IntWalk.i64_in _ (by have := HQ.out; omega)]; omega
                      have k2 : IntKind.i64.wrap ((y : Int) - (mid : Int)) = (B : Int) := by rw [IntWalk.i64_in _ (by have := HQ.out; omega)]; omega
                      have k3 : (T : Int).tdiv 8 = (Q : Int) := by rw [Int.tdiv_eq_ediv_of_nonneg (by omega)]; omega
                      have k4 : IntKind.i64.wrap (Q : Int) = (Q : Int) := IntWalk.i64_in _ (by have := HQ.out; have := HX.out; omega)
                      have k5 : IntKind.i64.wrap ((mid : Int) + 1) = (m1 : Int) := by rw [IntWalk.i64_in _ (by have := HQ.out; omega)]; omega
                      have HM : Hid (mid - x = A ∧ y - mid = B ∧ mid + 1 = m1 ∧ x ≤ mid ∧ mid < y) := Lib.hid ⟨hA, hB, hm1, r1, r2⟩
                      by_cases hAB : A < B
                      · have hd3 : decide ((A : Int) < (B : Int)) = true := decide_eq_true (by omega)
                        have hd4 : decide (A < B) = true := decide_eq_true hAB
                        have HC := Lib.hid (HI.out (a' := x) (b' := mid) (lim' := l1) (by have := HX.out; omega) hs4 HR5.out.holds r1 (by have := HQ.out; omega) H4.out (by have := HQ.out; omega))
                        clear hA hB hQ8 hm1 r1 r2
                        go_wp2_with fail
                        go_at_call 47
                        refine HC.out.mono ?_
                        rintro e w6 ⟨rfl, d5, s1, s2, s3⟩
                        obtain ⟨t1, t2⟩ := H6.out d5 s1 s2
                        have HN : Hid (PdqL w blk off d a b L m1 y w6) := Lib.hid ⟨d5, by have := HM.out; omega, by have := HM.out; omega, hyb, by rw [s1.1]; exact hs4, HR5.out.trans s3, by rw [← HM.out.2.2.1]; exact t1, fun R h1 h2 => HG3.out R (t2 R (by rw [HM.out.2.2.1]; exact h1) (by rw [HM.out.2.2.1]; exact h2))⟩
                        clear HC s1 s2 s3 t1 t2
                        go_wp2_with fail
                        go_roundg (y - m1)
                        case measure => have := HM.out; omega
                        case rel => exact ⟨m1, y, l1, _, r, by have := HM.out; omega, rfl, rfl, rfl, rfl, rfl, by omega, HN⟩
                      · have hd3 : decide ((A : Int) < (B : Int)) = false := decide_eq_false (by omega)
                        have hd4 : decide (A < B) = false := decide_eq_false hAB
                        have HC := Lib.hid (HI.out (a' := m1) (b' := y) (lim' := l1) (by have := HX.out; omega) hs4 HR5.out.holds (by omega) (by have := HQ.out; omega) (by rw [← hm1]; exact H5.out) (by have := HQ.out; omega))
                        clear hA hB hQ8 hm1 r1 r2
                        go_wp2_with fail
                        go_at_call 47
                        refine HC.out.mono ?_
                        rintro e w6 ⟨rfl, d5, s1, s2, s3⟩
                        obtain ⟨t1, t2⟩ := H7.out d5 (by rw [HM.out.2.2.1]; exact s1) (by rw [HM.out.2.2.1]; exact s2)
                        have HN : Hid (PdqL w blk off d a b L x mid w6) := Lib.hid ⟨d5, hax, by have := HM.out; omega, by have := HM.out; omega, by rw [s1.1]; exact hs4, HR5.out.trans s3, t1, fun R h1 h2 => HG3.out R (t2 R h1 h2)⟩
                        clear HC s1 s2 s3 t1 t2
                        go_wp2_with fail
                        go_roundg (mid - x)
                        case measure => have := HM.out; omega
                        case rel => exact ⟨x, mid, l1, _, r, by have := HM.out; omega, rfl, rfl, rfl, rfl, rfl, by omega, HN⟩
end Go.Proofs.YtfcabdgidlnljaaDoor
namespace Go.Proofs.YtfcabdgidlnljaaDoor
open Go.RowKit Go.Sort
set_option linter.unusedVariables false
set_option linter.unusedSimpArgs false
set_option maxRecDepth 100000
theorem bitLen_le_1024 {n : Nat} (h : n ≤ 1024) : Lib.bitLen n ≤ 1000000 := by
  by_cases h0 : n = 0
  · subst h0; decide
  · obtain ⟨h1, h2, h3⟩ := Lib.bitLenAux_bounds 64 n (by omega) h0
    have : Lib.bitLen n < 12 := by
      apply Nat.lt_of_not_le
      intro hm
      have h4 : Lib.bitLenAux 64 n = Lib.bitLen n := rfl
      rw [h4] at h2
      have := Nat.pow_le_pow_right (n := 2) (by omega) (show 11 ≤ Lib.bitLen n - 1 by omega)
      omega
    omega
set_option maxHeartbeats 4000000 in
theorem sort_all_any (blk cap : Nat) (d : Array Int) (w : World) (hH : Holds eU w blk 0 d) (hsz : d.size ≤ 1024) :
    Calls Tryd.prog 35 #[.slice (some ⟨blk, 0, none⟩) d.size cap] w (PdqR w blk 0 d 0 d.size) := by
  have HL := Lib.hid (Tryd.bits_Len (d.size : Int) w (by omega) (by omega))
  obtain ⟨k, hk⟩ : ∃ k : Nat, Lib.bitLen ((d.size : Int)).toNat = k := ⟨_, rfl⟩
  have hk2 : k ≤ 1000000 := by rw [← hk]; exact bitLen_le_1024 (by omega)
  have HK := Lib.hid hk
  have HC := Lib.hid (pdq_any _ (cap := cap) (lim := k) rfl rfl hH (Nat.zero_le _) (Nat.le_refl _) (by omega) (Or.inl rfl) hk2)
  obtain ⟨L, hL⟩ : ∃ L, d.size = L := ⟨_, rfl⟩
  have hw : IntKind.u64.wrap (L : Int) = (L : Int) := by rw [IntKind.wrap_u64]; omega
  rw [hL] at HL HC HK ⊢
  clear hH hk hk2 hsz hL
  go_enter Tryd.func35, Tryd.ntmps35
  go_wp2_with (first
    | (go_at_call 48; refine HL.out.mono ?_; rintro e w' ⟨rfl, rfl⟩; rw [HK.out]; clear HL)
    | (go_at_call 47; refine HC.out.mono ?_; rintro e w' ⟨rfl, hr⟩; have HR := Lib.hid hr; clear HC hr))
  go_end0
  exact ⟨rfl, HR.out⟩
theorem sort_ok1024 : SortOK 1024 := by
  intro zs w blk cap hl hc
  obtain ⟨d, hd⟩ : ∃ d : Array Int, d = (zs.map Int.ofNat).toArray := ⟨_, rfl⟩
  have hsz : d.size = zs.length := by rw [hd]; simp
  have hH : Holds eU w blk 0 d := fun j hj => by
    obtain ⟨h1, h2⟩ := hc j (by omega)
    rw [Nat.zero_add]
    refine ⟨?_, h2⟩
    rw [h1, getElem!_pos d j hj]
    have : d[j] = ((zs.getD j 0 : Nat) : Int) := by
      subst hd
      have hj' : j < zs.length := by omega
      simp [List.getD, hj']
    rw [this]
  have h := sort_all_any blk cap d w hH (by omega)
  rw [hsz] at h
  refine h.mono ?_
  rintro e w' ⟨rfl, d', hp, hs, hg⟩
  rw [← hsz] at hp hs
  obtain ⟨l, h1, h2, h3, h4⟩ := sorted_sets hd hp hs
  refine ⟨rfl, hg.grown, l, h1, h2, fun j hj => ?_⟩
  have := (hg.holds j (by omega)).1
  rw [Nat.zero_add, h4 j hj] at this
  exact this
end Go.Proofs.YtfcabdgidlnljaaDoor
