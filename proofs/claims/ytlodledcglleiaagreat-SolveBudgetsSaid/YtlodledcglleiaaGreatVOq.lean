/-
  THE DOCUMENT'S ORDER: contracts of far, better and Order.
-/
import Derived.Test.YtlodledcglleiaaGreatVOr
import Derived.Test.YtlodledcglleiaaGreatVQa
import Derived.Test.YtlodledcglleiaaGreatVSa
namespace Go.Proofs.YtlodledcglleiaaGreat
open Go.RowKit
open SemP DiP FlP GaP SeaP
set_option linter.unusedVariables false
set_option linter.unusedSimpArgs false
set_option maxRecDepth 10000
theorem farZ_le {a b : Int} (ha : -100000 ≤ a ∧ a ≤ 100000) (hb : -100000 ≤ b ∧ b ≤ 100000) : -200000 ≤ farZ a b ∧ farZ a b ≤ 200000 := by
  unfold farZ; split <;> omega
theorem farQ_any (w : World) (a b : Int) (ha : -100000 ≤ a ∧ a ≤ 100000) (hb : -100000 ≤ b ∧ b ≤ 100000) :
    Calls Tryz.prog 93 #[.int .i64 a, .int .i64 b] w fun e w' => e = .returned (.int .i64 (farZ a b)) ∧ w = w' := by
  have HA := Lib.hid ha
  have HB := Lib.hid hb
  clear ha hb
  by_cases h : b < a
  · have hd : decide (b < a) = true := decide_eq_true h
    have hF : Hid (farZ a b = a - b) := Lib.hid (by unfold farZ; rw [if_pos h])
    have hs : IntKind.i64.wrap (a - b) = a - b := IntWalk.i64_in _ (by have := HA.out; have := HB.out; omega)
    clear h
    go_enter Tryz.func93, Tryz.ntmps93
    go_wp2_with fail
    refine bodyPost_ret (results_tmp rfl _ _ _) rfl ⟨?_, rfl⟩
    exact congrArg (fun b => Ending.returned (.int .i64 b)) hF.out.symm
  · have hd : decide (b < a) = false := decide_eq_false h
    have hF : Hid (farZ a b = b - a) := Lib.hid (by unfold farZ; rw [if_neg h])
    have hs : IntKind.i64.wrap (b - a) = b - a := IntWalk.i64_in _ (by have := HA.out; have := HB.out; omega)
    clear h
    go_enter Tryz.func93, Tryz.ntmps93
    go_wp2_with fail
    refine bodyPost_ret (results_tmp rfl _ _ _) rfl ⟨?_, rfl⟩
    exact congrArg (fun b => Ending.returned (.int .i64 b)) hF.out.symm
theorem betQ_any (w : World) (m c a b : Int) (hc : -100000 ≤ c ∧ c ≤ 100000) (ha : -100000 ≤ a ∧ a ≤ 100000) (hb : -100000 ≤ b ∧ b ≤ 100000) :
    Calls Tryz.prog 69 #[.int .i64 m, .int .i64 c, .int .i64 a, .int .i64 b] w fun e w' => e = .returned (.bool (betR m c a b)) ∧ w = w' := by
  have HA := Lib.hid ha
  have HB := Lib.hid hb
  have HC := Lib.hid hc
  clear ha hb hc
  by_cases h1 : m = 1
  · subst h1
    have hF : Hid (betR 1 c a b = decide (a < b)) := Lib.hid (by unfold betR; rw [if_pos rfl])
    rw [hF.out]
    go_enter Tryz.func69, Tryz.ntmps69
    go_wp2_with fail
    exact bodyPost_ret (results_tmp rfl _ _ _) rfl ⟨rfl, rfl⟩
  have e1 : (m == 1) = false := by rw [beq_eq_false_iff_ne]; exact h1
  by_cases h2 : m = 2
  · subst h2
    by_cases h3 : a = c
    · subst h3
      have hF : Hid (betR 2 a a b = true) := Lib.hid (by unfold betR; rw [if_neg (by decide), if_pos rfl, if_pos (.inl rfl), decide_eq_true rfl])
      rw [hF.out]
      have e3 : (a == a) = true := by simp
      go_enter Tryz.func69, Tryz.ntmps69
      go_wp2_with fail
      exact bodyPost_ret (results_tmp rfl _ _ _) rfl ⟨rfl, rfl⟩
    have e3 : (a == c) = false := by rw [beq_eq_false_iff_ne]; exact h3
    by_cases h4 : b = c
    · subst h4
      have hF : Hid (betR 2 b a b = false) := Lib.hid (by unfold betR; rw [if_neg (by decide), if_pos rfl, if_pos (.inr rfl), decide_eq_false h3])
      rw [hF.out]
      have e4 : (b == b) = true := by simp
      clear h1 h3
      go_enter Tryz.func69, Tryz.ntmps69
      go_wp2_with fail
      exact bodyPost_ret (results_tmp rfl _ _ _) rfl ⟨rfl, rfl⟩
    have e4 : (b == c) = false := by rw [beq_eq_false_iff_ne]; exact h4
    have hF : Hid (betR 2 c a b = decide (b < a)) := Lib.hid (by unfold betR; rw [if_neg (by decide), if_pos rfl, if_neg (by omega)])
    rw [hF.out]
    clear h1 h3 h4
    go_enter Tryz.func69, Tryz.ntmps69
    go_wp2_with fail
    exact bodyPost_ret (results_tmp rfl _ _ _) rfl ⟨rfl, rfl⟩
  have e2 : (m == 2) = false := by rw [beq_eq_false_iff_ne]; exact h2
  by_cases h5 : m = 3
  · subst h5
    have HK1 := Lib.hid (farQ_any w a c HA.out HC.out)
    have HK2 := Lib.hid (farQ_any w b c HB.out HC.out)
    by_cases h6 : farZ a c = farZ b c
    · have e6 : (farZ a c != farZ b c) = false := by rw [bne_eq_false_iff_eq]; exact h6
      have hF : Hid (betR 3 c a b = decide (b < a)) := Lib.hid (by unfold betR; rw [if_neg (by decide), if_neg (by decide), if_pos rfl, if_pos h6])
      rw [hF.out]
      clear h6 h1 h2
      go_enter Tryz.func69, Tryz.ntmps69
      go_wp2_with fail
      refine HK1.out.mono ?_
      rintro e w1 ⟨rfl, rfl⟩
      go_wp2_with fail
      refine HK2.out.mono ?_
      rintro e w1 ⟨rfl, rfl⟩
      go_wp2_with fail
      exact bodyPost_ret (results_tmp rfl _ _ _) rfl ⟨rfl, rfl⟩
    · have e6 : (farZ a c != farZ b c) = true := by rw [bne_iff_ne]; exact h6
      have hF : Hid (betR 3 c a b = decide (farZ a c < farZ b c)) := Lib.hid (by unfold betR; rw [if_neg (by decide), if_neg (by decide), if_pos rfl, if_neg h6])
      rw [hF.out]
      clear h6 h1 h2
      go_enter Tryz.func69, Tryz.ntmps69
      go_wp2_with fail
      refine HK1.out.mono ?_
      rintro e w1 ⟨rfl, rfl⟩
      go_wp2_with fail
      refine HK2.out.mono ?_
      rintro e w1 ⟨rfl, rfl⟩
      go_wp2_with fail
      refine HK1.out.mono ?_
      rintro e w1 ⟨rfl, rfl⟩
      go_wp2_with fail
      refine HK2.out.mono ?_
      rintro e w1 ⟨rfl, rfl⟩
      go_wp2_with fail
      exact bodyPost_ret (results_tmp rfl _ _ _) rfl ⟨rfl, rfl⟩
  have e5 : (m == 3) = false := by rw [beq_eq_false_iff_ne]; exact h5
  have hF : Hid (betR m c a b = decide (b < a)) := Lib.hid (by unfold betR; rw [if_neg h1, if_neg h2, if_neg h5])
  rw [hF.out]
  clear h1 h2 h5
  go_enter Tryz.func69, Tryz.ntmps69
  go_wp2_with fail
  exact bodyPost_ret (results_tmp rfl _ _ _) rfl ⟨rfl, rfl⟩
theorem orderR_mem (mode cur : Int) : ∀ (k : Nat) (x : Int), x ∈ orderR mode cur k → 0 ≤ x ∧ x < (k : Int)
  | 0, x, h => absurd h (by simp [orderR])
  | k + 1, x, h => by
    have h' : x ∈ putR mode cur (orderR mode cur k) (k : Int) := h
    unfold putR at h'
    rw [List.mem_append, List.mem_cons] at h'
    rcases h' with h' | h' | h'
    · have := orderR_mem mode cur k x (List.mem_of_mem_take h'); omega
    · omega
    · have := orderR_mem mode cur k x (List.mem_of_mem_drop h'); omega
theorem orderR_at (mode cur : Int) {k i : Nat} (hi : i < k) : 0 ≤ ix (orderR mode cur k) i ∧ ix (orderR mode cur k) i < (k : Int) :=
  orderR_mem mode cur k _ (getD_mem (l := orderR mode cur k) (by rw [orderR_len]; exact hi))
theorem ix_dropZ (xs : List Int) (k j : Nat) : ix (xs.drop k) j = ix xs (k + j) := by unfold ix; simp [List.getD_eq_getElem?_getD, List.getElem?_drop]
/-- s[k:]. -/
theorem slice_fromI {A : Option Addr} {n c : Nat} (h : CapA A n c) {q : Nat} (hq : q ≤ n) {w0 : World} {B : Nat} {xs : List Int} (hx : Rd w0 B A n xs) :
    ∃ D, (∀ w, (Instr.slice 39 (.slice A n c) (some (.int .i64 (q : Int))) none none).run Tryz.prog w = .ok (.slice D (n - q) (c - q)) w) ∧ Rd w0 B D (n - q) (xs.drop q) := by
  refine ⟨if c = q then A else A.map (·.add (q * 1)), fun w => ?_, ?_⟩
  · have hr := run_slice_l (P := Tryz.prog) w 39 A n c Tryz.underlying39 .i64 (q : Int) (by omega) (by omega)
    rw [hr]
    obtain ⟨i0, hi, hz0, hz1, hz2⟩ := info_parts infoInt
    rw [show Tryz.prog.elem 39 = 3 by kernel_rfl, show (sizeOf 3).run Tryz.prog w = .ok i0.size w by simp [sizeOf, typeInfo, hi], hz1]
    rfl
  · refine ⟨by rw [List.length_drop, hx.len], fun hn => ?_⟩
    obtain ⟨b, off, e, hb, hc⟩ := hx.2 (by omega)
    have hcq : c ≠ q := by
      rcases h with ⟨_, h1, _⟩ | ⟨_, _, h1, _⟩ <;> omega
    rw [if_neg hcq, e]
    refine ⟨b, off + q, ?_, hb, fun j hj => ?_⟩
    · simp only [Option.map_some, Nat.mul_one]
      unfold Addr.add
      by_cases h0 : q = 0 <;> simp [h0]
    · rw [ix_dropZ, Nat.add_assoc]
      exact hc (q + j) (by omega)
theorem own_capA {w : World} {base n c : Nat} {A : Option Addr} {xs : List Int} (h : Own w base (.slice A n c) n xs) : CapA A n c := by
  rcases h.2 with ⟨hv, _⟩ | ⟨g, cap, cur, hv, _, _, h1, h2, _⟩
  · injection hv with h1 h2 h3
    exact .inl ⟨h1, h2, h3⟩
  · injection hv with e1 e2 e3
    subst e1 e3
    exact .inr ⟨_, rfl, h1, by unfold maxLen at h2; omega⟩
set_option maxHeartbeats 8000000 in
theorem orderQ_any (w : World) (mode cur : Int) (n : Nat) (hn : n ≤ 1000) (hc : -100000 ≤ cur ∧ cur ≤ 100000) :
    Calls Tryz.prog 42 #[.int .i64 mode, .int .i64 (n : Int), .int .i64 cur] w fun e w' => ∃ v, e = .returned v ∧ Own w' w.heap.size v n (orderR mode cur n) ∧ Below w.heap.size w w' := by
  have HC := Lib.hid hc
  clear hc
  go_enter Tryz.func42, Tryz.ntmps42
  go_wp2_with fail
  go_loopw [7, 8, 9, 10] (fun v i _ _ wr => ∃ k : Nat, k ≤ n ∧ i = .int .i64 (k : Int) ∧ Hid (Own wr w.heap.size v k (orderR mode cur k)) ∧ Hid (Below w.heap.size w wr)) (fun _ i _ _ _ => n - (intOf i).toNat)
  case atStart => exact ⟨0, Nat.zero_le _, rfl, Lib.hid (Own.nil_ _ _), Lib.hid (Below.refl _ _)⟩
  case round =>
    obtain ⟨wo, hwo⟩ : ∃ x, x = wr := ⟨_, rfl⟩
    subst hwo
    obtain ⟨k, hk, rfl, HO, HB⟩ := hrel
    obtain ⟨A, c, hv, hrd⟩ := HO.out.shape
    subst hv
    have HRD := Lib.hid hrd
    have HCP := Lib.hid (own_capA HO.out)
    have HXL : Hid ((orderR mode cur k).length = k) := Lib.hid (orderR_len _ _ _)
    obtain ⟨xs, HXS⟩ : ∃ xs, Hid (orderR mode cur k = xs) := ⟨_, Lib.hid rfl⟩
    have HBD : Hid (∀ i, i < k → 0 ≤ ix xs i ∧ ix xs i < (k : Int)) := Lib.hid (fun i hi => by rw [← HXS.out]; exact orderR_at mode cur hi)
    have HSU : Hid (orderR mode cur (k + 1) = putR mode cur xs (k : Int)) := Lib.hid (by rw [← HXS.out]; rfl)
    rw [HXS.out] at HO HRD HXL
    clear hrd
    by_cases hkn : k < n
    · have hd : decide ((k : Int) < (n : Int)) = true := by simp; omega
      have hki : (k : Int) < (n : Int) := by omega
      have hadd : IntKind.i64.wrap ((k : Int) + 1) = ((k + 1 : Nat) : Int) := by rw [IntWalk.i64_in _ (by omega)]; omega
      go_wp2_with fail
      go_loopw [9] (fun i wr => ∃ a : Nat, a ≤ k ∧ i = .int .i64 (a : Int) ∧ wr = wo ∧ Hid (∀ i, i < a → betR mode cur (ix xs i) (k : Int) = true)) (fun i _ => k - (intOf i).toNat)
      case atStart => exact ⟨0, Nat.zero_le _, rfl, rfl, Lib.hid (fun i h => absurd h (by omega))⟩
      case round =>
        obtain ⟨a, ha, rfl, rfl, HP⟩ := hrel
        have hfin : Hid ((a < k → betR mode cur (ix xs a) (k : Int) = false) → aheadR mode cur xs (k : Int) = a) := Lib.hid (fun h => ahead_of (by rw [HXL.out]; exact ha) HP.out (fun q => h (by rw [HXL.out] at q; exact q)))
        by_cases hak : a < k
        · have hd2 : decide ((a : Int) < (k : Int)) = true := by simp; omega
          have hai : (a : Int) < (k : Int) := by omega
          have ha0 : (0 : Int) ≤ (a : Int) := by omega
          have hadd2 : IntKind.i64.wrap ((a : Int) + 1) = ((a + 1 : Nat) : Int) := by rw [IntWalk.i64_in _ (by omega)]; omega
          obtain ⟨b, off, hA, hbb, kc⟩ := HRD.out.at_ hak
          subst hA
          obtain ⟨u, HU⟩ : ∃ u, Hid (ix xs a = u) := ⟨_, Lib.hid rfl⟩
          have hub := HBD.out a hak
          rw [HU.out] at kc hub
          have HBT := Lib.hid (betQ_any wr mode cur u (k : Int) HC.out (by omega) (by omega))
          clear hub
          cases hbt : betR mode cur u (k : Int) with
          | true =>
            have HQ : Hid (betR mode cur (ix xs a) (k : Int) = true) := Lib.hid (by rw [HU.out]; exact hbt)
            rw [hbt] at HBT
            clear hbt
            go_wp2_with fail
            refine HBT.out.mono ?_
            rintro e w1 ⟨rfl, rfl⟩
            go_wp2_with fail
            go_roundw
            case rel => exact ⟨a + 1, by omega, by go_num, (by first | exact trivial | rfl), Lib.hid (fun i hi => by
              by_cases e : i = a
              · subst e; exact HQ.out
              · exact HP.out i (by omega))⟩
            case measure => simp [intOf]; omega
          | false =>
            have HAH : Hid (aheadR mode cur xs (k : Int) = a) := Lib.hid (hfin.out (fun _ => by rw [HU.out]; exact hbt))
            rw [hbt] at HBT
            clear hbt
            obtain ⟨D, hsl, hrD⟩ := slice_fromI HCP.out ha HRD.out
            have hs1 : ∀ w0 : World, (Instr.slice 39 (.slice (some ⟨b, off, none⟩) k c) none (some (.int .i64 (a : Int))) none).run Tryz.prog w0 = .ok (.slice (some ⟨b, off, none⟩) a c) w0 := fun w0 => slice_to Tryz.underlying39 (by kernel_rfl) infoInt HCP.out ha w0
            have HRT := Lib.hid (HRD.out.take ha)
            have HRDD := Lib.hid hrD
            clear hrD
            go_wp2_with fail
            refine HBT.out.mono ?_
            rintro e w1 ⟨rfl, rfl⟩
            clear kc
            have HE0 := Lib.hid (Own.empty wr wr.heap.size (Nat.le_refl _))
            have HRTa : Hid (Rd (wr.alloc (.cells #[] 3)) wr.heap.size (some ⟨b, off, none⟩) a (xs.take a)) := Lib.hid (HRT.out.alloc (Nat.le_refl _) _)
            have HWB : Hid (Below w.heap.size w wr) := HB
            go_upto_region 9 with (at_builtin; refine wpl_apps rfl (.tmp 32) (.tmp 35) rfl wr.heap.size _ 0 [] rfl HE0.out wr.heap.size (some ⟨b, off, none⟩) a c (xs.take a) rfl HRTa.out (by omega) (by simp) ?_; intro v' w5 hown5 hgr5 hat5)
            have HB5 : Hid (Below wr.heap.size wr w5) := Lib.hid (((Below.refl _ wr).alloc (Nat.le_refl _) _).grown hgr5 (by simp) (fun g hg => by
              have h1 : some wr.heap.size = some g := hg
              injection h1 with h1; omega))
            have HO5 : Hid (Own w5 wr.heap.size v' a (xs.take a)) := Lib.hid (by simpa using hown5)
            have hz5 := HB5.out.size
            clear hown5 hgr5 hat5 HE0 HRTa
            go_upto_region 10 with (at_builtin; refine wpl_app rfl _ _ rfl wr.heap.size _ a _ rfl (HO5.out.alloc _) w5.heap.size (k : Int) rfl ?c1 (by omega) ?c2 ?_)
            case c1 => simp
            case c2 => simp; omega
            intro g c6 w6 hown6 hbg6 hgr6 hat6
            have HB6 : Hid (Below wr.heap.size wr w6) := Lib.hid ((HB5.out.alloc HB5.out.size _).grown hgr6 (by simp; omega) (HO5.out.ge))
            have HO6 := Lib.hid hown6
            have HRD6 : Hid (Rd w6 wr.heap.size D (k - a) (xs.drop a)) := Lib.hid (HRDD.out.below HB6.out)
            clear hown6 hgr6 hat6 HO5 HB5
            go_wp2_with (at_builtin; refine wpl_apps rfl (.tmp 41) (.tmp 44) rfl wr.heap.size _ (a + 1) _ rfl HO6.out wr.heap.size D (k - a) (c - a) (xs.drop a) rfl HRD6.out (by omega) HB6.out.size ?_; intro v7 w7 hown7 hgr7 hat7)
            have HB7 : Hid (Below wr.heap.size wr w7) := Lib.hid (HB6.out.grown hgr7 HB6.out.size (HO6.out.ge))
            have HO7 : Hid (Own w7 w.heap.size v7 (k + 1) (orderR mode cur (k + 1))) := Lib.hid (by
              rw [HSU.out]
              unfold putR
              rw [HAH.out]
              have e : a + 1 + (k - a) = k + 1 := by omega
              have e2 : xs.take a ++ [(k : Int)] ++ xs.drop a = xs.take a ++ (k : Int) :: xs.drop a := by simp
              rw [e, e2] at hown7
              exact hown7.less HWB.out.size)
            have HB8 : Hid (Below w.heap.size w w7) := Lib.hid (HWB.out.trans (HB7.out.mono HWB.out.size))
            clear hown7 hgr7 hat7
            go_wp2_with fail
            go_roundw
            case rel => exact ⟨k + 1, by omega, by go_num, HO7, HB8⟩
            case measure => simp [intOf]; omega
        · obtain rfl : a = k := by omega
          have hd2 : decide ((a : Int) < (a : Int)) = false := by simp
          have HAH : Hid (aheadR mode cur xs (a : Int) = a) := Lib.hid (hfin.out (fun h => absurd h (by omega)))
          obtain ⟨D, hsl, hrD⟩ := slice_fromI HCP.out (Nat.le_refl a) HRD.out
          rw [Nat.sub_self] at hsl hrD
          have hs1 : ∀ w0 : World, (Instr.slice 39 (.slice A a c) none (some (.int .i64 (a : Int))) none).run Tryz.prog w0 = .ok (.slice A a c) w0 := fun w0 => slice_to Tryz.underlying39 (by kernel_rfl) infoInt HCP.out (Nat.le_refl a) w0
          have HRT := Lib.hid (HRD.out.take (Nat.le_refl a))
          have HRDD := Lib.hid hrD
          clear hrD
          have HE0 := Lib.hid (Own.empty wr wr.heap.size (Nat.le_refl _))
          have HRTa : Hid (Rd (wr.alloc (.cells #[] 3)) wr.heap.size A a (xs.take a)) := Lib.hid (HRT.out.alloc (Nat.le_refl _) _)
          have HWB : Hid (Below w.heap.size w wr) := HB
          go_upto_region 9 with (at_builtin; refine wpl_apps rfl (.tmp 32) (.tmp 35) rfl wr.heap.size _ 0 [] rfl HE0.out wr.heap.size A a c (xs.take a) rfl HRTa.out (by omega) (by simp) ?_; intro v' w5 hown5 hgr5 hat5)
          have HB5 : Hid (Below wr.heap.size wr w5) := Lib.hid (((Below.refl _ wr).alloc (Nat.le_refl _) _).grown hgr5 (by simp) (fun g hg => by
            have h1 : some wr.heap.size = some g := hg
            injection h1 with h1; omega))
          have HO5 : Hid (Own w5 wr.heap.size v' a (xs.take a)) := Lib.hid (by simpa using hown5)
          have hz5 := HB5.out.size
          clear hown5 hgr5 hat5 HE0 HRTa
          go_upto_region 10 with (at_builtin; refine wpl_app rfl _ _ rfl wr.heap.size _ a _ rfl (HO5.out.alloc _) w5.heap.size (a : Int) rfl ?c1 (by omega) ?c2 ?_)
          case c1 => simp
          case c2 => simp; omega
          intro g c6 w6 hown6 hbg6 hgr6 hat6
          have HB6 : Hid (Below wr.heap.size wr w6) := Lib.hid ((HB5.out.alloc HB5.out.size _).grown hgr6 (by simp; omega) (HO5.out.ge))
          have HO6 := Lib.hid hown6
          have HRD6 : Hid (Rd w6 wr.heap.size D 0 (xs.drop a)) := Lib.hid (HRDD.out.below HB6.out)
          clear hown6 hgr6 hat6 HO5 HB5
          go_wp2_with (at_builtin; refine wpl_apps rfl (.tmp 41) (.tmp 44) rfl wr.heap.size _ (a + 1) _ rfl HO6.out wr.heap.size D 0 (c - a) (xs.drop a) rfl HRD6.out (by omega) HB6.out.size ?_; intro v7 w7 hown7 hgr7 hat7)
          have HB7 : Hid (Below wr.heap.size wr w7) := Lib.hid (HB6.out.grown hgr7 HB6.out.size (HO6.out.ge))
          have HO7 : Hid (Own w7 w.heap.size v7 (a + 1) (orderR mode cur (a + 1))) := Lib.hid (by
            rw [HSU.out]
            unfold putR
            rw [HAH.out]
            have e : a + 1 + 0 = a + 1 := by omega
            have e2 : xs.take a ++ [(a : Int)] ++ xs.drop a = xs.take a ++ (a : Int) :: xs.drop a := by simp
            rw [e, e2] at hown7
            exact hown7.less HWB.out.size)
          have HB8 : Hid (Below w.heap.size w w7) := Lib.hid (HWB.out.trans (HB7.out.mono HWB.out.size))
          clear hown7 hgr7 hat7
          go_wp2_with fail
          go_roundw
          case rel => exact ⟨a + 1, by omega, by go_num, HO7, HB8⟩
          case measure => simp [intOf]; omega
    · have hd : decide ((k : Int) < (n : Int)) = false := by simp; omega
      obtain rfl : k = n := by omega
      go_wp2_with fail
      exact bodyPost_ret (results_tmp rfl _ _ _) rfl ⟨_, rfl, by rw [HXS.out]; exact HO.out, HB.out⟩
end Go.Proofs.YtlodledcglleiaaGreat
