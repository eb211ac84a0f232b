/-
  CONTRACT of the document's own package of layer 2: Sign, comp (printed by genrps.py).
-/
import Derived.Test.YtpnbbbhbbnemlaaGreatDoorRPsC
namespace Go.Proofs.YtpnbbbhbbnemlaaGreatDoor
open Go.RowKit
open SemP
set_option linter.unusedVariables false
set_option linter.unusedSimpArgs false
set_option maxRecDepth 100000

/-- The comparison that the document's comp answers. -/
def docC (s : Str) : CV := if (parseC s).2 = true then (parseC s).1 else zeroC
set_option maxHeartbeats 2000000 in
theorem Sign_1 (w : World) : Calls Tryz.prog 34 #[.int .i64 1] w fun e w' => e = .returned (.string ⟨#[61]⟩) ∧ Below w.heap.size w w' := by
  go_enter Tryz.func34, Tryz.ntmps34
  go_wp2
  exact bodyPost_ret (results_tmp rfl _ _ _) rfl ⟨rfl, (Below.refl _ w).alloc (Nat.le_refl _) _⟩
set_option maxHeartbeats 2000000 in
theorem Sign_2 (w : World) : Calls Tryz.prog 34 #[.int .i64 2] w fun e w' => e = .returned (.string ⟨#[60]⟩) ∧ Below w.heap.size w w' := by
  go_enter Tryz.func34, Tryz.ntmps34
  go_wp2
  exact bodyPost_ret (results_tmp rfl _ _ _) rfl ⟨rfl, (Below.refl _ w).alloc (Nat.le_refl _) _⟩
set_option maxHeartbeats 2000000 in
theorem Sign_3 (w : World) : Calls Tryz.prog 34 #[.int .i64 3] w fun e w' => e = .returned (.string ⟨#[60, 61]⟩) ∧ Below w.heap.size w w' := by
  go_enter Tryz.func34, Tryz.ntmps34
  go_wp2
  exact bodyPost_ret (results_tmp rfl _ _ _) rfl ⟨rfl, (Below.refl _ w).alloc (Nat.le_refl _) _⟩
set_option maxHeartbeats 2000000 in
theorem Sign_4 (w : World) : Calls Tryz.prog 34 #[.int .i64 4] w fun e w' => e = .returned (.string ⟨#[62]⟩) ∧ Below w.heap.size w w' := by
  go_enter Tryz.func34, Tryz.ntmps34
  go_wp2
  exact bodyPost_ret (results_tmp rfl _ _ _) rfl ⟨rfl, (Below.refl _ w).alloc (Nat.le_refl _) _⟩
set_option maxHeartbeats 2000000 in
theorem Sign_5 (w : World) : Calls Tryz.prog 34 #[.int .i64 5] w fun e w' => e = .returned (.string ⟨#[62, 61]⟩) ∧ Below w.heap.size w w' := by
  go_enter Tryz.func34, Tryz.ntmps34
  go_wp2
  exact bodyPost_ret (results_tmp rfl _ _ _) rfl ⟨rfl, (Below.refl _ w).alloc (Nat.le_refl _) _⟩
set_option maxHeartbeats 2000000 in
theorem Sign_6 (w : World) : Calls Tryz.prog 34 #[.int .i64 6] w fun e w' => e = .returned (.string ⟨#[94]⟩) ∧ Below w.heap.size w w' := by
  go_enter Tryz.func34, Tryz.ntmps34
  go_wp2
  exact bodyPost_ret (results_tmp rfl _ _ _) rfl ⟨rfl, (Below.refl _ w).alloc (Nat.le_refl _) _⟩
set_option maxHeartbeats 2000000 in
theorem Sign_7 (w : World) : Calls Tryz.prog 34 #[.int .i64 7] w fun e w' => e = .returned (.string ⟨#[126]⟩) ∧ Below w.heap.size w w' := by
  go_enter Tryz.func34, Tryz.ntmps34
  go_wp2
  exact bodyPost_ret (results_tmp rfl _ _ _) rfl ⟨rfl, (Below.refl _ w).alloc (Nat.le_refl _) _⟩
def NoC (s : Str) (n : Nat) : Prop := ∀ o, 1 ≤ o ∧ o < n → Lib.hasPrefix s (sg o) = true → parseV (s.drop (sg o).length) = none
theorem NoC.succ {s : Str} {n : Nat} (h : NoC s n) (hn : Lib.hasPrefix s (sg n) = true → parseV (s.drop (sg n).length) = none) : NoC s (n + 1) := fun o ho hp => by
  by_cases e : o = n
  · subst e; exact hn hp
  · exact h o (by omega) hp
theorem pre_take {s p : Str} : Lib.hasPrefix s p = true ↔ s.take p.length = p := by
  unfold Lib.hasPrefix
  rw [List.isPrefixOf_iff_prefix, List.prefix_iff_eq_take]
  exact ⟨fun h => h.symm, fun h => h.symm⟩
theorem ba_eq {x y : ByteArray} (h : bs x = bs y) : x = y := by rw [← mk_bs x, ← mk_bs y, h]
set_option maxHeartbeats 16000000 in
theorem comp_any (s : ByteArray) (w : World) (hs : s.size ≤ 1000000) :
    Calls Tryz.prog 139 #[.string s] w fun e w' => e = .returned (.tuple #[CV.val (docC (bs s)), .bool (parseC (bs s)).2]) ∧ Below w.heap.size w w' := by
  have HZ : Hid (s.size = (bs s).length) := Lib.hid (Lib.size_eq s)
  have HS := Lib.hid hs
  have hX0 := World.alloc_heap_new w (.cells #[.int .i64 0, .int .i64 0, .int .i64 0, .int .i64 0, .string ⟨#[]⟩] 76)
  have HB0 : Hid (Below w.heap.size w (w.alloc (.cells #[.int .i64 0, .int .i64 0, .int .i64 0, .int .i64 0, .string ⟨#[]⟩] 76))) := Lib.hid ((Below.refl _ w).alloc (Nat.le_refl _) _)
  have HL0 : Hid (w.heap.size < (w.alloc (.cells #[.int .i64 0, .int .i64 0, .int .i64 0, .int .i64 0, .string ⟨#[]⟩] 76)).heap.size) := Lib.hid (by simp)
  by_cases hst : bs s = [42]
  · have hse : s = ⟨#[42]⟩ := ba_eq hst
    have HP : Hid (parseC (bs s) = (zeroC, true)) := Lib.hid (by rw [hst]; exact comp_star)
    have HD : Hid (docC (bs s) = zeroC) := Lib.hid (by unfold docC; rw [HP.out]; rfl)
    rw [HD.out, HP.out]
    clear HD HP HZ hst HS hs
    subst hse
    go_enter Tryz.func139, Tryz.ntmps139
    have HF5 := Lib.hid ((At5.of_heap hX0).set (op' := 0) (a' := 0) (b' := 0) (c' := 0) (s' := ⟨#[]⟩))
    obtain ⟨z0, z1, z2, z3, z4, f0, f1, f2, f3, f4⟩ := At5.of_heap hX0
    obtain ⟨g0, g1, g2, g3, g4, _, _, _, _, _⟩ := HF5.out
    simp only [set5] at g0 g1 g2 g3 g4
    have HBS : Hid (Below w.heap.size w (set5 (w.alloc (.cells #[.int .i64 0, .int .i64 0, .int .i64 0, .int .i64 0, .string ⟨#[]⟩] 76)) w.heap.size (0) (0) (0) (0) ⟨#[]⟩)) := Lib.hid (set5_below HB0.out (Nat.le_refl _) _ _ _ _ _)
    go_wp2
    refine bodyPost_ret (v := .tuple #[compV (0) (0) (0) (0) ⟨#[]⟩, .bool true]) (by simp [results, Tryz.results139, go_sem, g0, g1, g2, g3, g4]) rfl ⟨by rfl, by first | exact HBS.out | exact HB0.out⟩
  · have hse : (s.toList == [42]) = false := by rw [beq_eq_false_iff_ne, ByteArray.toList_eq]; exact hst
    have HST := Lib.hid hst
    have HX0 := Lib.hid hX0
    generalize hW0 : w.alloc (.cells #[.int .i64 0, .int .i64 0, .int .i64 0, .int .i64 0, .string ⟨#[]⟩] 76) = W0 at HX0 HB0 HL0
    have HW0 := Lib.hid hW0
    clear hst hX0 hW0 hs
    go_enter Tryz.func139, Tryz.ntmps139
    go_wp2
    rw [show w.alloc (.cells #[.int .i64 0, .int .i64 0, .int .i64 0, .int .i64 0, .string ⟨#[]⟩] 76) = W0 from HW0.out]
    clear hse
    go_loopw [4, 5, 6, 7] (fun v4 v5 v6 v7 wr => ∃ (n : Nat), 1 ≤ n ∧ n ≤ 8 ∧ v4 = .int .i64 (n : Int) ∧ Hid (NoC (bs s) n) ∧ Hid (Below W0.heap.size W0 wr)) (fun v _ _ _ _ => 8 - (intOf v).toNat)
    case atStart => exact ⟨1, by omega, by omega, rfl, Lib.hid (fun o ho => absurd ho (by omega)), Lib.hid (Below.refl _ _)⟩
    case round =>
      obtain ⟨n, hn1, hn8, rfl, HN, HB⟩ := hrel
      have HXr : Hid (wr.heap[w.heap.size]? = some (.cells #[.int .i64 0, .int .i64 0, .int .i64 0, .int .i64 0, .string ⟨#[]⟩] 76)) := Lib.hid ((HB.out.block _ HL0.out).trans HX0.out)
      have HLr : Hid (w.heap.size < wr.heap.size) := Lib.hid (Nat.lt_of_lt_of_le HL0.out HB.out.size)
      have hcs : n = 1 ∨ n = 2 ∨ n = 3 ∨ n = 4 ∨ n = 5 ∨ n = 6 ∨ n = 7 ∨ n = 8 := by omega
      clear hn1 hn8
      rcases hcs with rfl | rfl | rfl | rfl | rfl | rfl | rfl | rfl
      · have HC := Lib.hid (Sign_1 wr)
        go_wp2_with fail
        refine HC.out.mono ?_
        rintro e w2 ⟨rfl, hb⟩
        have HB2 : Hid (Below W0.heap.size W0 w2) := Lib.hid (HB.out.trans (hb.mono HB.out.size))
        have HX2 : Hid (w2.heap[w.heap.size]? = some (.cells #[.int .i64 0, .int .i64 0, .int .i64 0, .int .i64 0, .string ⟨#[]⟩] 76)) := Lib.hid ((hb.block _ HLr.out).trans HXr.out)
        have HL2 : Hid (w.heap.size < w2.heap.size) := Lib.hid (Nat.lt_of_lt_of_le HLr.out hb.size)
        clear hb HC
        by_cases hlen : s.size < 1
        · have dl : decide ((s.size : Int) < 1) = true := decide_eq_true (by omega)
          have HN2 : Hid (NoC (bs s) 2) := Lib.hid (HN.out.succ (fun hp => by have h := prefix_len hp; rw [← HZ.out] at h; exact absurd h (by show ¬ 1 ≤ s.size; omega)))
          clear hlen
          go_wp2
          go_roundw
          case rel => exact ⟨2, by omega, by omega, rfl, HN2, HB2⟩
          case measure => simp [intOf]
        · have dl : decide ((s.size : Int) < 1) = false := decide_eq_false (by omega)
          have c1 : (1 : Int) ≤ (s.size : Int) := by omega
          have HEX : Hid ((s.extract 0 1).toList = (bs s).take 1) := Lib.hid (by rw [ByteArray.toList_eq]; exact bs_head s 1)
          by_cases hp : (bs s).take 1 = [61]
          · have hne : ((s.extract 0 1).toList != [61]) = false := by rw [HEX.out, hp]; rfl
            have hne2 : ((s.extract 0 1).toList == [61]) = true := by rw [HEX.out, hp]; rfl
            have HP : Hid (Lib.hasPrefix (bs s) (sg 1) = true) := Lib.hid (pre_take.2 hp)
            obtain ⟨rs, hrs⟩ : ∃ rs, s.extract 1 s.size = rs := ⟨_, rfl⟩
            have HRB : Hid (bs rs = (bs s).drop 1) := Lib.hid (by rw [← hrs]; exact bs_tail s 1)
            have HRZ : Hid (rs.size ≤ 1000000) := Lib.hid (by have := HS.out; rw [← hrs, ByteArray.size_extract]; omega)
            have HC := Lib.hid (RefParse_any rs w2 (by have := HRZ.out; omega))
            clear hp hlen
            cases hv : parseV (bs rs) with
            | none =>
              rw [hv] at HC
              have HN2 : Hid (NoC (bs s) 2) := Lib.hid (HN.out.succ (fun _ => by show parseV ((bs s).drop 1) = none; rw [← HRB.out]; exact hv))
              simp only [refParseR] at HC
              clear hv
              go_wp2_with fail
              refine HC.out.mono ?_
              rintro e w3 ⟨rfl, hb⟩
              have HB3 : Hid (∀ o, Below W0.heap.size W0 (w3.alloc o)) := Lib.hid (fun o => (HB2.out.trans (hb.mono HB2.out.size)).alloc (HB2.out.trans (hb.mono HB2.out.size)).size o)
              clear hb HC
              go_wp2
              go_roundw
              case rel => exact ⟨2, by omega, by omega, rfl, HN2, Lib.hid (HB3.out _)⟩
              case measure => simp [intOf]
            | some v =>
              rw [hv] at HC
              have HPC : Hid (parseC (bs s) = (⟨(1 : Int), v.major, v.minor, v.patch, mk v.pre⟩, true)) := Lib.hid (comp_hit (o := 1) (by omega) HP.out (by show parseV ((bs s).drop 1) = some v; rw [← HRB.out]; exact hv))
              have HD : Hid (docC (bs s) = ⟨(1 : Int), v.major, v.minor, v.patch, mk v.pre⟩) := Lib.hid (by unfold docC; rw [HPC.out]; rfl)
              simp only [refParseR] at HC
              clear hv
              go_wp2_with fail
              refine HC.out.mono ?_
              rintro e w3 ⟨rfl, hb⟩
              have hx3 : (w3.alloc (.cells #[.int .i64 v.major, .int .i64 v.minor, .int .i64 v.patch, .string (mk v.pre)] 74)).heap[w.heap.size]? = some (.cells #[.int .i64 0, .int .i64 0, .int .i64 0, .int .i64 0, .string ⟨#[]⟩] 76) := (Below.heap_alloc _ _ _ (Nat.lt_of_lt_of_le HL2.out hb.size)).trans ((hb.block _ HL2.out).trans HX2.out)
              have HB3 : Hid (Below w.heap.size w (w3.alloc (.cells #[.int .i64 v.major, .int .i64 v.minor, .int .i64 v.patch, .string (mk v.pre)] 74))) := Lib.hid (HB0.out.trans (((HB2.out.trans (hb.mono HB2.out.size)).alloc (HB2.out.trans (hb.mono HB2.out.size)).size _).mono HB0.out.size))
              have hu := World.alloc_heap_new w3 (.cells #[.int .i64 v.major, .int .i64 v.minor, .int .i64 v.patch, .string (mk v.pre)] 74)
              obtain ⟨u0, u1, u2, u3⟩ := cells4 hu
              clear hb HC hu
              have HF5 := Lib.hid ((At5.of_heap hx3).set (op' := 1) (a' := v.major) (b' := v.minor) (c' := v.patch) (s' := (mk v.pre)))
              obtain ⟨z0, z1, z2, z3, z4, f0, f1, f2, f3, f4⟩ := At5.of_heap hx3
              obtain ⟨g0, g1, g2, g3, g4, _, _, _, _, _⟩ := HF5.out
              simp only [set5] at g0 g1 g2 g3 g4
              have HBS : Hid (Below w.heap.size w (set5 (w3.alloc (.cells #[.int .i64 v.major, .int .i64 v.minor, .int .i64 v.patch, .string (mk v.pre)] 74)) w.heap.size (1) (v.major) (v.minor) (v.patch) (mk v.pre))) := Lib.hid (set5_below HB3.out (Nat.le_refl _) _ _ _ _ _)
              go_wp2
              refine bodyPost_ret (v := .tuple #[compV (1) (v.major) (v.minor) (v.patch) (mk v.pre), .bool true]) (by simp [results, Tryz.results139, go_sem, g0, g1, g2, g3, g4]) rfl ⟨by rw [HD.out, HPC.out]; rfl, by first | exact HBS.out | exact HB3.out⟩
          · have hne : ((s.extract 0 1).toList != [61]) = true := by rw [HEX.out, bne_iff_ne]; exact hp
            have hne2 : ((s.extract 0 1).toList == [61]) = false := by rw [HEX.out, beq_eq_false_iff_ne]; exact hp
            have HN2 : Hid (NoC (bs s) 2) := Lib.hid (HN.out.succ (fun h => absurd (pre_take.1 h) hp))
            clear hp hlen
            go_wp2
            go_roundw
            case rel => exact ⟨2, by omega, by omega, rfl, HN2, HB2⟩
            case measure => simp [intOf]
      · have HC := Lib.hid (Sign_2 wr)
        go_wp2_with fail
        refine HC.out.mono ?_
        rintro e w2 ⟨rfl, hb⟩
        have HB2 : Hid (Below W0.heap.size W0 w2) := Lib.hid (HB.out.trans (hb.mono HB.out.size))
        have HX2 : Hid (w2.heap[w.heap.size]? = some (.cells #[.int .i64 0, .int .i64 0, .int .i64 0, .int .i64 0, .string ⟨#[]⟩] 76)) := Lib.hid ((hb.block _ HLr.out).trans HXr.out)
        have HL2 : Hid (w.heap.size < w2.heap.size) := Lib.hid (Nat.lt_of_lt_of_le HLr.out hb.size)
        clear hb HC
        by_cases hlen : s.size < 1
        · have dl : decide ((s.size : Int) < 1) = true := decide_eq_true (by omega)
          have HN2 : Hid (NoC (bs s) 3) := Lib.hid (HN.out.succ (fun hp => by have h := prefix_len hp; rw [← HZ.out] at h; exact absurd h (by show ¬ 1 ≤ s.size; omega)))
          clear hlen
          go_wp2
          go_roundw
          case rel => exact ⟨3, by omega, by omega, rfl, HN2, HB2⟩
          case measure => simp [intOf]
        · have dl : decide ((s.size : Int) < 1) = false := decide_eq_false (by omega)
          have c1 : (1 : Int) ≤ (s.size : Int) := by omega
          have HEX : Hid ((s.extract 0 1).toList = (bs s).take 1) := Lib.hid (by rw [ByteArray.toList_eq]; exact bs_head s 1)
          by_cases hp : (bs s).take 1 = [60]
          · have hne : ((s.extract 0 1).toList != [60]) = false := by rw [HEX.out, hp]; rfl
            have hne2 : ((s.extract 0 1).toList == [60]) = true := by rw [HEX.out, hp]; rfl
            have HP : Hid (Lib.hasPrefix (bs s) (sg 2) = true) := Lib.hid (pre_take.2 hp)
            obtain ⟨rs, hrs⟩ : ∃ rs, s.extract 1 s.size = rs := ⟨_, rfl⟩
            have HRB : Hid (bs rs = (bs s).drop 1) := Lib.hid (by rw [← hrs]; exact bs_tail s 1)
            have HRZ : Hid (rs.size ≤ 1000000) := Lib.hid (by have := HS.out; rw [← hrs, ByteArray.size_extract]; omega)
            have HC := Lib.hid (RefParse_any rs w2 (by have := HRZ.out; omega))
            clear hp hlen
            cases hv : parseV (bs rs) with
            | none =>
              rw [hv] at HC
              have HN2 : Hid (NoC (bs s) 3) := Lib.hid (HN.out.succ (fun _ => by show parseV ((bs s).drop 1) = none; rw [← HRB.out]; exact hv))
              simp only [refParseR] at HC
              clear hv
              go_wp2_with fail
              refine HC.out.mono ?_
              rintro e w3 ⟨rfl, hb⟩
              have HB3 : Hid (∀ o, Below W0.heap.size W0 (w3.alloc o)) := Lib.hid (fun o => (HB2.out.trans (hb.mono HB2.out.size)).alloc (HB2.out.trans (hb.mono HB2.out.size)).size o)
              clear hb HC
              go_wp2
              go_roundw
              case rel => exact ⟨3, by omega, by omega, rfl, HN2, Lib.hid (HB3.out _)⟩
              case measure => simp [intOf]
            | some v =>
              rw [hv] at HC
              have HPC : Hid (parseC (bs s) = (⟨(2 : Int), v.major, v.minor, v.patch, mk v.pre⟩, true)) := Lib.hid (comp_hit (o := 2) (by omega) HP.out (by show parseV ((bs s).drop 1) = some v; rw [← HRB.out]; exact hv))
              have HD : Hid (docC (bs s) = ⟨(2 : Int), v.major, v.minor, v.patch, mk v.pre⟩) := Lib.hid (by unfold docC; rw [HPC.out]; rfl)
              simp only [refParseR] at HC
              clear hv
              go_wp2_with fail
              refine HC.out.mono ?_
              rintro e w3 ⟨rfl, hb⟩
              have hx3 : (w3.alloc (.cells #[.int .i64 v.major, .int .i64 v.minor, .int .i64 v.patch, .string (mk v.pre)] 74)).heap[w.heap.size]? = some (.cells #[.int .i64 0, .int .i64 0, .int .i64 0, .int .i64 0, .string ⟨#[]⟩] 76) := (Below.heap_alloc _ _ _ (Nat.lt_of_lt_of_le HL2.out hb.size)).trans ((hb.block _ HL2.out).trans HX2.out)
              have HB3 : Hid (Below w.heap.size w (w3.alloc (.cells #[.int .i64 v.major, .int .i64 v.minor, .int .i64 v.patch, .string (mk v.pre)] 74))) := Lib.hid (HB0.out.trans (((HB2.out.trans (hb.mono HB2.out.size)).alloc (HB2.out.trans (hb.mono HB2.out.size)).size _).mono HB0.out.size))
              have hu := World.alloc_heap_new w3 (.cells #[.int .i64 v.major, .int .i64 v.minor, .int .i64 v.patch, .string (mk v.pre)] 74)
              obtain ⟨u0, u1, u2, u3⟩ := cells4 hu
              clear hb HC hu
              have HF5 := Lib.hid ((At5.of_heap hx3).set (op' := 2) (a' := v.major) (b' := v.minor) (c' := v.patch) (s' := (mk v.pre)))
              obtain ⟨z0, z1, z2, z3, z4, f0, f1, f2, f3, f4⟩ := At5.of_heap hx3
              obtain ⟨g0, g1, g2, g3, g4, _, _, _, _, _⟩ := HF5.out
              simp only [set5] at g0 g1 g2 g3 g4
              have HBS : Hid (Below w.heap.size w (set5 (w3.alloc (.cells #[.int .i64 v.major, .int .i64 v.minor, .int .i64 v.patch, .string (mk v.pre)] 74)) w.heap.size (2) (v.major) (v.minor) (v.patch) (mk v.pre))) := Lib.hid (set5_below HB3.out (Nat.le_refl _) _ _ _ _ _)
              go_wp2
              refine bodyPost_ret (v := .tuple #[compV (2) (v.major) (v.minor) (v.patch) (mk v.pre), .bool true]) (by simp [results, Tryz.results139, go_sem, g0, g1, g2, g3, g4]) rfl ⟨by rw [HD.out, HPC.out]; rfl, by first | exact HBS.out | exact HB3.out⟩
          · have hne : ((s.extract 0 1).toList != [60]) = true := by rw [HEX.out, bne_iff_ne]; exact hp
            have hne2 : ((s.extract 0 1).toList == [60]) = false := by rw [HEX.out, beq_eq_false_iff_ne]; exact hp
            have HN2 : Hid (NoC (bs s) 3) := Lib.hid (HN.out.succ (fun h => absurd (pre_take.1 h) hp))
            clear hp hlen
            go_wp2
            go_roundw
            case rel => exact ⟨3, by omega, by omega, rfl, HN2, HB2⟩
            case measure => simp [intOf]
      · have HC := Lib.hid (Sign_3 wr)
        go_wp2_with fail
        refine HC.out.mono ?_
        rintro e w2 ⟨rfl, hb⟩
        have HB2 : Hid (Below W0.heap.size W0 w2) := Lib.hid (HB.out.trans (hb.mono HB.out.size))
        have HX2 : Hid (w2.heap[w.heap.size]? = some (.cells #[.int .i64 0, .int .i64 0, .int .i64 0, .int .i64 0, .string ⟨#[]⟩] 76)) := Lib.hid ((hb.block _ HLr.out).trans HXr.out)
        have HL2 : Hid (w.heap.size < w2.heap.size) := Lib.hid (Nat.lt_of_lt_of_le HLr.out hb.size)
        clear hb HC
        by_cases hlen : s.size < 2
        · have dl : decide ((s.size : Int) < 2) = true := decide_eq_true (by omega)
          have HN2 : Hid (NoC (bs s) 4) := Lib.hid (HN.out.succ (fun hp => by have h := prefix_len hp; rw [← HZ.out] at h; exact absurd h (by show ¬ 2 ≤ s.size; omega)))
          clear hlen
          go_wp2
          go_roundw
          case rel => exact ⟨4, by omega, by omega, rfl, HN2, HB2⟩
          case measure => simp [intOf]
        · have dl : decide ((s.size : Int) < 2) = false := decide_eq_false (by omega)
          have c1 : (2 : Int) ≤ (s.size : Int) := by omega
          have HEX : Hid ((s.extract 0 2).toList = (bs s).take 2) := Lib.hid (by rw [ByteArray.toList_eq]; exact bs_head s 2)
          by_cases hp : (bs s).take 2 = [60, 61]
          · have hne : ((s.extract 0 2).toList != [60, 61]) = false := by rw [HEX.out, hp]; rfl
            have hne2 : ((s.extract 0 2).toList == [60, 61]) = true := by rw [HEX.out, hp]; rfl
            have HP : Hid (Lib.hasPrefix (bs s) (sg 3) = true) := Lib.hid (pre_take.2 hp)
            obtain ⟨rs, hrs⟩ : ∃ rs, s.extract 2 s.size = rs := ⟨_, rfl⟩
            have HRB : Hid (bs rs = (bs s).drop 2) := Lib.hid (by rw [← hrs]; exact bs_tail s 2)
            have HRZ : Hid (rs.size ≤ 1000000) := Lib.hid (by have := HS.out; rw [← hrs, ByteArray.size_extract]; omega)
            have HC := Lib.hid (RefParse_any rs w2 (by have := HRZ.out; omega))
            clear hp hlen
            cases hv : parseV (bs rs) with
            | none =>
              rw [hv] at HC
              have HN2 : Hid (NoC (bs s) 4) := Lib.hid (HN.out.succ (fun _ => by show parseV ((bs s).drop 2) = none; rw [← HRB.out]; exact hv))
              simp only [refParseR] at HC
              clear hv
              go_wp2_with fail
              refine HC.out.mono ?_
              rintro e w3 ⟨rfl, hb⟩
              have HB3 : Hid (∀ o, Below W0.heap.size W0 (w3.alloc o)) := Lib.hid (fun o => (HB2.out.trans (hb.mono HB2.out.size)).alloc (HB2.out.trans (hb.mono HB2.out.size)).size o)
              clear hb HC
              go_wp2
              go_roundw
              case rel => exact ⟨4, by omega, by omega, rfl, HN2, Lib.hid (HB3.out _)⟩
              case measure => simp [intOf]
            | some v =>
              rw [hv] at HC
              have HPC : Hid (parseC (bs s) = (⟨(3 : Int), v.major, v.minor, v.patch, mk v.pre⟩, true)) := Lib.hid (comp_hit (o := 3) (by omega) HP.out (by show parseV ((bs s).drop 2) = some v; rw [← HRB.out]; exact hv))
              have HD : Hid (docC (bs s) = ⟨(3 : Int), v.major, v.minor, v.patch, mk v.pre⟩) := Lib.hid (by unfold docC; rw [HPC.out]; rfl)
              simp only [refParseR] at HC
              clear hv
              go_wp2_with fail
              refine HC.out.mono ?_
              rintro e w3 ⟨rfl, hb⟩
              have hx3 : (w3.alloc (.cells #[.int .i64 v.major, .int .i64 v.minor, .int .i64 v.patch, .string (mk v.pre)] 74)).heap[w.heap.size]? = some (.cells #[.int .i64 0, .int .i64 0, .int .i64 0, .int .i64 0, .string ⟨#[]⟩] 76) := (Below.heap_alloc _ _ _ (Nat.lt_of_lt_of_le HL2.out hb.size)).trans ((hb.block _ HL2.out).trans HX2.out)
              have HB3 : Hid (Below w.heap.size w (w3.alloc (.cells #[.int .i64 v.major, .int .i64 v.minor, .int .i64 v.patch, .string (mk v.pre)] 74))) := Lib.hid (HB0.out.trans (((HB2.out.trans (hb.mono HB2.out.size)).alloc (HB2.out.trans (hb.mono HB2.out.size)).size _).mono HB0.out.size))
              have hu := World.alloc_heap_new w3 (.cells #[.int .i64 v.major, .int .i64 v.minor, .int .i64 v.patch, .string (mk v.pre)] 74)
              obtain ⟨u0, u1, u2, u3⟩ := cells4 hu
              clear hb HC hu
              have HF5 := Lib.hid ((At5.of_heap hx3).set (op' := 3) (a' := v.major) (b' := v.minor) (c' := v.patch) (s' := (mk v.pre)))
              obtain ⟨z0, z1, z2, z3, z4, f0, f1, f2, f3, f4⟩ := At5.of_heap hx3
              obtain ⟨g0, g1, g2, g3, g4, _, _, _, _, _⟩ := HF5.out
              simp only [set5] at g0 g1 g2 g3 g4
              have HBS : Hid (Below w.heap.size w (set5 (w3.alloc (.cells #[.int .i64 v.major, .int .i64 v.minor, .int .i64 v.patch, .string (mk v.pre)] 74)) w.heap.size (3) (v.major) (v.minor) (v.patch) (mk v.pre))) := Lib.hid (set5_below HB3.out (Nat.le_refl _) _ _ _ _ _)
              go_wp2
              refine bodyPost_ret (v := .tuple #[compV (3) (v.major) (v.minor) (v.patch) (mk v.pre), .bool true]) (by simp [results, Tryz.results139, go_sem, g0, g1, g2, g3, g4]) rfl ⟨by rw [HD.out, HPC.out]; rfl, by first | exact HBS.out | exact HB3.out⟩
          · have hne : ((s.extract 0 2).toList != [60, 61]) = true := by rw [HEX.out, bne_iff_ne]; exact hp
            have hne2 : ((s.extract 0 2).toList == [60, 61]) = false := by rw [HEX.out, beq_eq_false_iff_ne]; exact hp
            have HN2 : Hid (NoC (bs s) 4) := Lib.hid (HN.out.succ (fun h => absurd (pre_take.1 h) hp))
            clear hp hlen
            go_wp2
            go_roundw
            case rel => exact ⟨4, by omega, by omega, rfl, HN2, HB2⟩
            case measure => simp [intOf]
      · have HC := Lib.hid (Sign_4 wr)
        go_wp2_with fail
        refine HC.out.mono ?_
        rintro e w2 ⟨rfl, hb⟩
        have HB2 : Hid (Below W0.heap.size W0 w2) := Lib.hid (HB.out.trans (hb.mono HB.out.size))
        have HX2 : Hid (w2.heap[w.heap.size]? = some (.cells #[.int .i64 0, .int .i64 0, .int .i64 0, .int .i64 0, .string ⟨#[]⟩] 76)) := Lib.hid ((hb.block _ HLr.out).trans HXr.out)
        have HL2 : Hid (w.heap.size < w2.heap.size) := Lib.hid (Nat.lt_of_lt_of_le HLr.out hb.size)
        clear hb HC
        by_cases hlen : s.size < 1
        · have dl : decide ((s.size : Int) < 1) = true := decide_eq_true (by omega)
          have HN2 : Hid (NoC (bs s) 5) := Lib.hid (HN.out.succ (fun hp => by have h := prefix_len hp; rw [← HZ.out] at h; exact absurd h (by show ¬ 1 ≤ s.size; omega)))
          clear hlen
          go_wp2
          go_roundw
          case rel => exact ⟨5, by omega, by omega, rfl, HN2, HB2⟩
          case measure => simp [intOf]
        · have dl : decide ((s.size : Int) < 1) = false := decide_eq_false (by omega)
          have c1 : (1 : Int) ≤ (s.size : Int) := by omega
          have HEX : Hid ((s.extract 0 1).toList = (bs s).take 1) := Lib.hid (by rw [ByteArray.toList_eq]; exact bs_head s 1)
          by_cases hp : (bs s).take 1 = [62]
          · have hne : ((s.extract 0 1).toList != [62]) = false := by rw [HEX.out, hp]; rfl
            have hne2 : ((s.extract 0 1).toList == [62]) = true := by rw [HEX.out, hp]; rfl
            have HP : Hid (Lib.hasPrefix (bs s) (sg 4) = true) := Lib.hid (pre_take.2 hp)
            obtain ⟨rs, hrs⟩ : ∃ rs, s.extract 1 s.size = rs := ⟨_, rfl⟩
            have HRB : Hid (bs rs = (bs s).drop 1) := Lib.hid (by rw [← hrs]; exact bs_tail s 1)
            have HRZ : Hid (rs.size ≤ 1000000) := Lib.hid (by have := HS.out; rw [← hrs, ByteArray.size_extract]; omega)
            have HC := Lib.hid (RefParse_any rs w2 (by have := HRZ.out; omega))
            clear hp hlen
            cases hv : parseV (bs rs) with
            | none =>
              rw [hv] at HC
              have HN2 : Hid (NoC (bs s) 5) := Lib.hid (HN.out.succ (fun _ => by show parseV ((bs s).drop 1) = none; rw [← HRB.out]; exact hv))
              simp only [refParseR] at HC
              clear hv
              go_wp2_with fail
              refine HC.out.mono ?_
              rintro e w3 ⟨rfl, hb⟩
              have HB3 : Hid (∀ o, Below W0.heap.size W0 (w3.alloc o)) := Lib.hid (fun o => (HB2.out.trans (hb.mono HB2.out.size)).alloc (HB2.out.trans (hb.mono HB2.out.size)).size o)
              clear hb HC
              go_wp2
              go_roundw
              case rel => exact ⟨5, by omega, by omega, rfl, HN2, Lib.hid (HB3.out _)⟩
              case measure => simp [intOf]
            | some v =>
              rw [hv] at HC
              have HPC : Hid (parseC (bs s) = (⟨(4 : Int), v.major, v.minor, v.patch, mk v.pre⟩, true)) := Lib.hid (comp_hit (o := 4) (by omega) HP.out (by show parseV ((bs s).drop 1) = some v; rw [← HRB.out]; exact hv))
              have HD : Hid (docC (bs s) = ⟨(4 : Int), v.major, v.minor, v.patch, mk v.pre⟩) := Lib.hid (by unfold docC; rw [HPC.out]; rfl)
              simp only [refParseR] at HC
              clear hv
              go_wp2_with fail
              refine HC.out.mono ?_
              rintro e w3 ⟨rfl, hb⟩
              have hx3 : (w3.alloc (.cells #[.int .i64 v.major, .int .i64 v.minor, .int .i64 v.patch, .string (mk v.pre)] 74)).heap[w.heap.size]? = some (.cells #[.int .i64 0, .int .i64 0, .int .i64 0, .int .i64 0, .string ⟨#[]⟩] 76) := (Below.heap_alloc _ _ _ (Nat.lt_of_lt_of_le HL2.out hb.size)).trans ((hb.block _ HL2.out).trans HX2.out)
              have HB3 : Hid (Below w.heap.size w (w3.alloc (.cells #[.int .i64 v.major, .int .i64 v.minor, .int .i64 v.patch, .string (mk v.pre)] 74))) := Lib.hid (HB0.out.trans (((HB2.out.trans (hb.mono HB2.out.size)).alloc (HB2.out.trans (hb.mono HB2.out.size)).size _).mono HB0.out.size))
              have hu := World.alloc_heap_new w3 (.cells #[.int .i64 v.major, .int .i64 v.minor, .int .i64 v.patch, .string (mk v.pre)] 74)
              obtain ⟨u0, u1, u2, u3⟩ := cells4 hu
              clear hb HC hu
              have HF5 := Lib.hid ((At5.of_heap hx3).set (op' := 4) (a' := v.major) (b' := v.minor) (c' := v.patch) (s' := (mk v.pre)))
              obtain ⟨z0, z1, z2, z3, z4, f0, f1, f2, f3, f4⟩ := At5.of_heap hx3
              obtain ⟨g0, g1, g2, g3, g4, _, _, _, _, _⟩ := HF5.out
              simp only [set5] at g0 g1 g2 g3 g4
              have HBS : Hid (Below w.heap.size w (set5 (w3.alloc (.cells #[.int .i64 v.major, .int .i64 v.minor, .int .i64 v.patch, .string (mk v.pre)] 74)) w.heap.size (4) (v.major) (v.minor) (v.patch) (mk v.pre))) := Lib.hid (set5_below HB3.out (Nat.le_refl _) _ _ _ _ _)
              go_wp2
              refine bodyPost_ret (v := .tuple #[compV (4) (v.major) (v.minor) (v.patch) (mk v.pre), .bool true]) (by simp [results, Tryz.results139, go_sem, g0, g1, g2, g3, g4]) rfl ⟨by rw [HD.out, HPC.out]; rfl, by first | exact HBS.out | exact HB3.out⟩
          · have hne : ((s.extract 0 1).toList != [62]) = true := by rw [HEX.out, bne_iff_ne]; exact hp
            have hne2 : ((s.extract 0 1).toList == [62]) = false := by rw [HEX.out, beq_eq_false_iff_ne]; exact hp
            have HN2 : Hid (NoC (bs s) 5) := Lib.hid (HN.out.succ (fun h => absurd (pre_take.1 h) hp))
            clear hp hlen
            go_wp2
            go_roundw
            case rel => exact ⟨5, by omega, by omega, rfl, HN2, HB2⟩
            case measure => simp [intOf]
      · have HC := Lib.hid (Sign_5 wr)
        go_wp2_with fail
        refine HC.out.mono ?_
        rintro e w2 ⟨rfl, hb⟩
        have HB2 : Hid (Below W0.heap.size W0 w2) := Lib.hid (HB.out.trans (hb.mono HB.out.size))
        have HX2 : Hid (w2.heap[w.heap.size]? = some (.cells #[.int .i64 0, .int .i64 0, .int .i64 0, .int .i64 0, .string ⟨#[]⟩] 76)) := Lib.hid ((hb.block _ HLr.out).trans HXr.out)
        have HL2 : Hid (w.heap.size < w2.heap.size) := Lib.hid (Nat.lt_of_lt_of_le HLr.out hb.size)
        clear hb HC
        by_cases hlen : s.size < 2
        · have dl : decide ((s.size : Int) < 2) = true := decide_eq_true (by omega)
          have HN2 : Hid (NoC (bs s) 6) := Lib.hid (HN.out.succ (fun hp => by have h := prefix_len hp; rw [← HZ.out] at h; exact absurd h (by show ¬ 2 ≤ s.size; omega)))
          clear hlen
          go_wp2
          go_roundw
          case rel => exact ⟨6, by omega, by omega, rfl, HN2, HB2⟩
          case measure => simp [intOf]
        · have dl : decide ((s.size : Int) < 2) = false := decide_eq_false (by omega)
          have c1 : (2 : Int) ≤ (s.size : Int) := by omega
          have HEX : Hid ((s.extract 0 2).toList = (bs s).take 2) := Lib.hid (by rw [ByteArray.toList_eq]; exact bs_head s 2)
          by_cases hp : (bs s).take 2 = [62, 61]
          · have hne : ((s.extract 0 2).toList != [62, 61]) = false := by rw [HEX.out, hp]; rfl
            have hne2 : ((s.extract 0 2).toList == [62, 61]) = true := by rw [HEX.out, hp]; rfl
            have HP : Hid (Lib.hasPrefix (bs s) (sg 5) = true) := Lib.hid (pre_take.2 hp)
            obtain ⟨rs, hrs⟩ : ∃ rs, s.extract 2 s.size = rs := ⟨_, rfl⟩
            have HRB : Hid (bs rs = (bs s).drop 2) := Lib.hid (by rw [← hrs]; exact bs_tail s 2)
            have HRZ : Hid (rs.size ≤ 1000000) := Lib.hid (by have := HS.out; rw [← hrs, ByteArray.size_extract]; omega)
            have HC := Lib.hid (RefParse_any rs w2 (by have := HRZ.out; omega))
            clear hp hlen
            cases hv : parseV (bs rs) with
            | none =>
              rw [hv] at HC
              have HN2 : Hid (NoC (bs s) 6) := Lib.hid (HN.out.succ (fun _ => by show parseV ((bs s).drop 2) = none; rw [← HRB.out]; exact hv))
              simp only [refParseR] at HC
              clear hv
              go_wp2_with fail
              refine HC.out.mono ?_
              rintro e w3 ⟨rfl, hb⟩
              have HB3 : Hid (∀ o, Below W0.heap.size W0 (w3.alloc o)) := Lib.hid (fun o => (HB2.out.trans (hb.mono HB2.out.size)).alloc (HB2.out.trans (hb.mono HB2.out.size)).size o)
              clear hb HC
              go_wp2
              go_roundw
              case rel => exact ⟨6, by omega, by omega, rfl, HN2, Lib.hid (HB3.out _)⟩
              case measure => simp [intOf]
            | some v =>
              rw [hv] at HC
              have HPC : Hid (parseC (bs s) = (⟨(5 : Int), v.major, v.minor, v.patch, mk v.pre⟩, true)) := Lib.hid (comp_hit (o := 5) (by omega) HP.out (by show parseV ((bs s).drop 2) = some v; rw [← HRB.out]; exact hv))
              have HD : Hid (docC (bs s) = ⟨(5 : Int), v.major, v.minor, v.patch, mk v.pre⟩) := Lib.hid (by unfold docC; rw [HPC.out]; rfl)
              simp only [refParseR] at HC
              clear hv
              go_wp2_with fail
              refine HC.out.mono ?_
              rintro e w3 ⟨rfl, hb⟩
              have hx3 : (w3.alloc (.cells #[.int .i64 v.major, .int .i64 v.minor, .int .i64 v.patch, .string (mk v.pre)] 74)).heap[w.heap.size]? = some (.cells #[.int .i64 0, .int .i64 0, .int .i64 0, .int .i64 0, .string ⟨#[]⟩] 76) := (Below.heap_alloc _ _ _ (Nat.lt_of_lt_of_le HL2.out hb.size)).trans ((hb.block _ HL2.out).trans HX2.out)
              have HB3 : Hid (Below w.heap.size w (w3.alloc (.cells #[.int .i64 v.major, .int .i64 v.minor, .int .i64 v.patch, .string (mk v.pre)] 74))) := Lib.hid (HB0.out.trans (((HB2.out.trans (hb.mono HB2.out.size)).alloc (HB2.out.trans (hb.mono HB2.out.size)).size _).mono HB0.out.size))
              have hu := World.alloc_heap_new w3 (.cells #[.int .i64 v.major, .int .i64 v.minor, .int .i64 v.patch, .string (mk v.pre)] 74)
              obtain ⟨u0, u1, u2, u3⟩ := cells4 hu
              clear hb HC hu
              have HF5 := Lib.hid ((At5.of_heap hx3).set (op' := 5) (a' := v.major) (b' := v.minor) (c' := v.patch) (s' := (mk v.pre)))
              obtain ⟨z0, z1, z2, z3, z4, f0, f1, f2, f3, f4⟩ := At5.of_heap hx3
              obtain ⟨g0, g1, g2, g3, g4, _, _, _, _, _⟩ := HF5.out
              simp only [set5] at g0 g1 g2 g3 g4
              have HBS : Hid (Below w.heap.size w (set5 (w3.alloc (.cells #[.int .i64 v.major, .int .i64 v.minor, .int .i64 v.patch, .string (mk v.pre)] 74)) w.heap.size (5) (v.major) (v.minor) (v.patch) (mk v.pre))) := Lib.hid (set5_below HB3.out (Nat.le_refl _) _ _ _ _ _)
              go_wp2
              refine bodyPost_ret (v := .tuple #[compV (5) (v.major) (v.minor) (v.patch) (mk v.pre), .bool true]) (by simp [results, Tryz.results139, go_sem, g0, g1, g2, g3, g4]) rfl ⟨by rw [HD.out, HPC.out]; rfl, by first | exact HBS.out | exact HB3.out⟩
          · have hne : ((s.extract 0 2).toList != [62, 61]) = true := by rw [HEX.out, bne_iff_ne]; exact hp
            have hne2 : ((s.extract 0 2).toList == [62, 61]) = false := by rw [HEX.out, beq_eq_false_iff_ne]; exact hp
            have HN2 : Hid (NoC (bs s) 6) := Lib.hid (HN.out.succ (fun h => absurd (pre_take.1 h) hp))
            clear hp hlen
            go_wp2
            go_roundw
            case rel => exact ⟨6, by omega, by omega, rfl, HN2, HB2⟩
            case measure => simp [intOf]
      · have HC := Lib.hid (Sign_6 wr)
        go_wp2_with fail
        refine HC.out.mono ?_
        rintro e w2 ⟨rfl, hb⟩
        have HB2 : Hid (Below W0.heap.size W0 w2) := Lib.hid (HB.out.trans (hb.mono HB.out.size))
        have HX2 : Hid (w2.heap[w.heap.size]? = some (.cells #[.int .i64 0, .int .i64 0, .int .i64 0, .int .i64 0, .string ⟨#[]⟩] 76)) := Lib.hid ((hb.block _ HLr.out).trans HXr.out)
        have HL2 : Hid (w.heap.size < w2.heap.size) := Lib.hid (Nat.lt_of_lt_of_le HLr.out hb.size)
        clear hb HC
        by_cases hlen : s.size < 1
        · have dl : decide ((s.size : Int) < 1) = true := decide_eq_true (by omega)
          have HN2 : Hid (NoC (bs s) 7) := Lib.hid (HN.out.succ (fun hp => by have h := prefix_len hp; rw [← HZ.out] at h; exact absurd h (by show ¬ 1 ≤ s.size; omega)))
          clear hlen
          go_wp2
          go_roundw
          case rel => exact ⟨7, by omega, by omega, rfl, HN2, HB2⟩
          case measure => simp [intOf]
        · have dl : decide ((s.size : Int) < 1) = false := decide_eq_false (by omega)
          have c1 : (1 : Int) ≤ (s.size : Int) := by omega
          have HEX : Hid ((s.extract 0 1).toList = (bs s).take 1) := Lib.hid (by rw [ByteArray.toList_eq]; exact bs_head s 1)
          by_cases hp : (bs s).take 1 = [94]
          · have hne : ((s.extract 0 1).toList != [94]) = false := by rw [HEX.out, hp]; rfl
            have hne2 : ((s.extract 0 1).toList == [94]) = true := by rw [HEX.out, hp]; rfl
            have HP : Hid (Lib.hasPrefix (bs s) (sg 6) = true) := Lib.hid (pre_take.2 hp)
            obtain ⟨rs, hrs⟩ : ∃ rs, s.extract 1 s.size = rs := ⟨_, rfl⟩
            have HRB : Hid (bs rs = (bs s).drop 1) := Lib.hid (by rw [← hrs]; exact bs_tail s 1)
            have HRZ : Hid (rs.size ≤ 1000000) := Lib.hid (by have := HS.out; rw [← hrs, ByteArray.size_extract]; omega)
            have HC := Lib.hid (RefParse_any rs w2 (by have := HRZ.out; omega))
            clear hp hlen
            cases hv : parseV (bs rs) with
            | none =>
              rw [hv] at HC
              have HN2 : Hid (NoC (bs s) 7) := Lib.hid (HN.out.succ (fun _ => by show parseV ((bs s).drop 1) = none; rw [← HRB.out]; exact hv))
              simp only [refParseR] at HC
              clear hv
              go_wp2_with fail
              refine HC.out.mono ?_
              rintro e w3 ⟨rfl, hb⟩
              have HB3 : Hid (∀ o, Below W0.heap.size W0 (w3.alloc o)) := Lib.hid (fun o => (HB2.out.trans (hb.mono HB2.out.size)).alloc (HB2.out.trans (hb.mono HB2.out.size)).size o)
              clear hb HC
              go_wp2
              go_roundw
              case rel => exact ⟨7, by omega, by omega, rfl, HN2, Lib.hid (HB3.out _)⟩
              case measure => simp [intOf]
            | some v =>
              rw [hv] at HC
              have HPC : Hid (parseC (bs s) = (⟨(6 : Int), v.major, v.minor, v.patch, mk v.pre⟩, true)) := Lib.hid (comp_hit (o := 6) (by omega) HP.out (by show parseV ((bs s).drop 1) = some v; rw [← HRB.out]; exact hv))
              have HD : Hid (docC (bs s) = ⟨(6 : Int), v.major, v.minor, v.patch, mk v.pre⟩) := Lib.hid (by unfold docC; rw [HPC.out]; rfl)
              simp only [refParseR] at HC
              clear hv
              go_wp2_with fail
              refine HC.out.mono ?_
              rintro e w3 ⟨rfl, hb⟩
              have hx3 : (w3.alloc (.cells #[.int .i64 v.major, .int .i64 v.minor, .int .i64 v.patch, .string (mk v.pre)] 74)).heap[w.heap.size]? = some (.cells #[.int .i64 0, .int .i64 0, .int .i64 0, .int .i64 0, .string ⟨#[]⟩] 76) := (Below.heap_alloc _ _ _ (Nat.lt_of_lt_of_le HL2.out hb.size)).trans ((hb.block _ HL2.out).trans HX2.out)
              have HB3 : Hid (Below w.heap.size w (w3.alloc (.cells #[.int .i64 v.major, .int .i64 v.minor, .int .i64 v.patch, .string (mk v.pre)] 74))) := Lib.hid (HB0.out.trans (((HB2.out.trans (hb.mono HB2.out.size)).alloc (HB2.out.trans (hb.mono HB2.out.size)).size _).mono HB0.out.size))
              have hu := World.alloc_heap_new w3 (.cells #[.int .i64 v.major, .int .i64 v.minor, .int .i64 v.patch, .string (mk v.pre)] 74)
              obtain ⟨u0, u1, u2, u3⟩ := cells4 hu
              clear hb HC hu
              have HF5 := Lib.hid ((At5.of_heap hx3).set (op' := 6) (a' := v.major) (b' := v.minor) (c' := v.patch) (s' := (mk v.pre)))
              obtain ⟨z0, z1, z2, z3, z4, f0, f1, f2, f3, f4⟩ := At5.of_heap hx3
              obtain ⟨g0, g1, g2, g3, g4, _, _, _, _, _⟩ := HF5.out
              simp only [set5] at g0 g1 g2 g3 g4
              have HBS : Hid (Below w.heap.size w (set5 (w3.alloc (.cells #[.int .i64 v.major, .int .i64 v.minor, .int .i64 v.patch, .string (mk v.pre)] 74)) w.heap.size (6) (v.major) (v.minor) (v.patch) (mk v.pre))) := Lib.hid (set5_below HB3.out (Nat.le_refl _) _ _ _ _ _)
              go_wp2
              refine bodyPost_ret (v := .tuple #[compV (6) (v.major) (v.minor) (v.patch) (mk v.pre), .bool true]) (by simp [results, Tryz.results139, go_sem, g0, g1, g2, g3, g4]) rfl ⟨by rw [HD.out, HPC.out]; rfl, by first | exact HBS.out | exact HB3.out⟩
          · have hne : ((s.extract 0 1).toList != [94]) = true := by rw [HEX.out, bne_iff_ne]; exact hp
            have hne2 : ((s.extract 0 1).toList == [94]) = false := by rw [HEX.out, beq_eq_false_iff_ne]; exact hp
            have HN2 : Hid (NoC (bs s) 7) := Lib.hid (HN.out.succ (fun h => absurd (pre_take.1 h) hp))
            clear hp hlen
            go_wp2
            go_roundw
            case rel => exact ⟨7, by omega, by omega, rfl, HN2, HB2⟩
            case measure => simp [intOf]
      · have HC := Lib.hid (Sign_7 wr)
        go_wp2_with fail
        refine HC.out.mono ?_
        rintro e w2 ⟨rfl, hb⟩
        have HB2 : Hid (Below W0.heap.size W0 w2) := Lib.hid (HB.out.trans (hb.mono HB.out.size))
        have HX2 : Hid (w2.heap[w.heap.size]? = some (.cells #[.int .i64 0, .int .i64 0, .int .i64 0, .int .i64 0, .string ⟨#[]⟩] 76)) := Lib.hid ((hb.block _ HLr.out).trans HXr.out)
        have HL2 : Hid (w.heap.size < w2.heap.size) := Lib.hid (Nat.lt_of_lt_of_le HLr.out hb.size)
        clear hb HC
        by_cases hlen : s.size < 1
        · have dl : decide ((s.size : Int) < 1) = true := decide_eq_true (by omega)
          have HN2 : Hid (NoC (bs s) 8) := Lib.hid (HN.out.succ (fun hp => by have h := prefix_len hp; rw [← HZ.out] at h; exact absurd h (by show ¬ 1 ≤ s.size; omega)))
          clear hlen
          go_wp2
          go_roundw
          case rel => exact ⟨8, by omega, by omega, rfl, HN2, HB2⟩
          case measure => simp [intOf]
        · have dl : decide ((s.size : Int) < 1) = false := decide_eq_false (by omega)
          have c1 : (1 : Int) ≤ (s.size : Int) := by omega
          have HEX : Hid ((s.extract 0 1).toList = (bs s).take 1) := Lib.hid (by rw [ByteArray.toList_eq]; exact bs_head s 1)
          by_cases hp : (bs s).take 1 = [126]
          · have hne : ((s.extract 0 1).toList != [126]) = false := by rw [HEX.out, hp]; rfl
            have hne2 : ((s.extract 0 1).toList == [126]) = true := by rw [HEX.out, hp]; rfl
            have HP : Hid (Lib.hasPrefix (bs s) (sg 7) = true) := Lib.hid (pre_take.2 hp)
            obtain ⟨rs, hrs⟩ : ∃ rs, s.extract 1 s.size = rs := ⟨_, rfl⟩
            have HRB : Hid (bs rs = (bs s).drop 1) := Lib.hid (by rw [← hrs]; exact bs_tail s 1)
            have HRZ : Hid (rs.size ≤ 1000000) := Lib.hid (by have := HS.out; rw [← hrs, ByteArray.size_extract]; omega)
            have HC := Lib.hid (RefParse_any rs w2 (by have := HRZ.out; omega))
            clear hp hlen
            cases hv : parseV (bs rs) with
            | none =>
              rw [hv] at HC
              have HN2 : Hid (NoC (bs s) 8) := Lib.hid (HN.out.succ (fun _ => by show parseV ((bs s).drop 1) = none; rw [← HRB.out]; exact hv))
              simp only [refParseR] at HC
              clear hv
              go_wp2_with fail
              refine HC.out.mono ?_
              rintro e w3 ⟨rfl, hb⟩
              have HB3 : Hid (∀ o, Below W0.heap.size W0 (w3.alloc o)) := Lib.hid (fun o => (HB2.out.trans (hb.mono HB2.out.size)).alloc (HB2.out.trans (hb.mono HB2.out.size)).size o)
              clear hb HC
              go_wp2
              go_roundw
              case rel => exact ⟨8, by omega, by omega, rfl, HN2, Lib.hid (HB3.out _)⟩
              case measure => simp [intOf]
            | some v =>
              rw [hv] at HC
              have HPC : Hid (parseC (bs s) = (⟨(7 : Int), v.major, v.minor, v.patch, mk v.pre⟩, true)) := Lib.hid (comp_hit (o := 7) (by omega) HP.out (by show parseV ((bs s).drop 1) = some v; rw [← HRB.out]; exact hv))
              have HD : Hid (docC (bs s) = ⟨(7 : Int), v.major, v.minor, v.patch, mk v.pre⟩) := Lib.hid (by unfold docC; rw [HPC.out]; rfl)
              simp only [refParseR] at HC
              clear hv
              go_wp2_with fail
              refine HC.out.mono ?_
              rintro e w3 ⟨rfl, hb⟩
              have hx3 : (w3.alloc (.cells #[.int .i64 v.major, .int .i64 v.minor, .int .i64 v.patch, .string (mk v.pre)] 74)).heap[w.heap.size]? = some (.cells #[.int .i64 0, .int .i64 0, .int .i64 0, .int .i64 0, .string ⟨#[]⟩] 76) := (Below.heap_alloc _ _ _ (Nat.lt_of_lt_of_le HL2.out hb.size)).trans ((hb.block _ HL2.out).trans HX2.out)
              have HB3 : Hid (Below w.heap.size w (w3.alloc (.cells #[.int .i64 v.major, .int .i64 v.minor, .int .i64 v.patch, .string (mk v.pre)] 74))) := Lib.hid (HB0.out.trans (((HB2.out.trans (hb.mono HB2.out.size)).alloc (HB2.out.trans (hb.mono HB2.out.size)).size _).mono HB0.out.size))
              have hu := World.alloc_heap_new w3 (.cells #[.int .i64 v.major, .int .i64 v.minor, .int .i64 v.patch, .string (mk v.pre)] 74)
              obtain ⟨u0, u1, u2, u3⟩ := cells4 hu
              clear hb HC hu
              have HF5 := Lib.hid ((At5.of_heap hx3).set (op' := 7) (a' := v.major) (b' := v.minor) (c' := v.patch) (s' := (mk v.pre)))
              obtain ⟨z0, z1, z2, z3, z4, f0, f1, f2, f3, f4⟩ := At5.of_heap hx3
              obtain ⟨g0, g1, g2, g3, g4, _, _, _, _, _⟩ := HF5.out
              simp only [set5] at g0 g1 g2 g3 g4
              have HBS : Hid (Below w.heap.size w (set5 (w3.alloc (.cells #[.int .i64 v.major, .int .i64 v.minor, .int .i64 v.patch, .string (mk v.pre)] 74)) w.heap.size (7) (v.major) (v.minor) (v.patch) (mk v.pre))) := Lib.hid (set5_below HB3.out (Nat.le_refl _) _ _ _ _ _)
              go_wp2
              refine bodyPost_ret (v := .tuple #[compV (7) (v.major) (v.minor) (v.patch) (mk v.pre), .bool true]) (by simp [results, Tryz.results139, go_sem, g0, g1, g2, g3, g4]) rfl ⟨by rw [HD.out, HPC.out]; rfl, by first | exact HBS.out | exact HB3.out⟩
          · have hne : ((s.extract 0 1).toList != [126]) = true := by rw [HEX.out, bne_iff_ne]; exact hp
            have hne2 : ((s.extract 0 1).toList == [126]) = false := by rw [HEX.out, beq_eq_false_iff_ne]; exact hp
            have HN2 : Hid (NoC (bs s) 8) := Lib.hid (HN.out.succ (fun h => absurd (pre_take.1 h) hp))
            clear hp hlen
            go_wp2
            go_roundw
            case rel => exact ⟨8, by omega, by omega, rfl, HN2, HB2⟩
            case measure => simp [intOf]
      · have HP : Hid ((parseC (bs s)).2 = false) := Lib.hid (comp_miss HST.out HN.out)
        have HD : Hid (docC (bs s) = zeroC) := Lib.hid (by unfold docC; rw [HP.out]; rfl)
        have hxr := HXr.out
        have HF5 := Lib.hid ((At5.of_heap hxr).set (op' := 0) (a' := 0) (b' := 0) (c' := 0) (s' := ⟨#[]⟩))
        obtain ⟨z0, z1, z2, z3, z4, f0, f1, f2, f3, f4⟩ := At5.of_heap hxr
        obtain ⟨g0, g1, g2, g3, g4, _, _, _, _, _⟩ := HF5.out
        simp only [set5] at g0 g1 g2 g3 g4
        have HBS : Hid (Below w.heap.size w (set5 wr w.heap.size (0) (0) (0) (0) ⟨#[]⟩)) := Lib.hid (set5_below (HB0.out.trans (HB.out.mono HB0.out.size)) (Nat.le_refl _) _ _ _ _ _)
        go_wp2
        refine bodyPost_ret (v := .tuple #[compV (0) (0) (0) (0) ⟨#[]⟩, .bool false]) (by simp [results, Tryz.results139, go_sem, g0, g1, g2, g3, g4]) rfl ⟨by rw [HD.out, HP.out]; rfl, by first | exact HBS.out | exact (HB0.out.trans (HB.out.mono HB0.out.size))⟩
end Go.Proofs.YtpnbbbhbbnemlaaGreatDoor
