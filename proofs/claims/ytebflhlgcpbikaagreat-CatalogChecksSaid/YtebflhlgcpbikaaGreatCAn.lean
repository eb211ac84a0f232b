/-
  The statements' anchor: the document's example.
-/
import Derived.Test.YtebflhlgcpbikaaGreatCEy
import Derived.Test.YtebflhlgcpbikaaGreatCCk
namespace Go.Proofs.YtebflhlgcpbikaaGreat
open Go.RowKit
open SemP FlP GaP DiP
set_option linter.unusedVariables false
set_option linter.unusedSimpArgs false
set_option maxRecDepth 10000
theorem ex_sm : SmCat exL := by
  refine ⟨by decide, fun s hs => ?_⟩
  have hn : ∀ op : Int, ∀ p ∈ nd1 op, SmR p.2 := fun op p hp => by
    obtain rfl : p = (0, [[cv1 op]]) := by simpa [nd1] using hp
    refine ⟨by show 1 ≤ 12; omega, fun l hl => ?_⟩
    obtain rfl : l = [cv1 op] := by simpa using hl
    refine ⟨by show 1 ≤ 12; omega, fun x hx => ?_⟩
    obtain rfl : x = cv1 op := by simpa using hx
    unfold cv1; split <;> exact Nat.zero_le _
  have hs2 : s = (⟨#[97]⟩, exA) ∨ s = (⟨#[98]⟩, exB) := by simpa [exL] using hs
  rcases hs2 with rfl | rfl
  · refine ⟨by decide, by decide, fun r hr => ?_⟩
    have hr2 : r = ((1, 0, 0, ⟨#[]⟩), 0, []) ∨ r = ((2, 0, 0, ⟨#[]⟩), 0, []) := by simpa [exA] using hr
    rcases hr2 with rfl | rfl
    · exact ⟨by decide, by decide, fun p hp => by simp at hp⟩
    · exact ⟨by decide, by decide, fun p hp => by simp at hp⟩
  · refine ⟨by decide, by decide, fun r hr => ?_⟩
    have hr2 : r = ((1, 0, 0, ⟨#[]⟩), 0, nd1 6) ∨ r = ((2, 0, 0, ⟨#[]⟩), 0, nd1 0) := by simpa [exB] using hr
    rcases hr2 with rfl | rfl
    · exact ⟨by decide, by decide, hn 6⟩
    · exact ⟨by decide, by decide, hn 0⟩
theorem ex_lev : LevOK exL := by
  intro s hs r hr
  have hs2 : s = (⟨#[97]⟩, exA) ∨ s = (⟨#[98]⟩, exB) := by simpa [exL] using hs
  rcases hs2 with rfl | rfl
  · have hr2 : r = ((1, 0, 0, ⟨#[]⟩), 0, []) ∨ r = ((2, 0, 0, ⟨#[]⟩), 0, []) := by simpa [exA] using hr
    rcases hr2 with rfl | rfl <;> exact ⟨by decide, by decide⟩
  · have hr2 : r = ((1, 0, 0, ⟨#[]⟩), 0, nd1 6) ∨ r = ((2, 0, 0, ⟨#[]⟩), 0, nd1 0) := by simpa [exB] using hr
    rcases hr2 with rfl | rfl <;> exact ⟨by show (0 : Int) ≤ 0; decide, by show (0 : Int) ≤ 1000; decide⟩
theorem ex_chk : chkC exL = (0, 0, 0) := by decide +kernel
theorem ex_setB : setB exL [1, 1] = true := by decide +kernel
theorem ex_fit0 : fitsC exL 0 1 1 0 = false := by decide +kernel
theorem ex_fit1 : fitsC exL 0 1 1 1 = true := by decide +kernel
theorem ex_link : linkC exL 0 1 = true := by decide +kernel
theorem ex_good : goodC exL (setL exL [1, 1]) = true := by decide +kernel
theorem ex_set : setL exL [1, 1] = [(1, 0), (1, 0)] := by decide +kernel
set_option maxHeartbeats 16000000 in
theorem canchor_any (w : World) (hm : LenAt w) (h1 : 1 < w.heap.size) :
    Calls Tryz.prog 9 #[] w fun e w' => e = .returned (.bool true) ∧ Below w.heap.size w w' := by
  have HM := Lib.hid (And.intro hm h1)
  clear hm h1
  go_enter Tryz.func9, Tryz.ntmps9
  go_wp2_with fail
  refine (example_any w).mono ?_
  rintro e w1 ⟨g, rfl, hss, hb1⟩
  obtain ⟨hcap, hrd⟩ := ss_turns.go hss (FrM.refl w1 _) (M' := fun b => w1.heap.size ≤ b) (fun b hb => .inr hb) |> ssI.rd
  obtain ⟨W, HW⟩ : ∃ W, Hid (W = w1.alloc (.cells #[.slice (some ⟨g, 0, none⟩) 2 2] 24)) := ⟨_, Lib.hid rfl⟩
  have hbW : Below w1.heap.size w1 W := by rw [HW.out]; exact (Below.refl _ w1).alloc (Nat.le_refl _) _
  have H0 : Hid (W.heap[w1.heap.size]? = some (.cells #[.slice (some ⟨g, 0, none⟩) 2 2] 24 (0, 0))) := Lib.hid (by rw [HW.out]; exact heap_new w1 _)
  have hl1 := LenAt.below HM.out.1 HM.out.2 hb1
  have hA1 : CatAt w1 w1.heap.size (some ⟨g, 0, none⟩) 2 2 exL := ⟨hrd, hcap, Nat.le_refl _, ex_sm, hl1.1, hl1.2⟩
  have HA := Lib.hid (hA1.below hbW)
  have HB := Lib.hid (hb1.trans (hbW.mono hb1.size))
  clear hss hb1 hcap hrd hbW hl1 hA1
  go_upto_region 2 with fail
  change Code.wp _ _ _ _ (w1.alloc (.cells #[.slice (some ⟨g, 0, none⟩) 2 2] 24))
  rw [← HW.out]
  obtain ⟨x0, _⟩ := row1f H0.out
  have HCK := Lib.hid (check_any HA.out)
  go_wp2_with fail
  refine HCK.out.mono ?_
  rintro e w2 ⟨rfl, hb⟩
  rw [ex_chk]
  have HB2 : Hid (Below w.heap.size w w2) := Lib.hid (HB.out.trans (hb.mono HB.out.size))
  have HA2 := Lib.hid (HA.out.below hb)
  have K2 : Hid (w2.heap[w1.heap.size]? = _) := Lib.hid ((hb.block w1.heap.size (heapE_lt H0.out)).trans H0.out)
  clear hb x0 HCK
  unfold t3V
  obtain ⟨x0, _⟩ := row1f K2.out
  obtain ⟨W3, HW3⟩ : ∃ W3, Hid (W3 = w2.alloc (.cells #[.int .i64 1, .int .i64 1] 3)) := ⟨_, Lib.hid rfl⟩
  have hb3 : Below w2.heap.size w2 W3 := by rw [HW3.out]; exact (Below.refl _ w2).alloc (Nat.le_refl _) _
  have hown : Own W3 w2.heap.size (.slice (some ⟨w2.heap.size, 0, none⟩) 2 2) 2 [1, 1] := by rw [HW3.out]; exact Own.lit w2 w2.heap.size [1, 1] (Nat.le_refl _) (by decide)
  have hrd3 : Rd W3 W3.heap.size (some ⟨w2.heap.size, 0, none⟩) 2 [1, 1] := Rd.of_own hown
  have HST := Lib.hid (settled_any (c2 := 2) (HA2.out.below hb3) ex_lev hrd3 (Nat.le_refl _) (by omega))
  have HB3 : Hid (Below w.heap.size w W3) := Lib.hid (HB2.out.trans (hb3.mono HB2.out.size))
  have HA3 := Lib.hid (HA2.out.below hb3)
  have K3 : Hid (W3.heap[w1.heap.size]? = _) := Lib.hid ((hb3.block w1.heap.size (heapE_lt K2.out)).trans K2.out)
  clear hb3 hown hrd3
  go_wp2_with fail
  try rw [← HW3.out]
  refine HST.out.mono ?_
  rintro e w4 ⟨hb, ho⟩
  obtain ⟨_, A', c', rfl, hown⟩ | ⟨hno, _⟩ := ho
  rotate_left
  · rw [ex_setB] at hno; cases hno
  have HB4 : Hid (Below w.heap.size w w4) := Lib.hid (HB3.out.trans (hb.mono HB3.out.size))
  have HA4 := Lib.hid (HA3.out.below hb)
  have K4 : Hid (w4.heap[w1.heap.size]? = _) := Lib.hid ((hb.block w1.heap.size (heapE_lt K3.out)).trans K3.out)
  have HO4 := Lib.hid hown
  clear hb hown HST x0
  obtain ⟨x0, _⟩ := row1f K4.out
  have HF0 := Lib.hid (fits_any (i := 0) (v := 1) (j := 1) (x := 0) HA4.out)
  go_wp2_with fail
  refine HF0.out.mono ?_
  rintro e w5 ⟨rfl, hb⟩
  rw [ex_fit0]
  have HB5 : Hid (Below w.heap.size w w5) := Lib.hid (HB4.out.trans (hb.mono HB4.out.size))
  have HA5 := Lib.hid (HA4.out.below hb)
  have K5 : Hid (w5.heap[w1.heap.size]? = _) := Lib.hid ((hb.block w1.heap.size (heapE_lt K4.out)).trans K4.out)
  have HO5 := Lib.hid (HO4.out.kept hb)
  clear hb x0 HF0
  obtain ⟨x0, _⟩ := row1f K5.out
  have HF1 := Lib.hid (fits_any (i := 0) (v := 1) (j := 1) (x := 1) HA5.out)
  go_wp2_with fail
  refine HF1.out.mono ?_
  rintro e w6 ⟨rfl, hb⟩
  rw [ex_fit1]
  have HB6 : Hid (Below w.heap.size w w6) := Lib.hid (HB5.out.trans (hb.mono HB5.out.size))
  have HA6 := Lib.hid (HA5.out.below hb)
  have K6 : Hid (w6.heap[w1.heap.size]? = _) := Lib.hid ((hb.block w1.heap.size (heapE_lt K5.out)).trans K5.out)
  have HO6 := Lib.hid (HO5.out.kept hb)
  clear hb x0 HF1
  obtain ⟨x0, _⟩ := row1f K6.out
  have HL := Lib.hid (linked_any (i := 0) (j := 1) HA6.out)
  go_wp2_with fail
  refine HL.out.mono ?_
  rintro e w7 ⟨rfl, hb⟩
  rw [ex_link]
  have HB7 : Hid (Below w.heap.size w w7) := Lib.hid (HB6.out.trans (hb.mono HB6.out.size))
  have HA7 := Lib.hid (HA6.out.below hb)
  have K7 : Hid (w7.heap[w1.heap.size]? = _) := Lib.hid ((hb.block w1.heap.size (heapE_lt K6.out)).trans K6.out)
  have HO7 := Lib.hid (HO6.out.kept hb)
  clear hb x0 HL
  obtain ⟨x0, _⟩ := row1f K7.out
  have HG := Lib.hid (good_any (c2 := c') HA7.out ex_lev HO7.out.rd (Nat.le_refl _) (by omega) (fun k hk => by
    rw [ex_set]
    have hk2 : k = 0 ∨ k = 1 := by omega
    rcases hk2 with rfl | rfl <;> exact ⟨by decide, by decide⟩))
  go_wp2_with fail
  refine HG.out.mono ?_
  rintro e w8 ⟨rfl, hb⟩
  rw [ex_good]
  have HB8 : Hid (Below w.heap.size w w8) := Lib.hid (HB7.out.trans (hb.mono HB7.out.size))
  clear hb x0 HG
  go_wp2_with fail
  refine bodyPost_ret (results_tmp rfl _ _ _) rfl ⟨rfl, HB8.out⟩
end Go.Proofs.YtebflhlgcpbikaaGreat
