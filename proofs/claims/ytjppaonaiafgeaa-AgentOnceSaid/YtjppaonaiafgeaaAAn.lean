/-
  THE LAW'S ANCHOR: the document's example (printed by genagan.py).
-/
import Derived.Test.YtjppaonaiafgeaaANw
namespace Go.Proofs.Ytjppaonaiafgeaa
open Go.RowKit
open FlP GaP
set_option linter.unusedVariables false
set_option linter.unusedSimpArgs false
set_option maxRecDepth 10000
attribute [local go_sem] run_store_cx
section
variable {w w' : World} {M M' : Nat → Prop} {fb mb K K2 : Nat} {k : Int} {p0 s : Int × Int} {κ : Option Bool} {l : List Od} {ch : Int}
/-- All its blocks are there already: so it may not own what comes later. -/
theorem FS.to (h : FS w M fb mb K k p0 s κ l ch) (hm : ∀ g, M g → g < w.heap.size → M' g) : FS w M' fb mb K k p0 s κ l ch := h.cut.wide (fun g hg => hm g hg.1 hg.2)
end
theorem FS.of_new {w : World} {M : Nat → Prop} {fb mb : Nat} {p0 s : Int × Int} {k : Int} (h : Fl w M fb mb 0 p0 (fun _ => none) [] 0) : FS w M fb mb 0 k p0 s none [] 0 := ⟨0, _, Nat.le_refl _, h, rfl⟩
theorem order_00 : FloatKind.f64.format.order 0 0 = some .eq := by decide +kernel
theorem order_11 : FloatKind.f64.format.order 4607182418800017408 4607182418800017408 = some .eq := by decide +kernel
theorem cv10 : cv (1, 0) = .complex .f64 4607182418800017408 0 := by unfold cv; rw [fl1, fl0]
theorem cv00 : cv (0, 0) = .complex .f64 0 0 := by unfold cv; rw [fl0]
theorem okA : OkS (0, 0) (1, 0) := ⟨.inr rfl, ⟨by decide, by decide, by decide, by decide⟩, ⟨by decide, by decide, by decide, by decide⟩⟩
theorem st00 : St (0, 0) := ⟨by decide, by decide, by decide, by decide⟩
theorem st10 : St (1, 0) := ⟨by decide, by decide, by decide, by decide⟩
theorem lit00 (w : World) : RdC (w.alloc (.cells #[.complex .f64 0 0] 26)) (w.heap.size + 1) (some ⟨w.heap.size, 0, none⟩) 1 [(0, 0)] := by
  have h := lit1 w (0, 0)
  rw [cv00] at h
  exact h
set_option maxHeartbeats 16000000 in
theorem anchor15_any (w : World) : Calls Try.prog 4 #[] w fun e w' => e = .returned (.bool true) ∧ Below w.heap.size w w' := by
  obtain ⟨W, HW⟩ : ∃ W, Hid (W = w.alloc (.cells #[.complex .f64 0 0] 26)) := ⟨_, Lib.hid rfl⟩
  have HBW : Hid (Below w.heap.size w W) := Lib.hid (by rw [HW.out]; exact (Below.refl _ w).alloc (Nat.le_refl _) _)
  have HZW : Hid (W.heap.size = w.heap.size + 1) := Lib.hid (by rw [HW.out]; simp)
  have HNW := Lib.hid (new_any (w := W) (cp := 1) (by rw [HW.out]; exact lit00 w) (by rw [HZW.out]; omega) (show Pl (0, 0) from okA.a))
  rw [HW.out] at HNW
  have q0 := order_00
  have q1 := order_11
  go_enter Try.func4, Try.ntmps4
  go_wp2_with fail
  refine HNW.out.mono ?_
  rintro e w1 ⟨fb, mb, rfl, hmb, hfl, hb1⟩
  rw [← HW.out] at hmb hfl hb1
  have HMB : Hid (w.heap.size ≤ mb) := Lib.hid (by have := HZW.out; omega)
  have HF1 : Hid (FS w1 (fun g => W.heap.size ≤ g) fb mb 0 7 (0, 0) (1, 0) none [] 0) := Lib.hid (FS.of_new hfl)
  have HB1 : Hid (Below w.heap.size w w1) := Lib.hid (HBW.out.trans (hb1.mono HBW.out.size))
  have HS1 : Hid (W.heap.size ≤ w1.heap.size) := Lib.hid hb1.size
  clear hmb hfl hb1 HNW
  -- the order
  obtain ⟨bo, HBO⟩ : ∃ b, Hid (b = w1.heap.size) := ⟨_, Lib.hid rfl⟩
  obtain ⟨X1, HX1⟩ : ∃ X, Hid (X = w1.alloc (.cells #[.int .i64 7, .int .i64 0, .complex .f64 4607182418800017408 0, .bool false] 29)) := ⟨_, Lib.hid rfl⟩
  have HBX1 : Hid (Below w1.heap.size w1 X1) := Lib.hid (by rw [HX1.out]; exact (Below.refl _ w1).alloc (Nat.le_refl _) _)
  have HO1 : Hid (X1.heap[bo]? = some (.cells #[.int .i64 7, .int .i64 0, .complex .f64 4607182418800017408 0, .bool false] 29 (0, 0))) := Lib.hid (by rw [HX1.out, HBO.out]; exact heap_new w1 _)
  have HFX : Hid (FS X1 (fun g => w.heap.size ≤ g ∧ g ≠ bo) fb mb 0 7 (0, 0) (1, 0) none [] 0) := Lib.hid ((HF1.out.to (M' := fun g => w.heap.size ≤ g ∧ g ≠ bo) (fun g hg hl => ⟨by have := HZW.out; have h2 : W.heap.size ≤ g := hg; omega, by have := HBO.out; omega⟩)).kept HBX1.out)
  have HBB1 : Hid (Below w.heap.size w X1) := Lib.hid (HB1.out.trans (HBX1.out.mono HB1.out.size))
  have HC1 := Lib.hid (call_any (re := 4607182418800017408) (im := 0) (u := false) 5 okA HFX.out (fun _ => ⟨fl1.symm, fl0.symm⟩) ⟨(1, 0), st10, fl1.symm, fl0.symm⟩ (fun g hg => ⟨by have := HBB1.out.size; omega, by have := heapE_lt HO1.out; omega⟩) (by decide) (by decide) (by decide) (by decide) (by decide) (by decide))
  go_upto_region 5 with fail
  change Code.wp _ _ _ _ (w1.alloc (.cells #[.int .i64 7, .int .i64 0, .complex .f64 4607182418800017408 0, .bool false] 29))
  rw [← HX1.out, ← HBO.out]
  obtain ⟨o0, o1, o2, o3⟩ := row4 HO1.out
  go_wp2_with fail
  refine HC1.out.mono ?_
  rintro e w2 ⟨er, κ2, l2, ch2, rfl, hf2, hr2, hc2⟩
  have hres : er = 0 ∧ κ2 = some false ∧ l2 = [] ∧ ch2 = 1 := by
    unfold CallR at hc2
    rcases hc2 with ⟨h, _⟩ | ⟨h, _⟩ | ⟨h, _⟩ | ⟨h, _⟩ | ⟨_, h1, h2, h3, h4⟩ | ⟨h, _⟩ | ⟨h1, h2, h3, h4⟩
    · exact absurd h (by decide)
    · exact absurd h (by decide)
    · exact absurd h (by decide)
    · exact absurd h (by decide)
    · exact ⟨h1, h2, h3, h4⟩
    · exact absurd h (by decide)
    · exact ⟨h1, h2, h3, h4⟩
  obtain ⟨rfl, rfl, rfl, rfl⟩ := hres
  have HF2 := Lib.hid hf2
  have HBB2 : Hid (Below w.heap.size w w2) := Lib.hid (HBB1.out.trans (hr2.below HBB1.out.size (fun g hg hm => by have h2 : w.heap.size ≤ g := hm.1; omega)))
  have HO2 : Hid (w2.heap[bo]? = _) := Lib.hid ((hr2.block bo (heapE_lt HO1.out) (fun hm => hm.2 rfl)).trans HO1.out)
  clear hf2 hr2 hc2 HC1 o0 o1 o2 o3
  have HPL := Lib.hid (places_any HF2.out)
  have HCH := Lib.hid (fun (Z : World) (hz : Below w2.heap.size w2 Z) => changes_any (HF2.out.kept hz))
  go_wp2_with fail
  refine HPL.out.mono ?_
  rintro e w3 ⟨bp, cp3, rfl, hge3, hgl3, hc3, hb3⟩
  replace hc3 : w3.cell? ⟨bp, 0, none⟩ = some (.complex .f64 4607182418800017408 0) := by rw [← cv10]; exact hc3
  have HC3 := Lib.hid hc3
  have HGL3 := Lib.hid hgl3
  have HGE3 := Lib.hid hge3
  have HB23 := Lib.hid hb3
  have HF3 : Hid (FS w3 (fun g => (w.heap.size ≤ g ∧ g ≠ bo) ∧ g ≠ bp) fb mb 2 7 (0, 0) (1, 0) (some false) [] 1) := Lib.hid ((HF2.out.to (fun g hg hl => ⟨hg, by omega⟩)).kept hb3)
  have HBB3 : Hid (Below w.heap.size w w3) := Lib.hid (HBB2.out.trans (hb3.mono HBB2.out.size))
  have HO3 : Hid (w3.heap[bo]? = _) := Lib.hid ((hb3.block bo (heapE_lt HO2.out)).trans HO2.out)
  clear hc3 hge3 hgl3 hb3 HPL
  go_wp2_with fail
  refine (HCH.out w3 HB23.out).mono ?_
  rintro e w' ⟨rfl, rfl⟩
  have HC4 := Lib.hid (call_any (re := 0) (im := 0) (u := true) 0 okA HF3.out (fun h => by cases h) ⟨(0, 0), st00, fl0.symm, fl0.symm⟩ (fun g hg => ⟨⟨by have := HBB3.out.size; omega, by have := heapE_lt HO3.out; omega⟩, by have := HGL3.out; omega⟩) (by decide) (by decide) (by decide) (by decide) (by decide) (by decide))
  go_wp2_with fail
  refine HC4.out.mono ?_
  rintro e w4 ⟨er, κ4, l4, ch4, rfl, hf4, hr4, hc4⟩
  have hres : er = 0 ∧ κ4 = some true ∧ l4 = [] ∧ ch4 = 2 := by
    unfold CallR at hc4
    rcases hc4 with ⟨h, _⟩ | ⟨h, _⟩ | ⟨h, _⟩ | ⟨h, _⟩ | ⟨h, _⟩ | ⟨h, _⟩ | ⟨h1, h2, h3, h4⟩
    · exact absurd h (by decide)
    · exact absurd h (by decide)
    · exact absurd h (by decide)
    · exact absurd h (by decide)
    · exact absurd h (by decide)
    · exact absurd h (by decide)
    · exact ⟨h1, h2, h3, h4⟩
  obtain ⟨rfl, rfl, rfl, rfl⟩ := hres
  have HF4 := Lib.hid hf4
  have HBB4 : Hid (Below w.heap.size w w4) := Lib.hid (HBB3.out.trans (hr4.below HBB3.out.size (fun g hg hm => by have h2 : w.heap.size ≤ g := hm.1.1; omega)))
  have HO4 : Hid (w4.heap[bo]? = some (.cells #[.int .i64 7, .int .i64 0, .complex .f64 4607182418800017408 0, .bool false] 29 (0, 0))) := Lib.hid ((hr4.block bo (heapE_lt HO3.out) (fun hm => hm.1.2 rfl)).trans HO3.out)
  have HC4' : Hid (w4.cell? ⟨bp, 0, none⟩ = some (.complex .f64 4607182418800017408 0)) := Lib.hid ((World.cell?_of_block (a := ⟨bp, 0, none⟩) (hr4.block bp HGL3.out (fun hm => hm.2 rfl))).trans HC3.out)
  have hs4 := hr4.size
  have HC5 := Lib.hid (call_any (re := 4607182418800017408) (im := 0) (u := false) 0 okA hf4 (fun _ => ⟨fl1.symm, fl0.symm⟩) ⟨(1, 0), st10, fl1.symm, fl0.symm⟩ (fun g hg => ⟨⟨by have := HBB4.out.size; omega, by have := heapE_lt HO4.out; omega⟩, by have := HGL3.out; omega⟩) (by decide) (by decide) (by decide) (by decide) (by decide) (by decide))
  have HS4 : Hid (bp < w4.heap.size) := Lib.hid (by have := HGL3.out; omega)
  clear hf4 hr4 hc4 hs4 HC4
  obtain ⟨o0, o1, o2, o3⟩ := row4 HO4.out
  go_wp2_with fail
  refine HC5.out.mono ?_
  rintro e w5 ⟨er, κ5, l5, ch5, rfl, hf5, hr5, hc5⟩
  have hres : er = 63 ∧ κ5 = some true ∧ l5 = [] ∧ ch5 = 2 := by
    unfold CallR at hc5
    rcases hc5 with ⟨h, _⟩ | ⟨h, _⟩ | ⟨h, _⟩ | ⟨h, _⟩ | ⟨h, _⟩ | ⟨h, _⟩ | ⟨h1, h2, h3, h4⟩
    · exact absurd h (by decide)
    · exact absurd h (by decide)
    · exact absurd h (by decide)
    · exact absurd h (by decide)
    · exact absurd h (by decide)
    · exact absurd h (by decide)
    · exact ⟨h1, h2, h3, h4⟩
  obtain ⟨rfl, rfl, rfl, rfl⟩ := hres
  have HF5 := Lib.hid hf5
  have HBB5 : Hid (Below w.heap.size w w5) := Lib.hid (HBB4.out.trans (hr5.below HBB4.out.size (fun g hg hm => by have h2 : w.heap.size ≤ g := hm.1.1; omega)))
  have HC5' : Hid (w5.cell? ⟨bp, 0, none⟩ = some (.complex .f64 4607182418800017408 0)) := Lib.hid ((World.cell?_of_block (a := ⟨bp, 0, none⟩) (hr5.block bp HS4.out (fun hm => hm.2 rfl))).trans HC4'.out)
  have HS5 : Hid (bp < w5.heap.size) := Lib.hid (by have := HS4.out; have := hr5.size; omega)
  have HPL := Lib.hid (places_any hf5)
  clear hf5 hr5 hc5 HC5 o0 o1 o2 o3
  go_wp2_with fail
  refine HPL.out.mono ?_
  rintro e w6 ⟨bq, cq, rfl, hge6, hgl6, hc6, hb6⟩
  replace hc6 : w6.cell? ⟨bq, 0, none⟩ = some (.complex .f64 0 0) := by rw [← cv00]; exact hc6
  have hp6 : w6.cell? ⟨bp, 0, none⟩ = some (.complex .f64 4607182418800017408 0) := (hb6.cell (p := ⟨bp, 0, none⟩) HS5.out).trans HC5'.out
  have HBB6 : Hid (Below w.heap.size w w6) := Lib.hid (HBB5.out.trans (hb6.mono HBB5.out.size))
  clear hge6 hgl6 hb6 HPL
  go_wp2_with fail
  go_ret
  exact ⟨rfl, HBB6.out⟩
end Go.Proofs.Ytjppaonaiafgeaa
