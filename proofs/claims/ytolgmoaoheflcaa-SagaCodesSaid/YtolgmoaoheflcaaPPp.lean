/-
  CONTRACTS of the program's PutPlan, and of the document's writer of plans.
-/
import Derived.Test.YtolgmoaoheflcaaPGp
import Derived.Deep.DeepCutAuto
namespace Go.Proofs.Ytolgmoaoheflcaa
open Go.RowKit
open ByteP CodeP
set_option linter.unusedVariables false
set_option maxRecDepth 10000
def plO (fs ts : List Int) (ps qs : List (Int × Int)) : List Int := enc fs.length ++ outs fs ++ enc ts.length ++ outs ts ++ enc ps.length ++ outP ps ++ enc qs.length ++ outP qs
def plB (fs ts : List Int) (ps qs : List (Int × Int)) : Bool := bads fs || bads ts || badP ps || badP qs
theorem enc_small {n : Nat} (h : n ≤ 2000000) : (enc n).length ≤ 6 := enc_len 5 n (by omega)
/-- A plan's four lists, read. -/
structure RdPl (w : World) (B : Nat) (A1 A2 A3 A4 : Option Addr) (fs ts : List Int) (ps qs : List (Int × Int)) : Prop where
  r1 : Rd w B A1 fs.length fs
  r2 : Rd w B A2 ts.length ts
  r3 : RdP w B A3 ps.length ps
  r4 : RdP w B A4 qs.length qs
  l1 : fs.length ≤ 10000
  l2 : ts.length ≤ 10000
  l3 : ps.length ≤ 10000
  l4 : qs.length ≤ 10000
theorem RdPl.below {w w' : World} {B : Nat} {A1 A2 A3 A4 : Option Addr} {fs ts : List Int} {ps qs : List (Int × Int)} (h : RdPl w B A1 A2 A3 A4 fs ts ps qs) (hb : Below B w w') : RdPl w' B A1 A2 A3 A4 fs ts ps qs :=
  ⟨h.r1.below hb, h.r2.below hb, h.r3.below hb, h.r4.below hb, h.l1, h.l2, h.l3, h.l4⟩
set_option maxHeartbeats 8000000 in
theorem putPlan_any {w : World} {B c1 c2 c3 c4 : Nat} {A1 A2 A3 A4 : Option Addr} {fs ts : List Int} {ps qs : List (Int × Int)} (h : RdPl w B A1 A2 A3 A4 fs ts ps qs) (hB : B ≤ w.heap.size) :
    Calls Try.prog 32 #[.agg #[.slice A1 fs.length c1, .slice A2 ts.length c2, .slice A3 ps.length c3, .slice A4 qs.length c4]] w fun e w' => (∃ A' n' c' er, e = .returned (.tuple #[.slice A' n' c', .int .i64 er]) ∧ WrEnd w' (w.heap.size + 1) (plO fs ts ps qs) (plB fs ts ps qs) (.slice A' n' c') er) ∧ Below w.heap.size w w' := by
  have hl1 := h.l1
  have hl2 := h.l2
  have hl3 := h.l3
  have hl4 := h.l4
  have he1 := enc_small (n := fs.length) (by omega)
  have he2 := enc_small (n := ts.length) (by omega)
  have he3 := enc_small (n := ps.length) (by omega)
  have ho1 := outs_len fs
  have ho2 := outs_len ts
  have ho3 := outP_len ps
  obtain ⟨W, hW⟩ : ∃ W, W = (w.alloc (pcell (.slice A1 fs.length c1) (.slice A2 ts.length c2) (.slice A3 ps.length c3) (.slice A4 qs.length c4))).alloc (.cells #[.slice none 0 0, .bool false] 108) := ⟨_, rfl⟩
  have hbl : Below w.heap.size w W := by rw [hW]; exact ((Below.refl _ w).alloc (Nat.le_refl _) _).alloc (by simp) _
  have h0 : W.heap[w.heap.size]? = some (pcell (.slice A1 fs.length c1) (.slice A2 ts.length c2) (.slice A3 ps.length c3) (.slice A4 qs.length c4)) := by
    rw [hW, Below.heap_alloc _ _ _ (by simp)]; exact heap_alloc_new w _
  have hw0 : Wr 108 W (w.heap.size + 1) [] false := by
    rw [hW]
    have h := Wr.new (T := 108) (w.alloc (pcell (.slice A1 fs.length c1) (.slice A2 ts.length c2) (.slice A3 ps.length c3) (.slice A4 qs.length c4)))
    rw [World.size_alloc] at h; exact h
  have HR0 := Lib.hid (h.below (hbl.mono hB))
  have HB0 := Lib.hid hbl
  have H0 := Lib.hid h0
  have HW0 := Lib.hid hw0
  have HWW := Lib.hid hW
  clear h hbl h0 hw0 hW
  go_enter Try.func32, Try.ntmps32
  go_upto_region 2 with fail
  change Code.wp _ _ _ _ ((w.alloc (pcell (.slice A1 fs.length c1) (.slice A2 ts.length c2) (.slice A3 ps.length c3) (.slice A4 qs.length c4))).alloc (.cells #[.slice none 0 0, .bool false] 108))
  rw [← HWW.out]
  clear HWW
  obtain ⟨x0, x1, x2, x3, xf⟩ := pc_cells H0.out
  clear xf
  have HC1 := Lib.hid (numbersW_any (c := c1) HW0.out HR0.out.r1 (by omega) (by omega) (by simp only [List.length_nil]; omega))
  go_wp2_with fail
  refine HC1.out.mono ?_
  rintro e w1 ⟨rfl, hw, hb, _⟩
  have HW1 := Lib.hid hw
  have H1 : Hid (w1.heap[w.heap.size]? = _) := Lib.hid ((hb.block w.heap.size (by omega)).trans H0.out)
  have HB1 : Hid (Below w.heap.size w w1) := Lib.hid (HB0.out.trans (hb.mono (by omega)))
  have HR1 := Lib.hid (HR0.out.below (hb.mono (by omega)))
  clear hw hb HC1 x0 x1 x2 x3 HW0
  obtain ⟨x0, x1, x2, x3, xf⟩ := pc_cells H1.out
  clear xf
  have HC2 := Lib.hid (numbersW_any (c := c2) HW1.out HR1.out.r2 (by omega) (by omega) (by simp only [List.length_append, List.length_nil]; omega))
  go_wp2_with fail
  refine HC2.out.mono ?_
  rintro e w2 ⟨rfl, hw, hb, _⟩
  have HW2 := Lib.hid hw
  have H2 : Hid (w2.heap[w.heap.size]? = _) := Lib.hid ((hb.block w.heap.size (by omega)).trans H1.out)
  have HB2 : Hid (Below w.heap.size w w2) := Lib.hid (HB1.out.trans (hb.mono (by omega)))
  have HR2 := Lib.hid (HR1.out.below (hb.mono (by omega)))
  clear hw hb HC2 x0 x1 x2 x3 HW1
  obtain ⟨x0, x1, x2, x3, xf⟩ := pc_cells H2.out
  clear xf
  have HC3 := Lib.hid (put_steps (c := c3) HW2.out HR2.out.r3 (by omega) (by omega) (by simp only [List.length_append, List.length_nil]; omega))
  go_wp2_with fail
  refine HC3.out.mono ?_
  rintro e w3 ⟨rfl, hw, hb, _⟩
  have HW3 := Lib.hid hw
  have H3 : Hid (w3.heap[w.heap.size]? = _) := Lib.hid ((hb.block w.heap.size (by omega)).trans H2.out)
  have HB3 : Hid (Below w.heap.size w w3) := Lib.hid (HB2.out.trans (hb.mono (by omega)))
  have HR3 := Lib.hid (HR2.out.below (hb.mono (by omega)))
  clear hw hb HC3 x0 x1 x2 x3 HW2
  obtain ⟨x0, x1, x2, x3, xf⟩ := pc_cells H3.out
  clear xf
  have HC4 := Lib.hid (put_pairs (c := c4) HW3.out HR3.out.r4 (by omega) (by omega) (by simp only [List.length_append, List.length_nil]; omega))
  go_wp2_with fail
  refine HC4.out.mono ?_
  rintro e w4 ⟨rfl, hw, hb, _⟩
  have HW4 := Lib.hid hw
  have H4 : Hid (w4.heap[w.heap.size]? = _) := Lib.hid ((hb.block w.heap.size (by omega)).trans H3.out)
  have HB4 : Hid (Below w.heap.size w w4) := Lib.hid (HB3.out.trans (hb.mono (by omega)))
  have HR4 := Lib.hid (HR3.out.below (hb.mono (by omega)))
  clear hw hb HC4 x0 x1 x2 x3 HW3
  go_wp2_with fail
  refine (written_any HW4.out).mono ?_
  rintro e w5 ⟨⟨A', n', c', er, rfl, hwe⟩, rfl⟩
  have HE : Hid (WrEnd w4 (w.heap.size + 1) (plO fs ts ps qs) (plB fs ts ps qs) (.slice A' n' c') er) := Lib.hid (by
    have h := hwe
    rw [List.nil_append, Bool.false_or] at h
    exact h)
  clear hwe HW4
  go_wp2
  go_ret2
  exact ⟨⟨A', n', c', er, rfl, HE.out⟩, HB4.out⟩
theorem rc_cells {w : World} {g : Nat} {y1 y2 y3 y4 : Value} (h : w.heap[g]? = some (.cells #[y1, y2, y3, y4] 47 (0, 0))) : w.cell? ⟨g, 0, none⟩ = some y1 ∧ w.cell? ⟨g, 1, none⟩ = some y2 ∧ w.cell? ⟨g, 2, none⟩ = some y3 ∧ w.cell? ⟨g, 3, none⟩ = some y4 ∧ (∀ i, w.frozen? ⟨g, i, none⟩ = false) := by
  refine ⟨?_, ?_, ?_, ?_, fun i => ?_⟩
  · simp [World.cell?, h]
  · simp [World.cell?, h]
  · simp [World.cell?, h]
  · simp [World.cell?, h]
  · simp [World.frozen?, h]
set_option maxHeartbeats 16000000 in
theorem planW_any {w : World} {wb c1 c2 c3 c4 : Nat} {A1 A2 A3 A4 : Option Addr} {fs ts : List Int} {ps qs : List (Int × Int)} (hw : Wr 79 w wb [] false) (h : RdPl w wb A1 A2 A3 A4 fs ts ps qs) :
    Calls Try.prog 31 #[.pointer (some ⟨wb, 0, none⟩), .agg #[.slice A1 fs.length c1, .slice A2 ts.length c2, .slice A3 ps.length c3, .slice A4 qs.length c4]] w fun e w' => e = .returned (.tuple #[]) ∧ Wr 79 w' wb (plO fs ts ps qs) (plB fs ts ps qs) ∧ Below wb w w' ∧ KeepW w w' wb := by
  have hl1 := h.l1
  have hl2 := h.l2
  have hl3 := h.l3
  have hl4 := h.l4
  have he1 := enc_small (n := fs.length) (by omega)
  have he2 := enc_small (n := ts.length) (by omega)
  have he3 := enc_small (n := ps.length) (by omega)
  have he4 := enc_small (n := qs.length) (by omega)
  have ho1 := outs_len fs
  have ho2 := outs_len ts
  have ho3 := outP_len ps
  have hlt := hw.lt
  obtain ⟨W, hW⟩ : ∃ W, W = w.alloc (.cells #[.slice A1 fs.length c1, .slice A2 ts.length c2, .slice A3 ps.length c3, .slice A4 qs.length c4] 47) := ⟨_, rfl⟩
  have h0 : W.heap[w.heap.size]? = some (.cells #[.slice A1 fs.length c1, .slice A2 ts.length c2, .slice A3 ps.length c3, .slice A4 qs.length c4] 47 (0, 0)) := by rw [hW]; exact heap_alloc_new w _
  have hno : ¬ OwnW W wb w.heap.size := by rw [hW]; exact ownW_new hw (Nat.le_refl _) (Below.heap_alloc w _ wb hlt)
  have HNO := Lib.hid hno
  have H0 := Lib.hid h0
  have HW0 : Hid (Wr 79 W wb [] false) := Lib.hid (by rw [hW]; exact hw.alloc _)
  have HB0 : Hid (Below wb W W) := Lib.hid (Below.refl _ _)
  have HK0 : Hid (KeepW W W wb) := Lib.hid (KeepW.refl _ _)
  have HR0 : Hid (RdPl W wb A1 A2 A3 A4 fs ts ps qs) := Lib.hid (h.below (by rw [hW]; exact ((Below.refl _ w).alloc (Nat.le_refl _) _).mono (by omega)))
  have HBW : Hid (Below wb w W) := Lib.hid (by rw [hW]; exact ((Below.refl _ w).alloc (Nat.le_refl _) _).mono (by omega))
  have HKW : Hid (KeepW w W wb) := Lib.hid (by rw [hW]; exact KeepW.alloc hlt _)
  have hobl : w.heap.size < W.heap.size := heapE_lt h0
  have HBX : Hid (∀ w', KeepW W w' wb → w'.heap[w.heap.size]? = some (.cells #[.slice A1 fs.length c1, .slice A2 ts.length c2, .slice A3 ps.length c3, .slice A4 qs.length c4] 47 (0, 0))) := Lib.hid (fun w' hk => (hk.block w.heap.size hobl (by omega) HNO.out).trans H0.out)
  have HWE := Lib.hid hW
  clear h h0 hno hw hW
  go_enter Try.func31, Try.ntmps31
  go_upto_region 1 with fail
  change Code.wp _ _ _ _ (w.alloc (.cells #[.slice A1 fs.length c1, .slice A2 ts.length c2, .slice A3 ps.length c3, .slice A4 qs.length c4] 47))
  rw [← HWE.out]
  clear HWE H0
  obtain ⟨x0, x1, x2, x3, xf⟩ := rc_cells (HBX.out _ HK0.out)
  clear xf
  have HC1 := Lib.hid (intsW_any (c := c1) HW0.out HR0.out.r1 (Nat.le_refl _) (by omega) (by simp only [List.length_nil]; omega))
  go_wp2_with fail
  refine HC1.out.mono ?_
  rintro e w1 ⟨rfl, hw, hb, hk⟩
  have HW1 := Lib.hid hw
  have HB1 : Hid (Below wb W w1) := Lib.hid (HB0.out.trans hb)
  have HK1 : Hid (KeepW W w1 wb) := Lib.hid (HK0.out.trans hk)
  have HR1 := Lib.hid (HR0.out.below hb)
  clear hw hb hk HC1 x0 x1 x2 x3 HW0
  obtain ⟨x0, x1, x2, x3, xf⟩ := rc_cells (HBX.out _ HK1.out)
  clear xf
  have HC2 := Lib.hid (intsW_any (c := c2) HW1.out HR1.out.r2 (Nat.le_refl _) (by omega) (by simp only [List.length_append, List.length_nil]; omega))
  go_wp2_with fail
  refine HC2.out.mono ?_
  rintro e w2 ⟨rfl, hw, hb, hk⟩
  have HW2 := Lib.hid hw
  have HB2 : Hid (Below wb W w2) := Lib.hid (HB1.out.trans hb)
  have HK2 : Hid (KeepW W w2 wb) := Lib.hid (HK1.out.trans hk)
  have HR2 := Lib.hid (HR1.out.below hb)
  clear hw hb hk HC2 x0 x1 x2 x3 HW1
  obtain ⟨x0, x1, x2, x3, xf⟩ := rc_cells (HBX.out _ HK2.out)
  clear xf
  have HC3 := Lib.hid (numW_any HW2.out (ps.length : Int) (by simp only [List.length_append, List.length_nil]; omega))
  go_wp2_with fail
  refine HC3.out.mono ?_
  rintro e w3 ⟨rfl, hw, hb, hk⟩
  have HW3 := Lib.hid hw
  have HB3 : Hid (Below wb W w3) := Lib.hid (HB2.out.trans hb)
  have HK3 : Hid (KeepW W w3 wb) := Lib.hid (HK2.out.trans hk)
  have HR3 := Lib.hid (HR2.out.below hb)
  clear hw hb hk HC3 x0 x1 x2 x3 HW2
  rw [outI_nat (n := ps.length) (by omega), okI_nat (n := ps.length) (by omega)] at HW3
  simp only [Bool.not_true, Bool.or_false] at HW3
  obtain ⟨X3, hX3⟩ : ∃ X, X = [] ++ enc fs.length ++ outs fs ++ enc ts.length ++ outs ts ++ enc ps.length := ⟨_, rfl⟩
  obtain ⟨F3, hF3⟩ : ∃ F, F = (false || bads fs || bads ts) := ⟨_, rfl⟩
  have HXX3 := Lib.hid hX3
  have HFF3 := Lib.hid hF3
  have hxl3 : X3.length ≤ 200000 := by rw [hX3]; simp only [List.length_append, List.length_nil]; omega
  rw [← hX3, ← hF3] at HW3
  clear hX3 hF3
  obtain ⟨x0, x1, x2, x3, xf⟩ := rc_cells (HBX.out _ HK3.out)
  clear xf
  go_upto_region 4 with fail
  iterate 7 (first | go_skip | go_guarded | go_step | go_upon | go_back)
  go_cut [4] (fun v w' => Hid (Wr 79 w' wb (X3 ++ outP ps) (F3 || badP ps)) ∧ Hid (Below wb W w') ∧ Hid (KeepW W w' wb) ∧ Hid (RdPl w' wb A1 A2 A3 A4 fs ts ps qs))
  case first =>
    go_wp2_with fail
    go_loopw [4] (fun v wr => ∃ j : Nat, j ≤ ps.length ∧ v = .int .i64 (j : Int) ∧ Hid (Wr 79 wr wb (X3 ++ outP (ps.take j)) (F3 || badP (ps.take j))) ∧ Hid (Below wb W wr) ∧ Hid (KeepW W wr wb) ∧ Hid (RdPl wr wb A1 A2 A3 A4 fs ts ps qs)) (fun v _ => ps.length - (intOf v).toNat)
    case atStart => exact ⟨0, Nat.zero_le _, rfl, Lib.hid (by simpa [outP, badP] using HW3.out), HB3, HK3, HR3⟩
    case round =>
      clear x0 x1 x2 x3
      obtain ⟨j, hj, rfl, HWr, HBr, HKr, HRr⟩ := hrel
      obtain ⟨wo, hwo⟩ : ∃ x, x = wr := ⟨_, rfl⟩
      subst hwo
      obtain ⟨x0, x1, x2, x3, xf⟩ := rc_cells (HBX.out _ HKr.out)
      clear xf
      by_cases hlt2 : j < ps.length
      · have hji : (j : Int) < (ps.length : Int) := by omega
        have hol := outP_len (ps.take j)
        rw [List.length_take] at hol
        obtain ⟨b, off, hAe, hbb, y0, y1⟩ := HRr.out.r3.at_ hlt2
        rw [hAe] at x2
        have HAE := Lib.hid hAe
        clear hAe
        have HC := Lib.hid (numW_any HWr.out (px ps j) (by rw [List.length_append]; omega))
        go_wp2_with fail
        refine HC.out.mono ?_
        rintro e wx1 ⟨rfl, hw, hb, hk⟩
        have HV1 := Lib.hid hw
        have HVB1 : Hid (Below wb W wx1) := Lib.hid (HBr.out.trans hb)
        have HVK1 : Hid (KeepW W wx1 wb) := Lib.hid (HKr.out.trans hk)
        have HVR1 := Lib.hid (HRr.out.below hb)
        have hoi := outI_len (px ps j)
        have z1 := (hb.cell (p := ⟨b, off + j * 2 + 1, none⟩) hbb).trans y1
        clear hw hb hk HC x0 x1 x2 x3 y0 y1
        obtain ⟨x0, x1, x2, x3, xf⟩ := rc_cells (HBX.out _ HVK1.out)
        clear xf
        rw [HAE.out] at x2
        have HC := Lib.hid (numW_any HV1.out (py ps j) (by rw [List.length_append, List.length_append]; omega))
        go_wp2_with fail
        refine HC.out.mono ?_
        rintro e wx2 ⟨rfl, hw, hb, hk⟩
        have HV2 : Hid (Wr 79 wx2 wb (X3 ++ outP (ps.take (j + 1))) (F3 || badP (ps.take (j + 1)))) := Lib.hid (by
          rw [take_px _ _ hlt2, outP_snoc, badP_snoc]
          have h := hw
          simp only [List.append_assoc, Bool.or_assoc] at h ⊢
          exact h)
        have HVB2 : Hid (Below wb W wx2) := Lib.hid (HVB1.out.trans hb)
        have HVK2 : Hid (KeepW W wx2 wb) := Lib.hid (HVK1.out.trans hk)
        have HVR2 := Lib.hid (HVR1.out.below hb)
        clear hw hb hk HC x0 x1 x2 x3 z1
        go_wp2_with fail
        go_roundw
        case rel => exact ⟨j + 1, by omega, by go_num, HV2, HVB2, HVK2, HVR2⟩
        case measure => simp [intOf]; omega
      · have hji : ¬ (j : Int) < (ps.length : Int) := by omega
        have hjd : decide ((j : Int) < (ps.length : Int)) = false := by simp; omega
        have hje : ps.take j = ps := List.take_of_length_le (by omega)
        rw [hje] at HWr
        go_wp2_with fail
        go_meet
        exact ⟨HWr, HBr, HKr, HRr⟩
  case rest =>
  clear x0 x1 x2 x3
  obtain ⟨HW4, HB4, HK4, HR4⟩ := hcut
  obtain ⟨w4, hwe⟩ : ∃ w4 : World, w4 = wc := ⟨_, rfl⟩
  subst hwe
  obtain ⟨x0, x1, x2, x3, xf⟩ := rc_cells (HBX.out _ HK4.out)
  clear xf
  have HC5 := Lib.hid (numW_any HW4.out (qs.length : Int) (by rw [List.length_append]; omega))
  go_wp2_with fail
  refine HC5.out.mono ?_
  rintro e w5 ⟨rfl, hw, hb, hk⟩
  have HW5 := Lib.hid hw
  have HB5 : Hid (Below wb W w5) := Lib.hid (HB4.out.trans hb)
  have HK5 : Hid (KeepW W w5 wb) := Lib.hid (HK4.out.trans hk)
  have HR5 := Lib.hid (HR4.out.below hb)
  clear hw hb hk HC5 x0 x1 x2 x3 HW4
  rw [outI_nat (n := qs.length) (by omega), okI_nat (n := qs.length) (by omega)] at HW5
  simp only [Bool.not_true, Bool.or_false] at HW5
  obtain ⟨X5, hX5⟩ : ∃ X, X = X3 ++ outP ps ++ enc qs.length := ⟨_, rfl⟩
  obtain ⟨F5, hF5⟩ : ∃ F, F = (F3 || badP ps) := ⟨_, rfl⟩
  have HXX5 := Lib.hid hX5
  have HFF5 := Lib.hid hF5
  have hxl5 : X5.length ≤ 400000 := by rw [hX5]; simp only [List.length_append]; omega
  rw [← hX5, ← hF5] at HW5
  clear hX5 hF5
  obtain ⟨x0, x1, x2, x3, xf⟩ := rc_cells (HBX.out _ HK5.out)
  clear xf
  go_wp2_with fail
  go_loopw [5] (fun v wr => ∃ j : Nat, j ≤ qs.length ∧ v = .int .i64 (j : Int) ∧ Hid (Wr 79 wr wb (X5 ++ outP (qs.take j)) (F5 || badP (qs.take j))) ∧ Hid (Below wb W wr) ∧ Hid (KeepW W wr wb) ∧ Hid (RdPl wr wb A1 A2 A3 A4 fs ts ps qs)) (fun v _ => qs.length - (intOf v).toNat)
  case atStart => exact ⟨0, Nat.zero_le _, rfl, Lib.hid (by simpa [outP, badP] using HW5.out), HB5, HK5, HR5⟩
  case round =>
    clear x0 x1 x2 x3
    obtain ⟨j, hj, rfl, HWr, HBr, HKr, HRr⟩ := hrel
    obtain ⟨wo, hwo⟩ : ∃ x, x = wr := ⟨_, rfl⟩
    subst hwo
    obtain ⟨x0, x1, x2, x3, xf⟩ := rc_cells (HBX.out _ HKr.out)
    clear xf
    by_cases hlt2 : j < qs.length
    · have hji : (j : Int) < (qs.length : Int) := by omega
      have hol := outP_len (qs.take j)
      rw [List.length_take] at hol
      obtain ⟨b, off, hAe, hbb, y0, y1⟩ := HRr.out.r4.at_ hlt2
      rw [hAe] at x3
      have HAE := Lib.hid hAe
      clear hAe
      have HC := Lib.hid (numW_any HWr.out (px qs j) (by rw [List.length_append]; omega))
      go_wp2_with fail
      refine HC.out.mono ?_
      rintro e wx1 ⟨rfl, hw, hb, hk⟩
      have HV1 := Lib.hid hw
      have HVB1 : Hid (Below wb W wx1) := Lib.hid (HBr.out.trans hb)
      have HVK1 : Hid (KeepW W wx1 wb) := Lib.hid (HKr.out.trans hk)
      have HVR1 := Lib.hid (HRr.out.below hb)
      have hoi := outI_len (px qs j)
      have z1 := (hb.cell (p := ⟨b, off + j * 2 + 1, none⟩) hbb).trans y1
      clear hw hb hk HC x0 x1 x2 x3 y0 y1
      obtain ⟨x0, x1, x2, x3, xf⟩ := rc_cells (HBX.out _ HVK1.out)
      clear xf
      rw [HAE.out] at x3
      have HC := Lib.hid (numW_any HV1.out (py qs j) (by rw [List.length_append, List.length_append]; omega))
      go_wp2_with fail
      refine HC.out.mono ?_
      rintro e wx2 ⟨rfl, hw, hb, hk⟩
      have HV2 : Hid (Wr 79 wx2 wb (X5 ++ outP (qs.take (j + 1))) (F5 || badP (qs.take (j + 1)))) := Lib.hid (by
        rw [take_px _ _ hlt2, outP_snoc, badP_snoc]
        have h := hw
        simp only [List.append_assoc, Bool.or_assoc] at h ⊢
        exact h)
      have HVB2 : Hid (Below wb W wx2) := Lib.hid (HVB1.out.trans hb)
      have HVK2 : Hid (KeepW W wx2 wb) := Lib.hid (HVK1.out.trans hk)
      have HVR2 := Lib.hid (HVR1.out.below hb)
      clear hw hb hk HC x0 x1 x2 x3 z1
      go_wp2_with fail
      go_roundw
      case rel => exact ⟨j + 1, by omega, by go_num, HV2, HVB2, HVK2, HVR2⟩
      case measure => simp [intOf]; omega
    · have hji : ¬ (j : Int) < (qs.length : Int) := by omega
      have hjd : decide ((j : Int) < (qs.length : Int)) = false := by simp; omega
      have hje : qs.take j = qs := List.take_of_length_le (by omega)
      rw [hje] at HWr
      go_wp2_with fail
      go_end0
      refine ⟨rfl, ?_, HBW.out.trans HBr.out, HKW.out.trans HKr.out⟩
      have h := HWr.out
      rw [HXX5.out, HFF5.out, HXX3.out, HFF3.out] at h
      rw [List.nil_append, Bool.false_or] at h
      exact h
end Go.Proofs.Ytolgmoaoheflcaa
