/-
  AgentOnce, over this translation (printed by genagl.py).
-/
import Derived.Test.YtjppaonaiafgeaaAAn
import Derived.Test.YtjppaonaiafgeaaARd
namespace Go.Proofs.Ytjppaonaiafgeaa
open Go.RowKit
open FlP GaP
set_option linter.unusedVariables false
set_option linter.unusedSimpArgs false
set_option maxRecDepth 10000
attribute [local go_sem] run_store_cx
def odO : Od := ⟨1, 0, 4607182418800017408, 4607182418800017408, false⟩
def udO : Od := ⟨1, 0, 0, 0, true⟩
theorem okL : OkS (3, 3) (1, 1) := ⟨.inl rfl, ⟨by decide, by decide, by decide, by decide⟩, ⟨by decide, by decide, by decide, by decide⟩⟩
theorem st11 : St (1, 1) := ⟨by decide, by decide, by decide, by decide⟩
theorem fl3 : fl 3 = 4613937818241073152 := by decide +kernel
theorem fl4 : fl 4 = 4616189618054758400 := by decide +kernel
theorem cv33 : cv (3, 3) = .complex .f64 4613937818241073152 4613937818241073152 := by unfold cv; rw [fl3]
theorem cv44 : cv (add2 (3, 3) (1, 1)) = .complex .f64 4616189618054758400 4616189618054758400 := by
  show Value.complex .f64 (fl 4) (fl 4) = _
  rw [fl4]
theorem order_33 : FloatKind.f64.format.order 4613937818241073152 4613937818241073152 = some .eq := by decide +kernel
theorem order_43 : FloatKind.f64.format.order 4616189618054758400 4613937818241073152 = some .gt := by decide +kernel
theorem order_44 : FloatKind.f64.format.order 4616189618054758400 4616189618054758400 = some .eq := by decide +kernel
theorem lit33 (w : World) : RdC (w.alloc (.cells #[.complex .f64 4613937818241073152 4613937818241073152] 26)) (w.heap.size + 1) (some ⟨w.heap.size, 0, none⟩) 1 [(3, 3)] := by
  have h := lit1 w (3, 3)
  rw [cv33] at h
  exact h
def InvA (w : World) (M : Nat → Prop) (fb mb j : Nat) : Prop := ∃ κ l ch, ((κ = none ∧ ch = 0) ∨ (κ = some false ∧ ch = 1)) ∧ (∀ o ∈ l, o = odO) ∧ l.length ≤ j ∧ FS w M fb mb (2 * j) 1 (3, 3) (1, 1) κ l ch
def InvB (w : World) (M : Nat → Prop) (fb mb j : Nat) : Prop := ∃ l ch, (0 ≤ ch ∧ ch ≤ 2) ∧ (∀ o ∈ l, o = odO ∨ o = udO) ∧ l.length ≤ 40 + 2 * j ∧ FS w M fb mb (82 + 5 * j) 1 (3, 3) (1, 1) (some true) l ch
/-- A step that is sent, ahead of the undo. -/
theorem stepA {κ κ' : Option Bool} {l l' : List Od} {ch ch' x er : Int} {j : Nat} (h : CallR κ odO l ch x er κ' l' ch') (hi : (κ = none ∧ ch = 0) ∨ (κ = some false ∧ ch = 1)) (hl : ∀ o ∈ l, o = odO) (hn : l.length ≤ j) :
    ((κ' = none ∧ ch' = 0) ∨ (κ' = some false ∧ ch' = 1)) ∧ (∀ o ∈ l', o = odO) ∧ l'.length ≤ j + 1 := by
  unfold CallR at h
  have hu : odO.undo = false := rfl
  rw [hu] at h
  have hl2 : ∀ o ∈ l ++ [odO], o = odO := by
    intro o ho
    rcases List.mem_append.1 ho with h | h
    · exact hl o h
    · simpa using h
  rcases hi with ⟨rfl, rfl⟩ | ⟨rfl, rfl⟩ <;>
  rcases h with ⟨_, _, rfl, rfl, rfl⟩ | ⟨_, _, rfl, rfl, rfl⟩ | ⟨_, _, rfl, rfl, rfl⟩ | ⟨_, _, rfl, rfl, rfl⟩ | ⟨_, _, rfl, rfl, rfl⟩ | ⟨_, _, rfl, rfl, rfl⟩ | ⟨_, rfl, rfl, rfl⟩ <;>
  first
    | exact ⟨.inl ⟨rfl, rfl⟩, hl, by omega⟩
    | exact ⟨.inr ⟨rfl, rfl⟩, hl, by omega⟩
    | exact ⟨.inl ⟨rfl, rfl⟩, hl2, by rw [List.length_append]; simpa using hn⟩
    | exact ⟨.inr ⟨rfl, rfl⟩, hl2, by rw [List.length_append]; simpa using hn⟩
/-- The undo. -/
theorem stepU {κ κ' : Option Bool} {l l' : List Od} {ch ch' x er : Int} (h : CallR κ udO l ch x er κ' l' ch') (hi : (κ = none ∧ ch = 0) ∨ (κ = some false ∧ ch = 1)) :
    er ≠ 0 ∨ (er = 0 ∧ κ' = some true ∧ l' = l ∧ 0 ≤ ch' ∧ ch' ≤ 2) := by
  unfold CallR at h
  have hu : udO.undo = true := rfl
  rw [hu] at h
  rcases hi with ⟨rfl, rfl⟩ | ⟨rfl, rfl⟩ <;>
  rcases h with ⟨_, rfl, _⟩ | ⟨_, rfl, _⟩ | ⟨_, rfl, _⟩ | ⟨_, rfl, _⟩ | ⟨_, rfl, rfl, rfl, rfl⟩ | ⟨_, rfl, _⟩ | ⟨rfl, rfl, rfl, rfl⟩ <;>
  first
    | exact .inl (by decide)
    | exact .inr ⟨rfl, rfl, rfl, by decide, by decide⟩
/-- Any order, behind the undo. -/
theorem stepB {od : Od} {κ' : Option Bool} {l l' : List Od} {ch ch' x er : Int} (h : CallR (some true) od l ch x er κ' l' ch') : κ' = some true ∧ ch' = ch ∧ (l' = l ∨ l' = l ++ [od]) := by
  unfold CallR at h
  cases hu : od.undo <;> rw [hu] at h <;>
  rcases h with ⟨_, _, rfl, rfl, rfl⟩ | ⟨_, _, rfl, rfl, rfl⟩ | ⟨_, _, rfl, rfl, rfl⟩ | ⟨_, _, rfl, rfl, rfl⟩ | ⟨_, _, rfl, rfl, rfl⟩ | ⟨_, _, rfl, rfl, rfl⟩ | ⟨_, rfl, rfl, rfl⟩ <;>
  first
    | exact ⟨rfl, rfl, .inl rfl⟩
    | exact ⟨rfl, rfl, .inr rfl⟩
theorem doB (u : Bool) (ch : Int) : doK (some true) u = some true ∧ doC (some true) u ch = ch := by cases u <;> exact ⟨rfl, rfl⟩
theorem good_all {l : List Od} (h : ∀ o ∈ l, o = odO ∨ o = udO) : ∀ o ∈ l, GoodO 1 (1, 1) o := by
  intro o ho
  rcases h o ho with rfl | rfl
  · exact ⟨rfl, rfl, fun _ => ⟨fl1.symm, fl1.symm⟩⟩
  · exact ⟨rfl, rfl, fun h => by cases h⟩
theorem all_app {l : List Od} {od : Od} (h : ∀ o ∈ l, o = odO ∨ o = udO) (ho : od = odO ∨ od = udO) {l' : List Od} (hl : l' = l ∨ l' = l ++ [od]) : (∀ o ∈ l', o = odO ∨ o = udO) ∧ l'.length ≤ l.length + 1 := by
  rcases hl with rfl | rfl
  · exact ⟨h, by omega⟩
  · refine ⟨fun o ho2 => ?_, by simp⟩
    rcases List.mem_append.1 ho2 with h2 | h2
    · exact h o h2
    · have : o = od := by simpa using h2
      subst this; exact ho
set_option maxHeartbeats 16000000 in
theorem law_once {w : World} {n1 n3 c1 c3 : Nat} {A1 A3 : Option Addr} {xs zs : List Int} {u0 : Int} (r1 : RdI w w.heap.size A1 n1 xs) (r3 : RdI w w.heap.size A3 n3 zs) :
    Calls Try.prog 3 #[.slice A1 n1 c1, .int .i64 u0, .slice A3 n3 c3] w fun e w' => e = .returned (.bool true) ∧ Below w.heap.size w w' := by
  have R1 := Lib.hid r1
  have R3 := Lib.hid r3
  clear r1 r3
  go_enter Try.func3, Try.ntmps3
  go_wp2_with fail
  refine (anchor15_any _).mono ?_
  rintro e w1 ⟨rfl, hb1⟩
  have HB1 := Lib.hid hb1
  clear hb1
  by_cases h1 : 40 < n1
  · have d1 : decide ((40 : Int) < (n1 : Int)) = true := by simp; omega
    go_wp2_with fail
    go_ret
    exact ⟨rfl, HB1.out⟩
  have d1 : decide ((40 : Int) < (n1 : Int)) = false := by simp; omega
  by_cases h3 : 40 < n3
  · have d3 : decide ((40 : Int) < (n3 : Int)) = true := by simp; omega
    go_wp2_with fail
    go_ret
    exact ⟨rfl, HB1.out⟩
  have d3 : decide ((40 : Int) < (n3 : Int)) = false := by simp; omega
  have H40 : Hid (n1 ≤ 40 ∧ n3 ≤ 40) := Lib.hid ⟨by omega, by omega⟩
  obtain ⟨W, HW⟩ : ∃ W, Hid (W = w1.alloc (.cells #[.complex .f64 4613937818241073152 4613937818241073152] 26)) := ⟨_, Lib.hid rfl⟩
  have HBW : Hid (Below w.heap.size w W) := Lib.hid (by rw [HW.out]; exact HB1.out.alloc HB1.out.size _)
  have HNW := Lib.hid (new_any (w := W) (cp := 1) (B := W.heap.size) (by rw [HW.out, World.size_alloc]; exact lit33 w1) (Nat.le_refl _) (show Pl (3, 3) from okL.a))
  rw [HW.out] at HNW
  clear h1 h3
  go_wp2_with fail
  refine HNW.out.mono ?_
  rintro e w2 ⟨fb, mb, rfl, hmb, hfl, hb2⟩
  rw [← HW.out] at hmb hfl hb2
  have HF2 : Hid (FS w2 (fun g => W.heap.size ≤ g) fb mb 0 1 (3, 3) (1, 1) none [] 0) := Lib.hid (FS.of_new hfl)
  have HB2 : Hid (Below w.heap.size w w2) := Lib.hid (HBW.out.trans (hb2.mono HBW.out.size))
  clear hmb hfl hb2 HNW d1 d3
  obtain ⟨bo, HBO⟩ : ∃ b, Hid (b = w2.heap.size) := ⟨_, Lib.hid rfl⟩
  obtain ⟨X2, HX2⟩ : ∃ X, Hid (X = w2.alloc (.cells #[.int .i64 1, .int .i64 0, .complex .f64 4607182418800017408 4607182418800017408, .bool false] 29)) := ⟨_, Lib.hid rfl⟩
  have HBX2 : Hid (Below w2.heap.size w2 X2) := Lib.hid (by rw [HX2.out]; exact (Below.refl _ w2).alloc (Nat.le_refl _) _)
  have HO2 : Hid (X2.heap[bo]? = some (.cells #[.int .i64 1, .int .i64 0, .complex .f64 4607182418800017408 4607182418800017408, .bool false] 29 (0, 0))) := Lib.hid (by rw [HX2.out, HBO.out]; exact heap_new w2 _)
  have HFX : Hid (InvA X2 (fun g => w.heap.size ≤ g ∧ g ≠ bo) fb mb 0) := Lib.hid ⟨none, [], 0, .inl ⟨rfl, rfl⟩, (fun o ho => by cases ho), Nat.le_refl _, (HF2.out.to (fun g hg hl => ⟨by have h := HBW.out.size; have h2 : W.heap.size ≤ g := hg; omega, by have := HBO.out; omega⟩)).kept HBX2.out⟩
  have HBB2 : Hid (Below w.heap.size w X2) := Lib.hid (HB2.out.trans (HBX2.out.mono HB2.out.size))
  have q33 := order_33
  have q43 := order_43
  have q44 := order_44
  go_upto_region 9 with fail
  change Code.wp _ _ _ _ (w2.alloc (.cells #[.int .i64 1, .int .i64 0, .complex .f64 4607182418800017408 4607182418800017408, .bool false] 29))
  rw [← HX2.out, ← HBO.out]
  clear HX2 HBX2 HF2 HW HBW
  go_wp2_with fail
  go_loopw [10, 11, 34] (fun _ _ v wr => ∃ j : Nat, j ≤ n1 ∧ v = .int .i64 (j : Int) ∧ Hid (InvA wr (fun g => w.heap.size ≤ g ∧ g ≠ bo) fb mb j) ∧ Hid (Below w.heap.size w wr) ∧ Hid (wr.heap[bo]? = some (.cells #[.int .i64 1, .int .i64 0, .complex .f64 4607182418800017408 4607182418800017408, .bool false] 29 (0, 0)))) (fun _ _ v _ => n1 - (intOf v).toNat)
  case atStart => exact ⟨0, Nat.zero_le _, rfl, HFX, HBB2, HO2⟩
  case round =>
    obtain ⟨j, hj, rfl, HI, HB, HO⟩ := hrel
    obtain ⟨wo, hwo⟩ : ∃ x, x = wr := ⟨_, rfl⟩
    subst hwo
    by_cases hjn : j < n1
    · have hn40 := H40.out.1
      have hd : decide ((j : Int) < (n1 : Int)) = true := by simp; omega
      have hi : (j : Int) < (n1 : Int) := by omega
      obtain ⟨κ, l, ch, hst, hgood, hln, hfs⟩ := HI.out
      obtain ⟨b1, o1', rfl, _, hcell⟩ := (R1.out.below HB.out).at_ hjn
      obtain ⟨x, HX⟩ : ∃ x, Hid (ixI xs j = x) := ⟨_, Lib.hid rfl⟩
      rw [HX.out] at hcell
      have HST := Lib.hid hst
      have HGD := Lib.hid hgood
      have HLN := Lib.hid hln
      have hch : 0 ≤ ch ∧ ch ≤ 1 := by rcases hst with ⟨_, rfl⟩ | ⟨_, rfl⟩ <;> decide
      have HC := Lib.hid (call_any (re := 4607182418800017408) (im := 4607182418800017408) (u := false) x okL hfs (fun _ => ⟨fl1.symm, fl1.symm⟩) ⟨(1, 1), st11, fl1.symm, fl1.symm⟩ (fun g hg => ⟨by have := HB.out.size; omega, by have := heapE_lt HO.out; omega⟩) (by have := H40.out; omega) (by decide) (by decide) hch.1 (by omega) (by have := H40.out; omega))
      obtain ⟨o0, o1, o2, o3⟩ := row4 HO.out
      clear hst hgood hln hfs hch
      go_wp2_with fail
      refine HC.out.mono ?_
      rintro e w3 ⟨er, κ', l', ch', rfl, hf3, hr3, hc3⟩
      obtain ⟨s1, s2, s3⟩ := stepA hc3 HST.out HGD.out HLN.out
      have HF3 := Lib.hid hf3
      have HBB3 : Hid (Below w.heap.size w w3) := Lib.hid (HB.out.trans (hr3.below HB.out.size (fun g hg hm => by have h2 : w.heap.size ≤ g := hm.1; omega)))
      have HO3 : Hid (w3.heap[bo]? = some (.cells #[.int .i64 1, .int .i64 0, .complex .f64 4607182418800017408 4607182418800017408, .bool false] 29 (0, 0))) := Lib.hid ((hr3.block bo (heapE_lt HO.out) (fun hm => hm.2 rfl)).trans HO.out)
      have HS1 := Lib.hid s1
      have HS2 := Lib.hid s2
      have HS3 := Lib.hid s3
      have HPL := Lib.hid (places_any hf3)
      have HCH := Lib.hid (fun (Z : World) (hz : Below w3.heap.size w3 Z) => changes_any (HF3.out.kept hz))
      clear hf3 hr3 hc3 s1 s2 s3 HC o0 o1 o2 o3 hcell
      go_wp2_with fail
      refine HPL.out.mono ?_
      rintro e w4 ⟨bp, cp4, rfl, hge4, hgl4, hc4, hb4⟩
      have HB34 := Lib.hid hb4
      have HBB4 : Hid (Below w.heap.size w w4) := Lib.hid (HBB3.out.trans (hb4.mono HBB3.out.size))
      have HO4 : Hid (w4.heap[bo]? = some (.cells #[.int .i64 1, .int .i64 0, .complex .f64 4607182418800017408 4607182418800017408, .bool false] 29 (0, 0))) := Lib.hid ((hb4.block bo (heapE_lt HO3.out)).trans HO3.out)
      have HI4 : Hid (InvA w4 (fun g => w.heap.size ≤ g ∧ g ≠ bo) fb mb (j + 1)) := Lib.hid ⟨κ', l', ch', HS1.out, HS2.out, HS3.out, (HF3.out.kept hb4).mono (by omega)⟩
      clear hge4 hgl4 hb4 HPL
      rcases HS1.out with ⟨rfl, rfl⟩ | ⟨rfl, rfl⟩
      · replace hc4 : w4.cell? ⟨bp, 0, none⟩ = some (.complex .f64 4613937818241073152 4613937818241073152) := by rw [← cv33]; exact hc4
        go_wp2_with fail
        refine (HCH.out w4 HB34.out).mono ?_
        rintro e w' ⟨rfl, rfl⟩
        clear hc4
        go_wp2_with fail
        go_roundw
        case rel => exact ⟨j + 1, by omega, by go_num, HI4, HBB4, HO4⟩
        case measure => simp [intOf]; omega
      · replace hc4 : w4.cell? ⟨bp, 0, none⟩ = some (.complex .f64 4616189618054758400 4616189618054758400) := by rw [← cv44]; exact hc4
        go_wp2_with fail
        refine (HCH.out w4 HB34.out).mono ?_
        rintro e w' ⟨rfl, rfl⟩
        clear hc4
        go_wp2_with fail
        go_roundw
        case rel => exact ⟨j + 1, by omega, by go_num, HI4, HBB4, HO4⟩
        case measure => simp [intOf]; omega
    · have hd : decide ((j : Int) < (n1 : Int)) = false := by simp; omega
      have hjle : ¬ ((j : Int) < (n1 : Int)) := by omega
      obtain rfl : j = n1 := by omega
      obtain ⟨κ, l, ch, hst, hgood, hln, hfs⟩ := HI.out
      obtain ⟨bu, HBU⟩ : ∃ b, Hid (b = wo.heap.size) := ⟨_, Lib.hid rfl⟩
      obtain ⟨X5, HX5⟩ : ∃ X, Hid (X = wo.alloc (.cells #[.int .i64 1, .int .i64 0, .complex .f64 0 0, .bool true] 29)) := ⟨_, Lib.hid rfl⟩
      have HBX5 : Hid (Below wo.heap.size wo X5) := Lib.hid (by rw [HX5.out]; exact (Below.refl _ wo).alloc (Nat.le_refl _) _)
      have HU5 : Hid (X5.heap[bu]? = some (.cells #[.int .i64 1, .int .i64 0, .complex .f64 0 0, .bool true] 29 (0, 0))) := Lib.hid (by rw [HX5.out, HBU.out]; exact heap_new wo _)
      have HO5 : Hid (X5.heap[bo]? = some (.cells #[.int .i64 1, .int .i64 0, .complex .f64 4607182418800017408 4607182418800017408, .bool false] 29 (0, 0))) := Lib.hid ((HBX5.out.block bo (heapE_lt HO.out)).trans HO.out)
      have HBB5 : Hid (Below w.heap.size w X5) := Lib.hid (HB.out.trans (HBX5.out.mono HB.out.size))
      have hfs5 : FS X5 (fun g => (w.heap.size ≤ g ∧ g ≠ bo) ∧ g ≠ bu) fb mb (2 * j) 1 (3, 3) (1, 1) κ l ch := (hfs.to (fun g hg hl => ⟨hg, by have := HBU.out; omega⟩)).kept HBX5.out
      have hch : 0 ≤ ch ∧ ch ≤ 1 := by rcases hst with ⟨_, rfl⟩ | ⟨_, rfl⟩ <;> decide
      have HST := Lib.hid hst
      have HGD := Lib.hid hgood
      have HLN := Lib.hid hln
      have HC := Lib.hid (call_any (re := 0) (im := 0) (u := true) u0 okL hfs5 (fun h => by cases h) ⟨(0, 0), st00, fl0.symm, fl0.symm⟩ (fun g hg => ⟨⟨by have := HBB5.out.size; omega, by have := heapE_lt HO5.out; omega⟩, by have := heapE_lt HU5.out; omega⟩) (by have := H40.out; omega) (by decide) (by decide) hch.1 (by omega) (by have := H40.out; omega))
      clear hst hgood hln hfs hfs5 hch
      go_upto_region 18 with fail
      change Code.wp _ _ _ _ (wo.alloc (.cells #[.int .i64 1, .int .i64 0, .complex .f64 0 0, .bool true] 29))
      rw [← HX5.out, ← HBU.out]
      obtain ⟨o0, o1, o2, o3⟩ := row4 HU5.out
      go_wp2_with fail
      refine HC.out.mono ?_
      rintro e w6 ⟨er, κ', l', ch', rfl, hf6, hr6, hc6⟩
      have hsu := stepU hc6 HST.out
      have HBB6 : Hid (Below w.heap.size w w6) := Lib.hid (HBB5.out.trans (hr6.below HBB5.out.size (fun g hg hm => by have h2 : w.heap.size ≤ g := hm.1.1; omega)))
      have HO6 : Hid (w6.heap[bo]? = some (.cells #[.int .i64 1, .int .i64 0, .complex .f64 4607182418800017408 4607182418800017408, .bool false] 29 (0, 0))) := Lib.hid ((hr6.block bo (heapE_lt HO5.out) (fun hm => hm.1.2 rfl)).trans HO5.out)
      have HU6 : Hid (w6.heap[bu]? = some (.cells #[.int .i64 1, .int .i64 0, .complex .f64 0 0, .bool true] 29 (0, 0))) := Lib.hid ((hr6.block bu (heapE_lt HU5.out) (fun hm => hm.2 rfl)).trans HU5.out)
      rcases hsu with her | ⟨rfl, rfl, rfl, hc0, hc2⟩
      · have hne : (er != 0) = true := by rw [bne_iff_ne]; exact her
        clear hf6 hr6 hc6 HC o0 o1 o2 o3 her
        go_wp2_with fail
        go_ret
        exact ⟨rfl, HBB6.out⟩
      have HI6 : Hid (InvB w6 (fun g => (w.heap.size ≤ g ∧ g ≠ bo) ∧ g ≠ bu) fb mb 0) := Lib.hid ⟨l', ch', ⟨hc0, hc2⟩, fun o ho => .inl (HGD.out o ho), by have := HLN.out; have := H40.out; omega, hf6.mono (by have := H40.out; omega)⟩
      clear hf6 hr6 hc6 HC o0 o1 o2 o3 hc0 hc2 hd hjle
      go_wp2_with fail
      go_loopw [14, 66] (fun _ v wr => ∃ j : Nat, j ≤ n3 ∧ v = .int .i64 (j : Int) ∧ Hid (InvB wr (fun g => (w.heap.size ≤ g ∧ g ≠ bo) ∧ g ≠ bu) fb mb j) ∧ Hid (Below w.heap.size w wr) ∧ Hid (wr.heap[bo]? = some (.cells #[.int .i64 1, .int .i64 0, .complex .f64 4607182418800017408 4607182418800017408, .bool false] 29 (0, 0))) ∧ Hid (wr.heap[bu]? = some (.cells #[.int .i64 1, .int .i64 0, .complex .f64 0 0, .bool true] 29 (0, 0)))) (fun _ v _ => n3 - (intOf v).toNat)
      case atStart => exact ⟨0, Nat.zero_le _, rfl, HI6, HBB6, HO6, HU6⟩
      case round =>
        obtain ⟨i, hin, rfl, HI, HB, HO, HU⟩ := hrel
        obtain ⟨wp, hwp⟩ : ∃ x, x = wr := ⟨_, rfl⟩
        subst hwp
        by_cases hi3 : i < n3
        · have hn40 := H40.out.2
          have hd : decide ((i : Int) < (n3 : Int)) = true := by simp; omega
          have hi : (i : Int) < (n3 : Int) := by omega
          obtain ⟨m, c, hc02, hgood, hln, hfs⟩ := HI.out
          obtain ⟨b1, o1', rfl, _, hcell⟩ := (R3.out.below HB.out).at_ hi3
          obtain ⟨x, HX⟩ : ∃ x, Hid (ixI zs i = x) := ⟨_, Lib.hid rfl⟩
          rw [HX.out] at hcell
          have HCB := Lib.hid hc02
          have HGD7 := Lib.hid hgood
          have HLN7 := Lib.hid hln
          have HC := Lib.hid (call_any (re := 4607182418800017408) (im := 4607182418800017408) (u := false) x okL hfs (fun _ => ⟨fl1.symm, fl1.symm⟩) ⟨(1, 1), st11, fl1.symm, fl1.symm⟩ (fun g hg => ⟨⟨by have := HB.out.size; omega, by have := heapE_lt HO.out; omega⟩, by have := heapE_lt HU.out; omega⟩) (by have := H40.out; omega) (by decide) (by decide) hc02.1 (by omega) (by have := H40.out; omega))
          obtain ⟨o0, o1, o2, o3⟩ := row4 HO.out
          clear hc02 hgood hln hfs
          go_wp2_with fail
          refine HC.out.mono ?_
          rintro e w7 ⟨er, κ', m7, c7, rfl, hf7, hr7, hc7⟩
          obtain ⟨rfl, rfl, hm7⟩ := stepB hc7
          obtain ⟨hg7, hl7⟩ := all_app HGD7.out (.inl rfl) hm7
          have HBB7 : Hid (Below w.heap.size w w7) := Lib.hid (HB.out.trans (hr7.below HB.out.size (fun g hg hm => by have h2 : w.heap.size ≤ g := hm.1.1; omega)))
          have HO7 : Hid (w7.heap[bo]? = some (.cells #[.int .i64 1, .int .i64 0, .complex .f64 4607182418800017408 4607182418800017408, .bool false] 29 (0, 0))) := Lib.hid ((hr7.block bo (heapE_lt HO.out) (fun hm => hm.1.2 rfl)).trans HO.out)
          have HU7 : Hid (w7.heap[bu]? = some (.cells #[.int .i64 1, .int .i64 0, .complex .f64 0 0, .bool true] 29 (0, 0))) := Lib.hid ((hr7.block bu (heapE_lt HU.out) (fun hm => hm.2 rfl)).trans HU.out)
          have HG7 := Lib.hid hg7
          have HL7 := Lib.hid hl7
          have HC8 := Lib.hid (call_any (re := 0) (im := 0) (u := true) x okL hf7 (fun h => by cases h) ⟨(0, 0), st00, fl0.symm, fl0.symm⟩ (fun g hg => ⟨⟨by have := HBB7.out.size; omega, by have := heapE_lt HO7.out; omega⟩, by have := heapE_lt HU7.out; omega⟩) (by have := H40.out; omega) (by decide) (by decide) HCB.out.1 (by have := HCB.out; omega) (by have := H40.out; have := HLN7.out; omega))
          clear hf7 hr7 hc7 hm7 hg7 hl7 HC o0 o1 o2 o3 hcell
          obtain ⟨o0, o1, o2, o3⟩ := row4 HU7.out
          go_wp2_with fail
          refine HC8.out.mono ?_
          rintro e w8 ⟨er8, κ', m8, c8, rfl, hf8, hr8, hc8⟩
          obtain ⟨rfl, rfl, hm8⟩ := stepB hc8
          obtain ⟨hg8, hl8⟩ := all_app HG7.out (.inr rfl) hm8
          have HBB8 : Hid (Below w.heap.size w w8) := Lib.hid (HBB7.out.trans (hr8.below HBB7.out.size (fun g hg hm => by have h2 : w.heap.size ≤ g := hm.1.1; omega)))
          have HO8 : Hid (w8.heap[bo]? = some (.cells #[.int .i64 1, .int .i64 0, .complex .f64 4607182418800017408 4607182418800017408, .bool false] 29 (0, 0))) := Lib.hid ((hr8.block bo (heapE_lt HO7.out) (fun hm => hm.1.2 rfl)).trans HO7.out)
          have HU8 : Hid (w8.heap[bu]? = some (.cells #[.int .i64 1, .int .i64 0, .complex .f64 0 0, .bool true] 29 (0, 0))) := Lib.hid ((hr8.block bu (heapE_lt HU7.out) (fun hm => hm.2 rfl)).trans HU7.out)
          have HG8 := Lib.hid hg8
          have HL8 := Lib.hid hl8
          have HDL := Lib.hid (deliver_any okL hf8 (good_all hg8) (by have := H40.out; omega) (by decide) (by decide) HCB.out.1 (by have := HCB.out; omega) (by have := H40.out; have := HLN7.out; have := HL7.out; omega))
          clear hf8 hr8 hc8 hm8 hg8 hl8 HC8 o0 o1 o2 o3
          go_wp2_with fail
          refine HDL.out.mono ?_
          rintro e w9 ⟨er9, κ', m9, c9, rfl, hf9, hr9, hc9⟩
          have hres : κ' = some true ∧ c9 = c8 ∧ (∀ o ∈ m9, o = odO ∨ o = udO) ∧ m9.length ≤ m8.length := by
            rcases hc9 with ⟨rfl, rfl, rfl, rfl⟩ | ⟨o, t, rfl, rfl, rfl, rfl⟩
            · exact ⟨rfl, rfl, HG8.out, Nat.le_refl _⟩
            · exact ⟨(doB _ 0).1, (doB _ _).2, fun o' ho' => HG8.out o' (List.mem_cons_of_mem _ ho'), by simp⟩
          obtain ⟨rfl, rfl, hg9, hl9⟩ := hres
          have HF9 := Lib.hid hf9
          have HBB9 : Hid (Below w.heap.size w w9) := Lib.hid (HBB8.out.trans (hr9.below HBB8.out.size (fun g hg hm => by have h2 : w.heap.size ≤ g := hm.1.1; omega)))
          have HO9 : Hid (w9.heap[bo]? = some (.cells #[.int .i64 1, .int .i64 0, .complex .f64 4607182418800017408 4607182418800017408, .bool false] 29 (0, 0))) := Lib.hid ((hr9.block bo (heapE_lt HO8.out) (fun hm => hm.1.2 rfl)).trans HO8.out)
          have HU9 : Hid (w9.heap[bu]? = some (.cells #[.int .i64 1, .int .i64 0, .complex .f64 0 0, .bool true] 29 (0, 0))) := Lib.hid ((hr9.block bu (heapE_lt HU8.out) (fun hm => hm.2 rfl)).trans HU8.out)
          have HG9 := Lib.hid hg9
          have HL9 : Hid (m9.length ≤ 40 + 2 * (i + 1)) := Lib.hid (by have := HLN7.out; have := HL7.out; have := HL8.out; omega)
          have HPL := Lib.hid (places_any hf9)
          have HCH := Lib.hid (fun (Z : World) (hz : Below w9.heap.size w9 Z) => changes_any (HF9.out.kept hz))
          clear hf9 hr9 hc9 hg9 hl9 HDL
          go_wp2_with fail
          refine HPL.out.mono ?_
          rintro e wa ⟨bp, cpa, rfl, hgea, hgla, hca, hba⟩
          replace hca : wa.cell? ⟨bp, 0, none⟩ = some (.complex .f64 4613937818241073152 4613937818241073152) := by rw [← cv33]; exact hca
          have HB9a := Lib.hid hba
          have HBBa : Hid (Below w.heap.size w wa) := Lib.hid (HBB9.out.trans (hba.mono HBB9.out.size))
          have HOa : Hid (wa.heap[bo]? = some (.cells #[.int .i64 1, .int .i64 0, .complex .f64 4607182418800017408 4607182418800017408, .bool false] 29 (0, 0))) := Lib.hid ((hba.block bo (heapE_lt HO9.out)).trans HO9.out)
          have HUa : Hid (wa.heap[bu]? = some (.cells #[.int .i64 1, .int .i64 0, .complex .f64 0 0, .bool true] 29 (0, 0))) := Lib.hid ((hba.block bu (heapE_lt HU9.out)).trans HU9.out)
          have HIa : Hid (InvB wa (fun g => (w.heap.size ≤ g ∧ g ≠ bo) ∧ g ≠ bu) fb mb (i + 1)) := Lib.hid ⟨m9, c9, HCB.out, HG9.out, HL9.out, (HF9.out.kept hba).mono (by omega)⟩
          have hcle : c9 ≤ 2 := HCB.out.2
          have hcd : decide ((2 : Int) < c9) = false := decide_eq_false (by omega)
          clear hgea hgla hba HPL
          go_wp2_with fail
          refine (HCH.out wa HB9a.out).mono ?_
          rintro e w' ⟨rfl, rfl⟩
          clear hca
          go_wp2_with fail
          go_roundw
          case rel => exact ⟨i + 1, by omega, by go_num, HIa, HBBa, HOa, HUa⟩
          case measure => simp [intOf]; omega
        · have hd : decide ((i : Int) < (n3 : Int)) = false := by simp; omega
          obtain ⟨m, c, hc02, hgood, hln, hfs⟩ := HI.out
          have HKY := Lib.hid (key_dead hfs (by decide) (by decide))
          have hile : ¬ ((i : Int) < (n3 : Int)) := by omega
          clear hc02 hgood hln hfs
          go_wp2_with fail
          refine HKY.out.mono ?_
          rintro e wz ⟨rfl, hbz⟩
          have HBZ : Hid (Below w.heap.size w wz) := Lib.hid (HB.out.trans (hbz.mono HB.out.size))
          clear hbz HKY
          go_wp2_with fail
          go_ret
          exact ⟨rfl, HBZ.out⟩
end Go.Proofs.Ytjppaonaiafgeaa
