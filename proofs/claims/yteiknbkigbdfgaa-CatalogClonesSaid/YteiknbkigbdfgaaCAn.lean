/-
  MERGED: CEx CEy CAn.
-/
import Derived.Test.YteiknbkigbdfgaaCEx
import Derived.Test.YteiknbkigbdfgaaInv
import Derived.Test.YteiknbkigbdfgaaCCa
namespace Go.Proofs.Yteiknbkigbdfgaa
open Go.RowKit
open SemP
set_option linter.unusedVariables false
set_option linter.unusedSimpArgs false
set_option maxRecDepth 10000

set_option maxHeartbeats 8000000 in
theorem exNeeds6_any {w : World} {g : Nat} (k0 : w.cell? ⟨g, 0, none⟩ = some (.int .i64 1)) (k1 : w.cell? ⟨g, 1, none⟩ = some (.int .i64 0)) (k2 : w.cell? ⟨g, 2, none⟩ = some (.int .i64 0)) (k3 : w.cell? ⟨g, 3, none⟩ = some (.string ⟨#[]⟩)) :
    Calls Try.prog 45 #[.int .i64 6, .pointer (some ⟨g, 0, none⟩)] w fun e w' => ∃ c, e = .returned (.slice (some ⟨c, 0, none⟩) 1 1) ∧ psI w' (fun b => b < w.heap.size) [.slice (some ⟨c, 0, none⟩) 1 1] (nd1 6) ∧ Below w.heap.size w w' := by
  have hgw : g < w.heap.size := block_lt_of_cell k0
  have hne : g ≠ w.heap.size := by omega
  go_enter Try.func45, Try.ntmps45
  go_wp2_with fail
  go_ret
  refine ⟨_, rfl, nd_blocks (alloc4 w _ _ _ _).1 (alloc4 w _ _ _ _).2.1 (alloc4 w _ _ _ _).2.2.1 (by omega) (by omega) (by omega), (alloc4 w _ _ _ _).2.2.2⟩
set_option maxHeartbeats 8000000 in
theorem exNeeds0_any {w : World} {g : Nat} :
    Calls Try.prog 45 #[.int .i64 0, .pointer (some ⟨g, 0, none⟩)] w fun e w' => ∃ c, e = .returned (.slice (some ⟨c, 0, none⟩) 1 1) ∧ psI w' (fun b => b < w.heap.size) [.slice (some ⟨c, 0, none⟩) 1 1] (nd1 0) ∧ Below w.heap.size w w' := by
  go_enter Try.func45, Try.ntmps45
  go_wp2_with fail
  go_ret
  refine ⟨_, rfl, nd_blocks (alloc4 w _ _ _ _).1 (alloc4 w _ _ _ _).2.1 (alloc4 w _ _ _ _).2.2.1 (by omega) (by omega) (by omega), (alloc4 w _ _ _ _).2.2.2⟩
theorem enters_ex1 : ∀ args w, (callFunc 45 args).run Try.prog w = .ok (.enter 45 args) w := enters_of Try.func45 (by kernel_rfl) rfl
end Go.Proofs.Yteiknbkigbdfgaa

namespace Go.Proofs.Yteiknbkigbdfgaa
open Go.RowKit
open SemP
set_option linter.unusedVariables false
set_option linter.unusedSimpArgs false
set_option maxRecDepth 10000
structure ExSt (w W : World) (b0 b1 b2 b3 b4 b5 b6 b7 b8 b9 b10 b11 b12 b13 b14 b15 b16 b17 b18 : Bool) (v7 v8 v9 v10 v11 v12 v13 v14 v15 v16 v17 v18 v19 v20 v21 v22 v23 v24 : Value) (w' : World) : Prop where
  q : b18 = true → b0 = true ∧ b1 = true ∧ b2 = true ∧ b3 = true ∧ b4 = true ∧ b5 = true ∧ b6 = true ∧ b7 = true ∧ b8 = true ∧ b9 = true ∧ b10 = true ∧ b11 = true ∧ b12 = true ∧ b13 = true ∧ b14 = true ∧ b15 = true ∧ b16 = true ∧ b17 = true
  bel : b18 = false → Below W.heap.size W w'
  h0 : b0 = true → v7 = .agg #[.int .i64 1, .int .i64 0, .int .i64 0, .string ⟨#[]⟩]
  h1 : b1 = true → v8 = .agg #[.int .i64 1, .int .i64 0, .int .i64 0, .string ⟨#[]⟩, .int .i64 0, .slice none 0 0]
  h2 : b2 = true → v9 = .agg #[.int .i64 2, .int .i64 0, .int .i64 0, .string ⟨#[]⟩]
  h3 : b3 = true → v10 = .agg #[.int .i64 2, .int .i64 0, .int .i64 0, .string ⟨#[]⟩, .int .i64 0, .slice none 0 0]
  h4 : b4 = true → b18 = false → ∃ g, v11 = .slice (some ⟨g, 0, none⟩) 2 2 ∧ rsI w' (fun b => b < W.heap.size) [.slice (some ⟨g, 0, none⟩) 2 2] exA
  h5 : b5 = true → v12 = .agg #[.string ⟨#[97]⟩, v11]
  h6 : b6 = true → v13 = .agg #[.int .i64 1, .int .i64 0, .int .i64 0, .string ⟨#[]⟩]
  h7 : b7 = true → v14 = .func (.func 45) #[] #[.pointer (some ⟨w.heap.size + 1, 0, none⟩)]
  h8 : b8 = true → b18 = false → ∃ g, v15 = .slice (some ⟨g, 0, none⟩) 1 1 ∧ psI w' (fun b => b < W.heap.size) [.slice (some ⟨g, 0, none⟩) 1 1] (nd1 6)
  h9 : b9 = true → v16 = .agg #[.int .i64 1, .int .i64 0, .int .i64 0, .string ⟨#[]⟩, .int .i64 0, v15]
  h10 : b10 = true → v17 = .agg #[.int .i64 2, .int .i64 0, .int .i64 0, .string ⟨#[]⟩]
  h11 : b11 = true → v18 = .func (.func 45) #[] #[.pointer (some ⟨w.heap.size + 1, 0, none⟩)]
  h12 : b12 = true → b18 = false → ∃ g, v19 = .slice (some ⟨g, 0, none⟩) 1 1 ∧ psI w' (fun b => b < W.heap.size) [.slice (some ⟨g, 0, none⟩) 1 1] (nd1 0)
  h13 : b13 = true → v20 = .agg #[.int .i64 2, .int .i64 0, .int .i64 0, .string ⟨#[]⟩, .int .i64 0, v19]
  h14 : b14 = true → b18 = false → ∃ g, v21 = .slice (some ⟨g, 0, none⟩) 2 2 ∧ rsI w' (fun b => b < W.heap.size) [.slice (some ⟨g, 0, none⟩) 2 2] exB
  h15 : b15 = true → v22 = .agg #[.string ⟨#[98]⟩, v21]
  h16 : b16 = true → b18 = false → ∃ g, v23 = .slice (some ⟨g, 0, none⟩) 2 2 ∧ ssI w' (fun b => b < W.heap.size) [.slice (some ⟨g, 0, none⟩) 2 2] exL
  h17 : b17 = true → v24 = .agg #[v23]
  o1_0 : b1 = true → b0 = true
  o3_2 : b3 = true → b2 = true
  o4_1 : b4 = true → b1 = true
  o4_3 : b4 = true → b3 = true
  o5_4 : b5 = true → b4 = true
  o8_7 : b8 = true → b7 = true
  o9_6 : b9 = true → b6 = true
  o9_8 : b9 = true → b8 = true
  o12_11 : b12 = true → b11 = true
  o13_10 : b13 = true → b10 = true
  o13_12 : b13 = true → b12 = true
  o14_9 : b14 = true → b9 = true
  o14_13 : b14 = true → b13 = true
  o15_14 : b15 = true → b14 = true
  o16_5 : b16 = true → b5 = true
  o16_15 : b16 = true → b15 = true
  o17_16 : b17 = true → b16 = true
  fin : b18 = true → ∃ g, w'.cell? ⟨w.heap.size, 0, none⟩ = some (.slice (some ⟨g, 0, none⟩) 2 2) ∧ ssI w' (fun b => b < w.heap.size) [.slice (some ⟨g, 0, none⟩) 2 2] exL ∧ Below w.heap.size w w'
inductive ExJ (w W : World) (p0 p1 p2 p3 p4 p5 p6 : Value) : Array Bool → Act → World → Prop where
  | mk (b0 b1 b2 b3 b4 b5 b6 b7 b8 b9 b10 b11 b12 b13 b14 b15 b16 b17 b18 : Bool) (v7 v8 v9 v10 v11 v12 v13 v14 v15 v16 v17 v18 v19 v20 v21 v22 v23 v24 : Value) (w' : World) : ExSt w W b0 b1 b2 b3 b4 b5 b6 b7 b8 b9 b10 b11 b12 b13 b14 b15 b16 b17 b18 v7 v8 v9 v10 v11 v12 v13 v14 v15 v16 v17 v18 v19 v20 v21 v22 v23 v24 w' → ExJ w W p0 p1 p2 p3 p4 p5 p6 #[b0, b1, b2, b3, b4, b5, b6, b7, b8, b9, b10, b11, b12, b13, b14, b15, b16, b17, b18] { tmps := List.toArray (p0 :: p1 :: p2 :: p3 :: p4 :: p5 :: p6 :: v7 :: v8 :: v9 :: v10 :: v11 :: v12 :: v13 :: v14 :: v15 :: v16 :: v17 :: v18 :: v19 :: v20 :: v21 :: v22 :: v23 :: v24 :: []), defers := [] } w'
set_option maxHeartbeats 16000000 in
theorem example_any (w : World) :
    Calls Try.prog 24 #[] w fun e w' => ∃ g, e = .returned (.agg #[.slice (some ⟨g, 0, none⟩) 2 2]) ∧ ssI w' (fun b => b < w.heap.size) [.slice (some ⟨g, 0, none⟩) 2 2] exL ∧ Below w.heap.size w w' := by
  have eg := enters_ex1
  go_enter Try.func24, Try.ntmps24
  go_upto_region 3 with fail
  obtain ⟨W, HW⟩ : ∃ W, Hid (W = ((w.alloc (.cells #[.slice none 0 0] 24)).alloc (.cells #[.int .i64 1, .int .i64 0, .int .i64 0, .string ⟨#[]⟩] 39)).alloc (.cells #[.int .i64 2, .int .i64 0, .int .i64 0, .string ⟨#[]⟩] 39)) := ⟨_, Lib.hid rfl⟩
  have hbl : Below w.heap.size w W := by rw [HW.out]; exact (((Below.refl _ w).alloc (Nat.le_refl _) _).alloc (by simp) _).alloc (by simp; omega) _
  have hz2 : w.heap.size + 1 + 1 < W.heap.size := by rw [HW.out]; simp
  have hz1 : w.heap.size + 1 < W.heap.size := by omega
  have hz0 : w.heap.size < W.heap.size := by omega
  have H0 : W.heap[w.heap.size]? = some (.cells #[.slice none 0 0] 24 (0, 0)) := by
    rw [HW.out, Below.heap_alloc _ _ _ (by simp; omega), Below.heap_alloc _ _ _ (by simp)]
    exact heap_new w _
  have H1 : W.heap[w.heap.size + 1]? = some (.cells #[.int .i64 1, .int .i64 0, .int .i64 0, .string ⟨#[]⟩] 39 (0, 0)) := by
    rw [HW.out, Below.heap_alloc _ _ _ (by simp)]
    have h := heap_new (w.alloc (.cells #[.slice none 0 0] 24)) (.cells #[.int .i64 1, .int .i64 0, .int .i64 0, .string ⟨#[]⟩] 39)
    rw [World.size_alloc] at h; exact h
  have H2 : W.heap[w.heap.size + 1 + 1]? = some (.cells #[.int .i64 2, .int .i64 0, .int .i64 0, .string ⟨#[]⟩] 39 (0, 0)) := by
    rw [HW.out]
    have h := heap_new ((w.alloc (.cells #[.slice none 0 0] 24)).alloc (.cells #[.int .i64 1, .int .i64 0, .int .i64 0, .string ⟨#[]⟩] 39)) (.cells #[.int .i64 2, .int .i64 0, .int .i64 0, .string ⟨#[]⟩] 39)
    rw [World.size_alloc, World.size_alloc] at h; exact h
  change Code.wp _ _ _ _ (((w.alloc (.cells #[.slice none 0 0] 24)).alloc (.cells #[.int .i64 1, .int .i64 0, .int .i64 0, .string ⟨#[]⟩] 39)).alloc (.cells #[.int .i64 2, .int .i64 0, .int .i64 0, .string ⟨#[]⟩] 39))
  rw [← HW.out]
  have HQ := Lib.hid (cells4 H1)
  have HR := Lib.hid (cells4 H2)
  have HH0 := Lib.hid H0
  have HBL := Lib.hid hbl
  clear H0 H1 H2 hbl
  refine wp_region_inv (by kernel_rfl) (I := ExJ w W _ _ _ _ _ _ _) (.mk false false false false false false false false false false false false false false false false false false false _ _ _ _ _ _ _ _ _ _ _ _ _ _ _ _ _ _ _ ⟨nofun, fun _ => (Below.refl _ W).drew, nofun, nofun, nofun, nofun, nofun, nofun, nofun, nofun, nofun, nofun, nofun, nofun, nofun, nofun, nofun, nofun, nofun, nofun, nofun, nofun, nofun, nofun, nofun, nofun, nofun, nofun, nofun, nofun, nofun, nofun, nofun, nofun, nofun, nofun, nofun, nofun⟩) ?step ?fin
  case step =>
    rintro lq a' w' ix ⟨b0, b1, b2, b3, b4, b5, b6, b7, b8, b9, b10, b11, b12, b13, b14, b15, b16, b17, b18, v7, v8, v9, v10, v11, v12, v13, v14, v15, v16, v17, v18, v19, v20, v21, v22, v23, v24, _, HT⟩ hi
    obtain ⟨hi_, hib⟩ := ready_lt hi
    have HTH := Lib.hid HT
    match ix, hi_, hi, hib with
    | 0, _, hi, hib =>
      obtain rfl : b0 = false := by simpa using hib
      obtain rfl : b18 = false := by
        cases hb18 : b18 with
        | false => rfl
        | true => have h := (HT.q hb18).1; cases h
      have hbel := HT.bel rfl
      have q0 := (hbel.cell (p := ⟨w.heap.size + 1, 0, none⟩) hz1).trans HQ.out.1
      have q1 := (hbel.cell (p := ⟨w.heap.size + 1, 1, none⟩) hz1).trans HQ.out.2.1
      have q2 := (hbel.cell (p := ⟨w.heap.size + 1, 2, none⟩) hz1).trans HQ.out.2.2.1
      have q3 := (hbel.cell (p := ⟨w.heap.size + 1, 3, none⟩) hz1).trans HQ.out.2.2.2
      have HBE := Lib.hid hbel
      clear HT hbel
      refine wpOp_one rfl rfl (fun K hK => ?_)
      go_simp
      exact hK.out _ _ (.mk true b1 b2 b3 b4 b5 b6 b7 b8 b9 b10 b11 b12 b13 b14 b15 b16 b17 false _ _ _ _ _ _ _ _ _ _ _ _ _ _ _ _ _ _ _ { HTH.out with q := fun h => (by cases h), fin := fun h => (by cases h), h0 := fun _ => rfl, o1_0 := fun _ => rfl })
    | 1, _, hi, hib =>
      obtain rfl : b1 = false := by simpa using hib
      obtain rfl : b18 = false := by
        cases hb18 : b18 with
        | false => rfl
        | true => have h := (HT.q hb18).2.1; cases h
      have hbel := HT.bel rfl
      have d0 : b0 = true := ready_dep hi rfl 0 (by kernel_rfl)
      have hd0 := HT.h0 d0
      subst hd0
      have HBE := Lib.hid hbel
      clear HT hbel
      refine wpOp_one rfl rfl (fun K hK => ?_)
      go_simp
      exact hK.out _ _ (.mk b0 true b2 b3 b4 b5 b6 b7 b8 b9 b10 b11 b12 b13 b14 b15 b16 b17 false _ _ _ _ _ _ _ _ _ _ _ _ _ _ _ _ _ _ _ { HTH.out with q := fun h => (by cases h), fin := fun h => (by cases h), h1 := fun _ => rfl, o1_0 := fun _ => d0, o4_1 := fun _ => rfl })
    | 2, _, hi, hib =>
      obtain rfl : b2 = false := by simpa using hib
      obtain rfl : b18 = false := by
        cases hb18 : b18 with
        | false => rfl
        | true => have h := (HT.q hb18).2.2.1; cases h
      have hbel := HT.bel rfl
      have q0 := (hbel.cell (p := ⟨w.heap.size + 1 + 1, 0, none⟩) hz2).trans HR.out.1
      have q1 := (hbel.cell (p := ⟨w.heap.size + 1 + 1, 1, none⟩) hz2).trans HR.out.2.1
      have q2 := (hbel.cell (p := ⟨w.heap.size + 1 + 1, 2, none⟩) hz2).trans HR.out.2.2.1
      have q3 := (hbel.cell (p := ⟨w.heap.size + 1 + 1, 3, none⟩) hz2).trans HR.out.2.2.2
      have HBE := Lib.hid hbel
      clear HT hbel
      refine wpOp_one rfl rfl (fun K hK => ?_)
      go_simp
      exact hK.out _ _ (.mk b0 b1 true b3 b4 b5 b6 b7 b8 b9 b10 b11 b12 b13 b14 b15 b16 b17 false _ _ _ _ _ _ _ _ _ _ _ _ _ _ _ _ _ _ _ { HTH.out with q := fun h => (by cases h), fin := fun h => (by cases h), h2 := fun _ => rfl, o3_2 := fun _ => rfl })
    | 3, _, hi, hib =>
      obtain rfl : b3 = false := by simpa using hib
      obtain rfl : b18 = false := by
        cases hb18 : b18 with
        | false => rfl
        | true => have h := (HT.q hb18).2.2.2.1; cases h
      have hbel := HT.bel rfl
      have d2 : b2 = true := ready_dep hi rfl 2 (by kernel_rfl)
      have hd2 := HT.h2 d2
      subst hd2
      have HBE := Lib.hid hbel
      clear HT hbel
      refine wpOp_one rfl rfl (fun K hK => ?_)
      go_simp
      exact hK.out _ _ (.mk b0 b1 b2 true b4 b5 b6 b7 b8 b9 b10 b11 b12 b13 b14 b15 b16 b17 false _ _ _ _ _ _ _ _ _ _ _ _ _ _ _ _ _ _ _ { HTH.out with q := fun h => (by cases h), fin := fun h => (by cases h), h3 := fun _ => rfl, o3_2 := fun _ => d2, o4_3 := fun _ => rfl })
    | 4, _, hi, hib =>
      obtain rfl : b4 = false := by simpa using hib
      obtain rfl : b18 = false := by
        cases hb18 : b18 with
        | false => rfl
        | true => have h := (HT.q hb18).2.2.2.2.1; cases h
      have hbel := HT.bel rfl
      have d1 : b1 = true := ready_dep hi rfl 1 (by kernel_rfl)
      have d3 : b3 = true := ready_dep hi rfl 3 (by kernel_rfl)
      have hd1 := HT.h1 d1
      subst hd1
      have hd3 := HT.h3 d3
      subst hd3
      have HBE := Lib.hid hbel
      clear HT hbel
      refine wpOp_one rfl rfl (fun K hK => ?_)
      go_simp
      have hba : Below w'.heap.size w' (w'.alloc (.cells #[.int .i64 1, .int .i64 0, .int .i64 0, .string ⟨#[]⟩, .int .i64 0, .slice none 0 0, .int .i64 2, .int .i64 0, .int .i64 0, .string ⟨#[]⟩, .int .i64 0, .slice none 0 0] 42)) := (Below.refl _ w').alloc (Nat.le_refl _) _
      exact hK.out _ _ (.mk b0 b1 b2 b3 true b5 b6 b7 b8 b9 b10 b11 b12 b13 b14 b15 b16 b17 false _ _ _ _ _ _ _ _ _ _ _ _ _ _ _ _ _ _ _ { HTH.out with q := fun h => (by cases h), fin := fun h => (by cases h), bel := fun _ => HBE.out.trans (hba.mono HBE.out.size), h4 := fun _ _ => ⟨w'.heap.size, rfl, rels_two (heap_new w' (.cells #[.int .i64 1, .int .i64 0, .int .i64 0, .string ⟨#[]⟩, .int .i64 0, .slice none 0 0, .int .i64 2, .int .i64 0, .int .i64 0, .string ⟨#[]⟩, .int .i64 0, .slice none 0 0] 42)) (by show ¬ _ < _; have := HBE.out.size; omega) (nil_needs _ _) (nil_needs _ _)⟩, o4_1 := fun _ => d1, o4_3 := fun _ => d3, o5_4 := fun _ => rfl, h5 := fun h => (by have h2 := HTH.out.o5_4 h; cases h2), h8 := fun h hf => (by obtain ⟨g, e, r⟩ := HTH.out.h8 h hf; exact ⟨g, e, ps_turns.kept r hba⟩), h12 := fun h hf => (by obtain ⟨g, e, r⟩ := HTH.out.h12 h hf; exact ⟨g, e, ps_turns.kept r hba⟩), h14 := fun h hf => (by obtain ⟨g, e, r⟩ := HTH.out.h14 h hf; exact ⟨g, e, rs_turns.kept r hba⟩), h16 := fun h hf => (by obtain ⟨g, e, r⟩ := HTH.out.h16 h hf; exact ⟨g, e, ss_turns.kept r hba⟩) })
    | 5, _, hi, hib =>
      obtain rfl : b5 = false := by simpa using hib
      obtain rfl : b18 = false := by
        cases hb18 : b18 with
        | false => rfl
        | true => have h := (HT.q hb18).2.2.2.2.2.1; cases h
      have hbel := HT.bel rfl
      have d4 : b4 = true := ready_dep hi rfl 4 (by kernel_rfl)
      obtain ⟨g4, e4, r4⟩ := HT.h4 d4 rfl
      subst e4
      have HR4 := Lib.hid r4
      clear r4
      have HBE := Lib.hid hbel
      clear HT hbel
      refine wpOp_one rfl rfl (fun K hK => ?_)
      go_simp
      exact hK.out _ _ (.mk b0 b1 b2 b3 b4 true b6 b7 b8 b9 b10 b11 b12 b13 b14 b15 b16 b17 false _ _ _ _ _ _ _ _ _ _ _ _ _ _ _ _ _ _ _ { HTH.out with q := fun h => (by cases h), fin := fun h => (by cases h), h5 := fun _ => rfl, o5_4 := fun _ => d4, o16_5 := fun _ => rfl })
    | 6, _, hi, hib =>
      obtain rfl : b6 = false := by simpa using hib
      obtain rfl : b18 = false := by
        cases hb18 : b18 with
        | false => rfl
        | true => have h := (HT.q hb18).2.2.2.2.2.2.1; cases h
      have hbel := HT.bel rfl
      have q0 := (hbel.cell (p := ⟨w.heap.size + 1, 0, none⟩) hz1).trans HQ.out.1
      have q1 := (hbel.cell (p := ⟨w.heap.size + 1, 1, none⟩) hz1).trans HQ.out.2.1
      have q2 := (hbel.cell (p := ⟨w.heap.size + 1, 2, none⟩) hz1).trans HQ.out.2.2.1
      have q3 := (hbel.cell (p := ⟨w.heap.size + 1, 3, none⟩) hz1).trans HQ.out.2.2.2
      have HBE := Lib.hid hbel
      clear HT hbel
      refine wpOp_one rfl rfl (fun K hK => ?_)
      go_simp
      exact hK.out _ _ (.mk b0 b1 b2 b3 b4 b5 true b7 b8 b9 b10 b11 b12 b13 b14 b15 b16 b17 false _ _ _ _ _ _ _ _ _ _ _ _ _ _ _ _ _ _ _ { HTH.out with q := fun h => (by cases h), fin := fun h => (by cases h), h6 := fun _ => rfl, o9_6 := fun _ => rfl })
    | 7, _, hi, hib =>
      obtain rfl : b7 = false := by simpa using hib
      obtain rfl : b18 = false := by
        cases hb18 : b18 with
        | false => rfl
        | true => have h := (HT.q hb18).2.2.2.2.2.2.2.1; cases h
      have hbel := HT.bel rfl
      have HBE := Lib.hid hbel
      clear HT hbel
      refine wpOp_one rfl rfl (fun K hK => ?_)
      go_simp
      exact hK.out _ _ (.mk b0 b1 b2 b3 b4 b5 b6 true b8 b9 b10 b11 b12 b13 b14 b15 b16 b17 false _ _ _ _ _ _ _ _ _ _ _ _ _ _ _ _ _ _ _ { HTH.out with q := fun h => (by cases h), fin := fun h => (by cases h), h7 := fun _ => rfl, o8_7 := fun _ => rfl })
    | 8, _, hi, hib =>
      obtain rfl : b8 = false := by simpa using hib
      obtain rfl : b18 = false := by
        cases hb18 : b18 with
        | false => rfl
        | true => have h := (HT.q hb18).2.2.2.2.2.2.2.2.1; cases h
      have hbel := HT.bel rfl
      have d7 : b7 = true := ready_dep hi rfl 7 (by kernel_rfl)
      have hd7 := HT.h7 d7
      subst hd7
      have HC := Lib.hid (exNeeds6_any (w := w') ((hbel.cell (p := ⟨w.heap.size + 1, 0, none⟩) hz1).trans HQ.out.1) ((hbel.cell (p := ⟨w.heap.size + 1, 1, none⟩) hz1).trans HQ.out.2.1) ((hbel.cell (p := ⟨w.heap.size + 1, 2, none⟩) hz1).trans HQ.out.2.2.1) ((hbel.cell (p := ⟨w.heap.size + 1, 3, none⟩) hz1).trans HQ.out.2.2.2))
      have HBE := Lib.hid hbel
      clear HT hbel
      refine wpOp_one rfl rfl (fun K hK => ?_)
      go_simp
      go_at_fn 45
      refine HC.out.mono ?_
      rintro e w2 ⟨g, rfl, hp, hb⟩
      exact hK.out _ _ (.mk b0 b1 b2 b3 b4 b5 b6 b7 true b9 b10 b11 b12 b13 b14 b15 b16 b17 false _ _ _ _ _ _ _ _ _ _ _ _ _ _ _ _ _ _ _ { HTH.out with q := fun h => (by cases h), fin := fun h => (by cases h), bel := fun _ => HBE.out.trans (hb.mono HBE.out.size), h8 := fun _ _ => ⟨g, rfl, (ps_turns.go hp (FrM.refl w2 _) (fun b (hb2 : b < W.heap.size) => .inl (by show b < _; have := HBE.out.size; omega)))⟩, o8_7 := fun _ => d7, o9_8 := fun _ => rfl, h9 := fun h => (by have h2 := HTH.out.o9_8 h; cases h2), h4 := fun h hf => (by obtain ⟨g, e, r⟩ := HTH.out.h4 h hf; exact ⟨g, e, rs_turns.kept r hb⟩), h12 := fun h hf => (by obtain ⟨g, e, r⟩ := HTH.out.h12 h hf; exact ⟨g, e, ps_turns.kept r hb⟩), h14 := fun h hf => (by obtain ⟨g, e, r⟩ := HTH.out.h14 h hf; exact ⟨g, e, rs_turns.kept r hb⟩), h16 := fun h hf => (by obtain ⟨g, e, r⟩ := HTH.out.h16 h hf; exact ⟨g, e, ss_turns.kept r hb⟩) })
    | 9, _, hi, hib =>
      obtain rfl : b9 = false := by simpa using hib
      obtain rfl : b18 = false := by
        cases hb18 : b18 with
        | false => rfl
        | true => have h := (HT.q hb18).2.2.2.2.2.2.2.2.2.1; cases h
      have hbel := HT.bel rfl
      have d6 : b6 = true := ready_dep hi rfl 6 (by kernel_rfl)
      have d8 : b8 = true := ready_dep hi rfl 8 (by kernel_rfl)
      have hd6 := HT.h6 d6
      subst hd6
      obtain ⟨g8, e8, r8⟩ := HT.h8 d8 rfl
      subst e8
      have HR8 := Lib.hid r8
      clear r8
      have HBE := Lib.hid hbel
      clear HT hbel
      refine wpOp_one rfl rfl (fun K hK => ?_)
      go_simp
      exact hK.out _ _ (.mk b0 b1 b2 b3 b4 b5 b6 b7 b8 true b10 b11 b12 b13 b14 b15 b16 b17 false _ _ _ _ _ _ _ _ _ _ _ _ _ _ _ _ _ _ _ { HTH.out with q := fun h => (by cases h), fin := fun h => (by cases h), h9 := fun _ => rfl, o9_6 := fun _ => d6, o9_8 := fun _ => d8, o14_9 := fun _ => rfl })
    | 10, _, hi, hib =>
      obtain rfl : b10 = false := by simpa using hib
      obtain rfl : b18 = false := by
        cases hb18 : b18 with
        | false => rfl
        | true => have h := (HT.q hb18).2.2.2.2.2.2.2.2.2.2.1; cases h
      have hbel := HT.bel rfl
      have q0 := (hbel.cell (p := ⟨w.heap.size + 1 + 1, 0, none⟩) hz2).trans HR.out.1
      have q1 := (hbel.cell (p := ⟨w.heap.size + 1 + 1, 1, none⟩) hz2).trans HR.out.2.1
      have q2 := (hbel.cell (p := ⟨w.heap.size + 1 + 1, 2, none⟩) hz2).trans HR.out.2.2.1
      have q3 := (hbel.cell (p := ⟨w.heap.size + 1 + 1, 3, none⟩) hz2).trans HR.out.2.2.2
      have HBE := Lib.hid hbel
      clear HT hbel
      refine wpOp_one rfl rfl (fun K hK => ?_)
      go_simp
      exact hK.out _ _ (.mk b0 b1 b2 b3 b4 b5 b6 b7 b8 b9 true b11 b12 b13 b14 b15 b16 b17 false _ _ _ _ _ _ _ _ _ _ _ _ _ _ _ _ _ _ _ { HTH.out with q := fun h => (by cases h), fin := fun h => (by cases h), h10 := fun _ => rfl, o13_10 := fun _ => rfl })
    | 11, _, hi, hib =>
      obtain rfl : b11 = false := by simpa using hib
      obtain rfl : b18 = false := by
        cases hb18 : b18 with
        | false => rfl
        | true => have h := (HT.q hb18).2.2.2.2.2.2.2.2.2.2.2.1; cases h
      have hbel := HT.bel rfl
      have HBE := Lib.hid hbel
      clear HT hbel
      refine wpOp_one rfl rfl (fun K hK => ?_)
      go_simp
      exact hK.out _ _ (.mk b0 b1 b2 b3 b4 b5 b6 b7 b8 b9 b10 true b12 b13 b14 b15 b16 b17 false _ _ _ _ _ _ _ _ _ _ _ _ _ _ _ _ _ _ _ { HTH.out with q := fun h => (by cases h), fin := fun h => (by cases h), h11 := fun _ => rfl, o12_11 := fun _ => rfl })
    | 12, _, hi, hib =>
      obtain rfl : b12 = false := by simpa using hib
      obtain rfl : b18 = false := by
        cases hb18 : b18 with
        | false => rfl
        | true => have h := (HT.q hb18).2.2.2.2.2.2.2.2.2.2.2.2.1; cases h
      have hbel := HT.bel rfl
      have d11 : b11 = true := ready_dep hi rfl 11 (by kernel_rfl)
      have hd11 := HT.h11 d11
      subst hd11
      have HC := Lib.hid (exNeeds0_any (w := w') (g := w.heap.size + 1))
      have HBE := Lib.hid hbel
      clear HT hbel
      refine wpOp_one rfl rfl (fun K hK => ?_)
      go_simp
      go_at_fn 45
      refine HC.out.mono ?_
      rintro e w2 ⟨g, rfl, hp, hb⟩
      exact hK.out _ _ (.mk b0 b1 b2 b3 b4 b5 b6 b7 b8 b9 b10 b11 true b13 b14 b15 b16 b17 false _ _ _ _ _ _ _ _ _ _ _ _ _ _ _ _ _ _ _ { HTH.out with q := fun h => (by cases h), fin := fun h => (by cases h), bel := fun _ => HBE.out.trans (hb.mono HBE.out.size), h12 := fun _ _ => ⟨g, rfl, (ps_turns.go hp (FrM.refl w2 _) (fun b (hb2 : b < W.heap.size) => .inl (by show b < _; have := HBE.out.size; omega)))⟩, o12_11 := fun _ => d11, o13_12 := fun _ => rfl, h13 := fun h => (by have h2 := HTH.out.o13_12 h; cases h2), h4 := fun h hf => (by obtain ⟨g, e, r⟩ := HTH.out.h4 h hf; exact ⟨g, e, rs_turns.kept r hb⟩), h8 := fun h hf => (by obtain ⟨g, e, r⟩ := HTH.out.h8 h hf; exact ⟨g, e, ps_turns.kept r hb⟩), h14 := fun h hf => (by obtain ⟨g, e, r⟩ := HTH.out.h14 h hf; exact ⟨g, e, rs_turns.kept r hb⟩), h16 := fun h hf => (by obtain ⟨g, e, r⟩ := HTH.out.h16 h hf; exact ⟨g, e, ss_turns.kept r hb⟩) })
    | 13, _, hi, hib =>
      obtain rfl : b13 = false := by simpa using hib
      obtain rfl : b18 = false := by
        cases hb18 : b18 with
        | false => rfl
        | true => have h := (HT.q hb18).2.2.2.2.2.2.2.2.2.2.2.2.2.1; cases h
      have hbel := HT.bel rfl
      have d10 : b10 = true := ready_dep hi rfl 10 (by kernel_rfl)
      have d12 : b12 = true := ready_dep hi rfl 12 (by kernel_rfl)
      have hd10 := HT.h10 d10
      subst hd10
      obtain ⟨g12, e12, r12⟩ := HT.h12 d12 rfl
      subst e12
      have HR12 := Lib.hid r12
      clear r12
      have HBE := Lib.hid hbel
      clear HT hbel
      refine wpOp_one rfl rfl (fun K hK => ?_)
      go_simp
      exact hK.out _ _ (.mk b0 b1 b2 b3 b4 b5 b6 b7 b8 b9 b10 b11 b12 true b14 b15 b16 b17 false _ _ _ _ _ _ _ _ _ _ _ _ _ _ _ _ _ _ _ { HTH.out with q := fun h => (by cases h), fin := fun h => (by cases h), h13 := fun _ => rfl, o13_10 := fun _ => d10, o13_12 := fun _ => d12, o14_13 := fun _ => rfl })
    | 14, _, hi, hib =>
      obtain rfl : b14 = false := by simpa using hib
      obtain rfl : b18 = false := by
        cases hb18 : b18 with
        | false => rfl
        | true => have h := (HT.q hb18).2.2.2.2.2.2.2.2.2.2.2.2.2.2.1; cases h
      have hbel := HT.bel rfl
      have d9 : b9 = true := ready_dep hi rfl 9 (by kernel_rfl)
      have d13 : b13 = true := ready_dep hi rfl 13 (by kernel_rfl)
      have d8 : b8 = true := by
        cases hbb : b8 with
        | true => rfl
        | false => exact absurd (HT.o9_8 d9) (by rw [hbb]; decide)
      obtain ⟨g8, e8, r8⟩ := HT.h8 d8 rfl
      subst e8
      have HR8 := Lib.hid r8
      clear r8
      have hd9 := HT.h9 d9
      subst hd9
      have d12 : b12 = true := by
        cases hbb : b12 with
        | true => rfl
        | false => exact absurd (HT.o13_12 d13) (by rw [hbb]; decide)
      obtain ⟨g12, e12, r12⟩ := HT.h12 d12 rfl
      subst e12
      have HR12 := Lib.hid r12
      clear r12
      have hd13 := HT.h13 d13
      subst hd13
      have HBE := Lib.hid hbel
      clear HT hbel
      refine wpOp_one rfl rfl (fun K hK => ?_)
      go_simp
      have hba : Below w'.heap.size w' (w'.alloc (.cells #[.int .i64 1, .int .i64 0, .int .i64 0, .string ⟨#[]⟩, .int .i64 0, .slice (some ⟨g8, 0, none⟩) 1 1, .int .i64 2, .int .i64 0, .int .i64 0, .string ⟨#[]⟩, .int .i64 0, .slice (some ⟨g12, 0, none⟩) 1 1] 42)) := (Below.refl _ w').alloc (Nat.le_refl _) _
      exact hK.out _ _ (.mk b0 b1 b2 b3 b4 b5 b6 b7 b8 b9 b10 b11 b12 b13 true b15 b16 b17 false _ _ _ _ _ _ _ _ _ _ _ _ _ _ _ _ _ _ _ { HTH.out with q := fun h => (by cases h), fin := fun h => (by cases h), bel := fun _ => HBE.out.trans (hba.mono HBE.out.size), h14 := fun _ _ => ⟨w'.heap.size, rfl, rels_two (heap_new w' (.cells #[.int .i64 1, .int .i64 0, .int .i64 0, .string ⟨#[]⟩, .int .i64 0, .slice (some ⟨g8, 0, none⟩) 1 1, .int .i64 2, .int .i64 0, .int .i64 0, .string ⟨#[]⟩, .int .i64 0, .slice (some ⟨g12, 0, none⟩) 1 1] 42)) (by show ¬ _ < _; have := HBE.out.size; omega) (ps_turns.kept HR8.out hba) (ps_turns.kept HR12.out hba)⟩, o14_9 := fun _ => d9, o14_13 := fun _ => d13, o15_14 := fun _ => rfl, h15 := fun h => (by have h2 := HTH.out.o15_14 h; cases h2), h4 := fun h hf => (by obtain ⟨g, e, r⟩ := HTH.out.h4 h hf; exact ⟨g, e, rs_turns.kept r hba⟩), h8 := fun h hf => (by obtain ⟨g, e, r⟩ := HTH.out.h8 h hf; exact ⟨g, e, ps_turns.kept r hba⟩), h12 := fun h hf => (by obtain ⟨g, e, r⟩ := HTH.out.h12 h hf; exact ⟨g, e, ps_turns.kept r hba⟩), h16 := fun h hf => (by obtain ⟨g, e, r⟩ := HTH.out.h16 h hf; exact ⟨g, e, ss_turns.kept r hba⟩) })
    | 15, _, hi, hib =>
      obtain rfl : b15 = false := by simpa using hib
      obtain rfl : b18 = false := by
        cases hb18 : b18 with
        | false => rfl
        | true => have h := (HT.q hb18).2.2.2.2.2.2.2.2.2.2.2.2.2.2.2.1; cases h
      have hbel := HT.bel rfl
      have d14 : b14 = true := ready_dep hi rfl 14 (by kernel_rfl)
      obtain ⟨g14, e14, r14⟩ := HT.h14 d14 rfl
      subst e14
      have HR14 := Lib.hid r14
      clear r14
      have HBE := Lib.hid hbel
      clear HT hbel
      refine wpOp_one rfl rfl (fun K hK => ?_)
      go_simp
      exact hK.out _ _ (.mk b0 b1 b2 b3 b4 b5 b6 b7 b8 b9 b10 b11 b12 b13 b14 true b16 b17 false _ _ _ _ _ _ _ _ _ _ _ _ _ _ _ _ _ _ _ { HTH.out with q := fun h => (by cases h), fin := fun h => (by cases h), h15 := fun _ => rfl, o15_14 := fun _ => d14, o16_15 := fun _ => rfl })
    | 16, _, hi, hib =>
      obtain rfl : b16 = false := by simpa using hib
      obtain rfl : b18 = false := by
        cases hb18 : b18 with
        | false => rfl
        | true => have h := (HT.q hb18).2.2.2.2.2.2.2.2.2.2.2.2.2.2.2.2.1; cases h
      have hbel := HT.bel rfl
      have d5 : b5 = true := ready_dep hi rfl 5 (by kernel_rfl)
      have d15 : b15 = true := ready_dep hi rfl 15 (by kernel_rfl)
      have d4 : b4 = true := by
        cases hbb : b4 with
        | true => rfl
        | false => exact absurd (HT.o5_4 d5) (by rw [hbb]; decide)
      obtain ⟨g4, e4, r4⟩ := HT.h4 d4 rfl
      subst e4
      have HR4 := Lib.hid r4
      clear r4
      have hd5 := HT.h5 d5
      subst hd5
      have d14 : b14 = true := by
        cases hbb : b14 with
        | true => rfl
        | false => exact absurd (HT.o15_14 d15) (by rw [hbb]; decide)
      obtain ⟨g14, e14, r14⟩ := HT.h14 d14 rfl
      subst e14
      have HR14 := Lib.hid r14
      clear r14
      have hd15 := HT.h15 d15
      subst hd15
      have HBE := Lib.hid hbel
      clear HT hbel
      refine wpOp_one rfl rfl (fun K hK => ?_)
      go_simp
      have hba : Below w'.heap.size w' (w'.alloc (.cells #[.string ⟨#[97]⟩, .slice (some ⟨g4, 0, none⟩) 2 2, .string ⟨#[98]⟩, .slice (some ⟨g14, 0, none⟩) 2 2] 36)) := (Below.refl _ w').alloc (Nat.le_refl _) _
      exact hK.out _ _ (.mk b0 b1 b2 b3 b4 b5 b6 b7 b8 b9 b10 b11 b12 b13 b14 b15 true b17 false _ _ _ _ _ _ _ _ _ _ _ _ _ _ _ _ _ _ _ { HTH.out with q := fun h => (by cases h), fin := fun h => (by cases h), bel := fun _ => HBE.out.trans (hba.mono HBE.out.size), h16 := fun _ _ => ⟨w'.heap.size, rfl, svs_two (heap_new w' (.cells #[.string ⟨#[97]⟩, .slice (some ⟨g4, 0, none⟩) 2 2, .string ⟨#[98]⟩, .slice (some ⟨g14, 0, none⟩) 2 2] 36)) (by show ¬ _ < _; have := HBE.out.size; omega) (rs_turns.kept HR4.out hba) (rs_turns.kept HR14.out hba)⟩, o16_5 := fun _ => d5, o16_15 := fun _ => d15, o17_16 := fun _ => rfl, h17 := fun h => (by have h2 := HTH.out.o17_16 h; cases h2), h4 := fun h hf => (by obtain ⟨g, e, r⟩ := HTH.out.h4 h hf; exact ⟨g, e, rs_turns.kept r hba⟩), h8 := fun h hf => (by obtain ⟨g, e, r⟩ := HTH.out.h8 h hf; exact ⟨g, e, ps_turns.kept r hba⟩), h12 := fun h hf => (by obtain ⟨g, e, r⟩ := HTH.out.h12 h hf; exact ⟨g, e, ps_turns.kept r hba⟩), h14 := fun h hf => (by obtain ⟨g, e, r⟩ := HTH.out.h14 h hf; exact ⟨g, e, rs_turns.kept r hba⟩) })
    | 17, _, hi, hib =>
      obtain rfl : b17 = false := by simpa using hib
      obtain rfl : b18 = false := by
        cases hb18 : b18 with
        | false => rfl
        | true => have h := (HT.q hb18).2.2.2.2.2.2.2.2.2.2.2.2.2.2.2.2.2; cases h
      have hbel := HT.bel rfl
      have d16 : b16 = true := ready_dep hi rfl 16 (by kernel_rfl)
      obtain ⟨g16, e16, r16⟩ := HT.h16 d16 rfl
      subst e16
      have HR16 := Lib.hid r16
      clear r16
      have HBE := Lib.hid hbel
      clear HT hbel
      refine wpOp_one rfl rfl (fun K hK => ?_)
      go_simp
      exact hK.out _ _ (.mk b0 b1 b2 b3 b4 b5 b6 b7 b8 b9 b10 b11 b12 b13 b14 b15 b16 true false _ _ _ _ _ _ _ _ _ _ _ _ _ _ _ _ _ _ _ { HTH.out with q := fun h => (by cases h), fin := fun h => (by cases h), h17 := fun _ => rfl, o17_16 := fun _ => d16 })
    | 18, _, hi, hib =>
      obtain rfl : b18 = false := by simpa using hib
      have hbel := HT.bel rfl
      have d17 : b17 = true := ready_dep hi rfl 17 (by kernel_rfl)
      have d16 : b16 = true := by
        cases hbb : b16 with
        | true => rfl
        | false => exact absurd (HT.o17_16 d17) (by rw [hbb]; decide)
      obtain ⟨g16, e16, r16⟩ := HT.h16 d16 rfl
      subst e16
      have HR16 := Lib.hid r16
      clear r16
      have hd17 := HT.h17 d17
      subst hd17
      obtain ⟨p0, pf⟩ := row1f ((hbel.block w.heap.size hz0).trans HH0.out)
      have HBE := Lib.hid hbel
      clear HT hbel
      refine wpOp_one rfl rfl (fun K hK => ?_)
      go_simp
      have hs := grown_set w' w.heap.size 0 (.slice (some ⟨g16, 0, none⟩) 2 2)
      exact hK.out _ _ (.mk b0 b1 b2 b3 b4 b5 b6 b7 b8 b9 b10 b11 b12 b13 b14 b15 b16 b17 true _ _ _ _ _ _ _ _ _ _ _ _ _ _ _ _ _ _ _ { HTH.out with q := fun _ => ⟨(HTH.out.o1_0 (HTH.out.o4_1 (HTH.out.o5_4 (HTH.out.o16_5 (HTH.out.o17_16 d17))))), (HTH.out.o4_1 (HTH.out.o5_4 (HTH.out.o16_5 (HTH.out.o17_16 d17)))), (HTH.out.o3_2 (HTH.out.o4_3 (HTH.out.o5_4 (HTH.out.o16_5 (HTH.out.o17_16 d17))))), (HTH.out.o4_3 (HTH.out.o5_4 (HTH.out.o16_5 (HTH.out.o17_16 d17)))), (HTH.out.o5_4 (HTH.out.o16_5 (HTH.out.o17_16 d17))), (HTH.out.o16_5 (HTH.out.o17_16 d17)), (HTH.out.o9_6 (HTH.out.o14_9 (HTH.out.o15_14 (HTH.out.o16_15 (HTH.out.o17_16 d17))))), (HTH.out.o8_7 (HTH.out.o9_8 (HTH.out.o14_9 (HTH.out.o15_14 (HTH.out.o16_15 (HTH.out.o17_16 d17)))))), (HTH.out.o9_8 (HTH.out.o14_9 (HTH.out.o15_14 (HTH.out.o16_15 (HTH.out.o17_16 d17))))), (HTH.out.o14_9 (HTH.out.o15_14 (HTH.out.o16_15 (HTH.out.o17_16 d17)))), (HTH.out.o13_10 (HTH.out.o14_13 (HTH.out.o15_14 (HTH.out.o16_15 (HTH.out.o17_16 d17))))), (HTH.out.o12_11 (HTH.out.o13_12 (HTH.out.o14_13 (HTH.out.o15_14 (HTH.out.o16_15 (HTH.out.o17_16 d17)))))), (HTH.out.o13_12 (HTH.out.o14_13 (HTH.out.o15_14 (HTH.out.o16_15 (HTH.out.o17_16 d17))))), (HTH.out.o14_13 (HTH.out.o15_14 (HTH.out.o16_15 (HTH.out.o17_16 d17)))), (HTH.out.o15_14 (HTH.out.o16_15 (HTH.out.o17_16 d17))), (HTH.out.o16_15 (HTH.out.o17_16 d17)), (HTH.out.o17_16 d17), d17⟩, bel := fun h => (by cases h), h4 := fun _ h => (by cases h), h8 := fun _ h => (by cases h), h12 := fun _ h => (by cases h), h14 := fun _ h => (by cases h), h16 := fun _ h => (by cases h), fin := fun _ => ⟨g16, World.cell?_setCell_same _ _ _ p0, ss_turns.go HR16.out (FrM.of_grown hs (fun g hg => by injection hg with hg; subst hg; exact hz0)) (fun b (hb2 : b < w.heap.size) => .inl (by show b < _; omega)), ((HBL.out.trans (HBE.out.mono (by omega))).setCell (p := ⟨w.heap.size, 0, none⟩) (Nat.le_refl _) _)⟩ })
  case fin =>
    rintro lq a' w' ⟨b0, b1, b2, b3, b4, b5, b6, b7, b8, b9, b10, b11, b12, b13, b14, b15, b16, b17, b18, v7, v8, v9, v10, v11, v12, v13, v14, v15, v16, v17, v18, v19, v20, v21, v22, v23, v24, _, HT⟩ hr
    obtain rfl : b0 = true := by
      cases b0 with
      | true => rfl
      | false => exact (ready_in 0 rfl rfl (by simp [Region.binds]) hr).elim
    obtain rfl : b1 = true := by
      cases b1 with
      | true => rfl
      | false => exact (ready_in 1 rfl rfl (by simp [Region.binds]) hr).elim
    obtain rfl : b2 = true := by
      cases b2 with
      | true => rfl
      | false => exact (ready_in 2 rfl rfl (by simp [Region.binds]) hr).elim
    obtain rfl : b3 = true := by
      cases b3 with
      | true => rfl
      | false => exact (ready_in 3 rfl rfl (by simp [Region.binds]) hr).elim
    obtain rfl : b4 = true := by
      cases b4 with
      | true => rfl
      | false => exact (ready_in 4 rfl rfl (by simp [Region.binds]) hr).elim
    obtain rfl : b5 = true := by
      cases b5 with
      | true => rfl
      | false => exact (ready_in 5 rfl rfl (by simp [Region.binds]) hr).elim
    obtain rfl : b6 = true := by
      cases b6 with
      | true => rfl
      | false => exact (ready_in 6 rfl rfl (by simp [Region.binds]) hr).elim
    obtain rfl : b7 = true := by
      cases b7 with
      | true => rfl
      | false => exact (ready_in 7 rfl rfl (by simp [Region.binds]) hr).elim
    obtain rfl : b8 = true := by
      cases b8 with
      | true => rfl
      | false => exact (ready_in 8 rfl rfl (by simp [Region.binds]) hr).elim
    obtain rfl : b9 = true := by
      cases b9 with
      | true => rfl
      | false => exact (ready_in 9 rfl rfl (by simp [Region.binds]) hr).elim
    obtain rfl : b10 = true := by
      cases b10 with
      | true => rfl
      | false => exact (ready_in 10 rfl rfl (by simp [Region.binds]) hr).elim
    obtain rfl : b11 = true := by
      cases b11 with
      | true => rfl
      | false => exact (ready_in 11 rfl rfl (by simp [Region.binds]) hr).elim
    obtain rfl : b12 = true := by
      cases b12 with
      | true => rfl
      | false => exact (ready_in 12 rfl rfl (by simp [Region.binds]) hr).elim
    obtain rfl : b13 = true := by
      cases b13 with
      | true => rfl
      | false => exact (ready_in 13 rfl rfl (by simp [Region.binds]) hr).elim
    obtain rfl : b14 = true := by
      cases b14 with
      | true => rfl
      | false => exact (ready_in 14 rfl rfl (by simp [Region.binds]) hr).elim
    obtain rfl : b15 = true := by
      cases b15 with
      | true => rfl
      | false => exact (ready_in 15 rfl rfl (by simp [Region.binds]) hr).elim
    obtain rfl : b16 = true := by
      cases b16 with
      | true => rfl
      | false => exact (ready_in 16 rfl rfl (by simp [Region.binds]) hr).elim
    obtain rfl : b17 = true := by
      cases b17 with
      | true => rfl
      | false => exact (ready_in 17 rfl rfl (by simp [Region.binds]) hr).elim
    obtain rfl : b18 = true := by
      cases b18 with
      | true => rfl
      | false => exact (ready_in 18 rfl rfl (by simp [Region.binds]) hr).elim
    have HF := Lib.hid (HT.fin rfl)
    clear HT hr
    obtain ⟨g, hc, hs, hb⟩ := HF.out
    go_wp2_with fail
    refine bodyPost_ret (v := .agg #[.slice (some ⟨g, 0, none⟩) 2 2]) ?_ rfl ⟨g, rfl, hs, hb⟩
    simp [results, Try.results24, go_sem, hc]
end Go.Proofs.Yteiknbkigbdfgaa

namespace Go.Proofs.Yteiknbkigbdfgaa
open Go.RowKit
open SemP FlP GaP DiP
set_option linter.unusedVariables false
set_option linter.unusedSimpArgs false
set_option maxRecDepth 10000
theorem ex_setB : setB exL [1, 1] = true := by decide +kernel
theorem ex_fit0 : fitsC exL 0 1 1 0 = false := by decide +kernel
theorem ex_fit1 : fitsC exL 0 1 1 1 = true := by decide +kernel
theorem ex_link : linkC exL 0 1 = true := by decide +kernel
theorem ex_good : goodC exL (setL exL [1, 1]) = true := by decide +kernel
theorem ex_set : setL exL [1, 1] = [(1, 0), (1, 0)] := by decide +kernel
set_option maxHeartbeats 16000000 in
theorem canchor_any (w : World) (hm : LenAt w) (h1 : 1 < w.heap.size) :
    Calls Try.prog 9 #[] w fun e w' => e = .returned (.bool true) ∧ Below w.heap.size w w' := by
  have HM := Lib.hid (And.intro hm h1)
  clear hm h1
  go_enter Try.func9, Try.ntmps9
  go_wp2_with fail
  refine (example_any w).mono ?_
  rintro e w1 ⟨g, rfl, hss, hb1⟩
  obtain ⟨hcap, hrd⟩ := ss_turns.go hss (FrM.refl w1 _) (M' := fun b => w1.heap.size ≤ b) (fun b hb => .inr hb) |> ssI.rd
  obtain ⟨W, HW⟩ : ∃ W, Hid (W = w1.alloc (.cells #[.slice (some ⟨g, 0, none⟩) 2 2] 24)) := ⟨_, Lib.hid rfl⟩
  have hbW : Below w1.heap.size w1 W := by rw [HW.out]; exact (Below.refl _ w1).alloc (Nat.le_refl _) _
  have H0 : Hid (W.heap[w1.heap.size]? = some (.cells #[.slice (some ⟨g, 0, none⟩) 2 2] 24 (0, 0))) := Lib.hid (by rw [HW.out]; exact heap_new w1 _)
  have hl1 := LenAt.below HM.out.1 HM.out.2 hb1
  have hA1 : CatAt w1 w1.heap.size (some ⟨g, 0, none⟩) 2 2 exL := ⟨hrd, hcap, Nat.le_refl _, ex_sm, hl1.1, hl1.2⟩
  have HA := Lib.hid (hA1.below hbW)
  have HB := Lib.hid (hb1.trans (hbW.mono hb1.size))
  clear hss hb1 hcap hrd hbW hl1 hA1
  go_upto_region 2 with fail
  change Code.wp _ _ _ _ (w1.alloc (.cells #[.slice (some ⟨g, 0, none⟩) 2 2] 24))
  rw [← HW.out]
  obtain ⟨x0, _⟩ := row1f H0.out
  have HCK := Lib.hid (check_any HA.out)
  go_wp2_with fail
  refine HCK.out.mono ?_
  rintro e w2 ⟨rfl, hb⟩
  rw [ex_chk]
  have HB2 : Hid (Below w.heap.size w w2) := Lib.hid (HB.out.trans (hb.mono HB.out.size))
  have HA2 := Lib.hid (HA.out.below hb)
  have K2 : Hid (w2.heap[w1.heap.size]? = _) := Lib.hid ((hb.block w1.heap.size (heapE_lt H0.out)).trans H0.out)
  clear hb x0 HCK
  unfold t3V
  obtain ⟨x0, _⟩ := row1f K2.out
  obtain ⟨W3, HW3⟩ : ∃ W3, Hid (W3 = w2.alloc (.cells #[.int .i64 1, .int .i64 1] 3)) := ⟨_, Lib.hid rfl⟩
  have hb3 : Below w2.heap.size w2 W3 := by rw [HW3.out]; exact (Below.refl _ w2).alloc (Nat.le_refl _) _
  have hown : Own W3 w2.heap.size (.slice (some ⟨w2.heap.size, 0, none⟩) 2 2) 2 [1, 1] := by rw [HW3.out]; exact Own.lit w2 w2.heap.size [1, 1] (Nat.le_refl _) (by decide)
  have hrd3 : Rd W3 W3.heap.size (some ⟨w2.heap.size, 0, none⟩) 2 [1, 1] := Rd.of_own hown
  have HST := Lib.hid (settled_any (c2 := 2) (HA2.out.below hb3) ex_lev hrd3 (Nat.le_refl _) (by omega))
  have HB3 : Hid (Below w.heap.size w W3) := Lib.hid (HB2.out.trans (hb3.mono HB2.out.size))
  have HA3 := Lib.hid (HA2.out.below hb3)
  have K3 : Hid (W3.heap[w1.heap.size]? = _) := Lib.hid ((hb3.block w1.heap.size (heapE_lt K2.out)).trans K2.out)
  clear hb3 hown hrd3
  go_wp2_with fail
  try rw [← HW3.out]
  refine HST.out.mono ?_
  rintro e w4 ⟨hb, ho⟩
  obtain ⟨_, A', c', rfl, hown⟩ | ⟨hno, _⟩ := ho
  rotate_left
  · rw [ex_setB] at hno; cases hno
  have HB4 : Hid (Below w.heap.size w w4) := Lib.hid (HB3.out.trans (hb.mono HB3.out.size))
  have HA4 := Lib.hid (HA3.out.below hb)
  have K4 : Hid (w4.heap[w1.heap.size]? = _) := Lib.hid ((hb.block w1.heap.size (heapE_lt K3.out)).trans K3.out)
  have HO4 := Lib.hid hown
  clear hb hown HST x0
  obtain ⟨x0, _⟩ := row1f K4.out
  have HF0 := Lib.hid (fits_any (i := 0) (v := 1) (j := 1) (x := 0) HA4.out)
  go_wp2_with fail
  refine HF0.out.mono ?_
  rintro e w5 ⟨rfl, hb⟩
  rw [ex_fit0]
  have HB5 : Hid (Below w.heap.size w w5) := Lib.hid (HB4.out.trans (hb.mono HB4.out.size))
  have HA5 := Lib.hid (HA4.out.below hb)
  have K5 : Hid (w5.heap[w1.heap.size]? = _) := Lib.hid ((hb.block w1.heap.size (heapE_lt K4.out)).trans K4.out)
  have HO5 := Lib.hid (HO4.out.kept hb)
  clear hb x0 HF0
  obtain ⟨x0, _⟩ := row1f K5.out
  have HF1 := Lib.hid (fits_any (i := 0) (v := 1) (j := 1) (x := 1) HA5.out)
  go_wp2_with fail
  refine HF1.out.mono ?_
  rintro e w6 ⟨rfl, hb⟩
  rw [ex_fit1]
  have HB6 : Hid (Below w.heap.size w w6) := Lib.hid (HB5.out.trans (hb.mono HB5.out.size))
  have HA6 := Lib.hid (HA5.out.below hb)
  have K6 : Hid (w6.heap[w1.heap.size]? = _) := Lib.hid ((hb.block w1.heap.size (heapE_lt K5.out)).trans K5.out)
  have HO6 := Lib.hid (HO5.out.kept hb)
  clear hb x0 HF1
  obtain ⟨x0, _⟩ := row1f K6.out
  have HL := Lib.hid (linked_any (i := 0) (j := 1) HA6.out)
  go_wp2_with fail
  refine HL.out.mono ?_
  rintro e w7 ⟨rfl, hb⟩
  rw [ex_link]
  have HB7 : Hid (Below w.heap.size w w7) := Lib.hid (HB6.out.trans (hb.mono HB6.out.size))
  have HA7 := Lib.hid (HA6.out.below hb)
  have K7 : Hid (w7.heap[w1.heap.size]? = _) := Lib.hid ((hb.block w1.heap.size (heapE_lt K6.out)).trans K6.out)
  have HO7 := Lib.hid (HO6.out.kept hb)
  clear hb x0 HL
  obtain ⟨x0, _⟩ := row1f K7.out
  have HG := Lib.hid (good_any (c2 := c') HA7.out ex_lev HO7.out.rd (Nat.le_refl _) (by omega) (fun k hk => by
    rw [ex_set]
    have hk2 : k = 0 ∨ k = 1 := by omega
    rcases hk2 with rfl | rfl <;> exact ⟨by decide, by decide⟩))
  go_wp2_with fail
  refine HG.out.mono ?_
  rintro e w8 ⟨rfl, hb⟩
  rw [ex_good]
  have HB8 : Hid (Below w.heap.size w w8) := Lib.hid (HB7.out.trans (hb.mono HB7.out.size))
  clear hb x0 HG
  go_wp2_with fail
  refine bodyPost_ret (results_tmp rfl _ _ _) rfl ⟨rfl, HB8.out⟩
end Go.Proofs.Yteiknbkigbdfgaa
