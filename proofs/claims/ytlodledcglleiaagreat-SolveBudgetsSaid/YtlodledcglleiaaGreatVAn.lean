/-
  THE STATEMENTS' EXAMPLE OF A REQUEST.
-/
import Derived.Test.YtlodledcglleiaaGreatCEx
import Derived.Test.YtlodledcglleiaaGreatVSa
import Derived.Test.YtlodledcglleiaaGreatVPl
namespace Go.Proofs.YtlodledcglleiaaGreat
open Go.RowKit
open SemP FlP GaP DiP SeaP
set_option linter.unusedVariables false
set_option linter.unusedSimpArgs false
set_option maxRecDepth 10000
def cvA (op a : Int) : CV := ⟨op, a, 0, 0, ⟨#[]⟩⟩
theorem rg_blocks {w : World} {M : Nat → Prop} {a b : Nat} {x : CV} {E1 E2 : TypeId} (h1 : w.heap[a]? = some (.cells (c5 x).toArray E1 (0, 0))) (h2 : w.heap[b]? = some (.cells #[.slice (some ⟨a, 0, none⟩) 1 1] E2 (0, 0))) (ha : ¬ M a) (hb : ¬ M b) : rgI w M [.slice (some ⟨b, 0, none⟩) 1 1] [[x]] := by
  have g1 : liI w M [.slice (some ⟨a, 0, none⟩) 1 1] [x] := SlI.of_block h1 ha rfl (by omega) (fun j hj => by
    obtain rfl : j = 0 := by omega
    exact ⟨c5 x, rfl, fun i u hu => by rw [Nat.zero_mul, Nat.zero_add]; simpa using hu, rfl⟩)
  exact SlI.of_block h2 hb rfl (by omega) (fun j hj => by
    obtain rfl : j = 0 := by omega
    exact ⟨[.slice (some ⟨a, 0, none⟩) 1 1], rfl, fun i u hu => by rw [Nat.zero_mul, Nat.zero_add]; simpa using hu, g1⟩)
theorem nd_one {w : World} {M : Nat → Prop} {a c : Nat} {x : List (List CV)} {E : TypeId} (hc : w.heap[c]? = some (.cells #[.int .i64 0, .slice (some ⟨a, 0, none⟩) 1 1] E (0, 0))) (hM : ¬ M c) (h : rgI w M [.slice (some ⟨a, 0, none⟩) 1 1] x) : psI w M [.slice (some ⟨c, 0, none⟩) 1 1] [(0, x)] :=
  SlI.of_block hc hM rfl (by omega) (fun j hj => by
    obtain rfl : j = 0 := by omega
    exact ⟨[.int .i64 0, .slice (some ⟨a, 0, none⟩) 1 1], rfl, fun i u hu => by rw [Nat.zero_mul, Nat.zero_add]; simpa using hu, [.int .i64 0], [.slice (some ⟨a, 0, none⟩) 1 1], rfl, rfl, h⟩)
set_option maxHeartbeats 8000000 in
theorem anc1_any (op a b c : Int) (s : ByteArray) (w : World) :
    Calls Tryz.prog 35 #[.int .i64 op, .agg #[.int .i64 a, .int .i64 b, .int .i64 c, .string s]] w fun e w' => ∃ g, e = .returned (.agg #[.slice (some ⟨g, 0, none⟩) 1 1]) ∧ rgI w' (fun b => b < w.heap.size) [.slice (some ⟨g, 0, none⟩) 1 1] [[⟨op, a, b, c, s⟩]] ∧ Below w.heap.size w w' := by
  obtain ⟨W, HW⟩ : ∃ W, Hid (W = ((((w.alloc (.cells #[.int .i64 a, .int .i64 b, .int .i64 c, .string s] 81)).alloc (.cells #[.slice (some ⟨w.heap.size + 1 + 1 + 1, 0, none⟩) 1 1] 84)).alloc (.cells (c5 ⟨op, a, b, c, s⟩).toArray 86)).alloc (.cells #[.slice (some ⟨w.heap.size + 1 + 1, 0, none⟩) 1 1] 87))) := ⟨_, Lib.hid rfl⟩
  obtain ⟨h0, h1, h2, h3, hbl, hz⟩ := alloc4b w (.cells #[.int .i64 a, .int .i64 b, .int .i64 c, .string s] 81) (.cells #[.slice (some ⟨w.heap.size + 1 + 1 + 1, 0, none⟩) 1 1] 84) (.cells (c5 ⟨op, a, b, c, s⟩).toArray 86) (.cells #[.slice (some ⟨w.heap.size + 1 + 1, 0, none⟩) 1 1] 87)
  rw [← HW.out] at h0 h1 h2 h3 hbl hz
  have HR : Hid (rgI W (fun b => b < w.heap.size) [.slice (some ⟨w.heap.size + 1 + 1 + 1, 0, none⟩) 1 1] [[⟨op, a, b, c, s⟩]] ∧ Below w.heap.size w W) := Lib.hid ⟨rg_blocks h2 h3 (by omega) (by omega), hbl⟩
  clear h0 h1 h2 h3 hbl hz
  go_enter Tryz.func35, Tryz.ntmps35
  go_wp2_with fail
  refine bodyPost_ret (v := .agg #[.slice (some ⟨w.heap.size + 1 + 1 + 1, 0, none⟩) 1 1]) ?_ rfl ⟨w.heap.size + 1 + 1 + 1, rfl, ?_⟩
  · simp [results, Tryz.results35, go_sem]
  · have := HR.out; rw [HW.out] at this; exact this
theorem enters_anc1 : ∀ args w, (callFunc 35 args).run Tryz.prog w = .ok (.enter 35 args) w := enters_of Tryz.func35 (by kernel_rfl) rfl
theorem infoPinS : (Tryz.prog.info? 97).map (fun i => (i.zero, i.size, i.bytes)) = some (some (.agg #[.int .i64 0, .slice none 0 0]), 2, 32) := by kernel_rfl
theorem pin_own {w : World} {base a : Nat} {k : Int} {x : List (List CV)} (hb : base ≤ w.heap.size) (h : rgI w (fun b => b < base) [.slice (some ⟨a, 0, none⟩) 1 1] x) : OwnJ 97 2 pnI (w.alloc (.cells #[.int .i64 k, .slice (some ⟨a, 0, none⟩) 1 1] 97)) base (.slice (some ⟨w.heap.size, 0, none⟩) 1 1) [(k, x)] := by
  have hl := World.ownsRow_lit (base := base) (e := 97) (size := 2) w #[.int .i64 k, .slice (some ⟨a, 0, none⟩) 1 1] 1 hb (by unfold maxLen; omega) (by simp)
  refine ⟨[.int .i64 k, .slice (some ⟨a, 0, none⟩) 1 1], by simpa using hl, fun j hj => ?_⟩
  obtain rfl : j = 0 := by simpa using hj
  refine ⟨[.int .i64 k, .slice (some ⟨a, 0, none⟩) 1 1], rfl, fun i u hu => by rw [Nat.zero_mul, Nat.zero_add]; exact hu, [.int .i64 k], [.slice (some ⟨a, 0, none⟩) 1 1], rfl, rfl, rg_turns.go h (FrM.of_grown (row := none) (grown_alloc1 w _ none) (fun g hg => by cases hg)) (fun b hb2 => ?_)⟩
  rcases hb2 with hb2 | hb2
  · have h1 : some w.heap.size = some b := hb2
    injection h1 with h1
    exact .inr (by omega)
  · exact .inl hb2
theorem sm_one (op a : Int) : SmR [[cvA op a]] := by
  refine ⟨by show 1 ≤ 12; omega, fun l hl => ?_⟩
  obtain rfl : l = [cvA op a] := by simpa using hl
  refine ⟨by show 1 ≤ 12; omega, fun x hx => ?_⟩
  obtain rfl : x = cvA op a := by simpa using hx
  exact Nat.zero_le _
theorem ex_sol1 : solR exL [0, 0] [] [0, 0] 100 = ([1, 1], 0) := by decide +kernel
theorem ex_sol2 : solR exL [0, 0] [(1, [[cvA 1 1]])] [0, 0] 100 = ([0, 0], 0) := by decide +kernel
theorem ex_sol3 : solR exL [0, 0] [(1, [[cvA 1 1]]), (0, [[cvA 1 2]])] [0, 0] 100 = ([], 40) := by decide +kernel
structure AncSt (w W : World) (b0 b1 b2 b3 b4 b5 b6 b7 b8 b9 b10 b11 b12 b13 b14 b15 b16 b17 b18 b19 b20 b21 b22 b23 b24 b25 : Bool) (v14 v15 v16 v17 v18 v19 v20 v21 v22 v23 v24 v25 v26 v27 v28 v29 v30 v31 v32 v33 v34 v35 v36 v37 v4 : Value) (w' : World) : Prop where
  q : b25 = true → b0 = true ∧ b1 = true ∧ b2 = true ∧ b3 = true ∧ b4 = true ∧ b5 = true ∧ b6 = true ∧ b7 = true ∧ b8 = true ∧ b9 = true ∧ b10 = true ∧ b11 = true ∧ b12 = true ∧ b13 = true ∧ b14 = true ∧ b15 = true ∧ b16 = true ∧ b17 = true ∧ b18 = true ∧ b19 = true ∧ b20 = true ∧ b21 = true ∧ b22 = true ∧ b23 = true ∧ b24 = true
  bel : b25 = false → Below W.heap.size W w'
  nb : b24 = false → v4 = undef
  bx : ∀ b, v4 = .pointer (some ⟨b, 0, none⟩) → b < w'.heap.size
  h0 : b0 = true → v14 = .agg #[.int .i64 1, .int .i64 0, .int .i64 0, .string ⟨#[]⟩]
  h1 : b1 = true → v15 = .agg #[.int .i64 1, .int .i64 0, .int .i64 0, .string ⟨#[]⟩, .int .i64 0, .slice none 0 0]
  h2 : b2 = true → v16 = .agg #[.int .i64 2, .int .i64 0, .int .i64 0, .string ⟨#[]⟩]
  h3 : b3 = true → v17 = .agg #[.int .i64 2, .int .i64 0, .int .i64 0, .string ⟨#[]⟩, .int .i64 0, .slice none 0 0]
  h4 : b4 = true → b25 = false → ∃ g, v18 = .slice (some ⟨g, 0, none⟩) 2 2 ∧ rsI w' (fun b => b < W.heap.size ∨ v4 = .pointer (some ⟨b, 0, none⟩)) [.slice (some ⟨g, 0, none⟩) 2 2] exA
  h5 : b5 = true → b25 = false → ∃ g, v19 = .agg #[.string ⟨#[97]⟩, .slice (some ⟨g, 0, none⟩) 2 2] ∧ rsI w' (fun b => b < W.heap.size ∨ v4 = .pointer (some ⟨b, 0, none⟩)) [.slice (some ⟨g, 0, none⟩) 2 2] exA
  h6 : b6 = true → v20 = .agg #[.int .i64 1, .int .i64 0, .int .i64 0, .string ⟨#[]⟩]
  h7 : b7 = true → v21 = .func (.func 35) #[] #[]
  h8 : b8 = true → v22 = .agg #[.int .i64 1, .int .i64 0, .int .i64 0, .string ⟨#[]⟩]
  h9 : b9 = true → b25 = false → ∃ g, v23 = .agg #[.slice (some ⟨g, 0, none⟩) 1 1] ∧ rgI w' (fun b => b < W.heap.size ∨ v4 = .pointer (some ⟨b, 0, none⟩)) [.slice (some ⟨g, 0, none⟩) 1 1] [[cvA 6 1]]
  h10 : b10 = true → b25 = false → ∃ g, v24 = .agg #[.int .i64 0, .slice (some ⟨g, 0, none⟩) 1 1] ∧ rgI w' (fun b => b < W.heap.size ∨ v4 = .pointer (some ⟨b, 0, none⟩)) [.slice (some ⟨g, 0, none⟩) 1 1] [[cvA 6 1]]
  h11 : b11 = true → b25 = false → ∃ g, v25 = .slice (some ⟨g, 0, none⟩) 1 1 ∧ psI w' (fun b => b < W.heap.size ∨ v4 = .pointer (some ⟨b, 0, none⟩)) [.slice (some ⟨g, 0, none⟩) 1 1] (nd1 6)
  h12 : b12 = true → b25 = false → ∃ g, v26 = .agg #[.int .i64 1, .int .i64 0, .int .i64 0, .string ⟨#[]⟩, .int .i64 0, .slice (some ⟨g, 0, none⟩) 1 1] ∧ psI w' (fun b => b < W.heap.size ∨ v4 = .pointer (some ⟨b, 0, none⟩)) [.slice (some ⟨g, 0, none⟩) 1 1] (nd1 6)
  h13 : b13 = true → v27 = .agg #[.int .i64 2, .int .i64 0, .int .i64 0, .string ⟨#[]⟩]
  h14 : b14 = true → v28 = .func (.func 35) #[] #[]
  h15 : b15 = true → v29 = .agg #[.int .i64 0, .int .i64 0, .int .i64 0, .string ⟨#[]⟩]
  h16 : b16 = true → b25 = false → ∃ g, v30 = .agg #[.slice (some ⟨g, 0, none⟩) 1 1] ∧ rgI w' (fun b => b < W.heap.size ∨ v4 = .pointer (some ⟨b, 0, none⟩)) [.slice (some ⟨g, 0, none⟩) 1 1] [[cvA 0 0]]
  h17 : b17 = true → b25 = false → ∃ g, v31 = .agg #[.int .i64 0, .slice (some ⟨g, 0, none⟩) 1 1] ∧ rgI w' (fun b => b < W.heap.size ∨ v4 = .pointer (some ⟨b, 0, none⟩)) [.slice (some ⟨g, 0, none⟩) 1 1] [[cvA 0 0]]
  h18 : b18 = true → b25 = false → ∃ g, v32 = .slice (some ⟨g, 0, none⟩) 1 1 ∧ psI w' (fun b => b < W.heap.size ∨ v4 = .pointer (some ⟨b, 0, none⟩)) [.slice (some ⟨g, 0, none⟩) 1 1] (nd1 0)
  h19 : b19 = true → b25 = false → ∃ g, v33 = .agg #[.int .i64 2, .int .i64 0, .int .i64 0, .string ⟨#[]⟩, .int .i64 0, .slice (some ⟨g, 0, none⟩) 1 1] ∧ psI w' (fun b => b < W.heap.size ∨ v4 = .pointer (some ⟨b, 0, none⟩)) [.slice (some ⟨g, 0, none⟩) 1 1] (nd1 0)
  h20 : b20 = true → b25 = false → ∃ g, v34 = .slice (some ⟨g, 0, none⟩) 2 2 ∧ rsI w' (fun b => b < W.heap.size ∨ v4 = .pointer (some ⟨b, 0, none⟩)) [.slice (some ⟨g, 0, none⟩) 2 2] exB
  h21 : b21 = true → b25 = false → ∃ g, v35 = .agg #[.string ⟨#[98]⟩, .slice (some ⟨g, 0, none⟩) 2 2] ∧ rsI w' (fun b => b < W.heap.size ∨ v4 = .pointer (some ⟨b, 0, none⟩)) [.slice (some ⟨g, 0, none⟩) 2 2] exB
  h22 : b22 = true → b25 = false → ∃ g, v36 = .slice (some ⟨g, 0, none⟩) 2 2 ∧ ssI w' (fun b => b < W.heap.size ∨ v4 = .pointer (some ⟨b, 0, none⟩)) [.slice (some ⟨g, 0, none⟩) 2 2] exL
  h23 : b23 = true → b25 = false → ∃ g, v37 = .agg #[.slice (some ⟨g, 0, none⟩) 2 2] ∧ ssI w' (fun b => b < W.heap.size ∨ v4 = .pointer (some ⟨b, 0, none⟩)) [.slice (some ⟨g, 0, none⟩) 2 2] exL
  h24 : b24 = true → b25 = false → ∃ g, v4 = .pointer (some ⟨g, 0, none⟩) ∧ w'.heap[g]? = some (.cells #[.slice none 0 0] 24) ∧ W.heap.size ≤ g
  o1_0 : b1 = true → b0 = true
  o3_2 : b3 = true → b2 = true
  o4_1 : b4 = true → b1 = true
  o4_3 : b4 = true → b3 = true
  o5_4 : b5 = true → b4 = true
  o9_7 : b9 = true → b7 = true
  o9_8 : b9 = true → b8 = true
  o10_9 : b10 = true → b9 = true
  o11_10 : b11 = true → b10 = true
  o12_6 : b12 = true → b6 = true
  o12_11 : b12 = true → b11 = true
  o16_14 : b16 = true → b14 = true
  o16_15 : b16 = true → b15 = true
  o17_16 : b17 = true → b16 = true
  o18_17 : b18 = true → b17 = true
  o19_13 : b19 = true → b13 = true
  o19_18 : b19 = true → b18 = true
  o20_12 : b20 = true → b12 = true
  o20_19 : b20 = true → b19 = true
  o21_20 : b21 = true → b20 = true
  o22_5 : b22 = true → b5 = true
  o22_21 : b22 = true → b21 = true
  o23_22 : b23 = true → b22 = true
  fin : b25 = true → ∃ g gb, v4 = .pointer (some ⟨gb, 0, none⟩) ∧ w'.heap[gb]? = some (.cells #[.slice (some ⟨g, 0, none⟩) 2 2] 24 (0, 0)) ∧ W.heap.size ≤ gb ∧ ssI w' (fun b => b < W.heap.size) [.slice (some ⟨g, 0, none⟩) 2 2] exL ∧ Below W.heap.size W w'
inductive AncJ (w W : World) (p0 p1 p2 p3 p5 p6 p7 p8 p9 p10 p11 p12 p13 p38 p39 p40 p41 p42 p43 p44 p45 p46 p47 p48 p49 p50 p51 p52 p53 p54 p55 p56 p57 p58 p59 p60 p61 p62 p63 p64 p65 p66 p67 p68 p69 p70 p71 p72 p73 p74 p75 p76 p77 p78 p79 p80 p81 p82 p83 p84 p85 p86 p87 p88 p89 p90 p91 p92 p93 p94 p95 : Value) : Array Bool → Act → World → Prop where
  | mk (b0 b1 b2 b3 b4 b5 b6 b7 b8 b9 b10 b11 b12 b13 b14 b15 b16 b17 b18 b19 b20 b21 b22 b23 b24 b25 : Bool) (v14 v15 v16 v17 v18 v19 v20 v21 v22 v23 v24 v25 v26 v27 v28 v29 v30 v31 v32 v33 v34 v35 v36 v37 v4 : Value) (w' : World) : AncSt w W b0 b1 b2 b3 b4 b5 b6 b7 b8 b9 b10 b11 b12 b13 b14 b15 b16 b17 b18 b19 b20 b21 b22 b23 b24 b25 v14 v15 v16 v17 v18 v19 v20 v21 v22 v23 v24 v25 v26 v27 v28 v29 v30 v31 v32 v33 v34 v35 v36 v37 v4 w' → AncJ w W p0 p1 p2 p3 p5 p6 p7 p8 p9 p10 p11 p12 p13 p38 p39 p40 p41 p42 p43 p44 p45 p46 p47 p48 p49 p50 p51 p52 p53 p54 p55 p56 p57 p58 p59 p60 p61 p62 p63 p64 p65 p66 p67 p68 p69 p70 p71 p72 p73 p74 p75 p76 p77 p78 p79 p80 p81 p82 p83 p84 p85 p86 p87 p88 p89 p90 p91 p92 p93 p94 p95 #[b0, b1, b2, b3, b4, b5, b6, b7, b8, b9, b10, b11, b12, b13, b14, b15, b16, b17, b18, b19, b20, b21, b22, b23, b24, b25] { tmps := List.toArray (p0 :: p1 :: p2 :: p3 :: v4 :: p5 :: p6 :: p7 :: p8 :: p9 :: p10 :: p11 :: p12 :: p13 :: v14 :: v15 :: v16 :: v17 :: v18 :: v19 :: v20 :: v21 :: v22 :: v23 :: v24 :: v25 :: v26 :: v27 :: v28 :: v29 :: v30 :: v31 :: v32 :: v33 :: v34 :: v35 :: v36 :: v37 :: p38 :: p39 :: p40 :: p41 :: p42 :: p43 :: p44 :: p45 :: p46 :: p47 :: p48 :: p49 :: p50 :: p51 :: p52 :: p53 :: p54 :: p55 :: p56 :: p57 :: p58 :: p59 :: p60 :: p61 :: p62 :: p63 :: p64 :: p65 :: p66 :: p67 :: p68 :: p69 :: p70 :: p71 :: p72 :: p73 :: p74 :: p75 :: p76 :: p77 :: p78 :: p79 :: p80 :: p81 :: p82 :: p83 :: p84 :: p85 :: p86 :: p87 :: p88 :: p89 :: p90 :: p91 :: p92 :: p93 :: p94 :: p95 :: []), defers := [] } w'
structure A8St (Y : World) (qb pg bs : Nat) (M2 : Option Addr) (b0 b1 b2 b3 b4 b5 b6 b7 b8 b9 : Bool) (v60 v61 v62 v63 v64 v65 v66 v67 v68 : Value) (w' : World) : Prop where
  q9 : b9 = true → b0 = true ∧ b1 = true ∧ b2 = true ∧ b3 = true ∧ b4 = true ∧ b5 = true ∧ b6 = true ∧ b7 = true ∧ b8 = true
  q7 : b7 = true → b0 = true ∧ b1 = true ∧ b2 = true ∧ b3 = true ∧ b4 = true ∧ b5 = true ∧ b6 = true
  bel : b7 = false → Below Y.heap.size Y w'
  h0 : b0 = true → v60 = .pointer (some ⟨qb, 0, none⟩)
  h1 : b1 = true → v61 = .slice (some ⟨pg, 0, none⟩) 1 1
  h2 : b2 = true → v62 = .func (.func 35) #[] #[]
  h3 : b3 = true → v63 = .agg #[.int .i64 2, .int .i64 0, .int .i64 0, .string ⟨#[]⟩]
  h4 : b4 = true → b7 = false → ∃ g, v64 = .agg #[.slice (some ⟨g, 0, none⟩) 1 1] ∧ rgI w' (fun b => b < Y.heap.size) [.slice (some ⟨g, 0, none⟩) 1 1] [[cvA 1 2]]
  h5 : b5 = true → b7 = false → ∃ g, v65 = .agg #[.int .i64 0, .slice (some ⟨g, 0, none⟩) 1 1] ∧ rgI w' (fun b => b < Y.heap.size) [.slice (some ⟨g, 0, none⟩) 1 1] [[cvA 1 2]]
  h6 : b6 = true → b7 = false → ∃ g g2, v66 = .slice (some ⟨g, 0, none⟩) 1 1 ∧ w'.heap[g]? = some (.cells #[.int .i64 0, .slice (some ⟨g2, 0, none⟩) 1 1] 97 (0, 0)) ∧ rgI w' (fun b => b < Y.heap.size) [.slice (some ⟨g2, 0, none⟩) 1 1] [[cvA 1 2]]
  h7 : b7 = true → b9 = false → ∃ g c, v67 = .slice (some ⟨g, 0, none⟩) 2 c ∧ OwnJ 97 2 pnI w' bs (.slice (some ⟨g, 0, none⟩) 2 c) [(1, [[cvA 1 1]]), (0, [[cvA 1 2]])] ∧ w'.heap[qb]? = some (.cells #[.slice (some ⟨pg, 0, none⟩) 1 1, .slice M2 2 2] 46 (0, 0)) ∧ Below bs Y w' ∧ FrM Y w' (fun b => b = qb ∨ b = pg)
  h8 : b8 = true → v68 = .pointer (some ⟨qb, 0, none⟩)
  o1_0 : b1 = true → b0 = true
  o4_2 : b4 = true → b2 = true
  o4_3 : b4 = true → b3 = true
  o5_4 : b5 = true → b4 = true
  o6_5 : b6 = true → b5 = true
  o7_1 : b7 = true → b1 = true
  o7_6 : b7 = true → b6 = true
  fin : b9 = true → ∃ g c, OwnJ 97 2 pnI w' bs (.slice (some ⟨g, 0, none⟩) 2 c) [(1, [[cvA 1 1]]), (0, [[cvA 1 2]])] ∧ w'.heap[qb]? = some (.cells #[.slice (some ⟨g, 0, none⟩) 2 c, .slice M2 2 2] 46 (0, 0)) ∧ Below qb Y w' ∧ FrM Y w' (fun b => b = qb ∨ b = pg)
inductive A8J (Y : World) (qb pg bs : Nat) (M2 : Option Addr) (p0 p1 p2 p3 p4 p5 p6 p7 p8 p9 p10 p11 p12 p13 p14 p15 p16 p17 p18 p19 p20 p21 p22 p23 p24 p25 p26 p27 p28 p29 p30 p31 p32 p33 p34 p35 p36 p37 p38 p39 p40 p41 p42 p43 p44 p45 p46 p47 p48 p49 p50 p51 p52 p53 p54 p55 p56 p57 p58 p59 p69 p70 p71 p72 p73 p74 p75 p76 p77 p78 p79 p80 p81 p82 p83 p84 p85 p86 p87 p88 p89 p90 p91 p92 p93 p94 p95 : Value) : Array Bool → Act → World → Prop where
  | mk (b0 b1 b2 b3 b4 b5 b6 b7 b8 b9 : Bool) (v60 v61 v62 v63 v64 v65 v66 v67 v68 : Value) (w' : World) : A8St Y qb pg bs M2 b0 b1 b2 b3 b4 b5 b6 b7 b8 b9 v60 v61 v62 v63 v64 v65 v66 v67 v68 w' → A8J Y qb pg bs M2 p0 p1 p2 p3 p4 p5 p6 p7 p8 p9 p10 p11 p12 p13 p14 p15 p16 p17 p18 p19 p20 p21 p22 p23 p24 p25 p26 p27 p28 p29 p30 p31 p32 p33 p34 p35 p36 p37 p38 p39 p40 p41 p42 p43 p44 p45 p46 p47 p48 p49 p50 p51 p52 p53 p54 p55 p56 p57 p58 p59 p69 p70 p71 p72 p73 p74 p75 p76 p77 p78 p79 p80 p81 p82 p83 p84 p85 p86 p87 p88 p89 p90 p91 p92 p93 p94 p95 #[b0, b1, b2, b3, b4, b5, b6, b7, b8, b9] { tmps := List.toArray (p0 :: p1 :: p2 :: p3 :: p4 :: p5 :: p6 :: p7 :: p8 :: p9 :: p10 :: p11 :: p12 :: p13 :: p14 :: p15 :: p16 :: p17 :: p18 :: p19 :: p20 :: p21 :: p22 :: p23 :: p24 :: p25 :: p26 :: p27 :: p28 :: p29 :: p30 :: p31 :: p32 :: p33 :: p34 :: p35 :: p36 :: p37 :: p38 :: p39 :: p40 :: p41 :: p42 :: p43 :: p44 :: p45 :: p46 :: p47 :: p48 :: p49 :: p50 :: p51 :: p52 :: p53 :: p54 :: p55 :: p56 :: p57 :: p58 :: p59 :: v60 :: v61 :: v62 :: v63 :: v64 :: v65 :: v66 :: v67 :: v68 :: p69 :: p70 :: p71 :: p72 :: p73 :: p74 :: p75 :: p76 :: p77 :: p78 :: p79 :: p80 :: p81 :: p82 :: p83 :: p84 :: p85 :: p86 :: p87 :: p88 :: p89 :: p90 :: p91 :: p92 :: p93 :: p94 :: p95 :: []), defers := [] } w'
theorem ints_same {w : World} {B B2 n m c d : Nat} {A D : Option Addr} {xs : List Int} (hx : Rd w B A n xs) (hy : Rd w B2 D m xs) (hn : n ≤ 1000000) (hm : m ≤ 1000000) :
    Calls Tryz.prog 17 #[.slice A n c, .slice D m d] w fun e w' => e = .returned (.bool true) ∧ Below w.heap.size w w' := by
  have h := ints_any (c := c) (d := d) hx hy hn hm
  rw [show decide (xs = xs) = true from by simp] at h
  exact h
set_option maxHeartbeats 16000000 in
theorem sanchor_any (w : World) (hm : LenAt w) (h1 : 1 < w.heap.size) :
    Calls Tryz.prog 13 #[] w fun e w' => e = .returned (.bool true) ∧ Below w.heap.size w w' := by
  have HM := Lib.hid (And.intro hm h1)
  clear hm h1
  have eg := enters_anc1
  go_enter Tryz.func13, Tryz.ntmps13
  go_upto_region 3 with fail
  obtain ⟨W, HW⟩ : ∃ W, Hid (W = (w.alloc (.cells #[.int .i64 1, .int .i64 0, .int .i64 0, .string ⟨#[]⟩] 81)).alloc (.cells #[.int .i64 2, .int .i64 0, .int .i64 0, .string ⟨#[]⟩] 81)) := ⟨_, Lib.hid rfl⟩
  have hbl : Below w.heap.size w W := by rw [HW.out]; exact ((Below.refl _ w).alloc (Nat.le_refl _) _).alloc (by simp) _
  have hz1 : w.heap.size + 1 < W.heap.size := by rw [HW.out]; simp
  have hz0 : w.heap.size < W.heap.size := by omega
  have H1 : W.heap[w.heap.size]? = some (.cells #[.int .i64 1, .int .i64 0, .int .i64 0, .string ⟨#[]⟩] 81 (0, 0)) := by
    rw [HW.out, Below.heap_alloc _ _ _ (by simp)]
    exact heap_new w _
  have H2 : W.heap[w.heap.size + 1]? = some (.cells #[.int .i64 2, .int .i64 0, .int .i64 0, .string ⟨#[]⟩] 81 (0, 0)) := by
    rw [HW.out]
    have h := heap_new (w.alloc (.cells #[.int .i64 1, .int .i64 0, .int .i64 0, .string ⟨#[]⟩] 81)) (.cells #[.int .i64 2, .int .i64 0, .int .i64 0, .string ⟨#[]⟩] 81)
    rw [World.size_alloc] at h; exact h
  change Code.wp _ _ _ _ ((w.alloc (.cells #[.int .i64 1, .int .i64 0, .int .i64 0, .string ⟨#[]⟩] 81)).alloc (.cells #[.int .i64 2, .int .i64 0, .int .i64 0, .string ⟨#[]⟩] 81))
  rw [← HW.out]
  have HQ := Lib.hid (cells4 H1)
  have HR := Lib.hid (cells4 H2)
  have HV1 := Lib.hid H1
  have HV2 := Lib.hid H2
  have HBL := Lib.hid hbl
  clear H1 H2 hbl
  refine wp_region_inv (by kernel_rfl) (I := AncJ w W _ _ _ _ _ _ _ _ _ _ _ _ _ _ _ _ _ _ _ _ _ _ _ _ _ _ _ _ _ _ _ _ _ _ _ _ _ _ _ _ _ _ _ _ _ _ _ _ _ _ _ _ _ _ _ _ _ _ _ _ _ _ _ _ _ _ _ _ _ _ _) (.mk false false false false false false false false false false false false false false false false false false false false false false false false false false _ _ _ _ _ _ _ _ _ _ _ _ _ _ _ _ _ _ _ _ _ _ _ _ _ _ ⟨nofun, fun _ => (Below.refl _ W).drew, fun _ => rfl, fun b h => (by cases h), nofun, nofun, nofun, nofun, nofun, nofun, nofun, nofun, nofun, nofun, nofun, nofun, nofun, nofun, nofun, nofun, nofun, nofun, nofun, nofun, nofun, nofun, nofun, nofun, nofun, nofun, nofun, nofun, nofun, nofun, nofun, nofun, nofun, nofun, nofun, nofun, nofun, nofun, nofun, nofun, nofun, nofun, nofun, nofun, nofun, nofun, nofun, nofun, nofun⟩) ?step ?fin
  case step =>
    rintro lq a' w' ix ⟨b0, b1, b2, b3, b4, b5, b6, b7, b8, b9, b10, b11, b12, b13, b14, b15, b16, b17, b18, b19, b20, b21, b22, b23, b24, b25, v14, v15, v16, v17, v18, v19, v20, v21, v22, v23, v24, v25, v26, v27, v28, v29, v30, v31, v32, v33, v34, v35, v36, v37, v4, _, HT⟩ hi
    obtain ⟨hi_, hib⟩ := ready_lt hi
    have HTH := Lib.hid HT
    match ix, hi_, hi, hib with
    | 0, _, hi, hib =>
      obtain rfl : b0 = false := by simpa using hib
      obtain rfl : b25 = false := by
        cases hbl : b25 with
        | false => rfl
        | true => have h := (HT.q hbl).1; cases h
      have hbel := HT.bel rfl
      have q0 := (hbel.cell (p := ⟨w.heap.size, 0, none⟩) hz0).trans HQ.out.1
      have q1 := (hbel.cell (p := ⟨w.heap.size, 1, none⟩) hz0).trans HQ.out.2.1
      have q2 := (hbel.cell (p := ⟨w.heap.size, 2, none⟩) hz0).trans HQ.out.2.2.1
      have q3 := (hbel.cell (p := ⟨w.heap.size, 3, none⟩) hz0).trans HQ.out.2.2.2
      have HBE := Lib.hid hbel
      clear HT hbel
      refine wpOp_one rfl rfl (fun K hK => ?_)
      go_simp
      exact hK.out _ _ (.mk true b1 b2 b3 b4 b5 b6 b7 b8 b9 b10 b11 b12 b13 b14 b15 b16 b17 b18 b19 b20 b21 b22 b23 b24 false _ _ _ _ _ _ _ _ _ _ _ _ _ _ _ _ _ _ _ _ _ _ _ _ _ _ { HTH.out with q := fun h => (by cases h), fin := fun h => (by cases h), h0 := fun _ => rfl, o1_0 := fun _ => rfl })
    | 1, _, hi, hib =>
      obtain rfl : b1 = false := by simpa using hib
      obtain rfl : b25 = false := by
        cases hbl : b25 with
        | false => rfl
        | true => have h := (HT.q hbl).2.1; cases h
      have hbel := HT.bel rfl
      have d0 : b0 = true := ready_dep hi rfl 0 (by kernel_rfl)
      have hd0 := HT.h0 d0
      subst hd0
      have HBE := Lib.hid hbel
      clear HT hbel
      refine wpOp_one rfl rfl (fun K hK => ?_)
      go_simp
      exact hK.out _ _ (.mk b0 true b2 b3 b4 b5 b6 b7 b8 b9 b10 b11 b12 b13 b14 b15 b16 b17 b18 b19 b20 b21 b22 b23 b24 false _ _ _ _ _ _ _ _ _ _ _ _ _ _ _ _ _ _ _ _ _ _ _ _ _ _ { HTH.out with q := fun h => (by cases h), fin := fun h => (by cases h), h1 := fun _ => rfl, o1_0 := fun _ => d0, o4_1 := fun _ => rfl })
    | 2, _, hi, hib =>
      obtain rfl : b2 = false := by simpa using hib
      obtain rfl : b25 = false := by
        cases hbl : b25 with
        | false => rfl
        | true => have h := (HT.q hbl).2.2.1; cases h
      have hbel := HT.bel rfl
      have q0 := (hbel.cell (p := ⟨w.heap.size + 1, 0, none⟩) hz1).trans HR.out.1
      have q1 := (hbel.cell (p := ⟨w.heap.size + 1, 1, none⟩) hz1).trans HR.out.2.1
      have q2 := (hbel.cell (p := ⟨w.heap.size + 1, 2, none⟩) hz1).trans HR.out.2.2.1
      have q3 := (hbel.cell (p := ⟨w.heap.size + 1, 3, none⟩) hz1).trans HR.out.2.2.2
      have HBE := Lib.hid hbel
      clear HT hbel
      refine wpOp_one rfl rfl (fun K hK => ?_)
      go_simp
      exact hK.out _ _ (.mk b0 b1 true b3 b4 b5 b6 b7 b8 b9 b10 b11 b12 b13 b14 b15 b16 b17 b18 b19 b20 b21 b22 b23 b24 false _ _ _ _ _ _ _ _ _ _ _ _ _ _ _ _ _ _ _ _ _ _ _ _ _ _ { HTH.out with q := fun h => (by cases h), fin := fun h => (by cases h), h2 := fun _ => rfl, o3_2 := fun _ => rfl })
    | 3, _, hi, hib =>
      obtain rfl : b3 = false := by simpa using hib
      obtain rfl : b25 = false := by
        cases hbl : b25 with
        | false => rfl
        | true => have h := (HT.q hbl).2.2.2.1; cases h
      have hbel := HT.bel rfl
      have d2 : b2 = true := ready_dep hi rfl 2 (by kernel_rfl)
      have hd2 := HT.h2 d2
      subst hd2
      have HBE := Lib.hid hbel
      clear HT hbel
      refine wpOp_one rfl rfl (fun K hK => ?_)
      go_simp
      exact hK.out _ _ (.mk b0 b1 b2 true b4 b5 b6 b7 b8 b9 b10 b11 b12 b13 b14 b15 b16 b17 b18 b19 b20 b21 b22 b23 b24 false _ _ _ _ _ _ _ _ _ _ _ _ _ _ _ _ _ _ _ _ _ _ _ _ _ _ { HTH.out with q := fun h => (by cases h), fin := fun h => (by cases h), h3 := fun _ => rfl, o3_2 := fun _ => d2, o4_3 := fun _ => rfl })
    | 4, _, hi, hib =>
      obtain rfl : b4 = false := by simpa using hib
      obtain rfl : b25 = false := by
        cases hbl : b25 with
        | false => rfl
        | true => have h := (HT.q hbl).2.2.2.2.1; cases h
      have hbel := HT.bel rfl
      have d1 : b1 = true := ready_dep hi rfl 1 (by kernel_rfl)
      have d3 : b3 = true := ready_dep hi rfl 3 (by kernel_rfl)
      have hd1 := HT.h1 d1
      subst hd1
      have hd3 := HT.h3 d3
      subst hd3
      have HBE := Lib.hid hbel
      clear HT hbel
      refine wpOp_one rfl rfl (fun K hK => ?_)
      go_simp
      have hba : Below w'.heap.size w' (w'.alloc (.cells #[.int .i64 1, .int .i64 0, .int .i64 0, .string ⟨#[]⟩, .int .i64 0, .slice none 0 0, .int .i64 2, .int .i64 0, .int .i64 0, .string ⟨#[]⟩, .int .i64 0, .slice none 0 0] 91)) := (Below.refl _ w').alloc (Nat.le_refl _) _
      have hnm : ¬ (fun b => b < W.heap.size ∨ v4 = .pointer (some ⟨b, 0, none⟩)) w'.heap.size := by
        rintro (h | h)
        · have := HBE.out.size; omega
        · have := HTH.out.bx _ h; omega
      exact hK.out _ _ (.mk b0 b1 b2 b3 true b5 b6 b7 b8 b9 b10 b11 b12 b13 b14 b15 b16 b17 b18 b19 b20 b21 b22 b23 b24 false _ _ _ _ _ _ _ _ _ _ _ _ _ _ _ _ _ _ _ _ _ _ _ _ _ _ { HTH.out with q := fun h => (by cases h), fin := fun h => (by cases h), bel := fun _ => HBE.out.trans (hba.mono HBE.out.size), h4 := fun _ _ => ⟨w'.heap.size, rfl, rels_two (heap_new w' _) hnm (nil_needs _ _) (nil_needs _ _)⟩, o4_1 := fun _ => d1, o4_3 := fun _ => d3, o5_4 := fun _ => rfl, h5 := fun h hf => (by obtain ⟨g, e, r⟩ := HTH.out.h5 h hf; exact ⟨g, e, rs_turns.kept r hba⟩), h9 := fun h hf => (by obtain ⟨g, e, r⟩ := HTH.out.h9 h hf; exact ⟨g, e, rg_turns.kept r hba⟩), h10 := fun h hf => (by obtain ⟨g, e, r⟩ := HTH.out.h10 h hf; exact ⟨g, e, rg_turns.kept r hba⟩), h11 := fun h hf => (by obtain ⟨g, e, r⟩ := HTH.out.h11 h hf; exact ⟨g, e, ps_turns.kept r hba⟩), h12 := fun h hf => (by obtain ⟨g, e, r⟩ := HTH.out.h12 h hf; exact ⟨g, e, ps_turns.kept r hba⟩), h16 := fun h hf => (by obtain ⟨g, e, r⟩ := HTH.out.h16 h hf; exact ⟨g, e, rg_turns.kept r hba⟩), h17 := fun h hf => (by obtain ⟨g, e, r⟩ := HTH.out.h17 h hf; exact ⟨g, e, rg_turns.kept r hba⟩), h18 := fun h hf => (by obtain ⟨g, e, r⟩ := HTH.out.h18 h hf; exact ⟨g, e, ps_turns.kept r hba⟩), h19 := fun h hf => (by obtain ⟨g, e, r⟩ := HTH.out.h19 h hf; exact ⟨g, e, ps_turns.kept r hba⟩), h20 := fun h hf => (by obtain ⟨g, e, r⟩ := HTH.out.h20 h hf; exact ⟨g, e, rs_turns.kept r hba⟩), h21 := fun h hf => (by obtain ⟨g, e, r⟩ := HTH.out.h21 h hf; exact ⟨g, e, rs_turns.kept r hba⟩), h22 := fun h hf => (by obtain ⟨g, e, r⟩ := HTH.out.h22 h hf; exact ⟨g, e, ss_turns.kept r hba⟩), h23 := fun h hf => (by obtain ⟨g, e, r⟩ := HTH.out.h23 h hf; exact ⟨g, e, ss_turns.kept r hba⟩), h24 := fun h hf => (by obtain ⟨g, e, r, l⟩ := HTH.out.h24 h hf; exact ⟨g, e, (hba.block g (heapE_lt r)).trans r, l⟩), bx := fun b h => Nat.lt_of_lt_of_le (HTH.out.bx b h) hba.size })
    | 5, _, hi, hib =>
      obtain rfl : b5 = false := by simpa using hib
      obtain rfl : b25 = false := by
        cases hbl : b25 with
        | false => rfl
        | true => have h := (HT.q hbl).2.2.2.2.2.1; cases h
      have hbel := HT.bel rfl
      have d4 : b4 = true := ready_dep hi rfl 4 (by kernel_rfl)
      obtain ⟨g4, e4, r4⟩ := HT.h4 d4 rfl
      subst e4
      have HR4 := Lib.hid r4
      clear r4
      have HBE := Lib.hid hbel
      clear HT hbel
      refine wpOp_one rfl rfl (fun K hK => ?_)
      go_simp
      exact hK.out _ _ (.mk b0 b1 b2 b3 b4 true b6 b7 b8 b9 b10 b11 b12 b13 b14 b15 b16 b17 b18 b19 b20 b21 b22 b23 b24 false _ _ _ _ _ _ _ _ _ _ _ _ _ _ _ _ _ _ _ _ _ _ _ _ _ _ { HTH.out with q := fun h => (by cases h), fin := fun h => (by cases h), h5 := fun _ _ => ⟨g4, rfl, HR4.out⟩, o5_4 := fun _ => d4, o22_5 := fun _ => rfl })
    | 6, _, hi, hib =>
      obtain rfl : b6 = false := by simpa using hib
      obtain rfl : b25 = false := by
        cases hbl : b25 with
        | false => rfl
        | true => have h := (HT.q hbl).2.2.2.2.2.2.1; cases h
      have hbel := HT.bel rfl
      have q0 := (hbel.cell (p := ⟨w.heap.size, 0, none⟩) hz0).trans HQ.out.1
      have q1 := (hbel.cell (p := ⟨w.heap.size, 1, none⟩) hz0).trans HQ.out.2.1
      have q2 := (hbel.cell (p := ⟨w.heap.size, 2, none⟩) hz0).trans HQ.out.2.2.1
      have q3 := (hbel.cell (p := ⟨w.heap.size, 3, none⟩) hz0).trans HQ.out.2.2.2
      have HBE := Lib.hid hbel
      clear HT hbel
      refine wpOp_one rfl rfl (fun K hK => ?_)
      go_simp
      exact hK.out _ _ (.mk b0 b1 b2 b3 b4 b5 true b7 b8 b9 b10 b11 b12 b13 b14 b15 b16 b17 b18 b19 b20 b21 b22 b23 b24 false _ _ _ _ _ _ _ _ _ _ _ _ _ _ _ _ _ _ _ _ _ _ _ _ _ _ { HTH.out with q := fun h => (by cases h), fin := fun h => (by cases h), h6 := fun _ => rfl, o12_6 := fun _ => rfl })
    | 7, _, hi, hib =>
      obtain rfl : b7 = false := by simpa using hib
      obtain rfl : b25 = false := by
        cases hbl : b25 with
        | false => rfl
        | true => have h := (HT.q hbl).2.2.2.2.2.2.2.1; cases h
      have hbel := HT.bel rfl
      have HBE := Lib.hid hbel
      clear HT hbel
      refine wpOp_one rfl rfl (fun K hK => ?_)
      go_simp
      exact hK.out _ _ (.mk b0 b1 b2 b3 b4 b5 b6 true b8 b9 b10 b11 b12 b13 b14 b15 b16 b17 b18 b19 b20 b21 b22 b23 b24 false _ _ _ _ _ _ _ _ _ _ _ _ _ _ _ _ _ _ _ _ _ _ _ _ _ _ { HTH.out with q := fun h => (by cases h), fin := fun h => (by cases h), h7 := fun _ => rfl, o9_7 := fun _ => rfl })
    | 8, _, hi, hib =>
      obtain rfl : b8 = false := by simpa using hib
      obtain rfl : b25 = false := by
        cases hbl : b25 with
        | false => rfl
        | true => have h := (HT.q hbl).2.2.2.2.2.2.2.2.1; cases h
      have hbel := HT.bel rfl
      have q0 := (hbel.cell (p := ⟨w.heap.size, 0, none⟩) hz0).trans HQ.out.1
      have q1 := (hbel.cell (p := ⟨w.heap.size, 1, none⟩) hz0).trans HQ.out.2.1
      have q2 := (hbel.cell (p := ⟨w.heap.size, 2, none⟩) hz0).trans HQ.out.2.2.1
      have q3 := (hbel.cell (p := ⟨w.heap.size, 3, none⟩) hz0).trans HQ.out.2.2.2
      have HBE := Lib.hid hbel
      clear HT hbel
      refine wpOp_one rfl rfl (fun K hK => ?_)
      go_simp
      exact hK.out _ _ (.mk b0 b1 b2 b3 b4 b5 b6 b7 true b9 b10 b11 b12 b13 b14 b15 b16 b17 b18 b19 b20 b21 b22 b23 b24 false _ _ _ _ _ _ _ _ _ _ _ _ _ _ _ _ _ _ _ _ _ _ _ _ _ _ { HTH.out with q := fun h => (by cases h), fin := fun h => (by cases h), h8 := fun _ => rfl, o9_8 := fun _ => rfl })
    | 9, _, hi, hib =>
      obtain rfl : b9 = false := by simpa using hib
      obtain rfl : b25 = false := by
        cases hbl : b25 with
        | false => rfl
        | true => have h := (HT.q hbl).2.2.2.2.2.2.2.2.2.1; cases h
      have hbel := HT.bel rfl
      have d7 : b7 = true := ready_dep hi rfl 7 (by kernel_rfl)
      have d8 : b8 = true := ready_dep hi rfl 8 (by kernel_rfl)
      have hd7 := HT.h7 d7
      subst hd7
      have hd8 := HT.h8 d8
      subst hd8
      have HC := Lib.hid (anc1_any 6 1 0 0 ⟨#[]⟩ w')
      have HBE := Lib.hid hbel
      clear HT hbel
      refine wpOp_one rfl rfl (fun K hK => ?_)
      go_simp
      go_at_fn 35
      refine HC.out.mono ?_
      rintro e w2 ⟨g, rfl, hp, hb⟩
      have hp2 := rg_turns.go hp (FrM.refl w2 _) (M' := (fun b => b < W.heap.size ∨ v4 = .pointer (some ⟨b, 0, none⟩))) (fun b hb2 => .inl (hb2.elim (fun h => by show b < _; have := HBE.out.size; omega) (fun h => HTH.out.bx b h)))
      exact hK.out _ _ (.mk b0 b1 b2 b3 b4 b5 b6 b7 b8 true b10 b11 b12 b13 b14 b15 b16 b17 b18 b19 b20 b21 b22 b23 b24 false _ _ _ _ _ _ _ _ _ _ _ _ _ _ _ _ _ _ _ _ _ _ _ _ _ _ { HTH.out with q := fun h => (by cases h), fin := fun h => (by cases h), bel := fun _ => HBE.out.trans (hb.mono HBE.out.size), h9 := fun _ _ => ⟨g, rfl, hp2⟩, o9_7 := fun _ => d7, o9_8 := fun _ => d8, o10_9 := fun _ => rfl, h4 := fun h hf => (by obtain ⟨g, e, r⟩ := HTH.out.h4 h hf; exact ⟨g, e, rs_turns.kept r hb⟩), h5 := fun h hf => (by obtain ⟨g, e, r⟩ := HTH.out.h5 h hf; exact ⟨g, e, rs_turns.kept r hb⟩), h10 := fun h hf => (by obtain ⟨g, e, r⟩ := HTH.out.h10 h hf; exact ⟨g, e, rg_turns.kept r hb⟩), h11 := fun h hf => (by obtain ⟨g, e, r⟩ := HTH.out.h11 h hf; exact ⟨g, e, ps_turns.kept r hb⟩), h12 := fun h hf => (by obtain ⟨g, e, r⟩ := HTH.out.h12 h hf; exact ⟨g, e, ps_turns.kept r hb⟩), h16 := fun h hf => (by obtain ⟨g, e, r⟩ := HTH.out.h16 h hf; exact ⟨g, e, rg_turns.kept r hb⟩), h17 := fun h hf => (by obtain ⟨g, e, r⟩ := HTH.out.h17 h hf; exact ⟨g, e, rg_turns.kept r hb⟩), h18 := fun h hf => (by obtain ⟨g, e, r⟩ := HTH.out.h18 h hf; exact ⟨g, e, ps_turns.kept r hb⟩), h19 := fun h hf => (by obtain ⟨g, e, r⟩ := HTH.out.h19 h hf; exact ⟨g, e, ps_turns.kept r hb⟩), h20 := fun h hf => (by obtain ⟨g, e, r⟩ := HTH.out.h20 h hf; exact ⟨g, e, rs_turns.kept r hb⟩), h21 := fun h hf => (by obtain ⟨g, e, r⟩ := HTH.out.h21 h hf; exact ⟨g, e, rs_turns.kept r hb⟩), h22 := fun h hf => (by obtain ⟨g, e, r⟩ := HTH.out.h22 h hf; exact ⟨g, e, ss_turns.kept r hb⟩), h23 := fun h hf => (by obtain ⟨g, e, r⟩ := HTH.out.h23 h hf; exact ⟨g, e, ss_turns.kept r hb⟩), h24 := fun h hf => (by obtain ⟨g, e, r, l⟩ := HTH.out.h24 h hf; exact ⟨g, e, (hb.block g (heapE_lt r)).trans r, l⟩), bx := fun b h => Nat.lt_of_lt_of_le (HTH.out.bx b h) hb.size })
    | 10, _, hi, hib =>
      obtain rfl : b10 = false := by simpa using hib
      obtain rfl : b25 = false := by
        cases hbl : b25 with
        | false => rfl
        | true => have h := (HT.q hbl).2.2.2.2.2.2.2.2.2.2.1; cases h
      have hbel := HT.bel rfl
      have d9 : b9 = true := ready_dep hi rfl 9 (by kernel_rfl)
      obtain ⟨g9, e9, r9⟩ := HT.h9 d9 rfl
      subst e9
      have HR9 := Lib.hid r9
      clear r9
      have HBE := Lib.hid hbel
      clear HT hbel
      refine wpOp_one rfl rfl (fun K hK => ?_)
      go_simp
      exact hK.out _ _ (.mk b0 b1 b2 b3 b4 b5 b6 b7 b8 b9 true b11 b12 b13 b14 b15 b16 b17 b18 b19 b20 b21 b22 b23 b24 false _ _ _ _ _ _ _ _ _ _ _ _ _ _ _ _ _ _ _ _ _ _ _ _ _ _ { HTH.out with q := fun h => (by cases h), fin := fun h => (by cases h), h10 := fun _ _ => ⟨g9, rfl, HR9.out⟩, o10_9 := fun _ => d9, o11_10 := fun _ => rfl })
    | 11, _, hi, hib =>
      obtain rfl : b11 = false := by simpa using hib
      obtain rfl : b25 = false := by
        cases hbl : b25 with
        | false => rfl
        | true => have h := (HT.q hbl).2.2.2.2.2.2.2.2.2.2.2.1; cases h
      have hbel := HT.bel rfl
      have d10 : b10 = true := ready_dep hi rfl 10 (by kernel_rfl)
      obtain ⟨g10, e10, r10⟩ := HT.h10 d10 rfl
      subst e10
      have HR10 := Lib.hid r10
      clear r10
      have HBE := Lib.hid hbel
      clear HT hbel
      refine wpOp_one rfl rfl (fun K hK => ?_)
      go_simp
      have hba : Below w'.heap.size w' (w'.alloc (.cells #[.int .i64 0, .slice (some ⟨g10, 0, none⟩) 1 1] 96)) := (Below.refl _ w').alloc (Nat.le_refl _) _
      have hnm : ¬ (fun b => b < W.heap.size ∨ v4 = .pointer (some ⟨b, 0, none⟩)) w'.heap.size := by
        rintro (h | h)
        · have := HBE.out.size; omega
        · have := HTH.out.bx _ h; omega
      exact hK.out _ _ (.mk b0 b1 b2 b3 b4 b5 b6 b7 b8 b9 b10 true b12 b13 b14 b15 b16 b17 b18 b19 b20 b21 b22 b23 b24 false _ _ _ _ _ _ _ _ _ _ _ _ _ _ _ _ _ _ _ _ _ _ _ _ _ _ { HTH.out with q := fun h => (by cases h), fin := fun h => (by cases h), bel := fun _ => HBE.out.trans (hba.mono HBE.out.size), h11 := fun _ _ => ⟨w'.heap.size, rfl, nd_one (heap_new w' _) hnm (rg_turns.kept HR10.out hba)⟩, o11_10 := fun _ => d10, o12_11 := fun _ => rfl, h4 := fun h hf => (by obtain ⟨g, e, r⟩ := HTH.out.h4 h hf; exact ⟨g, e, rs_turns.kept r hba⟩), h5 := fun h hf => (by obtain ⟨g, e, r⟩ := HTH.out.h5 h hf; exact ⟨g, e, rs_turns.kept r hba⟩), h9 := fun h hf => (by obtain ⟨g, e, r⟩ := HTH.out.h9 h hf; exact ⟨g, e, rg_turns.kept r hba⟩), h10 := fun h hf => (by obtain ⟨g, e, r⟩ := HTH.out.h10 h hf; exact ⟨g, e, rg_turns.kept r hba⟩), h12 := fun h hf => (by obtain ⟨g, e, r⟩ := HTH.out.h12 h hf; exact ⟨g, e, ps_turns.kept r hba⟩), h16 := fun h hf => (by obtain ⟨g, e, r⟩ := HTH.out.h16 h hf; exact ⟨g, e, rg_turns.kept r hba⟩), h17 := fun h hf => (by obtain ⟨g, e, r⟩ := HTH.out.h17 h hf; exact ⟨g, e, rg_turns.kept r hba⟩), h18 := fun h hf => (by obtain ⟨g, e, r⟩ := HTH.out.h18 h hf; exact ⟨g, e, ps_turns.kept r hba⟩), h19 := fun h hf => (by obtain ⟨g, e, r⟩ := HTH.out.h19 h hf; exact ⟨g, e, ps_turns.kept r hba⟩), h20 := fun h hf => (by obtain ⟨g, e, r⟩ := HTH.out.h20 h hf; exact ⟨g, e, rs_turns.kept r hba⟩), h21 := fun h hf => (by obtain ⟨g, e, r⟩ := HTH.out.h21 h hf; exact ⟨g, e, rs_turns.kept r hba⟩), h22 := fun h hf => (by obtain ⟨g, e, r⟩ := HTH.out.h22 h hf; exact ⟨g, e, ss_turns.kept r hba⟩), h23 := fun h hf => (by obtain ⟨g, e, r⟩ := HTH.out.h23 h hf; exact ⟨g, e, ss_turns.kept r hba⟩), h24 := fun h hf => (by obtain ⟨g, e, r, l⟩ := HTH.out.h24 h hf; exact ⟨g, e, (hba.block g (heapE_lt r)).trans r, l⟩), bx := fun b h => Nat.lt_of_lt_of_le (HTH.out.bx b h) hba.size })
    | 12, _, hi, hib =>
      obtain rfl : b12 = false := by simpa using hib
      obtain rfl : b25 = false := by
        cases hbl : b25 with
        | false => rfl
        | true => have h := (HT.q hbl).2.2.2.2.2.2.2.2.2.2.2.2.1; cases h
      have hbel := HT.bel rfl
      have d6 : b6 = true := ready_dep hi rfl 6 (by kernel_rfl)
      have d11 : b11 = true := ready_dep hi rfl 11 (by kernel_rfl)
      have hd6 := HT.h6 d6
      subst hd6
      obtain ⟨g11, e11, r11⟩ := HT.h11 d11 rfl
      subst e11
      have HR11 := Lib.hid r11
      clear r11
      have HBE := Lib.hid hbel
      clear HT hbel
      refine wpOp_one rfl rfl (fun K hK => ?_)
      go_simp
      exact hK.out _ _ (.mk b0 b1 b2 b3 b4 b5 b6 b7 b8 b9 b10 b11 true b13 b14 b15 b16 b17 b18 b19 b20 b21 b22 b23 b24 false _ _ _ _ _ _ _ _ _ _ _ _ _ _ _ _ _ _ _ _ _ _ _ _ _ _ { HTH.out with q := fun h => (by cases h), fin := fun h => (by cases h), h12 := fun _ _ => ⟨g11, rfl, HR11.out⟩, o12_6 := fun _ => d6, o12_11 := fun _ => d11, o20_12 := fun _ => rfl })
    | 13, _, hi, hib =>
      obtain rfl : b13 = false := by simpa using hib
      obtain rfl : b25 = false := by
        cases hbl : b25 with
        | false => rfl
        | true => have h := (HT.q hbl).2.2.2.2.2.2.2.2.2.2.2.2.2.1; cases h
      have hbel := HT.bel rfl
      have q0 := (hbel.cell (p := ⟨w.heap.size + 1, 0, none⟩) hz1).trans HR.out.1
      have q1 := (hbel.cell (p := ⟨w.heap.size + 1, 1, none⟩) hz1).trans HR.out.2.1
      have q2 := (hbel.cell (p := ⟨w.heap.size + 1, 2, none⟩) hz1).trans HR.out.2.2.1
      have q3 := (hbel.cell (p := ⟨w.heap.size + 1, 3, none⟩) hz1).trans HR.out.2.2.2
      have HBE := Lib.hid hbel
      clear HT hbel
      refine wpOp_one rfl rfl (fun K hK => ?_)
      go_simp
      exact hK.out _ _ (.mk b0 b1 b2 b3 b4 b5 b6 b7 b8 b9 b10 b11 b12 true b14 b15 b16 b17 b18 b19 b20 b21 b22 b23 b24 false _ _ _ _ _ _ _ _ _ _ _ _ _ _ _ _ _ _ _ _ _ _ _ _ _ _ { HTH.out with q := fun h => (by cases h), fin := fun h => (by cases h), h13 := fun _ => rfl, o19_13 := fun _ => rfl })
    | 14, _, hi, hib =>
      obtain rfl : b14 = false := by simpa using hib
      obtain rfl : b25 = false := by
        cases hbl : b25 with
        | false => rfl
        | true => have h := (HT.q hbl).2.2.2.2.2.2.2.2.2.2.2.2.2.2.1; cases h
      have hbel := HT.bel rfl
      have HBE := Lib.hid hbel
      clear HT hbel
      refine wpOp_one rfl rfl (fun K hK => ?_)
      go_simp
      exact hK.out _ _ (.mk b0 b1 b2 b3 b4 b5 b6 b7 b8 b9 b10 b11 b12 b13 true b15 b16 b17 b18 b19 b20 b21 b22 b23 b24 false _ _ _ _ _ _ _ _ _ _ _ _ _ _ _ _ _ _ _ _ _ _ _ _ _ _ { HTH.out with q := fun h => (by cases h), fin := fun h => (by cases h), h14 := fun _ => rfl, o16_14 := fun _ => rfl })
    | 15, _, hi, hib =>
      obtain rfl : b15 = false := by simpa using hib
      obtain rfl : b25 = false := by
        cases hbl : b25 with
        | false => rfl
        | true => have h := (HT.q hbl).2.2.2.2.2.2.2.2.2.2.2.2.2.2.2.1; cases h
      have hbel := HT.bel rfl
      have HBE := Lib.hid hbel
      clear HT hbel
      refine wpOp_one rfl rfl (fun K hK => ?_)
      go_simp
      exact hK.out _ _ (.mk b0 b1 b2 b3 b4 b5 b6 b7 b8 b9 b10 b11 b12 b13 b14 true b16 b17 b18 b19 b20 b21 b22 b23 b24 false _ _ _ _ _ _ _ _ _ _ _ _ _ _ _ _ _ _ _ _ _ _ _ _ _ _ { HTH.out with q := fun h => (by cases h), fin := fun h => (by cases h), h15 := fun _ => rfl, o16_15 := fun _ => rfl })
    | 16, _, hi, hib =>
      obtain rfl : b16 = false := by simpa using hib
      obtain rfl : b25 = false := by
        cases hbl : b25 with
        | false => rfl
        | true => have h := (HT.q hbl).2.2.2.2.2.2.2.2.2.2.2.2.2.2.2.2.1; cases h
      have hbel := HT.bel rfl
      have d14 : b14 = true := ready_dep hi rfl 14 (by kernel_rfl)
      have d15 : b15 = true := ready_dep hi rfl 15 (by kernel_rfl)
      have hd14 := HT.h14 d14
      subst hd14
      have hd15 := HT.h15 d15
      subst hd15
      have HC := Lib.hid (anc1_any 0 0 0 0 ⟨#[]⟩ w')
      have HBE := Lib.hid hbel
      clear HT hbel
      refine wpOp_one rfl rfl (fun K hK => ?_)
      go_simp
      go_at_fn 35
      refine HC.out.mono ?_
      rintro e w2 ⟨g, rfl, hp, hb⟩
      have hp2 := rg_turns.go hp (FrM.refl w2 _) (M' := (fun b => b < W.heap.size ∨ v4 = .pointer (some ⟨b, 0, none⟩))) (fun b hb2 => .inl (hb2.elim (fun h => by show b < _; have := HBE.out.size; omega) (fun h => HTH.out.bx b h)))
      exact hK.out _ _ (.mk b0 b1 b2 b3 b4 b5 b6 b7 b8 b9 b10 b11 b12 b13 b14 b15 true b17 b18 b19 b20 b21 b22 b23 b24 false _ _ _ _ _ _ _ _ _ _ _ _ _ _ _ _ _ _ _ _ _ _ _ _ _ _ { HTH.out with q := fun h => (by cases h), fin := fun h => (by cases h), bel := fun _ => HBE.out.trans (hb.mono HBE.out.size), h16 := fun _ _ => ⟨g, rfl, hp2⟩, o16_14 := fun _ => d14, o16_15 := fun _ => d15, o17_16 := fun _ => rfl, h4 := fun h hf => (by obtain ⟨g, e, r⟩ := HTH.out.h4 h hf; exact ⟨g, e, rs_turns.kept r hb⟩), h5 := fun h hf => (by obtain ⟨g, e, r⟩ := HTH.out.h5 h hf; exact ⟨g, e, rs_turns.kept r hb⟩), h9 := fun h hf => (by obtain ⟨g, e, r⟩ := HTH.out.h9 h hf; exact ⟨g, e, rg_turns.kept r hb⟩), h10 := fun h hf => (by obtain ⟨g, e, r⟩ := HTH.out.h10 h hf; exact ⟨g, e, rg_turns.kept r hb⟩), h11 := fun h hf => (by obtain ⟨g, e, r⟩ := HTH.out.h11 h hf; exact ⟨g, e, ps_turns.kept r hb⟩), h12 := fun h hf => (by obtain ⟨g, e, r⟩ := HTH.out.h12 h hf; exact ⟨g, e, ps_turns.kept r hb⟩), h17 := fun h hf => (by obtain ⟨g, e, r⟩ := HTH.out.h17 h hf; exact ⟨g, e, rg_turns.kept r hb⟩), h18 := fun h hf => (by obtain ⟨g, e, r⟩ := HTH.out.h18 h hf; exact ⟨g, e, ps_turns.kept r hb⟩), h19 := fun h hf => (by obtain ⟨g, e, r⟩ := HTH.out.h19 h hf; exact ⟨g, e, ps_turns.kept r hb⟩), h20 := fun h hf => (by obtain ⟨g, e, r⟩ := HTH.out.h20 h hf; exact ⟨g, e, rs_turns.kept r hb⟩), h21 := fun h hf => (by obtain ⟨g, e, r⟩ := HTH.out.h21 h hf; exact ⟨g, e, rs_turns.kept r hb⟩), h22 := fun h hf => (by obtain ⟨g, e, r⟩ := HTH.out.h22 h hf; exact ⟨g, e, ss_turns.kept r hb⟩), h23 := fun h hf => (by obtain ⟨g, e, r⟩ := HTH.out.h23 h hf; exact ⟨g, e, ss_turns.kept r hb⟩), h24 := fun h hf => (by obtain ⟨g, e, r, l⟩ := HTH.out.h24 h hf; exact ⟨g, e, (hb.block g (heapE_lt r)).trans r, l⟩), bx := fun b h => Nat.lt_of_lt_of_le (HTH.out.bx b h) hb.size })
    | 17, _, hi, hib =>
      obtain rfl : b17 = false := by simpa using hib
      obtain rfl : b25 = false := by
        cases hbl : b25 with
        | false => rfl
        | true => have h := (HT.q hbl).2.2.2.2.2.2.2.2.2.2.2.2.2.2.2.2.2.1; cases h
      have hbel := HT.bel rfl
      have d16 : b16 = true := ready_dep hi rfl 16 (by kernel_rfl)
      obtain ⟨g16, e16, r16⟩ := HT.h16 d16 rfl
      subst e16
      have HR16 := Lib.hid r16
      clear r16
      have HBE := Lib.hid hbel
      clear HT hbel
      refine wpOp_one rfl rfl (fun K hK => ?_)
      go_simp
      exact hK.out _ _ (.mk b0 b1 b2 b3 b4 b5 b6 b7 b8 b9 b10 b11 b12 b13 b14 b15 b16 true b18 b19 b20 b21 b22 b23 b24 false _ _ _ _ _ _ _ _ _ _ _ _ _ _ _ _ _ _ _ _ _ _ _ _ _ _ { HTH.out with q := fun h => (by cases h), fin := fun h => (by cases h), h17 := fun _ _ => ⟨g16, rfl, HR16.out⟩, o17_16 := fun _ => d16, o18_17 := fun _ => rfl })
    | 18, _, hi, hib =>
      obtain rfl : b18 = false := by simpa using hib
      obtain rfl : b25 = false := by
        cases hbl : b25 with
        | false => rfl
        | true => have h := (HT.q hbl).2.2.2.2.2.2.2.2.2.2.2.2.2.2.2.2.2.2.1; cases h
      have hbel := HT.bel rfl
      have d17 : b17 = true := ready_dep hi rfl 17 (by kernel_rfl)
      obtain ⟨g17, e17, r17⟩ := HT.h17 d17 rfl
      subst e17
      have HR17 := Lib.hid r17
      clear r17
      have HBE := Lib.hid hbel
      clear HT hbel
      refine wpOp_one rfl rfl (fun K hK => ?_)
      go_simp
      have hba : Below w'.heap.size w' (w'.alloc (.cells #[.int .i64 0, .slice (some ⟨g17, 0, none⟩) 1 1] 96)) := (Below.refl _ w').alloc (Nat.le_refl _) _
      have hnm : ¬ (fun b => b < W.heap.size ∨ v4 = .pointer (some ⟨b, 0, none⟩)) w'.heap.size := by
        rintro (h | h)
        · have := HBE.out.size; omega
        · have := HTH.out.bx _ h; omega
      exact hK.out _ _ (.mk b0 b1 b2 b3 b4 b5 b6 b7 b8 b9 b10 b11 b12 b13 b14 b15 b16 b17 true b19 b20 b21 b22 b23 b24 false _ _ _ _ _ _ _ _ _ _ _ _ _ _ _ _ _ _ _ _ _ _ _ _ _ _ { HTH.out with q := fun h => (by cases h), fin := fun h => (by cases h), bel := fun _ => HBE.out.trans (hba.mono HBE.out.size), h18 := fun _ _ => ⟨w'.heap.size, rfl, nd_one (heap_new w' _) hnm (rg_turns.kept HR17.out hba)⟩, o18_17 := fun _ => d17, o19_18 := fun _ => rfl, h4 := fun h hf => (by obtain ⟨g, e, r⟩ := HTH.out.h4 h hf; exact ⟨g, e, rs_turns.kept r hba⟩), h5 := fun h hf => (by obtain ⟨g, e, r⟩ := HTH.out.h5 h hf; exact ⟨g, e, rs_turns.kept r hba⟩), h9 := fun h hf => (by obtain ⟨g, e, r⟩ := HTH.out.h9 h hf; exact ⟨g, e, rg_turns.kept r hba⟩), h10 := fun h hf => (by obtain ⟨g, e, r⟩ := HTH.out.h10 h hf; exact ⟨g, e, rg_turns.kept r hba⟩), h11 := fun h hf => (by obtain ⟨g, e, r⟩ := HTH.out.h11 h hf; exact ⟨g, e, ps_turns.kept r hba⟩), h12 := fun h hf => (by obtain ⟨g, e, r⟩ := HTH.out.h12 h hf; exact ⟨g, e, ps_turns.kept r hba⟩), h16 := fun h hf => (by obtain ⟨g, e, r⟩ := HTH.out.h16 h hf; exact ⟨g, e, rg_turns.kept r hba⟩), h17 := fun h hf => (by obtain ⟨g, e, r⟩ := HTH.out.h17 h hf; exact ⟨g, e, rg_turns.kept r hba⟩), h19 := fun h hf => (by obtain ⟨g, e, r⟩ := HTH.out.h19 h hf; exact ⟨g, e, ps_turns.kept r hba⟩), h20 := fun h hf => (by obtain ⟨g, e, r⟩ := HTH.out.h20 h hf; exact ⟨g, e, rs_turns.kept r hba⟩), h21 := fun h hf => (by obtain ⟨g, e, r⟩ := HTH.out.h21 h hf; exact ⟨g, e, rs_turns.kept r hba⟩), h22 := fun h hf => (by obtain ⟨g, e, r⟩ := HTH.out.h22 h hf; exact ⟨g, e, ss_turns.kept r hba⟩), h23 := fun h hf => (by obtain ⟨g, e, r⟩ := HTH.out.h23 h hf; exact ⟨g, e, ss_turns.kept r hba⟩), h24 := fun h hf => (by obtain ⟨g, e, r, l⟩ := HTH.out.h24 h hf; exact ⟨g, e, (hba.block g (heapE_lt r)).trans r, l⟩), bx := fun b h => Nat.lt_of_lt_of_le (HTH.out.bx b h) hba.size })
    | 19, _, hi, hib =>
      obtain rfl : b19 = false := by simpa using hib
      obtain rfl : b25 = false := by
        cases hbl : b25 with
        | false => rfl
        | true => have h := (HT.q hbl).2.2.2.2.2.2.2.2.2.2.2.2.2.2.2.2.2.2.2.1; cases h
      have hbel := HT.bel rfl
      have d13 : b13 = true := ready_dep hi rfl 13 (by kernel_rfl)
      have d18 : b18 = true := ready_dep hi rfl 18 (by kernel_rfl)
      have hd13 := HT.h13 d13
      subst hd13
      obtain ⟨g18, e18, r18⟩ := HT.h18 d18 rfl
      subst e18
      have HR18 := Lib.hid r18
      clear r18
      have HBE := Lib.hid hbel
      clear HT hbel
      refine wpOp_one rfl rfl (fun K hK => ?_)
      go_simp
      exact hK.out _ _ (.mk b0 b1 b2 b3 b4 b5 b6 b7 b8 b9 b10 b11 b12 b13 b14 b15 b16 b17 b18 true b20 b21 b22 b23 b24 false _ _ _ _ _ _ _ _ _ _ _ _ _ _ _ _ _ _ _ _ _ _ _ _ _ _ { HTH.out with q := fun h => (by cases h), fin := fun h => (by cases h), h19 := fun _ _ => ⟨g18, rfl, HR18.out⟩, o19_13 := fun _ => d13, o19_18 := fun _ => d18, o20_19 := fun _ => rfl })
    | 20, _, hi, hib =>
      obtain rfl : b20 = false := by simpa using hib
      obtain rfl : b25 = false := by
        cases hbl : b25 with
        | false => rfl
        | true => have h := (HT.q hbl).2.2.2.2.2.2.2.2.2.2.2.2.2.2.2.2.2.2.2.2.1; cases h
      have hbel := HT.bel rfl
      have d12 : b12 = true := ready_dep hi rfl 12 (by kernel_rfl)
      have d19 : b19 = true := ready_dep hi rfl 19 (by kernel_rfl)
      obtain ⟨g12, e12, r12⟩ := HT.h12 d12 rfl
      subst e12
      have HR12 := Lib.hid r12
      clear r12
      obtain ⟨g19, e19, r19⟩ := HT.h19 d19 rfl
      subst e19
      have HR19 := Lib.hid r19
      clear r19
      have HBE := Lib.hid hbel
      clear HT hbel
      refine wpOp_one rfl rfl (fun K hK => ?_)
      go_simp
      have hba : Below w'.heap.size w' (w'.alloc (.cells #[.int .i64 1, .int .i64 0, .int .i64 0, .string ⟨#[]⟩, .int .i64 0, .slice (some ⟨g12, 0, none⟩) 1 1, .int .i64 2, .int .i64 0, .int .i64 0, .string ⟨#[]⟩, .int .i64 0, .slice (some ⟨g19, 0, none⟩) 1 1] 91)) := (Below.refl _ w').alloc (Nat.le_refl _) _
      have hnm : ¬ (fun b => b < W.heap.size ∨ v4 = .pointer (some ⟨b, 0, none⟩)) w'.heap.size := by
        rintro (h | h)
        · have := HBE.out.size; omega
        · have := HTH.out.bx _ h; omega
      exact hK.out _ _ (.mk b0 b1 b2 b3 b4 b5 b6 b7 b8 b9 b10 b11 b12 b13 b14 b15 b16 b17 b18 b19 true b21 b22 b23 b24 false _ _ _ _ _ _ _ _ _ _ _ _ _ _ _ _ _ _ _ _ _ _ _ _ _ _ { HTH.out with q := fun h => (by cases h), fin := fun h => (by cases h), bel := fun _ => HBE.out.trans (hba.mono HBE.out.size), h20 := fun _ _ => ⟨w'.heap.size, rfl, rels_two (heap_new w' _) hnm (ps_turns.kept HR12.out hba) (ps_turns.kept HR19.out hba)⟩, o20_12 := fun _ => d12, o20_19 := fun _ => d19, o21_20 := fun _ => rfl, h4 := fun h hf => (by obtain ⟨g, e, r⟩ := HTH.out.h4 h hf; exact ⟨g, e, rs_turns.kept r hba⟩), h5 := fun h hf => (by obtain ⟨g, e, r⟩ := HTH.out.h5 h hf; exact ⟨g, e, rs_turns.kept r hba⟩), h9 := fun h hf => (by obtain ⟨g, e, r⟩ := HTH.out.h9 h hf; exact ⟨g, e, rg_turns.kept r hba⟩), h10 := fun h hf => (by obtain ⟨g, e, r⟩ := HTH.out.h10 h hf; exact ⟨g, e, rg_turns.kept r hba⟩), h11 := fun h hf => (by obtain ⟨g, e, r⟩ := HTH.out.h11 h hf; exact ⟨g, e, ps_turns.kept r hba⟩), h12 := fun h hf => (by obtain ⟨g, e, r⟩ := HTH.out.h12 h hf; exact ⟨g, e, ps_turns.kept r hba⟩), h16 := fun h hf => (by obtain ⟨g, e, r⟩ := HTH.out.h16 h hf; exact ⟨g, e, rg_turns.kept r hba⟩), h17 := fun h hf => (by obtain ⟨g, e, r⟩ := HTH.out.h17 h hf; exact ⟨g, e, rg_turns.kept r hba⟩), h18 := fun h hf => (by obtain ⟨g, e, r⟩ := HTH.out.h18 h hf; exact ⟨g, e, ps_turns.kept r hba⟩), h19 := fun h hf => (by obtain ⟨g, e, r⟩ := HTH.out.h19 h hf; exact ⟨g, e, ps_turns.kept r hba⟩), h21 := fun h hf => (by obtain ⟨g, e, r⟩ := HTH.out.h21 h hf; exact ⟨g, e, rs_turns.kept r hba⟩), h22 := fun h hf => (by obtain ⟨g, e, r⟩ := HTH.out.h22 h hf; exact ⟨g, e, ss_turns.kept r hba⟩), h23 := fun h hf => (by obtain ⟨g, e, r⟩ := HTH.out.h23 h hf; exact ⟨g, e, ss_turns.kept r hba⟩), h24 := fun h hf => (by obtain ⟨g, e, r, l⟩ := HTH.out.h24 h hf; exact ⟨g, e, (hba.block g (heapE_lt r)).trans r, l⟩), bx := fun b h => Nat.lt_of_lt_of_le (HTH.out.bx b h) hba.size })
    | 21, _, hi, hib =>
      obtain rfl : b21 = false := by simpa using hib
      obtain rfl : b25 = false := by
        cases hbl : b25 with
        | false => rfl
        | true => have h := (HT.q hbl).2.2.2.2.2.2.2.2.2.2.2.2.2.2.2.2.2.2.2.2.2.1; cases h
      have hbel := HT.bel rfl
      have d20 : b20 = true := ready_dep hi rfl 20 (by kernel_rfl)
      obtain ⟨g20, e20, r20⟩ := HT.h20 d20 rfl
      subst e20
      have HR20 := Lib.hid r20
      clear r20
      have HBE := Lib.hid hbel
      clear HT hbel
      refine wpOp_one rfl rfl (fun K hK => ?_)
      go_simp
      exact hK.out _ _ (.mk b0 b1 b2 b3 b4 b5 b6 b7 b8 b9 b10 b11 b12 b13 b14 b15 b16 b17 b18 b19 b20 true b22 b23 b24 false _ _ _ _ _ _ _ _ _ _ _ _ _ _ _ _ _ _ _ _ _ _ _ _ _ _ { HTH.out with q := fun h => (by cases h), fin := fun h => (by cases h), h21 := fun _ _ => ⟨g20, rfl, HR20.out⟩, o21_20 := fun _ => d20, o22_21 := fun _ => rfl })
    | 22, _, hi, hib =>
      obtain rfl : b22 = false := by simpa using hib
      obtain rfl : b25 = false := by
        cases hbl : b25 with
        | false => rfl
        | true => have h := (HT.q hbl).2.2.2.2.2.2.2.2.2.2.2.2.2.2.2.2.2.2.2.2.2.2.1; cases h
      have hbel := HT.bel rfl
      have d5 : b5 = true := ready_dep hi rfl 5 (by kernel_rfl)
      have d21 : b21 = true := ready_dep hi rfl 21 (by kernel_rfl)
      obtain ⟨g5, e5, r5⟩ := HT.h5 d5 rfl
      subst e5
      have HR5 := Lib.hid r5
      clear r5
      obtain ⟨g21, e21, r21⟩ := HT.h21 d21 rfl
      subst e21
      have HR21 := Lib.hid r21
      clear r21
      have HBE := Lib.hid hbel
      clear HT hbel
      refine wpOp_one rfl rfl (fun K hK => ?_)
      go_simp
      have hba : Below w'.heap.size w' (w'.alloc (.cells #[.string ⟨#[97]⟩, .slice (some ⟨g5, 0, none⟩) 2 2, .string ⟨#[98]⟩, .slice (some ⟨g21, 0, none⟩) 2 2] 94)) := (Below.refl _ w').alloc (Nat.le_refl _) _
      have hnm : ¬ (fun b => b < W.heap.size ∨ v4 = .pointer (some ⟨b, 0, none⟩)) w'.heap.size := by
        rintro (h | h)
        · have := HBE.out.size; omega
        · have := HTH.out.bx _ h; omega
      exact hK.out _ _ (.mk b0 b1 b2 b3 b4 b5 b6 b7 b8 b9 b10 b11 b12 b13 b14 b15 b16 b17 b18 b19 b20 b21 true b23 b24 false _ _ _ _ _ _ _ _ _ _ _ _ _ _ _ _ _ _ _ _ _ _ _ _ _ _ { HTH.out with q := fun h => (by cases h), fin := fun h => (by cases h), bel := fun _ => HBE.out.trans (hba.mono HBE.out.size), h22 := fun _ _ => ⟨w'.heap.size, rfl, svs_two (heap_new w' _) hnm (rs_turns.kept HR5.out hba) (rs_turns.kept HR21.out hba)⟩, o22_5 := fun _ => d5, o22_21 := fun _ => d21, o23_22 := fun _ => rfl, h4 := fun h hf => (by obtain ⟨g, e, r⟩ := HTH.out.h4 h hf; exact ⟨g, e, rs_turns.kept r hba⟩), h5 := fun h hf => (by obtain ⟨g, e, r⟩ := HTH.out.h5 h hf; exact ⟨g, e, rs_turns.kept r hba⟩), h9 := fun h hf => (by obtain ⟨g, e, r⟩ := HTH.out.h9 h hf; exact ⟨g, e, rg_turns.kept r hba⟩), h10 := fun h hf => (by obtain ⟨g, e, r⟩ := HTH.out.h10 h hf; exact ⟨g, e, rg_turns.kept r hba⟩), h11 := fun h hf => (by obtain ⟨g, e, r⟩ := HTH.out.h11 h hf; exact ⟨g, e, ps_turns.kept r hba⟩), h12 := fun h hf => (by obtain ⟨g, e, r⟩ := HTH.out.h12 h hf; exact ⟨g, e, ps_turns.kept r hba⟩), h16 := fun h hf => (by obtain ⟨g, e, r⟩ := HTH.out.h16 h hf; exact ⟨g, e, rg_turns.kept r hba⟩), h17 := fun h hf => (by obtain ⟨g, e, r⟩ := HTH.out.h17 h hf; exact ⟨g, e, rg_turns.kept r hba⟩), h18 := fun h hf => (by obtain ⟨g, e, r⟩ := HTH.out.h18 h hf; exact ⟨g, e, ps_turns.kept r hba⟩), h19 := fun h hf => (by obtain ⟨g, e, r⟩ := HTH.out.h19 h hf; exact ⟨g, e, ps_turns.kept r hba⟩), h20 := fun h hf => (by obtain ⟨g, e, r⟩ := HTH.out.h20 h hf; exact ⟨g, e, rs_turns.kept r hba⟩), h21 := fun h hf => (by obtain ⟨g, e, r⟩ := HTH.out.h21 h hf; exact ⟨g, e, rs_turns.kept r hba⟩), h23 := fun h hf => (by obtain ⟨g, e, r⟩ := HTH.out.h23 h hf; exact ⟨g, e, ss_turns.kept r hba⟩), h24 := fun h hf => (by obtain ⟨g, e, r, l⟩ := HTH.out.h24 h hf; exact ⟨g, e, (hba.block g (heapE_lt r)).trans r, l⟩), bx := fun b h => Nat.lt_of_lt_of_le (HTH.out.bx b h) hba.size })
    | 23, _, hi, hib =>
      obtain rfl : b23 = false := by simpa using hib
      obtain rfl : b25 = false := by
        cases hbl : b25 with
        | false => rfl
        | true => have h := (HT.q hbl).2.2.2.2.2.2.2.2.2.2.2.2.2.2.2.2.2.2.2.2.2.2.2.1; cases h
      have hbel := HT.bel rfl
      have d22 : b22 = true := ready_dep hi rfl 22 (by kernel_rfl)
      obtain ⟨g22, e22, r22⟩ := HT.h22 d22 rfl
      subst e22
      have HR22 := Lib.hid r22
      clear r22
      have HBE := Lib.hid hbel
      clear HT hbel
      refine wpOp_one rfl rfl (fun K hK => ?_)
      go_simp
      exact hK.out _ _ (.mk b0 b1 b2 b3 b4 b5 b6 b7 b8 b9 b10 b11 b12 b13 b14 b15 b16 b17 b18 b19 b20 b21 b22 true b24 false _ _ _ _ _ _ _ _ _ _ _ _ _ _ _ _ _ _ _ _ _ _ _ _ _ _ { HTH.out with q := fun h => (by cases h), fin := fun h => (by cases h), h23 := fun _ _ => ⟨g22, rfl, HR22.out⟩, o23_22 := fun _ => d22 })
    | 24, _, hi, hib =>
      obtain rfl : b24 = false := by simpa using hib
      obtain rfl : b25 = false := by
        cases hbl : b25 with
        | false => rfl
        | true => have h := (HT.q hbl).2.2.2.2.2.2.2.2.2.2.2.2.2.2.2.2.2.2.2.2.2.2.2.2; cases h
      have hbel := HT.bel rfl
      obtain rfl : v4 = undef := HT.nb rfl
      have HBE := Lib.hid hbel
      clear HT hbel
      refine wpOp_one rfl rfl (fun K hK => ?_)
      go_simp
      have hba : Below w'.heap.size w' (w'.alloc (.cells #[.slice none 0 0] 24)) := (Below.refl _ w').alloc (Nat.le_refl _) _
      exact hK.out _ _ (.mk b0 b1 b2 b3 b4 b5 b6 b7 b8 b9 b10 b11 b12 b13 b14 b15 b16 b17 b18 b19 b20 b21 b22 b23 true false _ _ _ _ _ _ _ _ _ _ _ _ _ _ _ _ _ _ _ _ _ _ _ _ _ _ { HTH.out with q := fun h => (by cases h), fin := fun h => (by cases h), bel := fun _ => HBE.out.trans (hba.mono HBE.out.size), nb := fun h => (by cases h), bx := fun b h => (by injection h with h; injection h with h; injection h with h _; subst h; simp), h24 := fun _ _ => ⟨w'.heap.size, rfl, heap_new w' _, HBE.out.size⟩, h4 := fun h hf => (by obtain ⟨g, e, r⟩ := HTH.out.h4 h hf; exact ⟨g, e, rs_turns.go r (FrM.of_grown (row := none) (grown_alloc1 w' _ none) (fun g hg => by cases hg)) (fun b hb2 => hb2.elim (fun h => .inl (.inl h)) (fun h => .inr (by injection h with h; injection h with h; injection h with h _; omega)))⟩), h5 := fun h hf => (by obtain ⟨g, e, r⟩ := HTH.out.h5 h hf; exact ⟨g, e, rs_turns.go r (FrM.of_grown (row := none) (grown_alloc1 w' _ none) (fun g hg => by cases hg)) (fun b hb2 => hb2.elim (fun h => .inl (.inl h)) (fun h => .inr (by injection h with h; injection h with h; injection h with h _; omega)))⟩), h9 := fun h hf => (by obtain ⟨g, e, r⟩ := HTH.out.h9 h hf; exact ⟨g, e, rg_turns.go r (FrM.of_grown (row := none) (grown_alloc1 w' _ none) (fun g hg => by cases hg)) (fun b hb2 => hb2.elim (fun h => .inl (.inl h)) (fun h => .inr (by injection h with h; injection h with h; injection h with h _; omega)))⟩), h10 := fun h hf => (by obtain ⟨g, e, r⟩ := HTH.out.h10 h hf; exact ⟨g, e, rg_turns.go r (FrM.of_grown (row := none) (grown_alloc1 w' _ none) (fun g hg => by cases hg)) (fun b hb2 => hb2.elim (fun h => .inl (.inl h)) (fun h => .inr (by injection h with h; injection h with h; injection h with h _; omega)))⟩), h11 := fun h hf => (by obtain ⟨g, e, r⟩ := HTH.out.h11 h hf; exact ⟨g, e, ps_turns.go r (FrM.of_grown (row := none) (grown_alloc1 w' _ none) (fun g hg => by cases hg)) (fun b hb2 => hb2.elim (fun h => .inl (.inl h)) (fun h => .inr (by injection h with h; injection h with h; injection h with h _; omega)))⟩), h12 := fun h hf => (by obtain ⟨g, e, r⟩ := HTH.out.h12 h hf; exact ⟨g, e, ps_turns.go r (FrM.of_grown (row := none) (grown_alloc1 w' _ none) (fun g hg => by cases hg)) (fun b hb2 => hb2.elim (fun h => .inl (.inl h)) (fun h => .inr (by injection h with h; injection h with h; injection h with h _; omega)))⟩), h16 := fun h hf => (by obtain ⟨g, e, r⟩ := HTH.out.h16 h hf; exact ⟨g, e, rg_turns.go r (FrM.of_grown (row := none) (grown_alloc1 w' _ none) (fun g hg => by cases hg)) (fun b hb2 => hb2.elim (fun h => .inl (.inl h)) (fun h => .inr (by injection h with h; injection h with h; injection h with h _; omega)))⟩), h17 := fun h hf => (by obtain ⟨g, e, r⟩ := HTH.out.h17 h hf; exact ⟨g, e, rg_turns.go r (FrM.of_grown (row := none) (grown_alloc1 w' _ none) (fun g hg => by cases hg)) (fun b hb2 => hb2.elim (fun h => .inl (.inl h)) (fun h => .inr (by injection h with h; injection h with h; injection h with h _; omega)))⟩), h18 := fun h hf => (by obtain ⟨g, e, r⟩ := HTH.out.h18 h hf; exact ⟨g, e, ps_turns.go r (FrM.of_grown (row := none) (grown_alloc1 w' _ none) (fun g hg => by cases hg)) (fun b hb2 => hb2.elim (fun h => .inl (.inl h)) (fun h => .inr (by injection h with h; injection h with h; injection h with h _; omega)))⟩), h19 := fun h hf => (by obtain ⟨g, e, r⟩ := HTH.out.h19 h hf; exact ⟨g, e, ps_turns.go r (FrM.of_grown (row := none) (grown_alloc1 w' _ none) (fun g hg => by cases hg)) (fun b hb2 => hb2.elim (fun h => .inl (.inl h)) (fun h => .inr (by injection h with h; injection h with h; injection h with h _; omega)))⟩), h20 := fun h hf => (by obtain ⟨g, e, r⟩ := HTH.out.h20 h hf; exact ⟨g, e, rs_turns.go r (FrM.of_grown (row := none) (grown_alloc1 w' _ none) (fun g hg => by cases hg)) (fun b hb2 => hb2.elim (fun h => .inl (.inl h)) (fun h => .inr (by injection h with h; injection h with h; injection h with h _; omega)))⟩), h21 := fun h hf => (by obtain ⟨g, e, r⟩ := HTH.out.h21 h hf; exact ⟨g, e, rs_turns.go r (FrM.of_grown (row := none) (grown_alloc1 w' _ none) (fun g hg => by cases hg)) (fun b hb2 => hb2.elim (fun h => .inl (.inl h)) (fun h => .inr (by injection h with h; injection h with h; injection h with h _; omega)))⟩), h22 := fun h hf => (by obtain ⟨g, e, r⟩ := HTH.out.h22 h hf; exact ⟨g, e, ss_turns.go r (FrM.of_grown (row := none) (grown_alloc1 w' _ none) (fun g hg => by cases hg)) (fun b hb2 => hb2.elim (fun h => .inl (.inl h)) (fun h => .inr (by injection h with h; injection h with h; injection h with h _; omega)))⟩), h23 := fun h hf => (by obtain ⟨g, e, r⟩ := HTH.out.h23 h hf; exact ⟨g, e, ss_turns.go r (FrM.of_grown (row := none) (grown_alloc1 w' _ none) (fun g hg => by cases hg)) (fun b hb2 => hb2.elim (fun h => .inl (.inl h)) (fun h => .inr (by injection h with h; injection h with h; injection h with h _; omega)))⟩) })
    | 25, _, hi, hib =>
      obtain rfl : b25 = false := by simpa using hib
      have hbel := HT.bel rfl
      have d24 : b24 = true := ready_dep hi rfl 24 (by kernel_rfl)
      have d23 : b23 = true := ready_dep hi rfl 23 (by kernel_rfl)
      obtain ⟨g24, e24, r24, l24⟩ := HT.h24 d24 rfl
      subst e24
      have HR24 := Lib.hid r24
      have HL24 := Lib.hid l24
      clear r24 l24
      obtain ⟨g23, e23, r23⟩ := HT.h23 d23 rfl
      subst e23
      have HR23 := Lib.hid r23
      clear r23
      have p0f := row1f HR24.out
      obtain ⟨p0, pf⟩ := p0f
      have HBE := Lib.hid hbel
      clear HT hbel
      refine wpOp_one rfl rfl (fun K hK => ?_)
      go_simp
      have hs := grown_set w' g24 0 (.slice (some ⟨g23, 0, none⟩) 2 2)
      exact hK.out _ _ (.mk b0 b1 b2 b3 b4 b5 b6 b7 b8 b9 b10 b11 b12 b13 b14 b15 b16 b17 b18 b19 b20 b21 b22 b23 b24 true _ _ _ _ _ _ _ _ _ _ _ _ _ _ _ _ _ _ _ _ _ _ _ _ _ _ { HTH.out with q := fun _ => ⟨(HTH.out.o1_0 (HTH.out.o4_1 (HTH.out.o5_4 (HTH.out.o22_5 (HTH.out.o23_22 d23))))), (HTH.out.o4_1 (HTH.out.o5_4 (HTH.out.o22_5 (HTH.out.o23_22 d23)))), (HTH.out.o3_2 (HTH.out.o4_3 (HTH.out.o5_4 (HTH.out.o22_5 (HTH.out.o23_22 d23))))), (HTH.out.o4_3 (HTH.out.o5_4 (HTH.out.o22_5 (HTH.out.o23_22 d23)))), (HTH.out.o5_4 (HTH.out.o22_5 (HTH.out.o23_22 d23))), (HTH.out.o22_5 (HTH.out.o23_22 d23)), (HTH.out.o12_6 (HTH.out.o20_12 (HTH.out.o21_20 (HTH.out.o22_21 (HTH.out.o23_22 d23))))), (HTH.out.o9_7 (HTH.out.o10_9 (HTH.out.o11_10 (HTH.out.o12_11 (HTH.out.o20_12 (HTH.out.o21_20 (HTH.out.o22_21 (HTH.out.o23_22 d23)))))))), (HTH.out.o9_8 (HTH.out.o10_9 (HTH.out.o11_10 (HTH.out.o12_11 (HTH.out.o20_12 (HTH.out.o21_20 (HTH.out.o22_21 (HTH.out.o23_22 d23)))))))), (HTH.out.o10_9 (HTH.out.o11_10 (HTH.out.o12_11 (HTH.out.o20_12 (HTH.out.o21_20 (HTH.out.o22_21 (HTH.out.o23_22 d23))))))), (HTH.out.o11_10 (HTH.out.o12_11 (HTH.out.o20_12 (HTH.out.o21_20 (HTH.out.o22_21 (HTH.out.o23_22 d23)))))), (HTH.out.o12_11 (HTH.out.o20_12 (HTH.out.o21_20 (HTH.out.o22_21 (HTH.out.o23_22 d23))))), (HTH.out.o20_12 (HTH.out.o21_20 (HTH.out.o22_21 (HTH.out.o23_22 d23)))), (HTH.out.o19_13 (HTH.out.o20_19 (HTH.out.o21_20 (HTH.out.o22_21 (HTH.out.o23_22 d23))))), (HTH.out.o16_14 (HTH.out.o17_16 (HTH.out.o18_17 (HTH.out.o19_18 (HTH.out.o20_19 (HTH.out.o21_20 (HTH.out.o22_21 (HTH.out.o23_22 d23)))))))), (HTH.out.o16_15 (HTH.out.o17_16 (HTH.out.o18_17 (HTH.out.o19_18 (HTH.out.o20_19 (HTH.out.o21_20 (HTH.out.o22_21 (HTH.out.o23_22 d23)))))))), (HTH.out.o17_16 (HTH.out.o18_17 (HTH.out.o19_18 (HTH.out.o20_19 (HTH.out.o21_20 (HTH.out.o22_21 (HTH.out.o23_22 d23))))))), (HTH.out.o18_17 (HTH.out.o19_18 (HTH.out.o20_19 (HTH.out.o21_20 (HTH.out.o22_21 (HTH.out.o23_22 d23)))))), (HTH.out.o19_18 (HTH.out.o20_19 (HTH.out.o21_20 (HTH.out.o22_21 (HTH.out.o23_22 d23))))), (HTH.out.o20_19 (HTH.out.o21_20 (HTH.out.o22_21 (HTH.out.o23_22 d23)))), (HTH.out.o21_20 (HTH.out.o22_21 (HTH.out.o23_22 d23))), (HTH.out.o22_21 (HTH.out.o23_22 d23)), (HTH.out.o23_22 d23), d23, d24⟩, bel := fun h => (by cases h), bx := fun b h => (by have := HTH.out.bx b h; simpa using this), h4 := fun _ h => (by cases h), h5 := fun _ h => (by cases h), h9 := fun _ h => (by cases h), h10 := fun _ h => (by cases h), h11 := fun _ h => (by cases h), h12 := fun _ h => (by cases h), h16 := fun _ h => (by cases h), h17 := fun _ h => (by cases h), h18 := fun _ h => (by cases h), h19 := fun _ h => (by cases h), h20 := fun _ h => (by cases h), h21 := fun _ h => (by cases h), h22 := fun _ h => (by cases h), h23 := fun _ h => (by cases h), h24 := fun _ h => (by cases h), fin := fun _ => ⟨g23, g24, rfl, heap_setCell_same w' g24 0 _ _ _ HR24.out, HL24.out, ss_turns.go HR23.out (FrM.of_grown hs (fun g hg => by injection hg with hg; subst hg; exact .inr rfl)) (fun b (hb2 : b < W.heap.size) => .inl (.inl hb2)), HBE.out.setCell (p := ⟨g24, 0, none⟩) HL24.out _⟩ })
  case fin =>
    rintro lq a' w' ⟨b0, b1, b2, b3, b4, b5, b6, b7, b8, b9, b10, b11, b12, b13, b14, b15, b16, b17, b18, b19, b20, b21, b22, b23, b24, b25, v14, v15, v16, v17, v18, v19, v20, v21, v22, v23, v24, v25, v26, v27, v28, v29, v30, v31, v32, v33, v34, v35, v36, v37, v4, _, HT⟩ hr
    obtain rfl : b0 = true := by
      cases b0 with
      | true => rfl
      | false => exact (ready_in 0 rfl rfl (by simp [Region.binds]) hr).elim
    obtain rfl : b1 = true := by
      cases b1 with
      | true => rfl
      | false => exact (ready_in 1 rfl rfl (by simp [Region.binds]) hr).elim
    obtain rfl : b2 = true := by
      cases b2 with
      | true => rfl
      | false => exact (ready_in 2 rfl rfl (by simp [Region.binds]) hr).elim
    obtain rfl : b3 = true := by
      cases b3 with
      | true => rfl
      | false => exact (ready_in 3 rfl rfl (by simp [Region.binds]) hr).elim
    obtain rfl : b4 = true := by
      cases b4 with
      | true => rfl
      | false => exact (ready_in 4 rfl rfl (by simp [Region.binds]) hr).elim
    obtain rfl : b5 = true := by
      cases b5 with
      | true => rfl
      | false => exact (ready_in 5 rfl rfl (by simp [Region.binds]) hr).elim
    obtain rfl : b6 = true := by
      cases b6 with
      | true => rfl
      | false => exact (ready_in 6 rfl rfl (by simp [Region.binds]) hr).elim
    obtain rfl : b7 = true := by
      cases b7 with
      | true => rfl
      | false => exact (ready_in 7 rfl rfl (by simp [Region.binds]) hr).elim
    obtain rfl : b8 = true := by
      cases b8 with
      | true => rfl
      | false => exact (ready_in 8 rfl rfl (by simp [Region.binds]) hr).elim
    obtain rfl : b9 = true := by
      cases b9 with
      | true => rfl
      | false => exact (ready_in 9 rfl rfl (by simp [Region.binds]) hr).elim
    obtain rfl : b10 = true := by
      cases b10 with
      | true => rfl
      | false => exact (ready_in 10 rfl rfl (by simp [Region.binds]) hr).elim
    obtain rfl : b11 = true := by
      cases b11 with
      | true => rfl
      | false => exact (ready_in 11 rfl rfl (by simp [Region.binds]) hr).elim
    obtain rfl : b12 = true := by
      cases b12 with
      | true => rfl
      | false => exact (ready_in 12 rfl rfl (by simp [Region.binds]) hr).elim
    obtain rfl : b13 = true := by
      cases b13 with
      | true => rfl
      | false => exact (ready_in 13 rfl rfl (by simp [Region.binds]) hr).elim
    obtain rfl : b14 = true := by
      cases b14 with
      | true => rfl
      | false => exact (ready_in 14 rfl rfl (by simp [Region.binds]) hr).elim
    obtain rfl : b15 = true := by
      cases b15 with
      | true => rfl
      | false => exact (ready_in 15 rfl rfl (by simp [Region.binds]) hr).elim
    obtain rfl : b16 = true := by
      cases b16 with
      | true => rfl
      | false => exact (ready_in 16 rfl rfl (by simp [Region.binds]) hr).elim
    obtain rfl : b17 = true := by
      cases b17 with
      | true => rfl
      | false => exact (ready_in 17 rfl rfl (by simp [Region.binds]) hr).elim
    obtain rfl : b18 = true := by
      cases b18 with
      | true => rfl
      | false => exact (ready_in 18 rfl rfl (by simp [Region.binds]) hr).elim
    obtain rfl : b19 = true := by
      cases b19 with
      | true => rfl
      | false => exact (ready_in 19 rfl rfl (by simp [Region.binds]) hr).elim
    obtain rfl : b20 = true := by
      cases b20 with
      | true => rfl
      | false => exact (ready_in 20 rfl rfl (by simp [Region.binds]) hr).elim
    obtain rfl : b21 = true := by
      cases b21 with
      | true => rfl
      | false => exact (ready_in 21 rfl rfl (by simp [Region.binds]) hr).elim
    obtain rfl : b22 = true := by
      cases b22 with
      | true => rfl
      | false => exact (ready_in 22 rfl rfl (by simp [Region.binds]) hr).elim
    obtain rfl : b23 = true := by
      cases b23 with
      | true => rfl
      | false => exact (ready_in 23 rfl rfl (by simp [Region.binds]) hr).elim
    obtain rfl : b24 = true := by
      cases b24 with
      | true => rfl
      | false => exact (ready_in 24 rfl rfl (by simp [Region.binds]) hr).elim
    obtain rfl : b25 = true := by
      cases b25 with
      | true => rfl
      | false => exact (ready_in 25 rfl rfl (by simp [Region.binds]) hr).elim
    have HF := Lib.hid (HT.fin rfl)
    clear HT hr
    obtain ⟨g, gb, hv, hbox, hgb, hss, hbW⟩ := HF.out
    subst hv
    obtain ⟨hcap, hrd⟩ := ss_turns.go hss (FrM.refl w' _) (M' := fun b => w'.heap.size ≤ b) (fun b hb => .inr hb) |> ssI.rd
    have hlW := LenAt.below HM.out.1 HM.out.2 (HBL.out.trans (hbW.mono HBL.out.size))
    have HA : Hid (CatAt w' w'.heap.size (some ⟨g, 0, none⟩) 2 2 exL) := Lib.hid ⟨hrd, hcap, Nat.le_refl _, ex_sm, hlW.1, hlW.2⟩
    have HWw : Hid (Below w.heap.size w w') := Lib.hid (HBL.out.trans (hbW.mono HBL.out.size))
    have HC0 := Lib.hid hbox
    have HV1' : Hid (w'.heap[w.heap.size]? = _) := Lib.hid ((hbW.block w.heap.size hz0).trans HV1.out)
    have HV2' : Hid (w'.heap[w.heap.size + 1]? = _) := Lib.hid ((hbW.block (w.heap.size + 1) hz1).trans HV2.out)
    have HGB : Hid (gb < w'.heap.size) := Lib.hid (heapE_lt hbox)
    clear hbox hgb hss hbW hcap hrd hlW HF
    -- region 4
    obtain ⟨Y1, HY1⟩ : ∃ Y1, Hid (Y1 = (w'.alloc (.cells #[.int .i64 0, .int .i64 0] 3)).alloc (.cells #[.slice none 0 0, .slice (some ⟨w'.heap.size, 0, none⟩) 2 2] 46)) := ⟨_, Lib.hid rfl⟩
    have hbY1 : Below w'.heap.size w' Y1 := by rw [HY1.out]; exact ((Below.refl _ w').alloc (Nat.le_refl _) _).alloc (by simp) _
    have hzY1 : Y1.heap.size = w'.heap.size + 2 := by rw [HY1.out]; simp
    have HQ1 : Hid (Y1.heap[w'.heap.size + 1]? = some (.cells #[.slice none 0 0, .slice (some ⟨w'.heap.size, 0, none⟩) 2 2] 46 (0, 0))) := Lib.hid (by
      rw [HY1.out]
      have h := heap_new (w'.alloc (.cells #[.int .i64 0, .int .i64 0] 3)) (.cells #[.slice none 0 0, .slice (some ⟨w'.heap.size, 0, none⟩) 2 2] 46)
      rw [World.size_alloc] at h; exact h)
    have HM1 : Hid (Own Y1 w'.heap.size (.slice (some ⟨w'.heap.size, 0, none⟩) 2 2) 2 [0, 0]) := Lib.hid (by
      rw [HY1.out]; exact (Own.lit w' w'.heap.size [0, 0] (Nat.le_refl _) (by decide)).alloc _)
    have HBY1 := Lib.hid hbY1
    have HZY1 := Lib.hid hzY1
    clear hbY1 hzY1
    go_upto_region 5 with fail
    change Code.wp _ _ _ _ ((w'.alloc (.cells #[.int .i64 0, .int .i64 0] 3)).alloc (.cells #[.slice none 0 0, .slice (some ⟨w'.heap.size, 0, none⟩) 2 2] 46))
    rw [← HY1.out]
    -- region 5
    obtain ⟨Z1, HZ1⟩ : ∃ Z1, Hid (Z1 = Y1.alloc (.cells #[.int .i64 0, .int .i64 0] 3)) := ⟨_, Lib.hid rfl⟩
    have hbZ1 : Below Y1.heap.size Y1 Z1 := by rw [HZ1.out]; exact (Below.refl _ Y1).alloc (Nat.le_refl _) _
    have hbZ1' : Below w'.heap.size w' Z1 := HBY1.out.trans (hbZ1.mono HBY1.out.size)
    have hown1 : Own Z1 Y1.heap.size (.slice (some ⟨Y1.heap.size, 0, none⟩) 2 2) 2 [0, 0] := by rw [HZ1.out]; exact Own.lit Y1 Y1.heap.size [0, 0] (Nat.le_refl _) (by decide)
    have hrq1 : ReqAt Z1 Z1.heap.size none 0 (some ⟨w'.heap.size, 0, none⟩) 2 [] [0, 0] := ⟨⟨rfl, fun j hj => absurd hj (by omega)⟩, Rd.of_own (HM1.out.kept hbZ1), by omega, by omega, fun p hp => by simp at hp, Nat.le_refl _⟩
    have HS1 := Lib.hid (solve_any (c2 := 2) (cp := 0) (cm := 2) (b := 100) (HA.out.below hbZ1') (by rw [ex_chk]) (Rd.of_own hown1) (Nat.le_refl _) hrq1)
    have HBZ1 := Lib.hid hbZ1'
    have HQz1 : Hid (Z1.heap[w'.heap.size + 1]? = _) := Lib.hid ((hbZ1.block (w'.heap.size + 1) (heapE_lt HQ1.out)).trans HQ1.out)
    have HMz1 := Lib.hid (HM1.out.kept hbZ1)
    obtain ⟨x0, _⟩ := row1f ((HBY1.out.block gb HGB.out).trans HC0.out)
    have hltq := heapE_lt HQ1.out
    obtain ⟨y0, y1, _⟩ := row2 HQ1.out
    obtain ⟨x0', _⟩ := row1f ((hbZ1'.block gb HGB.out).trans HC0.out)
    obtain ⟨y0', y1', _⟩ := row2 HQz1.out
    clear hbZ1 hbZ1' hown1 hrq1
    go_wp2_with fail
    try rw [← HZ1.out]
    refine HS1.out.mono ?_
    rintro e w2 ⟨hb, ho⟩
    rw [ex_sol1, show exL.length = 2 from rfl] at ho
    have HB2 : Hid (Below w'.heap.size w' w2) := Lib.hid (HBZ1.out.trans (hb.mono HBZ1.out.size))
    have HQ2 : Hid (w2.heap[w'.heap.size + 1]? = _) := Lib.hid ((hb.block (w'.heap.size + 1) (heapE_lt HQz1.out)).trans HQz1.out)
    have HM2 := Lib.hid (HMz1.out.kept hb)
    have HZ12 : Hid (Z1.heap.size ≤ w2.heap.size ∧ w'.heap.size + 2 ≤ Z1.heap.size) := Lib.hid ⟨hb.size, by rw [HZ1.out, World.size_alloc, HZY1.out]; omega⟩
    clear hb HS1 x0 y0 y1 x0' y0' y1' hltq
    rcases ho with ⟨_, _, v6, rfl, hown⟩ | ⟨hne, _⟩
    rotate_left
    · exact absurd rfl hne
    obtain ⟨A6, c6, rfl, _⟩ := hown.shape
    have HO6 := Lib.hid hown
    have HA6 := Lib.hid (own_lt hown)
    clear hown
    -- region 6
    have HCL6 := Lib.hid (anc1_any 1 1 0 0 ⟨#[]⟩ w2)
    obtain ⟨v0, v1, v2, v3⟩ := cells4 ((HB2.out.block w.heap.size (heapE_lt HV1'.out)).trans HV1'.out)
    obtain ⟨y0, y1, f0, f1⟩ := row2 HQ2.out
    go_wp2_with fail
    go_at_fn 35
    refine HCL6.out.mono ?_
    rintro e w3 ⟨g3, rfl, hrg, hb⟩
    have HB3 : Hid (Below w'.heap.size w' w3) := Lib.hid (HB2.out.trans (hb.mono HB2.out.size))
    have HQ3 : Hid (w3.heap[w'.heap.size + 1]? = _) := Lib.hid ((hb.block (w'.heap.size + 1) (heapE_lt HQ2.out)).trans HQ2.out)
    have HM3 := Lib.hid (HM2.out.kept hb)
    have HO63 := Lib.hid (HO6.out.kept hb)
    have HZ23 : Hid (Z1.heap.size ≤ w3.heap.size) := Lib.hid (Nat.le_trans HZ12.out.1 hb.size)
    have HZW : Hid (w2.heap.size ≤ w3.heap.size) := Lib.hid hb.size
    have HRG3 : Hid (rgI w3 (fun b => b < w2.heap.size) [.slice (some ⟨g3, 0, none⟩) 1 1] [[cvA 1 1]]) := Lib.hid hrg
    clear hb hrg v0 v1 v2 v3 y0 y1 f0 f1 HCL6
    have hz12 := HZ12.out
    have hzw23 := HZW.out
    have hzz2 : w'.heap.size + 1 < w2.heap.size := heapE_lt HQ2.out
    obtain ⟨S3, HS3⟩ : ∃ S3, Hid (S3 = w3.setCell ⟨w'.heap.size + 1, 0, none⟩ (.slice (some ⟨w3.heap.size, 0, none⟩) 1 1)) := ⟨_, Lib.hid rfl⟩
    have hgS := grown_set w3 (w'.heap.size + 1) 0 (.slice (some ⟨w3.heap.size, 0, none⟩) 1 1)
    rw [← HS3.out] at hgS
    have hsS : S3.heap.size = w3.heap.size := by rw [HS3.out]; simp
    have HSS := Lib.hid hsS
    have HBS3 : Hid (Below w'.heap.size w' S3) := Lib.hid (by rw [HS3.out]; exact HB3.out.setCell (p := ⟨w'.heap.size + 1, 0, none⟩) (by show w'.heap.size ≤ w'.heap.size + 1; omega) _)
    have HQS : Hid (S3.heap[w'.heap.size + 1]? = some (.cells #[.slice (some ⟨w3.heap.size, 0, none⟩) 1 1, .slice (some ⟨w'.heap.size, 0, none⟩) 2 2] 46 (0, 0))) := Lib.hid (by rw [HS3.out]; exact heap_setCell_same w3 (w'.heap.size + 1) 0 _ _ _ HQ3.out)
    have HMS : Hid (Own S3 w'.heap.size (.slice (some ⟨w'.heap.size, 0, none⟩) 2 2) 2 [0, 0]) := Lib.hid (HM3.out.other hgS (fun g hg e => by
      have h1 : some w'.heap.size = some g := hg
      injection h1 with h1
      injection e with e
      omega))
    have HO6S : Hid (Own S3 Z1.heap.size (.slice A6 2 c6) 2 [1, 1]) := Lib.hid (HO63.out.other hgS (fun g hg e => by
      have h1 := HO63.out.ge g hg
      injection e with e
      have := HZ12.out.2
      omega))
    have HRGS : Hid (rgI S3 (fun b => b < w2.heap.size) [.slice (some ⟨g3, 0, none⟩) 1 1] [[cvA 1 1]]) := Lib.hid (rg_turns.go HRG3.out (FrM.of_grown hgS (fun g hg => by injection hg with hg; subst hg; exact hzz2)) (fun b hb => .inl hb))
    obtain ⟨Y3, HY3⟩ : ∃ Y3, Hid (Y3 = S3.alloc (.cells #[.int .i64 1, .slice (some ⟨g3, 0, none⟩) 1 1] 97)) := ⟨_, Lib.hid rfl⟩
    have hbY3 : Below S3.heap.size S3 Y3 := by rw [HY3.out]; exact (Below.refl _ S3).alloc (Nat.le_refl _) _
    have HZY3 : Hid (Y3.heap.size = w3.heap.size + 1) := Lib.hid (by rw [HY3.out, World.size_alloc, HSS.out])
    have HOWY : Hid (OwnJ 97 2 pnI Y3 w2.heap.size (.slice (some ⟨w3.heap.size, 0, none⟩) 1 1) [(1, [[cvA 1 1]])]) := Lib.hid (by
      have h := pin_own (w := S3) (k := 1) (by rw [HSS.out]; exact hzw23) HRGS.out
      rw [← HY3.out, HSS.out] at h
      exact h)
    have HB3Y : Hid (Below w'.heap.size w' Y3) := Lib.hid (HBS3.out.trans (hbY3.mono HBS3.out.size))
    have HQY3 : Hid (Y3.heap[w'.heap.size + 1]? = _) := Lib.hid ((hbY3.block (w'.heap.size + 1) (heapE_lt HQS.out)).trans HQS.out)
    have HMY := Lib.hid (HMS.out.kept hbY3)
    have HO6Y := Lib.hid (HO6S.out.kept hbY3)
    obtain ⟨y0, y1, f0, f1⟩ := row2 HQ3.out
    have hltq := heapE_lt HQ3.out
    clear hbY3 hgS hsS
    go_upto_region 7 with fail
    change Code.wp _ _ _ _ ((w3.setCell ⟨w'.heap.size + 1, 0, none⟩ (.slice (some ⟨w3.heap.size, 0, none⟩) 1 1)).alloc (.cells #[.int .i64 1, .slice (some ⟨g3, 0, none⟩) 1 1] 97))
    rw [← HS3.out, ← HY3.out]
    clear y0 y1 f0 f1 hltq
    -- region 7
    obtain ⟨Z3, HZ3⟩ : ∃ Z3, Hid (Z3 = Y3.alloc (.cells #[.int .i64 0, .int .i64 0] 3)) := ⟨_, Lib.hid rfl⟩
    have hbZ3 : Below Y3.heap.size Y3 Z3 := by rw [HZ3.out]; exact (Below.refl _ Y3).alloc (Nat.le_refl _) _
    have hbZ3' : Below w'.heap.size w' Z3 := HB3Y.out.trans (hbZ3.mono HB3Y.out.size)
    have hown3 : Own Z3 Y3.heap.size (.slice (some ⟨Y3.heap.size, 0, none⟩) 2 2) 2 [0, 0] := by rw [HZ3.out]; exact Own.lit Y3 Y3.heap.size [0, 0] (Nat.le_refl _) (by decide)
    have hrq3 : ReqAt Z3 Z3.heap.size (some ⟨w3.heap.size, 0, none⟩) 1 (some ⟨w'.heap.size, 0, none⟩) 2 [(1, [[cvA 1 1]])] [0, 0] := ⟨(HOWY.out.kept pn_turns hbZ3).rd pn_turns (fun b hb => .inr hb), Rd.of_own (HMY.out.kept hbZ3), by omega, by omega, fun p hp => by
      obtain rfl : p = (1, [[cvA 1 1]]) := by simpa using hp
      exact sm_one 1 1, Nat.le_refl _⟩
    have HSL3 := Lib.hid (solve_any (c2 := 2) (cp := 1) (cm := 2) (b := 100) (HA.out.below hbZ3') (by rw [ex_chk]) (Rd.of_own hown3) (Nat.le_refl _) hrq3)
    have HBZ3 := Lib.hid hbZ3'
    have HQz3 : Hid (Z3.heap[w'.heap.size + 1]? = _) := Lib.hid ((hbZ3.block (w'.heap.size + 1) (heapE_lt HQY3.out)).trans HQY3.out)
    have HMz3 := Lib.hid (HMY.out.kept hbZ3)
    have HOz3 := Lib.hid (HOWY.out.kept pn_turns hbZ3)
    have HO6z := Lib.hid (HO6Y.out.kept hbZ3)
    have HZZ3 : Hid (Y3.heap.size < Z3.heap.size) := Lib.hid (by rw [HZ3.out]; simp)
    obtain ⟨x0, _⟩ := row1f ((HB3Y.out.block gb HGB.out).trans HC0.out)
    have hltq := heapE_lt HQY3.out
    obtain ⟨y0, y1, _⟩ := row2 HQY3.out
    obtain ⟨x0', _⟩ := row1f ((hbZ3'.block gb HGB.out).trans HC0.out)
    obtain ⟨y0', y1', _⟩ := row2 HQz3.out
    clear hbZ3 hbZ3' hown3 hrq3
    go_wp2_with fail
    try rw [← HZ3.out]
    refine HSL3.out.mono ?_
    rintro e w4 ⟨hb, ho⟩
    rw [ex_sol2, show exL.length = 2 from rfl] at ho
    have HB4 : Hid (Below w'.heap.size w' w4) := Lib.hid (HBZ3.out.trans (hb.mono HBZ3.out.size))
    have HQ4 : Hid (w4.heap[w'.heap.size + 1]? = _) := Lib.hid ((hb.block (w'.heap.size + 1) (heapE_lt HQz3.out)).trans HQz3.out)
    have HM4 := Lib.hid (HMz3.out.kept hb)
    have HOW4 := Lib.hid (HOz3.out.kept pn_turns hb)
    have HO64 := Lib.hid (HO6z.out.kept hb)
    have HZ34 : Hid (Z3.heap.size ≤ w4.heap.size) := Lib.hid hb.size
    clear hb HSL3 x0 y0 y1 x0' y0' y1' hltq
    rcases ho with ⟨_, _, v8, rfl, hown⟩ | ⟨hne, _⟩
    rotate_left
    · exact absurd rfl hne
    obtain ⟨A8, c8, rfl, _⟩ := hown.shape
    have HO8 := Lib.hid hown
    clear hown
    -- region 8
    go_upto_region 8 with fail
    obtain ⟨Y, HYY⟩ : ∃ Y, Hid (Y = w4) := ⟨_, Lib.hid rfl⟩
    rw [← HYY.out] at HO8 HO64 HOW4 HM4 HQ4 HB4 HZ34 ⊢
    obtain ⟨qb, HQB⟩ : ∃ qb, Hid (w'.heap.size + 1 = qb) := ⟨_, Lib.hid rfl⟩
    obtain ⟨pg, HPG⟩ : ∃ pg, Hid (w3.heap.size = pg) := ⟨_, Lib.hid rfl⟩
    obtain ⟨bs, HBS⟩ : ∃ bs, Hid (w2.heap.size = bs) := ⟨_, Lib.hid rfl⟩
    have HNUM : Hid (qb < bs ∧ bs ≤ Y.heap.size ∧ qb < Y.heap.size ∧ w'.heap.size < qb) := Lib.hid (by
      have h1 := HZ12.out
      have h2 := HZ34.out
      have h3 := HZZ3.out
      have h4 := HZY3.out
      have h5 := HQB.out
      have h6 := HBS.out
      omega)
    have hqbs := HNUM.out.1
    have hbsY := HNUM.out.2.1
    have hqb := HNUM.out.2.2.1
    have hz1Y : w.heap.size + 1 < Y.heap.size := by have := HNUM.out.2.2.2; have := HWw.out.size; have := heapE_lt HV2'.out; omega
    have HY2 : Hid (Y.heap[w.heap.size + 1]? = _) := Lib.hid ((HB4.out.block (w.heap.size + 1) (heapE_lt HV2'.out)).trans HV2'.out)
    have HBX : Hid (Y.heap[qb]? = some (.cells #[.slice (some ⟨pg, 0, none⟩) 1 1, .slice (some ⟨w'.heap.size, 0, none⟩) 2 2] 46 (0, 0))) := Lib.hid (by rw [← HQB.out, ← HPG.out]; exact HQ4.out)
    have HOW : Hid (OwnJ 97 2 pnI Y bs (.slice (some ⟨pg, 0, none⟩) 1 1) [(1, [[cvA 1 1]])]) := Lib.hid (by rw [← HBS.out, ← HPG.out]; exact HOW4.out)
    obtain ⟨M2, HMM⟩ : ∃ M2 : Option Addr, Hid (some ⟨w'.heap.size, 0, none⟩ = M2) := ⟨_, Lib.hid rfl⟩
    rw [HMM.out] at HBX
    rw [HQB.out, HPG.out]
    obtain ⟨W1, hW1⟩ : ∃ x, x = w' := ⟨_, rfl⟩
    subst hW1
    refine wp_region_inv (by kernel_rfl) (I := A8J Y qb pg bs M2 _ _ _ _ _ _ _ _ _ _ _ _ _ _ _ _ _ _ _ _ _ _ _ _ _ _ _ _ _ _ _ _ _ _ _ _ _ _ _ _ _ _ _ _ _ _ _ _ _ _ _ _ _ _ _ _ _ _ _ _ _ _ _ _ _ _ _ _ _ _ _ _ _ _ _ _ _ _ _ _ _ _ _ _ _ _ _) (.mk false false false false false false false false false false _ _ _ _ _ _ _ _ _ _ ⟨nofun, nofun, fun _ => (Below.refl _ Y).drew, nofun, nofun, nofun, nofun, nofun, nofun, nofun, nofun, nofun, nofun, nofun, nofun, nofun, nofun, nofun, nofun, nofun⟩) ?step ?fin
    case step =>
      rintro lq a' w' ix ⟨b0, b1, b2, b3, b4, b5, b6, b7, b8, b9, v60, v61, v62, v63, v64, v65, v66, v67, v68, _, HT⟩ hi
      obtain ⟨hi_, hib⟩ := ready_lt hi
      have HTH := Lib.hid HT
      match ix, hi_, hi, hib with
      | 0, _, hi, hib =>
        obtain rfl : b0 = false := by simpa using hib
        obtain rfl : b9 = false := by
          cases hbl : b9 with
          | false => rfl
          | true => have h := (HT.q9 hbl).1; cases h
        obtain rfl : b7 = false := by
          cases hbl : b7 with
          | false => rfl
          | true => have h := (HT.q7 hbl).1; cases h
        have hbel := HT.bel rfl
        clear HT hbel
        refine wpOp_one rfl rfl (fun K hK => ?_)
        go_simp
        exact hK.out _ _ (.mk true b1 b2 b3 b4 b5 b6 false b8 false _ _ _ _ _ _ _ _ _ _ { HTH.out with q9 := fun h => (by cases h), fin := fun h => (by cases h), q7 := fun h => (by cases h), h7 := fun h => (by cases h), h0 := fun _ => rfl, o1_0 := fun _ => rfl })
      | 1, _, hi, hib =>
        obtain rfl : b1 = false := by simpa using hib
        obtain rfl : b9 = false := by
          cases hbl : b9 with
          | false => rfl
          | true => have h := (HT.q9 hbl).2.1; cases h
        obtain rfl : b7 = false := by
          cases hbl : b7 with
          | false => rfl
          | true => have h := (HT.q7 hbl).2.1; cases h
        have hbel := HT.bel rfl
        have d0 : b0 = true := ready_dep hi rfl 0 (by kernel_rfl)
        have hd0 := HT.h0 d0
        subst hd0
        obtain ⟨q0, _⟩ := row2 ((hbel.block qb hqb).trans HBX.out)
        clear HT hbel
        refine wpOp_one rfl rfl (fun K hK => ?_)
        go_simp
        exact hK.out _ _ (.mk b0 true b2 b3 b4 b5 b6 false b8 false _ _ _ _ _ _ _ _ _ _ { HTH.out with q9 := fun h => (by cases h), fin := fun h => (by cases h), q7 := fun h => (by cases h), h7 := fun h => (by cases h), h1 := fun _ => rfl, o1_0 := fun _ => d0, o7_1 := fun _ => rfl })
      | 2, _, hi, hib =>
        obtain rfl : b2 = false := by simpa using hib
        obtain rfl : b9 = false := by
          cases hbl : b9 with
          | false => rfl
          | true => have h := (HT.q9 hbl).2.2.1; cases h
        obtain rfl : b7 = false := by
          cases hbl : b7 with
          | false => rfl
          | true => have h := (HT.q7 hbl).2.2.1; cases h
        have hbel := HT.bel rfl
        clear HT hbel
        refine wpOp_one rfl rfl (fun K hK => ?_)
        go_simp
        exact hK.out _ _ (.mk b0 b1 true b3 b4 b5 b6 false b8 false _ _ _ _ _ _ _ _ _ _ { HTH.out with q9 := fun h => (by cases h), fin := fun h => (by cases h), q7 := fun h => (by cases h), h7 := fun h => (by cases h), h2 := fun _ => rfl, o4_2 := fun _ => rfl })
      | 3, _, hi, hib =>
        obtain rfl : b3 = false := by simpa using hib
        obtain rfl : b9 = false := by
          cases hbl : b9 with
          | false => rfl
          | true => have h := (HT.q9 hbl).2.2.2.1; cases h
        obtain rfl : b7 = false := by
          cases hbl : b7 with
          | false => rfl
          | true => have h := (HT.q7 hbl).2.2.2.1; cases h
        have hbel := HT.bel rfl
        obtain ⟨q0, q1, q2, q3⟩ := cells4 ((hbel.block (w.heap.size + 1) hz1Y).trans HY2.out)
        clear HT hbel
        refine wpOp_one rfl rfl (fun K hK => ?_)
        go_simp
        exact hK.out _ _ (.mk b0 b1 b2 true b4 b5 b6 false b8 false _ _ _ _ _ _ _ _ _ _ { HTH.out with q9 := fun h => (by cases h), fin := fun h => (by cases h), q7 := fun h => (by cases h), h7 := fun h => (by cases h), h3 := fun _ => rfl, o4_3 := fun _ => rfl })
      | 4, _, hi, hib =>
        obtain rfl : b4 = false := by simpa using hib
        obtain rfl : b9 = false := by
          cases hbl : b9 with
          | false => rfl
          | true => have h := (HT.q9 hbl).2.2.2.2.1; cases h
        obtain rfl : b7 = false := by
          cases hbl : b7 with
          | false => rfl
          | true => have h := (HT.q7 hbl).2.2.2.2.1; cases h
        have hbel := HT.bel rfl
        have d2 : b2 = true := ready_dep hi rfl 2 (by kernel_rfl)
        have d3 : b3 = true := ready_dep hi rfl 3 (by kernel_rfl)
        have hd2 := HT.h2 d2
        subst hd2
        have hd3 := HT.h3 d3
        subst hd3
        have HC := Lib.hid (anc1_any 1 2 0 0 ⟨#[]⟩ w')
        have HBE := Lib.hid hbel
        clear HT hbel
        refine wpOp_one rfl rfl (fun K hK => ?_)
        go_simp
        go_at_fn 35
        refine HC.out.mono ?_
        rintro e w2 ⟨g, rfl, hp, hb⟩
        have hp2 := rg_turns.go hp (FrM.refl w2 _) (M' := fun b => b < Y.heap.size) (fun b hb2 => .inl (by show b < _; have := HBE.out.size; omega))
        exact hK.out _ _ (.mk b0 b1 b2 b3 true b5 b6 false b8 false _ _ _ _ _ _ _ _ _ _ { HTH.out with q9 := fun h => (by cases h), fin := fun h => (by cases h), q7 := fun h => (by cases h), h7 := fun h => (by cases h), bel := fun _ => HBE.out.trans (hb.mono HBE.out.size), h4 := fun _ _ => ⟨g, rfl, hp2⟩, o4_2 := fun _ => d2, o4_3 := fun _ => d3, o5_4 := fun _ => rfl, h5 := fun h hf => (by obtain ⟨g, e, r⟩ := HTH.out.h5 h hf; exact ⟨g, e, rg_turns.kept r hb⟩), h6 := fun h hf => (by obtain ⟨g, g2, e, r, r2⟩ := HTH.out.h6 h hf; exact ⟨g, g2, e, (hb.block g (heapE_lt r)).trans r, rg_turns.kept r2 hb⟩) })
      | 5, _, hi, hib =>
        obtain rfl : b5 = false := by simpa using hib
        obtain rfl : b9 = false := by
          cases hbl : b9 with
          | false => rfl
          | true => have h := (HT.q9 hbl).2.2.2.2.2.1; cases h
        obtain rfl : b7 = false := by
          cases hbl : b7 with
          | false => rfl
          | true => have h := (HT.q7 hbl).2.2.2.2.2.1; cases h
        have hbel := HT.bel rfl
        have d4 : b4 = true := ready_dep hi rfl 4 (by kernel_rfl)
        obtain ⟨g4, e4, r4⟩ := HT.h4 d4 rfl
        subst e4
        have HR4 := Lib.hid r4
        clear HT hbel r4
        refine wpOp_one rfl rfl (fun K hK => ?_)
        go_simp
        exact hK.out _ _ (.mk b0 b1 b2 b3 b4 true b6 false b8 false _ _ _ _ _ _ _ _ _ _ { HTH.out with q9 := fun h => (by cases h), fin := fun h => (by cases h), q7 := fun h => (by cases h), h7 := fun h => (by cases h), h5 := fun _ _ => ⟨g4, rfl, HR4.out⟩, o5_4 := fun _ => d4, o6_5 := fun _ => rfl })
      | 6, _, hi, hib =>
        obtain rfl : b6 = false := by simpa using hib
        obtain rfl : b9 = false := by
          cases hbl : b9 with
          | false => rfl
          | true => have h := (HT.q9 hbl).2.2.2.2.2.2.1; cases h
        obtain rfl : b7 = false := by
          cases hbl : b7 with
          | false => rfl
          | true => have h := (HT.q7 hbl).2.2.2.2.2.2; cases h
        have hbel := HT.bel rfl
        have d5 : b5 = true := ready_dep hi rfl 5 (by kernel_rfl)
        obtain ⟨g5, e5, r5⟩ := HT.h5 d5 rfl
        subst e5
        have HR5 := Lib.hid r5
        have HBE := Lib.hid hbel
        clear HT hbel r5
        refine wpOp_one rfl rfl (fun K hK => ?_)
        go_simp
        have hba : Below w'.heap.size w' (w'.alloc (.cells #[.int .i64 0, .slice (some ⟨g5, 0, none⟩) 1 1] 97)) := (Below.refl _ w').alloc (Nat.le_refl _) _
        exact hK.out _ _ (.mk b0 b1 b2 b3 b4 b5 true false b8 false _ _ _ _ _ _ _ _ _ _ { HTH.out with q9 := fun h => (by cases h), fin := fun h => (by cases h), q7 := fun h => (by cases h), h7 := fun h => (by cases h), bel := fun _ => HBE.out.trans (hba.mono HBE.out.size), h4 := fun h hf => (by obtain ⟨g, e, r⟩ := HTH.out.h4 h hf; exact ⟨g, e, rg_turns.kept r hba⟩), h5 := fun h hf => (by obtain ⟨g, e, r⟩ := HTH.out.h5 h hf; exact ⟨g, e, rg_turns.kept r hba⟩), h6 := fun _ _ => ⟨w'.heap.size, g5, rfl, heap_new w' _, rg_turns.kept HR5.out hba⟩, o6_5 := fun _ => d5, o7_6 := fun _ => rfl })
      | 7, _, hi, hib =>
        obtain rfl : b7 = false := by simpa using hib
        obtain rfl : b9 = false := by
          cases hbl : b9 with
          | false => rfl
          | true => have h := (HT.q9 hbl).2.2.2.2.2.2.2.1; cases h
        have hbel := HT.bel rfl
        have d1 : b1 = true := ready_dep hi rfl 1 (by kernel_rfl)
        have d6 : b6 = true := ready_dep hi rfl 6 (by kernel_rfl)
        have hd1 := HT.h1 d1
        subst hd1
        obtain ⟨g6, g2, e6, r6, s6⟩ := HT.h6 d6 rfl
        subst e6
        have HR6 := Lib.hid r6
        have HS6 := Lib.hid s6
        have HBE := Lib.hid hbel
        clear HT hbel r6 s6
        have HO6 := Lib.hid (HOW.out.kept pn_turns HBE.out)
        have HPI : Hid (pnI w' (Ap bs (.slice (some ⟨pg, 0, none⟩) 1 1)) [.int .i64 0, .slice (some ⟨g2, 0, none⟩) 1 1] (0, [[cvA 1 2]])) := Lib.hid ⟨[.int .i64 0], [.slice (some ⟨g2, 0, none⟩) 1 1], rfl, rfl, rg_turns.go HS6.out (FrM.refl w' _) (fun b hb => .inl (by
          rcases hb with hb | hb
          · have := (HOW.out.ge b hb).2; show b < _; omega
          · show b < _; omega))⟩
        refine wpOp_one rfl rfl (fun K hK => ?_)
        refine opJ_app pn_turns Tryz.underlying44 infoPinS rfl (by decide) (by decide) (.tmp 61) (.tmp 66) rfl bs (.slice (some ⟨pg, 0, none⟩) 1 1) [(1, [[cvA 1 1]])] rfl HO6.out g6 [.int .i64 0, .slice (some ⟨g2, 0, none⟩) 1 1] (0, [[cvA 1 2]]) rfl rfl (cells_of HR6.out) (by intro u hu; simp at hu; rcases hu with rfl | rfl <;> rfl) HPI.out (by decide) (by have := HBE.out.size; omega) ?_
        intro g c w2 hown hgr
        have hqq : w2.heap[qb]? = some (.cells #[.slice (some ⟨pg, 0, none⟩) 1 1, .slice M2 2 2] 46 (0, 0)) := (hgr.block qb (by have := HBE.out.size; omega) (fun e => by have := (HOW.out.ge qb e.symm).1; omega)).trans ((HBE.out.block qb hqb).trans HBX.out)
        have hbb : Below bs Y w2 := (HBE.out.mono hbsY).grown hgr (by have := HBE.out.size; omega) (fun g hg => (HOW.out.ge g hg).1)
        have hfr : FrM Y w2 (fun b => b = qb ∨ b = pg) := ⟨Nat.le_trans HBE.out.size hgr.size, fun b hb hn => (hgr.block b (by have := HBE.out.size; omega) (fun e => hn (.inr (by have h : some b = some pg := e; injection h)))).trans (HBE.out.block b hb)⟩
        exact hK.out _ _ (.mk b0 b1 b2 b3 b4 b5 b6 true b8 false _ _ _ _ _ _ _ _ _ _ { HTH.out with q9 := fun h => (by cases h), fin := fun h => (by cases h), q7 := fun _ => ⟨HTH.out.o1_0 d1, d1, HTH.out.o4_2 (HTH.out.o5_4 (HTH.out.o6_5 d6)), HTH.out.o4_3 (HTH.out.o5_4 (HTH.out.o6_5 d6)), HTH.out.o5_4 (HTH.out.o6_5 d6), HTH.out.o6_5 d6, d6⟩, bel := fun h => (by cases h), h4 := fun _ h => (by cases h), h5 := fun _ h => (by cases h), h6 := fun _ h => (by cases h), h7 := fun _ _ => ⟨g, c, rfl, hown, hqq, hbb, hfr⟩, o7_1 := fun _ => d1, o7_6 := fun _ => d6 })
      | 8, _, hi, hib =>
        obtain rfl : b8 = false := by simpa using hib
        obtain rfl : b9 = false := by
          cases hbl : b9 with
          | false => rfl
          | true => have h := (HT.q9 hbl).2.2.2.2.2.2.2.2; cases h
        clear HT
        refine wpOp_one rfl rfl (fun K hK => ?_)
        go_simp
        exact hK.out _ _ (.mk b0 b1 b2 b3 b4 b5 b6 b7 true false _ _ _ _ _ _ _ _ _ _ { HTH.out with q9 := fun h => (by cases h), fin := fun h => (by cases h), h8 := fun _ => rfl })
      | 9, _, hi, hib =>
        obtain rfl : b9 = false := by simpa using hib
        have d7 : b7 = true := ready_dep hi rfl 7 (by kernel_rfl)
        have d8 : b8 = true := ready_dep hi rfl 8 (by kernel_rfl)
        obtain ⟨g7, c7, e7, r7, s7, t7, u7⟩ := HT.h7 d7 rfl
        subst e7
        have hd8 := HT.h8 d8
        subst hd8
        have HR7 := Lib.hid r7
        have HS7 := Lib.hid s7
        have HT7 := Lib.hid t7
        have HU7 := Lib.hid u7
        obtain ⟨q0, q1, f0, f1⟩ := row2 s7
        have d := HT.q7 d7
        have hb7 := d7
        clear HT r7 s7 t7 u7
        refine wpOp_one rfl rfl (fun K hK => ?_)
        go_simp
        have hs := grown_set w' qb 0 (.slice (some ⟨g7, 0, none⟩) 2 c7)
        exact hK.out _ _ (.mk b0 b1 b2 b3 b4 b5 b6 b7 b8 true _ _ _ _ _ _ _ _ _ _ { HTH.out with q9 := fun _ => ⟨d.1, d.2.1, d.2.2.1, d.2.2.2.1, d.2.2.2.2.1, d.2.2.2.2.2.1, d.2.2.2.2.2.2, d7, d8⟩, bel := fun h => (by rw [d7] at h; cases h), h4 := fun _ h => (by rw [d7] at h; cases h), h5 := fun _ h => (by rw [d7] at h; cases h), h6 := fun _ h => (by rw [d7] at h; cases h), h7 := fun _ h => (by cases h), fin := fun _ => ⟨g7, c7, OwnJ.turn pn_turns HR7.out hs (fun g hg => by injection hg with hg; have hg2 : qb = g := hg; omega), heap_setCell_same w' qb 0 _ _ _ HS7.out, (HT7.out.mono (show qb ≤ bs by omega)).setCell (p := ⟨qb, 0, none⟩) (Nat.le_refl _) _, ⟨Nat.le_trans HU7.out.size hs.size, fun b hb hn => (hs.block b (by have := HU7.out.size; omega) (fun e => hn (.inl (by have h : some b = some qb := e; injection h)))).trans (HU7.out.block b hb hn)⟩⟩ })
    case fin =>
      rintro lq a' w' ⟨b0, b1, b2, b3, b4, b5, b6, b7, b8, b9, v60, v61, v62, v63, v64, v65, v66, v67, v68, _, HT⟩ hr
      obtain rfl : b0 = true := by
        cases b0 with
        | true => rfl
        | false => exact (ready_in 0 rfl rfl (by simp [Region.binds]) hr).elim
      obtain rfl : b1 = true := by
        cases b1 with
        | true => rfl
        | false => exact (ready_in 1 rfl rfl (by simp [Region.binds]) hr).elim
      obtain rfl : b2 = true := by
        cases b2 with
        | true => rfl
        | false => exact (ready_in 2 rfl rfl (by simp [Region.binds]) hr).elim
      obtain rfl : b3 = true := by
        cases b3 with
        | true => rfl
        | false => exact (ready_in 3 rfl rfl (by simp [Region.binds]) hr).elim
      obtain rfl : b4 = true := by
        cases b4 with
        | true => rfl
        | false => exact (ready_in 4 rfl rfl (by simp [Region.binds]) hr).elim
      obtain rfl : b5 = true := by
        cases b5 with
        | true => rfl
        | false => exact (ready_in 5 rfl rfl (by simp [Region.binds]) hr).elim
      obtain rfl : b6 = true := by
        cases b6 with
        | true => rfl
        | false => exact (ready_in 6 rfl rfl (by simp [Region.binds]) hr).elim
      obtain rfl : b7 = true := by
        cases b7 with
        | true => rfl
        | false => exact (ready_in 7 rfl rfl (by simp [Region.binds]) hr).elim
      obtain rfl : b8 = true := by
        cases b8 with
        | true => rfl
        | false => exact (ready_in 8 rfl rfl (by simp [Region.binds]) hr).elim
      obtain rfl : b9 = true := by
        cases b9 with
        | true => rfl
        | false => exact (ready_in 9 rfl rfl (by simp [Region.binds]) hr).elim
      have HF8 := Lib.hid (HT.fin rfl)
      clear HT hr
      obtain ⟨g9, c9, hown9, hq9, hb9, hf9⟩ := HF8.out
      have hM2 := HMM.out
      have hqB := HQB.out
      have hpG := HPG.out
      have h12 := HZ12.out
      have h23 := HZW.out
      have hzY := HZY3.out
      have hzz := HZZ3.out
      have HM5 : Hid (Own w' W1.heap.size (.slice M2 2 2) 2 [0, 0]) := Lib.hid (own_frm (by have h := HM4.out; rw [hM2] at h; exact h) hf9 (fun g hg hm => by
        rw [← hM2] at hg
        have h : some W1.heap.size = some g := hg
        injection h with h
        rcases hm with hm | hm <;> omega))
      have HO65 : Hid (Own w' Z1.heap.size (.slice A6 2 c6) 2 [1, 1]) := Lib.hid (own_frm HO64.out hf9 (fun g hg hm => by
        have h1 := HA6.out g hg
        have h2 := HO64.out.ge g hg
        rcases hm with hm | hm <;> omega))
      have HO85 : Hid (Own w' Z3.heap.size (.slice A8 2 c8) 2 [0, 0]) := Lib.hid (own_frm HO8.out hf9 (fun g hg hm => by
        have h2 := HO8.out.ge g hg
        rcases hm with hm | hm <;> omega))
      have HOW9 := Lib.hid hown9
      have HQ9 := Lib.hid hq9
      have HB9 : Hid (Below W1.heap.size W1 w') := Lib.hid (HB4.out.trans (hb9.mono (by have := HNUM.out.2.2.2; omega)))
      obtain ⟨w5, hw5⟩ : ∃ x, x = w' := ⟨_, rfl⟩
      subst hw5
      clear hown9 hq9 hb9 hf9 hM2 hqB hpG h12 h23 hzY hzz HF8
      -- region 9
      obtain ⟨Z5, HZ5⟩ : ∃ Z5, Hid (Z5 = w5.alloc (.cells #[.int .i64 0, .int .i64 0] 3)) := ⟨_, Lib.hid rfl⟩
      have hbZ5 : Below w5.heap.size w5 Z5 := by rw [HZ5.out]; exact (Below.refl _ w5).alloc (Nat.le_refl _) _
      have hbZ5' : Below W1.heap.size W1 Z5 := HB9.out.trans (hbZ5.mono HB9.out.size)
      have hown5 : Own Z5 w5.heap.size (.slice (some ⟨w5.heap.size, 0, none⟩) 2 2) 2 [0, 0] := by rw [HZ5.out]; exact Own.lit w5 w5.heap.size [0, 0] (Nat.le_refl _) (by decide)
      have hrq5 : ReqAt Z5 Z5.heap.size (some ⟨g9, 0, none⟩) 2 M2 2 [(1, [[cvA 1 1]]), (0, [[cvA 1 2]])] [0, 0] := ⟨(HOW9.out.kept pn_turns hbZ5).rd pn_turns (fun b hb => .inr hb), Rd.of_own (HM5.out.kept hbZ5), by omega, by omega, fun p hp => by
        have hp : p = (1, [[cvA 1 1]]) ∨ p = (0, [[cvA 1 2]]) := by simpa using hp
        rcases hp with rfl | rfl
        · exact sm_one 1 1
        · exact sm_one 1 2, Nat.le_refl _⟩
      have HSL5 := Lib.hid (solve_any (c2 := 2) (cp := c9) (cm := 2) (b := 100) (HA.out.below hbZ5') (by rw [ex_chk]) (Rd.of_own hown5) (Nat.le_refl _) hrq5)
      have HBZ5 := Lib.hid hbZ5'
      have HO6w := Lib.hid (HO65.out.kept hbZ5)
      have HO8w := Lib.hid (HO85.out.kept hbZ5)
      obtain ⟨x0, _⟩ := row1f ((HB9.out.block gb HGB.out).trans HC0.out)
      have hltq := heapE_lt HQ9.out
      obtain ⟨y0, y1, _⟩ := row2 HQ9.out
      obtain ⟨x0', _⟩ := row1f ((hbZ5'.block gb HGB.out).trans HC0.out)
      obtain ⟨y0', y1', _⟩ := row2 ((hbZ5.block qb (heapE_lt HQ9.out)).trans HQ9.out)
      clear hbZ5 hbZ5' hown5 hrq5
      go_wp2_with fail
      try rw [← HZ5.out]
      refine HSL5.out.mono ?_
      rintro e w6 ⟨hb, ho⟩
      rw [ex_sol3] at ho
      have HB6 : Hid (Below W1.heap.size W1 w6) := Lib.hid (HBZ5.out.trans (hb.mono HBZ5.out.size))
      have HO66 := Lib.hid (HO6w.out.kept hb)
      have HO86 := Lib.hid (HO8w.out.kept hb)
      clear hb HSL5 x0 y0 y1 x0' y0' y1' hltq
      rcases ho with ⟨hne, _⟩ | ⟨_, _, rfl⟩
      · exact absurd hne (by decide)
      go_upto_region 10 with fail
      obtain ⟨R1, HR1⟩ : ∃ R1, Hid (R1 = w6.alloc (.cells #[.int .i64 1, .int .i64 1] 3)) := ⟨_, Lib.hid rfl⟩
      have hbR1 : Below w6.heap.size w6 R1 := by rw [HR1.out]; exact (Below.refl _ w6).alloc (Nat.le_refl _) _
      have hownR : Own R1 w6.heap.size (.slice (some ⟨w6.heap.size, 0, none⟩) 2 2) 2 [1, 1] := by rw [HR1.out]; exact Own.lit w6 w6.heap.size [1, 1] (Nat.le_refl _) (by decide)
      have HI1 := Lib.hid (ints_same (c := c6) (d := 2) (Rd.of_own (HO66.out.kept hbR1)) (Rd.of_own hownR) (by omega) (by omega))
      have HBR1 : Hid (Below W1.heap.size W1 R1) := Lib.hid (HB6.out.trans (hbR1.mono HB6.out.size))
      have HO8R := Lib.hid (HO86.out.kept hbR1)
      clear hbR1 hownR
      go_wp2_with fail
      try rw [← HR1.out]
      refine HI1.out.mono ?_
      rintro e w7 ⟨rfl, hb⟩
      have HB7 : Hid (Below W1.heap.size W1 w7) := Lib.hid (HBR1.out.trans (hb.mono HBR1.out.size))
      have HO87 := Lib.hid (HO8R.out.kept hb)
      clear hb HI1
      obtain ⟨R2, HR2⟩ : ∃ R2, Hid (R2 = w7.alloc (.cells #[.int .i64 0, .int .i64 0] 3)) := ⟨_, Lib.hid rfl⟩
      have hbR2 : Below w7.heap.size w7 R2 := by rw [HR2.out]; exact (Below.refl _ w7).alloc (Nat.le_refl _) _
      have hownR : Own R2 w7.heap.size (.slice (some ⟨w7.heap.size, 0, none⟩) 2 2) 2 [0, 0] := by rw [HR2.out]; exact Own.lit w7 w7.heap.size [0, 0] (Nat.le_refl _) (by decide)
      have HI2 := Lib.hid (ints_same (c := c8) (d := 2) (Rd.of_own (HO87.out.kept hbR2)) (Rd.of_own hownR) (by omega) (by omega))
      have HBR2 : Hid (Below W1.heap.size W1 R2) := Lib.hid (HB7.out.trans (hbR2.mono HB7.out.size))
      clear hbR2 hownR
      go_wp2_with fail
      try rw [← HR2.out]
      refine HI2.out.mono ?_
      rintro e w8 ⟨rfl, hb⟩
      have HB8 : Hid (Below W1.heap.size W1 w8) := Lib.hid (HBR2.out.trans (hb.mono HBR2.out.size))
      clear hb HI2
      go_wp2_with fail
      exact bodyPost_ret (results_tmp rfl _ _ _) rfl ⟨rfl, HWw.out.trans (HB8.out.mono HWw.out.size)⟩
end Go.Proofs.YtlodledcglleiaaGreat
