/-
 CONTRACTS: place, mustLead (printed by genpml.py).
-/
import Derived.Test.YtminihiecloglaaGreatPIx
import Derived.Test.YtminihiecloglaaGreatInv
set_option linter.unusedVariables false
set_option linter.unusedSimpArgs false
namespace Go.Proofs.YtminihiecloglaaGreat
open Go.RowKit
open SemP FlP GaP DiP
set_option maxRecDepth 10000
section
variable {P : Program} {ops : Array Oper} {Q : Exit → Act → World → Prop}
theorem wpOp_skip {i : Nat} {o : Oper} {a : Act} {w : World} {K0 : Act → World → Prop} (ho : ops[i]? = some o) (j : Nat) (b : Bool) (hg : o.guard = some (j, b)) (hy : yielded ops a.tmps j = some (!b))
  (h : K0 (a.put o.dst undef) w) : wpOp P ops Q i K0 a w := by
 unfold wpOp
 rw [ho]
 have hw : Region.wanted o (yielded ops a.tmps) = false := by unfold Region.wanted; rw [hg]; cases b <;> simp [hy]
 simp only [hw]
 exact h
end
theorem row4 {w : World} {g : Nat} {x y z u : Value} {t : TypeId} (h : w.heap[g]? = some (.cells #[x, y, z, u] t (0, 0))) : w.cell? ⟨g, 0, none⟩ = some x ∧ w.cell? ⟨g, 1, none⟩ = some y ∧ w.cell? ⟨g, 2, none⟩ = some z ∧ w.cell? ⟨g, 3, none⟩ = some u := by
 have h2 := cells_of h
 exact ⟨h2 0 _ rfl, h2 1 _ rfl, h2 2 _ rfl, h2 3 _ rfl⟩
set_option maxHeartbeats 4000000 in
theorem place_any {w : World} {B nF cF nT cT n c nE cE : Nat} {AF AT A AE : Option Addr} {S : List StP} (h : RdS w B A n S) (hB : B ≤ w.heap.size) (hn : n ≤ 1000000) (i k : Int) :
  Calls Tryz.prog 74 #[.agg #[.slice AF nF cF, .slice AT nT cT, .slice A n c, .slice AE nE cE], .int .i64 i, .int .i64 k] w fun e w' => e = .returned (.int .i64 (plc S (i, k))) ∧ Below w.heap.size w w' := by
 obtain ⟨W, HW⟩ : ∃ W, Hid (W = w.alloc (.cells #[.slice AF nF cF, .slice AT nT cT, .slice A n c, .slice AE nE cE] 35)) := ⟨_, Lib.hid rfl⟩
 have hbl : Below w.heap.size w W := by rw [HW.out]; exact (Below.refl _ w).alloc (Nat.le_refl _) _
 have H0 : Hid (W.heap[w.heap.size]? = some (.cells #[.slice AF nF cF, .slice AT nT cT, .slice A n c, .slice AE nE cE] 35 (0, 0))) := Lib.hid (by rw [HW.out]; exact heap_new w _)
 have HBL := Lib.hid hbl
 have HI := Lib.hid (indexS_any (c := c) (h.below (hbl.mono hB) hB) (Nat.le_trans hB hbl.size) hn (i, k))
 obtain ⟨_, _, x2, _⟩ := row4 H0.out
 clear h hbl hB
 go_enter Tryz.func74, Tryz.ntmps74
 go_upto_region 1 with fail
 change Code.wp _ _ _ _ (w.alloc (.cells #[.slice AF nF cF, .slice AT nT cT, .slice A n c, .slice AE nE cE] 35))
 rw [← HW.out]
 go_wp2_with fail
 refine HI.out.mono ?_
 rintro e w1 ⟨rfl, hb⟩
 go_wp2_with fail
 exact bodyPost_ret (results_tmp rfl _ _ _) rfl ⟨rfl, HBL.out.trans (hb.mono HBL.out.size)⟩
structure MaSt (w0 : World) (h i j : Nat) (AF AT AS AE A : Option Addr) (nF cF nT cT nS cS nE cE n c bF oF bT oT : Nat) (u v P1 P2 : Int) (ft : Bool) (b0 b1 b2 b3 b4 b5 b6 b7 b8 b9 b10 b11 b12 b13 b14 b15 b16 b17 b18 b19 b20 b21 b22 b23 b24 b25 b26 b27 b28 b29 b30 b31 b32 : Bool) (v8 v9 v10 v11 v12 v13 v14 v15 v16 v17 v18 v19 v20 v21 v22 v23 v24 v25 v26 v27 v28 v29 v30 v31 v32 v33 v34 v35 v36 v37 v38 v39 v40 : Value) (w' : World) : Prop where
 bel : Below w0.heap.size w0 w'
 h0 : b0 = true → v9 = .int .i64 (i : Int)
 h1 : b1 = true → v10 = .int .i64 (j : Int)
 h2 : b2 = true → v11 = .bool true
 h3 : b3 = true → v12 = .bool true
 h4 : b4 = true → v13 = .agg #[.slice AF nF cF, .slice AT nT cT, .slice AS nS cS, .slice AE nE cE]
 h5 : b5 = true → v14 = .int .i64 (i : Int)
 h6 : b6 = true → v15 = .int .i64 P1
 h7 : b7 = true → v16 = .bool false
 h8 : b8 = true → v17 = .bool false
 h9 : b9 = true → v18 = .bool false
 h10 : b10 = true → v19 = undef
 h11 : b11 = true → v20 = undef
 h12 : b12 = true → v21 = undef
 h13 : b13 = true → v22 = undef
 h14 : b14 = true → v23 = .bool false
 h15 : b15 = true → v24 = .bool false
 h16 : b16 = true → v25 = undef
 h17 : b17 = true → v26 = undef
 h18 : b18 = true → v27 = undef
 h19 : b19 = true → v28 = undef
 h20 : b20 = true → v29 = undef
 h21 : b21 = true → v30 = undef
 h22 : b22 = true → v31 = undef
 h23 : b23 = true → v32 = undef
 h24 : b24 = true → v33 = undef
 h25 : b25 = true → v34 = undef
 h26 : b26 = true → v35 = undef
 h27 : b27 = true → v36 = undef
 h28 : b28 = true → v37 = undef
 h29 : b29 = true → v38 = undef
 h30 : b30 = true → v39 = undef
 h31 : b31 = true → v40 = .bool false
 h32 : b32 = true → v8 = .bool false
inductive MaJ (w0 : World) (h i j : Nat) (AF AT AS AE A : Option Addr) (nF cF nT cT nS cS nE cE n c bF oF bT oT : Nat) (u v P1 P2 : Int) (ft : Bool) (p0 p1 p2 p3 p4 p5 p6 p7 : Value) : Array Bool → Act → World → Prop where
 | mk (b0 b1 b2 b3 b4 b5 b6 b7 b8 b9 b10 b11 b12 b13 b14 b15 b16 b17 b18 b19 b20 b21 b22 b23 b24 b25 b26 b27 b28 b29 b30 b31 b32 : Bool) (v8 v9 v10 v11 v12 v13 v14 v15 v16 v17 v18 v19 v20 v21 v22 v23 v24 v25 v26 v27 v28 v29 v30 v31 v32 v33 v34 v35 v36 v37 v38 v39 v40 : Value) (w' : World) : MaSt w0 h i j AF AT AS AE A nF cF nT cT nS cS nE cE n c bF oF bT oT u v P1 P2 ft b0 b1 b2 b3 b4 b5 b6 b7 b8 b9 b10 b11 b12 b13 b14 b15 b16 b17 b18 b19 b20 b21 b22 b23 b24 b25 b26 b27 b28 b29 b30 b31 b32 v8 v9 v10 v11 v12 v13 v14 v15 v16 v17 v18 v19 v20 v21 v22 v23 v24 v25 v26 v27 v28 v29 v30 v31 v32 v33 v34 v35 v36 v37 v38 v39 v40 w' → MaJ w0 h i j AF AT AS AE A nF cF nT cT nS cS nE cE n c bF oF bT oT u v P1 P2 ft p0 p1 p2 p3 p4 p5 p6 p7 #[b0, b1, b2, b3, b4, b5, b6, b7, b8, b9, b10, b11, b12, b13, b14, b15, b16, b17, b18, b19, b20, b21, b22, b23, b24, b25, b26, b27, b28, b29, b30, b31, b32] { tmps := List.toArray (p0 :: p1 :: p2 :: p3 :: p4 :: p5 :: p6 :: p7 :: v8 :: v9 :: v10 :: v11 :: v12 :: v13 :: v14 :: v15 :: v16 :: v17 :: v18 :: v19 :: v20 :: v21 :: v22 :: v23 :: v24 :: v25 :: v26 :: v27 :: v28 :: v29 :: v30 :: v31 :: v32 :: v33 :: v34 :: v35 :: v36 :: v37 :: v38 :: v39 :: v40 :: []), defers := [] } w'
structure MbSt (w0 : World) (h i j : Nat) (AF AT AS AE A : Option Addr) (nF cF nT cT nS cS nE cE n c bF oF bT oT : Nat) (u v P1 P2 : Int) (ft : Bool) (b0 b1 b2 b3 b4 b5 b6 b7 b8 b9 b10 b11 b12 b13 b14 b15 b16 b17 b18 b19 b20 b21 b22 b23 b24 b25 b26 b27 b28 b29 b30 b31 b32 : Bool) (v8 v9 v10 v11 v12 v13 v14 v15 v16 v17 v18 v19 v20 v21 v22 v23 v24 v25 v26 v27 v28 v29 v30 v31 v32 v33 v34 v35 v36 v37 v38 v39 v40 : Value) (w' : World) : Prop where
 bel : Below w0.heap.size w0 w'
 h0 : b0 = true → v9 = .int .i64 (i : Int)
 h1 : b1 = true → v10 = .int .i64 (j : Int)
 h2 : b2 = true → v11 = .bool true
 h3 : b3 = true → v12 = .bool true
 h4 : b4 = true → v13 = .agg #[.slice AF nF cF, .slice AT nT cT, .slice AS nS cS, .slice AE nE cE]
 h5 : b5 = true → v14 = .int .i64 (i : Int)
 h6 : b6 = true → v15 = .int .i64 P1
 h7 : b7 = true → v16 = .bool true
 h8 : b8 = true → v17 = .bool true
 h9 : b9 = true → v18 = .bool true
 h10 : b10 = true → v19 = .agg #[.slice AF nF cF, .slice AT nT cT, .slice AS nS cS, .slice AE nE cE]
 h11 : b11 = true → v20 = .int .i64 (j : Int)
 h12 : b12 = true → v21 = .int .i64 P2
 h13 : b13 = true → v22 = .bool false
 h14 : b14 = true → v23 = .bool false
 h15 : b15 = true → v24 = .bool false
 h16 : b16 = true → v25 = undef
 h17 : b17 = true → v26 = undef
 h18 : b18 = true → v27 = undef
 h19 : b19 = true → v28 = undef
 h20 : b20 = true → v29 = undef
 h21 : b21 = true → v30 = undef
 h22 : b22 = true → v31 = undef
 h23 : b23 = true → v32 = undef
 h24 : b24 = true → v33 = undef
 h25 : b25 = true → v34 = undef
 h26 : b26 = true → v35 = undef
 h27 : b27 = true → v36 = undef
 h28 : b28 = true → v37 = undef
 h29 : b29 = true → v38 = undef
 h30 : b30 = true → v39 = undef
 h31 : b31 = true → v40 = .bool false
 h32 : b32 = true → v8 = .bool false
inductive MbJ (w0 : World) (h i j : Nat) (AF AT AS AE A : Option Addr) (nF cF nT cT nS cS nE cE n c bF oF bT oT : Nat) (u v P1 P2 : Int) (ft : Bool) (p0 p1 p2 p3 p4 p5 p6 p7 : Value) : Array Bool → Act → World → Prop where
 | mk (b0 b1 b2 b3 b4 b5 b6 b7 b8 b9 b10 b11 b12 b13 b14 b15 b16 b17 b18 b19 b20 b21 b22 b23 b24 b25 b26 b27 b28 b29 b30 b31 b32 : Bool) (v8 v9 v10 v11 v12 v13 v14 v15 v16 v17 v18 v19 v20 v21 v22 v23 v24 v25 v26 v27 v28 v29 v30 v31 v32 v33 v34 v35 v36 v37 v38 v39 v40 : Value) (w' : World) : MbSt w0 h i j AF AT AS AE A nF cF nT cT nS cS nE cE n c bF oF bT oT u v P1 P2 ft b0 b1 b2 b3 b4 b5 b6 b7 b8 b9 b10 b11 b12 b13 b14 b15 b16 b17 b18 b19 b20 b21 b22 b23 b24 b25 b26 b27 b28 b29 b30 b31 b32 v8 v9 v10 v11 v12 v13 v14 v15 v16 v17 v18 v19 v20 v21 v22 v23 v24 v25 v26 v27 v28 v29 v30 v31 v32 v33 v34 v35 v36 v37 v38 v39 v40 w' → MbJ w0 h i j AF AT AS AE A nF cF nT cT nS cS nE cE n c bF oF bT oT u v P1 P2 ft p0 p1 p2 p3 p4 p5 p6 p7 #[b0, b1, b2, b3, b4, b5, b6, b7, b8, b9, b10, b11, b12, b13, b14, b15, b16, b17, b18, b19, b20, b21, b22, b23, b24, b25, b26, b27, b28, b29, b30, b31, b32] { tmps := List.toArray (p0 :: p1 :: p2 :: p3 :: p4 :: p5 :: p6 :: p7 :: v8 :: v9 :: v10 :: v11 :: v12 :: v13 :: v14 :: v15 :: v16 :: v17 :: v18 :: v19 :: v20 :: v21 :: v22 :: v23 :: v24 :: v25 :: v26 :: v27 :: v28 :: v29 :: v30 :: v31 :: v32 :: v33 :: v34 :: v35 :: v36 :: v37 :: v38 :: v39 :: v40 :: []), defers := [] } w'
structure McSt (w0 : World) (h i j : Nat) (AF AT AS AE A : Option Addr) (nF cF nT cT nS cS nE cE n c bF oF bT oT : Nat) (u v P1 P2 : Int) (ft : Bool) (b0 b1 b2 b3 b4 b5 b6 b7 b8 b9 b10 b11 b12 b13 b14 b15 b16 b17 b18 b19 b20 b21 b22 b23 b24 b25 b26 b27 b28 b29 b30 b31 b32 : Bool) (v8 v9 v10 v11 v12 v13 v14 v15 v16 v17 v18 v19 v20 v21 v22 v23 v24 v25 v26 v27 v28 v29 v30 v31 v32 v33 v34 v35 v36 v37 v38 v39 v40 : Value) (w' : World) : Prop where
 bel : Below w0.heap.size w0 w'
 h0 : b0 = true → v9 = .int .i64 (i : Int)
 h1 : b1 = true → v10 = .int .i64 (j : Int)
 h2 : b2 = true → v11 = .bool true
 h3 : b3 = true → v12 = .bool true
 h4 : b4 = true → v13 = .agg #[.slice AF nF cF, .slice AT nT cT, .slice AS nS cS, .slice AE nE cE]
 h5 : b5 = true → v14 = .int .i64 (i : Int)
 h6 : b6 = true → v15 = .int .i64 P1
 h7 : b7 = true → v16 = .bool true
 h8 : b8 = true → v17 = .bool true
 h9 : b9 = true → v18 = .bool true
 h10 : b10 = true → v19 = .agg #[.slice AF nF cF, .slice AT nT cT, .slice AS nS cS, .slice AE nE cE]
 h11 : b11 = true → v20 = .int .i64 (j : Int)
 h12 : b12 = true → v21 = .int .i64 P2
 h13 : b13 = true → v22 = .bool true
 h14 : b14 = true → v23 = .bool true
 h15 : b15 = true → v24 = .bool true
 h16 : b16 = true → v25 = .agg #[.slice A n c]
 h17 : b17 = true → v26 = .int .i64 (i : Int)
 h18 : b18 = true → v27 = .pointer (some ⟨h, 0, none⟩)
 h19 : b19 = true → v28 = .slice AF nF cF
 h20 : b20 = true → v29 = .int .i64 (i : Int)
 h21 : b21 = true → v30 = .pointer (some ⟨bF, oF + i, none⟩)
 h22 : b22 = true → v31 = .int .i64 u
 h23 : b23 = true → v32 = .int .i64 (j : Int)
 h24 : b24 = true → v33 = .pointer (some ⟨h, 1, none⟩)
 h25 : b25 = true → v34 = .slice AT nT cT
 h26 : b26 = true → v35 = .int .i64 (j : Int)
 h27 : b27 = true → v36 = .pointer (some ⟨bT, oT + j, none⟩)
 h28 : b28 = true → v37 = .int .i64 v
 h29 : b29 = true → v38 = .bool ft
 h30 : b30 = true → v39 = .bool (!ft)
 h31 : b31 = true → v40 = .bool (!ft)
 h32 : b32 = true → v8 = .bool (!ft)
inductive McJ (w0 : World) (h i j : Nat) (AF AT AS AE A : Option Addr) (nF cF nT cT nS cS nE cE n c bF oF bT oT : Nat) (u v P1 P2 : Int) (ft : Bool) (p0 p1 p2 p3 p4 p5 p6 p7 : Value) : Array Bool → Act → World → Prop where
 | mk (b0 b1 b2 b3 b4 b5 b6 b7 b8 b9 b10 b11 b12 b13 b14 b15 b16 b17 b18 b19 b20 b21 b22 b23 b24 b25 b26 b27 b28 b29 b30 b31 b32 : Bool) (v8 v9 v10 v11 v12 v13 v14 v15 v16 v17 v18 v19 v20 v21 v22 v23 v24 v25 v26 v27 v28 v29 v30 v31 v32 v33 v34 v35 v36 v37 v38 v39 v40 : Value) (w' : World) : McSt w0 h i j AF AT AS AE A nF cF nT cT nS cS nE cE n c bF oF bT oT u v P1 P2 ft b0 b1 b2 b3 b4 b5 b6 b7 b8 b9 b10 b11 b12 b13 b14 b15 b16 b17 b18 b19 b20 b21 b22 b23 b24 b25 b26 b27 b28 b29 b30 b31 b32 v8 v9 v10 v11 v12 v13 v14 v15 v16 v17 v18 v19 v20 v21 v22 v23 v24 v25 v26 v27 v28 v29 v30 v31 v32 v33 v34 v35 v36 v37 v38 v39 v40 w' → McJ w0 h i j AF AT AS AE A nF cF nT cT nS cS nE cE n c bF oF bT oT u v P1 P2 ft p0 p1 p2 p3 p4 p5 p6 p7 #[b0, b1, b2, b3, b4, b5, b6, b7, b8, b9, b10, b11, b12, b13, b14, b15, b16, b17, b18, b19, b20, b21, b22, b23, b24, b25, b26, b27, b28, b29, b30, b31, b32] { tmps := List.toArray (p0 :: p1 :: p2 :: p3 :: p4 :: p5 :: p6 :: p7 :: v8 :: v9 :: v10 :: v11 :: v12 :: v13 :: v14 :: v15 :: v16 :: v17 :: v18 :: v19 :: v20 :: v21 :: v22 :: v23 :: v24 :: v25 :: v26 :: v27 :: v28 :: v29 :: v30 :: v31 :: v32 :: v33 :: v34 :: v35 :: v36 :: v37 :: v38 :: v39 :: v40 :: []), defers := [] } w'
set_option maxHeartbeats 16000000 in
theorem mustLead_any {w : World} {B BF BT BS n c nF cF nT cT nS cS nE cE i j : Nat} {A AF AT AS AE : Option Addr} {l : List Sv} {fs ts : List Int} {S : List StP} (h : CatAt w B A n c l) (hf : Rd w BF AF nF fs) (ht : Rd w BT AT nT ts) (hS : RdS w BS AS nS S) (hBF : BF ≤ w.heap.size) (hBT : BT ≤ w.heap.size) (hBS : BS ≤ w.heap.size) (hnS : nS ≤ 1000000) (hi : i < nF) (hj : j < nT) (hnF : nF ≤ 1000000) (hnT : nT ≤ 1000000) :
  Calls Tryz.prog 75 #[.agg #[.slice AF nF cF, .slice AT nT cT, .slice AS nS cS, .slice AE nE cE], .agg #[.slice A n c], .int .i64 (i : Int), .int .i64 (j : Int)] w fun e w' => e = .returned (.bool (mustB l S fs ts i j)) ∧ Below w.heap.size w w' := by
 obtain ⟨W, HW⟩ : ∃ W, Hid (W = (w.alloc (.cells #[.slice AF nF cF, .slice AT nT cT, .slice AS nS cS, .slice AE nE cE] 35)).alloc (.cells #[.slice A n c] 24)) := ⟨_, Lib.hid rfl⟩
 have hbl : Below w.heap.size w W := by rw [HW.out]; exact ((Below.refl _ w).alloc (Nat.le_refl _) _).alloc (by simp) _
 have HBL := Lib.hid hbl
 have HZ : Hid (W.heap.size = w.heap.size + 2) := Lib.hid (by rw [HW.out]; simp)
 have H0 : Hid (W.heap[w.heap.size]? = some (.cells #[.slice AF nF cF, .slice AT nT cT, .slice AS nS cS, .slice AE nE cE] 35 (0, 0))) := Lib.hid (by
  rw [HW.out, Below.heap_alloc _ _ _ (by simp)]; exact heap_new w _)
 have H1 : Hid (W.heap[w.heap.size + 1]? = some (.cells #[.slice A n c] 24 (0, 0))) := Lib.hid (by
  rw [HW.out]
  have h := heap_new (w.alloc (.cells #[.slice AF nF cF, .slice AT nT cT, .slice AS nS cS, .slice AE nE cE] 35)) (.cells #[.slice A n c] 24)
  rw [World.size_alloc] at h; exact h)
 obtain ⟨bF, oF, rfl, hlF, kF⟩ := (hf.below (hbl.mono hBF)).at_ hi
 obtain ⟨bT, oT, rfl, hlT, kT⟩ := (ht.below (hbl.mono hBT)).at_ hj
 have HCA := Lib.hid (h.below hbl)
 have HS := Lib.hid (hS.below (hbl.mono hBS) hBS)
 have HBS : Hid (BS ≤ W.heap.size) := Lib.hid (Nat.le_trans hBS hbl.size)
 have HNS := Lib.hid hnS
 have HBF : Hid (bF < W.heap.size) := Lib.hid (by have := hbl.size; omega)
 have HBT : Hid (bT < W.heap.size) := Lib.hid (by have := hbl.size; omega)
 have HI0 : Hid ((0 : Int) ≤ (i : Int)) := Lib.hid (by omega)
 have HI1 : Hid ((i : Int) < (nF : Int)) := Lib.hid (by omega)
 have HJ0 : Hid ((0 : Int) ≤ (j : Int)) := Lib.hid (by omega)
 have HJ1 : Hid ((j : Int) < (nT : Int)) := Lib.hid (by omega)
 obtain ⟨u, HU⟩ : ∃ q, Hid (ix fs i = q) := ⟨_, Lib.hid rfl⟩
 obtain ⟨v, HV⟩ : ∃ q, Hid (ix ts j = q) := ⟨_, Lib.hid rfl⟩
 rw [HU.out] at kF
 rw [HV.out] at kT
 have HKF := Lib.hid kF
 have HKT := Lib.hid kT
 obtain ⟨P1, HP1⟩ : ∃ q, Hid (plc S ((i : Int), 2) = q) := ⟨_, Lib.hid rfl⟩
 obtain ⟨P2, HP2⟩ : ∃ q, Hid (plc S ((j : Int), 2) = q) := ⟨_, Lib.hid rfl⟩
 obtain ⟨ft, HFT⟩ : ∃ q, Hid (fitsC l (i : Int) u (j : Int) v = q) := ⟨_, Lib.hid rfl⟩
 have HMB : Hid (mustB l S fs ts i j = (decide (i ≠ j) && (decide (P1 ≠ -1) && (decide (P2 ≠ -1) && !ft)))) := Lib.hid (by
  unfold mustB
  rw [HU.out, HV.out, HFT.out]
  have e1 : decide (((i : Int), (2 : Int)) ∈ S) = decide (P1 ≠ -1) := by rw [← HP1.out]; exact decide_eq_decide.2 plc_ne.symm
  have e2 : decide (((j : Int), (2 : Int)) ∈ S) = decide (P2 ≠ -1) := by rw [← HP2.out]; exact decide_eq_decide.2 plc_ne.symm
  rw [e1, e2])
 obtain ⟨M, HM⟩ : ∃ q, Hid (mustB l S fs ts i j = q) := ⟨_, Lib.hid rfl⟩
 rw [HM.out] at HMB
 rw [HM.out]
 clear h hf ht hS hbl hBF hBT hBS hnS hlF hlT kF kT hi hj
 go_enter Tryz.func75, Tryz.ntmps75
 go_upto_region 1 with fail
 change Code.wp _ _ _ _ ((w.alloc (.cells #[.slice (some ⟨bF, oF, none⟩) nF cF, .slice (some ⟨bT, oT, none⟩) nT cT, .slice AS nS cS, .slice AE nE cE] 35)).alloc (.cells #[.slice A n c] 24))
 rw [← HW.out]
 by_cases hij : i = j
 ·subst hij
  have hne : ((i : Int) != (i : Int)) = false := by simp
  have HM : Hid (M = false) := Lib.hid (by rw [HMB.out]; simp)
  go_quiet (fail)
  go_wp2_with fail
  refine bodyPost_ret (results_tmp rfl _ _ _) rfl ⟨?_, by first | exact HBL.out | exact Below.drewN' HBL.out _⟩
  exact congrArg (fun b => Ending.returned (.bool b)) HM.out.symm
 have HNE : Hid (((i : Int) != (j : Int)) = true) := Lib.hid (by rw [bne_iff_ne]; omega)
 have HM0 : Hid (M = (decide (P1 ≠ -1) && (decide (P2 ≠ -1) && !ft))) := Lib.hid (by rw [HMB.out, decide_eq_true hij, Bool.true_and])
 by_cases hp1 : P1 = -1
 ·have HPN1 : Hid ((P1 != -1) = false) := Lib.hid (by rw [bne_eq_false_iff_eq]; exact hp1)
  have HM : Hid (M = false) := Lib.hid (by rw [HM0.out, decide_eq_false (by simpa using hp1)]; rfl)
  clear hp1
  refine wp_region_inv (by kernel_rfl) (I := MaJ W w.heap.size i j (some ⟨bF, oF, none⟩) (some ⟨bT, oT, none⟩) AS AE A nF cF nT cT nS cS nE cE n c bF oF bT oT u v P1 P2 ft _ _ _ _ _ _ _ _) (.mk false false false false false false false false false false false false false false false false false false false false false false false false false false false false false false false false false _ _ _ _ _ _ _ _ _ _ _ _ _ _ _ _ _ _ _ _ _ _ _ _ _ _ _ _ _ _ _ _ _ _ ⟨(Below.refl _ W).drew, nofun, nofun, nofun, nofun, nofun, nofun, nofun, nofun, nofun, nofun, nofun, nofun, nofun, nofun, nofun, nofun, nofun, nofun, nofun, nofun, nofun, nofun, nofun, nofun, nofun, nofun, nofun, nofun, nofun, nofun, nofun, nofun, nofun⟩) ?step ?fin
  case step =>
   rintro lq a' w' ix ⟨b0, b1, b2, b3, b4, b5, b6, b7, b8, b9, b10, b11, b12, b13, b14, b15, b16, b17, b18, b19, b20, b21, b22, b23, b24, b25, b26, b27, b28, b29, b30, b31, b32, v8, v9, v10, v11, v12, v13, v14, v15, v16, v17, v18, v19, v20, v21, v22, v23, v24, v25, v26, v27, v28, v29, v30, v31, v32, v33, v34, v35, v36, v37, v38, v39, v40, _, HT⟩ hi
   obtain ⟨hi_, hib⟩ := ready_lt hi
   have HTH := Lib.hid HT
   match ix, hi_, hi, hib with
   | 0, _, hi, hib =>
    clear HT
    refine wpOp_one rfl rfl (fun K hK => ?_)
    go_simp
    exact hK.out _ _ (.mk true b1 b2 b3 b4 b5 b6 b7 b8 b9 b10 b11 b12 b13 b14 b15 b16 b17 b18 b19 b20 b21 b22 b23 b24 b25 b26 b27 b28 b29 b30 b31 b32 _ _ _ _ _ _ _ _ _ _ _ _ _ _ _ _ _ _ _ _ _ _ _ _ _ _ _ _ _ _ _ _ _ _ { HTH.out with h0 := fun _ => rfl })
   | 1, _, hi, hib =>
    clear HT
    refine wpOp_one rfl rfl (fun K hK => ?_)
    go_simp
    exact hK.out _ _ (.mk b0 true b2 b3 b4 b5 b6 b7 b8 b9 b10 b11 b12 b13 b14 b15 b16 b17 b18 b19 b20 b21 b22 b23 b24 b25 b26 b27 b28 b29 b30 b31 b32 _ _ _ _ _ _ _ _ _ _ _ _ _ _ _ _ _ _ _ _ _ _ _ _ _ _ _ _ _ _ _ _ _ _ { HTH.out with h1 := fun _ => rfl })
   | 2, _, hi, hib =>
    have d0 : b0 = true := ready_dep hi rfl 0 (by kernel_rfl)
    have hd0 := HT.h0 d0
    subst hd0
    have d1 : b1 = true := ready_dep hi rfl 1 (by kernel_rfl)
    have hd1 := HT.h1 d1
    subst hd1
    have hne := HNE.out
    clear HT
    refine wpOp_one rfl rfl (fun K hK => ?_)
    go_simp
    exact hK.out _ _ (.mk b0 b1 true b3 b4 b5 b6 b7 b8 b9 b10 b11 b12 b13 b14 b15 b16 b17 b18 b19 b20 b21 b22 b23 b24 b25 b26 b27 b28 b29 b30 b31 b32 _ _ _ _ _ _ _ _ _ _ _ _ _ _ _ _ _ _ _ _ _ _ _ _ _ _ _ _ _ _ _ _ _ _ { HTH.out with h2 := fun _ => rfl })
   | 3, _, hi, hib =>
    have d2 : b2 = true := ready_dep hi rfl 2 (by kernel_rfl)
    have hd2 := HT.h2 d2
    subst hd2
    clear HT
    refine wpOp_one rfl rfl (fun K hK => ?_)
    go_simp
    exact hK.out _ _ (.mk b0 b1 b2 true b4 b5 b6 b7 b8 b9 b10 b11 b12 b13 b14 b15 b16 b17 b18 b19 b20 b21 b22 b23 b24 b25 b26 b27 b28 b29 b30 b31 b32 _ _ _ _ _ _ _ _ _ _ _ _ _ _ _ _ _ _ _ _ _ _ _ _ _ _ _ _ _ _ _ _ _ _ { HTH.out with h3 := fun _ => rfl })
   | 4, _, hi, hib =>
    have e3 : b3 = true := ready_dep hi rfl 3 (by kernel_rfl)
    have he3 := HT.h3 e3
    subst he3
    have HTb := Lib.hid HT.bel
    obtain ⟨y0, y1, y2, y3⟩ := row4 ((HTb.out.block w.heap.size (by have := HZ.out; omega)).trans H0.out)
    clear HT
    refine wpOp_want rfl 3 true rfl rfl (fun K hK => ?_)
    go_simp
    exact hK.out _ _ (.mk b0 b1 b2 b3 true b5 b6 b7 b8 b9 b10 b11 b12 b13 b14 b15 b16 b17 b18 b19 b20 b21 b22 b23 b24 b25 b26 b27 b28 b29 b30 b31 b32 _ _ _ _ _ _ _ _ _ _ _ _ _ _ _ _ _ _ _ _ _ _ _ _ _ _ _ _ _ _ _ _ _ _ { HTH.out with h4 := fun _ => rfl })
   | 5, _, hi, hib =>
    have e3 : b3 = true := ready_dep hi rfl 3 (by kernel_rfl)
    have he3 := HT.h3 e3
    subst he3
    clear HT
    refine wpOp_want rfl 3 true rfl rfl (fun K hK => ?_)
    go_simp
    exact hK.out _ _ (.mk b0 b1 b2 b3 b4 true b6 b7 b8 b9 b10 b11 b12 b13 b14 b15 b16 b17 b18 b19 b20 b21 b22 b23 b24 b25 b26 b27 b28 b29 b30 b31 b32 _ _ _ _ _ _ _ _ _ _ _ _ _ _ _ _ _ _ _ _ _ _ _ _ _ _ _ _ _ _ _ _ _ _ { HTH.out with h5 := fun _ => rfl })
   | 6, _, hi, hib =>
    have e3 : b3 = true := ready_dep hi rfl 3 (by kernel_rfl)
    have he3 := HT.h3 e3
    subst he3
    have d4 : b4 = true := ready_dep hi rfl 4 (by kernel_rfl)
    have hd4 := HT.h4 d4
    subst hd4
    have d5 : b5 = true := ready_dep hi rfl 5 (by kernel_rfl)
    have hd5 := HT.h5 d5
    subst hd5
    have HTb := Lib.hid HT.bel
    have HC := Lib.hid (place_any (w := w') (nF := nF) (cF := cF) (nT := nT) (cT := cT) (c := cS) (nE := nE) (cE := cE) (AF := some ⟨bF, oF, none⟩) (AT := some ⟨bT, oT, none⟩) (AE := AE) (HS.out.below (HTb.out.mono HBS.out) HBS.out) (Nat.le_trans HBS.out HTb.out.size) HNS.out (i : Int) 2)
    rw [HP1.out] at HC
    clear HT
    refine wpOp_want rfl 3 true rfl rfl (fun K hK => ?_)
    go_simp
    refine HC.out.mono ?_
    rintro e w2 ⟨rfl, hb⟩
    exact hK.out _ _ (.mk b0 b1 b2 b3 b4 b5 true b7 b8 b9 b10 b11 b12 b13 b14 b15 b16 b17 b18 b19 b20 b21 b22 b23 b24 b25 b26 b27 b28 b29 b30 b31 b32 _ _ _ _ _ _ _ _ _ _ _ _ _ _ _ _ _ _ _ _ _ _ _ _ _ _ _ _ _ _ _ _ _ _ { HTH.out with bel := HTH.out.bel.trans (hb.mono HTH.out.bel.size), h6 := fun _ => rfl })
   | 7, _, hi, hib =>
    have e3 : b3 = true := ready_dep hi rfl 3 (by kernel_rfl)
    have he3 := HT.h3 e3
    subst he3
    have d6 : b6 = true := ready_dep hi rfl 6 (by kernel_rfl)
    have hd6 := HT.h6 d6
    subst hd6
    have hp1 := HPN1.out
    clear HT
    refine wpOp_want rfl 3 true rfl rfl (fun K hK => ?_)
    go_simp
    exact hK.out _ _ (.mk b0 b1 b2 b3 b4 b5 b6 true b8 b9 b10 b11 b12 b13 b14 b15 b16 b17 b18 b19 b20 b21 b22 b23 b24 b25 b26 b27 b28 b29 b30 b31 b32 _ _ _ _ _ _ _ _ _ _ _ _ _ _ _ _ _ _ _ _ _ _ _ _ _ _ _ _ _ _ _ _ _ _ { HTH.out with h7 := fun _ => rfl })
   | 8, _, hi, hib =>
    have d3 : b3 = true := ready_dep hi rfl 3 (by kernel_rfl)
    have hd3 := HT.h3 d3
    subst hd3
    have d7 : b7 = true := ready_dep hi rfl 7 (by kernel_rfl)
    have hd7 := HT.h7 d7
    subst hd7
    clear HT
    refine wpOp_one rfl rfl (fun K hK => ?_)
    go_simp
    exact hK.out _ _ (.mk b0 b1 b2 b3 b4 b5 b6 b7 true b9 b10 b11 b12 b13 b14 b15 b16 b17 b18 b19 b20 b21 b22 b23 b24 b25 b26 b27 b28 b29 b30 b31 b32 _ _ _ _ _ _ _ _ _ _ _ _ _ _ _ _ _ _ _ _ _ _ _ _ _ _ _ _ _ _ _ _ _ _ { HTH.out with h8 := fun _ => rfl })
   | 9, _, hi, hib =>
    have d8 : b8 = true := ready_dep hi rfl 8 (by kernel_rfl)
    have hd8 := HT.h8 d8
    subst hd8
    clear HT
    refine wpOp_one rfl rfl (fun K hK => ?_)
    go_simp
    exact hK.out _ _ (.mk b0 b1 b2 b3 b4 b5 b6 b7 b8 true b10 b11 b12 b13 b14 b15 b16 b17 b18 b19 b20 b21 b22 b23 b24 b25 b26 b27 b28 b29 b30 b31 b32 _ _ _ _ _ _ _ _ _ _ _ _ _ _ _ _ _ _ _ _ _ _ _ _ _ _ _ _ _ _ _ _ _ _ { HTH.out with h9 := fun _ => rfl })
   | 10, _, hi, hib =>
    have e9 : b9 = true := ready_dep hi rfl 9 (by kernel_rfl)
    have he9 := HT.h9 e9
    subst he9
    refine wpOp_skip rfl 9 true rfl rfl ?_
    exact .mk b0 b1 b2 b3 b4 b5 b6 b7 b8 b9 true b11 b12 b13 b14 b15 b16 b17 b18 b19 b20 b21 b22 b23 b24 b25 b26 b27 b28 b29 b30 b31 b32 _ _ _ _ _ _ _ _ _ _ _ _ _ _ _ _ _ _ _ _ _ _ _ _ _ _ _ _ _ _ _ _ _ _ { HT with h10 := fun _ => rfl }
   | 11, _, hi, hib =>
    have e9 : b9 = true := ready_dep hi rfl 9 (by kernel_rfl)
    have he9 := HT.h9 e9
    subst he9
    refine wpOp_skip rfl 9 true rfl rfl ?_
    exact .mk b0 b1 b2 b3 b4 b5 b6 b7 b8 b9 b10 true b12 b13 b14 b15 b16 b17 b18 b19 b20 b21 b22 b23 b24 b25 b26 b27 b28 b29 b30 b31 b32 _ _ _ _ _ _ _ _ _ _ _ _ _ _ _ _ _ _ _ _ _ _ _ _ _ _ _ _ _ _ _ _ _ _ { HT with h11 := fun _ => rfl }
   | 12, _, hi, hib =>
    have e9 : b9 = true := ready_dep hi rfl 9 (by kernel_rfl)
    have he9 := HT.h9 e9
    subst he9
    refine wpOp_skip rfl 9 true rfl rfl ?_
    exact .mk b0 b1 b2 b3 b4 b5 b6 b7 b8 b9 b10 b11 true b13 b14 b15 b16 b17 b18 b19 b20 b21 b22 b23 b24 b25 b26 b27 b28 b29 b30 b31 b32 _ _ _ _ _ _ _ _ _ _ _ _ _ _ _ _ _ _ _ _ _ _ _ _ _ _ _ _ _ _ _ _ _ _ { HT with h12 := fun _ => rfl }
   | 13, _, hi, hib =>
    have e9 : b9 = true := ready_dep hi rfl 9 (by kernel_rfl)
    have he9 := HT.h9 e9
    subst he9
    refine wpOp_skip rfl 9 true rfl rfl ?_
    exact .mk b0 b1 b2 b3 b4 b5 b6 b7 b8 b9 b10 b11 b12 true b14 b15 b16 b17 b18 b19 b20 b21 b22 b23 b24 b25 b26 b27 b28 b29 b30 b31 b32 _ _ _ _ _ _ _ _ _ _ _ _ _ _ _ _ _ _ _ _ _ _ _ _ _ _ _ _ _ _ _ _ _ _ { HT with h13 := fun _ => rfl }
   | 14, _, hi, hib =>
    have d9 : b9 = true := ready_dep hi rfl 9 (by kernel_rfl)
    have hd9 := HT.h9 d9
    subst hd9
    have d13 : b13 = true := ready_dep hi rfl 13 (by kernel_rfl)
    have hd13 := HT.h13 d13
    subst hd13
    clear HT
    refine wpOp_one rfl rfl (fun K hK => ?_)
    go_simp
    exact hK.out _ _ (.mk b0 b1 b2 b3 b4 b5 b6 b7 b8 b9 b10 b11 b12 b13 true b15 b16 b17 b18 b19 b20 b21 b22 b23 b24 b25 b26 b27 b28 b29 b30 b31 b32 _ _ _ _ _ _ _ _ _ _ _ _ _ _ _ _ _ _ _ _ _ _ _ _ _ _ _ _ _ _ _ _ _ _ { HTH.out with h14 := fun _ => rfl })
   | 15, _, hi, hib =>
    have d14 : b14 = true := ready_dep hi rfl 14 (by kernel_rfl)
    have hd14 := HT.h14 d14
    subst hd14
    clear HT
    refine wpOp_one rfl rfl (fun K hK => ?_)
    go_simp
    exact hK.out _ _ (.mk b0 b1 b2 b3 b4 b5 b6 b7 b8 b9 b10 b11 b12 b13 b14 true b16 b17 b18 b19 b20 b21 b22 b23 b24 b25 b26 b27 b28 b29 b30 b31 b32 _ _ _ _ _ _ _ _ _ _ _ _ _ _ _ _ _ _ _ _ _ _ _ _ _ _ _ _ _ _ _ _ _ _ { HTH.out with h15 := fun _ => rfl })
   | 16, _, hi, hib =>
    have e15 : b15 = true := ready_dep hi rfl 15 (by kernel_rfl)
    have he15 := HT.h15 e15
    subst he15
    refine wpOp_skip rfl 15 true rfl rfl ?_
    exact .mk b0 b1 b2 b3 b4 b5 b6 b7 b8 b9 b10 b11 b12 b13 b14 b15 true b17 b18 b19 b20 b21 b22 b23 b24 b25 b26 b27 b28 b29 b30 b31 b32 _ _ _ _ _ _ _ _ _ _ _ _ _ _ _ _ _ _ _ _ _ _ _ _ _ _ _ _ _ _ _ _ _ _ { HT with h16 := fun _ => rfl }
   | 17, _, hi, hib =>
    have e15 : b15 = true := ready_dep hi rfl 15 (by kernel_rfl)
    have he15 := HT.h15 e15
    subst he15
    refine wpOp_skip rfl 15 true rfl rfl ?_
    exact .mk b0 b1 b2 b3 b4 b5 b6 b7 b8 b9 b10 b11 b12 b13 b14 b15 b16 true b18 b19 b20 b21 b22 b23 b24 b25 b26 b27 b28 b29 b30 b31 b32 _ _ _ _ _ _ _ _ _ _ _ _ _ _ _ _ _ _ _ _ _ _ _ _ _ _ _ _ _ _ _ _ _ _ { HT with h17 := fun _ => rfl }
   | 18, _, hi, hib =>
    have e15 : b15 = true := ready_dep hi rfl 15 (by kernel_rfl)
    have he15 := HT.h15 e15
    subst he15
    refine wpOp_skip rfl 15 true rfl rfl ?_
    exact .mk b0 b1 b2 b3 b4 b5 b6 b7 b8 b9 b10 b11 b12 b13 b14 b15 b16 b17 true b19 b20 b21 b22 b23 b24 b25 b26 b27 b28 b29 b30 b31 b32 _ _ _ _ _ _ _ _ _ _ _ _ _ _ _ _ _ _ _ _ _ _ _ _ _ _ _ _ _ _ _ _ _ _ { HT with h18 := fun _ => rfl }
   | 19, _, hi, hib =>
    have e15 : b15 = true := ready_dep hi rfl 15 (by kernel_rfl)
    have he15 := HT.h15 e15
    subst he15
    refine wpOp_skip rfl 15 true rfl rfl ?_
    exact .mk b0 b1 b2 b3 b4 b5 b6 b7 b8 b9 b10 b11 b12 b13 b14 b15 b16 b17 b18 true b20 b21 b22 b23 b24 b25 b26 b27 b28 b29 b30 b31 b32 _ _ _ _ _ _ _ _ _ _ _ _ _ _ _ _ _ _ _ _ _ _ _ _ _ _ _ _ _ _ _ _ _ _ { HT with h19 := fun _ => rfl }
   | 20, _, hi, hib =>
    have e15 : b15 = true := ready_dep hi rfl 15 (by kernel_rfl)
    have he15 := HT.h15 e15
    subst he15
    refine wpOp_skip rfl 15 true rfl rfl ?_
    exact .mk b0 b1 b2 b3 b4 b5 b6 b7 b8 b9 b10 b11 b12 b13 b14 b15 b16 b17 b18 b19 true b21 b22 b23 b24 b25 b26 b27 b28 b29 b30 b31 b32 _ _ _ _ _ _ _ _ _ _ _ _ _ _ _ _ _ _ _ _ _ _ _ _ _ _ _ _ _ _ _ _ _ _ { HT with h20 := fun _ => rfl }
   | 21, _, hi, hib =>
    have e15 : b15 = true := ready_dep hi rfl 15 (by kernel_rfl)
    have he15 := HT.h15 e15
    subst he15
    refine wpOp_skip rfl 15 true rfl rfl ?_
    exact .mk b0 b1 b2 b3 b4 b5 b6 b7 b8 b9 b10 b11 b12 b13 b14 b15 b16 b17 b18 b19 b20 true b22 b23 b24 b25 b26 b27 b28 b29 b30 b31 b32 _ _ _ _ _ _ _ _ _ _ _ _ _ _ _ _ _ _ _ _ _ _ _ _ _ _ _ _ _ _ _ _ _ _ { HT with h21 := fun _ => rfl }
   | 22, _, hi, hib =>
    have e15 : b15 = true := ready_dep hi rfl 15 (by kernel_rfl)
    have he15 := HT.h15 e15
    subst he15
    refine wpOp_skip rfl 15 true rfl rfl ?_
    exact .mk b0 b1 b2 b3 b4 b5 b6 b7 b8 b9 b10 b11 b12 b13 b14 b15 b16 b17 b18 b19 b20 b21 true b23 b24 b25 b26 b27 b28 b29 b30 b31 b32 _ _ _ _ _ _ _ _ _ _ _ _ _ _ _ _ _ _ _ _ _ _ _ _ _ _ _ _ _ _ _ _ _ _ { HT with h22 := fun _ => rfl }
   | 23, _, hi, hib =>
    have e15 : b15 = true := ready_dep hi rfl 15 (by kernel_rfl)
    have he15 := HT.h15 e15
    subst he15
    refine wpOp_skip rfl 15 true rfl rfl ?_
    exact .mk b0 b1 b2 b3 b4 b5 b6 b7 b8 b9 b10 b11 b12 b13 b14 b15 b16 b17 b18 b19 b20 b21 b22 true b24 b25 b26 b27 b28 b29 b30 b31 b32 _ _ _ _ _ _ _ _ _ _ _ _ _ _ _ _ _ _ _ _ _ _ _ _ _ _ _ _ _ _ _ _ _ _ { HT with h23 := fun _ => rfl }
   | 24, _, hi, hib =>
    have e15 : b15 = true := ready_dep hi rfl 15 (by kernel_rfl)
    have he15 := HT.h15 e15
    subst he15
    refine wpOp_skip rfl 15 true rfl rfl ?_
    exact .mk b0 b1 b2 b3 b4 b5 b6 b7 b8 b9 b10 b11 b12 b13 b14 b15 b16 b17 b18 b19 b20 b21 b22 b23 true b25 b26 b27 b28 b29 b30 b31 b32 _ _ _ _ _ _ _ _ _ _ _ _ _ _ _ _ _ _ _ _ _ _ _ _ _ _ _ _ _ _ _ _ _ _ { HT with h24 := fun _ => rfl }
   | 25, _, hi, hib =>
    have e15 : b15 = true := ready_dep hi rfl 15 (by kernel_rfl)
    have he15 := HT.h15 e15
    subst he15
    refine wpOp_skip rfl 15 true rfl rfl ?_
    exact .mk b0 b1 b2 b3 b4 b5 b6 b7 b8 b9 b10 b11 b12 b13 b14 b15 b16 b17 b18 b19 b20 b21 b22 b23 b24 true b26 b27 b28 b29 b30 b31 b32 _ _ _ _ _ _ _ _ _ _ _ _ _ _ _ _ _ _ _ _ _ _ _ _ _ _ _ _ _ _ _ _ _ _ { HT with h25 := fun _ => rfl }
   | 26, _, hi, hib =>
    have e15 : b15 = true := ready_dep hi rfl 15 (by kernel_rfl)
    have he15 := HT.h15 e15
    subst he15
    refine wpOp_skip rfl 15 true rfl rfl ?_
    exact .mk b0 b1 b2 b3 b4 b5 b6 b7 b8 b9 b10 b11 b12 b13 b14 b15 b16 b17 b18 b19 b20 b21 b22 b23 b24 b25 true b27 b28 b29 b30 b31 b32 _ _ _ _ _ _ _ _ _ _ _ _ _ _ _ _ _ _ _ _ _ _ _ _ _ _ _ _ _ _ _ _ _ _ { HT with h26 := fun _ => rfl }
   | 27, _, hi, hib =>
    have e15 : b15 = true := ready_dep hi rfl 15 (by kernel_rfl)
    have he15 := HT.h15 e15
    subst he15
    refine wpOp_skip rfl 15 true rfl rfl ?_
    exact .mk b0 b1 b2 b3 b4 b5 b6 b7 b8 b9 b10 b11 b12 b13 b14 b15 b16 b17 b18 b19 b20 b21 b22 b23 b24 b25 b26 true b28 b29 b30 b31 b32 _ _ _ _ _ _ _ _ _ _ _ _ _ _ _ _ _ _ _ _ _ _ _ _ _ _ _ _ _ _ _ _ _ _ { HT with h27 := fun _ => rfl }
   | 28, _, hi, hib =>
    have e15 : b15 = true := ready_dep hi rfl 15 (by kernel_rfl)
    have he15 := HT.h15 e15
    subst he15
    refine wpOp_skip rfl 15 true rfl rfl ?_
    exact .mk b0 b1 b2 b3 b4 b5 b6 b7 b8 b9 b10 b11 b12 b13 b14 b15 b16 b17 b18 b19 b20 b21 b22 b23 b24 b25 b26 b27 true b29 b30 b31 b32 _ _ _ _ _ _ _ _ _ _ _ _ _ _ _ _ _ _ _ _ _ _ _ _ _ _ _ _ _ _ _ _ _ _ { HT with h28 := fun _ => rfl }
   | 29, _, hi, hib =>
    have e15 : b15 = true := ready_dep hi rfl 15 (by kernel_rfl)
    have he15 := HT.h15 e15
    subst he15
    refine wpOp_skip rfl 15 true rfl rfl ?_
    exact .mk b0 b1 b2 b3 b4 b5 b6 b7 b8 b9 b10 b11 b12 b13 b14 b15 b16 b17 b18 b19 b20 b21 b22 b23 b24 b25 b26 b27 b28 true b30 b31 b32 _ _ _ _ _ _ _ _ _ _ _ _ _ _ _ _ _ _ _ _ _ _ _ _ _ _ _ _ _ _ _ _ _ _ { HT with h29 := fun _ => rfl }
   | 30, _, hi, hib =>
    have e15 : b15 = true := ready_dep hi rfl 15 (by kernel_rfl)
    have he15 := HT.h15 e15
    subst he15
    refine wpOp_skip rfl 15 true rfl rfl ?_
    exact .mk b0 b1 b2 b3 b4 b5 b6 b7 b8 b9 b10 b11 b12 b13 b14 b15 b16 b17 b18 b19 b20 b21 b22 b23 b24 b25 b26 b27 b28 b29 true b31 b32 _ _ _ _ _ _ _ _ _ _ _ _ _ _ _ _ _ _ _ _ _ _ _ _ _ _ _ _ _ _ _ _ _ _ { HT with h30 := fun _ => rfl }
   | 31, _, hi, hib =>
    have d15 : b15 = true := ready_dep hi rfl 15 (by kernel_rfl)
    have hd15 := HT.h15 d15
    subst hd15
    have d30 : b30 = true := ready_dep hi rfl 30 (by kernel_rfl)
    have hd30 := HT.h30 d30
    subst hd30
    clear HT
    refine wpOp_one rfl rfl (fun K hK => ?_)
    go_simp
    exact hK.out _ _ (.mk b0 b1 b2 b3 b4 b5 b6 b7 b8 b9 b10 b11 b12 b13 b14 b15 b16 b17 b18 b19 b20 b21 b22 b23 b24 b25 b26 b27 b28 b29 b30 true b32 _ _ _ _ _ _ _ _ _ _ _ _ _ _ _ _ _ _ _ _ _ _ _ _ _ _ _ _ _ _ _ _ _ _ { HTH.out with h31 := fun _ => rfl })
   | 32, _, hi, hib =>
    have d31 : b31 = true := ready_dep hi rfl 31 (by kernel_rfl)
    have hd31 := HT.h31 d31
    subst hd31
    clear HT
    refine wpOp_one rfl rfl (fun K hK => ?_)
    go_simp
    exact hK.out _ _ (.mk b0 b1 b2 b3 b4 b5 b6 b7 b8 b9 b10 b11 b12 b13 b14 b15 b16 b17 b18 b19 b20 b21 b22 b23 b24 b25 b26 b27 b28 b29 b30 b31 true _ _ _ _ _ _ _ _ _ _ _ _ _ _ _ _ _ _ _ _ _ _ _ _ _ _ _ _ _ _ _ _ _ _ { HTH.out with h32 := fun _ => rfl })
  case fin =>
   rintro lq a' w' ⟨b0, b1, b2, b3, b4, b5, b6, b7, b8, b9, b10, b11, b12, b13, b14, b15, b16, b17, b18, b19, b20, b21, b22, b23, b24, b25, b26, b27, b28, b29, b30, b31, b32, v8, v9, v10, v11, v12, v13, v14, v15, v16, v17, v18, v19, v20, v21, v22, v23, v24, v25, v26, v27, v28, v29, v30, v31, v32, v33, v34, v35, v36, v37, v38, v39, v40, _, HT⟩ hr
   obtain rfl : b0 = true := by
    cases b0 with
    | true => rfl
    | false => exact (ready_in 0 rfl rfl (by simp [Region.binds]) hr).elim
   obtain rfl : b1 = true := by
    cases b1 with
    | true => rfl
    | false => exact (ready_in 1 rfl rfl (by simp [Region.binds]) hr).elim
   obtain rfl : b2 = true := by
    cases b2 with
    | true => rfl
    | false => exact (ready_in 2 rfl rfl (by simp [Region.binds]) hr).elim
   obtain rfl : b3 = true := by
    cases b3 with
    | true => rfl
    | false => exact (ready_in 3 rfl rfl (by simp [Region.binds]) hr).elim
   obtain rfl : b4 = true := by
    cases b4 with
    | true => rfl
    | false => exact (ready_in 4 rfl rfl (by simp [Region.binds]) hr).elim
   obtain rfl : b5 = true := by
    cases b5 with
    | true => rfl
    | false => exact (ready_in 5 rfl rfl (by simp [Region.binds]) hr).elim
   obtain rfl : b6 = true := by
    cases b6 with
    | true => rfl
    | false => exact (ready_in 6 rfl rfl (by simp [Region.binds]) hr).elim
   obtain rfl : b7 = true := by
    cases b7 with
    | true => rfl
    | false => exact (ready_in 7 rfl rfl (by simp [Region.binds]) hr).elim
   obtain rfl : b8 = true := by
    cases b8 with
    | true => rfl
    | false => exact (ready_in 8 rfl rfl (by simp [Region.binds]) hr).elim
   obtain rfl : b9 = true := by
    cases b9 with
    | true => rfl
    | false => exact (ready_in 9 rfl rfl (by simp [Region.binds]) hr).elim
   obtain rfl : b10 = true := by
    cases b10 with
    | true => rfl
    | false => exact (ready_in 10 rfl rfl (by simp [Region.binds]) hr).elim
   obtain rfl : b11 = true := by
    cases b11 with
    | true => rfl
    | false => exact (ready_in 11 rfl rfl (by simp [Region.binds]) hr).elim
   obtain rfl : b12 = true := by
    cases b12 with
    | true => rfl
    | false => exact (ready_in 12 rfl rfl (by simp [Region.binds]) hr).elim
   obtain rfl : b13 = true := by
    cases b13 with
    | true => rfl
    | false => exact (ready_in 13 rfl rfl (by simp [Region.binds]) hr).elim
   obtain rfl : b14 = true := by
    cases b14 with
    | true => rfl
    | false => exact (ready_in 14 rfl rfl (by simp [Region.binds]) hr).elim
   obtain rfl : b15 = true := by
    cases b15 with
    | true => rfl
    | false => exact (ready_in 15 rfl rfl (by simp [Region.binds]) hr).elim
   obtain rfl : b16 = true := by
    cases b16 with
    | true => rfl
    | false => exact (ready_in 16 rfl rfl (by simp [Region.binds]) hr).elim
   obtain rfl : b17 = true := by
    cases b17 with
    | true => rfl
    | false => exact (ready_in 17 rfl rfl (by simp [Region.binds]) hr).elim
   obtain rfl : b18 = true := by
    cases b18 with
    | true => rfl
    | false => exact (ready_in 18 rfl rfl (by simp [Region.binds]) hr).elim
   obtain rfl : b19 = true := by
    cases b19 with
    | true => rfl
    | false => exact (ready_in 19 rfl rfl (by simp [Region.binds]) hr).elim
   obtain rfl : b20 = true := by
    cases b20 with
    | true => rfl
    | false => exact (ready_in 20 rfl rfl (by simp [Region.binds]) hr).elim
   obtain rfl : b21 = true := by
    cases b21 with
    | true => rfl
    | false => exact (ready_in 21 rfl rfl (by simp [Region.binds]) hr).elim
   obtain rfl : b22 = true := by
    cases b22 with
    | true => rfl
    | false => exact (ready_in 22 rfl rfl (by simp [Region.binds]) hr).elim
   obtain rfl : b23 = true := by
    cases b23 with
    | true => rfl
    | false => exact (ready_in 23 rfl rfl (by simp [Region.binds]) hr).elim
   obtain rfl : b24 = true := by
    cases b24 with
    | true => rfl
    | false => exact (ready_in 24 rfl rfl (by simp [Region.binds]) hr).elim
   obtain rfl : b25 = true := by
    cases b25 with
    | true => rfl
    | false => exact (ready_in 25 rfl rfl (by simp [Region.binds]) hr).elim
   obtain rfl : b26 = true := by
    cases b26 with
    | true => rfl
    | false => exact (ready_in 26 rfl rfl (by simp [Region.binds]) hr).elim
   obtain rfl : b27 = true := by
    cases b27 with
    | true => rfl
    | false => exact (ready_in 27 rfl rfl (by simp [Region.binds]) hr).elim
   obtain rfl : b28 = true := by
    cases b28 with
    | true => rfl
    | false => exact (ready_in 28 rfl rfl (by simp [Region.binds]) hr).elim
   obtain rfl : b29 = true := by
    cases b29 with
    | true => rfl
    | false => exact (ready_in 29 rfl rfl (by simp [Region.binds]) hr).elim
   obtain rfl : b30 = true := by
    cases b30 with
    | true => rfl
    | false => exact (ready_in 30 rfl rfl (by simp [Region.binds]) hr).elim
   obtain rfl : b31 = true := by
    cases b31 with
    | true => rfl
    | false => exact (ready_in 31 rfl rfl (by simp [Region.binds]) hr).elim
   obtain rfl : b32 = true := by
    cases b32 with
    | true => rfl
    | false => exact (ready_in 32 rfl rfl (by simp [Region.binds]) hr).elim
   have k0 := HT.h0 rfl
   subst k0
   have k1 := HT.h1 rfl
   subst k1
   have k2 := HT.h2 rfl
   subst k2
   have k3 := HT.h3 rfl
   subst k3
   have k4 := HT.h4 rfl
   subst k4
   have k5 := HT.h5 rfl
   subst k5
   have k6 := HT.h6 rfl
   subst k6
   have k7 := HT.h7 rfl
   subst k7
   have k8 := HT.h8 rfl
   subst k8
   have k9 := HT.h9 rfl
   subst k9
   have k10 := HT.h10 rfl
   subst k10
   have k11 := HT.h11 rfl
   subst k11
   have k12 := HT.h12 rfl
   subst k12
   have k13 := HT.h13 rfl
   subst k13
   have k14 := HT.h14 rfl
   subst k14
   have k15 := HT.h15 rfl
   subst k15
   have k16 := HT.h16 rfl
   subst k16
   have k17 := HT.h17 rfl
   subst k17
   have k18 := HT.h18 rfl
   subst k18
   have k19 := HT.h19 rfl
   subst k19
   have k20 := HT.h20 rfl
   subst k20
   have k21 := HT.h21 rfl
   subst k21
   have k22 := HT.h22 rfl
   subst k22
   have k23 := HT.h23 rfl
   subst k23
   have k24 := HT.h24 rfl
   subst k24
   have k25 := HT.h25 rfl
   subst k25
   have k26 := HT.h26 rfl
   subst k26
   have k27 := HT.h27 rfl
   subst k27
   have k28 := HT.h28 rfl
   subst k28
   have k29 := HT.h29 rfl
   subst k29
   have k30 := HT.h30 rfl
   subst k30
   have k31 := HT.h31 rfl
   subst k31
   have k32 := HT.h32 rfl
   subst k32
   have HBZ := Lib.hid HT.bel
   clear HT hr
   go_wp2_with fail
   refine bodyPost_ret (results_tmp rfl _ _ _) rfl ⟨?_, HBL.out.trans (HBZ.out.mono HBL.out.size)⟩
   exact congrArg (fun b => Ending.returned (.bool b)) HM.out.symm
 have HPN1 : Hid ((P1 != -1) = true) := Lib.hid (by rw [bne_iff_ne]; exact hp1)
 by_cases hp2 : P2 = -1
 ·have HPN2 : Hid ((P2 != -1) = false) := Lib.hid (by rw [bne_eq_false_iff_eq]; exact hp2)
  have HM : Hid (M = false) := Lib.hid (by rw [HM0.out, decide_eq_false (show ¬ P2 ≠ -1 by simpa using hp2)]; simp)
  clear hp2
  refine wp_region_inv (by kernel_rfl) (I := MbJ W w.heap.size i j (some ⟨bF, oF, none⟩) (some ⟨bT, oT, none⟩) AS AE A nF cF nT cT nS cS nE cE n c bF oF bT oT u v P1 P2 ft _ _ _ _ _ _ _ _) (.mk false false false false false false false false false false false false false false false false false false false false false false false false false false false false false false false false false _ _ _ _ _ _ _ _ _ _ _ _ _ _ _ _ _ _ _ _ _ _ _ _ _ _ _ _ _ _ _ _ _ _ ⟨(Below.refl _ W).drew, nofun, nofun, nofun, nofun, nofun, nofun, nofun, nofun, nofun, nofun, nofun, nofun, nofun, nofun, nofun, nofun, nofun, nofun, nofun, nofun, nofun, nofun, nofun, nofun, nofun, nofun, nofun, nofun, nofun, nofun, nofun, nofun, nofun⟩) ?step ?fin
  case step =>
   rintro lq a' w' ix ⟨b0, b1, b2, b3, b4, b5, b6, b7, b8, b9, b10, b11, b12, b13, b14, b15, b16, b17, b18, b19, b20, b21, b22, b23, b24, b25, b26, b27, b28, b29, b30, b31, b32, v8, v9, v10, v11, v12, v13, v14, v15, v16, v17, v18, v19, v20, v21, v22, v23, v24, v25, v26, v27, v28, v29, v30, v31, v32, v33, v34, v35, v36, v37, v38, v39, v40, _, HT⟩ hi
   obtain ⟨hi_, hib⟩ := ready_lt hi
   have HTH := Lib.hid HT
   match ix, hi_, hi, hib with
   | 0, _, hi, hib =>
    clear HT
    refine wpOp_one rfl rfl (fun K hK => ?_)
    go_simp
    exact hK.out _ _ (.mk true b1 b2 b3 b4 b5 b6 b7 b8 b9 b10 b11 b12 b13 b14 b15 b16 b17 b18 b19 b20 b21 b22 b23 b24 b25 b26 b27 b28 b29 b30 b31 b32 _ _ _ _ _ _ _ _ _ _ _ _ _ _ _ _ _ _ _ _ _ _ _ _ _ _ _ _ _ _ _ _ _ _ { HTH.out with h0 := fun _ => rfl })
   | 1, _, hi, hib =>
    clear HT
    refine wpOp_one rfl rfl (fun K hK => ?_)
    go_simp
    exact hK.out _ _ (.mk b0 true b2 b3 b4 b5 b6 b7 b8 b9 b10 b11 b12 b13 b14 b15 b16 b17 b18 b19 b20 b21 b22 b23 b24 b25 b26 b27 b28 b29 b30 b31 b32 _ _ _ _ _ _ _ _ _ _ _ _ _ _ _ _ _ _ _ _ _ _ _ _ _ _ _ _ _ _ _ _ _ _ { HTH.out with h1 := fun _ => rfl })
   | 2, _, hi, hib =>
    have d0 : b0 = true := ready_dep hi rfl 0 (by kernel_rfl)
    have hd0 := HT.h0 d0
    subst hd0
    have d1 : b1 = true := ready_dep hi rfl 1 (by kernel_rfl)
    have hd1 := HT.h1 d1
    subst hd1
    have hne := HNE.out
    clear HT
    refine wpOp_one rfl rfl (fun K hK => ?_)
    go_simp
    exact hK.out _ _ (.mk b0 b1 true b3 b4 b5 b6 b7 b8 b9 b10 b11 b12 b13 b14 b15 b16 b17 b18 b19 b20 b21 b22 b23 b24 b25 b26 b27 b28 b29 b30 b31 b32 _ _ _ _ _ _ _ _ _ _ _ _ _ _ _ _ _ _ _ _ _ _ _ _ _ _ _ _ _ _ _ _ _ _ { HTH.out with h2 := fun _ => rfl })
   | 3, _, hi, hib =>
    have d2 : b2 = true := ready_dep hi rfl 2 (by kernel_rfl)
    have hd2 := HT.h2 d2
    subst hd2
    clear HT
    refine wpOp_one rfl rfl (fun K hK => ?_)
    go_simp
    exact hK.out _ _ (.mk b0 b1 b2 true b4 b5 b6 b7 b8 b9 b10 b11 b12 b13 b14 b15 b16 b17 b18 b19 b20 b21 b22 b23 b24 b25 b26 b27 b28 b29 b30 b31 b32 _ _ _ _ _ _ _ _ _ _ _ _ _ _ _ _ _ _ _ _ _ _ _ _ _ _ _ _ _ _ _ _ _ _ { HTH.out with h3 := fun _ => rfl })
   | 4, _, hi, hib =>
    have e3 : b3 = true := ready_dep hi rfl 3 (by kernel_rfl)
    have he3 := HT.h3 e3
    subst he3
    have HTb := Lib.hid HT.bel
    obtain ⟨y0, y1, y2, y3⟩ := row4 ((HTb.out.block w.heap.size (by have := HZ.out; omega)).trans H0.out)
    clear HT
    refine wpOp_want rfl 3 true rfl rfl (fun K hK => ?_)
    go_simp
    exact hK.out _ _ (.mk b0 b1 b2 b3 true b5 b6 b7 b8 b9 b10 b11 b12 b13 b14 b15 b16 b17 b18 b19 b20 b21 b22 b23 b24 b25 b26 b27 b28 b29 b30 b31 b32 _ _ _ _ _ _ _ _ _ _ _ _ _ _ _ _ _ _ _ _ _ _ _ _ _ _ _ _ _ _ _ _ _ _ { HTH.out with h4 := fun _ => rfl })
   | 5, _, hi, hib =>
    have e3 : b3 = true := ready_dep hi rfl 3 (by kernel_rfl)
    have he3 := HT.h3 e3
    subst he3
    clear HT
    refine wpOp_want rfl 3 true rfl rfl (fun K hK => ?_)
    go_simp
    exact hK.out _ _ (.mk b0 b1 b2 b3 b4 true b6 b7 b8 b9 b10 b11 b12 b13 b14 b15 b16 b17 b18 b19 b20 b21 b22 b23 b24 b25 b26 b27 b28 b29 b30 b31 b32 _ _ _ _ _ _ _ _ _ _ _ _ _ _ _ _ _ _ _ _ _ _ _ _ _ _ _ _ _ _ _ _ _ _ { HTH.out with h5 := fun _ => rfl })
   | 6, _, hi, hib =>
    have e3 : b3 = true := ready_dep hi rfl 3 (by kernel_rfl)
    have he3 := HT.h3 e3
    subst he3
    have d4 : b4 = true := ready_dep hi rfl 4 (by kernel_rfl)
    have hd4 := HT.h4 d4
    subst hd4
    have d5 : b5 = true := ready_dep hi rfl 5 (by kernel_rfl)
    have hd5 := HT.h5 d5
    subst hd5
    have HTb := Lib.hid HT.bel
    have HC := Lib.hid (place_any (w := w') (nF := nF) (cF := cF) (nT := nT) (cT := cT) (c := cS) (nE := nE) (cE := cE) (AF := some ⟨bF, oF, none⟩) (AT := some ⟨bT, oT, none⟩) (AE := AE) (HS.out.below (HTb.out.mono HBS.out) HBS.out) (Nat.le_trans HBS.out HTb.out.size) HNS.out (i : Int) 2)
    rw [HP1.out] at HC
    clear HT
    refine wpOp_want rfl 3 true rfl rfl (fun K hK => ?_)
    go_simp
    refine HC.out.mono ?_
    rintro e w2 ⟨rfl, hb⟩
    exact hK.out _ _ (.mk b0 b1 b2 b3 b4 b5 true b7 b8 b9 b10 b11 b12 b13 b14 b15 b16 b17 b18 b19 b20 b21 b22 b23 b24 b25 b26 b27 b28 b29 b30 b31 b32 _ _ _ _ _ _ _ _ _ _ _ _ _ _ _ _ _ _ _ _ _ _ _ _ _ _ _ _ _ _ _ _ _ _ { HTH.out with bel := HTH.out.bel.trans (hb.mono HTH.out.bel.size), h6 := fun _ => rfl })
   | 7, _, hi, hib =>
    have e3 : b3 = true := ready_dep hi rfl 3 (by kernel_rfl)
    have he3 := HT.h3 e3
    subst he3
    have d6 : b6 = true := ready_dep hi rfl 6 (by kernel_rfl)
    have hd6 := HT.h6 d6
    subst hd6
    have hp1 := HPN1.out
    clear HT
    refine wpOp_want rfl 3 true rfl rfl (fun K hK => ?_)
    go_simp
    exact hK.out _ _ (.mk b0 b1 b2 b3 b4 b5 b6 true b8 b9 b10 b11 b12 b13 b14 b15 b16 b17 b18 b19 b20 b21 b22 b23 b24 b25 b26 b27 b28 b29 b30 b31 b32 _ _ _ _ _ _ _ _ _ _ _ _ _ _ _ _ _ _ _ _ _ _ _ _ _ _ _ _ _ _ _ _ _ _ { HTH.out with h7 := fun _ => rfl })
   | 8, _, hi, hib =>
    have d3 : b3 = true := ready_dep hi rfl 3 (by kernel_rfl)
    have hd3 := HT.h3 d3
    subst hd3
    have d7 : b7 = true := ready_dep hi rfl 7 (by kernel_rfl)
    have hd7 := HT.h7 d7
    subst hd7
    clear HT
    refine wpOp_one rfl rfl (fun K hK => ?_)
    go_simp
    exact hK.out _ _ (.mk b0 b1 b2 b3 b4 b5 b6 b7 true b9 b10 b11 b12 b13 b14 b15 b16 b17 b18 b19 b20 b21 b22 b23 b24 b25 b26 b27 b28 b29 b30 b31 b32 _ _ _ _ _ _ _ _ _ _ _ _ _ _ _ _ _ _ _ _ _ _ _ _ _ _ _ _ _ _ _ _ _ _ { HTH.out with h8 := fun _ => rfl })
   | 9, _, hi, hib =>
    have d8 : b8 = true := ready_dep hi rfl 8 (by kernel_rfl)
    have hd8 := HT.h8 d8
    subst hd8
    clear HT
    refine wpOp_one rfl rfl (fun K hK => ?_)
    go_simp
    exact hK.out _ _ (.mk b0 b1 b2 b3 b4 b5 b6 b7 b8 true b10 b11 b12 b13 b14 b15 b16 b17 b18 b19 b20 b21 b22 b23 b24 b25 b26 b27 b28 b29 b30 b31 b32 _ _ _ _ _ _ _ _ _ _ _ _ _ _ _ _ _ _ _ _ _ _ _ _ _ _ _ _ _ _ _ _ _ _ { HTH.out with h9 := fun _ => rfl })
   | 10, _, hi, hib =>
    have e9 : b9 = true := ready_dep hi rfl 9 (by kernel_rfl)
    have he9 := HT.h9 e9
    subst he9
    have HTb := Lib.hid HT.bel
    obtain ⟨y0, y1, y2, y3⟩ := row4 ((HTb.out.block w.heap.size (by have := HZ.out; omega)).trans H0.out)
    clear HT
    refine wpOp_want rfl 9 true rfl rfl (fun K hK => ?_)
    go_simp
    exact hK.out _ _ (.mk b0 b1 b2 b3 b4 b5 b6 b7 b8 b9 true b11 b12 b13 b14 b15 b16 b17 b18 b19 b20 b21 b22 b23 b24 b25 b26 b27 b28 b29 b30 b31 b32 _ _ _ _ _ _ _ _ _ _ _ _ _ _ _ _ _ _ _ _ _ _ _ _ _ _ _ _ _ _ _ _ _ _ { HTH.out with h10 := fun _ => rfl })
   | 11, _, hi, hib =>
    have e9 : b9 = true := ready_dep hi rfl 9 (by kernel_rfl)
    have he9 := HT.h9 e9
    subst he9
    clear HT
    refine wpOp_want rfl 9 true rfl rfl (fun K hK => ?_)
    go_simp
    exact hK.out _ _ (.mk b0 b1 b2 b3 b4 b5 b6 b7 b8 b9 b10 true b12 b13 b14 b15 b16 b17 b18 b19 b20 b21 b22 b23 b24 b25 b26 b27 b28 b29 b30 b31 b32 _ _ _ _ _ _ _ _ _ _ _ _ _ _ _ _ _ _ _ _ _ _ _ _ _ _ _ _ _ _ _ _ _ _ { HTH.out with h11 := fun _ => rfl })
   | 12, _, hi, hib =>
    have e9 : b9 = true := ready_dep hi rfl 9 (by kernel_rfl)
    have he9 := HT.h9 e9
    subst he9
    have d10 : b10 = true := ready_dep hi rfl 10 (by kernel_rfl)
    have hd10 := HT.h10 d10
    subst hd10
    have d11 : b11 = true := ready_dep hi rfl 11 (by kernel_rfl)
    have hd11 := HT.h11 d11
    subst hd11
    have HTb := Lib.hid HT.bel
    have HC := Lib.hid (place_any (w := w') (nF := nF) (cF := cF) (nT := nT) (cT := cT) (c := cS) (nE := nE) (cE := cE) (AF := some ⟨bF, oF, none⟩) (AT := some ⟨bT, oT, none⟩) (AE := AE) (HS.out.below (HTb.out.mono HBS.out) HBS.out) (Nat.le_trans HBS.out HTb.out.size) HNS.out (j : Int) 2)
    rw [HP2.out] at HC
    clear HT
    refine wpOp_want rfl 9 true rfl rfl (fun K hK => ?_)
    go_simp
    refine HC.out.mono ?_
    rintro e w2 ⟨rfl, hb⟩
    exact hK.out _ _ (.mk b0 b1 b2 b3 b4 b5 b6 b7 b8 b9 b10 b11 true b13 b14 b15 b16 b17 b18 b19 b20 b21 b22 b23 b24 b25 b26 b27 b28 b29 b30 b31 b32 _ _ _ _ _ _ _ _ _ _ _ _ _ _ _ _ _ _ _ _ _ _ _ _ _ _ _ _ _ _ _ _ _ _ { HTH.out with bel := HTH.out.bel.trans (hb.mono HTH.out.bel.size), h12 := fun _ => rfl })
   | 13, _, hi, hib =>
    have e9 : b9 = true := ready_dep hi rfl 9 (by kernel_rfl)
    have he9 := HT.h9 e9
    subst he9
    have d12 : b12 = true := ready_dep hi rfl 12 (by kernel_rfl)
    have hd12 := HT.h12 d12
    subst hd12
    have hp2 := HPN2.out
    clear HT
    refine wpOp_want rfl 9 true rfl rfl (fun K hK => ?_)
    go_simp
    exact hK.out _ _ (.mk b0 b1 b2 b3 b4 b5 b6 b7 b8 b9 b10 b11 b12 true b14 b15 b16 b17 b18 b19 b20 b21 b22 b23 b24 b25 b26 b27 b28 b29 b30 b31 b32 _ _ _ _ _ _ _ _ _ _ _ _ _ _ _ _ _ _ _ _ _ _ _ _ _ _ _ _ _ _ _ _ _ _ { HTH.out with h13 := fun _ => rfl })
   | 14, _, hi, hib =>
    have d9 : b9 = true := ready_dep hi rfl 9 (by kernel_rfl)
    have hd9 := HT.h9 d9
    subst hd9
    have d13 : b13 = true := ready_dep hi rfl 13 (by kernel_rfl)
    have hd13 := HT.h13 d13
    subst hd13
    clear HT
    refine wpOp_one rfl rfl (fun K hK => ?_)
    go_simp
    exact hK.out _ _ (.mk b0 b1 b2 b3 b4 b5 b6 b7 b8 b9 b10 b11 b12 b13 true b15 b16 b17 b18 b19 b20 b21 b22 b23 b24 b25 b26 b27 b28 b29 b30 b31 b32 _ _ _ _ _ _ _ _ _ _ _ _ _ _ _ _ _ _ _ _ _ _ _ _ _ _ _ _ _ _ _ _ _ _ { HTH.out with h14 := fun _ => rfl })
   | 15, _, hi, hib =>
    have d14 : b14 = true := ready_dep hi rfl 14 (by kernel_rfl)
    have hd14 := HT.h14 d14
    subst hd14
    clear HT
    refine wpOp_one rfl rfl (fun K hK => ?_)
    go_simp
    exact hK.out _ _ (.mk b0 b1 b2 b3 b4 b5 b6 b7 b8 b9 b10 b11 b12 b13 b14 true b16 b17 b18 b19 b20 b21 b22 b23 b24 b25 b26 b27 b28 b29 b30 b31 b32 _ _ _ _ _ _ _ _ _ _ _ _ _ _ _ _ _ _ _ _ _ _ _ _ _ _ _ _ _ _ _ _ _ _ { HTH.out with h15 := fun _ => rfl })
   | 16, _, hi, hib =>
    have e15 : b15 = true := ready_dep hi rfl 15 (by kernel_rfl)
    have he15 := HT.h15 e15
    subst he15
    refine wpOp_skip rfl 15 true rfl rfl ?_
    exact .mk b0 b1 b2 b3 b4 b5 b6 b7 b8 b9 b10 b11 b12 b13 b14 b15 true b17 b18 b19 b20 b21 b22 b23 b24 b25 b26 b27 b28 b29 b30 b31 b32 _ _ _ _ _ _ _ _ _ _ _ _ _ _ _ _ _ _ _ _ _ _ _ _ _ _ _ _ _ _ _ _ _ _ { HT with h16 := fun _ => rfl }
   | 17, _, hi, hib =>
    have e15 : b15 = true := ready_dep hi rfl 15 (by kernel_rfl)
    have he15 := HT.h15 e15
    subst he15
    refine wpOp_skip rfl 15 true rfl rfl ?_
    exact .mk b0 b1 b2 b3 b4 b5 b6 b7 b8 b9 b10 b11 b12 b13 b14 b15 b16 true b18 b19 b20 b21 b22 b23 b24 b25 b26 b27 b28 b29 b30 b31 b32 _ _ _ _ _ _ _ _ _ _ _ _ _ _ _ _ _ _ _ _ _ _ _ _ _ _ _ _ _ _ _ _ _ _ { HT with h17 := fun _ => rfl }
   | 18, _, hi, hib =>
    have e15 : b15 = true := ready_dep hi rfl 15 (by kernel_rfl)
    have he15 := HT.h15 e15
    subst he15
    refine wpOp_skip rfl 15 true rfl rfl ?_
    exact .mk b0 b1 b2 b3 b4 b5 b6 b7 b8 b9 b10 b11 b12 b13 b14 b15 b16 b17 true b19 b20 b21 b22 b23 b24 b25 b26 b27 b28 b29 b30 b31 b32 _ _ _ _ _ _ _ _ _ _ _ _ _ _ _ _ _ _ _ _ _ _ _ _ _ _ _ _ _ _ _ _ _ _ { HT with h18 := fun _ => rfl }
   | 19, _, hi, hib =>
    have e15 : b15 = true := ready_dep hi rfl 15 (by kernel_rfl)
    have he15 := HT.h15 e15
    subst he15
    refine wpOp_skip rfl 15 true rfl rfl ?_
    exact .mk b0 b1 b2 b3 b4 b5 b6 b7 b8 b9 b10 b11 b12 b13 b14 b15 b16 b17 b18 true b20 b21 b22 b23 b24 b25 b26 b27 b28 b29 b30 b31 b32 _ _ _ _ _ _ _ _ _ _ _ _ _ _ _ _ _ _ _ _ _ _ _ _ _ _ _ _ _ _ _ _ _ _ { HT with h19 := fun _ => rfl }
   | 20, _, hi, hib =>
    have e15 : b15 = true := ready_dep hi rfl 15 (by kernel_rfl)
    have he15 := HT.h15 e15
    subst he15
    refine wpOp_skip rfl 15 true rfl rfl ?_
    exact .mk b0 b1 b2 b3 b4 b5 b6 b7 b8 b9 b10 b11 b12 b13 b14 b15 b16 b17 b18 b19 true b21 b22 b23 b24 b25 b26 b27 b28 b29 b30 b31 b32 _ _ _ _ _ _ _ _ _ _ _ _ _ _ _ _ _ _ _ _ _ _ _ _ _ _ _ _ _ _ _ _ _ _ { HT with h20 := fun _ => rfl }
   | 21, _, hi, hib =>
    have e15 : b15 = true := ready_dep hi rfl 15 (by kernel_rfl)
    have he15 := HT.h15 e15
    subst he15
    refine wpOp_skip rfl 15 true rfl rfl ?_
    exact .mk b0 b1 b2 b3 b4 b5 b6 b7 b8 b9 b10 b11 b12 b13 b14 b15 b16 b17 b18 b19 b20 true b22 b23 b24 b25 b26 b27 b28 b29 b30 b31 b32 _ _ _ _ _ _ _ _ _ _ _ _ _ _ _ _ _ _ _ _ _ _ _ _ _ _ _ _ _ _ _ _ _ _ { HT with h21 := fun _ => rfl }
   | 22, _, hi, hib =>
    have e15 : b15 = true := ready_dep hi rfl 15 (by kernel_rfl)
    have he15 := HT.h15 e15
    subst he15
    refine wpOp_skip rfl 15 true rfl rfl ?_
    exact .mk b0 b1 b2 b3 b4 b5 b6 b7 b8 b9 b10 b11 b12 b13 b14 b15 b16 b17 b18 b19 b20 b21 true b23 b24 b25 b26 b27 b28 b29 b30 b31 b32 _ _ _ _ _ _ _ _ _ _ _ _ _ _ _ _ _ _ _ _ _ _ _ _ _ _ _ _ _ _ _ _ _ _ { HT with h22 := fun _ => rfl }
   | 23, _, hi, hib =>
    have e15 : b15 = true := ready_dep hi rfl 15 (by kernel_rfl)
    have he15 := HT.h15 e15
    subst he15
    refine wpOp_skip rfl 15 true rfl rfl ?_
    exact .mk b0 b1 b2 b3 b4 b5 b6 b7 b8 b9 b10 b11 b12 b13 b14 b15 b16 b17 b18 b19 b20 b21 b22 true b24 b25 b26 b27 b28 b29 b30 b31 b32 _ _ _ _ _ _ _ _ _ _ _ _ _ _ _ _ _ _ _ _ _ _ _ _ _ _ _ _ _ _ _ _ _ _ { HT with h23 := fun _ => rfl }
   | 24, _, hi, hib =>
    have e15 : b15 = true := ready_dep hi rfl 15 (by kernel_rfl)
    have he15 := HT.h15 e15
    subst he15
    refine wpOp_skip rfl 15 true rfl rfl ?_
    exact .mk b0 b1 b2 b3 b4 b5 b6 b7 b8 b9 b10 b11 b12 b13 b14 b15 b16 b17 b18 b19 b20 b21 b22 b23 true b25 b26 b27 b28 b29 b30 b31 b32 _ _ _ _ _ _ _ _ _ _ _ _ _ _ _ _ _ _ _ _ _ _ _ _ _ _ _ _ _ _ _ _ _ _ { HT with h24 := fun _ => rfl }
   | 25, _, hi, hib =>
    have e15 : b15 = true := ready_dep hi rfl 15 (by kernel_rfl)
    have he15 := HT.h15 e15
    subst he15
    refine wpOp_skip rfl 15 true rfl rfl ?_
    exact .mk b0 b1 b2 b3 b4 b5 b6 b7 b8 b9 b10 b11 b12 b13 b14 b15 b16 b17 b18 b19 b20 b21 b22 b23 b24 true b26 b27 b28 b29 b30 b31 b32 _ _ _ _ _ _ _ _ _ _ _ _ _ _ _ _ _ _ _ _ _ _ _ _ _ _ _ _ _ _ _ _ _ _ { HT with h25 := fun _ => rfl }
   | 26, _, hi, hib =>
    have e15 : b15 = true := ready_dep hi rfl 15 (by kernel_rfl)
    have he15 := HT.h15 e15
    subst he15
    refine wpOp_skip rfl 15 true rfl rfl ?_
    exact .mk b0 b1 b2 b3 b4 b5 b6 b7 b8 b9 b10 b11 b12 b13 b14 b15 b16 b17 b18 b19 b20 b21 b22 b23 b24 b25 true b27 b28 b29 b30 b31 b32 _ _ _ _ _ _ _ _ _ _ _ _ _ _ _ _ _ _ _ _ _ _ _ _ _ _ _ _ _ _ _ _ _ _ { HT with h26 := fun _ => rfl }
   | 27, _, hi, hib =>
    have e15 : b15 = true := ready_dep hi rfl 15 (by kernel_rfl)
    have he15 := HT.h15 e15
    subst he15
    refine wpOp_skip rfl 15 true rfl rfl ?_
    exact .mk b0 b1 b2 b3 b4 b5 b6 b7 b8 b9 b10 b11 b12 b13 b14 b15 b16 b17 b18 b19 b20 b21 b22 b23 b24 b25 b26 true b28 b29 b30 b31 b32 _ _ _ _ _ _ _ _ _ _ _ _ _ _ _ _ _ _ _ _ _ _ _ _ _ _ _ _ _ _ _ _ _ _ { HT with h27 := fun _ => rfl }
   | 28, _, hi, hib =>
    have e15 : b15 = true := ready_dep hi rfl 15 (by kernel_rfl)
    have he15 := HT.h15 e15
    subst he15
    refine wpOp_skip rfl 15 true rfl rfl ?_
    exact .mk b0 b1 b2 b3 b4 b5 b6 b7 b8 b9 b10 b11 b12 b13 b14 b15 b16 b17 b18 b19 b20 b21 b22 b23 b24 b25 b26 b27 true b29 b30 b31 b32 _ _ _ _ _ _ _ _ _ _ _ _ _ _ _ _ _ _ _ _ _ _ _ _ _ _ _ _ _ _ _ _ _ _ { HT with h28 := fun _ => rfl }
   | 29, _, hi, hib =>
    have e15 : b15 = true := ready_dep hi rfl 15 (by kernel_rfl)
    have he15 := HT.h15 e15
    subst he15
    refine wpOp_skip rfl 15 true rfl rfl ?_
    exact .mk b0 b1 b2 b3 b4 b5 b6 b7 b8 b9 b10 b11 b12 b13 b14 b15 b16 b17 b18 b19 b20 b21 b22 b23 b24 b25 b26 b27 b28 true b30 b31 b32 _ _ _ _ _ _ _ _ _ _ _ _ _ _ _ _ _ _ _ _ _ _ _ _ _ _ _ _ _ _ _ _ _ _ { HT with h29 := fun _ => rfl }
   | 30, _, hi, hib =>
    have e15 : b15 = true := ready_dep hi rfl 15 (by kernel_rfl)
    have he15 := HT.h15 e15
    subst he15
    refine wpOp_skip rfl 15 true rfl rfl ?_
    exact .mk b0 b1 b2 b3 b4 b5 b6 b7 b8 b9 b10 b11 b12 b13 b14 b15 b16 b17 b18 b19 b20 b21 b22 b23 b24 b25 b26 b27 b28 b29 true b31 b32 _ _ _ _ _ _ _ _ _ _ _ _ _ _ _ _ _ _ _ _ _ _ _ _ _ _ _ _ _ _ _ _ _ _ { HT with h30 := fun _ => rfl }
   | 31, _, hi, hib =>
    have d15 : b15 = true := ready_dep hi rfl 15 (by kernel_rfl)
    have hd15 := HT.h15 d15
    subst hd15
    have d30 : b30 = true := ready_dep hi rfl 30 (by kernel_rfl)
    have hd30 := HT.h30 d30
    subst hd30
    clear HT
    refine wpOp_one rfl rfl (fun K hK => ?_)
    go_simp
    exact hK.out _ _ (.mk b0 b1 b2 b3 b4 b5 b6 b7 b8 b9 b10 b11 b12 b13 b14 b15 b16 b17 b18 b19 b20 b21 b22 b23 b24 b25 b26 b27 b28 b29 b30 true b32 _ _ _ _ _ _ _ _ _ _ _ _ _ _ _ _ _ _ _ _ _ _ _ _ _ _ _ _ _ _ _ _ _ _ { HTH.out with h31 := fun _ => rfl })
   | 32, _, hi, hib =>
    have d31 : b31 = true := ready_dep hi rfl 31 (by kernel_rfl)
    have hd31 := HT.h31 d31
    subst hd31
    clear HT
    refine wpOp_one rfl rfl (fun K hK => ?_)
    go_simp
    exact hK.out _ _ (.mk b0 b1 b2 b3 b4 b5 b6 b7 b8 b9 b10 b11 b12 b13 b14 b15 b16 b17 b18 b19 b20 b21 b22 b23 b24 b25 b26 b27 b28 b29 b30 b31 true _ _ _ _ _ _ _ _ _ _ _ _ _ _ _ _ _ _ _ _ _ _ _ _ _ _ _ _ _ _ _ _ _ _ { HTH.out with h32 := fun _ => rfl })
  case fin =>
   rintro lq a' w' ⟨b0, b1, b2, b3, b4, b5, b6, b7, b8, b9, b10, b11, b12, b13, b14, b15, b16, b17, b18, b19, b20, b21, b22, b23, b24, b25, b26, b27, b28, b29, b30, b31, b32, v8, v9, v10, v11, v12, v13, v14, v15, v16, v17, v18, v19, v20, v21, v22, v23, v24, v25, v26, v27, v28, v29, v30, v31, v32, v33, v34, v35, v36, v37, v38, v39, v40, _, HT⟩ hr
   obtain rfl : b0 = true := by
    cases b0 with
    | true => rfl
    | false => exact (ready_in 0 rfl rfl (by simp [Region.binds]) hr).elim
   obtain rfl : b1 = true := by
    cases b1 with
    | true => rfl
    | false => exact (ready_in 1 rfl rfl (by simp [Region.binds]) hr).elim
   obtain rfl : b2 = true := by
    cases b2 with
    | true => rfl
    | false => exact (ready_in 2 rfl rfl (by simp [Region.binds]) hr).elim
   obtain rfl : b3 = true := by
    cases b3 with
    | true => rfl
    | false => exact (ready_in 3 rfl rfl (by simp [Region.binds]) hr).elim
   obtain rfl : b4 = true := by
    cases b4 with
    | true => rfl
    | false => exact (ready_in 4 rfl rfl (by simp [Region.binds]) hr).elim
   obtain rfl : b5 = true := by
    cases b5 with
    | true => rfl
    | false => exact (ready_in 5 rfl rfl (by simp [Region.binds]) hr).elim
   obtain rfl : b6 = true := by
    cases b6 with
    | true => rfl
    | false => exact (ready_in 6 rfl rfl (by simp [Region.binds]) hr).elim
   obtain rfl : b7 = true := by
    cases b7 with
    | true => rfl
    | false => exact (ready_in 7 rfl rfl (by simp [Region.binds]) hr).elim
   obtain rfl : b8 = true := by
    cases b8 with
    | true => rfl
    | false => exact (ready_in 8 rfl rfl (by simp [Region.binds]) hr).elim
   obtain rfl : b9 = true := by
    cases b9 with
    | true => rfl
    | false => exact (ready_in 9 rfl rfl (by simp [Region.binds]) hr).elim
   obtain rfl : b10 = true := by
    cases b10 with
    | true => rfl
    | false => exact (ready_in 10 rfl rfl (by simp [Region.binds]) hr).elim
   obtain rfl : b11 = true := by
    cases b11 with
    | true => rfl
    | false => exact (ready_in 11 rfl rfl (by simp [Region.binds]) hr).elim
   obtain rfl : b12 = true := by
    cases b12 with
    | true => rfl
    | false => exact (ready_in 12 rfl rfl (by simp [Region.binds]) hr).elim
   obtain rfl : b13 = true := by
    cases b13 with
    | true => rfl
    | false => exact (ready_in 13 rfl rfl (by simp [Region.binds]) hr).elim
   obtain rfl : b14 = true := by
    cases b14 with
    | true => rfl
    | false => exact (ready_in 14 rfl rfl (by simp [Region.binds]) hr).elim
   obtain rfl : b15 = true := by
    cases b15 with
    | true => rfl
    | false => exact (ready_in 15 rfl rfl (by simp [Region.binds]) hr).elim
   obtain rfl : b16 = true := by
    cases b16 with
    | true => rfl
    | false => exact (ready_in 16 rfl rfl (by simp [Region.binds]) hr).elim
   obtain rfl : b17 = true := by
    cases b17 with
    | true => rfl
    | false => exact (ready_in 17 rfl rfl (by simp [Region.binds]) hr).elim
   obtain rfl : b18 = true := by
    cases b18 with
    | true => rfl
    | false => exact (ready_in 18 rfl rfl (by simp [Region.binds]) hr).elim
   obtain rfl : b19 = true := by
    cases b19 with
    | true => rfl
    | false => exact (ready_in 19 rfl rfl (by simp [Region.binds]) hr).elim
   obtain rfl : b20 = true := by
    cases b20 with
    | true => rfl
    | false => exact (ready_in 20 rfl rfl (by simp [Region.binds]) hr).elim
   obtain rfl : b21 = true := by
    cases b21 with
    | true => rfl
    | false => exact (ready_in 21 rfl rfl (by simp [Region.binds]) hr).elim
   obtain rfl : b22 = true := by
    cases b22 with
    | true => rfl
    | false => exact (ready_in 22 rfl rfl (by simp [Region.binds]) hr).elim
   obtain rfl : b23 = true := by
    cases b23 with
    | true => rfl
    | false => exact (ready_in 23 rfl rfl (by simp [Region.binds]) hr).elim
   obtain rfl : b24 = true := by
    cases b24 with
    | true => rfl
    | false => exact (ready_in 24 rfl rfl (by simp [Region.binds]) hr).elim
   obtain rfl : b25 = true := by
    cases b25 with
    | true => rfl
    | false => exact (ready_in 25 rfl rfl (by simp [Region.binds]) hr).elim
   obtain rfl : b26 = true := by
    cases b26 with
    | true => rfl
    | false => exact (ready_in 26 rfl rfl (by simp [Region.binds]) hr).elim
   obtain rfl : b27 = true := by
    cases b27 with
    | true => rfl
    | false => exact (ready_in 27 rfl rfl (by simp [Region.binds]) hr).elim
   obtain rfl : b28 = true := by
    cases b28 with
    | true => rfl
    | false => exact (ready_in 28 rfl rfl (by simp [Region.binds]) hr).elim
   obtain rfl : b29 = true := by
    cases b29 with
    | true => rfl
    | false => exact (ready_in 29 rfl rfl (by simp [Region.binds]) hr).elim
   obtain rfl : b30 = true := by
    cases b30 with
    | true => rfl
    | false => exact (ready_in 30 rfl rfl (by simp [Region.binds]) hr).elim
   obtain rfl : b31 = true := by
    cases b31 with
    | true => rfl
    | false => exact (ready_in 31 rfl rfl (by simp [Region.binds]) hr).elim
   obtain rfl : b32 = true := by
    cases b32 with
    | true => rfl
    | false => exact (ready_in 32 rfl rfl (by simp [Region.binds]) hr).elim
   have k0 := HT.h0 rfl
   subst k0
   have k1 := HT.h1 rfl
   subst k1
   have k2 := HT.h2 rfl
   subst k2
   have k3 := HT.h3 rfl
   subst k3
   have k4 := HT.h4 rfl
   subst k4
   have k5 := HT.h5 rfl
   subst k5
   have k6 := HT.h6 rfl
   subst k6
   have k7 := HT.h7 rfl
   subst k7
   have k8 := HT.h8 rfl
   subst k8
   have k9 := HT.h9 rfl
   subst k9
   have k10 := HT.h10 rfl
   subst k10
   have k11 := HT.h11 rfl
   subst k11
   have k12 := HT.h12 rfl
   subst k12
   have k13 := HT.h13 rfl
   subst k13
   have k14 := HT.h14 rfl
   subst k14
   have k15 := HT.h15 rfl
   subst k15
   have k16 := HT.h16 rfl
   subst k16
   have k17 := HT.h17 rfl
   subst k17
   have k18 := HT.h18 rfl
   subst k18
   have k19 := HT.h19 rfl
   subst k19
   have k20 := HT.h20 rfl
   subst k20
   have k21 := HT.h21 rfl
   subst k21
   have k22 := HT.h22 rfl
   subst k22
   have k23 := HT.h23 rfl
   subst k23
   have k24 := HT.h24 rfl
   subst k24
   have k25 := HT.h25 rfl
   subst k25
   have k26 := HT.h26 rfl
   subst k26
   have k27 := HT.h27 rfl
   subst k27
   have k28 := HT.h28 rfl
   subst k28
   have k29 := HT.h29 rfl
   subst k29
   have k30 := HT.h30 rfl
   subst k30
   have k31 := HT.h31 rfl
   subst k31
   have k32 := HT.h32 rfl
   subst k32
   have HBZ := Lib.hid HT.bel
   clear HT hr
   go_wp2_with fail
   refine bodyPost_ret (results_tmp rfl _ _ _) rfl ⟨?_, HBL.out.trans (HBZ.out.mono HBL.out.size)⟩
   exact congrArg (fun b => Ending.returned (.bool b)) HM.out.symm
 have HPN2 : Hid ((P2 != -1) = true) := Lib.hid (by rw [bne_iff_ne]; exact hp2)
 have HM : Hid (M = !ft) := Lib.hid (by rw [HM0.out, decide_eq_true hp1, decide_eq_true hp2]; rfl)
 refine wp_region_inv (by kernel_rfl) (I := McJ W w.heap.size i j (some ⟨bF, oF, none⟩) (some ⟨bT, oT, none⟩) AS AE A nF cF nT cT nS cS nE cE n c bF oF bT oT u v P1 P2 ft _ _ _ _ _ _ _ _) (.mk false false false false false false false false false false false false false false false false false false false false false false false false false false false false false false false false false _ _ _ _ _ _ _ _ _ _ _ _ _ _ _ _ _ _ _ _ _ _ _ _ _ _ _ _ _ _ _ _ _ _ ⟨(Below.refl _ W).drew, nofun, nofun, nofun, nofun, nofun, nofun, nofun, nofun, nofun, nofun, nofun, nofun, nofun, nofun, nofun, nofun, nofun, nofun, nofun, nofun, nofun, nofun, nofun, nofun, nofun, nofun, nofun, nofun, nofun, nofun, nofun, nofun, nofun⟩) ?step ?fin
 case step =>
  rintro lq a' w' ix ⟨b0, b1, b2, b3, b4, b5, b6, b7, b8, b9, b10, b11, b12, b13, b14, b15, b16, b17, b18, b19, b20, b21, b22, b23, b24, b25, b26, b27, b28, b29, b30, b31, b32, v8, v9, v10, v11, v12, v13, v14, v15, v16, v17, v18, v19, v20, v21, v22, v23, v24, v25, v26, v27, v28, v29, v30, v31, v32, v33, v34, v35, v36, v37, v38, v39, v40, _, HT⟩ hi
  obtain ⟨hi_, hib⟩ := ready_lt hi
  have HTH := Lib.hid HT
  match ix, hi_, hi, hib with
  | 0, _, hi, hib =>
   clear HT
   refine wpOp_one rfl rfl (fun K hK => ?_)
   go_simp
   exact hK.out _ _ (.mk true b1 b2 b3 b4 b5 b6 b7 b8 b9 b10 b11 b12 b13 b14 b15 b16 b17 b18 b19 b20 b21 b22 b23 b24 b25 b26 b27 b28 b29 b30 b31 b32 _ _ _ _ _ _ _ _ _ _ _ _ _ _ _ _ _ _ _ _ _ _ _ _ _ _ _ _ _ _ _ _ _ _ { HTH.out with h0 := fun _ => rfl })
  | 1, _, hi, hib =>
   clear HT
   refine wpOp_one rfl rfl (fun K hK => ?_)
   go_simp
   exact hK.out _ _ (.mk b0 true b2 b3 b4 b5 b6 b7 b8 b9 b10 b11 b12 b13 b14 b15 b16 b17 b18 b19 b20 b21 b22 b23 b24 b25 b26 b27 b28 b29 b30 b31 b32 _ _ _ _ _ _ _ _ _ _ _ _ _ _ _ _ _ _ _ _ _ _ _ _ _ _ _ _ _ _ _ _ _ _ { HTH.out with h1 := fun _ => rfl })
  | 2, _, hi, hib =>
   have d0 : b0 = true := ready_dep hi rfl 0 (by kernel_rfl)
   have hd0 := HT.h0 d0
   subst hd0
   have d1 : b1 = true := ready_dep hi rfl 1 (by kernel_rfl)
   have hd1 := HT.h1 d1
   subst hd1
   have hne := HNE.out
   clear HT
   refine wpOp_one rfl rfl (fun K hK => ?_)
   go_simp
   exact hK.out _ _ (.mk b0 b1 true b3 b4 b5 b6 b7 b8 b9 b10 b11 b12 b13 b14 b15 b16 b17 b18 b19 b20 b21 b22 b23 b24 b25 b26 b27 b28 b29 b30 b31 b32 _ _ _ _ _ _ _ _ _ _ _ _ _ _ _ _ _ _ _ _ _ _ _ _ _ _ _ _ _ _ _ _ _ _ { HTH.out with h2 := fun _ => rfl })
  | 3, _, hi, hib =>
   have d2 : b2 = true := ready_dep hi rfl 2 (by kernel_rfl)
   have hd2 := HT.h2 d2
   subst hd2
   clear HT
   refine wpOp_one rfl rfl (fun K hK => ?_)
   go_simp
   exact hK.out _ _ (.mk b0 b1 b2 true b4 b5 b6 b7 b8 b9 b10 b11 b12 b13 b14 b15 b16 b17 b18 b19 b20 b21 b22 b23 b24 b25 b26 b27 b28 b29 b30 b31 b32 _ _ _ _ _ _ _ _ _ _ _ _ _ _ _ _ _ _ _ _ _ _ _ _ _ _ _ _ _ _ _ _ _ _ { HTH.out with h3 := fun _ => rfl })
  | 4, _, hi, hib =>
   have e3 : b3 = true := ready_dep hi rfl 3 (by kernel_rfl)
   have he3 := HT.h3 e3
   subst he3
   have HTb := Lib.hid HT.bel
   obtain ⟨y0, y1, y2, y3⟩ := row4 ((HTb.out.block w.heap.size (by have := HZ.out; omega)).trans H0.out)
   clear HT
   refine wpOp_want rfl 3 true rfl rfl (fun K hK => ?_)
   go_simp
   exact hK.out _ _ (.mk b0 b1 b2 b3 true b5 b6 b7 b8 b9 b10 b11 b12 b13 b14 b15 b16 b17 b18 b19 b20 b21 b22 b23 b24 b25 b26 b27 b28 b29 b30 b31 b32 _ _ _ _ _ _ _ _ _ _ _ _ _ _ _ _ _ _ _ _ _ _ _ _ _ _ _ _ _ _ _ _ _ _ { HTH.out with h4 := fun _ => rfl })
  | 5, _, hi, hib =>
   have e3 : b3 = true := ready_dep hi rfl 3 (by kernel_rfl)
   have he3 := HT.h3 e3
   subst he3
   clear HT
   refine wpOp_want rfl 3 true rfl rfl (fun K hK => ?_)
   go_simp
   exact hK.out _ _ (.mk b0 b1 b2 b3 b4 true b6 b7 b8 b9 b10 b11 b12 b13 b14 b15 b16 b17 b18 b19 b20 b21 b22 b23 b24 b25 b26 b27 b28 b29 b30 b31 b32 _ _ _ _ _ _ _ _ _ _ _ _ _ _ _ _ _ _ _ _ _ _ _ _ _ _ _ _ _ _ _ _ _ _ { HTH.out with h5 := fun _ => rfl })
  | 6, _, hi, hib =>
   have e3 : b3 = true := ready_dep hi rfl 3 (by kernel_rfl)
   have he3 := HT.h3 e3
   subst he3
   have d4 : b4 = true := ready_dep hi rfl 4 (by kernel_rfl)
   have hd4 := HT.h4 d4
   subst hd4
   have d5 : b5 = true := ready_dep hi rfl 5 (by kernel_rfl)
   have hd5 := HT.h5 d5
   subst hd5
   have HTb := Lib.hid HT.bel
   have HC := Lib.hid (place_any (w := w') (nF := nF) (cF := cF) (nT := nT) (cT := cT) (c := cS) (nE := nE) (cE := cE) (AF := some ⟨bF, oF, none⟩) (AT := some ⟨bT, oT, none⟩) (AE := AE) (HS.out.below (HTb.out.mono HBS.out) HBS.out) (Nat.le_trans HBS.out HTb.out.size) HNS.out (i : Int) 2)
   rw [HP1.out] at HC
   clear HT
   refine wpOp_want rfl 3 true rfl rfl (fun K hK => ?_)
   go_simp
   refine HC.out.mono ?_
   rintro e w2 ⟨rfl, hb⟩
   exact hK.out _ _ (.mk b0 b1 b2 b3 b4 b5 true b7 b8 b9 b10 b11 b12 b13 b14 b15 b16 b17 b18 b19 b20 b21 b22 b23 b24 b25 b26 b27 b28 b29 b30 b31 b32 _ _ _ _ _ _ _ _ _ _ _ _ _ _ _ _ _ _ _ _ _ _ _ _ _ _ _ _ _ _ _ _ _ _ { HTH.out with bel := HTH.out.bel.trans (hb.mono HTH.out.bel.size), h6 := fun _ => rfl })
  | 7, _, hi, hib =>
   have e3 : b3 = true := ready_dep hi rfl 3 (by kernel_rfl)
   have he3 := HT.h3 e3
   subst he3
   have d6 : b6 = true := ready_dep hi rfl 6 (by kernel_rfl)
   have hd6 := HT.h6 d6
   subst hd6
   have hp1 := HPN1.out
   clear HT
   refine wpOp_want rfl 3 true rfl rfl (fun K hK => ?_)
   go_simp
   exact hK.out _ _ (.mk b0 b1 b2 b3 b4 b5 b6 true b8 b9 b10 b11 b12 b13 b14 b15 b16 b17 b18 b19 b20 b21 b22 b23 b24 b25 b26 b27 b28 b29 b30 b31 b32 _ _ _ _ _ _ _ _ _ _ _ _ _ _ _ _ _ _ _ _ _ _ _ _ _ _ _ _ _ _ _ _ _ _ { HTH.out with h7 := fun _ => rfl })
  | 8, _, hi, hib =>
   have d3 : b3 = true := ready_dep hi rfl 3 (by kernel_rfl)
   have hd3 := HT.h3 d3
   subst hd3
   have d7 : b7 = true := ready_dep hi rfl 7 (by kernel_rfl)
   have hd7 := HT.h7 d7
   subst hd7
   clear HT
   refine wpOp_one rfl rfl (fun K hK => ?_)
   go_simp
   exact hK.out _ _ (.mk b0 b1 b2 b3 b4 b5 b6 b7 true b9 b10 b11 b12 b13 b14 b15 b16 b17 b18 b19 b20 b21 b22 b23 b24 b25 b26 b27 b28 b29 b30 b31 b32 _ _ _ _ _ _ _ _ _ _ _ _ _ _ _ _ _ _ _ _ _ _ _ _ _ _ _ _ _ _ _ _ _ _ { HTH.out with h8 := fun _ => rfl })
  | 9, _, hi, hib =>
   have d8 : b8 = true := ready_dep hi rfl 8 (by kernel_rfl)
   have hd8 := HT.h8 d8
   subst hd8
   clear HT
   refine wpOp_one rfl rfl (fun K hK => ?_)
   go_simp
   exact hK.out _ _ (.mk b0 b1 b2 b3 b4 b5 b6 b7 b8 true b10 b11 b12 b13 b14 b15 b16 b17 b18 b19 b20 b21 b22 b23 b24 b25 b26 b27 b28 b29 b30 b31 b32 _ _ _ _ _ _ _ _ _ _ _ _ _ _ _ _ _ _ _ _ _ _ _ _ _ _ _ _ _ _ _ _ _ _ { HTH.out with h9 := fun _ => rfl })
  | 10, _, hi, hib =>
   have e9 : b9 = true := ready_dep hi rfl 9 (by kernel_rfl)
   have he9 := HT.h9 e9
   subst he9
   have HTb := Lib.hid HT.bel
   obtain ⟨y0, y1, y2, y3⟩ := row4 ((HTb.out.block w.heap.size (by have := HZ.out; omega)).trans H0.out)
   clear HT
   refine wpOp_want rfl 9 true rfl rfl (fun K hK => ?_)
   go_simp
   exact hK.out _ _ (.mk b0 b1 b2 b3 b4 b5 b6 b7 b8 b9 true b11 b12 b13 b14 b15 b16 b17 b18 b19 b20 b21 b22 b23 b24 b25 b26 b27 b28 b29 b30 b31 b32 _ _ _ _ _ _ _ _ _ _ _ _ _ _ _ _ _ _ _ _ _ _ _ _ _ _ _ _ _ _ _ _ _ _ { HTH.out with h10 := fun _ => rfl })
  | 11, _, hi, hib =>
   have e9 : b9 = true := ready_dep hi rfl 9 (by kernel_rfl)
   have he9 := HT.h9 e9
   subst he9
   clear HT
   refine wpOp_want rfl 9 true rfl rfl (fun K hK => ?_)
   go_simp
   exact hK.out _ _ (.mk b0 b1 b2 b3 b4 b5 b6 b7 b8 b9 b10 true b12 b13 b14 b15 b16 b17 b18 b19 b20 b21 b22 b23 b24 b25 b26 b27 b28 b29 b30 b31 b32 _ _ _ _ _ _ _ _ _ _ _ _ _ _ _ _ _ _ _ _ _ _ _ _ _ _ _ _ _ _ _ _ _ _ { HTH.out with h11 := fun _ => rfl })
  | 12, _, hi, hib =>
   have e9 : b9 = true := ready_dep hi rfl 9 (by kernel_rfl)
   have he9 := HT.h9 e9
   subst he9
   have d10 : b10 = true := ready_dep hi rfl 10 (by kernel_rfl)
   have hd10 := HT.h10 d10
   subst hd10
   have d11 : b11 = true := ready_dep hi rfl 11 (by kernel_rfl)
   have hd11 := HT.h11 d11
   subst hd11
   have HTb := Lib.hid HT.bel
   have HC := Lib.hid (place_any (w := w') (nF := nF) (cF := cF) (nT := nT) (cT := cT) (c := cS) (nE := nE) (cE := cE) (AF := some ⟨bF, oF, none⟩) (AT := some ⟨bT, oT, none⟩) (AE := AE) (HS.out.below (HTb.out.mono HBS.out) HBS.out) (Nat.le_trans HBS.out HTb.out.size) HNS.out (j : Int) 2)
   rw [HP2.out] at HC
   clear HT
   refine wpOp_want rfl 9 true rfl rfl (fun K hK => ?_)
   go_simp
   refine HC.out.mono ?_
   rintro e w2 ⟨rfl, hb⟩
   exact hK.out _ _ (.mk b0 b1 b2 b3 b4 b5 b6 b7 b8 b9 b10 b11 true b13 b14 b15 b16 b17 b18 b19 b20 b21 b22 b23 b24 b25 b26 b27 b28 b29 b30 b31 b32 _ _ _ _ _ _ _ _ _ _ _ _ _ _ _ _ _ _ _ _ _ _ _ _ _ _ _ _ _ _ _ _ _ _ { HTH.out with bel := HTH.out.bel.trans (hb.mono HTH.out.bel.size), h12 := fun _ => rfl })
  | 13, _, hi, hib =>
   have e9 : b9 = true := ready_dep hi rfl 9 (by kernel_rfl)
   have he9 := HT.h9 e9
   subst he9
   have d12 : b12 = true := ready_dep hi rfl 12 (by kernel_rfl)
   have hd12 := HT.h12 d12
   subst hd12
   have hp2 := HPN2.out
   clear HT
   refine wpOp_want rfl 9 true rfl rfl (fun K hK => ?_)
   go_simp
   exact hK.out _ _ (.mk b0 b1 b2 b3 b4 b5 b6 b7 b8 b9 b10 b11 b12 true b14 b15 b16 b17 b18 b19 b20 b21 b22 b23 b24 b25 b26 b27 b28 b29 b30 b31 b32 _ _ _ _ _ _ _ _ _ _ _ _ _ _ _ _ _ _ _ _ _ _ _ _ _ _ _ _ _ _ _ _ _ _ { HTH.out with h13 := fun _ => rfl })
  | 14, _, hi, hib =>
   have d9 : b9 = true := ready_dep hi rfl 9 (by kernel_rfl)
   have hd9 := HT.h9 d9
   subst hd9
   have d13 : b13 = true := ready_dep hi rfl 13 (by kernel_rfl)
   have hd13 := HT.h13 d13
   subst hd13
   clear HT
   refine wpOp_one rfl rfl (fun K hK => ?_)
   go_simp
   exact hK.out _ _ (.mk b0 b1 b2 b3 b4 b5 b6 b7 b8 b9 b10 b11 b12 b13 true b15 b16 b17 b18 b19 b20 b21 b22 b23 b24 b25 b26 b27 b28 b29 b30 b31 b32 _ _ _ _ _ _ _ _ _ _ _ _ _ _ _ _ _ _ _ _ _ _ _ _ _ _ _ _ _ _ _ _ _ _ { HTH.out with h14 := fun _ => rfl })
  | 15, _, hi, hib =>
   have d14 : b14 = true := ready_dep hi rfl 14 (by kernel_rfl)
   have hd14 := HT.h14 d14
   subst hd14
   clear HT
   refine wpOp_one rfl rfl (fun K hK => ?_)
   go_simp
   exact hK.out _ _ (.mk b0 b1 b2 b3 b4 b5 b6 b7 b8 b9 b10 b11 b12 b13 b14 true b16 b17 b18 b19 b20 b21 b22 b23 b24 b25 b26 b27 b28 b29 b30 b31 b32 _ _ _ _ _ _ _ _ _ _ _ _ _ _ _ _ _ _ _ _ _ _ _ _ _ _ _ _ _ _ _ _ _ _ { HTH.out with h15 := fun _ => rfl })
  | 16, _, hi, hib =>
   have e15 : b15 = true := ready_dep hi rfl 15 (by kernel_rfl)
   have he15 := HT.h15 e15
   subst he15
   have HTb := Lib.hid HT.bel
   obtain ⟨x0, _⟩ := row1f ((HTb.out.block (w.heap.size + 1) (by have := HZ.out; omega)).trans H1.out)
   clear HT
   refine wpOp_want rfl 15 true rfl rfl (fun K hK => ?_)
   go_simp
   exact hK.out _ _ (.mk b0 b1 b2 b3 b4 b5 b6 b7 b8 b9 b10 b11 b12 b13 b14 b15 true b17 b18 b19 b20 b21 b22 b23 b24 b25 b26 b27 b28 b29 b30 b31 b32 _ _ _ _ _ _ _ _ _ _ _ _ _ _ _ _ _ _ _ _ _ _ _ _ _ _ _ _ _ _ _ _ _ _ { HTH.out with h16 := fun _ => rfl })
  | 17, _, hi, hib =>
   have e15 : b15 = true := ready_dep hi rfl 15 (by kernel_rfl)
   have he15 := HT.h15 e15
   subst he15
   clear HT
   refine wpOp_want rfl 15 true rfl rfl (fun K hK => ?_)
   go_simp
   exact hK.out _ _ (.mk b0 b1 b2 b3 b4 b5 b6 b7 b8 b9 b10 b11 b12 b13 b14 b15 b16 true b18 b19 b20 b21 b22 b23 b24 b25 b26 b27 b28 b29 b30 b31 b32 _ _ _ _ _ _ _ _ _ _ _ _ _ _ _ _ _ _ _ _ _ _ _ _ _ _ _ _ _ _ _ _ _ _ { HTH.out with h17 := fun _ => rfl })
  | 18, _, hi, hib =>
   have e15 : b15 = true := ready_dep hi rfl 15 (by kernel_rfl)
   have he15 := HT.h15 e15
   subst he15
   clear HT
   refine wpOp_want rfl 15 true rfl rfl (fun K hK => ?_)
   go_simp
   exact hK.out _ _ (.mk b0 b1 b2 b3 b4 b5 b6 b7 b8 b9 b10 b11 b12 b13 b14 b15 b16 b17 true b19 b20 b21 b22 b23 b24 b25 b26 b27 b28 b29 b30 b31 b32 _ _ _ _ _ _ _ _ _ _ _ _ _ _ _ _ _ _ _ _ _ _ _ _ _ _ _ _ _ _ _ _ _ _ { HTH.out with h18 := fun _ => rfl })
  | 19, _, hi, hib =>
   have e15 : b15 = true := ready_dep hi rfl 15 (by kernel_rfl)
   have he15 := HT.h15 e15
   subst he15
   have d18 : b18 = true := ready_dep hi rfl 18 (by kernel_rfl)
   have hd18 := HT.h18 d18
   subst hd18
   have HTb := Lib.hid HT.bel
   obtain ⟨y0, y1, y2, y3⟩ := row4 ((HTb.out.block w.heap.size (by have := HZ.out; omega)).trans H0.out)
   clear HT
   refine wpOp_want rfl 15 true rfl rfl (fun K hK => ?_)
   go_simp
   exact hK.out _ _ (.mk b0 b1 b2 b3 b4 b5 b6 b7 b8 b9 b10 b11 b12 b13 b14 b15 b16 b17 b18 true b20 b21 b22 b23 b24 b25 b26 b27 b28 b29 b30 b31 b32 _ _ _ _ _ _ _ _ _ _ _ _ _ _ _ _ _ _ _ _ _ _ _ _ _ _ _ _ _ _ _ _ _ _ { HTH.out with h19 := fun _ => rfl })
  | 20, _, hi, hib =>
   have e15 : b15 = true := ready_dep hi rfl 15 (by kernel_rfl)
   have he15 := HT.h15 e15
   subst he15
   clear HT
   refine wpOp_want rfl 15 true rfl rfl (fun K hK => ?_)
   go_simp
   exact hK.out _ _ (.mk b0 b1 b2 b3 b4 b5 b6 b7 b8 b9 b10 b11 b12 b13 b14 b15 b16 b17 b18 b19 true b21 b22 b23 b24 b25 b26 b27 b28 b29 b30 b31 b32 _ _ _ _ _ _ _ _ _ _ _ _ _ _ _ _ _ _ _ _ _ _ _ _ _ _ _ _ _ _ _ _ _ _ { HTH.out with h20 := fun _ => rfl })
  | 21, _, hi, hib =>
   have e15 : b15 = true := ready_dep hi rfl 15 (by kernel_rfl)
   have he15 := HT.h15 e15
   subst he15
   have d19 : b19 = true := ready_dep hi rfl 19 (by kernel_rfl)
   have hd19 := HT.h19 d19
   subst hd19
   have d20 : b20 = true := ready_dep hi rfl 20 (by kernel_rfl)
   have hd20 := HT.h20 d20
   subst hd20
   have hi0 := HI0.out
   have hi1 := HI1.out
   clear HT
   refine wpOp_want rfl 15 true rfl rfl (fun K hK => ?_)
   go_simp
   exact hK.out _ _ (.mk b0 b1 b2 b3 b4 b5 b6 b7 b8 b9 b10 b11 b12 b13 b14 b15 b16 b17 b18 b19 b20 true b22 b23 b24 b25 b26 b27 b28 b29 b30 b31 b32 _ _ _ _ _ _ _ _ _ _ _ _ _ _ _ _ _ _ _ _ _ _ _ _ _ _ _ _ _ _ _ _ _ _ { HTH.out with h21 := fun _ => rfl })
  | 22, _, hi, hib =>
   have e15 : b15 = true := ready_dep hi rfl 15 (by kernel_rfl)
   have he15 := HT.h15 e15
   subst he15
   have d21 : b21 = true := ready_dep hi rfl 21 (by kernel_rfl)
   have hd21 := HT.h21 d21
   subst hd21
   have HTb := Lib.hid HT.bel
   have kf := (HTb.out.cell (p := ⟨bF, oF + i, none⟩) HBF.out).trans HKF.out
   clear HT
   refine wpOp_want rfl 15 true rfl rfl (fun K hK => ?_)
   go_simp
   exact hK.out _ _ (.mk b0 b1 b2 b3 b4 b5 b6 b7 b8 b9 b10 b11 b12 b13 b14 b15 b16 b17 b18 b19 b20 b21 true b23 b24 b25 b26 b27 b28 b29 b30 b31 b32 _ _ _ _ _ _ _ _ _ _ _ _ _ _ _ _ _ _ _ _ _ _ _ _ _ _ _ _ _ _ _ _ _ _ { HTH.out with h22 := fun _ => rfl })
  | 23, _, hi, hib =>
   have e15 : b15 = true := ready_dep hi rfl 15 (by kernel_rfl)
   have he15 := HT.h15 e15
   subst he15
   clear HT
   refine wpOp_want rfl 15 true rfl rfl (fun K hK => ?_)
   go_simp
   exact hK.out _ _ (.mk b0 b1 b2 b3 b4 b5 b6 b7 b8 b9 b10 b11 b12 b13 b14 b15 b16 b17 b18 b19 b20 b21 b22 true b24 b25 b26 b27 b28 b29 b30 b31 b32 _ _ _ _ _ _ _ _ _ _ _ _ _ _ _ _ _ _ _ _ _ _ _ _ _ _ _ _ _ _ _ _ _ _ { HTH.out with h23 := fun _ => rfl })
  | 24, _, hi, hib =>
   have e15 : b15 = true := ready_dep hi rfl 15 (by kernel_rfl)
   have he15 := HT.h15 e15
   subst he15
   clear HT
   refine wpOp_want rfl 15 true rfl rfl (fun K hK => ?_)
   go_simp
   exact hK.out _ _ (.mk b0 b1 b2 b3 b4 b5 b6 b7 b8 b9 b10 b11 b12 b13 b14 b15 b16 b17 b18 b19 b20 b21 b22 b23 true b25 b26 b27 b28 b29 b30 b31 b32 _ _ _ _ _ _ _ _ _ _ _ _ _ _ _ _ _ _ _ _ _ _ _ _ _ _ _ _ _ _ _ _ _ _ { HTH.out with h24 := fun _ => rfl })
  | 25, _, hi, hib =>
   have e15 : b15 = true := ready_dep hi rfl 15 (by kernel_rfl)
   have he15 := HT.h15 e15
   subst he15
   have d24 : b24 = true := ready_dep hi rfl 24 (by kernel_rfl)
   have hd24 := HT.h24 d24
   subst hd24
   have HTb := Lib.hid HT.bel
   obtain ⟨y0, y1, y2, y3⟩ := row4 ((HTb.out.block w.heap.size (by have := HZ.out; omega)).trans H0.out)
   clear HT
   refine wpOp_want rfl 15 true rfl rfl (fun K hK => ?_)
   go_simp
   exact hK.out _ _ (.mk b0 b1 b2 b3 b4 b5 b6 b7 b8 b9 b10 b11 b12 b13 b14 b15 b16 b17 b18 b19 b20 b21 b22 b23 b24 true b26 b27 b28 b29 b30 b31 b32 _ _ _ _ _ _ _ _ _ _ _ _ _ _ _ _ _ _ _ _ _ _ _ _ _ _ _ _ _ _ _ _ _ _ { HTH.out with h25 := fun _ => rfl })
  | 26, _, hi, hib =>
   have e15 : b15 = true := ready_dep hi rfl 15 (by kernel_rfl)
   have he15 := HT.h15 e15
   subst he15
   clear HT
   refine wpOp_want rfl 15 true rfl rfl (fun K hK => ?_)
   go_simp
   exact hK.out _ _ (.mk b0 b1 b2 b3 b4 b5 b6 b7 b8 b9 b10 b11 b12 b13 b14 b15 b16 b17 b18 b19 b20 b21 b22 b23 b24 b25 true b27 b28 b29 b30 b31 b32 _ _ _ _ _ _ _ _ _ _ _ _ _ _ _ _ _ _ _ _ _ _ _ _ _ _ _ _ _ _ _ _ _ _ { HTH.out with h26 := fun _ => rfl })
  | 27, _, hi, hib =>
   have e15 : b15 = true := ready_dep hi rfl 15 (by kernel_rfl)
   have he15 := HT.h15 e15
   subst he15
   have d25 : b25 = true := ready_dep hi rfl 25 (by kernel_rfl)
   have hd25 := HT.h25 d25
   subst hd25
   have d26 : b26 = true := ready_dep hi rfl 26 (by kernel_rfl)
   have hd26 := HT.h26 d26
   subst hd26
   have hi0 := HJ0.out
   have hi1 := HJ1.out
   clear HT
   refine wpOp_want rfl 15 true rfl rfl (fun K hK => ?_)
   go_simp
   exact hK.out _ _ (.mk b0 b1 b2 b3 b4 b5 b6 b7 b8 b9 b10 b11 b12 b13 b14 b15 b16 b17 b18 b19 b20 b21 b22 b23 b24 b25 b26 true b28 b29 b30 b31 b32 _ _ _ _ _ _ _ _ _ _ _ _ _ _ _ _ _ _ _ _ _ _ _ _ _ _ _ _ _ _ _ _ _ _ { HTH.out with h27 := fun _ => rfl })
  | 28, _, hi, hib =>
   have e15 : b15 = true := ready_dep hi rfl 15 (by kernel_rfl)
   have he15 := HT.h15 e15
   subst he15
   have d27 : b27 = true := ready_dep hi rfl 27 (by kernel_rfl)
   have hd27 := HT.h27 d27
   subst hd27
   have HTb := Lib.hid HT.bel
   have kt := (HTb.out.cell (p := ⟨bT, oT + j, none⟩) HBT.out).trans HKT.out
   clear HT
   refine wpOp_want rfl 15 true rfl rfl (fun K hK => ?_)
   go_simp
   exact hK.out _ _ (.mk b0 b1 b2 b3 b4 b5 b6 b7 b8 b9 b10 b11 b12 b13 b14 b15 b16 b17 b18 b19 b20 b21 b22 b23 b24 b25 b26 b27 true b29 b30 b31 b32 _ _ _ _ _ _ _ _ _ _ _ _ _ _ _ _ _ _ _ _ _ _ _ _ _ _ _ _ _ _ _ _ _ _ { HTH.out with h28 := fun _ => rfl })
  | 29, _, hi, hib =>
   have e15 : b15 = true := ready_dep hi rfl 15 (by kernel_rfl)
   have he15 := HT.h15 e15
   subst he15
   have d16 : b16 = true := ready_dep hi rfl 16 (by kernel_rfl)
   have hd16 := HT.h16 d16
   subst hd16
   have d17 : b17 = true := ready_dep hi rfl 17 (by kernel_rfl)
   have hd17 := HT.h17 d17
   subst hd17
   have d22 : b22 = true := ready_dep hi rfl 22 (by kernel_rfl)
   have hd22 := HT.h22 d22
   subst hd22
   have d23 : b23 = true := ready_dep hi rfl 23 (by kernel_rfl)
   have hd23 := HT.h23 d23
   subst hd23
   have d28 : b28 = true := ready_dep hi rfl 28 (by kernel_rfl)
   have hd28 := HT.h28 d28
   subst hd28
   have HTb := Lib.hid HT.bel
   have HC := Lib.hid (fits_any (w := w') (i := (i : Int)) (v := u) (j := (j : Int)) (x := v) (HCA.out.below HTb.out))
   rw [HFT.out] at HC
   clear HT
   refine wpOp_want rfl 15 true rfl rfl (fun K hK => ?_)
   go_simp
   refine HC.out.mono ?_
   rintro e w2 ⟨rfl, hb⟩
   exact hK.out _ _ (.mk b0 b1 b2 b3 b4 b5 b6 b7 b8 b9 b10 b11 b12 b13 b14 b15 b16 b17 b18 b19 b20 b21 b22 b23 b24 b25 b26 b27 b28 true b30 b31 b32 _ _ _ _ _ _ _ _ _ _ _ _ _ _ _ _ _ _ _ _ _ _ _ _ _ _ _ _ _ _ _ _ _ _ { HTH.out with bel := HTH.out.bel.trans (hb.mono HTH.out.bel.size), h29 := fun _ => rfl })
  | 30, _, hi, hib =>
   have e15 : b15 = true := ready_dep hi rfl 15 (by kernel_rfl)
   have he15 := HT.h15 e15
   subst he15
   have d29 : b29 = true := ready_dep hi rfl 29 (by kernel_rfl)
   have hd29 := HT.h29 d29
   subst hd29
   clear HT
   refine wpOp_want rfl 15 true rfl rfl (fun K hK => ?_)
   go_simp
   exact hK.out _ _ (.mk b0 b1 b2 b3 b4 b5 b6 b7 b8 b9 b10 b11 b12 b13 b14 b15 b16 b17 b18 b19 b20 b21 b22 b23 b24 b25 b26 b27 b28 b29 true b31 b32 _ _ _ _ _ _ _ _ _ _ _ _ _ _ _ _ _ _ _ _ _ _ _ _ _ _ _ _ _ _ _ _ _ _ { HTH.out with h30 := fun _ => rfl })
  | 31, _, hi, hib =>
   have d15 : b15 = true := ready_dep hi rfl 15 (by kernel_rfl)
   have hd15 := HT.h15 d15
   subst hd15
   have d30 : b30 = true := ready_dep hi rfl 30 (by kernel_rfl)
   have hd30 := HT.h30 d30
   subst hd30
   clear HT
   refine wpOp_one rfl rfl (fun K hK => ?_)
   go_simp
   exact hK.out _ _ (.mk b0 b1 b2 b3 b4 b5 b6 b7 b8 b9 b10 b11 b12 b13 b14 b15 b16 b17 b18 b19 b20 b21 b22 b23 b24 b25 b26 b27 b28 b29 b30 true b32 _ _ _ _ _ _ _ _ _ _ _ _ _ _ _ _ _ _ _ _ _ _ _ _ _ _ _ _ _ _ _ _ _ _ { HTH.out with h31 := fun _ => rfl })
  | 32, _, hi, hib =>
   have d31 : b31 = true := ready_dep hi rfl 31 (by kernel_rfl)
   have hd31 := HT.h31 d31
   subst hd31
   clear HT
   refine wpOp_one rfl rfl (fun K hK => ?_)
   go_simp
   exact hK.out _ _ (.mk b0 b1 b2 b3 b4 b5 b6 b7 b8 b9 b10 b11 b12 b13 b14 b15 b16 b17 b18 b19 b20 b21 b22 b23 b24 b25 b26 b27 b28 b29 b30 b31 true _ _ _ _ _ _ _ _ _ _ _ _ _ _ _ _ _ _ _ _ _ _ _ _ _ _ _ _ _ _ _ _ _ _ { HTH.out with h32 := fun _ => rfl })
 case fin =>
  rintro lq a' w' ⟨b0, b1, b2, b3, b4, b5, b6, b7, b8, b9, b10, b11, b12, b13, b14, b15, b16, b17, b18, b19, b20, b21, b22, b23, b24, b25, b26, b27, b28, b29, b30, b31, b32, v8, v9, v10, v11, v12, v13, v14, v15, v16, v17, v18, v19, v20, v21, v22, v23, v24, v25, v26, v27, v28, v29, v30, v31, v32, v33, v34, v35, v36, v37, v38, v39, v40, _, HT⟩ hr
  obtain rfl : b0 = true := by
   cases b0 with
   | true => rfl
   | false => exact (ready_in 0 rfl rfl (by simp [Region.binds]) hr).elim
  obtain rfl : b1 = true := by
   cases b1 with
   | true => rfl
   | false => exact (ready_in 1 rfl rfl (by simp [Region.binds]) hr).elim
  obtain rfl : b2 = true := by
   cases b2 with
   | true => rfl
   | false => exact (ready_in 2 rfl rfl (by simp [Region.binds]) hr).elim
  obtain rfl : b3 = true := by
   cases b3 with
   | true => rfl
   | false => exact (ready_in 3 rfl rfl (by simp [Region.binds]) hr).elim
  obtain rfl : b4 = true := by
   cases b4 with
   | true => rfl
   | false => exact (ready_in 4 rfl rfl (by simp [Region.binds]) hr).elim
  obtain rfl : b5 = true := by
   cases b5 with
   | true => rfl
   | false => exact (ready_in 5 rfl rfl (by simp [Region.binds]) hr).elim
  obtain rfl : b6 = true := by
   cases b6 with
   | true => rfl
   | false => exact (ready_in 6 rfl rfl (by simp [Region.binds]) hr).elim
  obtain rfl : b7 = true := by
   cases b7 with
   | true => rfl
   | false => exact (ready_in 7 rfl rfl (by simp [Region.binds]) hr).elim
  obtain rfl : b8 = true := by
   cases b8 with
   | true => rfl
   | false => exact (ready_in 8 rfl rfl (by simp [Region.binds]) hr).elim
  obtain rfl : b9 = true := by
   cases b9 with
   | true => rfl
   | false => exact (ready_in 9 rfl rfl (by simp [Region.binds]) hr).elim
  obtain rfl : b10 = true := by
   cases b10 with
   | true => rfl
   | false => exact (ready_in 10 rfl rfl (by simp [Region.binds]) hr).elim
  obtain rfl : b11 = true := by
   cases b11 with
   | true => rfl
   | false => exact (ready_in 11 rfl rfl (by simp [Region.binds]) hr).elim
  obtain rfl : b12 = true := by
   cases b12 with
   | true => rfl
   | false => exact (ready_in 12 rfl rfl (by simp [Region.binds]) hr).elim
  obtain rfl : b13 = true := by
   cases b13 with
   | true => rfl
   | false => exact (ready_in 13 rfl rfl (by simp [Region.binds]) hr).elim
  obtain rfl : b14 = true := by
   cases b14 with
   | true => rfl
   | false => exact (ready_in 14 rfl rfl (by simp [Region.binds]) hr).elim
  obtain rfl : b15 = true := by
   cases b15 with
   | true => rfl
   | false => exact (ready_in 15 rfl rfl (by simp [Region.binds]) hr).elim
  obtain rfl : b16 = true := by
   cases b16 with
   | true => rfl
   | false => exact (ready_in 16 rfl rfl (by simp [Region.binds]) hr).elim
  obtain rfl : b17 = true := by
   cases b17 with
   | true => rfl
   | false => exact (ready_in 17 rfl rfl (by simp [Region.binds]) hr).elim
  obtain rfl : b18 = true := by
   cases b18 with
   | true => rfl
   | false => exact (ready_in 18 rfl rfl (by simp [Region.binds]) hr).elim
  obtain rfl : b19 = true := by
   cases b19 with
   | true => rfl
   | false => exact (ready_in 19 rfl rfl (by simp [Region.binds]) hr).elim
  obtain rfl : b20 = true := by
   cases b20 with
   | true => rfl
   | false => exact (ready_in 20 rfl rfl (by simp [Region.binds]) hr).elim
  obtain rfl : b21 = true := by
   cases b21 with
   | true => rfl
   | false => exact (ready_in 21 rfl rfl (by simp [Region.binds]) hr).elim
  obtain rfl : b22 = true := by
   cases b22 with
   | true => rfl
   | false => exact (ready_in 22 rfl rfl (by simp [Region.binds]) hr).elim
  obtain rfl : b23 = true := by
   cases b23 with
   | true => rfl
   | false => exact (ready_in 23 rfl rfl (by simp [Region.binds]) hr).elim
  obtain rfl : b24 = true := by
   cases b24 with
   | true => rfl
   | false => exact (ready_in 24 rfl rfl (by simp [Region.binds]) hr).elim
  obtain rfl : b25 = true := by
   cases b25 with
   | true => rfl
   | false => exact (ready_in 25 rfl rfl (by simp [Region.binds]) hr).elim
  obtain rfl : b26 = true := by
   cases b26 with
   | true => rfl
   | false => exact (ready_in 26 rfl rfl (by simp [Region.binds]) hr).elim
  obtain rfl : b27 = true := by
   cases b27 with
   | true => rfl
   | false => exact (ready_in 27 rfl rfl (by simp [Region.binds]) hr).elim
  obtain rfl : b28 = true := by
   cases b28 with
   | true => rfl
   | false => exact (ready_in 28 rfl rfl (by simp [Region.binds]) hr).elim
  obtain rfl : b29 = true := by
   cases b29 with
   | true => rfl
   | false => exact (ready_in 29 rfl rfl (by simp [Region.binds]) hr).elim
  obtain rfl : b30 = true := by
   cases b30 with
   | true => rfl
   | false => exact (ready_in 30 rfl rfl (by simp [Region.binds]) hr).elim
  obtain rfl : b31 = true := by
   cases b31 with
   | true => rfl
   | false => exact (ready_in 31 rfl rfl (by simp [Region.binds]) hr).elim
  obtain rfl : b32 = true := by
   cases b32 with
   | true => rfl
   | false => exact (ready_in 32 rfl rfl (by simp [Region.binds]) hr).elim
  have k0 := HT.h0 rfl
  subst k0
  have k1 := HT.h1 rfl
  subst k1
  have k2 := HT.h2 rfl
  subst k2
  have k3 := HT.h3 rfl
  subst k3
  have k4 := HT.h4 rfl
  subst k4
  have k5 := HT.h5 rfl
  subst k5
  have k6 := HT.h6 rfl
  subst k6
  have k7 := HT.h7 rfl
  subst k7
  have k8 := HT.h8 rfl
  subst k8
  have k9 := HT.h9 rfl
  subst k9
  have k10 := HT.h10 rfl
  subst k10
  have k11 := HT.h11 rfl
  subst k11
  have k12 := HT.h12 rfl
  subst k12
  have k13 := HT.h13 rfl
  subst k13
  have k14 := HT.h14 rfl
  subst k14
  have k15 := HT.h15 rfl
  subst k15
  have k16 := HT.h16 rfl
  subst k16
  have k17 := HT.h17 rfl
  subst k17
  have k18 := HT.h18 rfl
  subst k18
  have k19 := HT.h19 rfl
  subst k19
  have k20 := HT.h20 rfl
  subst k20
  have k21 := HT.h21 rfl
  subst k21
  have k22 := HT.h22 rfl
  subst k22
  have k23 := HT.h23 rfl
  subst k23
  have k24 := HT.h24 rfl
  subst k24
  have k25 := HT.h25 rfl
  subst k25
  have k26 := HT.h26 rfl
  subst k26
  have k27 := HT.h27 rfl
  subst k27
  have k28 := HT.h28 rfl
  subst k28
  have k29 := HT.h29 rfl
  subst k29
  have k30 := HT.h30 rfl
  subst k30
  have k31 := HT.h31 rfl
  subst k31
  have k32 := HT.h32 rfl
  subst k32
  have HBZ := Lib.hid HT.bel
  clear HT hr
  go_wp2_with fail
  refine bodyPost_ret (results_tmp rfl _ _ _) rfl ⟨?_, HBL.out.trans (HBZ.out.mono HBL.out.size)⟩
  exact congrArg (fun b => Ending.returned (.bool b)) HM.out.symm
end Go.Proofs.YtminihiecloglaaGreat
