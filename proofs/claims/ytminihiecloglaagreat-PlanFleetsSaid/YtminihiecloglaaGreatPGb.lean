/-
 MERGED: PGq PGd PGr.
-/
import Derived.Test.YtminihiecloglaaGreatPRi
import Derived.Test.YtminihiecloglaaGreatCQt
import Derived.Test.YtminihiecloglaaGreatCQm
namespace Go.Proofs.YtminihiecloglaaGreat
open Go.RowKit
open SemP FlP GaP DiP
set_option linter.unusedVariables false
set_option linter.unusedSimpArgs false
set_option maxRecDepth 10000
set_option maxHeartbeats 4000000 in
theorem placeQ_yes {x y : Int} (hx : 0 ≤ x ∧ x ≤ 1048576) (hy : 0 ≤ y ∧ y ≤ 1048576) (w : World) :
  Calls Tryz.prog 28 #[.agg #[.int .i64 x, .int .i64 y]] w fun e w' => e = .returned (.bool true) ∧ Below w.heap.size w w' := by
 have d1 : decide (0 ≤ x) = true := decide_eq_true hx.1
 have d2 : decide (x ≤ 1048576) = true := decide_eq_true hx.2
 have d3 : decide (0 ≤ y) = true := decide_eq_true hy.1
 have d4 : decide (y ≤ 1048576) = true := decide_eq_true hy.2
 obtain ⟨hx1, hx2⟩ := hx
 obtain ⟨hy1, hy2⟩ := hy
 obtain ⟨W, HW⟩ : ∃ W, Hid (W = w.alloc (.cells #[.int .i64 x, .int .i64 y] 66)) := ⟨_, Lib.hid rfl⟩
 have HBL : Hid (Below w.heap.size w W) := Lib.hid (by rw [HW.out]; exact (Below.refl _ w).alloc (Nat.le_refl _) _)
 have H0 : Hid (W.heap[w.heap.size]? = some (.cells #[.int .i64 x, .int .i64 y] 66 (0, 0))) := Lib.hid (by rw [HW.out]; exact heap_new w _)
 obtain ⟨a0, a1, _, _⟩ := row2 H0.out
 go_enter Tryz.func28, Tryz.ntmps28
 go_upto_region 1 with fail
 change Code.wp _ _ _ _ (w.alloc (.cells #[.int .i64 x, .int .i64 y] 66))
 rw [← HW.out]
 go_wp2_with fail
 exact bodyPost_ret (results_tmp rfl _ _ _) rfl ⟨rfl, HBL.out⟩
set_option maxHeartbeats 16000000 in
theorem standQ_set {w : World} {B n c i v : Nat} {A : Option Addr} {l : List Sv} (h : CatAt w B A n c l) (hlv : LevOK l) (hi : i < n) (hv : v < (svAt l i).2.length) :
  Calls Tryz.prog 65 #[.agg #[.slice A n c], .int .i64 (i : Int), .agg #[.int .i64 (v : Int), .int .i64 (2 * levAt l i v)]] w fun e w' => e = .returned (.bool true) ∧ Below w.heap.size w w' := by
 obtain ⟨W, HW⟩ : ∃ W, Hid (W = (w.alloc (.cells #[.slice A n c] 29)).alloc (.cells #[.int .i64 (v : Int), .int .i64 (2 * levAt l i v)] 66)) := ⟨_, Lib.hid rfl⟩
 have hbl : Below w.heap.size w W := by rw [HW.out]; exact ((Below.refl _ w).alloc (Nat.le_refl _) _).alloc (by simp) _
 have HBL := Lib.hid hbl
 have H0 : Hid (W.heap[w.heap.size]? = some (.cells #[.slice A n c] 29 (0, 0))) := Lib.hid (by
  rw [HW.out, Below.heap_alloc _ _ _ (by simp)]; exact heap_new w _)
 have H1 : Hid (W.heap[w.heap.size + 1]? = some (.cells #[.int .i64 (v : Int), .int .i64 (2 * levAt l i v)] 66 (0, 0))) := Lib.hid (by
  rw [HW.out]
  have h := heap_new (w.alloc (.cells #[.slice A n c] 29)) (.cells #[.int .i64 (v : Int), .int .i64 (2 * levAt l i v)] 66)
  rw [World.size_alloc] at h; exact h)
 have hA := h.below hbl
 have hn16 := h.n16
 have hln : l.length = n := h.rd.1
 have hv16 : v < 17 := by have := (h.sm.2 _ (svAt_mem (show i < l.length by omega))).2.1; omega
 obtain ⟨b1, o1, Aj, nj, cj, hA1, hb1, _, k1, _, hrj⟩ := sv_at hA.rd hi
 subst hA1
 have hnj : (svAt l i).2.length = nj := hrj.1
 obtain ⟨b2, o2, _, _, _, hA2, hb2, _, _, _, _, kf, _⟩ := rl_at hrj (i := v) (by omega)
 subst hA2
 have l1 := levAt_ok hlv (show i < l.length by omega) hv
 have e1 : (rlAt (svAt l i).2 v).2.1 = levAt l i v := rfl
 rw [e1] at kf
 obtain ⟨L, hL⟩ : ∃ q, levAt l i v = q := ⟨_, rfl⟩
 rw [hL] at kf l1 H1 HW ⊢
 have hb1w : b1 < W.heap.size := by have := hA.le; omega
 have hb2w : b2 < W.heap.size := by have := hA.le; omega
 have HPL := Lib.hid (placeQ_yes (x := (v : Int)) (y := 2 * L) (by omega) (by omega) (W.drewN 1))
 have hi0 : (0 : Int) ≤ (i : Int) := by omega
 have hii : (i : Int) < (n : Int) := by omega
 have di0 : decide ((i : Int) < 0) = false := by simp
 have din : decide ((n : Int) ≤ (i : Int)) = false := by simp; omega
 have dvn : decide ((nj : Int) ≤ (v : Int)) = false := by simp; omega
 have pi0 : ¬ (i : Int) < 0 := by omega
 have pin : ¬ (n : Int) ≤ (i : Int) := by omega
 have pvn : ¬ (nj : Int) ≤ (v : Int) := by omega
 have hv0 : (0 : Int) ≤ (v : Int) := by omega
 have hvn : (v : Int) < (nj : Int) := by omega
 have hmul : IntKind.i64.wrap (2 * L) = 2 * L := IntWalk.i64_in _ (by omega)
 have hsub : IntKind.i64.wrap (2 * L - 2 * L) = 0 := by rw [Int.sub_self]; decide
 obtain ⟨x0, _⟩ := row1f H0.out
 obtain ⟨p0, p1, _, _⟩ := row2 H1.out
 clear h hlv hbl hA hrj hv hL e1
 go_enter Tryz.func65, Tryz.ntmps65
 go_upto_region 1 with fail
 change Code.wp _ _ _ _ ((w.alloc (.cells #[.slice (some ⟨b1, o1, none⟩) n c] 29)).alloc (.cells #[.int .i64 (v : Int), .int .i64 (2 * L)] 66))
 rw [← HW.out]
 go_region_held3 (fun W' => W'.cell? ⟨w.heap.size, 0, none⟩ = some (.slice (some ⟨b1, o1, none⟩) n c) ∧ W'.cell? ⟨w.heap.size + 1, 0, none⟩ = some (.int .i64 (v : Int)) ∧ W'.cell? ⟨w.heap.size + 1, 1, none⟩ = some (.int .i64 (2 * L)) ∧ W'.cell? ⟨b1, o1 + i * 2 + 1, none⟩ = some (.slice (some ⟨b2, o2, none⟩) nj cj)) ((first | exact ⟨x0, p0, p1, k1⟩ | exact ⟨z0, z1, z2, z3⟩ | go_keep)) (first
  | (go_at_call 28; refine HPL.out.mono ?_; rintro e w1 ⟨rfl, hb'⟩; (have hb : Below W.heap.size W w1 := (Below.drewN' (Below.refl _ W) 1).trans hb'); (have z0 := (row1f ((hb.block w.heap.size (heapE_lt H0.out)).trans H0.out)).1); (obtain ⟨z1, z2, _, _⟩ := row2 ((hb.block (w.heap.size + 1) (heapE_lt H1.out)).trans H1.out)); (have z3 := (hb.cell (p := ⟨b1, o1 + i * 2 + 1, none⟩) hb1w).trans k1); (have z4 := (hb.cell (p := ⟨b2, o2 + v * 6 + 4, none⟩) hb2w).trans kf); (have HBZ := Lib.hid hb); clear hb hb'))
 have HRES : Hid (Below w.heap.size w w1) := Lib.hid (HBL.out.trans (HBZ.out.mono HBL.out.size))
 go_wp2_with fail
 go_quiet (fail)
 go_wp2_with fail
 refine bodyPost_ret (results_tmp rfl _ _ _) rfl ⟨rfl, by first | exact HRES.out | exact Below.drewN' HRES.out _⟩
end Go.Proofs.YtminihiecloglaaGreat

namespace Go.Proofs.YtminihiecloglaaGreat
open Go.RowKit
open SemP FlP GaP DiP
set_option linter.unusedVariables false
set_option linter.unusedSimpArgs false
set_option maxRecDepth 10000
/-- A row of places that can be read. -/
def PrR (w : World) (A : Option Addr) (m : Nat) (ps : List (Int × Int)) : Prop := ps.length = m ∧ ∀ j, j < m → ∃ b off, A = some ⟨b, off, none⟩ ∧ b < w.heap.size ∧ w.cell? ⟨b, off + j * 2, none⟩ = some (.int .i64 (at_ ps j).1) ∧ w.cell? ⟨b, off + j * 2 + 1, none⟩ = some (.int .i64 (at_ ps j).2)
theorem PrR.below {w w' : World} {A : Option Addr} {m : Nat} {ps : List (Int × Int)} (h : PrR w A m ps) (hb : Below w.heap.size w w') : PrR w' A m ps :=
 ⟨h.1, fun j hj => by
  obtain ⟨b, off, e, hlt, c0, c1⟩ := h.2 j hj
  exact ⟨b, off, e, Nat.lt_of_lt_of_le hlt hb.size, (hb.cell (p := ⟨b, off + j * 2, none⟩) hlt).trans c0, (hb.cell (p := ⟨b, off + j * 2 + 1, none⟩) hlt).trans c1⟩⟩
theorem PrR.of {w : World} {M : Nat → Prop} {A : Option Addr} {m : Nat} {ps : List (Int × Int)} (h : RdJ 2 prI w M A m ps) : PrR w A m ps :=
 ⟨h.1, fun j hj => by
  obtain ⟨b, off, vs, e, hlt, _, _, hc, hi⟩ := h.2 j hj
  have hi' : vs = [.int .i64 (ps.getD j default).1, .int .i64 (ps.getD j default).2] := hi
  subst hi'
  exact ⟨b, off, e, hlt, hc 0 _ rfl, hc 1 _ rfl⟩⟩
theorem setP_nat {l : List Sv} {vs : List Int} {k : Nat} (hset : setB l vs = true) (hk : k < vs.length) : ∃ v : Nat, ix vs k = (v : Int) ∧ v < (svAt l k).2.length ∧ at_ (setL l vs) k = ((v : Int), 2 * levAt l k v) := by
 obtain ⟨a, b, ea, eb, ha, hb⟩ := isR_nat ((setB_iff.1 hset).2 k hk)
 obtain rfl : k = a := by omega
 refine ⟨b, eb, hb, ?_⟩
 rw [setL_at l vs hk]
 unfold setP
 rw [eb, Int.toNat_natCast]
end Go.Proofs.YtminihiecloglaaGreat
