/-
 CONTRACT: the law's anchor, the document's example (printed by gengan.py).
-/
import Derived.Test.YtolgmoaoheflcaaGRy
namespace Go.Proofs.Ytolgmoaoheflcaa.Sa
open Go.RowKit
open DiP
set_option linter.unusedVariables false
set_option linter.unusedSimpArgs false
set_option maxRecDepth 10000
def exP : PlV := ⟨[], [], [(0, 2), (1, 2)], [(1, 0)]⟩
def exL : List RcV := [⟨1, 0, exP⟩, ⟨2, 1, pl0⟩, ⟨4, 1, pl0⟩]
def ex6 : RcV := ⟨6, 1, pl0⟩
def ex8 : RcV := ⟨8, 0, pl0⟩
theorem ex_0 : takeE (repS exL 0) (rcAt exL 0) = 0 := by kernel_rfl
theorem ex_1 : takeE (repS exL 1) (rcAt exL 1) = 0 := by kernel_rfl
theorem ex_2 : takeE (repS exL 2) (rcAt exL 2) = 0 := by kernel_rfl
theorem ex_t : topO (repS exL 3) = some 1 := by kernel_rfl
theorem ex_6 : takeE (repS exL 3) ex6 = 0 := by kernel_rfl
theorem ex_8 : takeE (takeS (repS exL 3) ex6) ex8 = 0 := by kernel_rfl
theorem ex_p : (repS exL 3).ph = 2 := by kernel_rfl
theorem ex_u : (takeS (takeS (repS exL 3) ex6) ex8).ph = 5 := by kernel_rfl
theorem ex_m : mayB (repS exL 3) 0 = false := by kernel_rfl
theorem ex_inv : InvS (repS exL 3) := repS_inv 3 (fun i hi => by
 match i, hi with
 | 0, _ => exact ex_0
 | 1, _ => exact ex_1
 | 2, _ => exact ex_2)
theorem ex_rep {j : Nat} {er : Int} (h : RepTo exL j er) : j = 3 ∧ er = 0 := by
 rcases h.2 with ⟨h1, h2⟩ | ⟨h1, h2, h3⟩
 ·exact ⟨h1, h2⟩
 ·have hl : exL.length = 3 := rfl
  rw [hl] at h1
  exfalso
  match j, h1 with
  | 0, _ => rw [ex_0] at h2; exact h3 h2
  | 1, _ => rw [ex_1] at h2; exact h3 h2
  | 2, _ => rw [ex_2] at h2; exact h3 h2
theorem plr_nil {w : World} {B : Nat} : PlR w B none 0 none 0 none 0 none 0 pl0 := ⟨Rd.nil_, Rd.nil_, ⟨rfl, fun h => absurd h (by omega)⟩, ⟨rfl, fun h => absurd h (by omega)⟩, by omega⟩
theorem cells18 {w : World} {g : Nat} {cs : Array Value} {T : TypeId} (h : w.heap[g]? = some (.cells cs T (0, 0))) (i : Nat) (u : Value) (hu : cs[i]? = some u) : w.cell? ⟨g, i, none⟩ = some u := cells_of h i u (by rw [Array.getElem?_toList]; exact hu)
theorem PlR.more {w : World} {B B' : Nat} {AF AT AS AE : Option Addr} {nF nT nS nE : Nat} {p : PlV} (h : PlR w B AF nF AT nT AS nS AE nE p) (hb : B ≤ B') : PlR w B' AF nF AT nT AS nS AE nE p := ⟨h.fs.more hb, h.ts.more hb, h.S.more hb, h.E.more hb, h.mx⟩
set_option maxHeartbeats 8000000 in
theorem anchor_any (w : World) : Calls Try.prog 9 #[] w fun e w' => e = .returned (.bool true) ∧ Below w.heap.size w w' := by
 obtain ⟨W1, HW1⟩ : ∃ W, Hid (W = ((w.alloc (.cells #[.int .i64 0, .int .i64 2, .int .i64 1, .int .i64 2] 71)).alloc (.cells #[.int .i64 1, .int .i64 0] 90)).alloc (.cells #[.slice none 0 0, .slice none 0 0, .slice (some ⟨w.heap.size, 0, none⟩) 2 2, .slice (some ⟨w.heap.size + 1, 0, none⟩) 1 1] 29)) := ⟨_, Lib.hid rfl⟩
 have HB1 : Hid (Below w.heap.size w W1) := Lib.hid (by rw [HW1.out]; exact (((Below.refl _ w).alloc (Nat.le_refl _) _).alloc (by simp) _).alloc (by simp; omega) _)
 have HZ1 : Hid (W1.heap.size = w.heap.size + 3) := Lib.hid (by rw [HW1.out]; simp)
 have K0 : Hid (W1.heap[w.heap.size]? = some (.cells #[.int .i64 0, .int .i64 2, .int .i64 1, .int .i64 2] 71 (0, 0))) := Lib.hid (by rw [HW1.out, Below.heap_alloc _ _ _ (by simp; omega), Below.heap_alloc _ _ _ (by simp)]; exact heap_new w _)
 have K1 : Hid (W1.heap[w.heap.size + 1]? = some (.cells #[.int .i64 1, .int .i64 0] 90 (0, 0))) := Lib.hid (by
  rw [HW1.out, Below.heap_alloc _ _ _ (by simp)]
  have h := heap_new (w.alloc (.cells #[.int .i64 0, .int .i64 2, .int .i64 1, .int .i64 2] 71)) (.cells #[.int .i64 1, .int .i64 0] 90)
  rw [World.size_alloc] at h; exact h)
 have K2 : Hid (W1.heap[w.heap.size + 2]? = some (.cells #[.slice none 0 0, .slice none 0 0, .slice (some ⟨w.heap.size, 0, none⟩) 2 2, .slice (some ⟨w.heap.size + 1, 0, none⟩) 1 1] 29 (0, 0))) := Lib.hid (by
  rw [HW1.out]
  have h := heap_new ((w.alloc (.cells #[.int .i64 0, .int .i64 2, .int .i64 1, .int .i64 2] 71)).alloc (.cells #[.int .i64 1, .int .i64 0] 90)) (.cells #[.slice none 0 0, .slice none 0 0, .slice (some ⟨w.heap.size, 0, none⟩) 2 2, .slice (some ⟨w.heap.size + 1, 0, none⟩) 1 1] 29)
  rw [World.size_alloc, World.size_alloc] at h; exact h)
 have HPX : Hid (∀ Z, Below W1.heap.size W1 Z → PlR Z W1.heap.size none 0 none 0 (some ⟨w.heap.size, 0, none⟩) 2 (some ⟨w.heap.size + 1, 0, none⟩) 1 exP) := Lib.hid (fun Z hZ => PlR.below ⟨Rd.nil_, Rd.nil_, ⟨rfl, fun _ => ⟨w.heap.size, 0, rfl, heapE_lt K0.out, fun j hj => by
   have hc := cells18 K0.out
   match j, hj with
   | 0, _ => exact ⟨hc 0 _ rfl, hc 1 _ rfl⟩
   | 1, _ => exact ⟨hc 2 _ rfl, hc 3 _ rfl⟩⟩⟩, ⟨rfl, fun _ => ⟨w.heap.size + 1, 0, rfl, heapE_lt K1.out, fun j hj => by
   have hc := cells18 K1.out
   match j, hj with
   | 0, _ => exact ⟨hc 0 _ rfl, hc 1 _ rfl⟩⟩⟩, by omega⟩ hZ)
 obtain ⟨p0, p1, p2, p3⟩ := row4 K2.out
 have hb2 : Below W1.heap.size W1 (W1.alloc (.cells #[.int .i64 1, .int .i64 0, .slice none 0 0, .slice none 0 0, .slice (some ⟨w.heap.size, 0, none⟩) 2 2, .slice (some ⟨w.heap.size + 1, 0, none⟩) 1 1, .int .i64 2, .int .i64 1, .slice none 0 0, .slice none 0 0, .slice none 0 0, .slice none 0 0, .int .i64 4, .int .i64 1, .slice none 0 0, .slice none 0 0, .slice none 0 0, .slice none 0 0] 33)) := (Below.refl _ W1).alloc (Nat.le_refl _) _
 have hrow : (W1.alloc (.cells #[.int .i64 1, .int .i64 0, .slice none 0 0, .slice none 0 0, .slice (some ⟨w.heap.size, 0, none⟩) 2 2, .slice (some ⟨w.heap.size + 1, 0, none⟩) 1 1, .int .i64 2, .int .i64 1, .slice none 0 0, .slice none 0 0, .slice none 0 0, .slice none 0 0, .int .i64 4, .int .i64 1, .slice none 0 0, .slice none 0 0, .slice none 0 0, .slice none 0 0] 33)).heap[W1.heap.size]? = some (.cells #[.int .i64 1, .int .i64 0, .slice none 0 0, .slice none 0 0, .slice (some ⟨w.heap.size, 0, none⟩) 2 2, .slice (some ⟨w.heap.size + 1, 0, none⟩) 1 1, .int .i64 2, .int .i64 1, .slice none 0 0, .slice none 0 0, .slice none 0 0, .slice none 0 0, .int .i64 4, .int .i64 1, .slice none 0 0, .slice none 0 0, .slice none 0 0, .slice none 0 0] 33 (0, 0)) := heap_new W1 _
 have HRL : Hid (RdL (W1.alloc (.cells #[.int .i64 1, .int .i64 0, .slice none 0 0, .slice none 0 0, .slice (some ⟨w.heap.size, 0, none⟩) 2 2, .slice (some ⟨w.heap.size + 1, 0, none⟩) 1 1, .int .i64 2, .int .i64 1, .slice none 0 0, .slice none 0 0, .slice none 0 0, .slice none 0 0, .int .i64 4, .int .i64 1, .slice none 0 0, .slice none 0 0, .slice none 0 0, .slice none 0 0] 33)) (W1.alloc (.cells #[.int .i64 1, .int .i64 0, .slice none 0 0, .slice none 0 0, .slice (some ⟨w.heap.size, 0, none⟩) 2 2, .slice (some ⟨w.heap.size + 1, 0, none⟩) 1 1, .int .i64 2, .int .i64 1, .slice none 0 0, .slice none 0 0, .slice none 0 0, .slice none 0 0, .int .i64 4, .int .i64 1, .slice none 0 0, .slice none 0 0, .slice none 0 0, .slice none 0 0] 33)).heap.size (some ⟨W1.heap.size, 0, none⟩) 3 exL) := Lib.hid ⟨rfl, by omega, fun j hj => by
  have hc := cells18 hrow
  have hlt : W1.heap.size < (W1.alloc (.cells #[.int .i64 1, .int .i64 0, .slice none 0 0, .slice none 0 0, .slice (some ⟨w.heap.size, 0, none⟩) 2 2, .slice (some ⟨w.heap.size + 1, 0, none⟩) 1 1, .int .i64 2, .int .i64 1, .slice none 0 0, .slice none 0 0, .slice none 0 0, .slice none 0 0, .int .i64 4, .int .i64 1, .slice none 0 0, .slice none 0 0, .slice none 0 0, .slice none 0 0] 33)).heap.size := heapE_lt hrow
  match j, hj with
  | 0, _ => exact ⟨W1.heap.size, 0, _, _, _, _, _, _, _, _, _, _, _, _, rfl, hlt, hc 0 _ rfl, hc 1 _ rfl, hc 2 _ rfl, hc 3 _ rfl, hc 4 _ rfl, hc 5 _ rfl, PlR.more (HPX.out _ hb2) hb2.size⟩
  | 1, _ => exact ⟨W1.heap.size, 0, _, _, _, _, _, _, _, _, _, _, _, _, rfl, hlt, hc 6 _ rfl, hc 7 _ rfl, hc 8 _ rfl, hc 9 _ rfl, hc 10 _ rfl, hc 11 _ rfl, plr_nil⟩
  | 2, _ => exact ⟨W1.heap.size, 0, _, _, _, _, _, _, _, _, _, _, _, _, rfl, hlt, hc 12 _ rfl, hc 13 _ rfl, hc 14 _ rfl, hc 15 _ rfl, hc 16 _ rfl, hc 17 _ rfl, plr_nil⟩⟩
 have HC := Lib.hid (replay_any (c := 3) HRL.out (Nat.le_refl _) (fun j hj => by
  match j, hj with
  | 0, _ => rfl
  | 1, _ => rfl
  | 2, _ => rfl))
 have HBX : Hid (Below w.heap.size w (W1.alloc (.cells #[.int .i64 1, .int .i64 0, .slice none 0 0, .slice none 0 0, .slice (some ⟨w.heap.size, 0, none⟩) 2 2, .slice (some ⟨w.heap.size + 1, 0, none⟩) 1 1, .int .i64 2, .int .i64 1, .slice none 0 0, .slice none 0 0, .slice none 0 0, .slice none 0 0, .int .i64 4, .int .i64 1, .slice none 0 0, .slice none 0 0, .slice none 0 0, .slice none 0 0] 33))) := Lib.hid (HB1.out.alloc HB1.out.size _)
 clear hb2 hrow
 go_enter Try.func9, Try.ntmps9
 go_upto_region 2 with fail
 change Code.wp _ _ _ _ (((w.alloc (.cells #[.int .i64 0, .int .i64 2, .int .i64 1, .int .i64 2] 71)).alloc (.cells #[.int .i64 1, .int .i64 0] 90)).alloc (.cells #[.slice none 0 0, .slice none 0 0, .slice (some ⟨w.heap.size, 0, none⟩) 2 2, .slice (some ⟨w.heap.size + 1, 0, none⟩) 1 1] 29))
 rw [← HW1.out]
 go_wp2_with fail
 refine HC.out.mono ?_
 rintro e w3 ⟨hb, j, er, hrt, num, ph, A1, n1, c1, A2, n2, c2, A3, n3, c3, A4, n4, c4, A5, n5, c5, A6, n6, c6, rfl, hst⟩
 obtain ⟨rfl, rfl⟩ := ex_rep hrt
 have HB3 := Lib.hid (HBX.out.trans (hb.mono HBX.out.size))
 obtain ⟨W3, HW3⟩ : ∃ W, Hid (W = w3.alloc (.cells #[.int .i64 num, .int .i64 ph, .slice A1 n1 c1, .slice A2 n2 c2, .slice A3 n3 c3, .slice A4 n4 c4, .slice A5 n5 c5, .slice A6 n6 c6] 31)) := ⟨_, Lib.hid rfl⟩
 have hb4 : Below w3.heap.size w3 W3 := by rw [HW3.out]; exact (Below.refl _ w3).alloc (Nat.le_refl _) _
 have HB4 := Lib.hid (HB3.out.trans (hb4.mono HB3.out.size))
 have HR3 : Hid (W3.heap[w3.heap.size]? = some (.cells #[.int .i64 num, .int .i64 ph, .slice A1 n1 c1, .slice A2 n2 c2, .slice A3 n3 c3, .slice A4 n4 c4, .slice A5 n5 c5, .slice A6 n6 c6] 31 (0, 0))) := Lib.hid (by rw [HW3.out]; exact heap_new w3 _)
 have HS3 := Lib.hid (hst.kept hb4)
 have HPH : Hid (ph = 2) := Lib.hid (hst.ph.symm.trans ex_p)
 clear hst hb hb4 hrt HC p0 p1 p2 p3
 have HCT := Lib.hid (top_any (cF := c1) (cT := c2) (cS := c3) (cE := c4) (cO := c5) (cD := c6) (HS3.out.stw ex_inv) (Nat.le_refl _))
 rw [ex_t] at HCT
 obtain ⟨x0, x1, x2, x3, x4, x5, x6, x7⟩ := row8 HR3.out
 go_upto_region 3 with fail
 change Code.wp _ _ _ _ (w3.alloc (.cells #[.int .i64 num, .int .i64 ph, .slice A1 n1 c1, .slice A2 n2 c2, .slice A3 n3 c3, .slice A4 n4 c4, .slice A5 n5 c5, .slice A6 n6 c6] 31))
 rw [← HW3.out]
 go_wp2_with fail
 refine HCT.out.mono ?_
 rintro e w4 ⟨rfl, hb⟩
 have HB5 := Lib.hid (HB4.out.trans (hb.mono HB4.out.size))
 have HR4 : Hid (w4.heap[w3.heap.size]? = some (.cells #[.int .i64 num, .int .i64 ph, .slice A1 n1 c1, .slice A2 n2 c2, .slice A3 n3 c3, .slice A4 n4 c4, .slice A5 n5 c5, .slice A6 n6 c6] 31 (0, 0))) := Lib.hid ((hb.block _ (heapE_lt HR3.out)).trans HR3.out)
 have HS4 := Lib.hid (HS3.out.kept hb)
 clear hb x0 x1 x2 x3 x4 x5 x6 x7 HCT
 have HCA := Lib.hid (take_any (w := w4) (B := 0) (dF := 0) (dT := 0) (dS := 0) (dE := 0) HS4.out ex_inv (RcW.of (r := ex6) plr_nil rfl rfl rfl) (Nat.zero_le _))
 rw [ex_6] at HCA
 obtain ⟨x0, x1, x2, x3, x4, x5, x6, x7⟩ := row8 HR4.out
 go_wp2_with fail
 refine HCA.out.mono ?_
 rintro e w5 ⟨hb, ⟨hne, _⟩ | ⟨_, num2, ph2, B1, m1, d1, B2, m2, d2, B3, m3, d3, B4, m4, d4, B5, m5, d5, B6, m6, d6, rfl, hst⟩⟩
 ·exact absurd rfl hne
 have HB6 := Lib.hid (HB5.out.trans (hb.mono HB5.out.size))
 have HR5 : Hid (w5.heap[w3.heap.size]? = some (.cells #[.int .i64 num, .int .i64 ph, .slice A1 n1 c1, .slice A2 n2 c2, .slice A3 n3 c3, .slice A4 n4 c4, .slice A5 n5 c5, .slice A6 n6 c6] 31 (0, 0))) := Lib.hid ((hb.block _ (heapE_lt HR4.out)).trans HR4.out)
 have HS5 := Lib.hid (HS4.out.kept hb)
 obtain ⟨W5, HW5⟩ : ∃ W, Hid (W = w5.alloc (.cells #[.int .i64 num2, .int .i64 ph2, .slice B1 m1 d1, .slice B2 m2 d2, .slice B3 m3 d3, .slice B4 m4 d4, .slice B5 m5 d5, .slice B6 m6 d6] 31)) := ⟨_, Lib.hid rfl⟩
 have hb6 : Below w5.heap.size w5 W5 := by rw [HW5.out]; exact (Below.refl _ w5).alloc (Nat.le_refl _) _
 have HB7 := Lib.hid (HB6.out.trans (hb6.mono HB6.out.size))
 have HT5 : Hid (W5.heap[w5.heap.size]? = some (.cells #[.int .i64 num2, .int .i64 ph2, .slice B1 m1 d1, .slice B2 m2 d2, .slice B3 m3 d3, .slice B4 m4 d4, .slice B5 m5 d5, .slice B6 m6 d6] 31 (0, 0))) := Lib.hid (by rw [HW5.out]; exact heap_new w5 _)
 have HR6 : Hid (W5.heap[w3.heap.size]? = some (.cells #[.int .i64 num, .int .i64 ph, .slice A1 n1 c1, .slice A2 n2 c2, .slice A3 n3 c3, .slice A4 n4 c4, .slice A5 n5 c5, .slice A6 n6 c6] 31 (0, 0))) := Lib.hid ((hb6.block _ (heapE_lt HR5.out)).trans HR5.out)
 have HS6 := Lib.hid (HS5.out.kept hb6)
 have HU6 := Lib.hid (hst.kept hb6)
 clear hb hb6 hst x0 x1 x2 x3 x4 x5 x6 x7 HCA
 have HCB := Lib.hid (take_any (w := W5) (B := 0) (dF := 0) (dT := 0) (dS := 0) (dE := 0) HU6.out (ex_inv.take ex_6) (RcW.of (r := ex8) plr_nil rfl rfl rfl) (Nat.zero_le _))
 rw [ex_8] at HCB
 obtain ⟨x0, x1, x2, x3, x4, x5, x6, x7⟩ := row8 HT5.out
 go_upto_region 5 with fail
 change Code.wp _ _ _ _ (w5.alloc (.cells #[.int .i64 num2, .int .i64 ph2, .slice B1 m1 d1, .slice B2 m2 d2, .slice B3 m3 d3, .slice B4 m4 d4, .slice B5 m5 d5, .slice B6 m6 d6] 31))
 rw [← HW5.out]
 go_wp2_with fail
 refine HCB.out.mono ?_
 rintro e w6 ⟨hb, ⟨hne, _⟩ | ⟨_, num3, ph3, C1, k1, e1, C2, k2, e2, C3, k3, e3, C4, k4, e4, C5, k5, e5, C6, k6, e6, rfl, hst⟩⟩
 ·exact absurd rfl hne
 have HB8 := Lib.hid (HB7.out.trans (hb.mono HB7.out.size))
 have HR7 : Hid (w6.heap[w3.heap.size]? = some (.cells #[.int .i64 num, .int .i64 ph, .slice A1 n1 c1, .slice A2 n2 c2, .slice A3 n3 c3, .slice A4 n4 c4, .slice A5 n5 c5, .slice A6 n6 c6] 31 (0, 0))) := Lib.hid ((hb.block _ (heapE_lt HR6.out)).trans HR6.out)
 have HS7 := Lib.hid (HS6.out.kept hb)
 have HP3 : Hid (ph3 = 5) := Lib.hid (hst.ph.symm.trans ex_u)
 obtain ⟨W6, HW6⟩ : ∃ W, Hid (W = w6.alloc (.cells #[.int .i64 num3, .int .i64 ph3, .slice C1 k1 e1, .slice C2 k2 e2, .slice C3 k3 e3, .slice C4 k4 e4, .slice C5 k5 e5, .slice C6 k6 e6] 31)) := ⟨_, Lib.hid rfl⟩
 have hb8 : Below w6.heap.size w6 W6 := by rw [HW6.out]; exact (Below.refl _ w6).alloc (Nat.le_refl _) _
 have HB9 := Lib.hid (HB8.out.trans (hb8.mono HB8.out.size))
 have HT6 : Hid (W6.heap[w6.heap.size]? = some (.cells #[.int .i64 num3, .int .i64 ph3, .slice C1 k1 e1, .slice C2 k2 e2, .slice C3 k3 e3, .slice C4 k4 e4, .slice C5 k5 e5, .slice C6 k6 e6] 31 (0, 0))) := Lib.hid (by rw [HW6.out]; exact heap_new w6 _)
 have HR8 : Hid (W6.heap[w3.heap.size]? = some (.cells #[.int .i64 num, .int .i64 ph, .slice A1 n1 c1, .slice A2 n2 c2, .slice A3 n3 c3, .slice A4 n4 c4, .slice A5 n5 c5, .slice A6 n6 c6] 31 (0, 0))) := Lib.hid ((hb8.block _ (heapE_lt HR7.out)).trans HR7.out)
 have HS8 := Lib.hid (HS7.out.kept hb8)
 clear hb hb8 hst x0 x1 x2 x3 x4 x5 x6 x7 HCB
 have HCM := Lib.hid (may_any (cF := c1) (cT := c2) (cS := c3) (cE := c4) (cO := c5) (cD := c6) (HS8.out.stw ex_inv) (Nat.le_refl _) 0)
 rw [ex_m] at HCM
 obtain ⟨x0, x1, x2, x3, x4, x5, x6, x7⟩ := row8 HR8.out
 obtain ⟨y0, y1, y2, y3, y4, y5, y6, y7⟩ := row8 HT6.out
 have ha := HPH.out
 have hu := HP3.out
 subst ha hu
 go_upto_region 6 with fail
 change Code.wp _ _ _ _ (w6.alloc (.cells #[.int .i64 num3, .int .i64 5, .slice C1 k1 e1, .slice C2 k2 e2, .slice C3 k3 e3, .slice C4 k4 e4, .slice C5 k5 e5, .slice C6 k6 e6] 31))
 rw [← HW6.out]
 go_wp2_with fail
 refine HCM.out.mono ?_
 rintro e w7 ⟨rfl, hb⟩
 have HBF := Lib.hid (HB9.out.trans (hb.mono HB9.out.size))
 clear hb x0 x1 x2 x3 x4 x5 x6 x7 y0 y1 y2 y3 y4 y5 y6 y7
 go_wp2_with fail
 refine bodyPost_ret (results_tmp rfl _ _ _) rfl ⟨rfl, HBF.out⟩
end Go.Proofs.Ytolgmoaoheflcaa.Sa
