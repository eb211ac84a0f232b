/-
 CONTRACT: plan.Make (printed by genpmk.py).
-/
import Derived.Test.YtminihiecloglaaGreatPCl
set_option linter.unusedVariables false
set_option linter.unusedSimpArgs false
namespace Go.Proofs.YtminihiecloglaaGreat
open Go.RowKit
open SemP FlP GaP DiP
set_option maxRecDepth 10000
theorem cloneRdF_any {w : World} {B n c : Nat} {A : Option Addr} {xs : List Int} (h : Rd w B A n xs) (hB : B ≤ w.heap.size) (hn : n ≤ 1000000) :
  Calls Tryz.prog 41 #[.slice A n c] w fun e w' => ∃ A' c', e = .returned (.slice A' n c') ∧ OwnF 3 1 inF w' w.heap.size (.slice A' n c') xs ∧ Below w.heap.size w w' :=
 cloneI_any (c := c) h.len hn (fun h0 => by
  obtain ⟨b, off, e, hb, hc⟩ := h.2 h0
  refine ⟨b, off, e, Nat.lt_of_lt_of_le hb hB, fun j u hj => ?_⟩
  obtain ⟨h1, rfl⟩ := flat_in xs j u hj
  exact hc j (by rw [h.len] at h1; exact h1))
theorem OwnF.miss {α : Type} {E T : TypeId} {z : Nat} {f : α → List Value} {w : World} {base g q : Nat} {u v : Value} {l : List α} {cur : Array Value} (hg : w.heap[g]? = some (.cells cur T (0, 0))) (hE : E ≠ T) (h : OwnF E z f w base v l) : OwnF E z f (w.setCell ⟨g, q, none⟩ u) base v l := own_miss hg hE h
theorem row4f {w : World} {g : Nat} {x y z u : Value} {t : TypeId} (h : w.heap[g]? = some (.cells #[x, y, z, u] t (0, 0))) : w.frozen? ⟨g, 0, none⟩ = false ∧ w.frozen? ⟨g, 1, none⟩ = false ∧ w.frozen? ⟨g, 2, none⟩ = false ∧ w.frozen? ⟨g, 3, none⟩ = false := by
 unfold World.frozen?
 rw [h]
 exact ⟨rfl, rfl, rfl, rfl⟩
theorem set4_same {w : World} {g : Nat} {x y z u a b c d : Value} {t : TypeId} (h : w.heap[g]? = some (.cells #[x, y, z, u] t (0, 0))) :
  ((((w.setCell ⟨g, 0, none⟩ a).setCell ⟨g, 1, none⟩ b).setCell ⟨g, 2, none⟩ c).setCell ⟨g, 3, none⟩ d).heap[g]? = some (.cells #[a, b, c, d] t (0, 0)) := by
 have h1 := heap_setCell_same w g 0 _ _ a h
 have h2 := heap_setCell_same _ g 1 _ _ b h1
 have h3 := heap_setCell_same _ g 2 _ _ c h2
 have h4 := heap_setCell_same _ g 3 _ _ d h3
 exact h4
theorem OwnF.miss4 {α : Type} {E T : TypeId} {Z : Nat} {f : α → List Value} {w : World} {base g : Nat} {v : Value} {l : List α} {x y z u a b c d : Value} (hg : w.heap[g]? = some (.cells #[x, y, z, u] T (0, 0))) (hE : E ≠ T) (h : OwnF E Z f w base v l) : OwnF E Z f ((((w.setCell ⟨g, 0, none⟩ a).setCell ⟨g, 1, none⟩ b).setCell ⟨g, 2, none⟩ c).setCell ⟨g, 3, none⟩ d) base v l := by
 have h1 := heap_setCell_same w g 0 _ _ a hg
 have h2 := heap_setCell_same _ g 1 _ _ b h1
 have h3 := heap_setCell_same _ g 2 _ _ c h2
 exact (((h.miss hg hE).miss h1 hE).miss h2 hE).miss h3 hE
theorem below_set4 {B g : Nat} {w w' : World} (h : Below B w w') (hg : B ≤ g) (a b c d : Value) : Below B w ((((w'.setCell ⟨g, 0, none⟩ a).setCell ⟨g, 1, none⟩ b).setCell ⟨g, 2, none⟩ c).setCell ⟨g, 3, none⟩ d) :=
 (((h.setCell (p := ⟨g, 0, none⟩) hg a).setCell (p := ⟨g, 1, none⟩) hg b).setCell (p := ⟨g, 2, none⟩) hg c).setCell (p := ⟨g, 3, none⟩) hg d
def makeE (l : List Sv) (fs ts : List Int) : Int := if chkE l fs ts = 0 then (open Classical in if Goes (befG (befP l fs ts (stL l fs ts))) (stL l fs ts).length (stL l fs ts).length then 0 else 44) else chkE l fs ts
structure PlanAt (w : World) (base : Nat) (l : List Sv) (fs ts : List Int) (v : Value) : Prop where
 ex : ∃ (AF AT AS AE : Option Addr) (m cF cT N cS M cE : Nat), v = .agg #[.slice AF m cF, .slice AT m cT, .slice AS N cS, .slice AE M cE] ∧ fs.length = m ∧ ts.length = m ∧
  OwnF 3 1 inF w base (.slice AF m cF) fs ∧ OwnF 3 1 inF w base (.slice AT m cT) ts ∧ OwnF 64 2 spF w base (.slice AS N cS) (stL l fs ts) ∧ OwnF 91 2 egF w base (.slice AE M cE) (befP l fs ts (stL l fs ts))
structure MkSt (X : World) (A A2 A3 : Option Addr) (n c m c2 c3 : Nat) (fs ts : List Int) (S : List StP) (b0 b1 b2 b3 b4 b5 b6 b7 b8 b9 b10 : Bool) (v9 v20 v21 v22 v23 v24 v25 v26 v27 v28 : Value) (w' : World) : Prop where
 bel : Below X.heap.size X w'
 h0 : b0 = true → v20 = .slice A2 m c2
 h2 : b2 = true → v22 = .slice A3 m c3
 h4 : b4 = true → v24 = .agg #[.slice A n c]
 h5 : b5 = true → v25 = .slice A2 m c2
 h6 : b6 = true → v26 = .slice A3 m c3
 h8 : b8 = true → v28 = .agg #[v21, v23, v27, .slice none 0 0]
 h1 : b1 = true → ∃ A' c', v21 = .slice A' m c' ∧ OwnF 3 1 inF w' X.heap.size (.slice A' m c') fs
 h3 : b3 = true → ∃ A' c', v23 = .slice A' m c' ∧ OwnF 3 1 inF w' X.heap.size (.slice A' m c') ts
 h7 : b7 = true → ∃ A' N' c', v27 = .slice A' N' c' ∧ OwnF 64 2 spF w' X.heap.size (.slice A' N' c') S
 h9 : b9 = true → b10 = false → ∃ g, v9 = .pointer (some ⟨g, 0, none⟩) ∧ X.heap.size ≤ g ∧ w'.heap[g]? = some (.cells #[.slice none 0 0, .slice none 0 0, .slice none 0 0, .slice none 0 0] 35 (0, 0))
 h10 : b10 = true → ∃ g, v9 = .pointer (some ⟨g, 0, none⟩) ∧ X.heap.size ≤ g ∧ w'.heap[g]? = some (.cells #[v21, v23, v27, .slice none 0 0] 35 (0, 0))
 o1_0 : b1 = true → b0 = true
 o3_2 : b3 = true → b2 = true
 o3_1 : b3 = true → b1 = true
 o7_4 : b7 = true → b4 = true
 o7_5 : b7 = true → b5 = true
 o7_6 : b7 = true → b6 = true
 o7_3 : b7 = true → b3 = true
 o8_1 : b8 = true → b1 = true
 o8_3 : b8 = true → b3 = true
 o8_7 : b8 = true → b7 = true
 o10_9 : b10 = true → b9 = true
 o10_8 : b10 = true → b8 = true
 o10_7 : b10 = true → b7 = true
inductive MkJ (X : World) (A A2 A3 : Option Addr) (n c m c2 c3 : Nat) (fs ts : List Int) (S : List StP) (p0 p1 p2 p3 p4 p5 p6 p7 p8 p10 p11 p12 p13 p14 p15 p16 p17 p18 p19 p29 p30 p31 p32 p33 p34 p35 p36 p37 p38 p39 p40 p41 p42 : Value) : Array Bool → Act → World → Prop where
 | mk (b0 b1 b2 b3 b4 b5 b6 b7 b8 b9 b10 : Bool) (v9 v20 v21 v22 v23 v24 v25 v26 v27 v28 : Value) (w' : World) : MkSt X A A2 A3 n c m c2 c3 fs ts S b0 b1 b2 b3 b4 b5 b6 b7 b8 b9 b10 v9 v20 v21 v22 v23 v24 v25 v26 v27 v28 w' → MkJ X A A2 A3 n c m c2 c3 fs ts S p0 p1 p2 p3 p4 p5 p6 p7 p8 p10 p11 p12 p13 p14 p15 p16 p17 p18 p19 p29 p30 p31 p32 p33 p34 p35 p36 p37 p38 p39 p40 p41 p42 #[b0, b1, b2, b3, b4, b5, b6, b7, b8, b9, b10] { tmps := List.toArray (p0 :: p1 :: p2 :: p3 :: p4 :: p5 :: p6 :: p7 :: p8 :: v9 :: p10 :: p11 :: p12 :: p13 :: p14 :: p15 :: p16 :: p17 :: p18 :: p19 :: v20 :: v21 :: v22 :: v23 :: v24 :: v25 :: v26 :: v27 :: v28 :: p29 :: p30 :: p31 :: p32 :: p33 :: p34 :: p35 :: p36 :: p37 :: p38 :: p39 :: p40 :: p41 :: p42 :: []), defers := [] } w'
set_option maxHeartbeats 16000000 in
theorem make_any {w : World} {B B2 B3 n c m c2 m3 c3 : Nat} {A A2 A3 : Option Addr} {l : List Sv} {fs ts : List Int} (h : CatAt w B A n c l) (hlv : LevOK l) (hf : Rd w B2 A2 m fs) (ht : Rd w B3 A3 m3 ts) (hB2 : B2 ≤ w.heap.size) (hB3 : B3 ≤ w.heap.size) (hm : m ≤ 64) (hm3 : m3 ≤ 64) :
  Calls Tryz.prog 13 #[.agg #[.slice A n c], .slice A2 m c2, .slice A3 m3 c3] w fun e w' => Below w.heap.size w w' ∧ ((makeE l fs ts ≠ 0 ∧ e = .returned (.tuple #[.agg #[.slice none 0 0, .slice none 0 0, .slice none 0 0, .slice none 0 0], .int .i64 (makeE l fs ts)])) ∨ (makeE l fs ts = 0 ∧ ∃ v, e = .returned (.tuple #[v, .int .i64 0]) ∧ PlanAt w' w.heap.size l fs ts v)) := by
 obtain ⟨W, HW⟩ : ∃ W, Hid (W = (w.alloc (.cells #[.slice A n c] 24)).alloc (.cells #[.slice none 0 0, .slice none 0 0, .slice none 0 0, .slice none 0 0] 35)) := ⟨_, Lib.hid rfl⟩
 have hbl : Below w.heap.size w W := by rw [HW.out]; exact ((Below.refl _ w).alloc (Nat.le_refl _) _).alloc (by simp) _
 have HBL := Lib.hid hbl
 have HZ : Hid (W.heap.size = w.heap.size + 2) := Lib.hid (by rw [HW.out]; simp)
 have H0 : Hid (W.heap[w.heap.size]? = some (.cells #[.slice A n c] 24 (0, 0))) := Lib.hid (by
  rw [HW.out, Below.heap_alloc _ _ _ (by simp)]; exact heap_new w _)
 have H1 : Hid (W.heap[w.heap.size + 1]? = some (.cells #[.slice none 0 0, .slice none 0 0, .slice none 0 0, .slice none 0 0] 35 (0, 0))) := Lib.hid (by
  rw [HW.out]
  have h := heap_new (w.alloc (.cells #[.slice A n c] 24)) (.cells #[.slice none 0 0, .slice none 0 0, .slice none 0 0, .slice none 0 0] 35)
  rw [World.size_alloc] at h; exact h)
 have HN16 := Lib.hid h.n16
 have HNL : Hid (l.length = n) := Lib.hid h.rd.1
 have HML : Hid (fs.length = m) := Lib.hid hf.len
 have HM3 : Hid (ts.length = m3) := Lib.hid ht.len
 have HA := Lib.hid (h.below hbl)
 have HF := Lib.hid (hf.below (hbl.mono hB2))
 have HTS := Lib.hid (ht.below (hbl.mono hB3))
 have HB2 : Hid (B2 ≤ W.heap.size) := Lib.hid (Nat.le_trans hB2 hbl.size)
 have HB3 : Hid (B3 ≤ W.heap.size) := Lib.hid (Nat.le_trans hB3 hbl.size)
 have HLV := Lib.hid hlv
 have HCE := Lib.hid (checkEnds_any (w := W) (c := c) (c2 := c2) (c3 := c3) HA.out hlv HF.out HTS.out HB2.out HB3.out hm hm3)
 obtain ⟨CE, HCV⟩ : ∃ q, Hid (chkE l fs ts = q) := ⟨_, Lib.hid rfl⟩
 rw [HCV.out] at HCE
 obtain ⟨ME, HME⟩ : ∃ q, Hid (makeE l fs ts = q) := ⟨_, Lib.hid rfl⟩
 rw [HME.out]
 clear h hf ht hbl hlv hB2 hB3
 go_enter Tryz.func13, Tryz.ntmps13
 go_upto_region 1 with fail
 change Code.wp _ _ _ _ ((w.alloc (.cells #[.slice A n c] 24)).alloc (.cells #[.slice none 0 0, .slice none 0 0, .slice none 0 0, .slice none 0 0] 35))
 rw [← HW.out]
 obtain ⟨x0, _⟩ := row1f H0.out
 go_wp2_with fail
 refine HCE.out.mono ?_
 rintro e X ⟨rfl, hb⟩
 have HWX : Hid (Below W.heap.size W X) := Lib.hid hb
 have KX : Hid (X.heap[w.heap.size]? = _) := Lib.hid ((hb.block w.heap.size (heapE_lt H0.out)).trans H0.out)
 have KR : Hid (X.heap[w.heap.size + 1]? = _) := Lib.hid ((hb.block (w.heap.size + 1) (heapE_lt H1.out)).trans H1.out)
 have KZ : Hid (w.heap.size + 2 ≤ X.heap.size) := Lib.hid (by have := hb.size; have := HZ.out; omega)
 have HBX : Hid (Below w.heap.size w X) := Lib.hid (HBL.out.trans (hb.mono HBL.out.size))
 clear hb x0 HCE
 by_cases hce : CE = 0
 rotate_left
 ·have d1 : (CE != 0) = true := by rw [bne_iff_ne]; exact hce
  have HX : Hid (ME = CE) := Lib.hid (by rw [← HME.out]; unfold makeE; rw [if_neg (by rw [HCV.out]; exact hce), HCV.out])
  have HN0 : Hid (ME ≠ 0) := Lib.hid (by rw [HX.out]; exact hce)
  obtain ⟨g0, g1, g2, g3⟩ := row4 KR.out
  obtain ⟨f0, f1, f2, f3⟩ := row4f KR.out
  have S4 := Lib.hid (set4_same (a := .slice none 0 0) (b := .slice none 0 0) (c := .slice none 0 0) (d := .slice none 0 0) KR.out)
  have HB4 := Lib.hid (below_set4 (g := w.heap.size + 1) HBX.out (by omega) (.slice none 0 0) (.slice none 0 0) (.slice none 0 0) (.slice none 0 0))
  clear hce
  go_wp2_with fail
  obtain ⟨q0, q1, q2, q3⟩ := row4 S4.out
  refine bodyPost_ret (v := .tuple #[.agg #[.slice none 0 0, .slice none 0 0, .slice none 0 0, .slice none 0 0], .int .i64 CE]) ?_ rfl ⟨HB4.out, .inl ⟨HN0.out, by rw [HX.out]⟩⟩
  rw [results_cell_tmp rfl]; go_simp
 ·have HC0 : Hid (chkE l fs ts = 0) := Lib.hid (by rw [HCV.out]; exact hce)
  have hmn : m = n := by rw [← HML.out, ← HNL.out]; exact (setB_iff.1 (chkE_ok HC0.out).1).1
  have hm3n : m3 = n := by rw [← HM3.out, ← HNL.out]; exact (setB_iff.1 (chkE_ok HC0.out).2.1).1
  subst hm3n
  subst hmn
  have HSF := Lib.hid (chkE_ok HC0.out).1
  have HST := Lib.hid (chkE_ok HC0.out).2.1
  have d1 : (CE != 0) = false := by rw [bne_eq_false_iff_eq]; exact hce
  have HAX := Lib.hid (HA.out.below HWX.out)
  have HFX := Lib.hid (HF.out.below (HWX.out.mono HB2.out))
  have HTX := Lib.hid (HTS.out.below (HWX.out.mono HB3.out))
  have HB2X : Hid (B2 ≤ X.heap.size) := Lib.hid (Nat.le_trans HB2.out HWX.out.size)
  have HB3X : Hid (B3 ≤ X.heap.size) := Lib.hid (Nat.le_trans HB3.out HWX.out.size)
  obtain ⟨S, HSS⟩ : ∃ S, Hid (stL l fs ts = S) := ⟨_, Lib.hid rfl⟩
  clear hce
  go_wp2_with fail
  refine wp_region_inv (by kernel_rfl) (I := MkJ X A A2 A3 m c m c2 c3 fs ts S _ _ _ _ _ _ _ _ _ _ _ _ _ _ _ _ _ _ _ _ _ _ _ _ _ _ _ _ _ _ _ _ _) (.mk false false false false false false false false false false false _ _ _ _ _ _ _ _ _ _ _ ⟨(Below.refl _ X).drew, nofun, nofun, nofun, nofun, nofun, nofun, nofun, nofun, nofun, nofun, nofun, nofun, nofun, nofun, nofun, nofun, nofun, nofun, nofun, nofun, nofun, nofun, nofun, nofun⟩) ?step ?fin
  case step =>
   rintro lq a' w' ix0 ⟨b0, b1, b2, b3, b4, b5, b6, b7, b8, b9, b10, v9, v20, v21, v22, v23, v24, v25, v26, v27, v28, _, HT⟩ hi
   obtain ⟨hi_, hib⟩ := ready_lt hi
   have HTH := Lib.hid HT
   match ix0, hi_, hi, hib with
   | 0, _, hi, hib =>
    obtain rfl : b0 = false := by simpa using hib
    clear HT
    refine wpOp_one rfl rfl (fun K hK => ?_)
    go_simp
    exact hK.out _ _ (.mk true b1 b2 b3 b4 b5 b6 b7 b8 b9 b10 _ _ _ _ _ _ _ _ _ _ _ { HTH.out with h0 := fun _ => rfl, o1_0 := fun _ => rfl })
   | 1, _, hi, hib =>
    obtain rfl : b1 = false := by simpa using hib
    have d0 : b0 = true := ready_dep hi rfl 0 (by kernel_rfl)
    obtain rfl : b3 = false := by
     cases hbl : b3 with
     | false => rfl
     | true => have h := (HT.o3_1 hbl); cases h
    obtain rfl : b7 = false := by
     cases hbl : b7 with
     | false => rfl
     | true => have h := (HT.o3_1 (HT.o7_3 hbl)); cases h
    obtain rfl : b8 = false := by
     cases hbl : b8 with
     | false => rfl
     | true => have h := (HT.o8_1 hbl); cases h
    obtain rfl : b10 = false := by
     cases hbl : b10 with
     | false => rfl
     | true => have h := (HT.o8_1 (HT.o10_8 hbl)); cases h
    have hd0 := HT.h0 d0
    subst hd0
    have HTb := Lib.hid HT.bel
    have HC := Lib.hid (cloneRdF_any (w := w') (c := c2) (HFX.out.below (HTb.out.mono HB2X.out)) (Nat.le_trans HB2X.out HTb.out.size) (by have := HN16.out; omega))
    clear HT
    refine wpOp_one rfl rfl (fun K hK => ?_)
    go_simp
    refine HC.out.mono ?_
    rintro e w2 ⟨A', c', rfl, hown, hb⟩
    exact hK.out _ _ (.mk b0 true b2 false b4 b5 b6 false false b9 false _ _ _ _ _ _ _ _ _ _ _ { HTH.out with bel := HTb.out.trans (hb.mono HTb.out.size), h1 := fun _ => ⟨A', c', rfl, hown.less HTb.out.size⟩, h3 := fun h => (by cases h), h7 := fun h => (by cases h), h8 := fun h => (by cases h), h9 := fun h h' => (by obtain ⟨g, e, hg, hh⟩ := HTH.out.h9 h h'; exact ⟨g, e, hg, (hb.block g (heapE_lt hh)).trans hh⟩), h10 := fun h => (by cases h), o1_0 := fun _ => d0, o3_1 := fun _ => rfl, o8_1 := fun _ => rfl })
   | 2, _, hi, hib =>
    obtain rfl : b2 = false := by simpa using hib
    clear HT
    refine wpOp_one rfl rfl (fun K hK => ?_)
    go_simp
    exact hK.out _ _ (.mk b0 b1 true b3 b4 b5 b6 b7 b8 b9 b10 _ _ _ _ _ _ _ _ _ _ _ { HTH.out with h2 := fun _ => rfl, o3_2 := fun _ => rfl })
   | 3, _, hi, hib =>
    obtain rfl : b3 = false := by simpa using hib
    have d2 : b2 = true := ready_dep hi rfl 2 (by kernel_rfl)
    have d1 : b1 = true := ready_dep hi rfl 1 (by kernel_rfl)
    obtain rfl : b7 = false := by
     cases hbl : b7 with
     | false => rfl
     | true => have h := (HT.o7_3 hbl); cases h
    obtain rfl : b8 = false := by
     cases hbl : b8 with
     | false => rfl
     | true => have h := (HT.o8_3 hbl); cases h
    obtain rfl : b10 = false := by
     cases hbl : b10 with
     | false => rfl
     | true => have h := (HT.o8_3 (HT.o10_8 hbl)); cases h
    have hd2 := HT.h2 d2
    subst hd2
    have HTb := Lib.hid HT.bel
    have HC := Lib.hid (cloneRdF_any (w := w') (c := c3) (HTX.out.below (HTb.out.mono HB3X.out)) (Nat.le_trans HB3X.out HTb.out.size) (by have := HN16.out; omega))
    clear HT
    refine wpOp_one rfl rfl (fun K hK => ?_)
    go_simp
    refine HC.out.mono ?_
    rintro e w2 ⟨A', c', rfl, hown, hb⟩
    exact hK.out _ _ (.mk b0 b1 b2 true b4 b5 b6 false false b9 false _ _ _ _ _ _ _ _ _ _ _ { HTH.out with bel := HTb.out.trans (hb.mono HTb.out.size), h3 := fun _ => ⟨A', c', rfl, hown.less HTb.out.size⟩, h1 := fun h => (by obtain ⟨A', c', e, ho⟩ := HTH.out.h1 h; exact ⟨A', c', e, ho.kept hb⟩), h7 := fun h => (by cases h), h8 := fun h => (by cases h), h9 := fun h h' => (by obtain ⟨g, e, hg, hh⟩ := HTH.out.h9 h h'; exact ⟨g, e, hg, (hb.block g (heapE_lt hh)).trans hh⟩), h10 := fun h => (by cases h), o3_2 := fun _ => d2, o3_1 := fun _ => d1, o7_3 := fun _ => rfl, o8_3 := fun _ => rfl })
   | 4, _, hi, hib =>
    obtain rfl : b4 = false := by simpa using hib
    have HTb := Lib.hid HT.bel
    obtain ⟨x0, _⟩ := row1f ((HTb.out.block w.heap.size (by have := KZ.out; omega)).trans KX.out)
    clear HT
    refine wpOp_one rfl rfl (fun K hK => ?_)
    go_simp
    exact hK.out _ _ (.mk b0 b1 b2 b3 true b5 b6 b7 b8 b9 b10 _ _ _ _ _ _ _ _ _ _ _ { HTH.out with h4 := fun _ => rfl, o7_4 := fun _ => rfl })
   | 5, _, hi, hib =>
    obtain rfl : b5 = false := by simpa using hib
    clear HT
    refine wpOp_one rfl rfl (fun K hK => ?_)
    go_simp
    exact hK.out _ _ (.mk b0 b1 b2 b3 b4 true b6 b7 b8 b9 b10 _ _ _ _ _ _ _ _ _ _ _ { HTH.out with h5 := fun _ => rfl, o7_5 := fun _ => rfl })
   | 6, _, hi, hib =>
    obtain rfl : b6 = false := by simpa using hib
    clear HT
    refine wpOp_one rfl rfl (fun K hK => ?_)
    go_simp
    exact hK.out _ _ (.mk b0 b1 b2 b3 b4 b5 true b7 b8 b9 b10 _ _ _ _ _ _ _ _ _ _ _ { HTH.out with h6 := fun _ => rfl, o7_6 := fun _ => rfl })
   | 7, _, hi, hib =>
    obtain rfl : b7 = false := by simpa using hib
    have d4 : b4 = true := ready_dep hi rfl 4 (by kernel_rfl)
    have d5 : b5 = true := ready_dep hi rfl 5 (by kernel_rfl)
    have d6 : b6 = true := ready_dep hi rfl 6 (by kernel_rfl)
    have d3 : b3 = true := ready_dep hi rfl 3 (by kernel_rfl)
    obtain rfl : b8 = false := by
     cases hbl : b8 with
     | false => rfl
     | true => have h := (HT.o8_7 hbl); cases h
    obtain rfl : b10 = false := by
     cases hbl : b10 with
     | false => rfl
     | true => have h := (HT.o8_7 (HT.o10_8 hbl)); cases h
    have hd4 := HT.h4 d4
    subst hd4
    have hd5 := HT.h5 d5
    subst hd5
    have hd6 := HT.h6 d6
    subst hd6
    have HTb := Lib.hid HT.bel
    have HC := Lib.hid (stepsOf_any (w := w') (c := c) (c2 := c2) (c3 := c3) (HAX.out.below HTb.out) HLV.out (HFX.out.below (HTb.out.mono HB2X.out)) (HTX.out.below (HTb.out.mono HB3X.out)) (Nat.le_trans HB2X.out HTb.out.size) (Nat.le_trans HB3X.out HTb.out.size) HSF.out HST.out)
    rw [HSS.out] at HC
    clear HT
    refine wpOp_one rfl rfl (fun K hK => ?_)
    go_simp
    refine HC.out.mono ?_
    rintro e w2 ⟨vs, rfl, hown, hb⟩
    obtain ⟨A7, c7, hv7⟩ := hown.shape
    subst hv7
    exact hK.out _ _ (.mk b0 b1 b2 b3 b4 b5 b6 true false b9 false _ _ _ _ _ _ _ _ _ _ _ { HTH.out with bel := HTb.out.trans (hb.mono HTb.out.size), h7 := fun _ => ⟨A7, _, c7, rfl, hown.less HTb.out.size⟩, h1 := fun h => (by obtain ⟨A', c', e, ho⟩ := HTH.out.h1 h; exact ⟨A', c', e, ho.kept hb⟩), h3 := fun h => (by obtain ⟨A', c', e, ho⟩ := HTH.out.h3 h; exact ⟨A', c', e, ho.kept hb⟩), h8 := fun h => (by cases h), h9 := fun h h' => (by obtain ⟨g, e, hg, hh⟩ := HTH.out.h9 h h'; exact ⟨g, e, hg, (hb.block g (heapE_lt hh)).trans hh⟩), h10 := fun h => (by cases h), o7_4 := fun _ => d4, o7_5 := fun _ => d5, o7_6 := fun _ => d6, o7_3 := fun _ => d3, o8_7 := fun _ => rfl, o10_7 := fun _ => rfl })
   | 8, _, hi, hib =>
    obtain rfl : b8 = false := by simpa using hib
    have d1 : b1 = true := ready_dep hi rfl 1 (by kernel_rfl)
    have d3 : b3 = true := ready_dep hi rfl 3 (by kernel_rfl)
    have d7 : b7 = true := ready_dep hi rfl 7 (by kernel_rfl)
    obtain rfl : b10 = false := by
     cases hbl : b10 with
     | false => rfl
     | true => have h := (HT.o10_8 hbl); cases h
    obtain ⟨A1, c1, e1, ho1⟩ := HT.h1 d1
    obtain ⟨A4, c4, e3, ho3⟩ := HT.h3 d3
    obtain ⟨A7, N7, c7, e7, ho7⟩ := HT.h7 d7
    subst e1 e3 e7
    clear HT ho1 ho3 ho7
    refine wpOp_one rfl rfl (fun K hK => ?_)
    go_simp
    exact hK.out _ _ (.mk b0 b1 b2 b3 b4 b5 b6 b7 true b9 false _ _ _ _ _ _ _ _ _ _ _ { HTH.out with h8 := fun _ => rfl, h10 := fun h => (by cases h), o8_1 := fun _ => d1, o8_3 := fun _ => d3, o8_7 := fun _ => d7, o10_8 := fun _ => rfl })
   | 9, _, hi, hib =>
    obtain rfl : b9 = false := by simpa using hib
    obtain rfl : b10 = false := by
     cases hbl : b10 with
     | false => rfl
     | true => have h := (HT.o10_9 hbl); cases h
    have HTb := Lib.hid HT.bel
    clear HT
    refine wpOp_one rfl rfl (fun K hK => ?_)
    go_simp
    have hba : Below w'.heap.size w' (w'.alloc (.cells #[.slice none 0 0, .slice none 0 0, .slice none 0 0, .slice none 0 0] 35)) := (Below.refl _ w').alloc (Nat.le_refl _) _
    exact hK.out _ _ (.mk b0 b1 b2 b3 b4 b5 b6 b7 b8 true false _ _ _ _ _ _ _ _ _ _ _ { HTH.out with bel := HTb.out.trans (hba.mono HTb.out.size), h1 := fun h => (by obtain ⟨A', c', e, ho⟩ := HTH.out.h1 h; exact ⟨A', c', e, ho.kept hba⟩), h3 := fun h => (by obtain ⟨A', c', e, ho⟩ := HTH.out.h3 h; exact ⟨A', c', e, ho.kept hba⟩), h7 := fun h => (by obtain ⟨A', N', c', e, ho⟩ := HTH.out.h7 h; exact ⟨A', N', c', e, ho.kept hba⟩), h9 := fun _ _ => ⟨w'.heap.size, rfl, HTb.out.size, heap_new w' _⟩, h10 := fun h => (by cases h), o10_9 := fun _ => rfl })
   | 10, _, hi, hib =>
    obtain rfl : b10 = false := by simpa using hib
    have d9 : b9 = true := ready_dep hi rfl 9 (by kernel_rfl)
    have d8 : b8 = true := ready_dep hi rfl 8 (by kernel_rfl)
    have d7 : b7 = true := ready_dep hi rfl 7 (by kernel_rfl)
    have d1 : b1 = true := HT.o3_1 (HT.o7_3 d7)
    have d3 : b3 = true := HT.o7_3 d7
    obtain ⟨A1, c1, e1, ho1⟩ := HT.h1 d1
    obtain ⟨A4, c4, e3, ho3⟩ := HT.h3 d3
    obtain ⟨A7, N7, c7, e7, ho7⟩ := HT.h7 d7
    obtain ⟨g, e9, hgX, hg⟩ := HT.h9 d9 rfl
    subst e1 e3 e7 e9
    have hd8 := HT.h8 d8
    subst hd8
    have HTb := Lib.hid HT.bel
    obtain ⟨g0, g1, g2, g3⟩ := row4 hg
    obtain ⟨f0, f1, f2, f3⟩ := row4f hg
    have HO1 := Lib.hid ho1
    have HO3 := Lib.hid ho3
    have HO7 := Lib.hid ho7
    have HG := Lib.hid hg
    clear HT ho1 ho3 ho7 hg
    refine wpOp_one rfl rfl (fun K hK => ?_)
    go_simp
    exact hK.out _ _ (.mk b0 b1 b2 b3 b4 b5 b6 b7 b8 b9 true _ _ _ _ _ _ _ _ _ _ _ { HTH.out with bel := below_set4 HTb.out hgX _ _ _ _, h1 := fun _ => ⟨A1, c1, rfl, HO1.out.miss4 HG.out (by decide)⟩, h3 := fun _ => ⟨A4, c4, rfl, HO3.out.miss4 HG.out (by decide)⟩, h7 := fun _ => ⟨A7, N7, c7, rfl, HO7.out.miss4 HG.out (by decide)⟩, h9 := fun _ h => (by cases h), h10 := fun _ => ⟨g, rfl, hgX, set4_same HG.out⟩, o10_9 := fun _ => d9, o10_8 := fun _ => d8, o10_7 := fun _ => d7 })
  case fin =>
   rintro lq a' w' ⟨b0, b1, b2, b3, b4, b5, b6, b7, b8, b9, b10, v9, v20, v21, v22, v23, v24, v25, v26, v27, v28, _, HT⟩ hr
   obtain rfl : b0 = true := by
    cases b0 with
    | true => rfl
    | false => exact (ready_in 0 rfl rfl (by simp [Region.binds]) hr).elim
   obtain rfl : b1 = true := by
    cases b1 with
    | true => rfl
    | false => exact (ready_in 1 rfl rfl (by simp [Region.binds]) hr).elim
   obtain rfl : b2 = true := by
    cases b2 with
    | true => rfl
    | false => exact (ready_in 2 rfl rfl (by simp [Region.binds]) hr).elim
   obtain rfl : b3 = true := by
    cases b3 with
    | true => rfl
    | false => exact (ready_in 3 rfl rfl (by simp [Region.binds]) hr).elim
   obtain rfl : b4 = true := by
    cases b4 with
    | true => rfl
    | false => exact (ready_in 4 rfl rfl (by simp [Region.binds]) hr).elim
   obtain rfl : b5 = true := by
    cases b5 with
    | true => rfl
    | false => exact (ready_in 5 rfl rfl (by simp [Region.binds]) hr).elim
   obtain rfl : b6 = true := by
    cases b6 with
    | true => rfl
    | false => exact (ready_in 6 rfl rfl (by simp [Region.binds]) hr).elim
   obtain rfl : b7 = true := by
    cases b7 with
    | true => rfl
    | false => exact (ready_in 7 rfl rfl (by simp [Region.binds]) hr).elim
   obtain rfl : b8 = true := by
    cases b8 with
    | true => rfl
    | false => exact (ready_in 8 rfl rfl (by simp [Region.binds]) hr).elim
   obtain rfl : b9 = true := by
    cases b9 with
    | true => rfl
    | false => exact (ready_in 9 rfl rfl (by simp [Region.binds]) hr).elim
   obtain rfl : b10 = true := by
    cases b10 with
    | true => rfl
    | false => exact (ready_in 10 rfl rfl (by simp [Region.binds]) hr).elim
   obtain ⟨A1, c1, e1, ho1⟩ := HT.h1 rfl
   obtain ⟨A4, c4, e3, ho3⟩ := HT.h3 rfl
   obtain ⟨A7, N7, c7, e7, ho7⟩ := HT.h7 rfl
   obtain ⟨g, e9, hgX, hg⟩ := HT.h10 rfl
   subst e1 e3 e7 e9
   have k0 := HT.h0 rfl
   subst k0
   have k2 := HT.h2 rfl
   subst k2
   have k4 := HT.h4 rfl
   subst k4
   have k5 := HT.h5 rfl
   subst k5
   have k6 := HT.h6 rfl
   subst k6
   have k8 := HT.h8 rfl
   subst k8
   have HBY := Lib.hid HT.bel
   have HO1 := Lib.hid ho1
   have HO3 := Lib.hid ho3
   have HO7 := Lib.hid ho7
   have HG := Lib.hid hg
   have HGX := Lib.hid hgX
   clear HT hr ho1 ho3 ho7 hg hgX
   obtain ⟨Y, hY⟩ : ∃ Y, Y = w' := ⟨_, rfl⟩
   subst hY
   have HBWY : Hid (Below W.heap.size W Y) := Lib.hid (HWX.out.trans (HBY.out.mono HWX.out.size))
   have HBY0 : Hid (Below w.heap.size w Y) := Lib.hid (HBX.out.trans (HBY.out.mono HBX.out.size))
   have hzY := HBY.out.size
   have HN7 : Hid (S.length = N7) := Lib.hid (by obtain ⟨_, _, e⟩ := HO7.out.shape; injection e with _ e _; exact e.symm)
   have HL48 : Hid (N7 ≤ 48) := Lib.hid (by rw [← HN7.out, ← HSS.out]; have := stK_len l fs ts fs.length; have := HN16.out; have := HML.out; unfold stL; omega)
   have H3S : Hid (∀ i : Nat, ((i : Int), (1 : Int)) ∈ S → ((i : Int), (2 : Int)) ∈ S ∧ ((i : Int), (3 : Int)) ∈ S) := Lib.hid (by
    rw [← HSS.out]
    intro i hi
    obtain ⟨i', hi', e, hne, hr⟩ := mem_stK.1 hi
    obtain rfl : i = i' := by have : (i : Int) = i' := e; omega
    have hr0 : rise l fs ts i ≠ 0 := by
     rcases hr with hr | hr
     ·exact absurd (show (1 : Int) = 2 from hr) (by decide)
     ·exact hr.1
    exact ⟨mem_stK.2 ⟨i, hi', rfl, hne, .inl rfl⟩, mem_stK.2 ⟨i, hi', rfl, hne, .inr ⟨hr0, .inr rfl⟩⟩⟩)
   have HRF := Lib.hid (own_of_F HO1.out HML.out).shape
   have HRT := Lib.hid (own_of_F HO3.out HM3.out).shape
   have HRF2 : Hid (Rd Y Y.heap.size A1 m fs) := Lib.hid (by obtain ⟨_, _, e, hr⟩ := HRF.out; injection e with e1 e2 e3; subst e1; exact hr)
   have HRT2 : Hid (Rd Y Y.heap.size A4 m ts) := Lib.hid (by obtain ⟨_, _, e, hr⟩ := HRT.out; injection e with e1 e2 e3; subst e1; exact hr)
   have HOR := Lib.hid (ordersG_any (w := Y) (c := c) (cF := c1) (cT := c4) (cS := c7) (nE := 0) (cE := 0) (AE := none) (HAX.out.below HBY.out) HRF2.out HRT2.out HO7.out.rdS (Nat.le_refl _) (Nat.le_refl _) (Nat.le_refl _) (by have := HL48.out; omega) H3S.out)
   obtain ⟨y0, y1, y2, y3⟩ := row4 HG.out
   obtain ⟨x0, _⟩ := row1f ((HBY.out.block w.heap.size (by have := KZ.out; omega)).trans KX.out)
   go_wp2_with fail
   refine HOR.out.mono ?_
   rintro e Z ⟨AE, M, cE, es, rfl, hp, hs, hownE, hbZ⟩
   have HES : Hid (es = befP l fs ts S) := Lib.hid (by
    have hp' := hp
    have hs' := hs
    rw [← HSS.out, ← HML.out] at hp'
    rw [← HSS.out]
    exact bef_sorted hp' hs')
   have HEL : Hid (es.length ≤ 288) := Lib.hid (by rw [hp.length_eq, List.length_map]; exact Nat.le_trans (ordQ_len l S fs ts m m) (mul18 (Nat.le_refl _) HN16.out))
   have HBZ := Lib.hid hbZ
   have HOE := Lib.hid hownE
   have HGZ : Hid (Z.heap[g]? = _) := Lib.hid ((hbZ.block g (heapE_lt HG.out)).trans HG.out)
   have HO1Z := Lib.hid (HO1.out.kept hbZ)
   have HO3Z := Lib.hid (HO3.out.kept hbZ)
   have HO7Z := Lib.hid (HO7.out.kept hbZ)
   clear hp hs hbZ hownE y0 y1 y2 y3 x0 HOR HRF HRT
   obtain ⟨_, _, _, y3⟩ := row4 HGZ.out
   obtain ⟨_, _, _, f3⟩ := row4f HGZ.out
   obtain ⟨V, HV⟩ : ∃ V, Hid (V = Z.setCell ⟨g, 3, none⟩ (.slice AE M cE)) := ⟨_, Lib.hid rfl⟩
   have HGV : Hid (V.heap[g]? = some (.cells #[.slice A1 m c1, .slice A4 m c4, .slice A7 N7 c7, .slice AE M cE] 35 (0, 0))) := Lib.hid (by rw [HV.out]; exact heap_setCell_same Z g 3 _ _ _ HGZ.out)
   have HO1V : Hid (OwnF 3 1 inF V X.heap.size (.slice A1 m c1) fs) := Lib.hid (by rw [HV.out]; exact HO1Z.out.miss HGZ.out (by decide))
   have HO3V : Hid (OwnF 3 1 inF V X.heap.size (.slice A4 m c4) ts) := Lib.hid (by rw [HV.out]; exact HO3Z.out.miss HGZ.out (by decide))
   have HO7V : Hid (OwnF 64 2 spF V X.heap.size (.slice A7 N7 c7) S) := Lib.hid (by rw [HV.out]; exact HO7Z.out.miss HGZ.out (by decide))
   have HOEV : Hid (OwnF 91 2 egF V X.heap.size (.slice AE M cE) es) := Lib.hid (by rw [HV.out]; exact (HOE.out.less hzY).miss HGZ.out (by decide))
   have HBXV : Hid (Below X.heap.size X V) := Lib.hid (by rw [HV.out]; exact (HBY.out.trans (HBZ.out.mono hzY)).setCell (p := ⟨g, 3, none⟩) HGX.out _)
   have HME2 : Hid (es.length = M) := Lib.hid (by obtain ⟨_, _, e⟩ := HOE.out.shape; injection e with _ e _; exact e.symm)
   have HGC := Lib.hid (graphP_any (w := V) (nF := m) (cF := c1) (nT := m) (cT := c4) (nS := N7) (cS := c7) (c := cE) (AF := A1) (AT := A4) (AS := A7) (A := AE) HME2.out (by have := HEL.out; have := HME2.out; omega) (fun h0 => by
    rcases HOEV.out.2 with ⟨hv, hz⟩ | ⟨g', cap, cur, hv, hbg, hh, hlc, hcm, hcs, htk⟩
    ·have := HME2.out; omega
    ·injection hv with hv1 hv2 hv3
     refine ⟨g', 0, hv1, heapE_lt hh, fun j u hj => ?_⟩
     rw [Nat.zero_add]
     have hjl : j < es.length * 2 := by
      have := (List.getElem?_eq_some_iff.1 hj).1
      rw [flatF_len (f := egF) (z := 2) (fun _ => rfl)] at this
      exact this
     exact cells_of hh j u (by rw [← htk] at hj; rw [List.getElem?_take_of_lt hjl] at hj; exact hj)))
   obtain ⟨y0, y1, y2, y4⟩ := row4 HGV.out
   go_wp2_with fail
   rw [← HV.out]
   go_wp2_with fail
   refine HGC.out.mono ?_
   rintro e U ⟨A9, c9, rfl, hown9, hbU⟩
   have HBU := Lib.hid hbU
   have HO9 := Lib.hid hown9
   have HIN : Hid (InN N7 es) := Lib.hid (by
    intro k hk
    have hmem : es.getD k default ∈ befP l fs ts S := by rw [← HES.out]; exact getD_mem hk
    obtain ⟨h1, h2, _⟩ := mem_befP.1 hmem
    rw [HN7.out] at h1 h2
    exact ⟨h1, h2⟩)
   have HOC := Lib.hid (order_any (w := U) (c := c9) (n := N7) (OwnF.edg HO9.out) HIN.out (by have := HL48.out; omega) (by have := HEL.out; have := HME2.out; omega) (Nat.le_refl _))
   clear y0 y1 y2 y4 y3 f3 hown9 hbU
   go_wp2_with fail
   refine HOC.out.mono ?_
   rintro e T ⟨hbT, hor⟩
   have HBXT : Hid (Below X.heap.size X T) := Lib.hid (HBXV.out.trans ((HBU.out.trans (hbT.mono HBU.out.size)).mono HBXV.out.size))
   have HBVT : Hid (Below V.heap.size V T) := Lib.hid (HBU.out.trans (hbT.mono HBU.out.size))
   have HBT0 : Hid (Below w.heap.size w T) := Lib.hid (HBX.out.trans (HBXT.out.mono HBX.out.size))
   have KRT : Hid (T.heap[w.heap.size + 1]? = _) := Lib.hid ((HBXT.out.block (w.heap.size + 1) (by have := KZ.out; omega)).trans KR.out)
   have KGT : Hid (T.heap[g]? = _) := Lib.hid ((HBVT.out.block g (heapE_lt HGV.out)).trans HGV.out)
   have HGO : Hid (befG (befP l fs ts (stL l fs ts)) = befG es ∧ (stL l fs ts).length = N7) := Lib.hid ⟨by rw [HSS.out, HES.out], by rw [HSS.out]; exact HN7.out⟩
   clear hbT HOC HGC
   obtain ⟨g0, g1, g2, g3⟩ := row4 KRT.out
   obtain ⟨f0, f1, f2, f3⟩ := row4f KRT.out
   rcases hor with ⟨hgo, AO, cO, rfl, hownO⟩ | ⟨hno, rfl⟩
   ·have HX : Hid (ME = 0) := Lib.hid (by rw [← HME.out]; unfold makeE; rw [if_pos HC0.out, if_pos (by rw [HGO.out.1, HGO.out.2]; exact hgo)])
    obtain ⟨y0, y1, y2, y3⟩ := row4 KGT.out
    have S4 := Lib.hid (set4_same (a := .slice A1 m c1) (b := .slice A4 m c4) (c := .slice A7 N7 c7) (d := .slice AE M cE) KRT.out)
    have HB4 := Lib.hid (below_set4 (g := w.heap.size + 1) HBT0.out (by omega) (.slice A1 m c1) (.slice A4 m c4) (.slice A7 N7 c7) (.slice AE M cE))
    have HR1 := Lib.hid ((HO1V.out.kept HBVT.out).miss4 (a := .slice A1 m c1) (b := .slice A4 m c4) (c := .slice A7 N7 c7) (d := .slice AE M cE) KRT.out (by decide))
    have HR3 := Lib.hid ((HO3V.out.kept HBVT.out).miss4 (a := .slice A1 m c1) (b := .slice A4 m c4) (c := .slice A7 N7 c7) (d := .slice AE M cE) KRT.out (by decide))
    have HR7 := Lib.hid ((HO7V.out.kept HBVT.out).miss4 (a := .slice A1 m c1) (b := .slice A4 m c4) (c := .slice A7 N7 c7) (d := .slice AE M cE) KRT.out (by decide))
    have HRE := Lib.hid ((HOEV.out.kept HBVT.out).miss4 (a := .slice A1 m c1) (b := .slice A4 m c4) (c := .slice A7 N7 c7) (d := .slice AE M cE) KRT.out (by decide))
    clear hgo hownO
    go_wp2_with fail
    obtain ⟨q0, q1, q2, q3⟩ := row4 S4.out
    refine bodyPost_ret (v := .tuple #[.agg #[.slice A1 m c1, .slice A4 m c4, .slice A7 N7 c7, .slice AE M cE], .int .i64 0]) ?_ rfl ⟨HB4.out, .inr ⟨HX.out, _, rfl, ⟨⟨A1, A4, A7, AE, m, c1, c4, N7, c7, M, cE, rfl, HML.out, HM3.out, HR1.out.less HBX.out.size, HR3.out.less HBX.out.size, by rw [HSS.out]; exact HR7.out.less HBX.out.size, by rw [HSS.out, ← HES.out]; exact HRE.out.less HBX.out.size⟩⟩⟩⟩
    rw [results_cell_tmp rfl]; go_simp
   ·have HX : Hid (ME = 44) := Lib.hid (by rw [← HME.out]; unfold makeE; rw [if_pos HC0.out, if_neg (by rw [HGO.out.1, HGO.out.2]; exact hno)])
    have S4 := Lib.hid (set4_same (a := .slice none 0 0) (b := .slice none 0 0) (c := .slice none 0 0) (d := .slice none 0 0) KRT.out)
    have HB4 := Lib.hid (below_set4 (g := w.heap.size + 1) HBT0.out (by omega) (.slice none 0 0) (.slice none 0 0) (.slice none 0 0) (.slice none 0 0))
    clear hno
    go_wp2_with fail
    obtain ⟨q0, q1, q2, q3⟩ := row4 S4.out
    refine bodyPost_ret (v := .tuple #[.agg #[.slice none 0 0, .slice none 0 0, .slice none 0 0, .slice none 0 0], .int .i64 44]) ?_ rfl ⟨HB4.out, .inl ⟨by rw [HX.out]; decide, by rw [HX.out]⟩⟩
    rw [results_cell_tmp rfl]; go_simp
end Go.Proofs.YtminihiecloglaaGreat
