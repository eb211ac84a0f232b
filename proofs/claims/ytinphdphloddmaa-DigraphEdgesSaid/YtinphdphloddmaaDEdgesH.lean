/-
  THE WALK of the statement DigraphEdges, with the edge more.
-/
import Derived.Test.YtinphdphloddmaaDEdgesF
import Derived.Test.YtinphdphloddmaaDEdgesG
import Derived.Test.YtinphdphloddmaaDEdgesQ
import Derived.Deep.QuietTactic
import Derived.BigQuiet
namespace Go.Proofs.Ytinphdphloddmaa
open Go.RowKit
open DiP
set_option linter.unusedVariables false
attribute [local go_sem] eqPair

def EdJ (w0 : World) (bx B n I J m c : Nat) (A : Option Addr) (g : List (Nat × Nat)) (p0 p1 p2 p3 p4 p5 p6 p7 p8 p9 p10 p11 p12 : Value) (s21 s22 s23 s24 s25 s26 s27 s28 s29 s30 s31 s32 s33 s34 s35 s36 s37 s38 s39 s40 s41 s42 s43 s44 s45 s46 s47 s48 s49 s50 s51 s52 s53 s54 s55 s56 s57 s58 s59 s60 s61 s62 s63 s64 s65 s66 s67 s68 s69 s70 s71 s72 s73 s74 s75 s76 s77 s78 s79 s80 s81 s82 s83 s84 : Value) (l : Array Bool) (a' : Act) (w' : World) : Prop :=
  ∃ (b0 b1 b2 b3 b4 b5 b6 b7 b8 b9 b10 b11 b12 b13 : Bool) (v85 v86 v87 v88 v89 v90 v91 v92 v93 v94 v95 v96 v13 vl : Value), l = #[b0, b1, b2, b3, b4, b5, b6, b7, b8, b9, b10, b11, b12, b13] ∧ a' = { tmps := List.toArray (p0 :: p1 :: p2 :: p3 :: p4 :: p5 :: p6 :: p7 :: p8 :: p9 :: p10 :: p11 :: p12 :: v13 :: undef :: undef :: undef :: undef :: undef :: undef :: undef :: s21 :: s22 :: s23 :: s24 :: s25 :: s26 :: s27 :: s28 :: s29 :: s30 :: s31 :: s32 :: s33 :: s34 :: s35 :: s36 :: s37 :: s38 :: s39 :: s40 :: s41 :: s42 :: s43 :: s44 :: s45 :: s46 :: s47 :: s48 :: s49 :: s50 :: s51 :: s52 :: s53 :: s54 :: s55 :: s56 :: s57 :: s58 :: s59 :: s60 :: s61 :: s62 :: s63 :: s64 :: s65 :: s66 :: s67 :: s68 :: s69 :: s70 :: s71 :: s72 :: s73 :: s74 :: s75 :: s76 :: s77 :: s78 :: s79 :: s80 :: s81 :: s82 :: s83 :: s84 :: v85 :: v86 :: v87 :: v88 :: v89 :: v90 :: v91 :: v92 :: v93 :: v94 :: v95 :: v96 :: undef :: undef :: undef :: undef :: undef :: undef :: undef :: undef :: undef :: undef :: undef :: undef :: undef :: undef :: undef :: undef :: undef :: undef :: undef :: undef :: undef :: undef :: undef :: undef :: undef :: undef :: undef :: undef :: undef :: undef :: undef :: undef :: undef :: undef :: undef :: undef :: undef :: undef :: undef :: undef :: undef :: undef :: undef :: undef :: undef :: undef :: undef :: undef :: undef :: undef :: undef :: undef :: undef :: undef :: undef :: undef :: undef :: undef :: undef :: undef :: undef :: undef :: undef :: undef :: undef :: undef :: []), defers := [] } ∧ EdI w0 bx B n I J m c A g b0 b1 b2 b3 b4 b5 b6 b7 b8 b9 b10 b11 b12 b13 v85 v86 v87 v88 v89 v90 v91 v92 v93 v94 v95 v96 v13 vl w'
/-- What the region leaves. -/
def EdIn (w0 : World) (B n I J : Nat) (g : List (Nat × Nat)) (v13 : Value) (w' : World) : Prop :=
  ∃ (y c' : Nat) (A' : Option Addr), v13 = .pointer (some ⟨y, 0, none⟩) ∧ B ≤ y ∧ y < w'.heap.size ∧ w'.cell? ⟨y, 0, none⟩ = some (.int .i64 (n : Int)) ∧ w'.cell? ⟨y, 1, none⟩ = some (.slice A' (edgeG g I J).length c') ∧ OwnP w' B (.slice A' (edgeG g I J).length c') (edgeG g I J) ∧ Below B w0 w'
set_option maxRecDepth 100000 in
set_option maxHeartbeats 1000000 in
theorem law_edges_yes {w : World} {m c N I J : Nat} {A : Option Addr} {g : List (Nat × Nat)} (hx : RdG w w.heap.size A m g) (hi : InN N g) (hn : N ≤ 12) (hm : m ≤ 100) (hI : I < N) (hJ : J < N) (hG : Goes (befG g) N N) (hno : bt (rchG N g I) J = true) : 
    Calls Try.prog 9 #[.agg #[.int .i64 (N : Int), .slice A m c], .int .i64 (I : Int), .int .i64 (J : Int)] w fun e w' => e = .returned (.bool true) ∧ Below w.heap.size w w' := by
  have HX := Lib.hid hx
  have HI := Lib.hid hi
  have HL := Lib.hid hx.len
  have HR := Lib.hid (graphR_cast hi (show N ≤ 64 by omega) (by rw [hx.len]; omega))
  have HSM : Hid ((decide (m ≤ 100) && decide ((N : Int) ≤ 20)) = true) := Lib.hid (by simp; omega)
  have HSMR : Hid (∀ v, rchG N g v < lim) := Lib.hid (fun v => rchK_small hi (show N ≤ 64 by omega) N v)
  have HG := Lib.hid hG
  have HNO := Lib.hid hno
  clear hx hi hG hno
  go_enter Try.func9, Try.ntmps9
  go_wp2_with fail
  refine (anchor_any _).mono ?_
  rintro e w1 ⟨rfl, hb⟩
  obtain ⟨hcn, hcs⟩ := (boxed_alloc w (N : Int) A m c 24).below hb (by simp)
  have HB1 : Hid (Below w.heap.size w w1) := Lib.hid (((Below.refl _ _).alloc (Nat.le_refl _) _).trans (hb.mono (by simp)))
  have hsz1 : w.heap.size < w1.heap.size := by have := hb.size; simp at this; omega
  clear hb
  go_wp2_with fail
  refine (small_right (HX.out.below HB1.out) HR.out (by omega)).mono ?_
  rintro e w2 ⟨rfl, hb⟩
  rw [HSM.out]
  obtain ⟨hcn2, hcs2⟩ := Boxed.below ⟨hcn, hcs⟩ hb hsz1
  have HB2 : Hid (Below w.heap.size w w2) := Lib.hid (HB1.out.trans (hb.mono (by omega)))
  have hsz2 : w.heap.size < w2.heap.size := Nat.lt_of_lt_of_le hsz1 hb.size
  clear hb hcn hcs hsz1 HB1
  go_wp2_with fail
  refine (reachM_any (HX.out.below HB2.out) HI.out (by omega) (by omega) (by omega)).mono ?_
  rintro e w3 ⟨A1, c1, rfl, hrd, hb⟩
  have HRD1 := Lib.hid hrd
  obtain ⟨hcn3, hcs3⟩ := Boxed.below ⟨hcn2, hcs2⟩ hb hsz2
  have HB3 : Hid (Below w.heap.size w w3) := Lib.hid (HB2.out.trans (hb.mono (by omega)))
  have hsz3 : w.heap.size < w3.heap.size := Nat.lt_of_lt_of_le hsz2 hb.size
  clear hb hrd hcn2 hcs2 hsz2 HB2
  go_wp2_with fail
  refine (levels_any (HX.out.below HB3.out) (by omega) HI.out (by omega) (by omega) HG.out).mono ?_
  rintro e w4 ⟨hb, lb, hlb, rfl, hown⟩
  have HOL := Lib.hid hown
  have HRD1' := Lib.hid (HRD1.out.below hb)
  obtain ⟨hcn4, hcs4⟩ := Boxed.below ⟨hcn3, hcs3⟩ hb hsz3
  have HB4 : Hid (Below w.heap.size w w4) := Lib.hid (HB3.out.trans (hb.mono (by omega)))
  have hsz4 : w.heap.size < w4.heap.size := Nat.lt_of_lt_of_le hsz3 hb.size
  have hlb4 : lb < w4.heap.size := HOL.out.home
  clear hb hown hcn3 hcs3 HB3 HRD1
  go_wp2_with fail
  refine (thin_any (HX.out.below HB4.out) (by omega) HI.out (by omega) (by omega) HG.out).mono ?_
  rintro e w5 ⟨hb, A3, c3, rfl, hown⟩
  have HOT := Lib.hid hown
  have HRD := Lib.hid (HRD1'.out.below hb)
  have HOL5 := Lib.hid (HOL.out.below hb (fun z hz => by cases hz; exact hlb4))
  obtain ⟨hcn5, hcs5⟩ := Boxed.below ⟨hcn4, hcs4⟩ hb hsz4
  have HB5 : Hid (Below w.heap.size w w5) := Lib.hid (HB4.out.trans (hb.mono (by omega)))
  have hsz5 : w.heap.size < w5.heap.size := Nat.lt_of_lt_of_le hsz4 hb.size
  have hlb5 : lb < w5.heap.size := Nat.lt_of_lt_of_le hlb4 hb.size
  clear hb hown hcn4 hcs4 HB4 HRD1' HOL hlb4
  obtain ⟨b1, o1, rfl, hb1, hc1⟩ := HRD.out (by omega)
  have hcI := hc1 I hI
  clear hc1
  go_wp2_with fail
  refine (in_any (HSMR.out I) (by omega)).mono ?_; rintro e w' ⟨rfl, rfl⟩
  rw [HNO.out]
  go_upto_region 10 with fail
  go_cut [13] (EdIn w5 w5.heap.size N I J g)
  case first =>
    refine wp_region_inv (by kernel_rfl) (I := EdJ w5 w.heap.size w5.heap.size N I J m c A g _ _ _ _ _ _ _ _ _ _ _ _ _ _ _ _ _ _ _ _ _ _ _ _ _ _ _ _ _ _ _ _ _ _ _ _ _ _ _ _ _ _ _ _ _ _ _ _ _ _ _ _ _ _ _ _ _ _ _ _ _ _ _ _ _ _ _ _ _ _ _ _ _ _ _ _ _) (⟨false, false, false, false, false, false, false, false, false, false, false, false, false, false, _, _, _, _, _, _, _, _, _, _, _, _, _, undef, rfl, rfl, ⟨below_drewN (Below.refl _ _) 1, Nat.le_refl _, nofun, nofun, nofun, nofun, nofun, nofun, nofun, nofun, nofun, nofun, nofun, nofun, nofun, nofun, nofun, nofun, nofun, nofun, nofun⟩⟩) ?step ?fin
    case step =>
      rintro l a' w' i ⟨b0, b1, b2, b3, b4, b5, b6, b7, b8, b9, b10, b11, b12, b13, v85, v86, v87, v88, v89, v90, v91, v92, v93, v94, v95, v96, v13, vl, rfl, rfl, HT⟩ hi
      obtain ⟨hi14, hib⟩ := ready_lt hi
      have hcn' := (HT.bel.cell (p := ⟨w.heap.size, 0, none⟩) hsz5).trans hcn5
      have hcs' := (HT.bel.cell (p := ⟨w.heap.size, 1, none⟩) hsz5).trans hcs5
      have HTH := Lib.hid HT
      match i, hi14, hi, hib with
      | 0, _, hi, hib =>
        clear HT
        refine wpOp_one rfl rfl (fun K hK => ?_)
        go_simp
        exact hK.out _ _ ⟨true, b1, b2, b3, b4, b5, b6, b7, b8, b9, b10, b11, b12, b13, _, _, _, _, _, _, _, _, _, _, _, _, _, vl, rfl, rfl, { HTH.out with h0 := fun _ => rfl }⟩
      | 1, _, hi, hib =>
        have d0 : b0 = true := ready_dep hi rfl 0 (by kernel_rfl)
        obtain rfl := HT.h0 d0
        clear HT
        refine wpOp_one rfl rfl (fun K hK => ?_)
        go_simp
        exact hK.out _ _ ⟨b0, true, b2, b3, b4, b5, b6, b7, b8, b9, b10, b11, b12, b13, _, _, _, _, _, _, _, _, _, _, _, _, _, vl, rfl, rfl, { HTH.out with h1 := fun _ => rfl }⟩
      | 2, _, hi, hib =>
        obtain rfl : b2 = false := hib
        have HN := Lib.hid HT.alloc2
        clear HT
        refine wpOp_one rfl rfl (fun K hK => ?_)
        go_simp
        exact hK.out _ _ ⟨b0, b1, true, b3, b4, b5, b6, b7, b8, b9, b10, b11, b12, b13, _, _, _, _, _, _, _, _, _, _, _, _, _, _, rfl, rfl, HN.out⟩
      | 3, _, hi, hib =>
        clear HT
        refine wpOp_one rfl rfl (fun K hK => ?_)
        go_simp
        exact hK.out _ _ ⟨b0, b1, b2, true, b4, b5, b6, b7, b8, b9, b10, b11, b12, b13, _, _, _, _, _, _, _, _, _, _, _, _, _, vl, rfl, rfl, { HTH.out with h3 := fun _ => rfl }⟩
      | 4, _, hi, hib =>
        have d3 : b3 = true := ready_dep hi rfl 3 (by kernel_rfl)
        obtain rfl := HT.h3 d3
        clear HT
        refine wpOp_one rfl rfl (fun K hK => ?_)
        go_simp
        exact hK.out _ _ ⟨b0, b1, b2, b3, true, b5, b6, b7, b8, b9, b10, b11, b12, b13, _, _, _, _, _, _, _, _, _, _, _, _, _, vl, rfl, rfl, { HTH.out with h4 := fun _ => rfl }⟩
      | 5, _, hi, hib =>
        obtain rfl : b5 = false := hib
        obtain rfl : b2 = true := ready_dep hi rfl 2 (by kernel_rfl)
        have d4 : b4 = true := ready_dep hi rfl 4 (by kernel_rfl)
        have h10 : b10 = false := by cases hb : b10 with | false => rfl | true => cases HT.d10 hb
        obtain rfl := h10
        obtain rfl := HT.h4 d4
        obtain rfl := HT.e2 rfl rfl
        have HO := Lib.hid (HT.own rfl)
        have HRG := Lib.hid (HX.out.below (HB5.out.trans (HT.bel.mono (by omega))))
        have hle := HT.le
        clear HT
        refine wpOp_one rfl rfl (fun K hK => ?_)
        simp only [List.getElem_toArray, List.getElem_cons_succ, List.getElem_cons_zero]
        refine wp_appG (.tmp 87) (.tmp 89) rfl w5.heap.size v87 [] rfl HO.out w.heap.size m c A g rfl HRG.out HL.out (by simp; omega) hle ?_
        intro v' w2 ho hg hb
        exact hK.out _ _ ⟨b0, b1, true, b3, b4, true, b6, b7, b8, b9, false, b11, b12, b13, _, _, _, _, _, _, _, _, _, _, _, _, _, _, rfl, rfl, HTH.out.app5 ho hg hb⟩
      | 6, _, hi, hib =>
        clear HT
        refine wpOp_one rfl rfl (fun K hK => ?_)
        go_simp
        exact hK.out _ _ ⟨b0, b1, b2, b3, b4, b5, true, b7, b8, b9, b10, b11, b12, b13, _, _, _, _, _, _, _, _, _, _, _, _, _, vl, rfl, rfl, { HTH.out with h6 := fun _ => rfl }⟩
      | 7, _, hi, hib =>
        clear HT
        refine wpOp_one rfl rfl (fun K hK => ?_)
        go_simp
        exact hK.out _ _ ⟨b0, b1, b2, b3, b4, b5, b6, true, b8, b9, b10, b11, b12, b13, _, _, _, _, _, _, _, _, _, _, _, _, _, vl, rfl, rfl, { HTH.out with h7 := fun _ => rfl }⟩
      | 8, _, hi, hib =>
        have d6 : b6 = true := ready_dep hi rfl 6 (by kernel_rfl)
        obtain rfl := HT.h6 d6
        have d7 : b7 = true := ready_dep hi rfl 7 (by kernel_rfl)
        obtain rfl := HT.h7 d7
        clear HT
        refine wpOp_one rfl rfl (fun K hK => ?_)
        go_simp
        exact hK.out _ _ ⟨b0, b1, b2, b3, b4, b5, b6, b7, true, b9, b10, b11, b12, b13, _, _, _, _, _, _, _, _, _, _, _, _, _, vl, rfl, rfl, { HTH.out with h8 := fun _ => rfl }⟩
      | 9, _, hi, hib =>
        obtain rfl : b9 = false := hib
        have d8 : b8 = true := ready_dep hi rfl 8 (by kernel_rfl)
        obtain rfl := HT.h8 d8
        have HN := Lib.hid HT.alloc9
        clear HT
        refine wpOp_one rfl rfl (fun K hK => ?_)
        go_simp
        exact hK.out _ _ ⟨b0, b1, b2, b3, b4, b5, b6, b7, b8, true, b10, b11, b12, b13, _, _, _, _, _, _, _, _, _, _, _, _, _, vl, rfl, rfl, HN.out⟩
      | 10, _, hi, hib =>
        obtain rfl : b10 = false := hib
        obtain rfl : b5 = true := ready_dep hi rfl 5 (by kernel_rfl)
        have d9 : b9 = true := ready_dep hi rfl 9 (by kernel_rfl)
        obtain rfl := HT.e5 rfl rfl
        obtain ⟨x, rfl, hX, hne⟩ := HT.hx d9 rfl
        have HO := Lib.hid (HT.own (HT.d5 rfl))
        have HRG : Hid (RdG w' w'.heap.size (some ⟨x, 0, none⟩) 1 [(I, J)]) := Lib.hid ⟨rfl, fun _ => ⟨x, 0, rfl, hX.2.1, fun k hk => by
          obtain rfl : k = 0 := by omega
          exact ⟨hX.2.2.1, hX.2.2.2⟩⟩⟩
        have hle := HT.le
        clear HT
        refine wpOp_one rfl rfl (fun K hK => ?_)
        simp only [List.getElem_toArray, List.getElem_cons_succ, List.getElem_cons_zero]
        refine wp_appG (.tmp 90) (.tmp 94) rfl w5.heap.size v90 g rfl HO.out w'.heap.size 1 1 (some ⟨x, 0, none⟩) [(I, J)] rfl HRG.out rfl (by rw [HL.out]; omega) hle ?_
        intro v' w2 ho hg hb
        exact hK.out _ _ ⟨b0, b1, b2, b3, b4, true, b6, b7, b8, b9, true, b11, b12, b13, _, _, _, _, _, _, _, _, _, _, _, _, _, _, rfl, rfl, HTH.out.app10 ho hg hb⟩
      | 11, _, hi, hib =>
        have d1 : b1 = true := ready_dep hi rfl 1 (by kernel_rfl)
        obtain rfl : b10 = true := ready_dep hi rfl 10 (by kernel_rfl)
        obtain rfl := HT.h1 d1
        obtain ⟨A9, c9, hv9⟩ := OwnP.shape (l := edgeG g I J) (HT.own (HT.d5 (HT.d10 rfl)))
        obtain rfl := hv9
        obtain rfl := HT.e10 rfl
        clear HT
        refine wpOp_one rfl rfl (fun K hK => ?_)
        go_simp
        exact hK.out _ _ ⟨b0, b1, b2, b3, b4, b5, b6, b7, b8, b9, true, true, b12, b13, _, _, _, _, _, _, _, _, _, _, _, _, _, _, rfl, rfl, { HTH.out with h11 := fun _ => rfl, d11 := fun _ => rfl }⟩
      | 12, _, hi, hib =>
        obtain rfl : b12 = false := hib
        have HN := Lib.hid HT.alloc12
        clear HT
        refine wpOp_one rfl rfl (fun K hK => ?_)
        go_simp
        exact hK.out _ _ ⟨b0, b1, b2, b3, b4, b5, b6, b7, b8, b9, b10, b11, true, b13, _, _, _, _, _, _, _, _, _, _, _, _, _, vl, rfl, rfl, HN.out⟩
      | 13, _, hi, hib =>
        obtain rfl : b13 = false := hib
        obtain rfl : b0 = true := ready_dep hi rfl 0 (by kernel_rfl)
        obtain rfl : b1 = true := ready_dep hi rfl 1 (by kernel_rfl)
        obtain rfl : b2 = true := ready_dep hi rfl 2 (by kernel_rfl)
        obtain rfl : b3 = true := ready_dep hi rfl 3 (by kernel_rfl)
        obtain rfl : b4 = true := ready_dep hi rfl 4 (by kernel_rfl)
        obtain rfl : b5 = true := ready_dep hi rfl 5 (by kernel_rfl)
        obtain rfl : b6 = true := ready_dep hi rfl 6 (by kernel_rfl)
        obtain rfl : b7 = true := ready_dep hi rfl 7 (by kernel_rfl)
        obtain rfl : b8 = true := ready_dep hi rfl 8 (by kernel_rfl)
        obtain rfl : b9 = true := ready_dep hi rfl 9 (by kernel_rfl)
        obtain rfl : b10 = true := ready_dep hi rfl 10 (by kernel_rfl)
        obtain rfl : b11 = true := ready_dep hi rfl 11 (by kernel_rfl)
        obtain rfl : b12 = true := ready_dep hi rfl 12 (by kernel_rfl)
        obtain rfl := HT.h11 rfl
        obtain ⟨y, rfl, hY, hne⟩ := HT.hy rfl
        have HY := Lib.hid hY
        have HN := Lib.hid HT.store13
        clear HT hY hne
        refine wpOp_one rfl rfl (fun K hK => ?_)
        simp only [List.getElem_toArray, List.getElem_cons_succ, List.getElem_cons_zero]
        refine wp_store_mid 24 (.tmp 13) (.tmp 96) rfl y 0 #[.int .i64 (N : Int), vl] rfl rfl HY.out.2.2 (by kernel_rfl) ?_ ?_
        · obtain ⟨A9, c9, rfl⟩ := OwnP.shape (l := edgeG g I J) (HTH.out.own rfl)
          simp [Value.oneCell']
        exact hK.out _ _ ⟨true, true, true, true, true, true, true, true, true, true, true, true, true, true, _, _, _, _, _, _, _, _, _, _, _, _, _, _, rfl, rfl, HN.out⟩
    case fin =>
      rintro l a' w' ⟨b0, b1, b2, b3, b4, b5, b6, b7, b8, b9, b10, b11, b12, b13, v85, v86, v87, v88, v89, v90, v91, v92, v93, v94, v95, v96, v13, vl, rfl, rfl, HT⟩ hr
      obtain rfl : b0 = true := by
        cases b0 with
        | true => rfl
        | false => exact (ready_in 0 rfl rfl (by simp [Region.binds]) hr).elim
      obtain rfl : b1 = true := by
        cases b1 with
        | true => rfl
        | false => exact (ready_in 1 rfl rfl (by simp [Region.binds]) hr).elim
      obtain rfl : b2 = true := by
        cases b2 with
        | true => rfl
        | false => exact (ready_in 2 rfl rfl (by simp [Region.binds]) hr).elim
      obtain rfl : b3 = true := by
        cases b3 with
        | true => rfl
        | false => exact (ready_in 3 rfl rfl (by simp [Region.binds]) hr).elim
      obtain rfl : b4 = true := by
        cases b4 with
        | true => rfl
        | false => exact (ready_in 4 rfl rfl (by simp [Region.binds]) hr).elim
      obtain rfl : b5 = true := by
        cases b5 with
        | true => rfl
        | false => exact (ready_in 5 rfl rfl (by simp [Region.binds]) hr).elim
      obtain rfl : b6 = true := by
        cases b6 with
        | true => rfl
        | false => exact (ready_in 6 rfl rfl (by simp [Region.binds]) hr).elim
      obtain rfl : b7 = true := by
        cases b7 with
        | true => rfl
        | false => exact (ready_in 7 rfl rfl (by simp [Region.binds]) hr).elim
      obtain rfl : b8 = true := by
        cases b8 with
        | true => rfl
        | false => exact (ready_in 8 rfl rfl (by simp [Region.binds]) hr).elim
      obtain rfl : b9 = true := by
        cases b9 with
        | true => rfl
        | false => exact (ready_in 9 rfl rfl (by simp [Region.binds]) hr).elim
      obtain rfl : b10 = true := by
        cases b10 with
        | true => rfl
        | false => exact (ready_in 10 rfl rfl (by simp [Region.binds]) hr).elim
      obtain rfl : b11 = true := by
        cases b11 with
        | true => rfl
        | false => exact (ready_in 11 rfl rfl (by simp [Region.binds]) hr).elim
      obtain rfl : b12 = true := by
        cases b12 with
        | true => rfl
        | false => exact (ready_in 12 rfl rfl (by simp [Region.binds]) hr).elim
      obtain rfl : b13 = true := by
        cases b13 with
        | true => rfl
        | false => exact (ready_in 13 rfl rfl (by simp [Region.binds]) hr).elim
      obtain ⟨y, rfl, hB, hlt, c0, c1⟩ := HT.hz rfl
      have ho := HT.own rfl
      obtain ⟨A9, c9, rfl⟩ := OwnP.shape (l := edgeG g I J) ho
      have HC : EdIn w5 w5.heap.size N I J g (.pointer (some ⟨y, 0, none⟩)) w' := ⟨y, c9, A9, rfl, hB, hlt, c0, c1, ho, HT.bel⟩
      show _
      go_wp2_with fail
      go_meet
      exact HC
  case rest =>
    obtain ⟨y, c', A', rfl, hyB, hylt, hc0, hc1, how, hb6⟩ := hcut
    have HRE : Hid (RdG wc wc.heap.size A' (edgeG g I J).length (edgeG g I J)) := Lib.hid (how.rd rfl)
    have hle : (edgeG g I J).length ≤ 4096 := by unfold edgeG; rw [List.length_append, HL.out]; simp; omega
    have HIE := Lib.hid (inN_edge HI.out hI hJ)
    have HWY : Hid (DiP.Way g I J) := Lib.hid ((rch_way HI.out hI).1 HNO.out)
    have HGE := Lib.hid (goes_edge HI.out (show N ≤ 64 by omega) hI hJ HWY.out HG.out)
    have HRD6 := Lib.hid (HRD.out.below hb6)
    have HOL6 := Lib.hid (HOL5.out.below hb6 (fun z hz => by cases hz; exact hlb5))
    have HTR6 : Hid (RdG wc w5.heap.size A3 (thnG N g).length (thnG N g)) := Lib.hid ((HOT.out.rd rfl).below hb6)
    have HB6 : Hid (Below w.heap.size w wc) := Lib.hid (HB5.out.trans (hb6.mono (by omega)))
    have hsz6 := hb6.size
    have htl : (thnG N g).length ≤ 9223372036854775807 := by
      rcases HOT.out.2 with ⟨_, h0⟩ | ⟨g9, cap, cur, _, _, _, hnc, hcm, _⟩
      · rw [h0]; omega
      · simp only [maxLen] at hcm; omega
    clear hb6 how HRD HOL5 HOT hcI
    go_wp2_with fail
    refine (reachM_any HRE.out HIE.out (by omega) hle (by omega)).mono ?_
    rintro e w7 ⟨A7, c7, rfl, hrd, hb⟩
    have hy07 := (hb.cell (p := ⟨y, 0, none⟩) hylt).trans hc0
    have hy17 := (hb.cell (p := ⟨y, 1, none⟩) hylt).trans hc1
    have HNR := Lib.hid hrd
    have HRE7 : Hid (RdG w7 wc.heap.size A' (edgeG g I J).length (edgeG g I J)) := Lib.hid (HRE.out.below hb)
    have HRD7 := Lib.hid (HRD6.out.below hb)
    have HOL7 := Lib.hid (HOL6.out.below hb (fun z hz => by cases hz; show lb < _; omega))
    have HTR7 : Hid (RdG w7 w5.heap.size A3 (thnG N g).length (thnG N g)) := Lib.hid (HTR6.out.below (hb.mono (by omega)))
    have HB7 : Hid (Below w.heap.size w w7) := Lib.hid (HB6.out.trans (hb.mono (by omega)))
    have hsz7 := hb.size
    clear hb hrd hc0 hc1 HRE HRD6 HOL6 HTR6 HB6
    go_wp2_with fail
    refine (levels_any HRE7.out (by omega) HIE.out (by omega) hle HGE.out).mono ?_
    rintro e w8 ⟨hb, lb2, hlb2, rfl, hown⟩
    have hel : levL N (levG N (edgeG g I J)) = levL N (levG N g) := by
      unfold levL
      exact List.map_congr_left fun v hv => by rw [lev_edge HI.out (by omega) hI hJ HWY.out HG.out v (List.mem_range.1 hv)]
    rw [hel] at hown
    have HNL := Lib.hid hown
    have hlb2' : lb2 < w8.heap.size := HNL.out.home
    have hy08 := (hb.cell (p := ⟨y, 0, none⟩) (by show y < _; omega)).trans hy07
    have hy18 := (hb.cell (p := ⟨y, 1, none⟩) (by show y < _; omega)).trans hy17
    have HNR8 := Lib.hid (HNR.out.below hb)
    have HRE8 : Hid (RdG w8 wc.heap.size A' (edgeG g I J).length (edgeG g I J)) := Lib.hid (HRE7.out.below (hb.mono (by omega)))
    have HRD8 := Lib.hid (HRD7.out.below hb)
    have HOL8 := Lib.hid (HOL7.out.below hb (fun z hz => by cases hz; show lb < _; omega))
    have HTR8 : Hid (RdG w8 w5.heap.size A3 (thnG N g).length (thnG N g)) := Lib.hid (HTR7.out.below (hb.mono (by omega)))
    have HB8 : Hid (Below w.heap.size w w8) := Lib.hid (HB7.out.trans (hb.mono (by omega)))
    have hsz8 := hb.size
    clear hb hown hel hy07 hy17 HNR HRE7 HRD7 HOL7 HTR7 HB7
    go_wp2_with fail
    refine (thin_any HRE8.out (by omega) HIE.out (by omega) hle HGE.out).mono ?_
    rintro e w9 ⟨hb, A9, c9, he, hown⟩
    rw [thn_edge HI.out (by omega) hI hJ HWY.out] at he hown
    obtain rfl := he
    have HNT : Hid (RdG w9 w9.heap.size A9 (thnG N g).length (thnG N g)) := Lib.hid (hown.rd rfl)
    have HNR9 := Lib.hid (HNR8.out.below hb)
    have HRD9 := Lib.hid (HRD8.out.below hb)
    have HOL9 := Lib.hid (HOL8.out.below hb (fun z hz => by cases hz; show lb < _; omega))
    have HNL9 := Lib.hid (HNL.out.below hb (fun z hz => by cases hz; exact hlb2'))
    have HTR9 : Hid (RdG w9 w5.heap.size A3 (thnG N g).length (thnG N g)) := Lib.hid (HTR8.out.below (hb.mono (by omega)))
    have HB9 : Hid (Below w.heap.size w w9) := Lib.hid (HB8.out.trans (hb.mono (by omega)))
    have hsz9 := hb.size
    clear hb hown hy08 hy18 HNR8 HRE8 HRD8 HOL8 HNL HTR8 HB8
    obtain ⟨Aa, ca, hva, HLA⟩ := HOL9.out.shape
    obtain ⟨Ab, cb, hvb, HLB⟩ := HNL9.out.shape
    injection hva with e1 e2 e3
    injection hvb with f1 f2 f3
    subst e1 f1
    have HSA := Lib.hid HLA
    have HSB := Lib.hid HLB
    clear HLA HLB e2 e3 f2 f3
    go_wp2_with fail
    refine (same_yes HSA.out HSB.out (by omega)).mono ?_
    rintro e w' ⟨rfl, rfl⟩
    go_wp2_with fail
    go_loop [137] (fun i => ∃ k : Nat, k ≤ N ∧ i = .int .i64 (k : Int)) (fun i => N - (intOf i).toNat)
    case atStart => exact ⟨0, by omega, rfl⟩
    case round =>
      obtain ⟨k, hk, rfl⟩ := hrel
      by_cases hlk : k < N
      · obtain ⟨x1, z1, hxe, _, hcc⟩ := HRD9.out (by omega)
        injection hxe with hxe
        injection hxe with x1e z1e
        subst x1e z1e
        have hck := hcc k hlk
        obtain ⟨x2, z2, rfl, _, hcc2⟩ := HNR9.out (by omega)
        have hck2 := hcc2 k hlk
        rw [rch_edge HI.out (by omega) hI hJ HWY.out hlk] at hck2
        clear hcc hcc2
        go_wp2
        go_round
        case rel => exact ⟨k + 1, by omega, by go_num⟩
        case measure => simp [intOf]; omega
      · obtain rfl : k = N := by omega
        go_wp2_with fail
        have hw59 : w5.heap.size ≤ w9.heap.size := by omega
        go_loopw [151] (fun i wr => ∃ q : Nat, q ≤ (thnG k g).length ∧ i = .int .i64 (q : Int) ∧ Hid (Below w9.heap.size w9 wr)) (fun i _ => (thnG k g).length - (intOf i).toNat)
        case atStart => exact ⟨0, by omega, rfl, Lib.hid (Below.refl _ _)⟩
        case round =>
          obtain ⟨q, hq, rfl, HW⟩ := hrel
          have hszr := HW.out.size
          by_cases hlq : q < (thnG k g).length
          · obtain ⟨x3, z3, rfl, hl3, ha3, hb3⟩ := HTR9.out.at_ hlq
            obtain ⟨x4, z4, rfl, hl4, ha4, hb4⟩ := HNT.out.at_ hlq
            have ha3' := (HW.out.cell (p := ⟨x3, z3 + q * 2, none⟩) (by show x3 < _; omega)).trans ha3
            have hb3' := (HW.out.cell (p := ⟨x3, z3 + q * 2 + 1, none⟩) (by show x3 < _; omega)).trans hb3
            have ha4' := (HW.out.cell (p := ⟨x4, z4 + q * 2, none⟩) hl4).trans ha4
            have hb4' := (HW.out.cell (p := ⟨x4, z4 + q * 2 + 1, none⟩) hl4).trans hb4
            have hx3 : x3 < wr.heap.size := by omega
            have hx4 : x4 < wr.heap.size := by omega
            clear ha3 hb3 ha4 hb4
            go_upto_region 25 with fail
            go_quiet (fail)
            rename_i nq
            go_wp2
            go_roundw
            case rel =>
              refine ⟨q + 1, by omega, by go_num, Lib.hid ?_⟩
              first
                | exact below_drewN (HW.out.alloc hszr _) _
                | exact HW.out.alloc hszr _
                | (trace_state; done)
                | exact Below.setCell (Below.setCell (HW.out.alloc hszr _) (by simp; omega) _) (by simp; omega) _
            case measure => simp [intOf]; omega
          · obtain rfl : q = (thnG k g).length := by omega
            go_wp2
            go_ret
            exact ⟨rfl, HB9.out.trans (HW.out.mono (by omega))⟩
end Go.Proofs.Ytinphdphloddmaa
