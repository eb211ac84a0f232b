/-
  CONTRACTS: the program's Text and the document's (printed by gentext.py).
-/
import Derived.Test.YtpnbbbhbbnemlaaGreatDoorSDigR
import Derived.Test.YtpnbbbhbbnemlaaGreatDoorSGd
import Derived.Test.YtpnbbbhbbnemlaaGreatDoorSGb
import Derived.Test.YtpnbbbhbbnemlaaGreatDoorSAnch
import Derived.Test.YtpnbbbhbbnemlaaGreatDoorInv
import Derived.Deep.DeepCutAuto
namespace Go.Proofs.YtpnbbbhbbnemlaaGreatDoor
open Go.RowKit
open SemP
set_option linter.unusedVariables false
set_option linter.unusedSimpArgs false
set_option maxRecDepth 100000

def numS (a b c : Int) : ByteArray := digS a.toNat ++ ⟨#[46]⟩ ++ digS b.toNat ++ ⟨#[46]⟩ ++ digS c.toNat
theorem text_eq (a b c : Int) (s : ByteArray) (h : (bs s).isEmpty = false) : numS a b c ++ (⟨#[45]⟩ ++ s) = mk (Ver.text ⟨a, b, c, bs s⟩) := by
  rw [← mk_bs (numS a b c ++ (⟨#[45]⟩ ++ s))]
  unfold numS Ver.text
  simp only [bs_app, h]
  congr 1
  show Lib.decDigits a.toNat ++ [46] ++ Lib.decDigits b.toNat ++ [46] ++ Lib.decDigits c.toNat ++ ([45] ++ bs s) = _
  simp
theorem text_eq0 (a b c : Int) (s : ByteArray) (h : (bs s).isEmpty = true) : numS a b c = mk (Ver.text ⟨a, b, c, bs s⟩) := by
  rw [← mk_bs (numS a b c)]
  unfold numS Ver.text
  simp only [bs_app, h]
  congr 1
  show Lib.decDigits a.toNat ++ [46] ++ Lib.decDigits b.toNat ++ [46] ++ Lib.decDigits c.toNat = _
  simp
theorem right_parts {a b c : Int} {p : Str} (h : Ver.right ⟨a, b, c, p⟩ = true) : (0 ≤ a ∧ a ≤ 999999) ∧ (0 ≤ b ∧ b ≤ 999999) ∧ (0 ≤ c ∧ c ≤ 999999) := by
  unfold Ver.right rightN at h
  simp at h
  omega
structure TxSt (w0 : World) (g : Nat) (a b c : Int) (b0 b1 b2 b3 b4 b5 b6 b7 b8 b9 b10 b11 b12 b13 : Bool) (v4 v8 v9 v10 v11 v12 v13 v14 v15 v16 v17 v18 v19 v20 : Value) (w' : World) : Prop where
  bel : Below w0.heap.size w0 w'
  h0 : b0 = true → v8 = .pointer (some ⟨g, 0, none⟩)
  h1 : b1 = true → v9 = .int .i64 a
  h2 : b2 = true → v10 = .string (digS (a.toNat))
  h3 : b3 = true → v11 = .string (digS (a.toNat) ++ ⟨#[46]⟩)
  h4 : b4 = true → v12 = .pointer (some ⟨g, 1, none⟩)
  h5 : b5 = true → v13 = .int .i64 b
  h6 : b6 = true → v14 = .string (digS (b.toNat))
  h7 : b7 = true → v15 = .string (digS (a.toNat) ++ ⟨#[46]⟩ ++ digS (b.toNat))
  h8 : b8 = true → v16 = .string (digS (a.toNat) ++ ⟨#[46]⟩ ++ digS (b.toNat) ++ ⟨#[46]⟩)
  h9 : b9 = true → v17 = .pointer (some ⟨g, 2, none⟩)
  h10 : b10 = true → v18 = .int .i64 c
  h11 : b11 = true → v19 = .string (digS (c.toNat))
  h12 : b12 = true → v20 = .string (digS (a.toNat) ++ ⟨#[46]⟩ ++ digS (b.toNat) ++ ⟨#[46]⟩ ++ digS (c.toNat))
  h13 : b13 = true → v4 = .string (digS (a.toNat) ++ ⟨#[46]⟩ ++ digS (b.toNat) ++ ⟨#[46]⟩ ++ digS (c.toNat))
def TxJ (w0 : World) (g : Nat) (a b c : Int) (p0 p1 p2 p3 p5 p6 p7 p21 p22 p23 p24 p25 p26 p27 p28 p29 : Value) (l : Array Bool) (a' : Act) (w' : World) : Prop :=
  ∃ (b0 b1 b2 b3 b4 b5 b6 b7 b8 b9 b10 b11 b12 b13 : Bool) (v4 v8 v9 v10 v11 v12 v13 v14 v15 v16 v17 v18 v19 v20 : Value), l = #[b0, b1, b2, b3, b4, b5, b6, b7, b8, b9, b10, b11, b12, b13] ∧ a' = { tmps := List.toArray (p0 :: p1 :: p2 :: p3 :: v4 :: p5 :: p6 :: p7 :: v8 :: v9 :: v10 :: v11 :: v12 :: v13 :: v14 :: v15 :: v16 :: v17 :: v18 :: v19 :: v20 :: p21 :: p22 :: p23 :: p24 :: p25 :: p26 :: p27 :: p28 :: p29 :: []), defers := [] } ∧ TxSt w0 g a b c b0 b1 b2 b3 b4 b5 b6 b7 b8 b9 b10 b11 b12 b13 v4 v8 v9 v10 v11 v12 v13 v14 v15 v16 v17 v18 v19 v20 w'
/-- What Text answers. -/
def textR (v : Ver) : Value := if v.right = true then .tuple #[.string (mk v.text), .int .i64 0] else .tuple #[.string ⟨#[]⟩, .int .i64 12]
set_option maxHeartbeats 8000000 in
theorem Text_any (a b c : Int) (s : ByteArray) (w : World) (hs : s.size ≤ 1000000) (hm : LenAt w) (h1 : 1 < w.heap.size) (hp : PowAt w) :
    Calls Tryz.prog 46 #[verV a b c s] w fun e w' => e = .returned (textR ⟨a, b, c, bs s⟩) ∧ Below w.heap.size w w' := by
  obtain ⟨W0, hW0⟩ : ∃ W0, w.alloc (verC a b c s) = W0 := ⟨_, rfl⟩
  have hb0 : Below w.heap.size w W0 := by rw [← hW0]; exact (Below.refl _ w).alloc (Nat.le_refl _) _
  have HX0 : Hid (W0.heap[w.heap.size]? = some (verC a b c s)) := Lib.hid (by rw [← hW0]; exact World.alloc_heap_new _ _)
  have HG0 : Hid (w.heap.size < W0.heap.size) := Lib.hid (by rw [← hW0]; simp)
  have HM0 := Lib.hid (hm.below h1 hb0)
  have HP0 : Hid (PowAt W0) := Lib.hid (hp.below hb0)
  have HB0 := Lib.hid hb0
  have HW0 := Lib.hid hW0
  have HS := Lib.hid hs
  have HC := Lib.hid (Right_any a b c s W0 (by omega) HM0.out.1 HM0.out.2)
  obtain ⟨y0, y1, y2, y3⟩ := cells4 HX0.out
  rw [← hW0] at y0 y1 y2 y3
  simp only [verC] at y0 y1 y2 y3
  clear hW0 hb0 hm hp hs
  go_enter Tryz.func46, Tryz.ntmps46
  go_wp2_with fail
  try rw [show w.alloc (.cells #[.int .i64 a, .int .i64 b, .int .i64 c, .string s] 69) = W0 from HW0.out]
  refine HC.out.mono ?_
  rintro e W ⟨rfl, hb⟩
  have HX : Hid (W.heap[w.heap.size]? = some (verC a b c s)) := Lib.hid ((hb.block _ HG0.out).trans HX0.out)
  have HG : Hid (w.heap.size < W.heap.size) := Lib.hid (Nat.lt_of_lt_of_le HG0.out hb.size)
  have HPW : Hid (PowAt W) := Lib.hid (HP0.out.below hb)
  have HBW : Hid (Below w.heap.size w W) := Lib.hid (HB0.out.trans (hb.mono HB0.out.size))
  clear hb HC y0 y1 y2 y3
  cases hr : Ver.right ⟨a, b, c, bs s⟩ with
  | false =>
    have HV : Hid (textR ⟨a, b, c, bs s⟩ = .tuple #[.string ⟨#[]⟩, .int .i64 12]) := Lib.hid (by unfold textR; rw [hr]; rfl)
    clear hr
    go_wp2
    refine bodyPost_ret (results_tmp2 rfl _ _ _) rfl ⟨by rw [HV.out]; rfl, HBW.out⟩
  | true =>
    have HV : Hid (textR ⟨a, b, c, bs s⟩ = .tuple #[.string (mk (Ver.text ⟨a, b, c, bs s⟩)), .int .i64 0]) := Lib.hid (by unfold textR; rw [hr]; rfl)
    have HNA := Lib.hid (right_parts hr).1
    have HNB := Lib.hid (right_parts hr).2.1
    have HNC := Lib.hid (right_parts hr).2.2
    have HZ : Hid ((digS a.toNat).size ≤ 6 ∧ (digS b.toNat).size ≤ 6 ∧ (digS c.toNat).size ≤ 6) := Lib.hid ⟨digS_size (by have := HNA.out; omega), digS_size (by have := HNB.out; omega), digS_size (by have := HNC.out; omega)⟩
    clear hr
    have hcA := fun (w : World) => run_string_add_sum (P := Tryz.prog) (w := w) (digS a.toNat) ⟨#[46]⟩ (by have := HZ.out; have : (⟨#[46]⟩ : ByteArray).size = 1 := rfl; omega)
    have hcB := fun (w : World) => run_string_add_sum (P := Tryz.prog) (w := w) (digS a.toNat ++ ⟨#[46]⟩) (digS b.toNat) (by have := HZ.out; rw [ByteArray.size_append, show (⟨#[46]⟩ : ByteArray).size = 1 from rfl]; omega)
    have hcC := fun (w : World) => run_string_add_sum (P := Tryz.prog) (w := w) (digS a.toNat ++ ⟨#[46]⟩ ++ digS b.toNat) ⟨#[46]⟩ (by have := HZ.out; rw [ByteArray.size_append, ByteArray.size_append, show (⟨#[46]⟩ : ByteArray).size = 1 from rfl]; omega)
    have hcD := fun (w : World) => run_string_add_sum (P := Tryz.prog) (w := w) (digS a.toNat ++ ⟨#[46]⟩ ++ digS b.toNat ++ ⟨#[46]⟩) (digS c.toNat) (by have := HZ.out; rw [ByteArray.size_append, ByteArray.size_append, ByteArray.size_append, show (⟨#[46]⟩ : ByteArray).size = 1 from rfl]; omega)
    have hcE := fun (w : World) => run_string_add_sum (P := Tryz.prog) (w := w) ⟨#[45]⟩ s (by have := HS.out; have : (⟨#[45]⟩ : ByteArray).size = 1 := rfl; omega)
    have hcF := fun (w : World) => run_string_add_sum (P := Tryz.prog) (w := w) (digS a.toNat ++ ⟨#[46]⟩ ++ digS b.toNat ++ ⟨#[46]⟩ ++ digS c.toNat) (⟨#[45]⟩ ++ s) (by have := HZ.out; have := HS.out; rw [ByteArray.size_append, ByteArray.size_append, ByteArray.size_append, ByteArray.size_append, ByteArray.size_append, show (⟨#[46]⟩ : ByteArray).size = 1 from rfl, show (⟨#[45]⟩ : ByteArray).size = 1 from rfl]; omega)
    go_wp2_with fail
    refine wp_region_inv (by kernel_rfl) (I := TxJ W w.heap.size a b c _ _ _ _ _ _ _ _ _ _ _ _ _ _ _ _) ⟨false, false, false, false, false, false, false, false, false, false, false, false, false, false, _, _, _, _, _, _, _, _, _, _, _, _, _, _, rfl, rfl, ⟨(Below.refl _ W).drew, nofun, nofun, nofun, nofun, nofun, nofun, nofun, nofun, nofun, nofun, nofun, nofun, nofun, nofun⟩⟩ ?step ?fin
    case step =>
      rintro l a' w' i ⟨b0, b1, b2, b3, b4, b5, b6, b7, b8, b9, b10, b11, b12, b13, v4, v8, v9, v10, v11, v12, v13, v14, v15, v16, v17, v18, v19, v20, rfl, rfl, HT⟩ hi
      obtain ⟨hi_, hib⟩ := ready_lt hi
      have HTH := Lib.hid HT
      match i, hi_, hi, hib with
      | 0, _, hi, hib =>
        clear HT
        refine wpOp_one rfl rfl (fun K hK => ?_)
        go_simp
        exact hK.out _ _ ⟨true, b1, b2, b3, b4, b5, b6, b7, b8, b9, b10, b11, b12, b13, _, _, _, _, _, _, _, _, _, _, _, _, _, _, rfl, rfl, { HTH.out with h0 := fun _ => rfl }⟩
      | 1, _, hi, hib =>
        have d0 : b0 = true := ready_dep hi rfl 0 (by kernel_rfl)
        obtain rfl := HT.h0 d0
        obtain ⟨x0, x1, x2, x3⟩ := cells4 ((HT.bel.block _ HG.out).trans HX.out)
        clear HT
        refine wpOp_one rfl rfl (fun K hK => ?_)
        go_simp
        exact hK.out _ _ ⟨b0, true, b2, b3, b4, b5, b6, b7, b8, b9, b10, b11, b12, b13, _, _, _, _, _, _, _, _, _, _, _, _, _, _, rfl, rfl, { HTH.out with h1 := fun _ => rfl }⟩
      | 2, _, hi, hib =>
        have d1 : b1 = true := ready_dep hi rfl 1 (by kernel_rfl)
        obtain rfl := HT.h1 d1
        have HC := Lib.hid (itoa_any a w' HNA.out (Go.Joins.tab_stays (g := 2) (by kernel_rfl) HPW.out HT.bel (Nat.le_refl _)))
        clear HT
        refine wpOp_one rfl rfl (fun K hK => ?_)
        go_simp
        refine HC.out.mono ?_
        rintro e w2 ⟨rfl, hb⟩
        exact hK.out _ _ ⟨b0, b1, true, b3, b4, b5, b6, b7, b8, b9, b10, b11, b12, b13, _, _, _, _, _, _, _, _, _, _, _, _, _, _, rfl, rfl, { HTH.out with bel := HTH.out.bel.trans (hb.mono HTH.out.bel.size), h2 := fun _ => rfl }⟩
      | 3, _, hi, hib =>
        have d2 : b2 = true := ready_dep hi rfl 2 (by kernel_rfl)
        obtain rfl := HT.h2 d2
        clear HT
        refine wpOp_one rfl rfl (fun K hK => ?_)
        go_simp
        exact hK.out _ _ ⟨b0, b1, b2, true, b4, b5, b6, b7, b8, b9, b10, b11, b12, b13, _, _, _, _, _, _, _, _, _, _, _, _, _, _, rfl, rfl, { HTH.out with h3 := fun _ => rfl }⟩
      | 4, _, hi, hib =>
        clear HT
        refine wpOp_one rfl rfl (fun K hK => ?_)
        go_simp
        exact hK.out _ _ ⟨b0, b1, b2, b3, true, b5, b6, b7, b8, b9, b10, b11, b12, b13, _, _, _, _, _, _, _, _, _, _, _, _, _, _, rfl, rfl, { HTH.out with h4 := fun _ => rfl }⟩
      | 5, _, hi, hib =>
        have d4 : b4 = true := ready_dep hi rfl 4 (by kernel_rfl)
        obtain rfl := HT.h4 d4
        obtain ⟨x0, x1, x2, x3⟩ := cells4 ((HT.bel.block _ HG.out).trans HX.out)
        clear HT
        refine wpOp_one rfl rfl (fun K hK => ?_)
        go_simp
        exact hK.out _ _ ⟨b0, b1, b2, b3, b4, true, b6, b7, b8, b9, b10, b11, b12, b13, _, _, _, _, _, _, _, _, _, _, _, _, _, _, rfl, rfl, { HTH.out with h5 := fun _ => rfl }⟩
      | 6, _, hi, hib =>
        have d5 : b5 = true := ready_dep hi rfl 5 (by kernel_rfl)
        obtain rfl := HT.h5 d5
        have HC := Lib.hid (itoa_any b w' HNB.out (Go.Joins.tab_stays (g := 2) (by kernel_rfl) HPW.out HT.bel (Nat.le_refl _)))
        clear HT
        refine wpOp_one rfl rfl (fun K hK => ?_)
        go_simp
        refine HC.out.mono ?_
        rintro e w2 ⟨rfl, hb⟩
        exact hK.out _ _ ⟨b0, b1, b2, b3, b4, b5, true, b7, b8, b9, b10, b11, b12, b13, _, _, _, _, _, _, _, _, _, _, _, _, _, _, rfl, rfl, { HTH.out with bel := HTH.out.bel.trans (hb.mono HTH.out.bel.size), h6 := fun _ => rfl }⟩
      | 7, _, hi, hib =>
        have d3 : b3 = true := ready_dep hi rfl 3 (by kernel_rfl)
        obtain rfl := HT.h3 d3
        have d6 : b6 = true := ready_dep hi rfl 6 (by kernel_rfl)
        obtain rfl := HT.h6 d6
        clear HT
        refine wpOp_one rfl rfl (fun K hK => ?_)
        go_simp
        exact hK.out _ _ ⟨b0, b1, b2, b3, b4, b5, b6, true, b8, b9, b10, b11, b12, b13, _, _, _, _, _, _, _, _, _, _, _, _, _, _, rfl, rfl, { HTH.out with h7 := fun _ => rfl }⟩
      | 8, _, hi, hib =>
        have d7 : b7 = true := ready_dep hi rfl 7 (by kernel_rfl)
        obtain rfl := HT.h7 d7
        clear HT
        refine wpOp_one rfl rfl (fun K hK => ?_)
        go_simp
        exact hK.out _ _ ⟨b0, b1, b2, b3, b4, b5, b6, b7, true, b9, b10, b11, b12, b13, _, _, _, _, _, _, _, _, _, _, _, _, _, _, rfl, rfl, { HTH.out with h8 := fun _ => rfl }⟩
      | 9, _, hi, hib =>
        clear HT
        refine wpOp_one rfl rfl (fun K hK => ?_)
        go_simp
        exact hK.out _ _ ⟨b0, b1, b2, b3, b4, b5, b6, b7, b8, true, b10, b11, b12, b13, _, _, _, _, _, _, _, _, _, _, _, _, _, _, rfl, rfl, { HTH.out with h9 := fun _ => rfl }⟩
      | 10, _, hi, hib =>
        have d9 : b9 = true := ready_dep hi rfl 9 (by kernel_rfl)
        obtain rfl := HT.h9 d9
        obtain ⟨x0, x1, x2, x3⟩ := cells4 ((HT.bel.block _ HG.out).trans HX.out)
        clear HT
        refine wpOp_one rfl rfl (fun K hK => ?_)
        go_simp
        exact hK.out _ _ ⟨b0, b1, b2, b3, b4, b5, b6, b7, b8, b9, true, b11, b12, b13, _, _, _, _, _, _, _, _, _, _, _, _, _, _, rfl, rfl, { HTH.out with h10 := fun _ => rfl }⟩
      | 11, _, hi, hib =>
        have d10 : b10 = true := ready_dep hi rfl 10 (by kernel_rfl)
        obtain rfl := HT.h10 d10
        have HC := Lib.hid (itoa_any c w' HNC.out (Go.Joins.tab_stays (g := 2) (by kernel_rfl) HPW.out HT.bel (Nat.le_refl _)))
        clear HT
        refine wpOp_one rfl rfl (fun K hK => ?_)
        go_simp
        refine HC.out.mono ?_
        rintro e w2 ⟨rfl, hb⟩
        exact hK.out _ _ ⟨b0, b1, b2, b3, b4, b5, b6, b7, b8, b9, b10, true, b12, b13, _, _, _, _, _, _, _, _, _, _, _, _, _, _, rfl, rfl, { HTH.out with bel := HTH.out.bel.trans (hb.mono HTH.out.bel.size), h11 := fun _ => rfl }⟩
      | 12, _, hi, hib =>
        have d8 : b8 = true := ready_dep hi rfl 8 (by kernel_rfl)
        obtain rfl := HT.h8 d8
        have d11 : b11 = true := ready_dep hi rfl 11 (by kernel_rfl)
        obtain rfl := HT.h11 d11
        clear HT
        refine wpOp_one rfl rfl (fun K hK => ?_)
        go_simp
        exact hK.out _ _ ⟨b0, b1, b2, b3, b4, b5, b6, b7, b8, b9, b10, b11, true, b13, _, _, _, _, _, _, _, _, _, _, _, _, _, _, rfl, rfl, { HTH.out with h12 := fun _ => rfl }⟩
      | 13, _, hi, hib =>
        have d12 : b12 = true := ready_dep hi rfl 12 (by kernel_rfl)
        obtain rfl := HT.h12 d12
        clear HT
        refine wpOp_one rfl rfl (fun K hK => ?_)
        go_simp
        exact hK.out _ _ ⟨b0, b1, b2, b3, b4, b5, b6, b7, b8, b9, b10, b11, b12, true, _, _, _, _, _, _, _, _, _, _, _, _, _, _, rfl, rfl, { HTH.out with h13 := fun _ => rfl }⟩
    case fin =>
      rintro l a' w' ⟨b0, b1, b2, b3, b4, b5, b6, b7, b8, b9, b10, b11, b12, b13, v4, v8, v9, v10, v11, v12, v13, v14, v15, v16, v17, v18, v19, v20, rfl, rfl, HT⟩ hr
      obtain rfl : b0 = true := by
        cases b0 with
        | true => rfl
        | false => exact (ready_in 0 rfl rfl (by simp [Region.binds]) hr).elim
      obtain rfl : b1 = true := by
        cases b1 with
        | true => rfl
        | false => exact (ready_in 1 rfl rfl (by simp [Region.binds]) hr).elim
      obtain rfl : b2 = true := by
        cases b2 with
        | true => rfl
        | false => exact (ready_in 2 rfl rfl (by simp [Region.binds]) hr).elim
      obtain rfl : b3 = true := by
        cases b3 with
        | true => rfl
        | false => exact (ready_in 3 rfl rfl (by simp [Region.binds]) hr).elim
      obtain rfl : b4 = true := by
        cases b4 with
        | true => rfl
        | false => exact (ready_in 4 rfl rfl (by simp [Region.binds]) hr).elim
      obtain rfl : b5 = true := by
        cases b5 with
        | true => rfl
        | false => exact (ready_in 5 rfl rfl (by simp [Region.binds]) hr).elim
      obtain rfl : b6 = true := by
        cases b6 with
        | true => rfl
        | false => exact (ready_in 6 rfl rfl (by simp [Region.binds]) hr).elim
      obtain rfl : b7 = true := by
        cases b7 with
        | true => rfl
        | false => exact (ready_in 7 rfl rfl (by simp [Region.binds]) hr).elim
      obtain rfl : b8 = true := by
        cases b8 with
        | true => rfl
        | false => exact (ready_in 8 rfl rfl (by simp [Region.binds]) hr).elim
      obtain rfl : b9 = true := by
        cases b9 with
        | true => rfl
        | false => exact (ready_in 9 rfl rfl (by simp [Region.binds]) hr).elim
      obtain rfl : b10 = true := by
        cases b10 with
        | true => rfl
        | false => exact (ready_in 10 rfl rfl (by simp [Region.binds]) hr).elim
      obtain rfl : b11 = true := by
        cases b11 with
        | true => rfl
        | false => exact (ready_in 11 rfl rfl (by simp [Region.binds]) hr).elim
      obtain rfl : b12 = true := by
        cases b12 with
        | true => rfl
        | false => exact (ready_in 12 rfl rfl (by simp [Region.binds]) hr).elim
      obtain rfl : b13 = true := by
        cases b13 with
        | true => rfl
        | false => exact (ready_in 13 rfl rfl (by simp [Region.binds]) hr).elim
      obtain rfl := HT.h0 rfl
      obtain rfl := HT.h1 rfl
      obtain rfl := HT.h2 rfl
      obtain rfl := HT.h3 rfl
      obtain rfl := HT.h4 rfl
      obtain rfl := HT.h5 rfl
      obtain rfl := HT.h6 rfl
      obtain rfl := HT.h7 rfl
      obtain rfl := HT.h8 rfl
      obtain rfl := HT.h9 rfl
      obtain rfl := HT.h10 rfl
      obtain rfl := HT.h11 rfl
      obtain rfl := HT.h12 rfl
      obtain rfl := HT.h13 rfl
      have HB9 : Hid (Below w.heap.size w w') := Lib.hid (HBW.out.trans (HT.bel.mono HBW.out.size))
      obtain ⟨x0, x1, x2, x3⟩ := cells4 ((HT.bel.block _ HG.out).trans HX.out)
      clear HT hr
      show _
      have HSE := Lib.hid (show s.toList.isEmpty = (bs s).isEmpty by rw [ByteArray.toList_eq])
      cases hee : (bs s).isEmpty with
      | true =>
        have hse : s.toList.isEmpty = true := by rw [HSE.out]; exact hee
        have HTX := Lib.hid (text_eq0 a b c s hee)
        clear hee
        go_wp2
        refine bodyPost_ret (results_tmp2 rfl _ _ _) rfl ⟨?_, HB9.out⟩
        rw [HV.out, ← HTX.out]; rfl
      | false =>
        have hse : s.toList.isEmpty = false := by rw [HSE.out]; exact hee
        have HTX := Lib.hid (text_eq a b c s hee)
        clear hee
        go_wp2
        refine bodyPost_ret (results_tmp2 rfl _ _ _) rfl ⟨?_, HB9.out⟩
        rw [HV.out, ← HTX.out]; rfl
structure RtSt (w0 : World) (g : Nat) (a b c : Int) (b0 b1 b2 b3 b4 b5 b6 b7 b8 b9 b10 b11 b12 b13 : Bool) (v3 v4 v5 v6 v7 v8 v9 v10 v11 v12 v13 v14 v15 v16 : Value) (w' : World) : Prop where
  bel : Below w0.heap.size w0 w'
  h0 : b0 = true → v4 = .pointer (some ⟨g, 0, none⟩)
  h1 : b1 = true → v5 = .int .i64 a
  h2 : b2 = true → v6 = .string (digS (a.toNat))
  h3 : b3 = true → v7 = .string (digS (a.toNat) ++ ⟨#[46]⟩)
  h4 : b4 = true → v8 = .pointer (some ⟨g, 1, none⟩)
  h5 : b5 = true → v9 = .int .i64 b
  h6 : b6 = true → v10 = .string (digS (b.toNat))
  h7 : b7 = true → v11 = .string (digS (a.toNat) ++ ⟨#[46]⟩ ++ digS (b.toNat))
  h8 : b8 = true → v12 = .string (digS (a.toNat) ++ ⟨#[46]⟩ ++ digS (b.toNat) ++ ⟨#[46]⟩)
  h9 : b9 = true → v13 = .pointer (some ⟨g, 2, none⟩)
  h10 : b10 = true → v14 = .int .i64 c
  h11 : b11 = true → v15 = .string (digS (c.toNat))
  h12 : b12 = true → v16 = .string (digS (a.toNat) ++ ⟨#[46]⟩ ++ digS (b.toNat) ++ ⟨#[46]⟩ ++ digS (c.toNat))
  h13 : b13 = true → v3 = .string (digS (a.toNat) ++ ⟨#[46]⟩ ++ digS (b.toNat) ++ ⟨#[46]⟩ ++ digS (c.toNat))
def RtJ (w0 : World) (g : Nat) (a b c : Int) (p0 p1 p2 p17 p18 p19 p20 p21 p22 p23 p24 p25 : Value) (l : Array Bool) (a' : Act) (w' : World) : Prop :=
  ∃ (b0 b1 b2 b3 b4 b5 b6 b7 b8 b9 b10 b11 b12 b13 : Bool) (v3 v4 v5 v6 v7 v8 v9 v10 v11 v12 v13 v14 v15 v16 : Value), l = #[b0, b1, b2, b3, b4, b5, b6, b7, b8, b9, b10, b11, b12, b13] ∧ a' = { tmps := List.toArray (p0 :: p1 :: p2 :: v3 :: v4 :: v5 :: v6 :: v7 :: v8 :: v9 :: v10 :: v11 :: v12 :: v13 :: v14 :: v15 :: v16 :: p17 :: p18 :: p19 :: p20 :: p21 :: p22 :: p23 :: p24 :: p25 :: []), defers := [] } ∧ RtSt w0 g a b c b0 b1 b2 b3 b4 b5 b6 b7 b8 b9 b10 b11 b12 b13 v3 v4 v5 v6 v7 v8 v9 v10 v11 v12 v13 v14 v15 v16 w'
theorem digR_any (n : Int) (w : World) (hn : 0 ≤ n ∧ n ≤ 999999) :
    Calls Tryz.prog 53 #[.int .i64 n] w fun e w' => e = .returned (.string (digS n.toNat)) ∧ Below w.heap.size w w' := by
  have h := Digits_any n.toNat w (by omega)
  rw [show ((n.toNat : Nat) : Int) = n by omega] at h
  exact h
set_option maxHeartbeats 8000000 in
theorem RefText_any (a b c : Int) (s : ByteArray) (w : World) (hs : s.size ≤ 1000000) (hr : Ver.right ⟨a, b, c, bs s⟩ = true) :
    Calls Tryz.prog 35 #[verV a b c s] w fun e w' => e = .returned (.string (mk (Ver.text ⟨a, b, c, bs s⟩))) ∧ Below w.heap.size w w' := by
  obtain ⟨W, hW0⟩ : ∃ W0, w.alloc (refC a b c s) = W0 := ⟨_, rfl⟩
  have hb0 : Below w.heap.size w W := by rw [← hW0]; exact (Below.refl _ w).alloc (Nat.le_refl _) _
  have HX : Hid (W.heap[w.heap.size]? = some (refC a b c s)) := Lib.hid (by rw [← hW0]; exact World.alloc_heap_new _ _)
  have HG : Hid (w.heap.size < W.heap.size) := Lib.hid (by rw [← hW0]; simp)
  have HBW := Lib.hid hb0
  have HW0 := Lib.hid hW0
  have HS := Lib.hid hs
  have HNA := Lib.hid (right_parts hr).1
  have HNB := Lib.hid (right_parts hr).2.1
  have HNC := Lib.hid (right_parts hr).2.2
  have HZ : Hid ((digS a.toNat).size ≤ 6 ∧ (digS b.toNat).size ≤ 6 ∧ (digS c.toNat).size ≤ 6) := Lib.hid ⟨digS_size (by have := HNA.out; omega), digS_size (by have := HNB.out; omega), digS_size (by have := HNC.out; omega)⟩
  clear hW0 hb0 hs hr
  have hcA := fun (w : World) => run_string_add_sum (P := Tryz.prog) (w := w) (digS a.toNat) ⟨#[46]⟩ (by have := HZ.out; have : (⟨#[46]⟩ : ByteArray).size = 1 := rfl; omega)
  have hcB := fun (w : World) => run_string_add_sum (P := Tryz.prog) (w := w) (digS a.toNat ++ ⟨#[46]⟩) (digS b.toNat) (by have := HZ.out; rw [ByteArray.size_append, show (⟨#[46]⟩ : ByteArray).size = 1 from rfl]; omega)
  have hcC := fun (w : World) => run_string_add_sum (P := Tryz.prog) (w := w) (digS a.toNat ++ ⟨#[46]⟩ ++ digS b.toNat) ⟨#[46]⟩ (by have := HZ.out; rw [ByteArray.size_append, ByteArray.size_append, show (⟨#[46]⟩ : ByteArray).size = 1 from rfl]; omega)
  have hcD := fun (w : World) => run_string_add_sum (P := Tryz.prog) (w := w) (digS a.toNat ++ ⟨#[46]⟩ ++ digS b.toNat ++ ⟨#[46]⟩) (digS c.toNat) (by have := HZ.out; rw [ByteArray.size_append, ByteArray.size_append, ByteArray.size_append, show (⟨#[46]⟩ : ByteArray).size = 1 from rfl]; omega)
  have hcE := fun (w : World) => run_string_add_sum (P := Tryz.prog) (w := w) ⟨#[45]⟩ s (by have := HS.out; have : (⟨#[45]⟩ : ByteArray).size = 1 := rfl; omega)
  have hcF := fun (w : World) => run_string_add_sum (P := Tryz.prog) (w := w) (digS a.toNat ++ ⟨#[46]⟩ ++ digS b.toNat ++ ⟨#[46]⟩ ++ digS c.toNat) (⟨#[45]⟩ ++ s) (by have := HZ.out; have := HS.out; rw [ByteArray.size_append, ByteArray.size_append, ByteArray.size_append, ByteArray.size_append, ByteArray.size_append, show (⟨#[46]⟩ : ByteArray).size = 1 from rfl, show (⟨#[45]⟩ : ByteArray).size = 1 from rfl]; omega)
  go_enter Tryz.func35, Tryz.ntmps35
  go_wp2_with fail
  try rw [show w.alloc (.cells #[.int .i64 a, .int .i64 b, .int .i64 c, .string s] 74) = W from HW0.out]
  refine wp_region_inv (by kernel_rfl) (I := RtJ W w.heap.size a b c _ _ _ _ _ _ _ _ _ _ _ _) ⟨false, false, false, false, false, false, false, false, false, false, false, false, false, false, _, _, _, _, _, _, _, _, _, _, _, _, _, _, rfl, rfl, ⟨(Below.refl _ W).drew, nofun, nofun, nofun, nofun, nofun, nofun, nofun, nofun, nofun, nofun, nofun, nofun, nofun, nofun⟩⟩ ?step ?fin
  case step =>
    rintro l a' w' i ⟨b0, b1, b2, b3, b4, b5, b6, b7, b8, b9, b10, b11, b12, b13, v3, v4, v5, v6, v7, v8, v9, v10, v11, v12, v13, v14, v15, v16, rfl, rfl, HT⟩ hi
    obtain ⟨hi_, hib⟩ := ready_lt hi
    have HTH := Lib.hid HT
    match i, hi_, hi, hib with
    | 0, _, hi, hib =>
      clear HT
      refine wpOp_one rfl rfl (fun K hK => ?_)
      go_simp
      exact hK.out _ _ ⟨true, b1, b2, b3, b4, b5, b6, b7, b8, b9, b10, b11, b12, b13, _, _, _, _, _, _, _, _, _, _, _, _, _, _, rfl, rfl, { HTH.out with h0 := fun _ => rfl }⟩
    | 1, _, hi, hib =>
      have d0 : b0 = true := ready_dep hi rfl 0 (by kernel_rfl)
      obtain rfl := HT.h0 d0
      obtain ⟨x0, x1, x2, x3⟩ := cells4 ((HT.bel.block _ HG.out).trans HX.out)
      clear HT
      refine wpOp_one rfl rfl (fun K hK => ?_)
      go_simp
      exact hK.out _ _ ⟨b0, true, b2, b3, b4, b5, b6, b7, b8, b9, b10, b11, b12, b13, _, _, _, _, _, _, _, _, _, _, _, _, _, _, rfl, rfl, { HTH.out with h1 := fun _ => rfl }⟩
    | 2, _, hi, hib =>
      have d1 : b1 = true := ready_dep hi rfl 1 (by kernel_rfl)
      obtain rfl := HT.h1 d1
      have HC := Lib.hid (digR_any a w' HNA.out)
      clear HT
      refine wpOp_one rfl rfl (fun K hK => ?_)
      go_simp
      refine HC.out.mono ?_
      rintro e w2 ⟨rfl, hb⟩
      exact hK.out _ _ ⟨b0, b1, true, b3, b4, b5, b6, b7, b8, b9, b10, b11, b12, b13, _, _, _, _, _, _, _, _, _, _, _, _, _, _, rfl, rfl, { HTH.out with bel := HTH.out.bel.trans (hb.mono HTH.out.bel.size), h2 := fun _ => rfl }⟩
    | 3, _, hi, hib =>
      have d2 : b2 = true := ready_dep hi rfl 2 (by kernel_rfl)
      obtain rfl := HT.h2 d2
      clear HT
      refine wpOp_one rfl rfl (fun K hK => ?_)
      go_simp
      exact hK.out _ _ ⟨b0, b1, b2, true, b4, b5, b6, b7, b8, b9, b10, b11, b12, b13, _, _, _, _, _, _, _, _, _, _, _, _, _, _, rfl, rfl, { HTH.out with h3 := fun _ => rfl }⟩
    | 4, _, hi, hib =>
      clear HT
      refine wpOp_one rfl rfl (fun K hK => ?_)
      go_simp
      exact hK.out _ _ ⟨b0, b1, b2, b3, true, b5, b6, b7, b8, b9, b10, b11, b12, b13, _, _, _, _, _, _, _, _, _, _, _, _, _, _, rfl, rfl, { HTH.out with h4 := fun _ => rfl }⟩
    | 5, _, hi, hib =>
      have d4 : b4 = true := ready_dep hi rfl 4 (by kernel_rfl)
      obtain rfl := HT.h4 d4
      obtain ⟨x0, x1, x2, x3⟩ := cells4 ((HT.bel.block _ HG.out).trans HX.out)
      clear HT
      refine wpOp_one rfl rfl (fun K hK => ?_)
      go_simp
      exact hK.out _ _ ⟨b0, b1, b2, b3, b4, true, b6, b7, b8, b9, b10, b11, b12, b13, _, _, _, _, _, _, _, _, _, _, _, _, _, _, rfl, rfl, { HTH.out with h5 := fun _ => rfl }⟩
    | 6, _, hi, hib =>
      have d5 : b5 = true := ready_dep hi rfl 5 (by kernel_rfl)
      obtain rfl := HT.h5 d5
      have HC := Lib.hid (digR_any b w' HNB.out)
      clear HT
      refine wpOp_one rfl rfl (fun K hK => ?_)
      go_simp
      refine HC.out.mono ?_
      rintro e w2 ⟨rfl, hb⟩
      exact hK.out _ _ ⟨b0, b1, b2, b3, b4, b5, true, b7, b8, b9, b10, b11, b12, b13, _, _, _, _, _, _, _, _, _, _, _, _, _, _, rfl, rfl, { HTH.out with bel := HTH.out.bel.trans (hb.mono HTH.out.bel.size), h6 := fun _ => rfl }⟩
    | 7, _, hi, hib =>
      have d3 : b3 = true := ready_dep hi rfl 3 (by kernel_rfl)
      obtain rfl := HT.h3 d3
      have d6 : b6 = true := ready_dep hi rfl 6 (by kernel_rfl)
      obtain rfl := HT.h6 d6
      clear HT
      refine wpOp_one rfl rfl (fun K hK => ?_)
      go_simp
      exact hK.out _ _ ⟨b0, b1, b2, b3, b4, b5, b6, true, b8, b9, b10, b11, b12, b13, _, _, _, _, _, _, _, _, _, _, _, _, _, _, rfl, rfl, { HTH.out with h7 := fun _ => rfl }⟩
    | 8, _, hi, hib =>
      have d7 : b7 = true := ready_dep hi rfl 7 (by kernel_rfl)
      obtain rfl := HT.h7 d7
      clear HT
      refine wpOp_one rfl rfl (fun K hK => ?_)
      go_simp
      exact hK.out _ _ ⟨b0, b1, b2, b3, b4, b5, b6, b7, true, b9, b10, b11, b12, b13, _, _, _, _, _, _, _, _, _, _, _, _, _, _, rfl, rfl, { HTH.out with h8 := fun _ => rfl }⟩
    | 9, _, hi, hib =>
      clear HT
      refine wpOp_one rfl rfl (fun K hK => ?_)
      go_simp
      exact hK.out _ _ ⟨b0, b1, b2, b3, b4, b5, b6, b7, b8, true, b10, b11, b12, b13, _, _, _, _, _, _, _, _, _, _, _, _, _, _, rfl, rfl, { HTH.out with h9 := fun _ => rfl }⟩
    | 10, _, hi, hib =>
      have d9 : b9 = true := ready_dep hi rfl 9 (by kernel_rfl)
      obtain rfl := HT.h9 d9
      obtain ⟨x0, x1, x2, x3⟩ := cells4 ((HT.bel.block _ HG.out).trans HX.out)
      clear HT
      refine wpOp_one rfl rfl (fun K hK => ?_)
      go_simp
      exact hK.out _ _ ⟨b0, b1, b2, b3, b4, b5, b6, b7, b8, b9, true, b11, b12, b13, _, _, _, _, _, _, _, _, _, _, _, _, _, _, rfl, rfl, { HTH.out with h10 := fun _ => rfl }⟩
    | 11, _, hi, hib =>
      have d10 : b10 = true := ready_dep hi rfl 10 (by kernel_rfl)
      obtain rfl := HT.h10 d10
      have HC := Lib.hid (digR_any c w' HNC.out)
      clear HT
      refine wpOp_one rfl rfl (fun K hK => ?_)
      go_simp
      refine HC.out.mono ?_
      rintro e w2 ⟨rfl, hb⟩
      exact hK.out _ _ ⟨b0, b1, b2, b3, b4, b5, b6, b7, b8, b9, b10, true, b12, b13, _, _, _, _, _, _, _, _, _, _, _, _, _, _, rfl, rfl, { HTH.out with bel := HTH.out.bel.trans (hb.mono HTH.out.bel.size), h11 := fun _ => rfl }⟩
    | 12, _, hi, hib =>
      have d8 : b8 = true := ready_dep hi rfl 8 (by kernel_rfl)
      obtain rfl := HT.h8 d8
      have d11 : b11 = true := ready_dep hi rfl 11 (by kernel_rfl)
      obtain rfl := HT.h11 d11
      clear HT
      refine wpOp_one rfl rfl (fun K hK => ?_)
      go_simp
      exact hK.out _ _ ⟨b0, b1, b2, b3, b4, b5, b6, b7, b8, b9, b10, b11, true, b13, _, _, _, _, _, _, _, _, _, _, _, _, _, _, rfl, rfl, { HTH.out with h12 := fun _ => rfl }⟩
    | 13, _, hi, hib =>
      have d12 : b12 = true := ready_dep hi rfl 12 (by kernel_rfl)
      obtain rfl := HT.h12 d12
      clear HT
      refine wpOp_one rfl rfl (fun K hK => ?_)
      go_simp
      exact hK.out _ _ ⟨b0, b1, b2, b3, b4, b5, b6, b7, b8, b9, b10, b11, b12, true, _, _, _, _, _, _, _, _, _, _, _, _, _, _, rfl, rfl, { HTH.out with h13 := fun _ => rfl }⟩
  case fin =>
    rintro l a' w' ⟨b0, b1, b2, b3, b4, b5, b6, b7, b8, b9, b10, b11, b12, b13, v3, v4, v5, v6, v7, v8, v9, v10, v11, v12, v13, v14, v15, v16, rfl, rfl, HT⟩ hr
    obtain rfl : b0 = true := by
      cases b0 with
      | true => rfl
      | false => exact (ready_in 0 rfl rfl (by simp [Region.binds]) hr).elim
    obtain rfl : b1 = true := by
      cases b1 with
      | true => rfl
      | false => exact (ready_in 1 rfl rfl (by simp [Region.binds]) hr).elim
    obtain rfl : b2 = true := by
      cases b2 with
      | true => rfl
      | false => exact (ready_in 2 rfl rfl (by simp [Region.binds]) hr).elim
    obtain rfl : b3 = true := by
      cases b3 with
      | true => rfl
      | false => exact (ready_in 3 rfl rfl (by simp [Region.binds]) hr).elim
    obtain rfl : b4 = true := by
      cases b4 with
      | true => rfl
      | false => exact (ready_in 4 rfl rfl (by simp [Region.binds]) hr).elim
    obtain rfl : b5 = true := by
      cases b5 with
      | true => rfl
      | false => exact (ready_in 5 rfl rfl (by simp [Region.binds]) hr).elim
    obtain rfl : b6 = true := by
      cases b6 with
      | true => rfl
      | false => exact (ready_in 6 rfl rfl (by simp [Region.binds]) hr).elim
    obtain rfl : b7 = true := by
      cases b7 with
      | true => rfl
      | false => exact (ready_in 7 rfl rfl (by simp [Region.binds]) hr).elim
    obtain rfl : b8 = true := by
      cases b8 with
      | true => rfl
      | false => exact (ready_in 8 rfl rfl (by simp [Region.binds]) hr).elim
    obtain rfl : b9 = true := by
      cases b9 with
      | true => rfl
      | false => exact (ready_in 9 rfl rfl (by simp [Region.binds]) hr).elim
    obtain rfl : b10 = true := by
      cases b10 with
      | true => rfl
      | false => exact (ready_in 10 rfl rfl (by simp [Region.binds]) hr).elim
    obtain rfl : b11 = true := by
      cases b11 with
      | true => rfl
      | false => exact (ready_in 11 rfl rfl (by simp [Region.binds]) hr).elim
    obtain rfl : b12 = true := by
      cases b12 with
      | true => rfl
      | false => exact (ready_in 12 rfl rfl (by simp [Region.binds]) hr).elim
    obtain rfl : b13 = true := by
      cases b13 with
      | true => rfl
      | false => exact (ready_in 13 rfl rfl (by simp [Region.binds]) hr).elim
    obtain rfl := HT.h0 rfl
    obtain rfl := HT.h1 rfl
    obtain rfl := HT.h2 rfl
    obtain rfl := HT.h3 rfl
    obtain rfl := HT.h4 rfl
    obtain rfl := HT.h5 rfl
    obtain rfl := HT.h6 rfl
    obtain rfl := HT.h7 rfl
    obtain rfl := HT.h8 rfl
    obtain rfl := HT.h9 rfl
    obtain rfl := HT.h10 rfl
    obtain rfl := HT.h11 rfl
    obtain rfl := HT.h12 rfl
    obtain rfl := HT.h13 rfl
    have HB9 : Hid (Below w.heap.size w w') := Lib.hid (HBW.out.trans (HT.bel.mono HBW.out.size))
    obtain ⟨x0, x1, x2, x3⟩ := cells4 ((HT.bel.block _ HG.out).trans HX.out)
    clear HT hr
    show _
    have HSE := Lib.hid (show s.toList.isEmpty = (bs s).isEmpty by rw [ByteArray.toList_eq])
    cases hee : (bs s).isEmpty with
    | true =>
      have hse : s.toList.isEmpty = true := by rw [HSE.out]; exact hee
      have HTX := Lib.hid (text_eq0 a b c s hee)
      clear hee
      go_wp2
      refine bodyPost_ret (results_tmp rfl _ _ _) rfl ⟨?_, HB9.out⟩
      rw [← HTX.out]; rfl
    | false =>
      have hse : s.toList.isEmpty = false := by rw [HSE.out]; exact hee
      have HTX := Lib.hid (text_eq a b c s hee)
      clear hee
      go_wp2
      refine bodyPost_ret (results_tmp rfl _ _ _) rfl ⟨?_, HB9.out⟩
      rw [← HTX.out]; rfl
end Go.Proofs.YtpnbbbhbbnemlaaGreatDoor
