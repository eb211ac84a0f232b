/-
  A DOCK WITH ONE LOG that lies apart from further blocks.
-/
import Derived.Test.YticklaophgekeaaWLay
import Derived.Test.YticklaophgekeaaWPsh
import Derived.Test.YticklaophgekeaaWRot
import Derived.BigRegion
import Derived.Deep.RegionLaw
import Derived.Test.YticklaophgekeaaWRec
import Derived.Test.YticklaophgekeaaWOp1
namespace Go.Proofs.Yticklaophgekeaa
open Go.RowKit
open ByteP
set_option linter.unusedVariables false
set_option maxRecDepth 10000
section
variable {w : World} {E : Nat → Prop} {B0 lb db mb K : Nat} {n : Nm} {F : Int → Option Fi} {v : LgV} {bs : List Int} {rs : List (List Int)}
set_option maxHeartbeats 4000000 in
theorem rotate_okE (h : Dk w db mb K n F) (hL : Lg w (fun b => Mine db mb F b ∨ E b) B0 lb v bs rs) (hE : ∀ b, E b → b < w.heap.size) (hvd : v.db = db) (hcl : v.cl = false) (hK : K ≤ 999999990) (hd : n.down = false) (hl : n.left = -1) (hs0 : 0 ≤ n.size) (hc : n.cap ≤ 16777216) {k : Int} (hvn : v.nm = k) {f : Fi} (hf : F k = some f) (hk1 : k + 1 ≤ 999999) (hf1 : F (k + 1) = none)
    {m c : Nat} {A : Option Addr} {xs : List Int} (hx : RdK w (fun b => Mine db mb F b ∨ b = lb) A m xs) (hb : Bytes xs) (hm : m ≤ 65535) (hfit : n.size + ((m + 9 : Nat) : Int) ≤ n.cap) (hfn : (f.n : Int) ≤ n.size) :
    Calls Try.prog 26 #[.pointer (some ⟨lb, 0, none⟩), .slice A m c] w fun e w' => e = .returned (.int .i64 0) ∧
      ∃ f' bA' bc', f'.bs = frmP 0 xs ∧ f'.n = m + 9 ∧ f'.s = m + 9 ∧ Dk w' db mb (K + 2) { n with size := n.size + ((m + 9 : Nat) : Int) - (f.n : Int) } (delF (putF F (k + 1) f') k) ∧
        Lg w' (fun b => Mine db mb (delF (putF F (k + 1) f') k) b ∨ E b) B0 lb { v with nm := k + 1, bA := bA', bn := m, bc := bc', rv := .slice none 0 0, sz := ((m + 9 : Nat) : Int) } xs [] ∧
        Fr w w' (fun b => Mine db mb F b ∨ b = lb) ∧ (∀ b, Mine db mb (delF (putF F (k + 1) f') k) b → Mine db mb F b ∨ w.heap.size ≤ b) := by
  have hgood := h.good k f hf
  have hfa : fileAt F (k + 1) = noFi := by unfold fileAt; rw [hf1]; rfl
  have c1 := hL.c1
  rw [hvn] at c1
  have hw1 : IntKind.i64.wrap (k + 1) = k + 1 := IntWalk.i64_in _ (by omega)
  have hxw : RdK w (Mine db mb F) A m xs := hx.weak (fun b hb => .inl (.inl hb))
  have HL := Lib.hid hL
  have HE := Lib.hid hE
  have H := Lib.hid h
  have HXX := Lib.hid hx
  have HBX := Lib.hid hb
  have HXL : Hid (xs.length = m) := Lib.hid hx.1
  have HGD := Lib.hid hgood
  have HFA := Lib.hid hfa
  have HFK : Hid (F k = some f) := Lib.hid hf
  have HLY := Lib.hid (lay_ok (k := k + 1) (c := c) h (hL.turn (D' := Mine db mb F) (Fr.refl _ _) (fun b hb => .inl (.inl hb))) hvd hK hd hl hs0 hc (by omega) hk1 hxw.rd (Nat.le_refl _) hb hm hfit (by rw [hfa]; simp [noFi]; omega))
  clear h hL hE hx hxw hb hgood hfa hf hf1
  go_enter Try.func26, Try.ntmps26
  go_wp2_with (go_at_call 42; refine (checkOpen_ok HL.out hcl hm).mono ?_; rintro e w0 ⟨rfl, rfl⟩)
  refine HLY.out.mono ?_
  rintro e w2 ⟨rfl, f1, hbs1, hn1, hs1, hk2, hfr2, hmi2⟩
  have HP1 : Hid (f1.bs = frmP 0 xs ∧ f1.n = m + 9 ∧ f1.s = m + 9) := Lib.hid (by
    rw [HFA.out] at hbs1 hn1
    have e2 : f1.n = m + 9 := by rw [hn1]; show 0 + (m + 9) = _; omega
    exact ⟨by rw [hbs1]; rfl, e2, hs1.trans e2⟩)
  have H2 := Lib.hid hk2
  have HF2 := Lib.hid hfr2
  have HM2 := Lib.hid hmi2
  have HL2 : Hid (Lg w2 (fun b => Mine db mb (putF F (k + 1) f1) b ∨ E b) B0 lb v bs rs) := Lib.hid (HL.out.turn (hfr2.less (fun b hb => .inl hb)) (fun b hb => hb.elim (fun h => (hmi2 b h).imp .inl id) (fun h => .inl (.inr h))))
  have hkk : k ≠ k + 1 := by omega
  have HRM := Lib.hid (remove_ok (k := k) (f := f) (H2.out.drewN 1) hd (by show -1 ≤ n.left; omega) (by show n.left ≤ _; omega) (by show n.left ≠ 0; omega) (by show _ ≤ n.size + _; omega) (by show n.size + _ ≤ _; omega) (by rw [putF_other _ _ hkk]; exact HFK.out))
  have c20 := HL2.out.c0
  have c21 := HL2.out.c1
  rw [hvd] at c20
  rw [hvn] at c21
  clear hbs1 hn1 hs1 hk2 hfr2 hmi2 HLY c1 hw1
  go_wp2_with fail
  go_region_held3 (fun W => W.cell? ⟨lb, 0, none⟩ = some (.pointer (some ⟨db, 0, none⟩)) ∧ W.cell? ⟨lb, 1, none⟩ = some (.int .i64 k)) ((first | exact ⟨c30, c31⟩ | go_keep)) (first
    | (go_at_call 39; refine HRM.out.mono ?_; rintro e w3 ⟨rfl, hk3, hfr3⟩; (have H3 := Lib.hid hk3); (have HF3 : Hid (Fr w0 w3 (Mine db mb F)) := Lib.hid ((HF2.out.trans (Fr.drewN w2 (Mine db mb (putF F (k + 1) f1)) 1) HM2.out).trans hfr3 HM2.out)); (have HM3 : Hid (∀ b, Mine db mb (delF (putF F (k + 1) f1) k) b → Mine db mb F b ∨ w0.heap.size ≤ b) := Lib.hid (fun b hb => HM2.out b (mine_del b hb))); (have HL3 : Hid (Lg w3 (fun b => Mine db mb (delF (putF F (k + 1) f1) k) b ∨ E b) B0 lb v bs rs) := Lib.hid (HL.out.turn (HF3.out.less (fun b hb => .inl hb)) (fun b hb => hb.elim (fun h => (HM3.out b h).imp .inl id) (fun h => .inl (.inr h))))); (have c30 := HL3.out.c0); (have c31 := HL3.out.c1); rw [hvd] at c30; rw [hvn] at c31; clear hk3 hfr3 HRM)
    | (go_at_call 44; refine (heed_other _ _ (by omega)).mono ?_; rintro e w4 ⟨rfl, rfl⟩))
  have f31 := HL3.out.fz 1
  obtain ⟨w5, HW5⟩ : ∃ w5, Hid (w4.setCell ⟨lb, 1, none⟩ (.int .i64 (k + 1)) = w5) := ⟨_, Lib.hid rfl⟩
  have HL5 : Hid (Lg w5 (fun b => Mine db mb (delF (putF F (k + 1) f1) k) b ∨ E b) B0 lb { v with nm := k + 1 } bs rs) := Lib.hid (by rw [← HW5.out]; exact HL3.out.named (k + 1))
  have HF45 : Hid (Fr w4 w5 (fun b => b = lb)) := Lib.hid (by rw [← HW5.out]; exact Fr.setCell w4 (fun b => b = lb) (p := ⟨lb, 1, none⟩) rfl _)
  have H5 := Lib.hid (H3.out.fr HF45.out (fun b hb e => HL3.out.nd (.inl (e ▸ hb))))
  have HF5 : Hid (Fr w0 w5 (fun b => Mine db mb F b ∨ b = lb)) := Lib.hid ((HF3.out.less (M := fun b => Mine db mb F b ∨ b = lb) (fun b hb => .inl hb)).trans HF45.out (fun b hb => .inl (.inr hb)))
  have HX5 : Hid (RdK w5 (fun b => Mine db mb F b ∨ b = lb) A m xs) := Lib.hid (HXX.out.fr HF5.out)
  clear c20 c21 H2 HL2
  go_wp2_with fail
  rw [HW5.out]
  refine (cloneK_any HX5.out.rd (Nat.le_refl _) (by omega)).mono ?_
  rintro e w6 ⟨A6, c6, rfl, ho6, hb6⟩
  have HO6 := Lib.hid ho6
  have HB6 := Lib.hid hb6
  have HX6 := Lib.hid (HX5.out.below hb6)
  clear ho6 hb6
  go_wp2_with fail
  refine (framed_any (mk := 0) (c := c) HX6.out.rd HBX.out (by omega) (by omega) hm (Nat.le_refl _)).mono ?_
  rintro e w7 ⟨A7, c7, rfl, ho7, hb7⟩
  have HL7 := Lib.hid ((HL5.out.below HB6.out).below hb7)
  have H7 := Lib.hid ((H5.out.below HB6.out).below hb7)
  have HO7 := Lib.hid (HO6.out.kept hb7)
  have HF7 := Lib.hid ((HF5.out.then_below HB6.out).then_below hb7)
  have y0 := HL7.out.c2
  have y1 := HL7.out.c3
  have y2 := HL7.out.c4
  have g0 := HL7.out.fz 2
  have g1 := HL7.out.fz 3
  have g2 := HL7.out.fz 4
  clear ho7 hb7 c30 c31 f31
  go_wp2
  go_ret
  have HAN := Lib.hid (HL7.out.anew (A := A6) (m := m) (c := c6) (xs := xs) (RdK.of_own HO7.out (fun b hb hb2 => by
    rcases hb2 with (h1 | h1) | h1
    · exact H5.out.notMine hb h1
    · have := HE.out b h1; have := HF5.out.size; omega
    · have := HL5.out.lt; omega)) HBX.out (by rw [HXL.out]; exact hm) ((m + 9 : Nat) : Int))
  refine ⟨rfl, f1, A6, c6, HP1.out.1, HP1.out.2.1, HP1.out.2.2, ?_, ?_, ?_, HM3.out⟩
  · have h1 := H7.out.fr HAN.out.2 (fun b hb e => HL7.out.nd (.inl (e ▸ hb)))
    rw [gd_off { n with size := n.size + ((m + 9 : Nat) : Int) } hl] at h1
    exact h1
  · exact HAN.out.1
  · exact HF7.out.trans HAN.out.2 (fun b hb => .inl (.inr hb))
end
set_option maxRecDepth 10000
section
variable {w : World} {E : Nat → Prop} {B0 lb db mb K : Nat} {n : Nm} {F : Int → Option Fi} {v : LgV} {bs : List Int} {rs : List (List Int)}
set_option maxHeartbeats 4000000 in
theorem lappend_okE (h : Dk w db mb K n F) (hL : Lg w (fun b => Mine db mb F b ∨ E b) B0 lb v bs rs) (hE : ∀ b, E b → b < w.heap.size) (hvd : v.db = db) (hcl : v.cl = false) (hK : K ≤ 999999990) (hd : n.down = false) (hl : n.left = -1) (hs0 : 0 ≤ n.size) (hc : n.cap ≤ 16777216) {k : Int} (hvn : v.nm = k) {f : Fi} (hf : F k = some f)
    (hrl : rs.length ≤ 1000000000) (hsz0 : 0 ≤ v.sz) (hsz1 : v.sz ≤ 4611686018427387904) (hB0 : B0 ≤ mb)
    {m c : Nat} {A : Option Addr} {xs : List Int} (hx : RdK w (Mine db mb F) A m xs) (hb : Bytes xs) (hm : m ≤ 65535) (hfit : n.size + ((m + 9 : Nat) : Int) ≤ n.cap) (hfit2 : f.n + (m + 9) ≤ 16777216) :
    Calls Try.prog 24 #[.pointer (some ⟨lb, 0, none⟩), .slice A m c] w fun e w' => e = .returned (.int .i64 0) ∧
      ∃ f' rv', f'.bs = f.bs ++ frmP 1 xs ∧ f'.n = f.n + (m + 9) ∧ f'.s = f.s ∧ Dk w' db mb (K + 1) { n with size := n.size + ((m + 9 : Nat) : Int) } (putF F k f') ∧ Lg w' (fun b => Mine db mb (putF F k f') b ∨ E b) B0 lb { v with rv := rv', sz := v.sz + ((m + 9 : Nat) : Int) } bs (rs ++ [xs]) ∧
        Fr w w' (LM (Mine db mb F) lb v) ∧ (∀ b, Mine db mb (putF F k f') b → Mine db mb F b ∨ w.heap.size ≤ b) := by
  have hg : gd n = n := gd_off n hl
  have hgood := h.good k f hf
  have hfa : fileAt F k = f := by unfold fileAt; rw [hf]; rfl
  have c0 := hL.c0
  have c1 := hL.c1
  rw [hvd] at c0
  rw [hvn] at c1
  have HL := Lib.hid hL
  have HE := Lib.hid hE
  have H := Lib.hid h
  have HXX := Lib.hid hx
  have HBX := Lib.hid hb
  have HF := Lib.hid hfit2
  have HXL : Hid (xs.length = m) := Lib.hid hx.1
  have HGD := Lib.hid hgood
  have HFA := Lib.hid hfa
  clear h hL hE hx hb hfit2 hgood hfa hf
  go_enter Try.func24, Try.ntmps24
  go_wp2_with (go_at_call 42; refine (checkOpen_ok HL.out hcl hm).mono ?_; rintro e w0 ⟨rfl, rfl⟩)
  refine (framed_any (mk := 1) HXX.out.rd HBX.out (by omega) (by omega) hm (Nat.le_refl _)).mono ?_
  rintro e w2 ⟨A2, c2', rfl, ho2, hb2⟩
  have H2 := Lib.hid (H.out.below hb2)
  have HL2 := Lib.hid (HL.out.below hb2)
  have HB2 := Lib.hid hb2
  have HF2 : Hid (Fr w0 w2 (Mine db mb F)) := Lib.hid (Fr.of_below hb2)
  have HR2 : Hid (RdK w2 (Mine db mb F) A2 (m + 9) (frmP 1 xs)) := Lib.hid (RdK.of_own ho2 (fun b hb => H.out.notMine hb))
  have HBF : Hid (Bytes (frmP 1 xs)) := Lib.hid (frmP_bytes (by omega) (by omega) HBX.out (by rw [HXL.out]; exact hm))
  have c20 := HL2.out.c0
  have c21 := HL2.out.c1
  rw [hvd] at c20
  rw [hvn] at c21
  have HAP := Lib.hid (append_any (k := k) (d := c2') (H2.out.drewN 1) (by omega) hd (by omega) (by omega) (by omega) hc HGD.out.1 HGD.out.2.1 (show RdK (w2.drewN 1) (Mine db mb F) A2 (m + 9) (frmP 1 xs) from HR2.out) HBF.out hfit (by rw [HFA.out]; exact HF.out))
  rw [if_neg (by omega), hg, HFA.out] at HAP
  have HFD : Hid (Fr w0 (w2.drewN 1) (Mine db mb F)) := Lib.hid (HF2.out.trans (Fr.drewN w2 _ 1) (fun b hb => .inl hb))
  clear ho2 hb2 c0 c1
  go_wp2_with fail
  go_region_held3 (fun W => W.cell? ⟨lb, 0, none⟩ = some (.pointer (some ⟨db, 0, none⟩)) ∧ W.cell? ⟨lb, 1, none⟩ = some (.int .i64 k)) ((first | exact ⟨c30, c31⟩ | go_keep)) (first
    | (go_at_call 11; refine HAP.out.mono ?_; rintro e w3 ⟨rfl, f1, hbs1, hn1, hs1, hk3, hfr3, hmi3⟩; (have H3 := Lib.hid hk3); (have HP1 := Lib.hid (And.intro hbs1 (And.intro hn1 hs1))); (have HF3 : Hid (Fr w0 w3 (Mine db mb F)) := Lib.hid (HFD.out.trans hfr3 (fun b hb => .inl hb))); (have HM3 : Hid (∀ b, Mine db mb (putF F k f1) b → Mine db mb F b ∨ w0.heap.size ≤ b) := Lib.hid (fun b hb => (hmi3 b hb).imp id (fun h => Nat.le_trans HFD.out.size h))); (have HL3 : Hid (Lg w3 (fun b => Mine db mb (putF F k f1) b ∨ E b) B0 lb v bs rs) := Lib.hid (HL.out.turn (HF3.out.less (fun b hb => .inl hb)) (fun b hb => hb.elim (fun h => (HM3.out b h).imp .inl id) (fun h => .inl (.inr h))))); (have c30 := HL3.out.c0); (have c31 := HL3.out.c1); rw [hvd] at c30; rw [hvn] at c31; clear hbs1 hn1 hs1 hk3 hfr3 hmi3 HAP)
    | (go_at_call 44; refine (heed_other _ _ (by omega)).mono ?_; rintro e w4 ⟨rfl, rfl⟩))
  clear c20 c21 c30 c31 H2 HL2 HR2 HBF HFD HF2
  obtain ⟨M', hM'⟩ : ∃ M' : Nat → Prop, (fun b => (Mine db mb (putF F k f1) b ∨ E b) ∨ b = lb) = M' := ⟨_, rfl⟩
  have HMe := Lib.hid hM'
  have HROW : Hid (Row w4 M' B0 v.rv rs) := Lib.hid (by rw [← hM']; exact HL3.out.row)
  have HLM : Hid (∀ b, M' b → b < w4.heap.size) := Lib.hid (fun b hb => by
    rw [← hM'] at hb
    rcases hb with (h1 | h1) | h1
    · exact Nat.lt_of_not_le (fun h2 => H3.out.notMine h2 h1)
    · have := HE.out b h1; have := HF3.out.size; omega
    · rw [h1]; exact HL3.out.lt)
  have HXR : Hid (RdY w4.drew w4.heap.size A m xs) := Lib.hid ((HXX.out.turn HF3.out HM3.out).rd)
  have c43 := HL3.out.c3
  have f43 := HL3.out.fz 3
  have HBS : Hid (B0 ≤ w4.heap.size) := Lib.hid (by have := HL3.out.lt; have := HL3.out.ge; omega)
  have HCL := Lib.hid (cloneK_any (c := c) HXR.out (Nat.le_refl _) (by omega))
  clear hM'
  go_wp2_with fail
  go_region_law (first
    | (refine stepR_app (by rfl) _ _ (by rfl) M' B0 v.rv rs (by rfl) HROW6.out HLM6.out w5.heap.size A5 m c5 xs (by rfl) hc6 hrl HBS6.out HRK6.out HBX.out HM5.out (w5.heap.size + 1) (by simp) ?_; intro g cap w7 hrow7 hg7 hat7; (have hb57 := hg7.block lb (by have := HB5.out.size; have := HL3.out.lt; simp; omega) (fun e => HROW.out.nd lb e.symm (by rw [← HMe.out]; exact .inr rfl))); (have hce : w7.heap[lb]? = some (.cells (cellsL v) 83 (0, 0)) := hb57.trans ((HL3.out.below HB5.out).alloc (.cells #[.slice A5 m c5] 26)).cells); (have c73 := cellK_of_heap hce (i := 3) (x := v.rv) rfl); (have f73 := freeK_of_heap (i := 3) hce); (have HCE := Lib.hid hce); clear hce hb57)
    | (go_simp; go_at_call 36; refine HCL.out.mono ?_; rintro e w5 ⟨A5, c5, rfl, ho5, hb5'⟩; (have hb5 : Below w4.heap.size w4 w5 := ⟨hb5'.os, hb5'.tape, hb5'.output, hb5'.size, hb5'.block⟩); (have c53 : w5.cell? ⟨lb, 3, none⟩ = some v.rv := (hb5.cell (p := ⟨lb, 3, none⟩) (block_lt_of_cell c43)).trans c43); (have c63 : (w5.alloc (.cells #[.slice A5 m c5] 26)).cell? ⟨lb, 3, none⟩ = some v.rv := (World.cell?_alloc_lt w5 _ ⟨lb, 3, none⟩ (block_lt_of_cell c53)).trans c53); (have HROW6 : Hid (Row (w5.alloc (.cells #[.slice A5 m c5] 26)) M' B0 v.rv rs) := Lib.hid ((HROW.out.below hb5).below ((Below.refl _ _).alloc (Nat.le_refl _) _))); (have HLM6 : Hid (∀ b, M' b → b < (w5.alloc (.cells #[.slice A5 m c5] 26)).heap.size) := Lib.hid (fun b hb => by (have := HLM.out b hb); (have h5 : w4.heap.size ≤ w5.heap.size := hb5.size); simp; omega)); (have hc6 : (w5.alloc (.cells #[.slice A5 m c5] 26)).cell? ⟨w5.heap.size, 0, none⟩ = some (.slice A5 m c5) := by simp); (have HBS6 : Hid (B0 ≤ (w5.alloc (.cells #[.slice A5 m c5] 26)).heap.size) := Lib.hid (by (have := HBS.out); (have h5 : w4.heap.size ≤ w5.heap.size := hb5.size); simp; omega)); (have HRK6 : Hid (RdK (w5.alloc (.cells #[.slice A5 m c5] 26)) (fun b => M' b ∨ v.rv.ownBlock = some b) A5 m xs) := Lib.hid (RdK.of_own (ho5.alloc _) (fun b hb hb2 => by rcases hb2 with h1 | h1; (· have := HLM.out b h1; (have h5 : w4.heap.size ≤ b := hb); omega); (· have := HROW.out.block_lt b h1; (have h5 : w4.heap.size ≤ b := hb); omega)))); (have HM5 : Hid (m ≤ 1099511627776) := Lib.hid (by omega)); (have HB5 := Lib.hid hb5); clear ho5 hb5 hb5'))
  all_goals
    have c74 := cellK_of_heap HCE.out (i := 4) (x := .int .i64 v.sz) rfl
    have f74 := freeK_of_heap (i := 4) HCE.out
    have HPU := Lib.hid (HL3.out.pushed (D := fun b => Mine db mb (putF F k f1) b ∨ E b) (fun b hb => hb.elim (fun hb => Nat.lt_of_not_le (fun h2 => H3.out.notMine h2 hb)) (fun h1 => by have := HE.out b h1; have := HF3.out.size; omega)) HB5.out hg7 hat7 (rs' := rs ++ [xs]) (by rw [HMe.out]; exact hrow7) (fun x hx => by
      rcases List.mem_append.1 hx with h1 | h1
      · exact HL3.out.rb x h1
      · rw [List.mem_singleton.1 h1]; exact ⟨HBX.out, by rw [HXL.out]; exact hm⟩) (v.sz + ((m + 9 : Nat) : Int)))
    clear hg7 hat7 hrow7 HCE
    go_wp2
    go_ret
    refine ⟨rfl, f1, _, HP1.out.1, HP1.out.2.1, HP1.out.2.2, H3.out.fr HPU.out.2.1 (fun b hb => HL3.out.om b (.inl hb)), HPU.out.1, ?_, HM3.out⟩
    exact (HF3.out.less (M := LM (Mine db mb F) lb v) (fun b hb => .inl (.inl hb))).trans HPU.out.2.1 (fun b hb => hb.elim (fun h1 => .inl (.inl (.inr h1))) (fun h1 => .inl (.inr h1)))
end
set_option maxRecDepth 10000
def Fz (w : World) (A : Option Addr) (n : Nat) : Prop := 0 < n → ∃ b off, A = some ⟨b, off, none⟩ ∧ ∃ cur T, w.heap[b]? = some (.cells cur T (0, 0))
structure RowF (w : World) (M : Nat → Prop) (B0 : Nat) (v : Value) (rs : List (List Int)) : Prop where
  ex : ∃ vals : List Value, w.ownsRow B0 26 1 v rs.length vals ∧ ∀ j, j < rs.length → ∃ A n c, vals[j]? = some (.slice A n c) ∧ RdK w (fun b => M b ∨ v.ownBlock = some b) A n (rs.getD j []) ∧ Bytes (rs.getD j []) ∧ n ≤ 1099511627776 ∧ Fz w A n
  nd : ∀ g, v.ownBlock = some g → ¬ M g
theorem RowF.row {w : World} {M : Nat → Prop} {B0 : Nat} {v : Value} {rs : List (List Int)} (h : RowF w M B0 v rs) : Row w M B0 v rs := by
  obtain ⟨vals, ho, hj⟩ := h.ex
  exact ⟨⟨vals, ho, fun j hjk => by obtain ⟨A, n, c, h1, h2, h3, h4, _⟩ := hj j hjk; exact ⟨A, n, c, h1, h2, h3, h4⟩⟩, h.nd⟩
theorem RowF.nil_ (w : World) (M : Nat → Prop) (B0 : Nat) : RowF w M B0 (.slice none 0 0) [] := ⟨⟨[], World.ownsRow_nil _ _ _ _, fun j hj => absurd hj (Nat.not_lt_zero j)⟩, fun g h => by cases h⟩
theorem Fz.below {w w' : World} {A : Option Addr} {n : Nat} (h : Fz w A n) (hb : Below w.heap.size w w') : Fz w' A n := fun hn => by
  obtain ⟨b, off, e, cur, T, hh⟩ := h hn
  exact ⟨b, off, e, cur, T, (hb.block b (heapK_lt hh)).trans hh⟩
theorem Fz.own {w : World} {base n c : Nat} {A : Option Addr} {xs : List Int} (h : OwnY w base (.slice A n c) n xs) : Fz w A n := fun hn => by
  rcases h.2 with ⟨h1, h2⟩ | ⟨g, cap, cur, hv, _, hh, _⟩
  · injection h1 with e1 e2 e3
    omega
  · injection hv with e1 e2 e3
    exact ⟨g, 0, e1, cur, _, hh⟩
theorem RowF.below {w w' : World} {M : Nat → Prop} {B0 : Nat} {v : Value} {rs : List (List Int)} (h : RowF w M B0 v rs) (hb : Below w.heap.size w w') : RowF w' M B0 v rs := by
  have hlt := h.row.block_lt
  obtain ⟨vals, ho, hj⟩ := h.ex
  refine ⟨⟨vals, ⟨ho.1, ?_⟩, fun j hjk => ?_⟩, h.nd⟩
  · rcases ho.2 with h1 | ⟨g, cap, cur, hv, hbg, hh, r⟩
    · exact .inl h1
    · exact .inr ⟨g, cap, cur, hv, hbg, by rw [hb.block g (heapK_lt hh)]; exact hh, r⟩
  · obtain ⟨A, n, c, h1, h2, h3, h4, h5⟩ := hj j hjk
    exact ⟨A, n, c, h1, h2.turn (Fr.of_below hb) (fun b hb => .inl hb), h3, h4, h5.below hb⟩
theorem RowF.at_ {w : World} {M : Nat → Prop} {B0 : Nat} {rs : List (List Int)} {A : Option Addr} {k c j : Nat} (h : RowF w M B0 (.slice A k c) rs) (hj : j < rs.length) :
    ∃ b P n d, A = some ⟨b, 0, none⟩ ∧ w.cell? ⟨b, j, none⟩ = some (.slice P n d) ∧ RdK w (fun b' => M b' ∨ b = b') P n (rs.getD j []) ∧ n ≤ 1099511627776 ∧ Fz w P n ∧ ¬ M b ∧ b < w.heap.size := by
  have hlt := h.row.block_lt
  have hnd := h.nd
  obtain ⟨vals, ho, hv⟩ := h.ex
  obtain ⟨P, n, d, e, hr, hby, hn, hf⟩ := hv j hj
  obtain ⟨g, cap, hg, _, _⟩ := World.ownsRow.form ho (by omega)
  injection hg with h1 h2 h3
  subst h1 h2 h3
  exact ⟨g, P, n, d, rfl, by rw [ho.cellAt j (by omega)]; exact e, hr.weak (fun b hb => hb.elim (fun h => .inl (.inl h)) (fun h => .inl (.inr (by rw [h]; rfl)))), hn, hf, hnd g rfl, hlt g rfl⟩
theorem rowPushF {w w' : World} {M : Nat → Prop} {B0 : Nat} {v v' : Value} {rs : List (List Int)} {vals : List Value} {A : Option Addr} {n c : Nat} {xs : List Int} (hown : w.ownsRow B0 26 1 v rs.length vals)
    (hj : ∀ j, j < rs.length → ∃ A n c, vals[j]? = some (.slice A n c) ∧ RdK w (fun b => M b ∨ v.ownBlock = some b) A n (rs.getD j []) ∧ Bytes (rs.getD j []) ∧ n ≤ 1099511627776 ∧ Fz w A n) (hnd : ∀ g, v.ownBlock = some g → ¬ M g)
    (hMs : ∀ b, M b → b < w.heap.size) (hr : RdK w (fun b => M b ∨ v.ownBlock = some b) A n xs) (hby : Bytes xs) (hn : n ≤ 1099511627776) (hfz : Fz w A n)
    (hown' : w'.ownsRow B0 26 1 v' (rs.length + 1) (vals ++ [.slice A n c])) (hg : w.grownBy w' v.ownBlock) (hat : v'.ownBlock = v.ownBlock ∨ v'.ownBlock = some w.heap.size) : RowF w' M B0 v' (rs ++ [xs]) := by
  have hkf : ∀ {A : Option Addr} {n : Nat} {ys : List Int}, RdK w (fun b => M b ∨ v.ownBlock = some b) A n ys → Fz w A n → Fz w' A n := by
    intro A n ys h0 hf hn
    obtain ⟨b, off, e, cur, T, hh⟩ := hf hn
    obtain ⟨b2, off2, e2, _, hnb, _⟩ := h0.2 hn
    rw [e] at e2
    injection e2 with e2
    injection e2 with e3 e4
    subst e3
    exact ⟨b, off, e, cur, T, (hg.block b (heapK_lt hh) (fun e => hnb (.inr e.symm))).trans hh⟩
  have hkeep : ∀ {A : Option Addr} {n : Nat} {ys : List Int}, RdK w (fun b => M b ∨ v.ownBlock = some b) A n ys → RdK w' (fun b => M b ∨ v'.ownBlock = some b) A n ys := by
    intro A n ys h0
    refine h0.turn ⟨hg.os, hg.tape, hg.output, hg.size, fun b' hb' hnb => hg.block b' hb' (fun e => hnb (.inr e.symm))⟩ (fun b' hb' => ?_)
    rcases hb' with h3 | h3
    · exact .inl (.inl h3)
    · rcases hat with h4 | h4
      · exact .inl (.inr (by rw [← h4]; exact h3))
      · have h5 : some w.heap.size = some b' := h4.symm.trans h3
        injection h5 with h5
        right; omega
  refine ⟨⟨vals ++ [.slice A n c], by rw [List.length_append]; exact hown', fun j hjk => ?_⟩, fun g hg2 => ?_⟩
  · rw [List.length_append, List.length_singleton] at hjk
    by_cases hlt2 : j < rs.length
    · obtain ⟨A', n', c', e, hr', hby', hn', hf'⟩ := hj j hlt2
      have e2 : (rs ++ [xs]).getD j [] = rs.getD j [] := by
        rw [List.getD_eq_getElem?_getD, List.getElem?_append_left hlt2, ← List.getD_eq_getElem?_getD]
      rw [e2]
      exact ⟨A', n', c', by rw [List.getElem?_append_left (by rw [rowLen hown]; omega)]; exact e, hkeep hr', hby', hn', hkf hr' hf'⟩
    · obtain rfl : j = rs.length := by omega
      have e2 : (rs ++ [xs]).getD rs.length [] = xs := by
        rw [List.getD_eq_getElem?_getD, List.getElem?_append_right (Nat.le_refl _), Nat.sub_self]; rfl
      rw [e2]
      exact ⟨A, n, c, by rw [List.getElem?_append_right (by rw [rowLen hown]; exact Nat.le_refl _), rowLen hown, Nat.sub_self]; rfl, hkeep hr, hby, hn, hkf hr hfz⟩
  · rcases hat with h4 | h4
    · exact hnd g (by rw [← h4]; exact hg2)
    · have h5 : some w.heap.size = some g := h4.symm.trans hg2
      injection h5 with h5
      intro hM
      have := hMs g hM
      omega
/-- 'append(s, x)', one text. -/
theorem wplF_app {w : World} {ops : Array Oper} {rest : List Oper} {o : Oper} {a : Act} {Q : Exit → Act → World → Prop} (hgd : o.guard = none) (s x : Operand)
    (ho : o.op = .call { callee := .builtin .append, args := #[s, x], argTypes := #[34, 34] })
    (M : Nat → Prop) (B0 : Nat) (v : Value) (rs : List (List Int)) (hs : a.eval s = v) (hrow : RowF w M B0 v rs) (hMs : ∀ b, M b → b < w.heap.size)
    (b : Nat) (A : Option Addr) (n c : Nat) (xs : List Int) (hx : a.eval x = .slice (some ⟨b, 0, none⟩) 1 1) (hc : w.cell? ⟨b, 0, none⟩ = some (.slice A n c)) (hk : rs.length ≤ 1000000000) (hbase : B0 ≤ w.heap.size)
    (hr : RdK w (fun b => M b ∨ v.ownBlock = some b) A n xs) (hby : Bytes xs) (hn : n ≤ 1099511627776) (hfz : Fz w A n)
    (h : ∀ g cap w', RowF w' M B0 (.slice (some ⟨g, 0, none⟩) (rs.length + 1) cap) (rs ++ [xs]) → w.grownBy w' v.ownBlock → (v.ownBlock = some g ∨ g = w.heap.size) → wpList Try.prog ops Q rest (a.put o.dst (.slice (some ⟨g, 0, none⟩) (rs.length + 1) cap)) w') :
    wpList Try.prog ops Q (o :: rest) a w := by
  obtain ⟨i0, hi, hz0, hz1, hz2⟩ := info_parts rowInfo
  have hnd := hrow.nd
  obtain ⟨vals, hown, hj⟩ := hrow.ex
  refine wpList_append_own_at w hgd s x 34 ho B0 26 i0 (.slice none 0 0) 1 24 Try.underlying34 hi hz0 hz1 hz2 rfl (by decide) v rs.length _ hs hown ⟨b, 0, none⟩ 1 1 [.slice A n c] hx rfl ?_ ?_ (by unfold maxLen; omega) (by omega) hbase ?_
  · intro j z hj
    match j, hj with
    | 0, hj => simp at hj; subst hj; simpa [Addr.add] using hc
  · intro z hz; simp at hz; subst hz; rfl
  · intro v' w' hown' hg _ hat
    obtain ⟨g, cap, hv, hbg, hlt⟩ := World.ownsRow.form hown' (by omega)
    subst hv
    exact h g cap w' (rowPushF hown hj hnd hMs hr hby hn hfz hown' hg hat) hg (by
      rcases hat with h | h
      · exact .inl h.symm
      · right; have : some g = some w.heap.size := h; injection this)

section
variable {w : World} {D : Nat → Prop} {B0 lb : Nat} {v : LgV} {bs : List Int} {rs : List (List Int)}
set_option maxHeartbeats 1000000 in
theorem records_free (h : Lg w D B0 lb v bs rs) (hl : rs.length ≤ 1000000000) : Calls Try.prog 21 #[.pointer (some ⟨lb, 0, none⟩)] w fun e w' => ∃ A c, e = .returned (.slice A rs.length c) ∧ RowF w' (fun b => b < w.heap.size) w.heap.size (.slice A rs.length c) rs ∧ Below w.heap.size w w' := by
  have c3 := h.c3
  obtain ⟨A0, c0, he⟩ := h.row.shape
  have HROW := Lib.hid h.row
  rw [he] at c3 HROW
  have HRB := Lib.hid h.rb
  clear h he
  go_enter Try.func21, Try.ntmps21
  go_wp2_with fail
  go_loopw [3, 12] (fun s i wr => ∃ (j : Nat) (A : Option Addr) (c : Nat), j ≤ rs.length ∧ s = .slice A j c ∧ i = .int .i64 (j : Int) ∧ Hid (RowF wr (fun b => b < w.heap.size) w.heap.size (.slice A j c) (rs.take j)) ∧ Hid (Below w.heap.size w wr)) (fun _ i _ => rs.length - (intOf i).toNat)
  case atStart => exact ⟨0, none, 0, by omega, rfl, rfl, Lib.hid (RowF.nil_ _ _ _), Lib.hid (Below.refl _ _)⟩
  case round =>
    obtain ⟨j, A, c, hj, rfl, rfl, HR, HB⟩ := hrel
    by_cases hlt : j < rs.length
    · have hs := HB.out.size
      obtain ⟨b, P, n, d, rfl, hc, hr, hby, hn, _, _⟩ := (HROW.out.below HB.out).at_ hlt
      have HRD := Lib.hid hr.rd
      have HBY := Lib.hid hby
      have hlk : (rs.take j).length = j := by rw [List.length_take]; omega
      clear hr hby
      go_wp2_with fail
      refine (cloneK_any HRD.out (Nat.le_refl _) hn).mono ?_
      rintro e w1 ⟨A1, c1, rfl, ho1, hb1⟩
      have HR1 := Lib.hid (HR.out.below hb1)
      have HB1 : Hid (Below w.heap.size w w1) := Lib.hid (HB.out.trans (hb1.mono hs))
      have HFZ : Hid (Fz (w1.alloc (.cells #[.slice A1 n c1] 26)) A1 n) := Lib.hid (Fz.own (ho1.alloc _))
      have HRK : Hid (RdK (w1.alloc (.cells #[.slice A1 n c1] 26)) (fun b => b < w.heap.size ∨ (Value.slice A j c).ownBlock = some b) A1 n (rs.getD j [])) := Lib.hid (RdK.of_own (ho1.alloc _) (fun b hb h2 => by
        rcases h2 with h3 | h3
        · omega
        · have := HR.out.row.block_lt b h3; omega))
      have hs1 := HB1.out.size
      clear ho1 hb1
      go_wp2_with (at_builtin; refine wplF_app rfl _ _ rfl (fun b => b < w.heap.size) w.heap.size (.slice A j c) (rs.take j) rfl (HR1.out.below ((Below.refl _ _).alloc (Nat.le_refl _) _)) (fun b hb => by simp; omega) w1.heap.size A1 n c1 (rs.getD j []) rfl (by simp) (by omega) (by simp; omega) HRK.out HBY.out hn HFZ.out ?_; intro g cap w2 hrow2 hg2 hat2)
      have HR2 : Hid (RowF w2 (fun b => b < w.heap.size) w.heap.size (.slice (some ⟨g, 0, none⟩) (j + 1) cap) (rs.take (j + 1))) := Lib.hid (by
        rw [take_snocR rs j hlt]
        rw [hlk] at hrow2
        exact hrow2)
      have HB2 : Hid (Below w.heap.size w w2) := Lib.hid ((HB1.out.alloc hs1 _).grown hg2 (by simp; omega) (fun b hb => HR.out.row.block_ge b hb))
      clear hrow2 hg2 hat2
      go_roundw
      case rel => exact ⟨j + 1, _, _, by omega, rfl, by go_num, HR2, HB2⟩
      case measure => simp [intOf]; omega
    · obtain rfl : j = rs.length := by omega
      have HF : Hid (rs.take rs.length = rs) := Lib.hid (List.take_of_length_le (Nat.le_refl _))
      go_wp2
      go_ret
      exact ⟨A, c, rfl, by have := HR.out; rw [HF.out] at this; exact this, HB.out⟩
end
/-- Bytes that can be written. -/
def U8F (w : World) (A : Option Addr) (n : Nat) : Prop := 0 < n → ∃ b off, A = some ⟨b, off, none⟩ ∧ b < w.heap.size ∧ (∀ i, w.frozen? ⟨b, i, none⟩ = false) ∧ ∀ k, k < n → ∃ x, w.cell? ⟨b, off + k, none⟩ = some (.int .u8 x)
theorem U8F.of {w : World} {M : Nat → Prop} {A : Option Addr} {n : Nat} {xs : List Int} (h : RdK w M A n xs) (hf : Fz w A n) : U8F w A n := fun hn => by
  obtain ⟨b, off, e, hlt, _, hc⟩ := h.2 hn
  obtain ⟨b2, off2, e2, cur, T, hh⟩ := hf hn
  rw [e] at e2
  injection e2 with e2
  injection e2 with e3 e4
  subst e3
  exact ⟨b, off, e, hlt, fun i => freeK_of_heap hh, fun k hk => ⟨_, hc k hk⟩⟩
theorem U8F.set {w : World} {A : Option Addr} {n : Nat} (h : U8F w A n) (p : Addr) (y : Int) : U8F (w.setCell p (.int .u8 y)) A n := fun hn => by
  obtain ⟨b, off, e, hlt, hf, hc⟩ := h hn
  refine ⟨b, off, e, by rw [World.size_setCell]; exact hlt, fun i => by rw [World.frozen?_setCell]; exact hf i, fun k hk => ?_⟩
  obtain ⟨x, hx⟩ := hc k hk
  by_cases hp : p = ⟨b, off + k, none⟩
  · subst hp
    exact ⟨y, World.cell?_setCell_same _ _ _ hx⟩
  · exact ⟨x, by rw [World.cell?_setCell_other _ _ _ _ hp]; exact hx⟩
def InB (A : Option Addr) (n b : Nat) : Prop := 0 < n ∧ ∃ off, A = some ⟨b, off, none⟩
set_option maxHeartbeats 1000000 in
theorem spoil_any {w : World} {A : Option Addr} {n c : Nat} (h : U8F w A n) (hn : n ≤ 9223372036854775806) :
    Calls Try.prog 31 #[.slice A n c] w fun e w' => e = .returned (.tuple #[]) ∧ (∀ A' n', U8F w A' n' → U8F w' A' n') ∧ Fr w w' (InB A n) := by
  have H := Lib.hid h
  clear h
  go_enter Try.func31, Try.ntmps31
  go_wp2
  go_loopw [5] (fun i wr => ∃ j : Nat, j ≤ n ∧ i = .int .i64 (j : Int) ∧ Hid (∀ A' n', U8F w A' n' → U8F wr A' n') ∧ Hid (Fr w wr (InB A n))) (fun i _ => n - (intOf i).toNat)
  case atStart => exact ⟨0, Nat.zero_le _, rfl, Lib.hid (fun _ _ h => h), Lib.hid (Fr.refl _ _)⟩
  case round =>
    obtain ⟨j, hj, rfl, HU, HF⟩ := hrel
    by_cases hlt : j < n
    · obtain ⟨b, off, rfl, hb, hf, hc⟩ := HU.out A n H.out (by omega)
      obtain ⟨x, hx⟩ := hc j hlt
      have hfz := hf (off + j)
      clear hf hc
      go_wp2
      exact ⟨⟨j + 1, by omega, rfl, Lib.hid (fun A' n' h => (HU.out A' n' h).set _ _), Lib.hid (HF.out.trans (Fr.setCell wr (InB (some ⟨b, off, none⟩) n) (p := ⟨b, off + j, none⟩) ⟨by omega, off, rfl⟩ _) (fun b hb => .inl hb))⟩, by simp [intOf]; omega⟩
    · obtain rfl : j = n := by omega
      go_wp2
      go_end0
      exact ⟨rfl, HU.out, HF.out⟩
set_option maxRecDepth 10000
section
variable {w w' : World} {E : Nat → Prop} {B0 db mb lb K name : Nat} {cap : Int} {F : Int → Option Fi} {f : Fi} {v : LgV} {bs : List Int} {rs : List (List Int)}
theorem WJ.appendE (h : WJ w B0 db mb lb K cap name F f v bs rs) (hL : Lg w (fun b => Mine db mb F b ∨ E b) B0 lb v bs rs) (hE : ∀ b, E b → b < w.heap.size) (hK : K ≤ 999999990) (hc : cap ≤ 16777216) {m c : Nat} {A : Option Addr} {xs : List Int} (hx : RdK w (WM db mb F lb v) A m xs) (hb : Bytes xs) (hm : m ≤ 65535) (hfit : (((logL bs rs).length + (m + 9) : Nat) : Int) ≤ cap) :
    Calls Try.prog 24 #[.pointer (some ⟨lb, 0, none⟩), .slice A m c] w fun e w' => e = .returned (.int .i64 0) ∧ ∃ F' f' v', WJ w' B0 db mb lb (K + 1) cap name F' f' v' bs (rs ++ [xs]) ∧ Fr w w' (WM db mb F lb v) ∧ Lg w' (fun b => Mine db mb F' b ∨ E b) B0 lb v' bs (rs ++ [xs]) ∧ (∀ b, Mine db mb F' b → Mine db mb F b ∨ w.heap.size ≤ b) := by
  have hxl := hx.1
  have hlen := logL_length_snoc bs rs xs
  rw [hxl] at hlen
  have hrl : rs.length ≤ 1000000000 := by
    have h1 : rs.length ≤ (recsL rs).length := by
      clear h hL hx hlen hfit
      induction rs with
      | nil => exact Nat.zero_le _
      | cons y t ih => rw [recsL, List.length_append, frmP_length, List.length_cons]; omega
    have h2 : (recsL rs).length ≤ (logL bs rs).length := by unfold logL; rw [List.length_append]; omega
    omega
  refine (lappend_okE h.dk hL hE h.vdb h.vcl hK rfl rfl (show (0 : Int) ≤ ((logL bs rs).length : Int) by omega) hc h.vnm h.one hrl (by rw [h.vsz]; omega) (by rw [h.vsz]; omega) h.mbge (hx.weak (fun b hb => .inl (.inl (.inl hb)))) hb hm (by show ((logL bs rs).length : Int) + _ ≤ cap; omega) (by rw [h.fn]; omega)).mono ?_
  rintro e w' ⟨rfl, f', rv', h1, h2, h3, h4, h5, h6, h7⟩
  refine ⟨rfl, _, f', _, ⟨?_, putF_same _ _ _, fun x hx => putF_oth h f' hx, ?_, ?_, h5.turn (Fr.refl _ _) (fun b hb => .inl (.inl hb)), h.vdb, h.vnm, h.vcl, ?_, h.mbge, Nat.le_trans h.base0 h6.size⟩, h6, h5, h7⟩
  · rw [hlen]
    have : ((((logL bs rs).length + (m + 9) : Nat)) : Int) = ((logL bs rs).length : Int) + ((m + 9 : Nat) : Int) := by omega
    rw [this]
    exact h4
  · rw [h1, h.fb, logL_snoc]
  · rw [h2, h.fn, hlen]
  · rw [hlen]
    show v.sz + _ = _
    rw [h.vsz]
    omega
theorem WJ.rotateE (h : WJ w B0 db mb lb K cap name F f v bs rs) (hL : Lg w (fun b => Mine db mb F b ∨ E b) B0 lb v bs rs) (hE : ∀ b, E b → b < w.heap.size) (hK : K ≤ 999999990) (hc : cap ≤ 16777216) (hn : name + 1 ≤ 999999) {m c : Nat} {A : Option Addr} {xs : List Int} (hx : RdK w (WM db mb F lb v) A m xs) (hb : Bytes xs) (hm : m ≤ 65535) (hfit : (((logL bs rs).length + (m + 9) : Nat) : Int) ≤ cap) :
    Calls Try.prog 26 #[.pointer (some ⟨lb, 0, none⟩), .slice A m c] w fun e w' => e = .returned (.int .i64 0) ∧ ∃ F' f' v', WJ w' B0 db mb lb (K + 2) cap (name + 1) F' f' v' xs [] ∧ Fr w w' (WM db mb F lb v) ∧ Lg w' (fun b => Mine db mb F' b ∨ E b) B0 lb v' xs [] ∧ (∀ b, Mine db mb F' b → Mine db mb F b ∨ w.heap.size ≤ b) := by
  have hxl := hx.1
  have hlen := logL_length_nil xs
  rw [hxl] at hlen
  refine (rotate_okE h.dk hL hE h.vdb h.vcl hK rfl rfl (show (0 : Int) ≤ ((logL bs rs).length : Int) by omega) hc h.vnm h.one (by omega) (h.oth _ (by omega)) (hx.weak (fun b hb => .inl (.inl hb))) hb hm (by show ((logL bs rs).length : Int) + _ ≤ cap; omega) (by rw [h.fn]; exact Int.le_refl _)).mono ?_
  rintro e w' ⟨rfl, f', bA', bc', h1, h2, h3, h4, h5, h6, h7⟩
  have hne : ((name : Int) + 1) ≠ (name : Int) := by omega
  have hcast : ((name + 1 : Nat) : Int) = (name : Int) + 1 := by omega
  refine ⟨rfl, _, f', _, ⟨?_, ?_, fun x hx => ?_, ?_, ?_, h5.turn (Fr.refl _ _) (fun b hb => .inl (.inl hb)), h.vdb, ?_, h.vcl, ?_, h.mbge, Nat.le_trans h.base0 h6.size⟩, ?_, h5, h7⟩
  · have e : ((logL bs rs).length : Int) + ((m + 9 : Nat) : Int) - (f.n : Int) = ((logL xs []).length : Int) := by rw [hlen, h.fn]; omega
    rw [← e]
    exact h4
  · rw [hcast, delF_oth _ hne, putF_same]
  · rw [hcast] at hx
    by_cases e : x = (name : Int)
    · subst e; unfold delF; rw [if_pos rfl]
    · rw [delF_oth _ e, putF_other _ _ hx]; exact h.oth x e
  · rw [h1, logL_nil]
  · rw [h2, hlen]
  · rw [hcast]
  · rw [hlen]
  · exact h6.less (fun b hb => hb.elim (fun h1 => .inl (.inl h1)) (fun h1 => .inl (.inr h1)))
/-- What is changed lies apart from the dock and the log. -/
theorem WJ.aside (h : WJ w B0 db mb lb K cap name F f v bs rs) (hL : Lg w (fun b => Mine db mb F b ∨ E b) B0 lb v bs rs) {M : Nat → Prop} (hf : Fr w w' M) (hME : ∀ b, M b → E b) (hno : ∀ b, M b → ¬ Mine db mb F b) : WJ w' B0 db mb lb K cap name F f v bs rs :=
  ⟨h.dk.fr hf (fun b hb hm => hno b hm hb), h.one, h.oth, h.fb, h.fn, hL.turn (hf.less (fun b hb => .inr (hME b hb))) (fun b hb => .inl (.inl hb)), h.vdb, h.vnm, h.vcl, h.vsz, h.mbge, Nat.le_trans h.base0 hf.size⟩
theorem WJ.wlt (h : WJ w B0 db mb lb K cap name F f v bs rs) : ∀ b, WM db mb F lb v b → b < w.heap.size := fun b hb => by
  rcases hb with (h2 | h2) | h2
  · exact Nat.lt_of_not_le (fun h3 => h.dk.notMine h3 h2)
  · rw [h2]; exact h.lg.lt
  · exact h.lg.row.block_lt b h2
/-- A slice that was made behind, ahead of the call. -/
theorem WJ.given (h : WJ w B0 db mb lb K cap name F f v bs rs) (hb : Below w.heap.size w w') {A : Option Addr} {n c : Nat} {xs : List Int} (ho : OwnY w' w.heap.size (.slice A n c) n xs) :
    WJ w' B0 db mb lb K cap name F f v bs rs ∧ Lg w' (fun b => Mine db mb F b ∨ InB A n b) B0 lb v bs rs ∧ (∀ b, InB A n b → w.heap.size ≤ b ∧ b < w'.heap.size) ∧ RdK w' (WM db mb F lb v) A n xs := by
  have hin : ∀ b, InB A n b → w.heap.size ≤ b ∧ b < w'.heap.size := fun b ⟨hn, off, e⟩ => by
    subst e
    rcases ho.2 with ⟨h1, h2⟩ | ⟨g, cap, cur, hv, hge, hh, _⟩
    · cases h1
    · injection hv with e1 e2 e3
      injection e1 with e1
      injection e1 with e4 e5
      subst e4
      exact ⟨hge, heapK_lt hh⟩
  refine ⟨h.below hb, h.lg.turn (Fr.of_below hb) (fun b hb2 => hb2.elim .inl (fun h2 => .inr (hin b h2).1)), hin, RdK.of_own ho (fun b hb2 hm => ?_)⟩
  have := h.wlt b hm
  omega
end
/-- Behind the call: the slice can be spoilt, and the log stays. -/
theorem WJ.spoilt {w w3 w4 : World} {B0 db mb lb K K' name name' : Nat} {cap : Int} {F F' : Int → Option Fi} {f f' : Fi} {v v' : LgV} {bs bs' : List Int} {rs rs' : List (List Int)} {A : Option Addr} {n c : Nat} {xs : List Int}
    (h : WJ w B0 db mb lb K cap name F f v bs rs) (ho : OwnY w3 w.heap.size (.slice A n c) n xs) (hin : ∀ b, InB A n b → w.heap.size ≤ b ∧ b < w3.heap.size) (hs : w.heap.size ≤ w3.heap.size)
    (h4 : WJ w4 B0 db mb lb K' cap name' F' f' v' bs' rs') (hL4 : Lg w4 (fun b => Mine db mb F' b ∨ InB A n b) B0 lb v' bs' rs') (hf : Fr w3 w4 (WM db mb F lb v)) (hmi : ∀ b, Mine db mb F' b → Mine db mb F b ∨ w3.heap.size ≤ b) :
    U8F w4 A n ∧ ∀ w5, Fr w4 w5 (InB A n) → WJ w5 B0 db mb lb K' cap name' F' f' v' bs' rs' ∧ Below B0 w4 w5 := by
  have ho4 : OwnY w4 w.heap.size (.slice A n c) n xs := own_heap ho (fun g hg hlt => hf.block g hlt (fun hm => by
    have h1 := ho.ge g hg
    have h2 := h.wlt g hm
    omega))
  refine ⟨U8F.of (RdK.of_own ho4 (M := fun _ => False) (fun _ _ h => h)) (Fz.own ho4), fun w5 h5 => ⟨h4.aside hL4 h5 (fun b hb => hb) (fun b hb hm => ?_), fr_base h5 (fun b hb => ?_) h4.base0⟩⟩
  · have h6 := hin b hb
    rcases hmi b hm with h7 | h7
    · exact h.dk.notMine h6.1 h7
    · omega
  · have := (hin b hb).1
    have := h.base0
    omega
end Go.Proofs.Yticklaophgekeaa
