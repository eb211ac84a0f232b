/-
  CONTRACTS of package wal, over this translation: Rotate, where all goes well.
-/
import Derived.Test.YtadajkgiijpakaaWLay
import Derived.Test.YtadajkgiijpakaaWPsh
namespace Go.Proofs.Ytadajkgiijpakaa
open Go.RowKit
open ByteP
set_option linter.unusedVariables false
set_option maxRecDepth 10000
theorem mine_del {db mb : Nat} {F : Int → Option Fi} {k : Int} (b : Nat) (h : Mine db mb (delF F k) b) : Mine db mb F b := by
  rcases h with e | e | ⟨k', f, hf, e⟩
  · exact .inl e
  · exact .inr (.inl e)
  · refine .inr (.inr ⟨k', f, ?_, e⟩)
    unfold delF at hf
    by_cases hk : k' = k
    · rw [if_pos hk] at hf; cases hf
    · rw [if_neg hk] at hf; exact hf
theorem Lg.named {w : World} {D : Nat → Prop} {B0 lb : Nat} {v : LgV} {bs : List Int} {rs : List (List Int)} (h : Lg w D B0 lb v bs rs) (k : Int) : Lg (w.setCell ⟨lb, 1, none⟩ (.int .i64 k)) D B0 lb { v with nm := k } bs rs := by
  have hF : Fr w (w.setCell ⟨lb, 1, none⟩ (.int .i64 k)) (fun b => b = lb) := Fr.setCell w (fun b => b = lb) (p := ⟨lb, 1, none⟩) rfl _
  have hlt := h.lt
  have hs := hF.size
  refine ⟨by omega, h.ge, h.nd, heap_setCell_same w lb 1 _ _ (.int .i64 k) h.cells, ?_, h.bb, h.bl, ?_, h.rb⟩
  · exact h.base.turn (M' := LM D lb { v with nm := k }) ⟨hF.os, hF.tape, hF.output, hF.size, fun b hb hn => hF.block b hb (fun h1 => hn (.inl (.inr h1)))⟩ (fun b hb => .inl hb)
  · exact h.row.turn ⟨hF.os, hF.tape, hF.output, hF.size, fun b hb hn => hF.block b hb (fun h1 => hn (.inr h1))⟩ (fun b hb => .inl hb)
section
variable {w : World} {B0 lb db mb K : Nat} {n : Nm} {F : Int → Option Fi} {v : LgV} {bs : List Int} {rs : List (List Int)}
set_option maxHeartbeats 4000000 in
theorem rotate_ok (h : Dk w db mb K n F) (hL : Lg w (Mine db mb F) B0 lb v bs rs) (hvd : v.db = db) (hcl : v.cl = false) (hK : K ≤ 999999990) (hd : n.down = false) (hl : n.left = -1) (hs0 : 0 ≤ n.size) (hc : n.cap ≤ 16777216) {k : Int} (hvn : v.nm = k) {f : Fi} (hf : F k = some f) (hk1 : k + 1 ≤ 999999) (hf1 : F (k + 1) = none)
    {m c : Nat} {A : Option Addr} {xs : List Int} (hx : RdK w (fun b => Mine db mb F b ∨ b = lb) A m xs) (hb : Bytes xs) (hm : m ≤ 65535) (hfit : n.size + ((m + 9 : Nat) : Int) ≤ n.cap) (hfn : (f.n : Int) ≤ n.size) :
    Calls Try.prog 26 #[.pointer (some ⟨lb, 0, none⟩), .slice A m c] w fun e w' => e = .returned (.int .i64 0) ∧
      ∃ f' bA' bc', f'.bs = frmP 0 xs ∧ f'.n = m + 9 ∧ f'.s = m + 9 ∧ Dk w' db mb (K + 2) { n with size := n.size + ((m + 9 : Nat) : Int) - (f.n : Int) } (delF (putF F (k + 1) f') k) ∧
        Lg w' (Mine db mb (delF (putF F (k + 1) f') k)) B0 lb { v with nm := k + 1, bA := bA', bn := m, bc := bc', rv := .slice none 0 0, sz := ((m + 9 : Nat) : Int) } xs [] ∧
        Fr w w' (fun b => Mine db mb F b ∨ b = lb) ∧ (∀ b, Mine db mb (delF (putF F (k + 1) f') k) b → Mine db mb F b ∨ w.heap.size ≤ b) := by
  have hgood := h.good k f hf
  have hfa : fileAt F (k + 1) = noFi := by unfold fileAt; rw [hf1]; rfl
  have c1 := hL.c1
  rw [hvn] at c1
  have hw1 : IntKind.i64.wrap (k + 1) = k + 1 := IntWalk.i64_in _ (by omega)
  have hxw : RdK w (Mine db mb F) A m xs := hx.weak (fun b hb => .inl (.inl hb))
  have HL := Lib.hid hL
  have H := Lib.hid h
  have HXX := Lib.hid hx
  have HBX := Lib.hid hb
  have HXL : Hid (xs.length = m) := Lib.hid hx.1
  have HGD := Lib.hid hgood
  have HFA := Lib.hid hfa
  have HFK : Hid (F k = some f) := Lib.hid hf
  have HLY := Lib.hid (lay_ok (k := k + 1) (c := c) h hL hvd hK hd hl hs0 hc (by omega) hk1 hxw.rd (Nat.le_refl _) hb hm hfit (by rw [hfa]; simp [noFi]; omega))
  clear h hL hx hxw hb hgood hfa hf hf1
  go_enter Try.func26, Try.ntmps26
  go_wp2_with (go_at_call 42; refine (checkOpen_ok HL.out hcl hm).mono ?_; rintro e w0 ⟨rfl, rfl⟩)
  refine HLY.out.mono ?_
  rintro e w2 ⟨rfl, f1, hbs1, hn1, hs1, hk2, hfr2, hmi2⟩
  have HP1 : Hid (f1.bs = frmP 0 xs ∧ f1.n = m + 9 ∧ f1.s = m + 9) := Lib.hid (by
    rw [HFA.out] at hbs1 hn1
    have e2 : f1.n = m + 9 := by rw [hn1]; show 0 + (m + 9) = _; omega
    exact ⟨by rw [hbs1]; rfl, e2, hs1.trans e2⟩)
  have H2 := Lib.hid hk2
  have HF2 := Lib.hid hfr2
  have HM2 := Lib.hid hmi2
  have HL2 := Lib.hid (HL.out.turn hfr2 hmi2)
  have hkk : k ≠ k + 1 := by omega
  have HRM := Lib.hid (remove_ok (k := k) (f := f) (H2.out.drewN 1) hd (by show -1 ≤ n.left; omega) (by show n.left ≤ _; omega) (by show n.left ≠ 0; omega) (by show _ ≤ n.size + _; omega) (by show n.size + _ ≤ _; omega) (by rw [putF_other _ _ hkk]; exact HFK.out))
  have c20 := HL2.out.c0
  have c21 := HL2.out.c1
  rw [hvd] at c20
  rw [hvn] at c21
  clear hbs1 hn1 hs1 hk2 hfr2 hmi2 HLY c1 hw1
  go_wp2_with fail
  go_region_held3 (fun W => W.cell? ⟨lb, 0, none⟩ = some (.pointer (some ⟨db, 0, none⟩)) ∧ W.cell? ⟨lb, 1, none⟩ = some (.int .i64 k)) ((first | exact ⟨c30, c31⟩ | go_keep)) (first
    | (go_at_call 39; refine HRM.out.mono ?_; rintro e w3 ⟨rfl, hk3, hfr3⟩; (have H3 := Lib.hid hk3); (have HF3 : Hid (Fr w0 w3 (Mine db mb F)) := Lib.hid ((HF2.out.trans (Fr.drewN w2 (Mine db mb (putF F (k + 1) f1)) 1) HM2.out).trans hfr3 HM2.out)); (have HM3 : Hid (∀ b, Mine db mb (delF (putF F (k + 1) f1) k) b → Mine db mb F b ∨ w0.heap.size ≤ b) := Lib.hid (fun b hb => HM2.out b (mine_del b hb))); (have HL3 := Lib.hid (HL.out.turn HF3.out HM3.out)); (have c30 := HL3.out.c0); (have c31 := HL3.out.c1); rw [hvd] at c30; rw [hvn] at c31; clear hk3 hfr3 HRM)
    | (go_at_call 44; refine (heed_other _ _ (by omega)).mono ?_; rintro e w4 ⟨rfl, rfl⟩))
  have f31 := HL3.out.fz 1
  obtain ⟨w5, HW5⟩ : ∃ w5, Hid (w4.setCell ⟨lb, 1, none⟩ (.int .i64 (k + 1)) = w5) := ⟨_, Lib.hid rfl⟩
  have HL5 : Hid (Lg w5 (Mine db mb (delF (putF F (k + 1) f1) k)) B0 lb { v with nm := k + 1 } bs rs) := Lib.hid (by rw [← HW5.out]; exact HL3.out.named (k + 1))
  have HF45 : Hid (Fr w4 w5 (fun b => b = lb)) := Lib.hid (by rw [← HW5.out]; exact Fr.setCell w4 (fun b => b = lb) (p := ⟨lb, 1, none⟩) rfl _)
  have H5 := Lib.hid (H3.out.fr HF45.out (fun b hb e => HL3.out.nd (e ▸ hb)))
  have HF5 : Hid (Fr w0 w5 (fun b => Mine db mb F b ∨ b = lb)) := Lib.hid ((HF3.out.less (M := fun b => Mine db mb F b ∨ b = lb) (fun b hb => .inl hb)).trans HF45.out (fun b hb => .inl (.inr hb)))
  have HX5 : Hid (RdK w5 (fun b => Mine db mb F b ∨ b = lb) A m xs) := Lib.hid (HXX.out.fr HF5.out)
  clear c20 c21 H2 HL2
  go_wp2_with fail
  rw [HW5.out]
  refine (cloneK_any HX5.out.rd (Nat.le_refl _) (by omega)).mono ?_
  rintro e w6 ⟨A6, c6, rfl, ho6, hb6⟩
  have HO6 := Lib.hid ho6
  have HB6 := Lib.hid hb6
  have HX6 := Lib.hid (HX5.out.below hb6)
  clear ho6 hb6
  go_wp2_with fail
  refine (framed_any (mk := 0) (c := c) HX6.out.rd HBX.out (by omega) (by omega) hm (Nat.le_refl _)).mono ?_
  rintro e w7 ⟨A7, c7, rfl, ho7, hb7⟩
  have HL7 := Lib.hid ((HL5.out.below HB6.out).below hb7)
  have H7 := Lib.hid ((H5.out.below HB6.out).below hb7)
  have HO7 := Lib.hid (HO6.out.kept hb7)
  have HF7 := Lib.hid ((HF5.out.then_below HB6.out).then_below hb7)
  have y0 := HL7.out.c2
  have y1 := HL7.out.c3
  have y2 := HL7.out.c4
  have g0 := HL7.out.fz 2
  have g1 := HL7.out.fz 3
  have g2 := HL7.out.fz 4
  clear ho7 hb7 c30 c31 f31
  go_wp2
  go_ret
  have HAN := Lib.hid (HL7.out.anew (A := A6) (m := m) (c := c6) (xs := xs) (RdK.of_own HO7.out (fun b hb hb2 => by
    rcases hb2 with h1 | h1
    · exact H5.out.notMine hb h1
    · have := HL5.out.lt; omega)) HBX.out (by rw [HXL.out]; exact hm) ((m + 9 : Nat) : Int))
  refine ⟨rfl, f1, A6, c6, HP1.out.1, HP1.out.2.1, HP1.out.2.2, ?_, ?_, ?_, HM3.out⟩
  · have h1 := H7.out.fr HAN.out.2 (fun b hb e => HL7.out.nd (e ▸ hb))
    rw [gd_off { n with size := n.size + ((m + 9 : Nat) : Int) } hl] at h1
    exact h1
  · exact HAN.out.1
  · exact HF7.out.trans HAN.out.2 (fun b hb => .inl (.inr hb))
end
end Go.Proofs.Ytadajkgiijpakaa
