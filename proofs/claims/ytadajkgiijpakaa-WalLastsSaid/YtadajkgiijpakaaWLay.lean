/-
  CONTRACTS of package wal, over this translation: lay, where all goes well.
-/
import Derived.Test.YtadajkgiijpakaaWOps
namespace Go.Proofs.Ytadajkgiijpakaa
open Go.RowKit
open ByteP
set_option linter.unusedVariables false
set_option maxRecDepth 10000
theorem RdK.of_own {w : World} {M : Nat → Prop} {base n c : Nat} {A : Option Addr} {ys : List Int} (h : OwnY w base (.slice A n c) n ys) (hM : ∀ b, base ≤ b → ¬ M b) : RdK w M A n ys := by
  refine ⟨h.len, fun hn => ?_⟩
  obtain ⟨g, c', hv, hg, hlt⟩ := h.form hn
  injection hv with e1 e2 e3
  subst e1 e3
  exact ⟨g, 0, rfl, hlt, hM g hg, fun j hj => by rw [Nat.zero_add]; exact h.cell hj⟩
section
variable {w : World} {B0 lb db mb K : Nat} {n : Nm} {F : Int → Option Fi} {v : LgV} {bs : List Int} {rs : List (List Int)}
set_option maxHeartbeats 2000000 in
theorem lay_ok (h : Dk w db mb K n F) (hL : Lg w (Mine db mb F) B0 lb v bs rs) (hvd : v.db = db) (hK : K ≤ 999999990) (hd : n.down = false) (hl : n.left = -1) (hs0 : 0 ≤ n.size) (hc : n.cap ≤ 16777216) {k : Int} (hk0 : 0 ≤ k) (hk1 : k ≤ 999999)
    {B m c : Nat} {A : Option Addr} {xs : List Int} (hx : RdY w B A m xs) (hB : B ≤ w.heap.size) (hb : Bytes xs) (hm : m ≤ 65535) (hfit : n.size + ((m + 9 : Nat) : Int) ≤ n.cap) (hfit2 : (fileAt F k).n + (m + 9) ≤ 16777216) :
    Calls Try.prog 45 #[.pointer (some ⟨lb, 0, none⟩), .int .i64 k, .slice A m c] w fun e w' => e = .returned (.int .i64 0) ∧
      ∃ f', f'.bs = (fileAt F k).bs ++ frmP 0 xs ∧ f'.n = (fileAt F k).n + (m + 9) ∧ f'.s = f'.n ∧ Dk w' db mb (K + 2) { n with size := n.size + ((m + 9 : Nat) : Int) } (putF F k f') ∧ Fr w w' (Mine db mb F) ∧ (∀ b, Mine db mb (putF F k f') b → Mine db mb F b ∨ w.heap.size ≤ b) := by
  have hg : gd n = n := gd_off n hl
  have c0 := hL.c0
  rw [hvd] at c0
  have HL := Lib.hid hL
  have H := Lib.hid h
  have HXX := Lib.hid hx
  have HBX := Lib.hid hb
  have HF := Lib.hid hfit2
  have HXL : Hid (xs.length = m) := Lib.hid hx.len
  clear h hL hx hb hfit2 
  go_enter Try.func45, Try.ntmps45
  have H1 : Hid (Dk w.drew db mb K n F) := Lib.hid (H.out.drewN 1)
  have HX1 : Hid (RdY w.drew B A m xs) := Lib.hid (HXX.out.drew)
  have HF1 : Hid (Fr w w.drew (Mine db mb F)) := Lib.hid (Fr.drewN w _ 1)
  have HZ1 : Hid (B ≤ w.drew.heap.size) := Lib.hid hB
  go_wp2_with fail
  go_region_held3 (fun W => W.cell? ⟨lb, 0, none⟩ = some (.pointer (some ⟨db, 0, none⟩))) ((first | exact c3 | exact c2 | go_keep)) (first
    | (go_at_call 43; refine (framed_any (mk := 0) HX1.out HBX.out (by omega) (by omega) hm HZ1.out).mono ?_; rintro e w2 ⟨A2, c2', rfl, ho2, hb2⟩; (have H2 := Lib.hid (H1.out.below hb2)); (have HF2 : Hid (Fr w w2 (Mine db mb F)) := Lib.hid (HF1.out.then_below hb2)); (have HR2 : Hid (RdK w2 (Mine db mb F) A2 (m + 9) (frmP 0 xs)) := Lib.hid (RdK.of_own ho2 (fun b hb => H1.out.notMine hb))); (have HBF : Hid (Bytes (frmP 0 xs)) := Lib.hid (frmP_bytes (by omega) (by omega) HBX.out (by rw [HXL.out]; exact hm))); (have HAP := Lib.hid (append_any (k := k) (d := c2') H2.out (by omega) hd (by omega) (by omega) (by omega) hc hk0 hk1 HR2.out HBF.out hfit HF.out)); rw [if_neg (by omega), hg] at HAP; (have c2 : w2.cell? ⟨lb, 0, none⟩ = some (.pointer (some ⟨db, 0, none⟩)) := by (have := (HL.out.turn HF2.out (fun b hb => .inl hb)).c0); rw [hvd] at this; exact this); clear ho2 hb2)
    | (go_at_call 11; refine HAP.out.mono ?_; rintro e w3 ⟨rfl, f1, hbs1, hn1, hs1, hk3, hfr3, hmi3⟩; (have H3 := Lib.hid hk3); (have HP1 := Lib.hid (And.intro hbs1 (And.intro hn1 hs1))); (have HF3 : Hid (Fr w w3 (Mine db mb F)) := Lib.hid (HF2.out.trans hfr3 (fun b hb => .inl hb))); (have HM3 : Hid (∀ b, Mine db mb (putF F k f1) b → Mine db mb F b ∨ w.heap.size ≤ b) := Lib.hid (fun b hb => (hmi3 b hb).imp id (fun h => Nat.le_trans HF2.out.size h))); (have c3 : w3.cell? ⟨lb, 0, none⟩ = some (.pointer (some ⟨db, 0, none⟩)) := by (have := (HL.out.turn HF3.out HM3.out).c0); rw [hvd] at this; exact this); clear hbs1 hn1 hs1 hk3 hfr3 hmi3 HAP)
    | (go_at_call 44; refine (heed_other _ _ (by omega)).mono ?_; rintro e w4 ⟨rfl, rfl⟩))
  have HL3 := Lib.hid (HL.out.turn HF3.out HM3.out)
  go_wp2_with fail
  have HSY := Lib.hid (sync_ok (k := k) (f := f1) H3.out (by omega) hd (by show -1 ≤ n.left; omega) (by show n.left ≤ _; omega) (by show n.left ≠ 0; omega) (putF_same _ _ _))
  refine HSY.out.mono ?_
  rintro e w5 ⟨rfl, hk5, hfr5⟩
  have hg5 : gd { n with size := n.size + ((m + 9 : Nat) : Int) } = { n with size := n.size + ((m + 9 : Nat) : Int) } := gd_off _ hl
  rw [hg5, putF_putF] at hk5
  have H5 := Lib.hid hk5
  have HMV : Hid (∀ b, Mine db mb (putF F k { f1 with s := f1.n }) b → Mine db mb (putF F k f1) b) := Lib.hid (fun b hb => mine_turn (f := f1) (f' := { f1 with s := f1.n }) rfl b hb)
  have HF5 : Hid (Fr w w5 (Mine db mb F)) := Lib.hid (HF3.out.trans hfr5 HM3.out)
  clear hk5 hfr5 HSY c3
  go_wp2_with (go_at_call 44; refine (heed_other _ _ (by omega)).mono ?_; rintro e w6 ⟨rfl, rfl⟩)
  go_ret
  exact ⟨rfl, { f1 with s := f1.n }, HP1.out.1, HP1.out.2.1, rfl, H5.out, HF5.out, fun b hb => HM3.out b (HMV.out b hb)⟩
end
end Go.Proofs.Ytadajkgiijpakaa
