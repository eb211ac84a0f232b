/-
  CONTRACTS of package wal, over this translation: Append, Sync, Rotate of a log whose dock is armed, goes down, or is down.
-/
import Derived.Test.YtadajkgiijpakaaWJ
namespace Go.Proofs.Ytadajkgiijpakaa
open Go.RowKit
open ByteP
set_option linter.unusedVariables false
set_option maxRecDepth 10000
theorem gd_sz (n : Nm) (s : Int) : gd { n with size := s } = { gd n with size := s } := by
  unfold gd
  by_cases h1 : n.left = -1
  · rw [if_pos (show ({ n with size := s } : Nm).left = -1 from h1), if_pos h1]
  · by_cases h2 : n.left = 0
    · rw [if_neg (show ¬ ({ n with size := s } : Nm).left = -1 from h1), if_pos (show ({ n with size := s } : Nm).left = 0 from h2), if_neg h1, if_pos h2]
    · rw [if_neg (show ¬ ({ n with size := s } : Nm).left = -1 from h1), if_neg (show ¬ ({ n with size := s } : Nm).left = 0 from h2), if_neg h1, if_neg h2]
theorem gd_bd {n : Nm} (h : -1 ≤ n.left) : -1 ≤ (gd n).left ∧ (gd n).left ≤ n.left := by
  unfold gd
  by_cases h1 : n.left = -1
  · rw [if_pos h1]; omega
  · by_cases h2 : n.left = 0
    · rw [if_neg h1, if_pos h2]; show -1 ≤ n.left ∧ n.left ≤ n.left; omega
    · rw [if_neg h1, if_neg h2]; show -1 ≤ n.left - 1 ∧ n.left - 1 ≤ n.left; omega
theorem gd_down {n : Nm} (h : n.left ≠ 0) : (gd n).down = n.down := by
  unfold gd
  by_cases h1 : n.left = -1
  · rw [if_pos h1]
  · rw [if_neg h1, if_neg h]
theorem gd_now {n : Nm} (h : n.left = 0) : (gd n).down = true := by
  unfold gd
  rw [if_neg (by omega), if_pos h]
theorem Lg.closed {w : World} {D : Nat → Prop} {B0 lb : Nat} {v : LgV} {bs : List Int} {rs : List (List Int)} (h : Lg w D B0 lb v bs rs) : Lg (w.setCell ⟨lb, 5, none⟩ (.bool true)) D B0 lb { v with cl := true } bs rs := by
  have hF : Fr w (w.setCell ⟨lb, 5, none⟩ (.bool true)) (fun b => b = lb) := Fr.setCell w (fun b => b = lb) (p := ⟨lb, 5, none⟩) rfl _
  have hlt := h.lt
  have hs := hF.size
  refine ⟨by omega, h.ge, h.nd, heap_setCell_same w lb 5 _ _ (.bool true) h.cells, ?_, h.bb, h.bl, ?_, h.rb⟩
  · exact h.base.turn (M' := LM D lb { v with cl := true }) ⟨hF.os, hF.tape, hF.output, hF.size, fun b hb hn => hF.block b hb (fun h1 => hn (.inl (.inr h1)))⟩ (fun b hb => .inl hb)
  · exact h.row.turn ⟨hF.os, hF.tape, hF.output, hF.size, fun b hb hn => hF.block b hb (fun h1 => hn (.inr h1))⟩ (fun b hb => .inl hb)
section
variable {w : World} {D : Nat → Prop} {B0 lb : Nat} {v : LgV} {bs : List Int} {rs : List (List Int)}
theorem heed_down (h : Lg w D B0 lb v bs rs) : Calls Try.prog 44 #[.pointer (some ⟨lb, 0, none⟩), .int .i64 51] w fun r w' => r = .returned (.int .i64 51) ∧ Lg w' D B0 lb { v with cl := true } bs rs ∧ Fr w w' (fun b => b = lb) := by
  have c5 := h.c5
  have f5 := h.fz 5
  have HC := Lib.hid h.closed
  clear h
  go_enter Try.func44, Try.ntmps44
  go_wp2
  go_ret
  exact ⟨rfl, HC.out, Fr.setCell w (fun b => b = lb) (p := ⟨lb, 5, none⟩) rfl _⟩
theorem checkOpen_cl (h : Lg w D B0 lb v bs rs) (hc : v.cl = true) {A : Option Addr} {n c : Nat} : Calls Try.prog 42 #[.pointer (some ⟨lb, 0, none⟩), .slice A n c] w fun r w' => r = .returned (.int .i64 74) ∧ w' = w := by
  have c5 := h.c5
  rw [hc] at c5
  clear h
  go_enter Try.func42, Try.ntmps42
  go_wp2
  go_ret
  exact ⟨rfl, rfl⟩
theorem lappend_cl (h : Lg w D B0 lb v bs rs) (hc : v.cl = true) {A : Option Addr} {n c : Nat} : Calls Try.prog 24 #[.pointer (some ⟨lb, 0, none⟩), .slice A n c] w fun r w' => r = .returned (.int .i64 74) ∧ w' = w := by
  have HC := Lib.hid (checkOpen_cl (A := A) (n := n) (c := c) h hc)
  clear h
  go_enter Try.func24, Try.ntmps24
  go_wp2_with (go_at_call 42; refine HC.out.mono ?_; rintro e w0 ⟨rfl, rfl⟩)
  go_ret
  exact ⟨rfl, rfl⟩
theorem lrotate_cl (h : Lg w D B0 lb v bs rs) (hc : v.cl = true) {A : Option Addr} {n c : Nat} : Calls Try.prog 26 #[.pointer (some ⟨lb, 0, none⟩), .slice A n c] w fun r w' => r = .returned (.int .i64 74) ∧ w' = w := by
  have HC := Lib.hid (checkOpen_cl (A := A) (n := n) (c := c) h hc)
  clear h
  go_enter Try.func26, Try.ntmps26
  go_wp2_with (go_at_call 42; refine HC.out.mono ?_; rintro e w0 ⟨rfl, rfl⟩)
  go_ret
  exact ⟨rfl, rfl⟩
theorem lsync_cl (h : Lg w D B0 lb v bs rs) (hc : v.cl = true) : Calls Try.prog 25 #[.pointer (some ⟨lb, 0, none⟩)] w fun r w' => r = .returned (.int .i64 74) ∧ w' = w := by
  have c5 := h.c5
  rw [hc] at c5
  clear h
  go_enter Try.func25, Try.ntmps25
  go_wp2
  go_ret
  exact ⟨rfl, rfl⟩
end
section
variable {w : World} {B0 lb db mb K : Nat} {n : Nm} {F : Int → Option Fi} {v : LgV} {bs : List Int} {rs : List (List Int)}
theorem lsync_go (h : Dk w db mb K n F) (hL : Lg w (Mine db mb F) B0 lb v bs rs) (hvd : v.db = db) (hcl : v.cl = false) (hK : K ≤ 999999990) (hd : n.down = false) (hl0 : -1 ≤ n.left) (hl1 : n.left ≤ 9223372036854775807) (hl : n.left ≠ 0) {k : Int} (hvn : v.nm = k) {f : Fi} (hf : F k = some f) :
    Calls Try.prog 25 #[.pointer (some ⟨lb, 0, none⟩)] w fun e w' => e = .returned (.int .i64 0) ∧ Dk w' db mb (K + 1) (gd n) (putF F k { f with s := f.n }) ∧ Lg w' (Mine db mb (putF F k { f with s := f.n })) B0 lb v bs rs ∧ Fr w w' (Mine db mb F) ∧ (∀ b, Mine db mb (putF F k { f with s := f.n }) b → Mine db mb F b) := by
  have c0 := hL.c0
  have c1 := hL.c1
  have c5 := hL.c5
  rw [hvd] at c0
  rw [hvn] at c1
  rw [hcl] at c5
  have HMV : Hid (∀ b, Mine db mb (putF F k { f with s := f.n }) b → Mine db mb F b) := Lib.hid (fun b hb => by
    have h1 := mine_turn (f := f) (f' := { f with s := f.n }) rfl b hb
    have e : putF F k f = F := by
      funext x
      unfold putF
      by_cases e : x = k
      · rw [if_pos e, e, hf]
      · rw [if_neg e]
    rw [e] at h1
    exact h1)
  have HSY := Lib.hid (sync_ok (k := k) (f := f) (h.drewN 1) (by omega) hd hl0 hl1 hl hf)
  have HL := Lib.hid hL
  clear h hL hf
  go_enter Try.func25, Try.ntmps25
  go_wp2_with fail
  go_region_held3 (fun W => W.cell? ⟨lb, 0, none⟩ = some (.pointer (some ⟨db, 0, none⟩)) ∧ W.cell? ⟨lb, 1, none⟩ = some (.int .i64 k)) ((first | exact ⟨c30, c31⟩ | go_keep)) (first
    | (go_at_call 30; refine HSY.out.mono ?_; rintro e w3 ⟨rfl, hk3, hfr3⟩; (have H3 := Lib.hid hk3); (have HF3 : Hid (Fr w w3 (Mine db mb F)) := Lib.hid ((Fr.drewN w (Mine db mb F) 1).trans hfr3 (fun b hb => .inl hb))); (have HL3 := Lib.hid (HL.out.turn HF3.out (fun b hb => .inl (HMV.out b hb)))); (have c30 := HL3.out.c0); (have c31 := HL3.out.c1); rw [hvd] at c30; rw [hvn] at c31; clear hk3 hfr3 HSY)
    | (go_at_call 44; refine (heed_other _ _ (by omega)).mono ?_; rintro e w4 ⟨rfl, rfl⟩))
  go_wp2
  go_ret
  exact ⟨rfl, H3.out, HL3.out, HF3.out, HMV.out⟩
theorem lsync_now (h : Dk w db mb K n F) (hL : Lg w (Mine db mb F) B0 lb v bs rs) (hvd : v.db = db) (hcl : v.cl = false) (hK : K ≤ 999999990) (hd : n.down = false) (hl : n.left = 0) {k : Int} (hvn : v.nm = k) {f : Fi} (hf : F k = some f) :
    Calls Try.prog 25 #[.pointer (some ⟨lb, 0, none⟩)] w fun e w' => e = .returned (.int .i64 51) ∧ Dk w' db mb K (gd n) F ∧ Lg w' (Mine db mb F) B0 lb { v with cl := true } bs rs ∧ Fr w w' (LM (Mine db mb F) lb v) := by
  have hgood := h.good k f hf
  have c0 := hL.c0
  have c1 := hL.c1
  have c5 := hL.c5
  rw [hvd] at c0
  rw [hvn] at c1
  rw [hcl] at c5
  have HSY := Lib.hid (sync_now (k := k) (f := f) (h.drewN 1) hd hl (by omega) (by omega) hf)
  have HL := Lib.hid hL
  clear h hL hf
  go_enter Try.func25, Try.ntmps25
  go_wp2_with fail
  go_region_held3 (fun W => W.cell? ⟨lb, 0, none⟩ = some (.pointer (some ⟨db, 0, none⟩)) ∧ W.cell? ⟨lb, 1, none⟩ = some (.int .i64 k)) ((first | exact ⟨c30, c31⟩ | go_keep)) (first
    | (go_at_call 30; refine HSY.out.mono ?_; rintro e w3 ⟨rfl, hk3, hfr3⟩; (have H3 := Lib.hid hk3); (have HF3 : Hid (Fr w w3 (Mine db mb F)) := Lib.hid ((Fr.drewN w (Mine db mb F) 1).trans hfr3 (fun b hb => .inl hb))); (have HL3 := Lib.hid (HL.out.turn HF3.out (D' := Mine db mb F) (fun b hb => .inl hb))); (have c30 := HL3.out.c0); (have c31 := HL3.out.c1); rw [hvd] at c30; rw [hvn] at c31; clear hk3 hfr3 HSY)
    | (go_at_call 44; refine (heed_down HL3.out).mono ?_; rintro e w4 ⟨rfl, hl4, hf4⟩; (have HL4 := Lib.hid hl4); (have HF4 := Lib.hid hf4); clear c30 c31; (have c30 := hl4.c0); (have c31 := hl4.c1); simp only at c30 c31; rw [hvd] at c30; rw [hvn] at c31; clear hl4 hf4))
  go_wp2
  go_ret
  exact ⟨rfl, H3.out.fr HF4.out (fun b hb e => HL3.out.nd (e ▸ hb)), HL4.out, (HL.out.frd HF3.out).trans (HF4.out.less (M := LM (Mine db mb F) lb v) (fun b hb => .inl (.inr hb))) (fun b hb => .inl hb)⟩
set_option maxHeartbeats 4000000 in
theorem lappend_go (h : Dk w db mb K n F) (hL : Lg w (Mine db mb F) B0 lb v bs rs) (hvd : v.db = db) (hcl : v.cl = false) (hK : K ≤ 999999990) (hd : n.down = false) (hl0 : -1 ≤ n.left) (hl1 : n.left ≤ 9223372036854775807) (hl : n.left ≠ 0) (hs0 : 0 ≤ n.size) (hc : n.cap ≤ 16777216) {k : Int} (hvn : v.nm = k) {f : Fi} (hf : F k = some f)
    (hrl : rs.length ≤ 1000000000) (hsz0 : 0 ≤ v.sz) (hsz1 : v.sz ≤ 4611686018427387904) (hB0 : B0 ≤ mb)
    {m c : Nat} {A : Option Addr} {xs : List Int} (hx : RdK w (Mine db mb F) A m xs) (hb : Bytes xs) (hm : m ≤ 65535) (hfit : n.size + ((m + 9 : Nat) : Int) ≤ n.cap) (hfit2 : f.n + (m + 9) ≤ 16777216) :
    Calls Try.prog 24 #[.pointer (some ⟨lb, 0, none⟩), .slice A m c] w fun e w' => e = .returned (.int .i64 0) ∧
      ∃ f' rv', f'.bs = f.bs ++ frmP 1 xs ∧ f'.n = f.n + (m + 9) ∧ f'.s = f.s ∧ Dk w' db mb (K + 1) { gd n with size := n.size + ((m + 9 : Nat) : Int) } (putF F k f') ∧ Lg w' (Mine db mb (putF F k f')) B0 lb { v with rv := rv', sz := v.sz + ((m + 9 : Nat) : Int) } bs (rs ++ [xs]) ∧
        Fr w w' (LM (Mine db mb F) lb v) ∧ (∀ b, LM (Mine db mb (putF F k f')) lb { v with rv := rv', sz := v.sz + ((m + 9 : Nat) : Int) } b → LM (Mine db mb F) lb v b ∨ w.heap.size ≤ b) := by
  have hgood := h.good k f hf
  have hfa : fileAt F k = f := by unfold fileAt; rw [hf]; rfl
  have c0 := hL.c0
  have c1 := hL.c1
  rw [hvd] at c0
  rw [hvn] at c1
  have HL := Lib.hid hL
  have H := Lib.hid h
  have HXX := Lib.hid hx
  have HBX := Lib.hid hb
  have HF := Lib.hid hfit2
  have HXL : Hid (xs.length = m) := Lib.hid hx.1
  have HGD := Lib.hid hgood
  have HFA := Lib.hid hfa
  clear h hL hx hb hfit2 hgood hfa hf
  go_enter Try.func24, Try.ntmps24
  go_wp2_with (go_at_call 42; refine (checkOpen_ok HL.out hcl hm).mono ?_; rintro e w0 ⟨rfl, rfl⟩)
  refine (framed_any (mk := 1) HXX.out.rd HBX.out (by omega) (by omega) hm (Nat.le_refl _)).mono ?_
  rintro e w2 ⟨A2, c2', rfl, ho2, hb2⟩
  have H2 := Lib.hid (H.out.below hb2)
  have HL2 := Lib.hid (HL.out.below hb2)
  have HB2 := Lib.hid hb2
  have HF2 : Hid (Fr w0 w2 (Mine db mb F)) := Lib.hid (Fr.of_below hb2)
  have HR2 : Hid (RdK w2 (Mine db mb F) A2 (m + 9) (frmP 1 xs)) := Lib.hid (RdK.of_own ho2 (fun b hb => H.out.notMine hb))
  have HBF : Hid (Bytes (frmP 1 xs)) := Lib.hid (frmP_bytes (by omega) (by omega) HBX.out (by rw [HXL.out]; exact hm))
  have c20 := HL2.out.c0
  have c21 := HL2.out.c1
  rw [hvd] at c20
  rw [hvn] at c21
  have HAP := Lib.hid (append_any (k := k) (d := c2') (H2.out.drewN 1) (by omega) hd (by omega) (by omega) (by omega) hc HGD.out.1 HGD.out.2.1 (show RdK (w2.drewN 1) (Mine db mb F) A2 (m + 9) (frmP 1 xs) from HR2.out) HBF.out hfit (by rw [HFA.out]; exact HF.out))
  rw [if_neg hl, HFA.out] at HAP
  have HFD : Hid (Fr w0 (w2.drewN 1) (Mine db mb F)) := Lib.hid (HF2.out.trans (Fr.drewN w2 _ 1) (fun b hb => .inl hb))
  clear ho2 hb2 c0 c1
  go_wp2_with fail
  go_region_held3 (fun W => W.cell? ⟨lb, 0, none⟩ = some (.pointer (some ⟨db, 0, none⟩)) ∧ W.cell? ⟨lb, 1, none⟩ = some (.int .i64 k)) ((first | exact ⟨c30, c31⟩ | go_keep)) (first
    | (go_at_call 11; refine HAP.out.mono ?_; rintro e w3 ⟨rfl, f1, hbs1, hn1, hs1, hk3, hfr3, hmi3⟩; (have H3 := Lib.hid hk3); (have HP1 := Lib.hid (And.intro hbs1 (And.intro hn1 hs1))); (have HF3 : Hid (Fr w0 w3 (Mine db mb F)) := Lib.hid (HFD.out.trans hfr3 (fun b hb => .inl hb))); (have HM3 : Hid (∀ b, Mine db mb (putF F k f1) b → Mine db mb F b ∨ w0.heap.size ≤ b) := Lib.hid (fun b hb => (hmi3 b hb).imp id (fun h => Nat.le_trans HFD.out.size h))); (have HL3 := Lib.hid (HL.out.turn HF3.out HM3.out)); (have c30 := HL3.out.c0); (have c31 := HL3.out.c1); rw [hvd] at c30; rw [hvn] at c31; clear hbs1 hn1 hs1 hk3 hfr3 hmi3 HAP)
    | (go_at_call 44; refine (heed_other _ _ (by omega)).mono ?_; rintro e w4 ⟨rfl, rfl⟩))
  clear c20 c21 c30 c31 H2 HL2 HR2 HBF HFD HF2
  obtain ⟨M', hM'⟩ : ∃ M' : Nat → Prop, (fun b => Mine db mb (putF F k f1) b ∨ b = lb) = M' := ⟨_, rfl⟩
  have HMe := Lib.hid hM'
  have HROW : Hid (Row w4 M' B0 v.rv rs) := Lib.hid (by rw [← hM']; exact HL3.out.row)
  have HLM : Hid (∀ b, M' b → b < w4.heap.size) := Lib.hid (fun b hb => by
    rw [← hM'] at hb
    rcases hb with h1 | h1
    · exact Nat.lt_of_not_le (fun h2 => H3.out.notMine h2 h1)
    · rw [h1]; exact HL3.out.lt)
  have HXR : Hid (RdY w4.drew w4.heap.size A m xs) := Lib.hid ((HXX.out.turn HF3.out HM3.out).rd)
  have c43 := HL3.out.c3
  have f43 := HL3.out.fz 3
  have HBS : Hid (B0 ≤ w4.heap.size) := Lib.hid (by have := HL3.out.lt; have := HL3.out.ge; omega)
  have HCL := Lib.hid (cloneK_any (c := c) HXR.out (Nat.le_refl _) (by omega))
  clear hM'
  go_wp2_with fail
  go_region_law (first
    | (refine stepR_app (by rfl) _ _ (by rfl) M' B0 v.rv rs (by rfl) HROW6.out HLM6.out w5.heap.size A5 m c5 xs (by rfl) hc6 hrl HBS6.out HRK6.out HBX.out HM5.out (w5.heap.size + 1) (by simp) ?_; intro g cap w7 hrow7 hg7 hat7; (have hb57 := hg7.block lb (by have := HB5.out.size; have := HL3.out.lt; simp; omega) (fun e => HROW.out.nd lb e.symm (by rw [← HMe.out]; exact .inr rfl))); (have hce : w7.heap[lb]? = some (.cells (cellsL v) 83 (0, 0)) := hb57.trans ((HL3.out.below HB5.out).alloc (.cells #[.slice A5 m c5] 26)).cells); (have c73 := cellK_of_heap hce (i := 3) (x := v.rv) rfl); (have f73 := freeK_of_heap (i := 3) hce); (have HCE := Lib.hid hce); clear hce hb57)
    | (go_simp; go_at_call 36; refine HCL.out.mono ?_; rintro e w5 ⟨A5, c5, rfl, ho5, hb5'⟩; (have hb5 : Below w4.heap.size w4 w5 := ⟨hb5'.os, hb5'.tape, hb5'.output, hb5'.size, hb5'.block⟩); (have c53 : w5.cell? ⟨lb, 3, none⟩ = some v.rv := (hb5.cell (p := ⟨lb, 3, none⟩) (block_lt_of_cell c43)).trans c43); (have c63 : (w5.alloc (.cells #[.slice A5 m c5] 26)).cell? ⟨lb, 3, none⟩ = some v.rv := (World.cell?_alloc_lt w5 _ ⟨lb, 3, none⟩ (block_lt_of_cell c53)).trans c53); (have HROW6 : Hid (Row (w5.alloc (.cells #[.slice A5 m c5] 26)) M' B0 v.rv rs) := Lib.hid ((HROW.out.below hb5).below ((Below.refl _ _).alloc (Nat.le_refl _) _))); (have HLM6 : Hid (∀ b, M' b → b < (w5.alloc (.cells #[.slice A5 m c5] 26)).heap.size) := Lib.hid (fun b hb => by (have := HLM.out b hb); (have h5 : w4.heap.size ≤ w5.heap.size := hb5.size); simp; omega)); (have hc6 : (w5.alloc (.cells #[.slice A5 m c5] 26)).cell? ⟨w5.heap.size, 0, none⟩ = some (.slice A5 m c5) := by simp); (have HBS6 : Hid (B0 ≤ (w5.alloc (.cells #[.slice A5 m c5] 26)).heap.size) := Lib.hid (by (have := HBS.out); (have h5 : w4.heap.size ≤ w5.heap.size := hb5.size); simp; omega)); (have HRK6 : Hid (RdK (w5.alloc (.cells #[.slice A5 m c5] 26)) (fun b => M' b ∨ v.rv.ownBlock = some b) A5 m xs) := Lib.hid (RdK.of_own (ho5.alloc _) (fun b hb hb2 => by rcases hb2 with h1 | h1; (· have := HLM.out b h1; (have h5 : w4.heap.size ≤ b := hb); omega); (· have := HROW.out.block_lt b h1; (have h5 : w4.heap.size ≤ b := hb); omega)))); (have HM5 : Hid (m ≤ 1099511627776) := Lib.hid (by omega)); (have HB5 := Lib.hid hb5); clear ho5 hb5 hb5'))
  all_goals
    have c74 := cellK_of_heap HCE.out (i := 4) (x := .int .i64 v.sz) rfl
    have f74 := freeK_of_heap (i := 4) HCE.out
    have HPU := Lib.hid (HL3.out.pushed (D := Mine db mb (putF F k f1)) (fun b hb => Nat.lt_of_not_le (fun h2 => H3.out.notMine h2 hb)) HB5.out hg7 hat7 (rs' := rs ++ [xs]) (by rw [HMe.out]; exact hrow7) (fun x hx => by
      rcases List.mem_append.1 hx with h1 | h1
      · exact HL3.out.rb x h1
      · rw [List.mem_singleton.1 h1]; exact ⟨HBX.out, by rw [HXL.out]; exact hm⟩) (v.sz + ((m + 9 : Nat) : Int)))
    clear hg7 hat7 hrow7 HCE
    go_wp2
    go_ret
    refine ⟨rfl, f1, _, HP1.out.1, HP1.out.2.1, HP1.out.2.2, H3.out.fr HPU.out.2.1 HL3.out.om, HPU.out.1, ?_, fun b hb => ?_⟩
    · exact (HL.out.frd HF3.out).trans HPU.out.2.1 (fun b hb => hb.elim (fun h1 => .inl (.inl (.inr h1))) (fun h1 => .inl (.inr h1)))
    · rcases HPU.out.2.2 b hb with ((h1 | h1) | h1) | h1
      · exact (HM3.out b h1).imp (fun h2 => .inl (.inl h2)) id
      · exact .inl (.inl (.inr h1))
      · exact .inl (.inr h1)
      · right; have := HF3.out.size; omega
set_option maxHeartbeats 4000000 in
theorem lappend_now (h : Dk w db mb K n F) (hL : Lg w (Mine db mb F) B0 lb v bs rs) (hvd : v.db = db) (hcl : v.cl = false) (hK : K ≤ 999999990) (hd : n.down = false) (hl : n.left = 0) (hs0 : 0 ≤ n.size) (hc : n.cap ≤ 16777216) {k : Int} (hvn : v.nm = k) {f : Fi} (hf : F k = some f)
    (hrl : rs.length ≤ 1000000000) (hsz0 : 0 ≤ v.sz) (hsz1 : v.sz ≤ 4611686018427387904) (hB0 : B0 ≤ mb)
    {m c : Nat} {A : Option Addr} {xs : List Int} (hx : RdK w (Mine db mb F) A m xs) (hb : Bytes xs) (hm : m ≤ 65535) (hfit : n.size + ((m + 9 : Nat) : Int) ≤ n.cap) (hfit2 : f.n + (m + 9) ≤ 16777216) :
    Calls Try.prog 24 #[.pointer (some ⟨lb, 0, none⟩), .slice A m c] w fun e w' => e = .returned (.int .i64 51) ∧
      ∃ f', f'.bs = f.bs ++ frmP 1 xs ∧ f'.n = f.n + (m + 9) ∧ f'.s = f.s ∧ Dk w' db mb (K + 1) { gd n with size := n.size + ((m + 9 : Nat) : Int) } (putF F k f') ∧ Lg w' (Mine db mb (putF F k f')) B0 lb { v with cl := true } bs rs ∧
        Fr w w' (LM (Mine db mb F) lb v) ∧ (∀ b, Mine db mb (putF F k f') b → Mine db mb F b ∨ w.heap.size ≤ b) := by
  have hgood := h.good k f hf
  have hfa : fileAt F k = f := by unfold fileAt; rw [hf]; rfl
  have c0 := hL.c0
  have c1 := hL.c1
  rw [hvd] at c0
  rw [hvn] at c1
  have HL := Lib.hid hL
  have H := Lib.hid h
  have HXX := Lib.hid hx
  have HBX := Lib.hid hb
  have HF := Lib.hid hfit2
  have HXL : Hid (xs.length = m) := Lib.hid hx.1
  have HGD := Lib.hid hgood
  have HFA := Lib.hid hfa
  clear h hL hx hb hfit2 hgood hfa hf
  go_enter Try.func24, Try.ntmps24
  go_wp2_with (go_at_call 42; refine (checkOpen_ok HL.out hcl hm).mono ?_; rintro e w0 ⟨rfl, rfl⟩)
  refine (framed_any (mk := 1) HXX.out.rd HBX.out (by omega) (by omega) hm (Nat.le_refl _)).mono ?_
  rintro e w2 ⟨A2, c2', rfl, ho2, hb2⟩
  have H2 := Lib.hid (H.out.below hb2)
  have HL2 := Lib.hid (HL.out.below hb2)
  have HB2 := Lib.hid hb2
  have HF2 : Hid (Fr w0 w2 (Mine db mb F)) := Lib.hid (Fr.of_below hb2)
  have HR2 : Hid (RdK w2 (Mine db mb F) A2 (m + 9) (frmP 1 xs)) := Lib.hid (RdK.of_own ho2 (fun b hb => H.out.notMine hb))
  have HBF : Hid (Bytes (frmP 1 xs)) := Lib.hid (frmP_bytes (by omega) (by omega) HBX.out (by rw [HXL.out]; exact hm))
  have c20 := HL2.out.c0
  have c21 := HL2.out.c1
  rw [hvd] at c20
  rw [hvn] at c21
  have HAP := Lib.hid (append_any (k := k) (d := c2') (H2.out.drewN 1) (by omega) hd (by omega) (by omega) (by omega) hc HGD.out.1 HGD.out.2.1 (show RdK (w2.drewN 1) (Mine db mb F) A2 (m + 9) (frmP 1 xs) from HR2.out) HBF.out hfit (by rw [HFA.out]; exact HF.out))
  rw [if_pos hl, HFA.out] at HAP
  have HFD : Hid (Fr w0 (w2.drewN 1) (Mine db mb F)) := Lib.hid (HF2.out.trans (Fr.drewN w2 _ 1) (fun b hb => .inl hb))
  clear ho2 hb2 c0 c1
  go_wp2_with fail
  go_region_held3 (fun W => W.cell? ⟨lb, 0, none⟩ = some (.pointer (some ⟨db, 0, none⟩)) ∧ W.cell? ⟨lb, 1, none⟩ = some (.int .i64 k)) ((first | exact ⟨c30, c31⟩ | go_keep)) (first
    | (go_at_call 11; refine HAP.out.mono ?_; rintro e w3 ⟨rfl, f1, hbs1, hn1, hs1, hk3, hfr3, hmi3⟩; (have H3 := Lib.hid hk3); (have HP1 := Lib.hid (And.intro hbs1 (And.intro hn1 hs1))); (have HF3 : Hid (Fr w0 w3 (Mine db mb F)) := Lib.hid (HFD.out.trans hfr3 (fun b hb => .inl hb))); (have HM3 : Hid (∀ b, Mine db mb (putF F k f1) b → Mine db mb F b ∨ w0.heap.size ≤ b) := Lib.hid (fun b hb => (hmi3 b hb).imp id (fun h => Nat.le_trans HFD.out.size h))); (have HL3 := Lib.hid (HL.out.turn HF3.out HM3.out)); (have c30 := HL3.out.c0); (have c31 := HL3.out.c1); rw [hvd] at c30; rw [hvn] at c31; clear hbs1 hn1 hs1 hk3 hfr3 hmi3 HAP)
    | (go_at_call 44; refine (heed_down HL3.out).mono ?_; rintro e w4 ⟨rfl, hl4, hf4⟩; (have HL4 := Lib.hid hl4); (have HF4 := Lib.hid hf4); clear c30 c31; (have c30 := hl4.c0); (have c31 := hl4.c1); simp only at c30 c31; rw [hvd] at c30; rw [hvn] at c31; clear hl4 hf4))
  clear c20 c21 c30 c31 H2 HL2 HR2 HBF HFD HF2
  go_wp2_with fail
  go_ret
  exact ⟨rfl, f1, HP1.out.1, HP1.out.2.1, HP1.out.2.2, H3.out.fr HF4.out (fun b hb e => HL3.out.nd (e ▸ hb)), HL4.out, (HL.out.frd HF3.out).trans (HF4.out.less (M := LM (Mine db mb F) lb v) (fun b hb => .inl (.inr hb))) (fun b hb => .inl hb), HM3.out⟩
set_option maxHeartbeats 2000000 in
theorem lay_go (h : Dk w db mb K n F) (hL : Lg w (Mine db mb F) B0 lb v bs rs) (hvd : v.db = db) (hK : K ≤ 999999990) (hd : n.down = false) (hl0 : -1 ≤ n.left) (hl1 : n.left ≤ 9223372036854775807) (hl : n.left ≠ 0) (hl2 : (gd n).left ≠ 0) (hs0 : 0 ≤ n.size) (hc : n.cap ≤ 16777216) {k : Int} (hk0 : 0 ≤ k) (hk1 : k ≤ 999999)
    {B m c : Nat} {A : Option Addr} {xs : List Int} (hx : RdY w B A m xs) (hB : B ≤ w.heap.size) (hb : Bytes xs) (hm : m ≤ 65535) (hfit : n.size + ((m + 9 : Nat) : Int) ≤ n.cap) (hfit2 : (fileAt F k).n + (m + 9) ≤ 16777216) :
    Calls Try.prog 45 #[.pointer (some ⟨lb, 0, none⟩), .int .i64 k, .slice A m c] w fun e w' => e = .returned (.int .i64 0) ∧
      ∃ f', f'.bs = (fileAt F k).bs ++ frmP 0 xs ∧ f'.n = (fileAt F k).n + (m + 9) ∧ f'.s = f'.n ∧ Dk w' db mb (K + 2) { gd (gd n) with size := n.size + ((m + 9 : Nat) : Int) } (putF F k f') ∧ Fr w w' (Mine db mb F) ∧ (∀ b, Mine db mb (putF F k f') b → Mine db mb F b ∨ w.heap.size ≤ b) := by
  have hgb := gd_bd hl0
  have hgd : (gd n).down = false := (gd_down hl).trans hd
  have c0 := hL.c0
  rw [hvd] at c0
  have HL := Lib.hid hL
  have H := Lib.hid h
  have HXX := Lib.hid hx
  have HBX := Lib.hid hb
  have HF := Lib.hid hfit2
  have HXL : Hid (xs.length = m) := Lib.hid hx.len
  clear h hL hx hb hfit2 
  go_enter Try.func45, Try.ntmps45
  have H1 : Hid (Dk w.drew db mb K n F) := Lib.hid (H.out.drewN 1)
  have HX1 : Hid (RdY w.drew B A m xs) := Lib.hid (HXX.out.drew)
  have HF1 : Hid (Fr w w.drew (Mine db mb F)) := Lib.hid (Fr.drewN w _ 1)
  have HZ1 : Hid (B ≤ w.drew.heap.size) := Lib.hid hB
  go_wp2_with fail
  go_region_held3 (fun W => W.cell? ⟨lb, 0, none⟩ = some (.pointer (some ⟨db, 0, none⟩))) ((first | exact c3 | exact c2 | go_keep)) (first
    | (go_at_call 43; refine (framed_any (mk := 0) HX1.out HBX.out (by omega) (by omega) hm HZ1.out).mono ?_; rintro e w2 ⟨A2, c2', rfl, ho2, hb2⟩; (have H2 := Lib.hid (H1.out.below hb2)); (have HF2 : Hid (Fr w w2 (Mine db mb F)) := Lib.hid (HF1.out.then_below hb2)); (have HR2 : Hid (RdK w2 (Mine db mb F) A2 (m + 9) (frmP 0 xs)) := Lib.hid (RdK.of_own ho2 (fun b hb => H1.out.notMine hb))); (have HBF : Hid (Bytes (frmP 0 xs)) := Lib.hid (frmP_bytes (by omega) (by omega) HBX.out (by rw [HXL.out]; exact hm))); (have HAP := Lib.hid (append_any (k := k) (d := c2') H2.out (by omega) hd (by omega) (by omega) (by omega) hc hk0 hk1 HR2.out HBF.out hfit HF.out)); rw [if_neg hl] at HAP; (have c2 : w2.cell? ⟨lb, 0, none⟩ = some (.pointer (some ⟨db, 0, none⟩)) := by (have := (HL.out.turn HF2.out (fun b hb => .inl hb)).c0); rw [hvd] at this; exact this); clear ho2 hb2)
    | (go_at_call 11; refine HAP.out.mono ?_; rintro e w3 ⟨rfl, f1, hbs1, hn1, hs1, hk3, hfr3, hmi3⟩; (have H3 := Lib.hid hk3); (have HP1 := Lib.hid (And.intro hbs1 (And.intro hn1 hs1))); (have HF3 : Hid (Fr w w3 (Mine db mb F)) := Lib.hid (HF2.out.trans hfr3 (fun b hb => .inl hb))); (have HM3 : Hid (∀ b, Mine db mb (putF F k f1) b → Mine db mb F b ∨ w.heap.size ≤ b) := Lib.hid (fun b hb => (hmi3 b hb).imp id (fun h => Nat.le_trans HF2.out.size h))); (have c3 : w3.cell? ⟨lb, 0, none⟩ = some (.pointer (some ⟨db, 0, none⟩)) := by (have := (HL.out.turn HF3.out HM3.out).c0); rw [hvd] at this; exact this); clear hbs1 hn1 hs1 hk3 hfr3 hmi3 HAP)
    | (go_at_call 44; refine (heed_other _ _ (by omega)).mono ?_; rintro e w4 ⟨rfl, rfl⟩))
  have HL3 := Lib.hid (HL.out.turn HF3.out HM3.out)
  go_wp2_with fail
  have HSY := Lib.hid (sync_ok (k := k) (f := f1) H3.out (by omega) hgd (by show -1 ≤ (gd n).left; omega) (by show (gd n).left ≤ _; omega) (by show (gd n).left ≠ 0; exact hl2) (putF_same _ _ _))
  refine HSY.out.mono ?_
  rintro e w5 ⟨rfl, hk5, hfr5⟩
  rw [gd_sz, putF_putF] at hk5
  have H5 := Lib.hid hk5
  have HMV : Hid (∀ b, Mine db mb (putF F k { f1 with s := f1.n }) b → Mine db mb (putF F k f1) b) := Lib.hid (fun b hb => mine_turn (f := f1) (f' := { f1 with s := f1.n }) rfl b hb)
  have HF5 : Hid (Fr w w5 (Mine db mb F)) := Lib.hid (HF3.out.trans hfr5 HM3.out)
  clear hk5 hfr5 HSY c3
  go_wp2_with (go_at_call 44; refine (heed_other _ _ (by omega)).mono ?_; rintro e w6 ⟨rfl, rfl⟩)
  go_ret
  exact ⟨rfl, { f1 with s := f1.n }, HP1.out.1, HP1.out.2.1, rfl, H5.out, HF5.out, fun b hb => HM3.out b (HMV.out b hb)⟩
set_option maxHeartbeats 2000000 in
theorem lay_now1 (h : Dk w db mb K n F) (hL : Lg w (Mine db mb F) B0 lb v bs rs) (hvd : v.db = db) (hK : K ≤ 999999990) (hd : n.down = false) (hl : n.left = 0) (hs0 : 0 ≤ n.size) (hc : n.cap ≤ 16777216) {k : Int} (hk0 : 0 ≤ k) (hk1 : k ≤ 999999)
    {B m c : Nat} {A : Option Addr} {xs : List Int} (hx : RdY w B A m xs) (hB : B ≤ w.heap.size) (hb : Bytes xs) (hm : m ≤ 65535) (hfit : n.size + ((m + 9 : Nat) : Int) ≤ n.cap) (hfit2 : (fileAt F k).n + (m + 9) ≤ 16777216) :
    Calls Try.prog 45 #[.pointer (some ⟨lb, 0, none⟩), .int .i64 k, .slice A m c] w fun e w' => e = .returned (.int .i64 51) ∧
      ∃ f', f'.bs = (fileAt F k).bs ++ frmP 0 xs ∧ f'.n = (fileAt F k).n + (m + 9) ∧ f'.s = (fileAt F k).s ∧ Dk w' db mb (K + 1) { gd n with size := n.size + ((m + 9 : Nat) : Int) } (putF F k f') ∧ Lg w' (Mine db mb (putF F k f')) B0 lb { v with cl := true } bs rs ∧ Fr w w' (LM (Mine db mb F) lb v) ∧ (∀ b, Mine db mb (putF F k f') b → Mine db mb F b ∨ w.heap.size ≤ b) := by
  have c0 := hL.c0
  rw [hvd] at c0
  have HL := Lib.hid hL
  have H := Lib.hid h
  have HXX := Lib.hid hx
  have HBX := Lib.hid hb
  have HF := Lib.hid hfit2
  have HXL : Hid (xs.length = m) := Lib.hid hx.len
  clear h hL hx hb hfit2 
  go_enter Try.func45, Try.ntmps45
  have H1 : Hid (Dk w.drew db mb K n F) := Lib.hid (H.out.drewN 1)
  have HX1 : Hid (RdY w.drew B A m xs) := Lib.hid (HXX.out.drew)
  have HF1 : Hid (Fr w w.drew (Mine db mb F)) := Lib.hid (Fr.drewN w _ 1)
  have HZ1 : Hid (B ≤ w.drew.heap.size) := Lib.hid hB
  go_wp2_with fail
  go_region_held3 (fun W => W.cell? ⟨lb, 0, none⟩ = some (.pointer (some ⟨db, 0, none⟩))) ((first | exact c3 | exact c2 | go_keep)) (first
    | (go_at_call 43; refine (framed_any (mk := 0) HX1.out HBX.out (by omega) (by omega) hm HZ1.out).mono ?_; rintro e w2 ⟨A2, c2', rfl, ho2, hb2⟩; (have H2 := Lib.hid (H1.out.below hb2)); (have HF2 : Hid (Fr w w2 (Mine db mb F)) := Lib.hid (HF1.out.then_below hb2)); (have HR2 : Hid (RdK w2 (Mine db mb F) A2 (m + 9) (frmP 0 xs)) := Lib.hid (RdK.of_own ho2 (fun b hb => H1.out.notMine hb))); (have HBF : Hid (Bytes (frmP 0 xs)) := Lib.hid (frmP_bytes (by omega) (by omega) HBX.out (by rw [HXL.out]; exact hm))); (have HAP := Lib.hid (append_any (k := k) (d := c2') H2.out (by omega) hd (by omega) (by omega) (by omega) hc hk0 hk1 HR2.out HBF.out hfit HF.out)); rw [if_pos hl] at HAP; (have c2 : w2.cell? ⟨lb, 0, none⟩ = some (.pointer (some ⟨db, 0, none⟩)) := by (have := (HL.out.turn HF2.out (fun b hb => .inl hb)).c0); rw [hvd] at this; exact this); clear ho2 hb2)
    | (go_at_call 11; refine HAP.out.mono ?_; rintro e w3 ⟨rfl, f1, hbs1, hn1, hs1, hk3, hfr3, hmi3⟩; (have H3 := Lib.hid hk3); (have HP1 := Lib.hid (And.intro hbs1 (And.intro hn1 hs1))); (have HF3 : Hid (Fr w w3 (Mine db mb F)) := Lib.hid (HF2.out.trans hfr3 (fun b hb => .inl hb))); (have HM3 : Hid (∀ b, Mine db mb (putF F k f1) b → Mine db mb F b ∨ w.heap.size ≤ b) := Lib.hid (fun b hb => (hmi3 b hb).imp id (fun h => Nat.le_trans HF2.out.size h))); (have c3 : w3.cell? ⟨lb, 0, none⟩ = some (.pointer (some ⟨db, 0, none⟩)) := by (have := (HL.out.turn HF3.out HM3.out).c0); rw [hvd] at this; exact this); (have HL3 := Lib.hid (HL.out.turn HF3.out HM3.out)); clear hbs1 hn1 hs1 hk3 hfr3 hmi3 HAP)
    | (go_at_call 44; refine (heed_down HL3.out).mono ?_; rintro e w4 ⟨rfl, hl4, hf4⟩; (have HL4 := Lib.hid hl4); (have HF4 := Lib.hid hf4); clear c3; (have c3 := hl4.c0); simp only at c3; rw [hvd] at c3; clear hl4 hf4))
  go_wp2_with fail
  go_ret
  exact ⟨rfl, f1, HP1.out.1, HP1.out.2.1, HP1.out.2.2, H3.out.fr HF4.out (fun b hb e => HL3.out.nd (e ▸ hb)), HL4.out, (HL.out.frd HF3.out).trans (HF4.out.less (M := LM (Mine db mb F) lb v) (fun b hb => .inl (.inr hb))) (fun b hb => .inl hb), HM3.out⟩
set_option maxHeartbeats 2000000 in
theorem lay_now2 (h : Dk w db mb K n F) (hL : Lg w (Mine db mb F) B0 lb v bs rs) (hvd : v.db = db) (hK : K ≤ 999999990) (hd : n.down = false) (hl0 : -1 ≤ n.left) (hl1 : n.left ≤ 9223372036854775807) (hl : n.left ≠ 0) (hl2 : (gd n).left = 0) (hs0 : 0 ≤ n.size) (hc : n.cap ≤ 16777216) {k : Int} (hk0 : 0 ≤ k) (hk1 : k ≤ 999999)
    {B m c : Nat} {A : Option Addr} {xs : List Int} (hx : RdY w B A m xs) (hB : B ≤ w.heap.size) (hb : Bytes xs) (hm : m ≤ 65535) (hfit : n.size + ((m + 9 : Nat) : Int) ≤ n.cap) (hfit2 : (fileAt F k).n + (m + 9) ≤ 16777216) :
    Calls Try.prog 45 #[.pointer (some ⟨lb, 0, none⟩), .int .i64 k, .slice A m c] w fun e w' => e = .returned (.int .i64 51) ∧
      ∃ f', f'.bs = (fileAt F k).bs ++ frmP 0 xs ∧ f'.n = (fileAt F k).n + (m + 9) ∧ f'.s = (fileAt F k).s ∧ Dk w' db mb (K + 1) { gd (gd n) with size := n.size + ((m + 9 : Nat) : Int) } (putF F k f') ∧ Lg w' (Mine db mb (putF F k f')) B0 lb { v with cl := true } bs rs ∧ Fr w w' (LM (Mine db mb F) lb v) ∧ (∀ b, Mine db mb (putF F k f') b → Mine db mb F b ∨ w.heap.size ≤ b) := by
  have hgd : (gd n).down = false := (gd_down hl).trans hd
  have c0 := hL.c0
  rw [hvd] at c0
  have HL := Lib.hid hL
  have H := Lib.hid h
  have HXX := Lib.hid hx
  have HBX := Lib.hid hb
  have HF := Lib.hid hfit2
  have HXL : Hid (xs.length = m) := Lib.hid hx.len
  clear h hL hx hb hfit2 
  go_enter Try.func45, Try.ntmps45
  have H1 : Hid (Dk w.drew db mb K n F) := Lib.hid (H.out.drewN 1)
  have HX1 : Hid (RdY w.drew B A m xs) := Lib.hid (HXX.out.drew)
  have HF1 : Hid (Fr w w.drew (Mine db mb F)) := Lib.hid (Fr.drewN w _ 1)
  have HZ1 : Hid (B ≤ w.drew.heap.size) := Lib.hid hB
  go_wp2_with fail
  go_region_held3 (fun W => W.cell? ⟨lb, 0, none⟩ = some (.pointer (some ⟨db, 0, none⟩))) ((first | exact c3 | exact c2 | go_keep)) (first
    | (go_at_call 43; refine (framed_any (mk := 0) HX1.out HBX.out (by omega) (by omega) hm HZ1.out).mono ?_; rintro e w2 ⟨A2, c2', rfl, ho2, hb2⟩; (have H2 := Lib.hid (H1.out.below hb2)); (have HF2 : Hid (Fr w w2 (Mine db mb F)) := Lib.hid (HF1.out.then_below hb2)); (have HR2 : Hid (RdK w2 (Mine db mb F) A2 (m + 9) (frmP 0 xs)) := Lib.hid (RdK.of_own ho2 (fun b hb => H1.out.notMine hb))); (have HBF : Hid (Bytes (frmP 0 xs)) := Lib.hid (frmP_bytes (by omega) (by omega) HBX.out (by rw [HXL.out]; exact hm))); (have HAP := Lib.hid (append_any (k := k) (d := c2') H2.out (by omega) hd (by omega) (by omega) (by omega) hc hk0 hk1 HR2.out HBF.out hfit HF.out)); rw [if_neg hl] at HAP; (have c2 : w2.cell? ⟨lb, 0, none⟩ = some (.pointer (some ⟨db, 0, none⟩)) := by (have := (HL.out.turn HF2.out (fun b hb => .inl hb)).c0); rw [hvd] at this; exact this); clear ho2 hb2)
    | (go_at_call 11; refine HAP.out.mono ?_; rintro e w3 ⟨rfl, f1, hbs1, hn1, hs1, hk3, hfr3, hmi3⟩; (have H3 := Lib.hid hk3); (have HP1 := Lib.hid (And.intro hbs1 (And.intro hn1 hs1))); (have HF3 : Hid (Fr w w3 (Mine db mb F)) := Lib.hid (HF2.out.trans hfr3 (fun b hb => .inl hb))); (have HM3 : Hid (∀ b, Mine db mb (putF F k f1) b → Mine db mb F b ∨ w.heap.size ≤ b) := Lib.hid (fun b hb => (hmi3 b hb).imp id (fun h => Nat.le_trans HF2.out.size h))); (have c3 : w3.cell? ⟨lb, 0, none⟩ = some (.pointer (some ⟨db, 0, none⟩)) := by (have := (HL.out.turn HF3.out HM3.out).c0); rw [hvd] at this; exact this); clear hbs1 hn1 hs1 hk3 hfr3 hmi3 HAP)
    | (go_at_call 44; refine (heed_other _ _ (by omega)).mono ?_; rintro e w4 ⟨rfl, rfl⟩))
  have HL3 := Lib.hid (HL.out.turn HF3.out HM3.out)
  go_wp2_with fail
  have HSY := Lib.hid (sync_now (k := k) (f := f1) H3.out hgd (by show (gd n).left = 0; exact hl2) (by omega) (by omega) (putF_same _ _ _))
  refine HSY.out.mono ?_
  rintro e w5 ⟨rfl, hk5, hfr5⟩
  rw [gd_sz] at hk5
  have H5 := Lib.hid hk5
  have HF5 : Hid (Fr w w5 (Mine db mb F)) := Lib.hid (HF3.out.trans hfr5 HM3.out)
  have HL5 := Lib.hid (HL.out.turn HF5.out HM3.out)
  clear hk5 hfr5 HSY c3
  go_wp2_with (go_at_call 44; refine (heed_down HL5.out).mono ?_; rintro e w6 ⟨rfl, hl4, hf4⟩; (have HL4 := Lib.hid hl4); (have HF4 := Lib.hid hf4); clear hl4 hf4)
  go_ret
  exact ⟨rfl, f1, HP1.out.1, HP1.out.2.1, HP1.out.2.2, H5.out.fr HF4.out (fun b hb e => HL5.out.nd (e ▸ hb)), HL4.out, (HL.out.frd HF5.out).trans (HF4.out.less (M := LM (Mine db mb F) lb v) (fun b hb => .inl (.inr hb))) (fun b hb => .inl hb), HM3.out⟩
set_option maxHeartbeats 4000000 in
theorem rotate_go (h : Dk w db mb K n F) (hL : Lg w (Mine db mb F) B0 lb v bs rs) (hvd : v.db = db) (hcl : v.cl = false) (hK : K ≤ 999999990) (hd : n.down = false) (hl0 : -1 ≤ n.left) (hl1 : n.left ≤ 9223372036854775807) (hl : n.left ≠ 0) (hl2 : (gd n).left ≠ 0) (hl3 : (gd (gd n)).left ≠ 0) (hs0 : 0 ≤ n.size) (hc : n.cap ≤ 16777216) {k : Int} (hvn : v.nm = k) {f : Fi} (hf : F k = some f) (hk1 : k + 1 ≤ 999999) (hf1 : F (k + 1) = none)
    {m c : Nat} {A : Option Addr} {xs : List Int} (hx : RdK w (fun b => Mine db mb F b ∨ b = lb) A m xs) (hb : Bytes xs) (hm : m ≤ 65535) (hfit : n.size + ((m + 9 : Nat) : Int) ≤ n.cap) (hfn : (f.n : Int) ≤ n.size) :
    Calls Try.prog 26 #[.pointer (some ⟨lb, 0, none⟩), .slice A m c] w fun e w' => e = .returned (.int .i64 0) ∧
      ∃ f' bA' bc', f'.bs = frmP 0 xs ∧ f'.n = m + 9 ∧ f'.s = m + 9 ∧ Dk w' db mb (K + 2) { gd (gd (gd n)) with size := n.size + ((m + 9 : Nat) : Int) - (f.n : Int) } (delF (putF F (k + 1) f') k) ∧
        Lg w' (Mine db mb (delF (putF F (k + 1) f') k)) B0 lb { v with nm := k + 1, bA := bA', bn := m, bc := bc', rv := .slice none 0 0, sz := ((m + 9 : Nat) : Int) } xs [] ∧
        Fr w w' (fun b => Mine db mb F b ∨ b = lb) ∧ (∀ b, Mine db mb (delF (putF F (k + 1) f') k) b → Mine db mb F b ∨ w.heap.size ≤ b) := by
  have hgood := h.good k f hf
  have hgb := gd_bd hl0
  have hgb2 := gd_bd hgb.1
  have hgd : (gd (gd n)).down = false := (gd_down hl2).trans ((gd_down hl).trans hd)
  have hfa : fileAt F (k + 1) = noFi := by unfold fileAt; rw [hf1]; rfl
  have c1 := hL.c1
  rw [hvn] at c1
  have hw1 : IntKind.i64.wrap (k + 1) = k + 1 := IntWalk.i64_in _ (by omega)
  have hxw : RdK w (Mine db mb F) A m xs := hx.weak (fun b hb => .inl (.inl hb))
  have HL := Lib.hid hL
  have H := Lib.hid h
  have HXX := Lib.hid hx
  have HBX := Lib.hid hb
  have HXL : Hid (xs.length = m) := Lib.hid hx.1
  have HGD := Lib.hid hgood
  have HFA := Lib.hid hfa
  have HFK : Hid (F k = some f) := Lib.hid hf
  have HLY := Lib.hid (lay_go (k := k + 1) (c := c) h hL hvd hK hd hl0 hl1 hl hl2 hs0 hc (by omega) hk1 hxw.rd (Nat.le_refl _) hb hm hfit (by rw [hfa]; simp [noFi]; omega))
  clear h hL hx hxw hb hgood hfa hf hf1
  go_enter Try.func26, Try.ntmps26
  go_wp2_with (go_at_call 42; refine (checkOpen_ok HL.out hcl hm).mono ?_; rintro e w0 ⟨rfl, rfl⟩)
  refine HLY.out.mono ?_
  rintro e w2 ⟨rfl, f1, hbs1, hn1, hs1, hk2, hfr2, hmi2⟩
  have HP1 : Hid (f1.bs = frmP 0 xs ∧ f1.n = m + 9 ∧ f1.s = m + 9) := Lib.hid (by
    rw [HFA.out] at hbs1 hn1
    have e2 : f1.n = m + 9 := by rw [hn1]; show 0 + (m + 9) = _; omega
    exact ⟨by rw [hbs1]; rfl, e2, hs1.trans e2⟩)
  have H2 := Lib.hid hk2
  have HF2 := Lib.hid hfr2
  have HM2 := Lib.hid hmi2
  have HL2 := Lib.hid (HL.out.turn hfr2 hmi2)
  have hkk : k ≠ k + 1 := by omega
  have HRM := Lib.hid (remove_ok (k := k) (f := f) (H2.out.drewN 1) hgd (by show -1 ≤ (gd (gd n)).left; omega) (by show (gd (gd n)).left ≤ _; omega) (by show (gd (gd n)).left ≠ 0; exact hl3) (by show _ ≤ n.size + _; omega) (by show n.size + _ ≤ _; omega) (by rw [putF_other _ _ hkk]; exact HFK.out))
  have c20 := HL2.out.c0
  have c21 := HL2.out.c1
  rw [hvd] at c20
  rw [hvn] at c21
  clear hbs1 hn1 hs1 hk2 hfr2 hmi2 HLY c1 hw1
  go_wp2_with fail
  go_region_held3 (fun W => W.cell? ⟨lb, 0, none⟩ = some (.pointer (some ⟨db, 0, none⟩)) ∧ W.cell? ⟨lb, 1, none⟩ = some (.int .i64 k)) ((first | exact ⟨c30, c31⟩ | go_keep)) (first
    | (go_at_call 39; refine HRM.out.mono ?_; rintro e w3 ⟨rfl, hk3, hfr3⟩; (have H3 := Lib.hid hk3); (have HF3 : Hid (Fr w0 w3 (Mine db mb F)) := Lib.hid ((HF2.out.trans (Fr.drewN w2 (Mine db mb (putF F (k + 1) f1)) 1) HM2.out).trans hfr3 HM2.out)); (have HM3 : Hid (∀ b, Mine db mb (delF (putF F (k + 1) f1) k) b → Mine db mb F b ∨ w0.heap.size ≤ b) := Lib.hid (fun b hb => HM2.out b (mine_del b hb))); (have HL3 := Lib.hid (HL.out.turn HF3.out HM3.out)); (have c30 := HL3.out.c0); (have c31 := HL3.out.c1); rw [hvd] at c30; rw [hvn] at c31; clear hk3 hfr3 HRM)
    | (go_at_call 44; refine (heed_other _ _ (by omega)).mono ?_; rintro e w4 ⟨rfl, rfl⟩))
  have f31 := HL3.out.fz 1
  obtain ⟨w5, HW5⟩ : ∃ w5, Hid (w4.setCell ⟨lb, 1, none⟩ (.int .i64 (k + 1)) = w5) := ⟨_, Lib.hid rfl⟩
  have HL5 : Hid (Lg w5 (Mine db mb (delF (putF F (k + 1) f1) k)) B0 lb { v with nm := k + 1 } bs rs) := Lib.hid (by rw [← HW5.out]; exact HL3.out.named (k + 1))
  have HF45 : Hid (Fr w4 w5 (fun b => b = lb)) := Lib.hid (by rw [← HW5.out]; exact Fr.setCell w4 (fun b => b = lb) (p := ⟨lb, 1, none⟩) rfl _)
  have H5 := Lib.hid (H3.out.fr HF45.out (fun b hb e => HL3.out.nd (e ▸ hb)))
  have HF5 : Hid (Fr w0 w5 (fun b => Mine db mb F b ∨ b = lb)) := Lib.hid ((HF3.out.less (M := fun b => Mine db mb F b ∨ b = lb) (fun b hb => .inl hb)).trans HF45.out (fun b hb => .inl (.inr hb)))
  have HX5 : Hid (RdK w5 (fun b => Mine db mb F b ∨ b = lb) A m xs) := Lib.hid (HXX.out.fr HF5.out)
  clear c20 c21 H2 HL2
  go_wp2_with fail
  rw [HW5.out]
  refine (cloneK_any HX5.out.rd (Nat.le_refl _) (by omega)).mono ?_
  rintro e w6 ⟨A6, c6, rfl, ho6, hb6⟩
  have HO6 := Lib.hid ho6
  have HB6 := Lib.hid hb6
  have HX6 := Lib.hid (HX5.out.below hb6)
  clear ho6 hb6
  go_wp2_with fail
  refine (framed_any (mk := 0) (c := c) HX6.out.rd HBX.out (by omega) (by omega) hm (Nat.le_refl _)).mono ?_
  rintro e w7 ⟨A7, c7, rfl, ho7, hb7⟩
  have HL7 := Lib.hid ((HL5.out.below HB6.out).below hb7)
  have H7 := Lib.hid ((H5.out.below HB6.out).below hb7)
  have HO7 := Lib.hid (HO6.out.kept hb7)
  have HF7 := Lib.hid ((HF5.out.then_below HB6.out).then_below hb7)
  have y0 := HL7.out.c2
  have y1 := HL7.out.c3
  have y2 := HL7.out.c4
  have g0 := HL7.out.fz 2
  have g1 := HL7.out.fz 3
  have g2 := HL7.out.fz 4
  clear ho7 hb7 c30 c31 f31
  go_wp2
  go_ret
  have HAN := Lib.hid (HL7.out.anew (A := A6) (m := m) (c := c6) (xs := xs) (RdK.of_own HO7.out (fun b hb hb2 => by
    rcases hb2 with h1 | h1
    · exact H5.out.notMine hb h1
    · have := HL5.out.lt; omega)) HBX.out (by rw [HXL.out]; exact hm) ((m + 9 : Nat) : Int))
  refine ⟨rfl, f1, A6, c6, HP1.out.1, HP1.out.2.1, HP1.out.2.2, ?_, ?_, ?_, HM3.out⟩
  · have h1 := H7.out.fr HAN.out.2 (fun b hb e => HL7.out.nd (e ▸ hb))
    rw [gd_sz] at h1
    exact h1
  · exact HAN.out.1
  · exact HF7.out.trans HAN.out.2 (fun b hb => .inl (.inr hb))
set_option maxHeartbeats 4000000 in
theorem rotate_now1 (h : Dk w db mb K n F) (hL : Lg w (Mine db mb F) B0 lb v bs rs) (hvd : v.db = db) (hcl : v.cl = false) (hK : K ≤ 999999990) (hd : n.down = false) (hl : n.left = 0) (hs0 : 0 ≤ n.size) (hc : n.cap ≤ 16777216) {k : Int} (hvn : v.nm = k) {f : Fi} (hf : F k = some f) (hk1 : k + 1 ≤ 999999) (hf1 : F (k + 1) = none)
    {m c : Nat} {A : Option Addr} {xs : List Int} (hx : RdK w (fun b => Mine db mb F b ∨ b = lb) A m xs) (hb : Bytes xs) (hm : m ≤ 65535) (hfit : n.size + ((m + 9 : Nat) : Int) ≤ n.cap) (hfn : (f.n : Int) ≤ n.size) :
    Calls Try.prog 26 #[.pointer (some ⟨lb, 0, none⟩), .slice A m c] w fun e w' => e = .returned (.int .i64 51) ∧
      ∃ f', f'.bs = frmP 0 xs ∧ f'.n = m + 9 ∧ Dk w' db mb (K + 1) { gd n with size := n.size + ((m + 9 : Nat) : Int) } (putF F (k + 1) f') ∧ Lg w' (Mine db mb (putF F (k + 1) f')) B0 lb { v with cl := true } bs rs ∧ Fr w w' (LM (Mine db mb F) lb v) ∧ (∀ b, Mine db mb (putF F (k + 1) f') b → Mine db mb F b ∨ w.heap.size ≤ b) := by
  have hgood := h.good k f hf
  have hfa : fileAt F (k + 1) = noFi := by unfold fileAt; rw [hf1]; rfl
  have c1 := hL.c1
  rw [hvn] at c1
  have hw1 : IntKind.i64.wrap (k + 1) = k + 1 := IntWalk.i64_in _ (by omega)
  have hxw : RdK w (Mine db mb F) A m xs := hx.weak (fun b hb => .inl (.inl hb))
  have HL := Lib.hid hL
  have H := Lib.hid h
  have HXX := Lib.hid hx
  have HBX := Lib.hid hb
  have HXL : Hid (xs.length = m) := Lib.hid hx.1
  have HGD := Lib.hid hgood
  have HFA := Lib.hid hfa
  have HFK : Hid (F k = some f) := Lib.hid hf
  have HLY := Lib.hid (lay_now1 (k := k + 1) (c := c) h hL hvd hK hd hl hs0 hc (by omega) hk1 hxw.rd (Nat.le_refl _) hb hm hfit (by rw [hfa]; simp [noFi]; omega))
  clear h hL hx hxw hb hgood hfa hf hf1
  go_enter Try.func26, Try.ntmps26
  go_wp2_with (go_at_call 42; refine (checkOpen_ok HL.out hcl hm).mono ?_; rintro e w0 ⟨rfl, rfl⟩)
  refine HLY.out.mono ?_
  rintro e w2 ⟨rfl, f1, hbs1, hn1, hs1, hk2, hL2, hfr2, hmi2⟩
  have HP1 : Hid (f1.bs = frmP 0 xs ∧ f1.n = m + 9) := Lib.hid (by
    rw [HFA.out] at hbs1 hn1
    exact ⟨by rw [hbs1]; rfl, by rw [hn1]; show 0 + (m + 9) = _; omega⟩)
  have H2 := Lib.hid hk2
  have HL2 := Lib.hid hL2
  have HF2 := Lib.hid hfr2
  have HM2 := Lib.hid hmi2
  clear hbs1 hn1 hs1 hk2 hL2 hfr2 hmi2 HLY c1 hw1
  go_wp2_with fail
  go_ret
  exact ⟨rfl, f1, HP1.out.1, HP1.out.2, H2.out, HL2.out, HF2.out, HM2.out⟩
set_option maxHeartbeats 4000000 in
theorem rotate_now2 (h : Dk w db mb K n F) (hL : Lg w (Mine db mb F) B0 lb v bs rs) (hvd : v.db = db) (hcl : v.cl = false) (hK : K ≤ 999999990) (hd : n.down = false) (hl0 : -1 ≤ n.left) (hl1 : n.left ≤ 9223372036854775807) (hl : n.left ≠ 0) (hl2 : (gd n).left = 0) (hs0 : 0 ≤ n.size) (hc : n.cap ≤ 16777216) {k : Int} (hvn : v.nm = k) {f : Fi} (hf : F k = some f) (hk1 : k + 1 ≤ 999999) (hf1 : F (k + 1) = none)
    {m c : Nat} {A : Option Addr} {xs : List Int} (hx : RdK w (fun b => Mine db mb F b ∨ b = lb) A m xs) (hb : Bytes xs) (hm : m ≤ 65535) (hfit : n.size + ((m + 9 : Nat) : Int) ≤ n.cap) (hfn : (f.n : Int) ≤ n.size) :
    Calls Try.prog 26 #[.pointer (some ⟨lb, 0, none⟩), .slice A m c] w fun e w' => e = .returned (.int .i64 51) ∧
      ∃ f', f'.bs = frmP 0 xs ∧ f'.n = m + 9 ∧ Dk w' db mb (K + 1) { gd (gd n) with size := n.size + ((m + 9 : Nat) : Int) } (putF F (k + 1) f') ∧ Lg w' (Mine db mb (putF F (k + 1) f')) B0 lb { v with cl := true } bs rs ∧ Fr w w' (LM (Mine db mb F) lb v) ∧ (∀ b, Mine db mb (putF F (k + 1) f') b → Mine db mb F b ∨ w.heap.size ≤ b) := by
  have hgood := h.good k f hf
  have hfa : fileAt F (k + 1) = noFi := by unfold fileAt; rw [hf1]; rfl
  have c1 := hL.c1
  rw [hvn] at c1
  have hw1 : IntKind.i64.wrap (k + 1) = k + 1 := IntWalk.i64_in _ (by omega)
  have hxw : RdK w (Mine db mb F) A m xs := hx.weak (fun b hb => .inl (.inl hb))
  have HL := Lib.hid hL
  have H := Lib.hid h
  have HXX := Lib.hid hx
  have HBX := Lib.hid hb
  have HXL : Hid (xs.length = m) := Lib.hid hx.1
  have HGD := Lib.hid hgood
  have HFA := Lib.hid hfa
  have HFK : Hid (F k = some f) := Lib.hid hf
  have HLY := Lib.hid (lay_now2 (k := k + 1) (c := c) h hL hvd hK hd hl0 hl1 hl hl2 hs0 hc (by omega) hk1 hxw.rd (Nat.le_refl _) hb hm hfit (by rw [hfa]; simp [noFi]; omega))
  clear h hL hx hxw hb hgood hfa hf hf1
  go_enter Try.func26, Try.ntmps26
  go_wp2_with (go_at_call 42; refine (checkOpen_ok HL.out hcl hm).mono ?_; rintro e w0 ⟨rfl, rfl⟩)
  refine HLY.out.mono ?_
  rintro e w2 ⟨rfl, f1, hbs1, hn1, hs1, hk2, hL2, hfr2, hmi2⟩
  have HP1 : Hid (f1.bs = frmP 0 xs ∧ f1.n = m + 9) := Lib.hid (by
    rw [HFA.out] at hbs1 hn1
    exact ⟨by rw [hbs1]; rfl, by rw [hn1]; show 0 + (m + 9) = _; omega⟩)
  have H2 := Lib.hid hk2
  have HL2 := Lib.hid hL2
  have HF2 := Lib.hid hfr2
  have HM2 := Lib.hid hmi2
  clear hbs1 hn1 hs1 hk2 hL2 hfr2 hmi2 HLY c1 hw1
  go_wp2_with fail
  go_ret
  exact ⟨rfl, f1, HP1.out.1, HP1.out.2, H2.out, HL2.out, HF2.out, HM2.out⟩
set_option maxHeartbeats 4000000 in
theorem rotate_now3 (h : Dk w db mb K n F) (hL : Lg w (Mine db mb F) B0 lb v bs rs) (hvd : v.db = db) (hcl : v.cl = false) (hK : K ≤ 999999990) (hd : n.down = false) (hl0 : -1 ≤ n.left) (hl1 : n.left ≤ 9223372036854775807) (hl : n.left ≠ 0) (hl2 : (gd n).left ≠ 0) (hl3 : (gd (gd n)).left = 0) (hs0 : 0 ≤ n.size) (hc : n.cap ≤ 16777216) {k : Int} (hvn : v.nm = k) {f : Fi} (hf : F k = some f) (hk1 : k + 1 ≤ 999999) (hf1 : F (k + 1) = none)
    {m c : Nat} {A : Option Addr} {xs : List Int} (hx : RdK w (fun b => Mine db mb F b ∨ b = lb) A m xs) (hb : Bytes xs) (hm : m ≤ 65535) (hfit : n.size + ((m + 9 : Nat) : Int) ≤ n.cap) (hfn : (f.n : Int) ≤ n.size) :
    Calls Try.prog 26 #[.pointer (some ⟨lb, 0, none⟩), .slice A m c] w fun e w' => e = .returned (.int .i64 51) ∧
      ∃ f', f'.bs = frmP 0 xs ∧ f'.n = m + 9 ∧ Dk w' db mb (K + 2) { gd (gd (gd n)) with size := n.size + ((m + 9 : Nat) : Int) } (putF F (k + 1) f') ∧ Lg w' (Mine db mb (putF F (k + 1) f')) B0 lb { v with cl := true } bs rs ∧ Fr w w' (LM (Mine db mb F) lb v) ∧ (∀ b, Mine db mb (putF F (k + 1) f') b → Mine db mb F b ∨ w.heap.size ≤ b) := by
  have hgood := h.good k f hf
  have hgd : (gd (gd n)).down = false := (gd_down hl2).trans ((gd_down hl).trans hd)
  have hfa : fileAt F (k + 1) = noFi := by unfold fileAt; rw [hf1]; rfl
  have c1 := hL.c1
  rw [hvn] at c1
  have hw1 : IntKind.i64.wrap (k + 1) = k + 1 := IntWalk.i64_in _ (by omega)
  have hxw : RdK w (Mine db mb F) A m xs := hx.weak (fun b hb => .inl (.inl hb))
  have HL := Lib.hid hL
  have H := Lib.hid h
  have HXX := Lib.hid hx
  have HBX := Lib.hid hb
  have HXL : Hid (xs.length = m) := Lib.hid hx.1
  have HGD := Lib.hid hgood
  have HFA := Lib.hid hfa
  have HFK : Hid (F k = some f) := Lib.hid hf
  have HLY := Lib.hid (lay_go (k := k + 1) (c := c) h hL hvd hK hd hl0 hl1 hl hl2 hs0 hc (by omega) hk1 hxw.rd (Nat.le_refl _) hb hm hfit (by rw [hfa]; simp [noFi]; omega))
  clear h hL hx hxw hb hgood hfa hf hf1
  go_enter Try.func26, Try.ntmps26
  go_wp2_with (go_at_call 42; refine (checkOpen_ok HL.out hcl hm).mono ?_; rintro e w0 ⟨rfl, rfl⟩)
  refine HLY.out.mono ?_
  rintro e w2 ⟨rfl, f1, hbs1, hn1, hs1, hk2, hfr2, hmi2⟩
  have HP1 : Hid (f1.bs = frmP 0 xs ∧ f1.n = m + 9 ∧ f1.s = m + 9) := Lib.hid (by
    rw [HFA.out] at hbs1 hn1
    have e2 : f1.n = m + 9 := by rw [hn1]; show 0 + (m + 9) = _; omega
    exact ⟨by rw [hbs1]; rfl, e2, hs1.trans e2⟩)
  have H2 := Lib.hid hk2
  have HF2 := Lib.hid hfr2
  have HM2 := Lib.hid hmi2
  have HL2 := Lib.hid (HL.out.turn hfr2 hmi2)
  have hkk : k ≠ k + 1 := by omega
  have HRM := Lib.hid (remove_now (k := k) (f := f) (H2.out.drewN 1) hgd (by show (gd (gd n)).left = 0; exact hl3) (by rw [putF_other _ _ hkk]; exact HFK.out))
  have c20 := HL2.out.c0
  have c21 := HL2.out.c1
  rw [hvd] at c20
  rw [hvn] at c21
  clear hbs1 hn1 hs1 hk2 hfr2 hmi2 HLY c1 hw1
  go_wp2_with fail
  go_region_held3 (fun W => W.cell? ⟨lb, 0, none⟩ = some (.pointer (some ⟨db, 0, none⟩)) ∧ W.cell? ⟨lb, 1, none⟩ = some (.int .i64 k)) ((first | exact ⟨c30, c31⟩ | go_keep)) (first
    | (go_at_call 39; refine HRM.out.mono ?_; rintro e w3 ⟨rfl, hk3, hfr3⟩; (have H3 := Lib.hid hk3); (have HF3 : Hid (Fr w0 w3 (Mine db mb F)) := Lib.hid ((HF2.out.trans (Fr.drewN w2 (Mine db mb (putF F (k + 1) f1)) 1) HM2.out).trans hfr3 HM2.out)); (have HM3 := HM2); (have HL3 := Lib.hid (HL.out.turn HF3.out HM3.out)); (have c30 := HL3.out.c0); (have c31 := HL3.out.c1); rw [hvd] at c30; rw [hvn] at c31; clear hk3 hfr3 HRM)
    | (go_at_call 44; refine (heed_down HL3.out).mono ?_; rintro e w4 ⟨rfl, hl4, hf4⟩; (have HL4 := Lib.hid hl4); (have HF4 := Lib.hid hf4); clear c30 c31; (have c30 := hl4.c0); (have c31 := hl4.c1); simp only at c30 c31; rw [hvd] at c30; rw [hvn] at c31; clear hl4 hf4))
  go_wp2_with fail
  go_ret
  have h3 := H3.out
  rw [gd_sz] at h3
  exact ⟨rfl, f1, HP1.out.1, HP1.out.2.1, h3.fr HF4.out (fun b hb e => HL3.out.nd (e ▸ hb)), HL4.out, (HL.out.frd HF3.out).trans (HF4.out.less (M := LM (Mine db mb F) lb v) (fun b hb => .inl (.inr hb))) (fun b hb => .inl hb), HM3.out⟩
end
end Go.Proofs.Ytadajkgiijpakaa
