/-
  CONTRACTS of package wal, over this translation: Append, where all goes well.
-/
import Derived.Test.YtadajkgiijpakaaWLay
import Derived.Test.YtadajkgiijpakaaWPsh
import Derived.BigRegion
import Derived.Deep.RegionLaw
namespace Go.Proofs.Ytadajkgiijpakaa
open Go.RowKit
open ByteP
set_option linter.unusedVariables false
set_option maxRecDepth 10000
section
variable {w : World} {B0 lb db mb K : Nat} {n : Nm} {F : Int → Option Fi} {v : LgV} {bs : List Int} {rs : List (List Int)}
set_option maxHeartbeats 4000000 in
theorem lappend_ok (h : Dk w db mb K n F) (hL : Lg w (Mine db mb F) B0 lb v bs rs) (hvd : v.db = db) (hcl : v.cl = false) (hK : K ≤ 999999990) (hd : n.down = false) (hl : n.left = -1) (hs0 : 0 ≤ n.size) (hc : n.cap ≤ 16777216) {k : Int} (hvn : v.nm = k) {f : Fi} (hf : F k = some f)
    (hrl : rs.length ≤ 1000000000) (hsz0 : 0 ≤ v.sz) (hsz1 : v.sz ≤ 4611686018427387904) (hB0 : B0 ≤ mb)
    {m c : Nat} {A : Option Addr} {xs : List Int} (hx : RdK w (Mine db mb F) A m xs) (hb : Bytes xs) (hm : m ≤ 65535) (hfit : n.size + ((m + 9 : Nat) : Int) ≤ n.cap) (hfit2 : f.n + (m + 9) ≤ 16777216) :
    Calls Try.prog 24 #[.pointer (some ⟨lb, 0, none⟩), .slice A m c] w fun e w' => e = .returned (.int .i64 0) ∧
      ∃ f' rv', f'.bs = f.bs ++ frmP 1 xs ∧ f'.n = f.n + (m + 9) ∧ f'.s = f.s ∧ Dk w' db mb (K + 1) { n with size := n.size + ((m + 9 : Nat) : Int) } (putF F k f') ∧ Lg w' (Mine db mb (putF F k f')) B0 lb { v with rv := rv', sz := v.sz + ((m + 9 : Nat) : Int) } bs (rs ++ [xs]) ∧
        Fr w w' (LM (Mine db mb F) lb v) ∧ (∀ b, LM (Mine db mb (putF F k f')) lb { v with rv := rv', sz := v.sz + ((m + 9 : Nat) : Int) } b → LM (Mine db mb F) lb v b ∨ w.heap.size ≤ b) := by
  have hg : gd n = n := gd_off n hl
  have hgood := h.good k f hf
  have hfa : fileAt F k = f := by unfold fileAt; rw [hf]; rfl
  have c0 := hL.c0
  have c1 := hL.c1
  rw [hvd] at c0
  rw [hvn] at c1
  have HL := Lib.hid hL
  have H := Lib.hid h
  have HXX := Lib.hid hx
  have HBX := Lib.hid hb
  have HF := Lib.hid hfit2
  have HXL : Hid (xs.length = m) := Lib.hid hx.1
  have HGD := Lib.hid hgood
  have HFA := Lib.hid hfa
  clear h hL hx hb hfit2 hgood hfa hf
  go_enter Try.func24, Try.ntmps24
  go_wp2_with (go_at_call 42; refine (checkOpen_ok HL.out hcl hm).mono ?_; rintro e w0 ⟨rfl, rfl⟩)
  refine (framed_any (mk := 1) HXX.out.rd HBX.out (by omega) (by omega) hm (Nat.le_refl _)).mono ?_
  rintro e w2 ⟨A2, c2', rfl, ho2, hb2⟩
  have H2 := Lib.hid (H.out.below hb2)
  have HL2 := Lib.hid (HL.out.below hb2)
  have HB2 := Lib.hid hb2
  have HF2 : Hid (Fr w0 w2 (Mine db mb F)) := Lib.hid (Fr.of_below hb2)
  have HR2 : Hid (RdK w2 (Mine db mb F) A2 (m + 9) (frmP 1 xs)) := Lib.hid (RdK.of_own ho2 (fun b hb => H.out.notMine hb))
  have HBF : Hid (Bytes (frmP 1 xs)) := Lib.hid (frmP_bytes (by omega) (by omega) HBX.out (by rw [HXL.out]; exact hm))
  have c20 := HL2.out.c0
  have c21 := HL2.out.c1
  rw [hvd] at c20
  rw [hvn] at c21
  have HAP := Lib.hid (append_any (k := k) (d := c2') (H2.out.drewN 1) (by omega) hd (by omega) (by omega) (by omega) hc HGD.out.1 HGD.out.2.1 (show RdK (w2.drewN 1) (Mine db mb F) A2 (m + 9) (frmP 1 xs) from HR2.out) HBF.out hfit (by rw [HFA.out]; exact HF.out))
  rw [if_neg (by omega), hg, HFA.out] at HAP
  have HFD : Hid (Fr w0 (w2.drewN 1) (Mine db mb F)) := Lib.hid (HF2.out.trans (Fr.drewN w2 _ 1) (fun b hb => .inl hb))
  clear ho2 hb2 c0 c1
  go_wp2_with fail
  go_region_held3 (fun W => W.cell? ⟨lb, 0, none⟩ = some (.pointer (some ⟨db, 0, none⟩)) ∧ W.cell? ⟨lb, 1, none⟩ = some (.int .i64 k)) ((first | exact ⟨c30, c31⟩ | go_keep)) (first
    | (go_at_call 11; refine HAP.out.mono ?_; rintro e w3 ⟨rfl, f1, hbs1, hn1, hs1, hk3, hfr3, hmi3⟩; (have H3 := Lib.hid hk3); (have HP1 := Lib.hid (And.intro hbs1 (And.intro hn1 hs1))); (have HF3 : Hid (Fr w0 w3 (Mine db mb F)) := Lib.hid (HFD.out.trans hfr3 (fun b hb => .inl hb))); (have HM3 : Hid (∀ b, Mine db mb (putF F k f1) b → Mine db mb F b ∨ w0.heap.size ≤ b) := Lib.hid (fun b hb => (hmi3 b hb).imp id (fun h => Nat.le_trans HFD.out.size h))); (have HL3 := Lib.hid (HL.out.turn HF3.out HM3.out)); (have c30 := HL3.out.c0); (have c31 := HL3.out.c1); rw [hvd] at c30; rw [hvn] at c31; clear hbs1 hn1 hs1 hk3 hfr3 hmi3 HAP)
    | (go_at_call 44; refine (heed_other _ _ (by omega)).mono ?_; rintro e w4 ⟨rfl, rfl⟩))
  clear c20 c21 c30 c31 H2 HL2 HR2 HBF HFD HF2
  obtain ⟨M', hM'⟩ : ∃ M' : Nat → Prop, (fun b => Mine db mb (putF F k f1) b ∨ b = lb) = M' := ⟨_, rfl⟩
  have HMe := Lib.hid hM'
  have HROW : Hid (Row w4 M' B0 v.rv rs) := Lib.hid (by rw [← hM']; exact HL3.out.row)
  have HLM : Hid (∀ b, M' b → b < w4.heap.size) := Lib.hid (fun b hb => by
    rw [← hM'] at hb
    rcases hb with h1 | h1
    · exact Nat.lt_of_not_le (fun h2 => H3.out.notMine h2 h1)
    · rw [h1]; exact HL3.out.lt)
  have HXR : Hid (RdY w4.drew w4.heap.size A m xs) := Lib.hid ((HXX.out.turn HF3.out HM3.out).rd)
  have c43 := HL3.out.c3
  have f43 := HL3.out.fz 3
  have HBS : Hid (B0 ≤ w4.heap.size) := Lib.hid (by have := HL3.out.lt; have := HL3.out.ge; omega)
  have HCL := Lib.hid (cloneK_any (c := c) HXR.out (Nat.le_refl _) (by omega))
  clear hM'
  go_wp2_with fail
  go_region_law (first
    | (refine stepR_app (by rfl) _ _ (by rfl) M' B0 v.rv rs (by rfl) HROW6.out HLM6.out w5.heap.size A5 m c5 xs (by rfl) hc6 hrl HBS6.out HRK6.out HBX.out HM5.out (w5.heap.size + 1) (by simp) ?_; intro g cap w7 hrow7 hg7 hat7; (have hb57 := hg7.block lb (by have := HB5.out.size; have := HL3.out.lt; simp; omega) (fun e => HROW.out.nd lb e.symm (by rw [← HMe.out]; exact .inr rfl))); (have hce : w7.heap[lb]? = some (.cells (cellsL v) 83 (0, 0)) := hb57.trans ((HL3.out.below HB5.out).alloc (.cells #[.slice A5 m c5] 26)).cells); (have c73 := cellK_of_heap hce (i := 3) (x := v.rv) rfl); (have f73 := freeK_of_heap (i := 3) hce); (have HCE := Lib.hid hce); clear hce hb57)
    | (go_simp; go_at_call 36; refine HCL.out.mono ?_; rintro e w5 ⟨A5, c5, rfl, ho5, hb5'⟩; (have hb5 : Below w4.heap.size w4 w5 := ⟨hb5'.os, hb5'.tape, hb5'.output, hb5'.size, hb5'.block⟩); (have c53 : w5.cell? ⟨lb, 3, none⟩ = some v.rv := (hb5.cell (p := ⟨lb, 3, none⟩) (block_lt_of_cell c43)).trans c43); (have c63 : (w5.alloc (.cells #[.slice A5 m c5] 26)).cell? ⟨lb, 3, none⟩ = some v.rv := (World.cell?_alloc_lt w5 _ ⟨lb, 3, none⟩ (block_lt_of_cell c53)).trans c53); (have HROW6 : Hid (Row (w5.alloc (.cells #[.slice A5 m c5] 26)) M' B0 v.rv rs) := Lib.hid ((HROW.out.below hb5).below ((Below.refl _ _).alloc (Nat.le_refl _) _))); (have HLM6 : Hid (∀ b, M' b → b < (w5.alloc (.cells #[.slice A5 m c5] 26)).heap.size) := Lib.hid (fun b hb => by (have := HLM.out b hb); (have h5 : w4.heap.size ≤ w5.heap.size := hb5.size); simp; omega)); (have hc6 : (w5.alloc (.cells #[.slice A5 m c5] 26)).cell? ⟨w5.heap.size, 0, none⟩ = some (.slice A5 m c5) := by simp); (have HBS6 : Hid (B0 ≤ (w5.alloc (.cells #[.slice A5 m c5] 26)).heap.size) := Lib.hid (by (have := HBS.out); (have h5 : w4.heap.size ≤ w5.heap.size := hb5.size); simp; omega)); (have HRK6 : Hid (RdK (w5.alloc (.cells #[.slice A5 m c5] 26)) (fun b => M' b ∨ v.rv.ownBlock = some b) A5 m xs) := Lib.hid (RdK.of_own (ho5.alloc _) (fun b hb hb2 => by rcases hb2 with h1 | h1; (· have := HLM.out b h1; (have h5 : w4.heap.size ≤ b := hb); omega); (· have := HROW.out.block_lt b h1; (have h5 : w4.heap.size ≤ b := hb); omega)))); (have HM5 : Hid (m ≤ 1099511627776) := Lib.hid (by omega)); (have HB5 := Lib.hid hb5); clear ho5 hb5 hb5'))
  all_goals
    have c74 := cellK_of_heap HCE.out (i := 4) (x := .int .i64 v.sz) rfl
    have f74 := freeK_of_heap (i := 4) HCE.out
    have HPU := Lib.hid (HL3.out.pushed (D := Mine db mb (putF F k f1)) (fun b hb => Nat.lt_of_not_le (fun h2 => H3.out.notMine h2 hb)) HB5.out hg7 hat7 (rs' := rs ++ [xs]) (by rw [HMe.out]; exact hrow7) (fun x hx => by
      rcases List.mem_append.1 hx with h1 | h1
      · exact HL3.out.rb x h1
      · rw [List.mem_singleton.1 h1]; exact ⟨HBX.out, by rw [HXL.out]; exact hm⟩) (v.sz + ((m + 9 : Nat) : Int)))
    clear hg7 hat7 hrow7 HCE
    go_wp2
    go_ret
    refine ⟨rfl, f1, _, HP1.out.1, HP1.out.2.1, HP1.out.2.2, H3.out.fr HPU.out.2.1 HL3.out.om, HPU.out.1, ?_, fun b hb => ?_⟩
    · exact (HL.out.frd HF3.out).trans HPU.out.2.1 (fun b hb => hb.elim (fun h1 => .inl (.inl (.inr h1))) (fun h1 => .inl (.inr h1)))
    · rcases HPU.out.2.2 b hb with ((h1 | h1) | h1) | h1
      · exact (HM3.out b h1).imp (fun h2 => .inl (.inl h2)) id
      · exact .inl (.inl (.inr h1))
      · exact .inl (.inr h1)
      · right; have := HF3.out.size; omega
end
end Go.Proofs.Ytadajkgiijpakaa
