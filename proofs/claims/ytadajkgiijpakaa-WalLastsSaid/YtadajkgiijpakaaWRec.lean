/-
  CONTRACTS of package wal, over this translation: Base, Records, Sync.
-/
import Derived.Test.YtadajkgiijpakaaWLay
import Derived.Test.YtadajkgiijpakaaWPsh
namespace Go.Proofs.Ytadajkgiijpakaa
open Go.RowKit
open ByteP
set_option linter.unusedVariables false
set_option maxRecDepth 10000
section
variable {w : World} {D : Nat → Prop} {B0 lb : Nat} {v : LgV} {bs : List Int} {rs : List (List Int)}
theorem base_any (h : Lg w D B0 lb v bs rs) : Calls Try.prog 19 #[.pointer (some ⟨lb, 0, none⟩)] w fun e w' => ∃ A' c', e = .returned (.slice A' v.bn c') ∧ OwnY w' w.heap.size (.slice A' v.bn c') v.bn bs ∧ Below w.heap.size w w' := by
  have c2 := h.c2
  have HB : Hid (RdY w w.heap.size v.bA v.bn bs) := Lib.hid h.base.rd
  have HL : Hid (v.bn ≤ 1099511627776) := Lib.hid (by have := h.base.1; have := h.bl; omega)
  clear h
  go_enter Try.func19, Try.ntmps19
  go_wp2_with fail
  refine (cloneK_any HB.out (Nat.le_refl _) HL.out).mono ?_
  rintro e w1 ⟨A1, c1, rfl, ho, hb⟩
  have HO := Lib.hid ho
  have HBB := Lib.hid hb
  clear ho hb
  go_wp2
  go_ret
  exact ⟨A1, c1, rfl, HO.out, HBB.out⟩
theorem getD_mem {rs : List (List Int)} {j : Nat} (h : j < rs.length) : rs.getD j [] ∈ rs := by
  rw [List.getD_eq_getElem?_getD, List.getElem?_eq_getElem h]; exact List.getElem_mem h
theorem take_snocR (rs : List (List Int)) (j : Nat) (h : j < rs.length) : rs.take (j + 1) = rs.take j ++ [rs.getD j []] := by
  rw [List.take_succ_eq_append_getElem h]; simp [List.getD, h]
set_option maxHeartbeats 1000000 in
theorem records_any (h : Lg w D B0 lb v bs rs) (hl : rs.length ≤ 1000000000) : Calls Try.prog 21 #[.pointer (some ⟨lb, 0, none⟩)] w fun e w' => ∃ A c, e = .returned (.slice A rs.length c) ∧ Row w' (fun b => b < w.heap.size) w.heap.size (.slice A rs.length c) rs ∧ Below w.heap.size w w' := by
  have c3 := h.c3
  obtain ⟨A0, c0, he⟩ := h.row.shape
  have HROW := Lib.hid h.row
  rw [he] at c3 HROW
  have HRB := Lib.hid h.rb
  clear h he
  go_enter Try.func21, Try.ntmps21
  go_wp2_with fail
  go_loopw [3, 12] (fun s i wr => ∃ (j : Nat) (A : Option Addr) (c : Nat), j ≤ rs.length ∧ s = .slice A j c ∧ i = .int .i64 (j : Int) ∧ Hid (Row wr (fun b => b < w.heap.size) w.heap.size (.slice A j c) (rs.take j)) ∧ Hid (Below w.heap.size w wr)) (fun _ i _ => rs.length - (intOf i).toNat)
  case atStart => exact ⟨0, none, 0, by omega, rfl, rfl, Lib.hid (Row.nil_ _ _ _), Lib.hid (Below.refl _ _)⟩
  case round =>
    obtain ⟨j, A, c, hj, rfl, rfl, HR, HB⟩ := hrel
    by_cases hlt : j < rs.length
    · have hs := HB.out.size
      obtain ⟨b, P, n, d, rfl, hc, hr, hby, hn, _, _⟩ := (HROW.out.below HB.out).at_ hlt
      have HRD := Lib.hid hr.rd
      have HBY := Lib.hid hby
      have hlk : (rs.take j).length = j := by rw [List.length_take]; omega
      clear hr hby
      go_wp2_with fail
      refine (cloneK_any HRD.out (Nat.le_refl _) hn).mono ?_
      rintro e w1 ⟨A1, c1, rfl, ho1, hb1⟩
      have HR1 := Lib.hid (HR.out.below hb1)
      have HB1 : Hid (Below w.heap.size w w1) := Lib.hid (HB.out.trans (hb1.mono hs))
      have HRK : Hid (RdK (w1.alloc (.cells #[.slice A1 n c1] 26)) (fun b => b < w.heap.size ∨ (Value.slice A j c).ownBlock = some b) A1 n (rs.getD j [])) := Lib.hid (RdK.of_own (ho1.alloc _) (fun b hb h2 => by
        rcases h2 with h3 | h3
        · omega
        · have := HR.out.block_lt b h3; omega))
      have hs1 := HB1.out.size
      clear ho1 hb1
      go_wp2_with (at_builtin; refine wplR_app rfl _ _ rfl (fun b => b < w.heap.size) w.heap.size (.slice A j c) (rs.take j) rfl (HR1.out.below ((Below.refl _ _).alloc (Nat.le_refl _) _)) (fun b hb => by simp; omega) w1.heap.size A1 n c1 (rs.getD j []) rfl (by simp) (by omega) (by simp; omega) HRK.out HBY.out hn ?_; intro g cap w2 hrow2 hg2 hat2)
      have HR2 : Hid (Row w2 (fun b => b < w.heap.size) w.heap.size (.slice (some ⟨g, 0, none⟩) (j + 1) cap) (rs.take (j + 1))) := Lib.hid (by
        rw [take_snocR rs j hlt]
        rw [hlk] at hrow2
        exact hrow2)
      have HB2 : Hid (Below w.heap.size w w2) := Lib.hid ((HB1.out.alloc hs1 _).grown hg2 (by simp; omega) (fun b hb => HR.out.block_ge b hb))
      clear hrow2 hg2 hat2
      go_roundw
      case rel => exact ⟨j + 1, _, _, by omega, rfl, by go_num, HR2, HB2⟩
      case measure => simp [intOf]; omega
    · obtain rfl : j = rs.length := by omega
      have HF : Hid (rs.take rs.length = rs) := Lib.hid (List.take_of_length_le (Nat.le_refl _))
      go_wp2
      go_ret
      exact ⟨A, c, rfl, by have := HR.out; rw [HF.out] at this; exact this, HB.out⟩
end
section
variable {w : World} {B0 lb db mb K : Nat} {n : Nm} {F : Int → Option Fi} {v : LgV} {bs : List Int} {rs : List (List Int)}
set_option maxHeartbeats 1000000 in
theorem lsync_ok (h : Dk w db mb K n F) (hL : Lg w (Mine db mb F) B0 lb v bs rs) (hvd : v.db = db) (hcl : v.cl = false) (hK : K ≤ 999999990) (hd : n.down = false) (hl : n.left = -1) {k : Int} (hvn : v.nm = k) {f : Fi} (hf : F k = some f) :
    Calls Try.prog 25 #[.pointer (some ⟨lb, 0, none⟩)] w fun e w' => e = .returned (.int .i64 0) ∧ Dk w' db mb (K + 1) n (putF F k { f with s := f.n }) ∧ Lg w' (Mine db mb (putF F k { f with s := f.n })) B0 lb v bs rs ∧ Fr w w' (Mine db mb F) ∧ (∀ b, Mine db mb (putF F k { f with s := f.n }) b → Mine db mb F b) := by
  have hg : gd n = n := gd_off n hl
  have c0 := hL.c0
  have c1 := hL.c1
  have c5 := hL.c5
  rw [hvd] at c0
  rw [hvn] at c1
  rw [hcl] at c5
  have HMV : Hid (∀ b, Mine db mb (putF F k { f with s := f.n }) b → Mine db mb F b) := Lib.hid (fun b hb => by
    have h1 := mine_turn (f := f) (f' := { f with s := f.n }) rfl b hb
    have e : putF F k f = F := by
      funext x
      unfold putF
      by_cases e : x = k
      · rw [if_pos e, e, hf]
      · rw [if_neg e]
    rw [e] at h1
    exact h1)
  have HSY := Lib.hid (sync_ok (k := k) (f := f) (h.drewN 1) (by omega) hd (by omega) (by omega) (by omega) hf)
  rw [hg] at HSY
  have HL := Lib.hid hL
  clear h hL hf
  go_enter Try.func25, Try.ntmps25
  go_wp2_with fail
  go_region_held3 (fun W => W.cell? ⟨lb, 0, none⟩ = some (.pointer (some ⟨db, 0, none⟩)) ∧ W.cell? ⟨lb, 1, none⟩ = some (.int .i64 k)) ((first | exact ⟨c30, c31⟩ | go_keep)) (first
    | (go_at_call 30; refine HSY.out.mono ?_; rintro e w3 ⟨rfl, hk3, hfr3⟩; (have H3 := Lib.hid hk3); (have HF3 : Hid (Fr w w3 (Mine db mb F)) := Lib.hid ((Fr.drewN w (Mine db mb F) 1).trans hfr3 (fun b hb => .inl hb))); (have HL3 := Lib.hid (HL.out.turn HF3.out (fun b hb => .inl (HMV.out b hb)))); (have c30 := HL3.out.c0); (have c31 := HL3.out.c1); rw [hvd] at c30; rw [hvn] at c31; clear hk3 hfr3 HSY)
    | (go_at_call 44; refine (heed_other _ _ (by omega)).mono ?_; rintro e w4 ⟨rfl, rfl⟩))
  go_wp2
  go_ret
  exact ⟨rfl, H3.out, HL3.out, HF3.out, HMV.out⟩
end
end Go.Proofs.Ytadajkgiijpakaa
