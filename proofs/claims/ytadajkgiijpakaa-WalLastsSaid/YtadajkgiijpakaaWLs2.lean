/-
  WORDS AND CONTRACTS for WalLasts: a log and its dock through appends, syncs, rotations, a dock that goes down, crashes and openings.
-/
import Derived.Test.YtadajkgiijpakaaWLs1
import Derived.Test.YtadajkgiijpakaaWLsP
import Derived.Test.YtadajkgiijpakaaWArm
namespace Go.Proofs.Ytadajkgiijpakaa
open Go.RowKit
open ByteP
set_option linter.unusedVariables false
set_option maxRecDepth 10000
set_option maxHeartbeats 4000000 in
theorem records_any2 {w : World} {D : Nat → Prop} {B0 lb : Nat} {v : LgV} {bs : List Int} {rs : List (List Int)} (h : Lg w D B0 lb v bs rs) (hl : rs.length ≤ 1000000000) : Calls Try.prog 21 #[.pointer (some ⟨lb, 0, none⟩)] w fun e w' => ∃ A c, e = .returned (.slice A rs.length c) ∧ Row w' (fun b => b < w.heap.size) w.heap.size (.slice A rs.length c) rs ∧ Below w.heap.size w w' ∧ (rs.length = 0 → A = none) := by
  have c3 := h.c3
  obtain ⟨A0, c0, he⟩ := h.row.shape
  have HROW := Lib.hid h.row
  rw [he] at c3 HROW
  have HRB := Lib.hid h.rb
  clear h he
  go_enter Try.func21, Try.ntmps21
  go_wp2_with fail
  go_loopw [3, 12] (fun s i wr => ∃ (j : Nat) (A : Option Addr) (c : Nat), j ≤ rs.length ∧ (j = 0 → A = none) ∧ s = .slice A j c ∧ i = .int .i64 (j : Int) ∧ Hid (Row wr (fun b => b < w.heap.size) w.heap.size (.slice A j c) (rs.take j)) ∧ Hid (Below w.heap.size w wr)) (fun _ i _ => rs.length - (intOf i).toNat)
  case atStart => exact ⟨0, none, 0, by omega, fun _ => rfl, rfl, rfl, Lib.hid (Row.nil_ _ _ _), Lib.hid (Below.refl _ _)⟩
  case round =>
    obtain ⟨j, A, c, hj, hA0, rfl, rfl, HR, HB⟩ := hrel
    by_cases hlt : j < rs.length
    · have hs := HB.out.size
      obtain ⟨b, P, n, d, rfl, hc, hr, hby, hn, _, _⟩ := (HROW.out.below HB.out).at_ hlt
      have HRD := Lib.hid hr.rd
      have HBY := Lib.hid hby
      have hlk : (rs.take j).length = j := by rw [List.length_take]; omega
      clear hr hby
      go_wp2_with fail
      refine (cloneK_any HRD.out (Nat.le_refl _) hn).mono ?_
      rintro e w1 ⟨A1, c1, rfl, ho1, hb1⟩
      have HR1 := Lib.hid (HR.out.below hb1)
      have HB1 : Hid (Below w.heap.size w w1) := Lib.hid (HB.out.trans (hb1.mono hs))
      have HRK : Hid (RdK (w1.alloc (.cells #[.slice A1 n c1] 26)) (fun b => b < w.heap.size ∨ (Value.slice A j c).ownBlock = some b) A1 n (rs.getD j [])) := Lib.hid (RdK.of_own (ho1.alloc _) (fun b hb h2 => by
        rcases h2 with h3 | h3
        · omega
        · have := HR.out.block_lt b h3; omega))
      have hs1 := HB1.out.size
      clear ho1 hb1
      go_wp2_with (at_builtin; refine wplR_app rfl _ _ rfl (fun b => b < w.heap.size) w.heap.size (.slice A j c) (rs.take j) rfl (HR1.out.below ((Below.refl _ _).alloc (Nat.le_refl _) _)) (fun b hb => by simp; omega) w1.heap.size A1 n c1 (rs.getD j []) rfl (by simp) (by omega) (by simp; omega) HRK.out HBY.out hn ?_; intro g cap w2 hrow2 hg2 hat2)
      have HR2 : Hid (Row w2 (fun b => b < w.heap.size) w.heap.size (.slice (some ⟨g, 0, none⟩) (j + 1) cap) (rs.take (j + 1))) := Lib.hid (by
        rw [take_snocR rs j hlt]
        rw [hlk] at hrow2
        exact hrow2)
      have HB2 : Hid (Below w.heap.size w w2) := Lib.hid ((HB1.out.alloc hs1 _).grown hg2 (by simp; omega) (fun b hb => HR.out.block_ge b hb))
      clear hrow2 hg2 hat2
      go_roundw
      case rel => exact ⟨j + 1, _, _, by omega, fun h => by omega, rfl, by go_num, HR2, HB2⟩
      case measure => simp [intOf]; omega
    · obtain rfl : j = rs.length := by omega
      have HF : Hid (rs.take rs.length = rs) := Lib.hid (List.take_of_length_le (Nat.le_refl _))
      go_wp2
      go_ret
      exact ⟨A, c, rfl, by have := HR.out; rw [HF.out] at this; exact this, HB.out, hA0⟩
theorem szOK_ge {z : Int} {F : Int → Option Fi} (h : SzOK z F) : 0 ≤ z := by
  obtain ⟨ns, _, _, h3⟩ := h
  rw [h3]; exact szL_ge F ns
theorem szOK_le {z : Int} {F : Int → Option Fi} (h : SzOK z F) {k : Int} {f : Fi} (hf : F k = some f) : (f.n : Int) ≤ z := by
  have := szOK_ge (h.del hf)
  omega
theorem fileAt_some {F : Int → Option Fi} {k : Int} {f : Fi} (h : F k = some f) : fileAt F k = f := by unfold fileAt; rw [h]; rfl
theorem fileAt_none {F : Int → Option Fi} {k : Int} (h : F k = none) : (fileAt F k).n = 0 := by unfold fileAt; rw [h]; rfl
theorem rs_le (bs : List Int) (rs : List (List Int)) : rs.length ≤ (logL bs rs).length := by
  have h1 : rs.length ≤ (recsL rs).length := by
    induction rs with
    | nil => exact Nat.zero_le _
    | cons y t ih => rw [recsL, List.length_append, frmP_length, List.length_cons]; omega
  unfold logL
  rw [List.length_append]
  omega
/-- A log and its dock ahead of a step of the law. -/
structure LS (w wr : World) (db mb lb K : Nat) (n : Nm) (F : Int → Option Fi) (v : LgV) (name : Nat) (f : Fi) (bs : List Int) (rs : List (List Int)) (safe : Nat) (rot : Bool) (nx : List Int) (zb : Int) : Prop where
  dk : Dk wr db mb K n F
  cap : n.cap = 1048576
  sz : SzOK n.size F
  szb : n.size ≤ zb
  l0 : -1 ≤ n.left
  l1 : n.left ≤ 9223372036854775807
  lf : LsF F name f bs rs safe rot nx
  lg : ∃ bsL rsL, Lg wr (Mine db mb F) w.heap.size lb v bsL rsL ∧ (v.cl = false → bsL = bs ∧ rsL = rs ∧ v.sz = ((logL bs rs).length : Int))
  vdb : v.db = db
  vnm : v.nm = name
  md : (n.down = false ∧ v.cl = false ∧ rot = false) ∨ (n.down = true ∧ v.cl = true)
  mbge : w.heap.size ≤ mb
  bel : Below w.heap.size w wr
section
variable {w wr w' : World} {db mb lb K name safe : Nat} {n : Nm} {F : Int → Option Fi} {v : LgV} {f : Fi} {bs : List Int} {rs : List (List Int)} {rot : Bool} {nx : List Int} {zb : Int}
theorem LS.below (h : LS w wr db mb lb K n F v name f bs rs safe rot nx zb) (hb : Below wr.heap.size wr w') : LS w w' db mb lb K n F v name f bs rs safe rot nx zb := by
  obtain ⟨b1, r1, h1, h2⟩ := h.lg
  exact ⟨h.dk.below hb, h.cap, h.sz, h.szb, h.l0, h.l1, h.lf, ⟨b1, r1, h1.below hb, h2⟩, h.vdb, h.vnm, h.md, h.mbge, h.bel.trans (hb.mono h.bel.size)⟩
theorem LS.more (h : LS w wr db mb lb K n F v name f bs rs safe rot nx zb) {zb' : Int} (hz : zb ≤ zb') : LS w wr db mb lb K n F v name f bs rs safe rot nx zb' :=
  ⟨h.dk, h.cap, h.sz, Int.le_trans h.szb hz, h.l0, h.l1, h.lf, h.lg, h.vdb, h.vnm, h.md, h.mbge, h.bel⟩
theorem LS.ge (h : LS w wr db mb lb K n F v name f bs rs safe rot nx zb) : ∀ b, WM db mb F lb v b → w.heap.size ≤ b := by
  obtain ⟨b1, r1, h1, h2⟩ := h.lg
  exact h1.frow (fun b hb => Nat.le_of_not_lt (fun h2 => h.dk.low (by have := h.mbge; omega) hb))
theorem LS.lt (h : LS w wr db mb lb K n F v name f bs rs safe rot nx zb) : ∀ b, WM db mb F lb v b → b < wr.heap.size := by
  obtain ⟨b1, r1, h1, h2⟩ := h.lg
  intro b hb
  rcases hb with (h3 | h3) | h3
  · exact Nat.lt_of_not_le (fun h4 => h.dk.notMine h4 h3)
  · rw [h3]; exact h1.lt
  · exact h1.row.block_lt b h3
theorem LS.fl (h : LS w wr db mb lb K n F v name f bs rs safe rot nx zb) : f.bs.length = f.n := (h.dk.own _ f h.lf.one).len
theorem LS.len (h : LS w wr db mb lb K n F v name f bs rs safe rot nx zb) : ((logL bs rs).length : Int) ≤ n.size := by
  have h1 := szOK_le h.sz h.lf.one
  have h2 := h.fl
  rw [h.lf.fb] at h2
  omega
theorem LS.rl (h : LS w wr db mb lb K n F v name f bs rs safe rot nx zb) (hz : zb ≤ 900000) : rs.length ≤ 900000 := by
  have h1 := h.len
  have h2 := rs_le bs rs
  have h3 := h.szb
  omega
/-- An Append. -/
theorem LS.append (h : LS w wr db mb lb K n F v name f bs rs safe rot nx zb) (hK : K ≤ 1000000) (hz : zb ≤ 900000) {m c : Nat} {A : Option Addr} {xs : List Int} (hx : RdY wr w.heap.size A m xs) (hb : Bytes xs) (hm : m ≤ 300) :
    Calls Try.prog 24 #[.pointer (some ⟨lb, 0, none⟩), .slice A m c] wr fun e w' =>
      (∃ (K' : Nat) (n' : Nm) (F' : Int → Option Fi) (v' : LgV) (f' : Fi) (x : Int), e = .returned (.int .i64 x) ∧ (x = 0 ∨ x = 51) ∧ K' ≤ K + 1 ∧ LS w w' db mb lb K' n' F' v' name f' bs (rs ++ [xs]) safe rot nx (zb + 309) ∧ Fr wr w' (WM db mb F lb v) ∧ (∀ b, WM db mb F' lb v' b → WM db mb F lb v b ∨ wr.heap.size ≤ b)) ∨
      (e = .returned (.int .i64 74) ∧ w' = wr) := by
  obtain ⟨bsL, rsL, hL, hcl⟩ := h.lg
  have hxl := hx.len
  have hs0 := szOK_ge h.sz
  have hszb := h.szb
  have hcap := h.cap
  have hfl := h.fl
  have hfs := szOK_le h.sz h.lf.one
  have hxk : RdK wr (Mine db mb F) A m xs := RdK.of_rd hx h.bel.size (fun b hb => h.dk.low (by have := h.mbge; omega))
  have hlf : ∀ f' : Fi, f'.bs = f.bs ++ frmP 1 xs → f'.s = f.s → LsF (putF F name f') name f' bs (rs ++ [xs]) safe rot nx := fun f' e1 e2 =>
    ⟨putF_same _ _ _, by rw [e1, h.lf.fb, logL_snoc], by rw [e2, List.take_append_of_le_length h.lf.sr]; exact h.lf.fs, by rw [List.length_append]; have := h.lf.sr; omega, fun x h1 h2 => by rw [putF_other _ _ h1]; exact h.lf.oth x h1 h2,
      fun hr => by rw [putF_other _ _ (by omega)]; exact h.lf.no hr, fun hr => by rw [putF_other _ _ (by omega)]; exact h.lf.yes hr, h.lf.okb, fun x hx2 => by
        rcases List.mem_append.1 hx2 with h1 | h1
        · exact h.lf.okr x h1
        · rw [List.mem_singleton.1 h1]; exact ⟨hb, by omega⟩, h.lf.okn⟩
  have hsz : ∀ f' : Fi, f'.n = f.n + (m + 9) → SzOK (n.size + ((m + 9 : Nat) : Int)) (putF F name f') := fun f' e1 => by
    have h1 := h.sz.put name f'
    rw [fileAt_some h.lf.one, e1] at h1
    have e : n.size - (f.n : Int) + ((f.n + (m + 9) : Nat) : Int) = n.size + ((m + 9 : Nat) : Int) := by omega
    rwa [e] at h1
  rcases h.md with ⟨hd, hc, hr⟩ | ⟨hd, hc⟩
  · obtain ⟨rfl, rfl, hvs⟩ := hcl hc
    have hlen := h.len
    have hrl := h.rl hz
    by_cases hl : n.left = 0
    · refine (lappend_now (c := c) h.dk hL h.vdb hc (by omega) hd hl hs0 (by omega) h.vnm h.lf.one (by omega) (by rw [hvs]; omega) (by rw [hvs]; omega) h.mbge hxk hb (by omega) (by omega) (by omega)).mono ?_
      rintro e w' ⟨rfl, f', h1, h2, h3, h4, h5, h6, h7⟩
      refine .inl ⟨K + 1, _, _, _, f', 51, rfl, .inr rfl, by omega, ⟨h4, (gd_size n).2.trans hcap, hsz f' h2, by show n.size + _ ≤ _; omega, (gd_bd h.l0).1, Int.le_trans (gd_bd h.l0).2 h.l1, hlf f' h1 h3, ⟨_, _, h5, fun hc2 => by cases hc2⟩, h.vdb, h.vnm, .inr ⟨gd_now hl, rfl⟩, h.mbge, h.bel.trans (fr_base h6 h.ge h.bel.size)⟩, h6, fun b hb => ?_⟩
      rcases hb with (h8 | h8) | h8
      · exact (h7 b h8).imp (fun h9 => .inl (.inl h9)) id
      · exact .inl (.inl (.inr h8))
      · exact .inl (.inr h8)
    · refine (lappend_go (c := c) h.dk hL h.vdb hc (by omega) hd h.l0 h.l1 hl hs0 (by omega) h.vnm h.lf.one (by omega) (by rw [hvs]; omega) (by rw [hvs]; omega) h.mbge hxk hb (by omega) (by omega) (by omega)).mono ?_
      rintro e w' ⟨rfl, f', rv', h1, h2, h3, h4, h5, h6, h7⟩
      refine .inl ⟨K + 1, _, _, _, f', 0, rfl, .inl rfl, by omega, ⟨h4, (gd_size n).2.trans hcap, hsz f' h2, by show n.size + _ ≤ _; omega, (gd_bd h.l0).1, Int.le_trans (gd_bd h.l0).2 h.l1, hlf f' h1 h3, ⟨_, _, h5, fun _ => ⟨rfl, rfl, ?_⟩⟩, h.vdb, h.vnm, .inl ⟨(gd_down hl).trans hd, hc, hr⟩, h.mbge, h.bel.trans (fr_base h6 h.ge h.bel.size)⟩, h6, h7⟩
      show v.sz + ((m + 9 : Nat) : Int) = _
      rw [hvs, logL_length_snoc, hxl]
      omega
  · refine (lappend_cl hL hc).mono ?_
    rintro e w' ⟨rfl, rfl⟩
    exact .inr ⟨rfl, rfl⟩
/-- A Sync. -/
theorem LS.sync (h : LS w wr db mb lb K n F v name f bs rs safe rot nx zb) (hK : K ≤ 1000000) :
    Calls Try.prog 25 #[.pointer (some ⟨lb, 0, none⟩)] wr fun e w' =>
      ∃ (K' : Nat) (n' : Nm) (F' : Int → Option Fi) (v' : LgV) (f' : Fi) (x : Int) (safe' : Nat), e = .returned (.int .i64 x) ∧ ((x = 0 ∧ safe' = rs.length) ∨ (x ≠ 0 ∧ safe' = safe)) ∧ K' ≤ K + 1 ∧ LS w w' db mb lb K' n' F' v' name f' bs rs safe' rot nx zb ∧ Fr wr w' (WM db mb F lb v) ∧ (∀ b, WM db mb F' lb v' b → WM db mb F lb v b ∨ wr.heap.size ≤ b) := by
  obtain ⟨bsL, rsL, hL, hcl⟩ := h.lg
  have hs0 := szOK_ge h.sz
  rcases h.md with ⟨hd, hc, hr⟩ | ⟨hd, hc⟩
  · obtain ⟨rfl, rfl, hvs⟩ := hcl hc
    by_cases hl : n.left = 0
    · refine (lsync_now h.dk hL h.vdb hc (by omega) hd hl h.vnm h.lf.one).mono ?_
      rintro e w' ⟨rfl, h4, h5, h6⟩
      refine ⟨K, _, F, _, f, 51, safe, rfl, .inr ⟨by omega, rfl⟩, by omega, ⟨h4, (gd_size n).2.trans h.cap, by rw [(gd_size n).1]; exact h.sz, by rw [(gd_size n).1]; exact h.szb, (gd_bd h.l0).1, Int.le_trans (gd_bd h.l0).2 h.l1, h.lf, ⟨_, _, h5, fun hc2 => by cases hc2⟩, h.vdb, h.vnm, .inr ⟨gd_now hl, rfl⟩, h.mbge, h.bel.trans (fr_base h6 h.ge h.bel.size)⟩, h6, fun b hb => .inl hb⟩
    · refine (lsync_go h.dk hL h.vdb hc (by omega) hd h.l0 h.l1 hl h.vnm h.lf.one).mono ?_
      rintro e w' ⟨rfl, h4, h5, h6, h7⟩
      have hf2 := hL.frd h6
      have hsz : SzOK n.size (putF F name { f with s := f.n }) := by
        have h1 := h.sz.put name { f with s := f.n }
        rw [fileAt_some h.lf.one] at h1
        have e : n.size - (f.n : Int) + (f.n : Int) = n.size := by omega
        rwa [e] at h1
      refine ⟨K + 1, _, _, v, { f with s := f.n }, 0, rsL.length, rfl, .inl ⟨rfl, rfl⟩, by omega, ⟨h4, (gd_size n).2.trans h.cap, by rw [(gd_size n).1]; exact hsz, by rw [(gd_size n).1]; exact h.szb, (gd_bd h.l0).1, Int.le_trans (gd_bd h.l0).2 h.l1, ?_, ⟨_, _, h5, hcl⟩, h.vdb, h.vnm, .inl ⟨(gd_down hl).trans hd, hc, hr⟩, h.mbge, h.bel.trans (fr_base hf2 h.ge h.bel.size)⟩, hf2, fun b hb => .inl ?_⟩
      · exact ⟨putF_same _ _ _, h.lf.fb, by rw [List.take_length]; show _ ≤ f.n; have := h.fl; rw [h.lf.fb] at this; omega, Nat.le_refl _, fun x h1 h2 => by rw [putF_other _ _ h1]; exact h.lf.oth x h1 h2, fun hr => by rw [putF_other _ _ (by omega)]; exact h.lf.no hr, fun hr => by rw [putF_other _ _ (by omega)]; exact h.lf.yes hr, h.lf.okb, h.lf.okr, h.lf.okn⟩
      · rcases hb with (h8 | h8) | h8
        · exact .inl (.inl (h7 b h8))
        · exact .inl (.inr h8)
        · exact .inr h8
  · refine (lsync_cl hL hc).mono ?_
    rintro e w' ⟨rfl, rfl⟩
    exact ⟨K, n, F, v, f, 74, safe, rfl, .inr ⟨by omega, rfl⟩, by omega, h, Fr.refl _ _, fun b hb => .inl hb⟩
/-- A Rotate. -/
theorem LS.rotate (h : LS w wr db mb lb K n F v name f bs rs safe rot nx zb) (hK : K ≤ 1000000) (hz : zb ≤ 900000) (hnm : name ≤ 900000) {m c : Nat} {A : Option Addr} {xs : List Int} (hx : RdY wr w.heap.size A m xs) (hb : Bytes xs) (hm : m ≤ 300) :
    Calls Try.prog 26 #[.pointer (some ⟨lb, 0, none⟩), .slice A m c] wr fun e w' =>
      (∃ (K' : Nat) (n' : Nm) (F' : Int → Option Fi) (v' : LgV) (name' : Nat) (f' : Fi) (x : Int) (bs' : List Int) (rs' : List (List Int)) (safe' : Nat) (rot' : Bool) (nx' : List Int), e = .returned (.int .i64 x) ∧
        ((x = 0 ∧ bs' = xs ∧ rs' = [] ∧ safe' = 0 ∧ rot' = rot ∧ nx' = nx) ∨ (x = 51 ∧ bs' = bs ∧ rs' = rs ∧ safe' = safe ∧ rot' = true ∧ nx' = xs)) ∧ name' ≤ name + 1 ∧ K' ≤ K + 2 ∧ LS w w' db mb lb K' n' F' v' name' f' bs' rs' safe' rot' nx' (zb + 309) ∧ Fr wr w' (WM db mb F lb v) ∧ (∀ b, WM db mb F' lb v' b → WM db mb F lb v b ∨ wr.heap.size ≤ b)) ∨
      (e = .returned (.int .i64 74) ∧ w' = wr) := by
  obtain ⟨bsL, rsL, hL, hcl⟩ := h.lg
  have hxl := hx.len
  have hs0 := szOK_ge h.sz
  have hszb := h.szb
  have hcap := h.cap
  have hfs := szOK_le h.sz h.lf.one
  have hxk : RdK wr (fun b => Mine db mb F b ∨ b = lb) A m xs := RdK.of_rd hx h.bel.size (fun b hb h2 => by
    have h3 := h.ge b (.inl h2)
    omega)
  rcases h.md with ⟨hd, hc, hr⟩ | ⟨hd, hc⟩
  · obtain ⟨rfl, rfl, hvs⟩ := hcl hc
    have hno := h.lf.no hr
    have hput : ∀ f' : Fi, f'.n = m + 9 → SzOK (n.size + ((m + 9 : Nat) : Int)) (putF F ((name : Int) + 1) f') := fun f' e1 => by
      have h1 := h.sz.put ((name : Int) + 1) f'
      rw [fileAt_none hno, e1] at h1
      have e : n.size - ((0 : Nat) : Int) + ((m + 9 : Nat) : Int) = n.size + ((m + 9 : Nat) : Int) := by omega
      rwa [e] at h1
    have hdn : ∀ (w' : World) (K' : Nat) (n' : Nm) (f' : Fi), K' ≤ K + 2 → f'.bs = frmP 0 xs → f'.n = m + 9 → Dk w' db mb K' n' (putF F ((name : Int) + 1) f') → n'.cap = n.cap → n'.size = n.size + ((m + 9 : Nat) : Int) → -1 ≤ n'.left → n'.left ≤ n.left → n'.down = true →
        Lg w' (Mine db mb (putF F ((name : Int) + 1) f')) w.heap.size lb { v with cl := true } bsL rsL → Fr wr w' (LM (Mine db mb F) lb v) → (∀ b, Mine db mb (putF F ((name : Int) + 1) f') b → Mine db mb F b ∨ wr.heap.size ≤ b) →
        (∃ (K' : Nat) (n' : Nm) (F' : Int → Option Fi) (v' : LgV) (name' : Nat) (f' : Fi) (x : Int) (bs' : List Int) (rs' : List (List Int)) (safe' : Nat) (rot' : Bool) (nx' : List Int), (Ending.returned (.int .i64 51)) = .returned (.int .i64 x) ∧
        ((x = 0 ∧ bs' = xs ∧ rs' = [] ∧ safe' = 0 ∧ rot' = rot ∧ nx' = nx) ∨ (x = 51 ∧ bs' = bsL ∧ rs' = rsL ∧ safe' = safe ∧ rot' = true ∧ nx' = xs)) ∧ name' ≤ name + 1 ∧ K' ≤ K + 2 ∧ LS w w' db mb lb K' n' F' v' name' f' bs' rs' safe' rot' nx' (zb + 309) ∧ Fr wr w' (WM db mb F lb v) ∧ (∀ b, WM db mb F' lb v' b → WM db mb F lb v b ∨ wr.heap.size ≤ b)) := by
      intro w' K' n' f' hK' e1 e2 h1 h2 h3 h4 h5 h6 h7 h8 h9
      refine ⟨K', n', _, _, name, f, 51, bsL, rsL, safe, true, xs, rfl, .inr ⟨rfl, rfl, rfl, rfl, rfl, rfl⟩, by omega, hK', ⟨h1, h2.trans hcap, by rw [h3]; exact hput f' e2, by rw [h3]; omega, h4, Int.le_trans h5 h.l1, ?_, ⟨_, _, h7, fun hc2 => by cases hc2⟩, h.vdb, h.vnm, .inr ⟨h6, rfl⟩, h.mbge, h.bel.trans (fr_base h8 h.ge h.bel.size)⟩, h8, fun b hb => ?_⟩
      · exact ⟨by rw [putF_other _ _ (by omega)]; exact h.lf.one, h.lf.fb, h.lf.fs, h.lf.sr, fun x h1 h2 => by rw [putF_other _ _ h2]; exact h.lf.oth x h1 h2, fun h2 => (by cases h2), fun _ => ⟨f', putF_same _ _ _, e1⟩, h.lf.okb, h.lf.okr, ⟨hb, by omega⟩⟩
      · rcases hb with (h10 | h10) | h10
        · exact (h9 b h10).imp (fun h11 => .inl (.inl h11)) id
        · exact .inl (.inl (.inr h10))
        · exact .inl (.inr h10)
    have hgb := gd_bd h.l0
    have hgb2 := gd_bd hgb.1
    have hgb3 := gd_bd hgb2.1
    by_cases hl : n.left = 0
    · refine (rotate_now1 (c := c) h.dk hL h.vdb hc (by omega) hd hl hs0 (by omega) h.vnm h.lf.one (by omega) hno hxk hb (by omega) (by omega) hfs).mono ?_
      rintro e w' ⟨rfl, f', h1, h2, h3, h4, h5, h6⟩
      exact .inl (hdn w' (K + 1) _ f' (by omega) h1 h2 h3 (gd_size n).2 rfl hgb.1 hgb.2 (gd_now hl) h4 h5 h6)
    · by_cases hl2 : (gd n).left = 0
      · refine (rotate_now2 (c := c) h.dk hL h.vdb hc (by omega) hd h.l0 h.l1 hl hl2 hs0 (by omega) h.vnm h.lf.one (by omega) hno hxk hb (by omega) (by omega) hfs).mono ?_
        rintro e w' ⟨rfl, f', h1, h2, h3, h4, h5, h6⟩
        exact .inl (hdn w' (K + 1) _ f' (by omega) h1 h2 h3 ((gd_size (gd n)).2.trans (gd_size n).2) rfl hgb2.1 (Int.le_trans hgb2.2 hgb.2) (gd_now hl2) h4 h5 h6)
      · by_cases hl3 : (gd (gd n)).left = 0
        · refine (rotate_now3 (c := c) h.dk hL h.vdb hc (by omega) hd h.l0 h.l1 hl hl2 hl3 hs0 (by omega) h.vnm h.lf.one (by omega) hno hxk hb (by omega) (by omega) hfs).mono ?_
          rintro e w' ⟨rfl, f', h1, h2, h3, h4, h5, h6⟩
          exact .inl (hdn w' (K + 2) _ f' (by omega) h1 h2 h3 ((gd_size (gd (gd n))).2.trans ((gd_size (gd n)).2.trans (gd_size n).2)) rfl hgb3.1 (Int.le_trans hgb3.2 (Int.le_trans hgb2.2 hgb.2)) (gd_now hl3) h4 h5 h6)
        · refine (rotate_go (c := c) h.dk hL h.vdb hc (by omega) hd h.l0 h.l1 hl hl2 hl3 hs0 (by omega) h.vnm h.lf.one (by omega) hno hxk hb (by omega) (by omega) hfs).mono ?_
          rintro e w' ⟨rfl, f', bA', bc', h1, h2, h3, h4, h5, h6, h7⟩
          have hcast : ((name + 1 : Nat) : Int) = (name : Int) + 1 := by omega
          have hne : ((name : Int) + 1) ≠ (name : Int) := by omega
          have hf2 : Fr wr w' (WM db mb F lb v) := h6.less (fun b hb => hb.elim (fun h1 => .inl (.inl h1)) (fun h1 => .inl (.inr h1)))
          refine .inl ⟨K + 2, _, _, _, name + 1, f', 0, xs, [], 0, rot, nx, rfl, .inl ⟨rfl, rfl, rfl, rfl, rfl, rfl⟩, Nat.le_refl _, Nat.le_refl _, ⟨h4, ((gd_size (gd (gd n))).2.trans ((gd_size (gd n)).2.trans (gd_size n).2)).trans hcap, ?_, by show n.size + _ - (f.n : Int) ≤ _; omega, hgb3.1, Int.le_trans (Int.le_trans hgb3.2 (Int.le_trans hgb2.2 hgb.2)) h.l1, ?_, ⟨_, _, h5, fun _ => ⟨rfl, rfl, ?_⟩⟩, h.vdb, hcast.symm, .inl ⟨(gd_down hl3).trans ((gd_down hl2).trans ((gd_down hl).trans hd)), hc, hr⟩, h.mbge, h.bel.trans (fr_base hf2 h.ge h.bel.size)⟩, hf2, fun b hb => ?_⟩
          · exact (hput f' h2).del (by rw [putF_other _ _ (by omega)]; exact h.lf.one)
          · refine ⟨by rw [hcast, delF_oth _ hne, putF_same], by rw [h1, logL_nil], ?_, Nat.zero_le _, fun x h8 h9 => ?_, fun _ => ?_, fun h8 => (by rw [hr] at h8; cases h8), ⟨hb, by omega⟩, fun x hx => (by cases hx), h.lf.okn⟩
            · show (logL xs []).length ≤ f'.s
              rw [h3, logL_length_nil, hxl]; omega
            · rw [hcast] at h8
              by_cases e : x = (name : Int)
              · subst e; unfold delF; rw [if_pos rfl]
              · rw [delF_oth _ e, putF_other _ _ h8]; exact h.lf.oth x e h8
            · rw [delF_oth _ (by omega), putF_other _ _ (by omega)]; exact h.lf.oth _ (by omega) (by omega)
          · show ((m + 9 : Nat) : Int) = _
            rw [logL_length_nil, hxl]
          · rcases hb with (h8 | h8) | h8
            · exact (h7 b h8).imp (fun h2 => .inl (.inl h2)) id
            · exact .inl (.inl (.inr h8))
            · cases h8
  · refine (lrotate_cl hL hc).mono ?_
    rintro e w' ⟨rfl, rfl⟩
    exact .inr ⟨rfl, rfl⟩
/-- A crash, and what is then to be opened. -/
theorem LS.crash (h : LS w wr db mb lb K n F v name f bs rs safe rot nx zb) (hK : K ≤ 1000000) (hz : zb ≤ 900000) {Ak : Option Addr} {nk ck : Nat} {ks : List Int} (hks : Rd wr w.heap.size Ak nk ks) (hnk : nk ≤ 9223372036854775807) :
    Calls Try.prog 28 #[.pointer (some ⟨db, 0, none⟩), .slice Ak nk ck] wr fun e w' => e = .returned (.tuple #[]) ∧ ∃ (K' : Nat) (s' : Int) (G : Int → Option Fi), K' ≤ K + 2 ∧ Dk w' db mb K' ⟨1048576, s', -1, false⟩ G ∧ SzOK s' G ∧ s' ≤ zb ∧ CrOK F G ∧ Fr wr w' (Mine db mb F) ∧ (∀ b, Mine db mb G b → Mine db mb F b) := by
  have hs0 := szOK_ge h.sz
  have hszb := h.szb
  have hcap := h.cap
  refine (crash_any (ck := ck) h.dk (by omega) (by omega) (by omega) (RdZ.of_rd hks h.bel.size (fun b hb => h.dk.low (by have := h.mbge; omega))) hnk).mono ?_
  rintro e w' ⟨rfl, ns, hasc, hmem, hnl, hdk, hfr, hmi⟩
  have hm : ∀ x, x ∈ ns → (F x).isSome = true := fun x hx => (hmem x).1 hx
  have hcr := crOK_all (ks := ks) (crOK_refl (fun x f hf => ⟨(h.dk.good x f hf).2.2.1, (h.dk.own x f hf).len⟩)) hm ns.length (Nat.le_refl _)
  have hsz := crSz (ks := ks) h.sz hm ns.length (Nat.le_refl _)
  have hd := crK_d (ks := ks) hm (fun k f hf => ⟨(h.dk.good k f hf).2.2.1, (h.dk.good k f hf).2.2.2.2⟩) ns.length (Nat.le_refl _)
  have hn2 : ns.length ≤ 2 := by
    have hsub : ∀ x, x ∈ ns → x = (name : Int) ∨ x = (name : Int) + 1 := fun x hx => by
      by_cases e1 : x = (name : Int)
      · exact .inl e1
      · by_cases e2 : x = (name : Int) + 1
        · exact .inr e2
        · have := hm x hx
          rw [h.lf.oth x e1 e2] at this; cases this
    have hnd := asc_nodup hasc
    have h3 : ns.length ≤ ([(name : Int), (name : Int) + 1] : List Int).length := hnd.length_le_of_subset (fun x hx => by
      rcases hsub x hx with e | e <;> simp [e])
    exact h3
  refine ⟨rfl, K + ns.length, _, _, by omega, by have h1 := hdk; rw [show n = { n with cap := 1048576 } by rw [← hcap]] at h1; exact h1, hsz, by omega, hcr, hfr, hmi⟩
end
/-- Open behind a crash. -/
theorem ls_reopen {w wr w1 : World} {db mb K K1 name safe : Nat} {s1 zb : Int} {F G : Int → Option Fi} {f : Fi} {bs : List Int} {rs : List (List Int)} {rot : Bool} {nx : List Int} (hlf : LsF F name f bs rs safe rot nx) (hfn : f.bs.length = f.n) (hc : CrOK F G) (hdk : Dk w1 db mb K1 ⟨1048576, s1, -1, false⟩ G) (hK : K1 ≤ 1000000) (hz : zb ≤ 900000) (hsz : SzOK s1 G) (hs1 : s1 ≤ zb) (hmb : w.heap.size ≤ mb) (hbel : Below w.heap.size w w1) :
    Calls Try.prog 15 #[.pointer (some ⟨db, 0, none⟩)] w1 fun e w' => ∃ (lb K' nm : Nat) (n' : Nm) (F' : Int → Option Fi) (v' : LgV) (f' : Fi) (bs' : List Int) (rs' : List (List Int)), e = .returned (.tuple #[.pointer (some ⟨lb, 0, none⟩), .int .i64 0]) ∧ K' ≤ K1 + 2 ∧ nm ≤ name + 1 ∧
      ((rot = true ∧ bs' = nx ∧ rs' = []) ∨ (bs' = bs ∧ ∃ q, safe ≤ q ∧ q ≤ rs.length ∧ rs' = rs.take q)) ∧
      LS w w' db mb lb K' n' F' v' nm f' bs' rs' rs'.length false [] zb ∧ Lg w' (fun b => b < w1.heap.size) w.heap.size lb v' bs' rs' ∧ Fr w1 w' (Mine db mb G) ∧ (∀ b, WM db mb F' lb v' b → Mine db mb G b ∨ w1.heap.size ≤ b) := by
  obtain ⟨nm, g, r, bs', rs', hH, hB, hR, hT, hA, hnm, hob, hor, halt⟩ := ls_open hlf hfn hc
  have hs0 := szOK_ge hsz
  refine (open_found (B0 := w.heap.size) hdk (by omega) rfl rfl hsz (by show s1 ≤ _; omega) hbel.size hmb hH).mono ?_
  rintro e w' ⟨lb, K', f', v', F', rfl, hlb, hK', hdk', hfa, hfo, hbs, hn, hs, hL, hdb, hnm', hcl, hvsz, hfr, hmi, hL2⟩
  have hgn := szOK_le hsz hH.at_
  have hgl : g.bs.length = g.n := (hdk.own _ g hH.at_).len
  have hle : atN g.bs r ≤ g.bs.length := atN_le r (fun j hj => (hH.reads.1 j hj).1)
  have hS := szOK_one hfa hfo
  rw [hn] at hS
  rw [hB, hR] at hL hL2
  refine ⟨lb, K', nm, _, F', v', f', bs', rs', rfl, hK', hnm, halt, ⟨hdk', rfl, hS, by show ((atN g.bs r : Nat) : Int) ≤ _; omega, by show (-1 : Int) ≤ -1; omega, by show (-1 : Int) ≤ _; omega, ?_, ⟨bs', rs', hL, fun _ => ⟨rfl, rfl, by rw [hvsz, hA]⟩⟩, hdb, hnm', .inl ⟨rfl, hcl, rfl⟩, hmb, hbel.trans ((hfr.below hdk).mono hmb)⟩, hL2, hfr, fun b hb => ?_⟩
  · refine ⟨hfa, by rw [hbs, hT], ?_, Nat.le_refl _, fun x h1 _ => hfo x h1, fun _ => hfo _ (by omega), fun h => (by cases h), hob, hor, ⟨bytes_nil, by simp⟩⟩
    rw [List.take_length, hs, hn, hA]
    exact Nat.le_refl _
  · rcases hb with (h1 | h1) | h1
    · exact .inl (hmi b h1)
    · right; rw [h1]; exact hlb
    · right
      have := hL2.row.nd b h1
      exact Nat.le_of_not_lt (fun h2 => this (.inl h2))
end Go.Proofs.Ytadajkgiijpakaa
