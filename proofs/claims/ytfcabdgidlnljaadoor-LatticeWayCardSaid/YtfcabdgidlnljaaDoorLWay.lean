/-
  CONTRACT of package lattice: Way (printed by genlway.py).
-/
import Derived.Test.YtfcabdgidlnljaaDoorLColl
import Derived.Test.YtfcabdgidlnljaaDoorLPlace
import Derived.Test.YtfcabdgidlnljaaDoorLUp
namespace Go.Proofs.YtfcabdgidlnljaaDoor
open Go.RowKit Go.Shelf
open DiP
set_option linter.unusedVariables false
set_option linter.unusedSimpArgs false
set_option maxRecDepth 100000
theorem own_mints {w : World} {base : Nat} {v : Value} {l : List Nat} (h : w.ownsRow base 3 1 v l.length (mints l)) : Own w base v l.length (ints l) := by
  unfold Own
  rw [show (ints l).map (Value.int .i64) = mints l by unfold ints mints; rw [List.map_map]; rfl]
  exact h
theorem ix_mints (l : List Nat) (j : Nat) : ix (ints l) j = ((l.getD j 0 : Nat) : Int) := by
  unfold ix ints
  rw [List.getD_eq_getElem?_getD, List.getD_eq_getElem?_getD, List.getElem?_map]
  cases l[j]? <;> rfl
theorem ix_past {ps : List Int} {k : Nat} (h : ps.length ≤ k) : ix ps k = 0 := by
  unfold ix
  rw [List.getD_eq_getElem?_getD, List.getElem?_eq_none h]; rfl
set_option maxHeartbeats 1000000 in
theorem way_bad {w : World} {B m c : Nat} {n : Int} {A P : Option Addr} {mp cp : Nat} {es : List (Int × Int)} (hx : RdE w B A m es) (hr : ¬ GraphR n es) (hm0 : m ≤ 9223372036854775807) (hB : B ≤ w.heap.size) :
    Calls Tryd.prog 23 #[.agg #[.int .i64 n, .slice A m c], .slice P mp cp] w fun e w' => e = .returned (.tuple #[.slice none 0 0, .int .i64 20]) ∧ Below w.heap.size w w' := by
  have HX := Lib.hid hx
  have HR := Lib.hid hr
  clear hx hr
  go_enter Tryd.func23, Tryd.ntmps23
  go_wp2_with fail
  refine (order_bad (HX.out.alloc hB _) HR.out hm0 (by simp; omega)).mono ?_
  rintro e w2 ⟨rfl, hb⟩
  have HB := Lib.hid hb
  clear hb
  go_wp2
  go_ret2
  exact ⟨rfl, ((Below.refl _ _).alloc (Nat.le_refl _) _).trans (HB.out.mono (by simp))⟩
set_option maxHeartbeats 1000000 in
theorem way_no {w : World} {B m c n : Nat} {A P : Option Addr} {mp cp : Nat} {g : List (Nat × Nat)} (hx : RdG w B A m g) (hi : InN n g) (hn : n ≤ 64) (hm : m ≤ 4096) (hB : B ≤ w.heap.size) (hG : ¬ Goes (befG g) n n) :
    Calls Tryd.prog 23 #[.agg #[.int .i64 (n : Int), .slice A m c], .slice P mp cp] w fun e w' => e = .returned (.tuple #[.slice none 0 0, .int .i64 21]) ∧ Below w.heap.size w w' := by
  have HO := Lib.hid (order_any (w := w.alloc (.cells #[.int .i64 (n : Int), .slice A m c] 24)) (c := c) (RdE.alloc hx hB _) hi hn hm (by simp; omega))
  clear hx hi
  go_enter Tryd.func23, Tryd.ntmps23
  go_wp2_with fail
  refine HO.out.mono ?_
  rintro e w2 ⟨hb, h | ⟨_, rfl⟩⟩
  · exact (hG h.1).elim
  have HB := Lib.hid hb
  clear hb HO
  go_wp2
  go_ret2
  exact ⟨rfl, ((Below.refl _ _).alloc (Nat.le_refl _) _).trans (HB.out.mono (by simp))⟩
set_option maxHeartbeats 8000000 in
theorem way_any {w : World} {B m c n : Nat} {A P : Option Addr} {mp cp : Nat} {ps : List Int} {g : List (Nat × Nat)} (hx : RdG w B A m g) (hi : InN n g) (hn : n ≤ 64) (hm : m ≤ 4096) (hB : B ≤ w.heap.size) (hG : Goes (befG g) n n) (hp : Rd w B P mp ps) (hmp : mp ≤ 9223372036854775807)
    (hps : ∀ k, k < mp → -9223372036854775808 ≤ ix ps k ∧ ix ps k ≤ 9223372036854775807) (hT : Tz w) (h0 : 0 < w.heap.size) :
    Calls Tryd.prog 23 #[.agg #[.int .i64 (n : Int), .slice A m c], .slice P mp cp] w fun e w' => ∃ v, e = .returned (.tuple #[v, .int .i64 0]) ∧ Own w' w.heap.size v n (ints (wayS g n ps n).2) ∧ Below w.heap.size w w' := by
  have HO := Lib.hid (order_any (w := w.alloc (.cells #[.int .i64 (n : Int), .slice A m c] 24)) (c := c) (RdE.alloc hx hB _) hi hn hm (by simp; omega))
  have HX := Lib.hid hx
  have HI := Lib.hid hi
  have HP := Lib.hid hp
  have HPL := Lib.hid hp.len
  have HPS := Lib.hid hps
  have HT := Lib.hid hT
  have HW := Lib.hid (fun k hk => wayS_ok hi hn hG ps k hk)
  have HG := Lib.hid hG
  have HH0 := Lib.hid h0
  obtain ⟨k0, hk0⟩ : ∃ k0, w.heap.size = k0 := ⟨_, rfl⟩
  have Hk0 := Lib.hid hk0
  clear hx hi hp hps hT h0
  go_enter Tryd.func23, Tryd.ntmps23
  go_wp2_with fail
  refine HO.out.mono ?_
  rintro e w2 ⟨hb, hor⟩
  obtain ⟨_, A2, c2, rfl, _⟩ := hor.resolve_right (fun q => q.1 hG)
  clear HO
  obtain ⟨hcn, hcs⟩ := (boxed_alloc w (n : Int) A m c 24).below hb (by simp)
  rw [hk0] at hcn hcs
  have HB2 : Hid (Below k0 w w2) := Lib.hid (by rw [← hk0]; exact ((Below.refl _ _).alloc (Nat.le_refl _) _).trans (hb.mono (by simp)))
  have HSZ : Hid (k0 + 1 ≤ w2.heap.size) := Lib.hid (by have := hb.size; simp at this; omega)
  obtain ⟨p2, hp2⟩ : ∃ p2, w2.heap.size = p2 := ⟨_, rfl⟩
  have Hp2 := Lib.hid hp2
  have HCN := Lib.hid hcn
  have HCS := Lib.hid hcs
  clear hb hG hcn hcs
  have hcn := HCN.out
  have hcs := HCS.out
  go_wp2_with fail
  clear hcn hcs
  go_loopw [8, 9, 26] (fun v8 v9 i wr => ∃ (k : Nat) (Av : Option Addr) (cv : Nat), k ≤ n ∧ i = .int .i64 (k : Int) ∧ v8 = .slice Av k cv ∧ v9 = .int .u64 (((wayS g n ps k).1 : Nat) : Int) ∧ Hid (Own wr p2 (.slice Av k cv) k (ints (wayS g n ps k).2)) ∧ Hid (Below p2 w2 wr)) (fun _ _ i _ => n - (intOf i).toNat)
  case atStart => exact ⟨0, none, 0, by omega, rfl, rfl, rfl, Lib.hid (Own.nil_ _ _), Lib.hid (Below.refl _ _)⟩
  case round =>
    obtain ⟨k, Av, cv, hk, rfl, rfl, rfl, HV, HR⟩ := hrel
    by_cases hlt : k < n
    · have hdk : decide ((k : Int) < (n : Int)) = true := decide_eq_true (by omega)
      have HPR : Hid (p2 ≤ wr.heap.size) := Lib.hid (by rw [← Hp2.out]; exact HR.out.size)
      have HBR : Hid (Below k0 w wr) := Lib.hid (HB2.out.trans (HR.out.mono (by have := HSZ.out; have := Hp2.out; omega)))
      have hcn := (HR.out.cell (p := ⟨k0, 0, none⟩) (by have := HSZ.out; have := Hp2.out; show k0 < p2; omega)).trans HCN.out
      have hcs := (HR.out.cell (p := ⟨k0, 1, none⟩) (by have := HSZ.out; have := Hp2.out; show k0 < p2; omega)).trans HCS.out
      obtain ⟨d, hd⟩ : ∃ d, (wayS g n ps k).1 = d := ⟨_, rfl⟩
      obtain ⟨wl, hwl⟩ : ∃ wl, (wayS g n ps k).2 = wl := ⟨_, rfl⟩
      have HWI : Hid (WayI g n k d wl) := Lib.hid (by rw [← hd, ← hwl]; exact HW.out k hk)
      obtain ⟨L, hL⟩ : ∃ L, nxtL g n d = L := ⟨_, rfl⟩
      have HLN : Hid (L ≠ []) := Lib.hid (by rw [← hL]; exact HWI.out.some HI.out hn HG.out hlt)
      have HL1 : Hid (1 ≤ L.length) := Lib.hid (List.length_pos_iff.2 HLN.out)
      have HL2 : Hid (L.length ≤ 64) := Lib.hid (by rw [← hL]; exact nxtL_len)
      obtain ⟨v, hv⟩ : ∃ v, nxt g n d (ix ps k) = v := ⟨_, rfl⟩
      have HVL : Hid (L.getD (plc L.length (ix ps k)) 0 = v) := Lib.hid (by rw [← hv, ← hL]; rfl)
      have HVN : Hid (v < n) := Lib.hid (by rw [← hv]; exact ((nxtL_mem hn).1 (nxt_mem (by rw [hL]; exact HLN.out) _)).1)
      have HS1 : Hid ((wayS g n ps (k + 1)).1 = add d v) := Lib.hid (by rw [← hv, ← hd]; rfl)
      have HS2 : Hid (ints (wayS g n ps (k + 1)).2 = ints wl ++ [(v : Int)]) := Lib.hid (by rw [← ints_snoc, ← hv, ← hd, ← hwl]; rfl)
      have HRD : Hid (rdyK (befG g) d n < lim) := Lib.hid (rdyK_lt _ _ n hn)
      have HML : Hid (memL (rdyK (befG g) d n) = L) := Lib.hid hL
      have HRY := Lib.hid (readyM_any (c := c) (s := d) (HX.out.below (B := B) (HBR.out.mono (by rw [← Hk0.out]; exact hB))) HI.out hn hm (by have := HBR.out.size; have := Hk0.out; omega) HWI.out.ins.1 (fits_of HWI.out.ins.2))
      have HTR : Hid (Tz wr) := Lib.hid (HT.out.below (B := k0) HBR.out (by have := HH0.out; have := Hk0.out; omega))
      have HPK : Hid (Rd wr B P mp ps) := Lib.hid (HP.out.below (HBR.out.mono (by rw [← Hk0.out]; exact hB)))
      have HON : Hid (Own wr p2 (.slice Av k cv) k (ints wl)) := Lib.hid (by rw [← hwl]; exact HV.out)
      rw [hd]
      clear hd hwl hL hv HV
      go_wp2_with fail
      refine HRY.out.mono ?_
      rintro e w3 ⟨rfl, hb3⟩
      have HB3 : Hid (Below wr.heap.size wr w3) := Lib.hid hb3
      clear HRY hb3 hcn hcs
      by_cases hkp : k < mp
      · have hdp : decide ((k : Int) < (mp : Int)) = true := decide_eq_true (by omega)
        obtain ⟨bp, op, rfl, hbp, hcp⟩ := HPK.out.at_ hkp
        have hck := (HB3.out.cell (p := ⟨bp, op + k, none⟩) (show bp < wr.heap.size by have := HBR.out.size; have := Hk0.out; omega)).trans hcp
        obtain ⟨pk, hpk⟩ : ∃ pk, ix ps k = pk := ⟨_, rfl⟩
        have HPB : Hid (-9223372036854775808 ≤ pk ∧ pk ≤ 9223372036854775807) := Lib.hid (by rw [← hpk]; exact HPS.out k hkp)
        rw [hpk] at HVL hck
        clear hpk hcp hbp
        go_wp2_with fail
        refine ((callsIn_wide (n := 9)).1 (members_in 9 (rdyK (befG g) d n) w3)).mono ?_
        rintro e w4 ⟨rfl, hw4⟩
        obtain ⟨p3, hp3⟩ : ∃ p3, w3.heap.size = p3 := ⟨_, rfl⟩
        have HP3 : Hid (wr.heap.size ≤ p3) := Lib.hid (by rw [← hp3]; exact HB3.out.size)
        have HB4 : Hid (Below wr.heap.size wr w4) := Lib.hid (by rw [hw4]; exact HB3.out.alloc (by rw [hp3]; exact HP3.out) _)
        have HZ4 : Hid (w4.heap.size = p3 + 1) := Lib.hid (by rw [hw4, World.size_alloc, hp3])
        have HC4 : Hid (w4.cell? ⟨p3, 0, none⟩ = some (.int .u64 ((rdyK (befG g) d n : Nat) : Int))) := Lib.hid (by rw [hw4, ← hp3]; simp)
        have HT4 : Hid (Tz w4) := Lib.hid (HTR.out.below HB4.out (by have := HPR.out; have := HSZ.out; have := Hp2.out; omega))
        have HCO := Lib.hid (collect_any HRD.out HC4.out HT4.out (by rw [HZ4.out]; omega) (by rw [HZ4.out]; omega))
        rw [HML.out] at HCO
        rw [hp3]
        clear hw4 hp3
        go_wp2_with fail
        refine HCO.out.mono ?_
        rintro e w5 ⟨v5, rfl, hrow, hb5⟩
        have hown := own_mints hrow
        obtain ⟨gl, cl, rfl, hgl1, hgl2⟩ := hown.form (by have := HL1.out; omega)
        have HCL : Hid (w5.cell? ⟨gl, plc L.length pk, none⟩ = some (.int .i64 (v : Int))) := Lib.hid (by
          have h := Own.cell hown (j := plc L.length pk) (plc_lt (by have := HL1.out; omega) _)
          rw [h, ix_mints, HVL.out])
        have HB5 : Hid (Below wr.heap.size wr w5) := Lib.hid (HB4.out.trans (hb5.mono (by rw [HZ4.out]; have := HP3.out; omega)))
        have HPC := Lib.hid (place_any (w := w5) (n := L.length) (p := pk) HL1.out HL2.out HPB.out)
        clear HCO hrow hb5 hown hgl1 hgl2
        go_wp2_with fail
        refine HPC.out.mono ?_
        rintro e w' ⟨rfl, rfl⟩
        have hcl := HCL.out
        have hpl : plc L.length pk < L.length := plc_lt (by have := HL1.out; omega) _
        have hpl1 : ((plc L.length pk : Nat) : Int) < (L.length : Int) := by omega
        have hpl0 : (0 : Int) ≤ ((plc L.length pk : Nat) : Int) := by omega
        have HON5 : Hid (Own w5 p2 (.slice Av k cv) k (ints wl)) := Lib.hid (HON.out.kept HB5.out)
        have ho : bits BinOp.or IntKind.u64 (d : Int) (IntKind.u64.wrap (2 ^ v)) = ((add d v : Nat) : Int) := or_spell2 HWI.out.ins.1 (by have := HVN.out; omega)
        have hv0 : (0 : Int) ≤ (v : Int) := by omega
        have hv1 : (v : Int) < 64 := by have := HVN.out; omega
        clear HPC hpl
        go_wp2_with (at_builtin; refine wpl_app rfl (.tmp 56) (.tmp 58) rfl p2 (.slice Av k cv) k (ints wl) rfl (HON5.out.alloc _) w5.heap.size (v : Int) rfl (by simp) (by omega) (by have := HB5.out.size; have := HPR.out; simp; omega) ?_; intro g' c' w6 hown6 hbg6 hgr6 hwh6; (have HO6 := Lib.hid hown6); (have HR6 : Hid (Below p2 w2 w6) := Lib.hid (((HR.out.trans (HB5.out.mono HPR.out)).alloc (by have := HB5.out.size; have := HPR.out; omega) _).grown hgr6 (by have := HB5.out.size; have := HPR.out; simp; omega) (fun x hx => HON5.out.ge x hx))); clear hown6 hbg6 hgr6 hwh6 hcl)
        go_roundw
        case rel => exact ⟨k + 1, _, _, by omega, by go_num, rfl, by rw [HS1.out], Lib.hid (by rw [HS2.out]; exact HO6.out), HR6⟩
        case measure => simp [intOf]; omega
      · have hdp : decide ((k : Int) < (mp : Int)) = false := decide_eq_false (by omega)
        have HPB : Hid (-9223372036854775808 ≤ (0 : Int) ∧ (0 : Int) ≤ 9223372036854775807) := Lib.hid (by omega)
        rw [ix_past (by rw [HPL.out]; omega)] at HVL
        go_wp2_with fail
        refine ((callsIn_wide (n := 9)).1 (members_in 9 (rdyK (befG g) d n) w3)).mono ?_
        rintro e w4 ⟨rfl, hw4⟩
        obtain ⟨p3, hp3⟩ : ∃ p3, w3.heap.size = p3 := ⟨_, rfl⟩
        have HP3 : Hid (wr.heap.size ≤ p3) := Lib.hid (by rw [← hp3]; exact HB3.out.size)
        have HB4 : Hid (Below wr.heap.size wr w4) := Lib.hid (by rw [hw4]; exact HB3.out.alloc (by rw [hp3]; exact HP3.out) _)
        have HZ4 : Hid (w4.heap.size = p3 + 1) := Lib.hid (by rw [hw4, World.size_alloc, hp3])
        have HC4 : Hid (w4.cell? ⟨p3, 0, none⟩ = some (.int .u64 ((rdyK (befG g) d n : Nat) : Int))) := Lib.hid (by rw [hw4, ← hp3]; simp)
        have HT4 : Hid (Tz w4) := Lib.hid (HTR.out.below HB4.out (by have := HPR.out; have := HSZ.out; have := Hp2.out; omega))
        have HCO := Lib.hid (collect_any HRD.out HC4.out HT4.out (by rw [HZ4.out]; omega) (by rw [HZ4.out]; omega))
        rw [HML.out] at HCO
        rw [hp3]
        clear hw4 hp3
        go_wp2_with fail
        refine HCO.out.mono ?_
        rintro e w5 ⟨v5, rfl, hrow, hb5⟩
        have hown := own_mints hrow
        obtain ⟨gl, cl, rfl, hgl1, hgl2⟩ := hown.form (by have := HL1.out; omega)
        have HCL : Hid (w5.cell? ⟨gl, plc L.length (0 : Int), none⟩ = some (.int .i64 (v : Int))) := Lib.hid (by
          have h := Own.cell hown (j := plc L.length (0 : Int)) (plc_lt (by have := HL1.out; omega) _)
          rw [h, ix_mints, HVL.out])
        have HB5 : Hid (Below wr.heap.size wr w5) := Lib.hid (HB4.out.trans (hb5.mono (by rw [HZ4.out]; have := HP3.out; omega)))
        have HPC := Lib.hid (place_any (w := w5) (n := L.length) (p := (0 : Int)) HL1.out HL2.out HPB.out)
        clear HCO hrow hb5 hown hgl1 hgl2
        go_wp2_with fail
        refine HPC.out.mono ?_
        rintro e w' ⟨rfl, rfl⟩
        have hcl := HCL.out
        have hpl : plc L.length (0 : Int) < L.length := plc_lt (by have := HL1.out; omega) _
        have hpl1 : ((plc L.length (0 : Int) : Nat) : Int) < (L.length : Int) := by omega
        have hpl0 : (0 : Int) ≤ ((plc L.length (0 : Int) : Nat) : Int) := by omega
        have HON5 : Hid (Own w5 p2 (.slice Av k cv) k (ints wl)) := Lib.hid (HON.out.kept HB5.out)
        have ho : bits BinOp.or IntKind.u64 (d : Int) (IntKind.u64.wrap (2 ^ v)) = ((add d v : Nat) : Int) := or_spell2 HWI.out.ins.1 (by have := HVN.out; omega)
        have hv0 : (0 : Int) ≤ (v : Int) := by omega
        have hv1 : (v : Int) < 64 := by have := HVN.out; omega
        clear HPC hpl
        go_wp2_with (at_builtin; refine wpl_app rfl (.tmp 56) (.tmp 58) rfl p2 (.slice Av k cv) k (ints wl) rfl (HON5.out.alloc _) w5.heap.size (v : Int) rfl (by simp) (by omega) (by have := HB5.out.size; have := HPR.out; simp; omega) ?_; intro g' c' w6 hown6 hbg6 hgr6 hwh6; (have HO6 := Lib.hid hown6); (have HR6 : Hid (Below p2 w2 w6) := Lib.hid (((HR.out.trans (HB5.out.mono HPR.out)).alloc (by have := HB5.out.size; have := HPR.out; omega) _).grown hgr6 (by have := HB5.out.size; have := HPR.out; simp; omega) (fun x hx => HON5.out.ge x hx))); clear hown6 hbg6 hgr6 hwh6 hcl)
        go_roundw
        case rel => exact ⟨k + 1, _, _, by omega, by go_num, rfl, by rw [HS1.out], Lib.hid (by rw [HS2.out]; exact HO6.out), HR6⟩
        case measure => simp [intOf]; omega
    · have hdk : decide ((k : Int) < (n : Int)) = false := decide_eq_false (by omega)
      obtain rfl : k = n := by omega
      go_wp2
      go_ret2
      exact ⟨_, rfl, Own.less HV.out (by have := HSZ.out; have := Hp2.out; have := Hk0.out; omega), by rw [Hk0.out]; exact HB2.out.trans (HR.out.mono (by have := HSZ.out; have := Hp2.out; omega))⟩
end Go.Proofs.YtfcabdgidlnljaaDoor
