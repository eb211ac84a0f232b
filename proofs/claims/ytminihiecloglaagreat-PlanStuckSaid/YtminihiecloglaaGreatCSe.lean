/-
 MERGED: CSt CSe.
-/
import Derived.Test.YtminihiecloglaaGreatCFa
import Derived.Test.YtminihiecloglaaGreatCGa
import Derived.Test.YtminihiecloglaaGreatDOrder
import Derived.Deep.RegionHeld3
set_option linter.unusedVariables false
set_option linter.unusedSimpArgs false
namespace Go.Proofs.YtminihiecloglaaGreat
open Go.RowKit
open SemP FlP GaP DiP
set_option maxRecDepth 10000
def LevOK (l : List Sv) : Prop := ∀ s ∈ l, ∀ r ∈ s.2, 0 ≤ r.2.1 ∧ r.2.1 ≤ 1000
def plB (p : Int × Int) : Bool := decide (0 ≤ p.1) && decide (p.1 ≤ 1048576) && (decide (0 ≤ p.2) && decide (p.2 ≤ 1048576))
theorem plB_yes {p : Int × Int} : plB p = true ↔ Pl p := by
 unfold plB Pl
 simp only [Bool.and_eq_true, decide_eq_true_eq]
 exact ⟨fun ⟨⟨a, b⟩, c, d⟩ => ⟨a, b, c, d⟩, fun ⟨a, b, c, d⟩ => ⟨⟨a, b⟩, c, d⟩⟩
abbrev levAt (l : List Sv) (i v : Nat) : Int := (rlAt (svAt l i).2 v).2.1
def standC (l : List Sv) (i : Int) (p : Int × Int) : Bool := plB p && (isR l i p.1 && (decide (-1 ≤ p.2 - 2 * levAt l i.toNat p.1.toNat) && decide (p.2 - 2 * levAt l i.toNat p.1.toNat ≤ 1)))
theorem isPlace_no (p : Int × Int) (h : ¬ Pl p) (h1 : p.1.natAbs < 2 ^ 53) (h2 : p.2.natAbs < 2 ^ 53) (w : World) : Calls Tryz.prog 110 #[cv p] w fun e w' => e = .returned (.bool false) ∧ w = w' := by
 obtain ⟨x, y⟩ := p
 simp only at h1 h2
 have H1 := Lib.hid h1
 have H2 := Lib.hid h2
 by_cases hx : 0 ≤ x ∧ x ≤ 1048576
 ·have HX := Lib.hid hx
  have HY : Hid (y < 0 ∨ 1048576 < y) := Lib.hid (by
   apply Classical.byContradiction
   intro hc
   exact h ⟨hx.1, hx.2, by show 0 ≤ y; omega, by show y ≤ _; omega⟩)
  clear h h1 h2 hx
  unfold cv
  go_enter Tryz.func110, Tryz.ntmps110
  go_wp2_with fail
  refine (whole_yes x 0 1048576 _ _ H1.out (by decide) (by decide) fl0 flP HX.out.1 HX.out.2 _).mono ?_; rintro e w' ⟨rfl, rfl⟩
  go_wp2_with fail
  refine (whole_no y 0 1048576 _ _ H2.out (by decide) (by decide) fl0 flP HY.out _).mono ?_; rintro e w' ⟨rfl, rfl⟩
  go_wp2
  go_ret
  exact ⟨rfl, rfl⟩
 ·have HX : Hid (x < 0 ∨ 1048576 < x) := Lib.hid (by omega)
  clear h h1 h2 hx
  unfold cv
  go_enter Tryz.func110, Tryz.ntmps110
  go_wp2_with fail
  refine (whole_no x 0 1048576 _ _ H1.out (by decide) (by decide) fl0 flP HX.out _).mono ?_; rintro e w' ⟨rfl, rfl⟩
  go_wp2
  go_ret
  exact ⟨rfl, rfl⟩
theorem parts_no (p : Int × Int) (h : ¬ Pl p) (h1 : p.1.natAbs < 2 ^ 53) (h2 : p.2.natAbs < 2 ^ 53) (w : World) : Calls Tryz.prog 100 #[cv p] w fun e w' => e = .returned (.tuple #[.int .i64 0, .int .i64 0, .int .i64 12]) ∧ w = w' := by
 have HP := Lib.hid (isPlace_no p h h1 h2)
 clear h h1 h2
 have hcv : ∀ p, cv p = .complex .f64 (fl p.1) (fl p.2) := fun _ => rfl
 go_enter Tryz.func100, Tryz.ntmps100
 go_wp2_with fail
 refine (HP.out _).mono ?_; rintro e w' ⟨rfl, rfl⟩
 go_wp2
 go_ret3
 exact ⟨rfl, rfl⟩
set_option maxHeartbeats 8000000 in
theorem stands_any {w : World} {B n c : Nat} {i : Int} {p : Int × Int} {A : Option Addr} {l : List Sv} (h : CatAt w B A n c l) (hlv : LevOK l) (h1 : p.1.natAbs < 2 ^ 53) (h2 : p.2.natAbs < 2 ^ 53) :
  Calls Tryz.prog 99 #[.agg #[.slice A n c], .int .i64 i, cv p] w fun e w' => e = .returned (.bool (standC l i p)) ∧ Below w.heap.size w w' := by
 have HN : Hid (l.length = n) := Lib.hid h.rd.1
 have hcv : ∀ p, cv p = .complex .f64 (fl p.1) (fl p.2) := fun _ => rfl
 obtain ⟨W, HW⟩ : ∃ W, Hid (W = w.alloc (.cells #[.slice A n c] 24)) := ⟨_, Lib.hid rfl⟩
 have hbl : Below w.heap.size w W := by rw [HW.out]; exact (Below.refl _ w).alloc (Nat.le_refl _) _
 have H0 : Hid (W.heap[w.heap.size]? = some (.cells #[.slice A n c] 24 (0, 0))) := Lib.hid (by rw [HW.out]; exact heap_new w _)
 have HA := Lib.hid (h.below hbl)
 have HBL := Lib.hid hbl
 have hsz := hbl.size
 have HLV := Lib.hid hlv
 clear h hbl hlv
 obtain ⟨x0, _⟩ := row1f H0.out
 go_enter Tryz.func99, Tryz.ntmps99
 go_upto_region 1 with fail
 change Code.wp _ _ _ _ (w.alloc (.cells #[.slice A n c] 24))
 rw [← HW.out]
 by_cases hp : Pl p
 ·have HPT := Lib.hid (parts_yes p hp)
  have HPB : Hid (plB p = true) := Lib.hid (plB_yes.2 hp)
  have HPL := Lib.hid hp
  obtain ⟨pv, pf⟩ := p
  clear hp h1 h2
  go_wp2_with fail
  refine (HPT.out _).mono ?_
  rintro e w' ⟨rfl, hw'⟩
  subst hw'
  have HI := Lib.hid (isRelease_any (i := i) (v := pv) HA.out)
  go_wp2_with fail
  refine HI.out.mono ?_
  rintro e w1 ⟨rfl, hb⟩
  have HB1 : Hid (Below w.heap.size w w1) := Lib.hid (HBL.out.trans (hb.mono hsz))
  have HA1 := Lib.hid (HA.out.below hb)
  have K1 : Hid (w1.heap[w.heap.size]? = _) := Lib.hid ((hb.block w.heap.size (heapE_lt H0.out)).trans H0.out)
  clear hb x0 HI HPT
  cases hq : isR l i pv with
  | false =>
   have HV : Hid (standC l i (pv, pf) = false) := Lib.hid (by unfold standC; simp only; rw [hq]; simp)
   clear hq
   go_wp2_with fail
   refine bodyPost_ret (results_tmp rfl _ _ _) rfl ⟨?_, HB1.out⟩
   exact congrArg (fun b => Ending.returned (.bool b)) HV.out.symm
  | true =>
   obtain ⟨a, b, rfl, rfl, ha, hbb⟩ := isR_nat hq
   have HAN : Hid (a < n) := Lib.hid (by rw [← HN.out]; exact ha)
   have han : (a : Int) < (n : Int) := by have := HAN.out; omega
   obtain ⟨b1, o1, Aj, nj, cj, hA, hb1, k0, k1, hcap, hrr⟩ := sv_at HA1.out.rd HAN.out
   subst hA
   have hbn : b < nj := by rw [← hrr.1]; exact hbb
   have hbI : (b : Int) < (nj : Int) := by omega
   obtain ⟨b2, o2, A3, n3, c3, rfl, hb2, q0, q1, q2, q3, q4, q5, _, _⟩ := rl_at hrr hbn
   have HLL := HLV.out _ (svAt_mem ha) _ (rlAt_mem hbb)
   obtain ⟨lv, HLVL⟩ : ∃ lv, Hid (levAt l a b = lv) := ⟨_, Lib.hid rfl⟩
   have q4' : w1.cell? ⟨b2, o2 + b * 6 + 4, none⟩ = some (.int .i64 lv) := by rw [← HLVL.out]; exact q4
   have HLB : Hid (0 ≤ lv ∧ lv ≤ 1000) := Lib.hid (by rw [← HLVL.out]; exact HLL)
   have HV1 : Hid (standC l (a : Int) ((b : Int), pf) = (decide (-1 ≤ pf - 2 * lv) && decide (pf - 2 * lv ≤ 1))) := Lib.hid (by
    unfold standC
    rw [HPB.out, hq]
    show (true && (true && (decide (-1 ≤ pf - 2 * levAt l a b) && decide (pf - 2 * levAt l a b ≤ 1)))) = _
    rw [HLVL.out]; rfl)
   have hpf : 0 ≤ pf ∧ pf ≤ 1048576 := ⟨HPL.out.2.2.1, HPL.out.2.2.2⟩
   have hm1 : IntKind.i64.wrap (2 * lv) = 2 * lv := IntWalk.i64_in _ (by have := HLB.out; omega)
   have hm2 : IntKind.i64.wrap (pf - 2 * lv) = pf - 2 * lv := IntWalk.i64_in _ (by have := HLB.out; omega)
   obtain ⟨x0, _⟩ := row1f K1.out
   clear hq ha hbb hrr k0 q0 q1 q2 q3 q4 q5 HLL
   obtain ⟨d, hd⟩ : ∃ d, pf - 2 * lv = d := ⟨_, rfl⟩
   rw [hd] at hm2
   have HD := Lib.hid hd
   by_cases e1 : -1 ≤ d
   ·have d1 : decide (-1 ≤ d) = true := decide_eq_true e1
    have HV : Hid (standC l (a : Int) ((b : Int), pf) = decide (d ≤ 1)) := Lib.hid (by rw [HV1.out, HD.out, d1]; rfl)
    go_wp2_with fail
    refine bodyPost_ret (results_tmp rfl _ _ _) rfl ⟨?_, HB1.out⟩
    exact congrArg (fun b => Ending.returned (.bool b)) HV.out.symm
   ·have d1 : decide (-1 ≤ d) = false := decide_eq_false e1
    have HV : Hid (standC l (a : Int) ((b : Int), pf) = false) := Lib.hid (by rw [HV1.out, HD.out, d1]; rfl)
    go_wp2_with fail
    refine bodyPost_ret (results_tmp rfl _ _ _) rfl ⟨?_, HB1.out⟩
    exact congrArg (fun b => Ending.returned (.bool b)) HV.out.symm
 ·have HPT := Lib.hid (parts_no p hp h1 h2)
  have HV : Hid (standC l i p = false) := Lib.hid (by
   unfold standC
   rw [show plB p = false by cases h : plB p with | false => rfl | true => exact absurd (plB_yes.1 h) hp]; rfl)
  clear hp h1 h2
  go_wp2_with fail
  refine (HPT.out _).mono ?_
  rintro e w' ⟨rfl, hw'⟩
  subst hw'
  go_wp2_with fail
  refine bodyPost_ret (results_tmp rfl _ _ _) rfl ⟨?_, HBL.out⟩
  exact congrArg (fun b => Ending.returned (.bool b)) HV.out.symm
end Go.Proofs.YtminihiecloglaaGreat
namespace Go.Proofs.YtminihiecloglaaGreat
open Go.RowKit
open SemP FlP GaP DiP
set_option maxRecDepth 10000
theorem ix_set (xs : List Int) (j k : Nat) (u : Int) (hj : j < xs.length) : ix (xs.set j u) k = if j = k then u else ix xs k := by
 unfold ix
 by_cases h : j = k
 ·subst h; simp [List.getD, hj]
 ·simp [List.getD, h]
theorem wpl_make {w : World} {ops : Array Oper} {rest : List Oper} {o : Oper} {a : Act} {Q : Exit → Act → World → Prop} (hgd : o.guard = none) (l c : Operand)
  (ho : o.op = Op.makeSlice 25 l c) (base n : Nat) (hl : a.eval l = .int .i64 (n : Int)) (hc : a.eval c = .int .i64 (n : Int)) (hn : n ≤ 1099511627776) (hbase : base ≤ w.heap.size)
  (h : ∀ w', Own w' base (.slice (some ⟨w.heap.size, 0, none⟩) n n) n (List.replicate n 0) → w.grownBy w' none → wpList Tryz.prog ops Q rest (a.put o.dst (.slice (some ⟨w.heap.size, 0, none⟩) n n)) w') :
  wpList Tryz.prog ops Q (o :: rest) a w := by
 obtain ⟨i0, hi, hz0, hz1, hz2⟩ := info_parts infoInt
 refine wpList_make_full w hgd l c 25 ho base 3 i0 (.int .i64 0) 1 Tryz.underlying25 hi hz0 hz1 .i64 .i64 n n n hl hc rfl rfl (by rw [hz2]; omega) (by unfold maxLen; omega) hbase ?_
 intro w' hown hg
 refine h w' ?_ hg
 unfold Own
 have e : (madeCells (Value.int .i64 0).cells (n * 1)).toList = (List.replicate n (0 : Int)).map (Value.int .i64) := by
  simp only [madeCells, Value.cells, Array.toList_map, Array.toList_range, Nat.mul_one, List.map_replicate]
  refine List.eq_replicate_iff.2 ⟨by simp, fun b hb => ?_⟩
  obtain ⟨x, _, rfl⟩ := List.mem_map.1 hb
  have : x % 1 = 0 := Nat.mod_one x
  simp [this]
 rw [← e]; exact hown
theorem OwnZc.nil_ (w : World) (base : Nat) : OwnZc w base (.slice none 0 0) 0 [] := World.ownsRow_nil _ _ _ _
theorem OwnZc.kept {w w' : World} {base n : Nat} {v : Value} {zs : List (Int × Int)} (h : OwnZc w base v n zs) (hb : Below w.heap.size w w') : OwnZc w' base v n zs := by
 refine ⟨h.1, ?_⟩
 rcases h.2 with h | ⟨g, cap, cur, hv, hbg, hh, r⟩
 ·exact .inl h
 ·exact .inr ⟨g, cap, cur, hv, hbg, (hb.block g (heapE_lt hh)).trans hh, r⟩
theorem OwnZc.shape {w : World} {base n : Nat} {v : Value} {zs : List (Int × Int)} (h : OwnZc w base v n zs) : ∃ A c, v = .slice A n c := by
 rcases h.2 with ⟨rfl, rfl⟩ | ⟨g, cap, cur, rfl, _⟩
 ·exact ⟨none, 0, rfl⟩
 ·exact ⟨_, cap, rfl⟩
def setP (l : List Sv) (vs : List Int) (i : Nat) : Int × Int := (ix vs i, 2 * levAt l i (ix vs i).toNat)
def setK (l : List Sv) (vs : List Int) (k : Nat) : List (Int × Int) := (List.range k).map (setP l vs)
def setL (l : List Sv) (vs : List Int) : List (Int × Int) := setK l vs vs.length
def setB (l : List Sv) (vs : List Int) : Bool := decide (vs.length = l.length) && (List.range vs.length).all (fun i => isR l (i : Int) (ix vs i))
theorem setK_succ (l : List Sv) (vs : List Int) (k : Nat) : setK l vs (k + 1) = setK l vs k ++ [setP l vs k] := by
 unfold setK; rw [List.range_succ, List.map_append]; rfl
theorem setL_len (l : List Sv) (vs : List Int) : (setL l vs).length = vs.length := by simp [setL, setK]
theorem setL_at (l : List Sv) (vs : List Int) {k : Nat} (h : k < vs.length) : at_ (setL l vs) k = setP l vs k := by
 unfold at_ setL setK
 simp [List.getD, h]
set_option maxHeartbeats 16000000 in
theorem settled_any {w : World} {B B' n c m c2 : Nat} {A A2 : Option Addr} {l : List Sv} {vs : List Int} (h : CatAt w B A n c l) (hlv : LevOK l) (hv : Rd w B' A2 m vs) (hB' : B' ≤ w.heap.size) (hm : m ≤ 64) :
  Calls Tryz.prog 20 #[.agg #[.slice A n c], .slice A2 m c2] w fun e w' => Below w.heap.size w w' ∧ ((setB l vs = true ∧ ∃ A' c', e = .returned (.tuple #[.slice A' m c', .int .i64 0]) ∧ OwnZc w' w.heap.size (.slice A' m c') m (setL l vs)) ∨ (setB l vs = false ∧ e = .returned (.tuple #[.slice none 0 0, .int .i64 42]))) := by
 have HN : Hid (l.length = n) := Lib.hid h.rd.1
 have HM : Hid (vs.length = m) := Lib.hid hv.len
 have hcv : ∀ p, cv p = .complex .f64 (fl p.1) (fl p.2) := fun _ => rfl
 obtain ⟨W, HW⟩ : ∃ W, Hid (W = w.alloc (.cells #[.slice A n c] 24)) := ⟨_, Lib.hid rfl⟩
 have hbl : Below w.heap.size w W := by rw [HW.out]; exact (Below.refl _ w).alloc (Nat.le_refl _) _
 have hzW : W.heap.size = w.heap.size + 1 := by rw [HW.out]; simp
 have H0 : Hid (W.heap[w.heap.size]? = some (.cells #[.slice A n c] 24 (0, 0))) := Lib.hid (by rw [HW.out]; exact heap_new w _)
 have HA0 := Lib.hid h
 have HBL := Lib.hid hbl
 have HLV := Lib.hid hlv
 have HVS := Lib.hid hv
 clear h hbl hlv hv
 obtain ⟨x0, _⟩ := row1f H0.out
 go_enter Tryz.func20, Tryz.ntmps20
 go_upto_region 1 with fail
 change Code.wp _ _ _ _ (w.alloc (.cells #[.slice A n c] 24))
 rw [← HW.out]
 by_cases hmn : m = n
 ·subst hmn
  go_wp2_with fail
  clear x0
  go_loopw [6, 7, 8, 9, 10, 19] (fun s _ _ _ _ v wr => ∃ k : Nat, k ≤ m ∧ v = .int .i64 (k : Int) ∧ Hid (Below w.heap.size w wr ∧ Below W.heap.size W wr) ∧ Hid (OwnZc wr W.heap.size s k (setK l vs k)) ∧ Hid (∀ i, i < k → isR l (i : Int) (ix vs i) = true)) (fun _ _ _ _ _ v _ => m - (intOf v).toNat)
  case atStart => exact ⟨0, Nat.zero_le _, rfl, Lib.hid ⟨HBL.out, Below.refl _ _⟩, Lib.hid (OwnZc.nil_ _ _), Lib.hid (fun i h => absurd h (by omega))⟩
  case round =>
   obtain ⟨wo, hwo⟩ : ∃ x, x = wr := ⟨_, rfl⟩
   subst hwo
   obtain ⟨k, hk, rfl, HB, HO, HOK⟩ := hrel
   have hzr := HB.out.2.size
   have K0 : Hid (wo.heap[w.heap.size]? = _) := Lib.hid ((HB.out.2.block w.heap.size (by omega)).trans H0.out)
   obtain ⟨x0, _⟩ := row1f K0.out
   by_cases hkm : k < m
   ·have hd : decide ((k : Int) < (m : Int)) = true := by simp; omega
    have hki : (k : Int) < (m : Int) := by omega
    have hadd : IntKind.i64.wrap ((k : Int) + 1) = ((k + 1 : Nat) : Int) := by rw [IntWalk.i64_in _ (by omega)]; omega
    obtain ⟨bv, ov, rfl, hbv, kv⟩ := (HVS.out.below (HB.out.1.mono hB')).at_ hkm
    have HA := Lib.hid (HA0.out.below HB.out.1)
    obtain ⟨vv, HVV⟩ : ∃ vv, Hid (ix vs k = vv) := ⟨_, Lib.hid rfl⟩
    rw [HVV.out] at kv
    have HI := Lib.hid (isRelease_any (i := (k : Int)) (v := vv) HA.out)
    go_wp2_with fail
    refine HI.out.mono ?_
    rintro e w1 ⟨rfl, hb⟩
    have HB1 : Hid (Below w.heap.size w w1 ∧ Below W.heap.size W w1) := Lib.hid ⟨HB.out.1.trans (hb.mono HB.out.1.size), HB.out.2.trans (hb.mono hzr)⟩
    have HA1 := Lib.hid (HA.out.below hb)
    have K1 : Hid (w1.heap[w.heap.size]? = _) := Lib.hid ((hb.block w.heap.size (heapE_lt K0.out)).trans K0.out)
    have HO1 := Lib.hid (HO.out.kept hb)
    clear hb x0 kv HI
    cases hq : isR l (k : Int) vv with
    | false =>
     have HF : Hid (setB l vs = false) := Lib.hid (by
      have h1 : (List.range vs.length).all (fun i => isR l (i : Int) (ix vs i)) = false := by
       rw [List.all_eq_false]
       exact ⟨k, List.mem_range.2 (by rw [HM.out]; exact hkm), by rw [HVV.out, hq]; simp⟩
      unfold setB; rw [h1, Bool.and_false])
     clear hq
     go_wp2_with fail
     go_ret2
     exact ⟨HB1.out.1, .inr ⟨HF.out, rfl⟩⟩
    | true =>
     have HQ := Lib.hid hq
     obtain ⟨a, b, ha, rfl, haa, hbb⟩ := isR_nat hq
     obtain rfl : a = k := by omega
     obtain ⟨b1, o1, Aj, nj, cj, hA, hb1, k0, k1, hcap, hrr⟩ := sv_at HA1.out.rd hkm
     subst hA
     have hbn : b < nj := by rw [← hrr.1]; exact hbb
     have hbI : (b : Int) < (nj : Int) := by omega
     obtain ⟨b2, o2, A3, n3, c3, rfl, hb2, q0, q1, q2, q3, q4, q5, _, _⟩ := rl_at hrr hbn
     have HLL := HLV.out _ (svAt_mem haa) _ (rlAt_mem hbb)
     have hb16 : (svAt l a).2.length ≤ 16 := (HA0.out.sm.2 _ (svAt_mem haa)).2.1
     obtain ⟨lv, HLVL⟩ : ∃ lv, Hid (levAt l a b = lv) := ⟨_, Lib.hid rfl⟩
     have q4' : w1.cell? ⟨b2, o2 + b * 6 + 4, none⟩ = some (.int .i64 lv) := by rw [← HLVL.out]; exact q4
     have HLB : Hid (0 ≤ lv ∧ lv ≤ 1000) := Lib.hid (by rw [← HLVL.out]; exact HLL)
     have hm1 : IntKind.i64.wrap (2 * lv) = 2 * lv := IntWalk.i64_in _ (by have := HLB.out; omega)
     have HSP : Hid (setP l vs a = ((b : Int), 2 * lv)) := Lib.hid (by
      unfold setP
      rw [HVV.out]
      show ((b : Int), 2 * levAt l a b) = _
      rw [HLVL.out])
     have HPL : Hid (Pl ((b : Int), 2 * lv)) := Lib.hid (by
      have h1 := HLB.out
      have h2 : (0 : Int) ≤ (b : Int) := by omega
      have h3 : (b : Int) ≤ 1048576 := by omega
      have h4 : 0 ≤ 2 * lv := by omega
      have h5 : 2 * lv ≤ 1048576 := by omega
      exact ⟨h2, h3, h4, h5⟩)
     obtain ⟨x0, _⟩ := row1f K1.out
     clear hq ha haa hbb hrr k0 q0 q1 q2 q3 q4 q5 HLL hb16
     go_wp2_with fail
     refine (at_yes (b : Int) (2 * lv) _ HPL.out).mono ?_
     rintro e w' ⟨rfl, hw'⟩
     subst hw'
     clear x0 k1 q4'
     have hzr1 := HB1.out.2.size
     go_wp2_with (at_builtin; refine wpl_appZc rfl (.tmp 48) (.tmp 50) rfl W.heap.size _ a _ rfl (HO1.out.alloc _) w1.heap.size ((b : Int), 2 * lv) rfl (by simp [cv]) (by omega) (by simp; omega) ?_; intro g' c' w5 hown5 hge5 hgr5 hat5)
     have HO5 : Hid (OwnZc w5 W.heap.size (.slice (some ⟨g', 0, none⟩) (a + 1) c') (a + 1) (setK l vs (a + 1))) := Lib.hid (by rw [setK_succ, HSP.out]; exact hown5)
     have HB5 : Hid (Below w.heap.size w w5 ∧ Below W.heap.size W w5) := Lib.hid ⟨(HB1.out.1.alloc HB1.out.1.size _).grown hgr5 (by simp; have := HB1.out.1.size; omega) (fun x hx => by have := HO1.out.ge x hx; omega), (HB1.out.2.alloc HB1.out.2.size _).grown hgr5 (by simp; omega) (fun x hx => HO1.out.ge x hx)⟩
     clear hown5 hge5 hgr5 hat5
     go_wp2_with fail
     go_roundw
     case rel => exact ⟨a + 1, by omega, by go_num, HB5, HO5, Lib.hid (fun i hi => by
      by_cases e : i = a
      ·subst e; rw [HVV.out]; exact HQ.out
      ·exact HOK.out i (by omega))⟩
     case measure => simp [intOf]; omega
   ·have hd : decide ((k : Int) < (m : Int)) = false := by simp; omega
    obtain rfl : k = m := by omega
    have HF : Hid (setB l vs = true) := Lib.hid (by
     have h1 : (List.range vs.length).all (fun i => isR l (i : Int) (ix vs i)) = true := by
      rw [List.all_eq_true]
      intro i hi
      exact HOK.out i (by have := List.mem_range.1 hi; have := HM.out; omega)
     unfold setB; rw [h1, HM.out, HN.out]; simp)
    obtain ⟨A', c', hsv⟩ := HO.out.shape
    subst hsv
    go_wp2_with fail
    go_ret2
    refine ⟨HB.out.1, .inl ⟨HF.out, A', c', rfl, ?_⟩⟩
    have h1 : OwnZc wo W.heap.size (.slice A' k c') k (setL l vs) := by unfold setL; rw [HM.out]; exact HO.out
    refine ⟨h1.1, ?_⟩
    rcases h1.2 with h | ⟨g, cap, cur, hv, hbg, r⟩
    ·exact .inl h
    ·exact .inr ⟨g, cap, cur, hv, by omega, r⟩
 ·have HF : Hid (setB l vs = false) := Lib.hid (by
   unfold setB; rw [decide_eq_false (by rw [HM.out, HN.out]; exact hmn), Bool.false_and])
  have hne : ((m : Int) != (n : Int)) = true := by rw [bne_iff_ne]; omega
  go_wp2_with fail
  go_ret2
  exact ⟨HBL.out, .inr ⟨HF.out, rfl⟩⟩
def fitP (l : List Sv) (ps : List (Int × Int)) (i j : Nat) : Bool := fitsC l (i : Int) (at_ ps i).1 (j : Int) (at_ ps j).1
def goodC (l : List Sv) (ps : List (Int × Int)) : Bool := decide (ps.length = l.length) && ((List.range ps.length).all (fun i => standC l (i : Int) (at_ ps i)) && (List.range ps.length).all (fun j => (List.range j).all (fun i => fitP l ps i j)))
set_option maxHeartbeats 16000000 in
theorem good_any {w : World} {B B' n c m c2 : Nat} {A A2 : Option Addr} {l : List Sv} {ps : List (Int × Int)} (h : CatAt w B A n c l) (hlv : LevOK l) (hv : RdZc w B' A2 m ps) (hB' : B' ≤ w.heap.size) (hm : m ≤ 20) (hs : ∀ k, k < m → (at_ ps k).1.natAbs < 2 ^ 53 ∧ (at_ ps k).2.natAbs < 2 ^ 53) :
  Calls Tryz.prog 72 #[.agg #[.slice A n c], .slice A2 m c2] w fun e w' => e = .returned (.bool (goodC l ps)) ∧ Below w.heap.size w w' := by
 have HN : Hid (l.length = n) := Lib.hid h.rd.1
 have HM : Hid (ps.length = m) := Lib.hid hv.len
 have hcv : ∀ p, cv p = .complex .f64 (fl p.1) (fl p.2) := fun _ => rfl
 obtain ⟨W, HW⟩ : ∃ W, Hid (W = w.alloc (.cells #[.slice A n c] 24)) := ⟨_, Lib.hid rfl⟩
 have hbl : Below w.heap.size w W := by rw [HW.out]; exact (Below.refl _ w).alloc (Nat.le_refl _) _
 have hzW : w.heap.size < W.heap.size := by rw [HW.out]; simp
 have H0 : Hid (W.heap[w.heap.size]? = some (.cells #[.slice A n c] 24 (0, 0))) := Lib.hid (by rw [HW.out]; exact heap_new w _)
 have HA0 := Lib.hid h
 have HBL := Lib.hid hbl
 have HLV := Lib.hid hlv
 have HVS := Lib.hid hv
 have HS := Lib.hid hs
 clear h hbl hlv hv hs
 obtain ⟨x0, _⟩ := row1f H0.out
 go_enter Tryz.func72, Tryz.ntmps72
 go_upto_region 1 with fail
 change Code.wp _ _ _ _ (w.alloc (.cells #[.slice A n c] 24))
 rw [← HW.out]
 by_cases hmn : m = n
 ·subst hmn
  go_wp2_with (at_make; refine wpl_make rfl (.tmp 17) (.tmp 17) rfl W.heap.size m rfl rfl (by omega) (Nat.le_refl _) ?_; intro w3 hown3 hgr3)
  have HO3 := Lib.hid hown3
  have HB3 : Hid (Below w.heap.size w w3 ∧ Below W.heap.size W w3) := Lib.hid ⟨HBL.out.grown hgr3 HBL.out.size (fun x hx => by cases hx), (Below.refl _ W).grown hgr3 (Nat.le_refl _) (fun x hx => by cases hx)⟩
  clear hown3 hgr3 x0
  go_wp2_with fail
  go_loopw [6, 7, 21] (fun _ _ v wr => ∃ (k : Nat) (us : List Int), k ≤ m ∧ v = .int .i64 (k : Int) ∧ Hid (Below w.heap.size w wr ∧ Below W.heap.size W wr) ∧ Hid (Own wr W.heap.size (.slice (some ⟨W.heap.size, 0, none⟩) m m) m us) ∧ Hid (∀ i, i < k → ix us i = (at_ ps i).1 ∧ standC l (i : Int) (at_ ps i) = true)) (fun _ _ v _ => m - (intOf v).toNat)
  case atStart => exact ⟨0, _, Nat.zero_le _, rfl, HB3, HO3, Lib.hid (fun i h => absurd h (by omega))⟩
  case round =>
   obtain ⟨wo, hwo⟩ : ∃ x, x = wr := ⟨_, rfl⟩
   subst hwo
   obtain ⟨k, us, hk, rfl, HB, HO, HOK⟩ := hrel
   have hzr := HB.out.2.size
   have K0 : Hid (wo.heap[w.heap.size]? = _) := Lib.hid ((HB.out.2.block w.heap.size (by omega)).trans H0.out)
   obtain ⟨x0, _⟩ := row1f K0.out
   by_cases hkm : k < m
   ·have hd : decide ((k : Int) < (m : Int)) = true := by simp; omega
    have hki : (k : Int) < (m : Int) := by omega
    have hadd : IntKind.i64.wrap ((k : Int) + 1) = ((k + 1 : Nat) : Int) := by rw [IntWalk.i64_in _ (by omega)]; omega
    obtain ⟨bv, ov, rfl, hbv, kv⟩ := (HVS.out.below (HB.out.1.mono hB')).at_ hkm
    have HA := Lib.hid (HA0.out.below HB.out.1)
    obtain ⟨pp, HPP⟩ : ∃ pp, Hid (at_ ps k = pp) := ⟨_, Lib.hid rfl⟩
    have HSM : Hid (pp.1.natAbs < 2 ^ 53 ∧ pp.2.natAbs < 2 ^ 53) := Lib.hid (by rw [← HPP.out]; exact HS.out k hkm)
    rw [HPP.out] at kv
    have HI := Lib.hid (stands_any (i := (k : Int)) (p := pp) HA.out HLV.out HSM.out.1 HSM.out.2)
    go_wp2_with fail
    refine HI.out.mono ?_
    rintro e w1 ⟨rfl, hb⟩
    have HB1 : Hid (Below w.heap.size w w1 ∧ Below W.heap.size W w1) := Lib.hid ⟨HB.out.1.trans (hb.mono HB.out.1.size), HB.out.2.trans (hb.mono hzr)⟩
    have HO1 := Lib.hid (HO.out.kept hb)
    clear hb x0 kv HI
    cases hq : standC l (k : Int) pp with
    | false =>
     have HF : Hid (goodC l ps = false) := Lib.hid (by
      have h1 : (List.range ps.length).all (fun i => standC l (i : Int) (at_ ps i)) = false := by
       rw [List.all_eq_false]
       exact ⟨k, List.mem_range.2 (by rw [HM.out]; exact hkm), by rw [HPP.out, hq]; simp⟩
      unfold goodC; rw [h1, Bool.false_and, Bool.and_false])
     clear hq
     go_wp2_with fail
     refine bodyPost_ret (results_tmp rfl _ _ _) rfl ⟨?_, HB1.out.1⟩
     exact congrArg (fun b => Ending.returned (.bool b)) HF.out.symm
    | true =>
     have HQ := Lib.hid hq
     have HPL : Hid (Pl pp) := Lib.hid (plB_yes.1 (by unfold standC at hq; rw [Bool.and_eq_true] at hq; exact hq.1))
     have HPT := Lib.hid (parts_yes pp HPL.out)
     clear hq
     obtain ⟨pv, pf⟩ := pp
     go_wp2_with fail
     refine (HPT.out _).mono ?_
     rintro e w' ⟨rfl, hw'⟩
     subst hw'
     have hcell := HO1.out.cell (j := k) hkm
     have hfree := HO1.out.free k
     have HO5 := Lib.hid (HO1.out.store k pv)
     have HB5 : Hid (Below w.heap.size w (w1.setCell ⟨W.heap.size, k, none⟩ (.int .i64 pv)) ∧ Below W.heap.size W (w1.setCell ⟨W.heap.size, k, none⟩ (.int .i64 pv))) := Lib.hid ⟨HB1.out.1.setCell (p := ⟨W.heap.size, k, none⟩) (by show w.heap.size ≤ W.heap.size; omega) _, HB1.out.2.setCell (p := ⟨W.heap.size, k, none⟩) (by show W.heap.size ≤ W.heap.size; omega) _⟩
     have HUL : Hid (us.length = m) := Lib.hid HO1.out.len
     go_wp2_with fail
     go_roundw
     case rel => exact ⟨k + 1, us.set k pv, by omega, by go_num, HB5, HO5, Lib.hid (fun i hi => by
      rw [ix_set _ _ _ _ (by rw [HUL.out]; exact hkm)]
      by_cases e : i = k
      ·subst e; rw [if_pos rfl, HPP.out]; exact ⟨rfl, HQ.out⟩
      ·rw [if_neg (fun h => e h.symm)]; exact HOK.out i (by omega))⟩
     case measure => simp [intOf]; omega
   ·have hd : decide ((k : Int) < (m : Int)) = false := by simp; omega
    obtain rfl : k = m := by omega
    go_wp2_with fail
    clear x0
    go_loopw [8, 9, 43] (fun _ _ v wr => ∃ j : Nat, j ≤ k ∧ v = .int .i64 (j : Int) ∧ Hid (Below w.heap.size w wr ∧ Below wo.heap.size wo wr) ∧ Hid (∀ j', j' < j → ∀ i, i < j' → fitP l ps i j' = true)) (fun _ _ v _ => k - (intOf v).toNat)
    case atStart => exact ⟨0, Nat.zero_le _, rfl, Lib.hid ⟨HB.out.1, Below.refl _ _⟩, Lib.hid (fun i h => absurd h (by omega))⟩
    case round =>
     obtain ⟨wp, hwp⟩ : ∃ x, x = wr := ⟨_, rfl⟩
     subst hwp
     obtain ⟨j, hj, rfl, HBp, HOKp⟩ := hrel
     by_cases hjk : j < k
     ·have hd2 : decide ((j : Int) < (k : Int)) = true := by simp; omega
      have hji : (j : Int) < (k : Int) := by omega
      have hadd2 : IntKind.i64.wrap ((j : Int) + 1) = ((j + 1 : Nat) : Int) := by rw [IntWalk.i64_in _ (by omega)]; omega
      go_wp2_with fail
      go_loopw [9, 47] (fun _ v wr => ∃ i : Nat, i ≤ j ∧ v = .int .i64 (i : Int) ∧ Hid (Below w.heap.size w wr ∧ Below wo.heap.size wo wr) ∧ Hid (∀ i', i' < i → fitP l ps i' j = true)) (fun _ v _ => j - (intOf v).toNat)
      case atStart => exact ⟨0, Nat.zero_le _, rfl, HBp, Lib.hid (fun i h => absurd h (by omega))⟩
      case round =>
       obtain ⟨wi, hwi⟩ : ∃ x, x = wr := ⟨_, rfl⟩
       subst hwi
       obtain ⟨i, hi, rfl, HBi, HOKi⟩ := hrel
       by_cases hij : i < j
       ·have hd3 : decide ((i : Int) < (j : Int)) = true := by simp; omega
        have hii : (i : Int) < (j : Int) := by omega
        have hik : (i : Int) < (k : Int) := by omega
        have hi0 : (0 : Int) ≤ (i : Int) := by omega
        have hj0 : (0 : Int) ≤ (j : Int) := by omega
        have hadd3 : IntKind.i64.wrap ((i : Int) + 1) = ((i + 1 : Nat) : Int) := by rw [IntWalk.i64_in _ (by omega)]; omega
        have HOi := Lib.hid (HO.out.kept HBi.out.2)
        have ci := HOi.out.cell (j := i) (show i < k by omega)
        have cj := HOi.out.cell (j := j) hjk
        rw [(HOK.out i (by omega)).1] at ci
        rw [(HOK.out j (by omega)).1] at cj
        obtain ⟨vi, HVI⟩ : ∃ x, Hid ((at_ ps i).1 = x) := ⟨_, Lib.hid rfl⟩
        obtain ⟨vj, HVJ⟩ : ∃ x, Hid ((at_ ps j).1 = x) := ⟨_, Lib.hid rfl⟩
        rw [HVI.out] at ci
        rw [HVJ.out] at cj
        have Ki : Hid (wi.heap[w.heap.size]? = _) := Lib.hid ((HBi.out.2.block w.heap.size (heapE_lt K0.out)).trans K0.out)
        obtain ⟨x0, _⟩ := row1f Ki.out
        have HA := Lib.hid (HA0.out.below (Below.drewN' HBi.out.1 1))
        have HI := Lib.hid (fits_any (i := (i : Int)) (v := vi) (j := (j : Int)) (x := vj) HA.out)
        have HFP : Hid (fitP l ps i j = fitsC l (i : Int) vi (j : Int) vj) := Lib.hid (by unfold fitP; rw [HVI.out, HVJ.out])
        have hgw : W.heap.size < wi.heap.size := block_lt_of_cell ci
        go_wp2_with fail
        go_region_held3 (fun W' => W'.cell? ⟨W.heap.size, i, none⟩ = some (.int .i64 vi) ∧ W'.cell? ⟨W.heap.size, j, none⟩ = some (.int .i64 vj) ∧ W'.cell? ⟨w.heap.size, 0, none⟩ = some (.slice A k c)) ((first | exact ⟨ci, cj, x0⟩ | exact ⟨z0, z1, z2⟩ | go_keep)) (first
         | (go_at_call 101; refine HI.out.mono ?_; rintro e w1 ⟨rfl, hb'⟩; (have hb : Below wi.heap.size wi w1 := (Below.drewN' (Below.refl _ wi) 1).trans hb'); (have z0 := (hb.cell (p := ⟨W.heap.size, i, none⟩) hgw).trans ci); (have z1 := (hb.cell (p := ⟨W.heap.size, j, none⟩) hgw).trans cj); (have z2 := (row1f ((hb.block w.heap.size (heapE_lt Ki.out)).trans Ki.out)).1); (have HBW := Lib.hid hb); clear hb hb'))
        have HB1 : Hid (Below w.heap.size w w1 ∧ Below wo.heap.size wo w1) := Lib.hid ⟨HBi.out.1.trans (HBW.out.mono HBi.out.1.size), HBi.out.2.trans (HBW.out.mono HBi.out.2.size)⟩
        clear z0 z1 z2 ci cj x0 HBW
        cases hq : fitsC l (i : Int) vi (j : Int) vj with
        | false =>
         have HF : Hid (goodC l ps = false) := Lib.hid (by
          have h1 : (List.range ps.length).all (fun j => (List.range j).all (fun i => fitP l ps i j)) = false := by
           rw [List.all_eq_false]
           refine ⟨j, List.mem_range.2 (by rw [HM.out]; exact hjk), ?_⟩
           have h2 : (List.range j).all (fun i => fitP l ps i j) = false := by
            rw [List.all_eq_false]
            exact ⟨i, List.mem_range.2 hij, by rw [HFP.out, hq]; simp⟩
           rw [h2]; simp
          unfold goodC; rw [h1, Bool.and_false, Bool.and_false])
         clear hq
         go_wp2_with fail
         refine bodyPost_ret (results_tmp rfl _ _ _) rfl ⟨?_, HB1.out.1⟩
         exact congrArg (fun b => Ending.returned (.bool b)) HF.out.symm
        | true =>
         have HQ : Hid (fitP l ps i j = true) := Lib.hid (by rw [HFP.out]; exact hq)
         clear hq
         go_wp2_with fail
         go_roundw
         case rel => exact ⟨i + 1, by omega, by go_num, HB1, Lib.hid (fun i' hi' => by
          by_cases e : i' = i
          ·subst e; exact HQ.out
          ·exact HOKi.out i' (by omega))⟩
         case measure => simp [intOf]; omega
       ·have hd3 : decide ((i : Int) < (j : Int)) = false := by simp; omega
        have hii : ¬ (i : Int) < (j : Int) := by omega
        go_wp2_with fail
        go_roundw
        case rel => exact ⟨j + 1, by omega, by go_num, HBi, Lib.hid (fun j' hj' i' hi' => by
         by_cases e : j' = j
         ·subst e; exact HOKi.out i' (by omega)
         ·exact HOKp.out j' (by omega) i' hi')⟩
        case measure => simp [intOf]; omega
     ·have hd2 : decide ((j : Int) < (k : Int)) = false := by simp; omega
      obtain rfl : j = k := by omega
      have HF : Hid (goodC l ps = true) := Lib.hid (by
       have h1 : (List.range ps.length).all (fun i => standC l (i : Int) (at_ ps i)) = true := by
        rw [List.all_eq_true]
        intro i hi
        exact (HOK.out i (by have := List.mem_range.1 hi; have := HM.out; omega)).2
       have h2 : (List.range ps.length).all (fun j => (List.range j).all (fun i => fitP l ps i j)) = true := by
        rw [List.all_eq_true]
        intro j' hj'
        rw [List.all_eq_true]
        intro i' hi'
        exact HOKp.out j' (by have := List.mem_range.1 hj'; have := HM.out; omega) i' (List.mem_range.1 hi')
       unfold goodC; rw [h1, h2, HM.out, HN.out]; simp)
      go_wp2_with fail
      refine bodyPost_ret (results_tmp rfl _ _ _) rfl ⟨?_, HBp.out.1⟩
      exact congrArg (fun b => Ending.returned (.bool b)) HF.out.symm
 ·have HF : Hid (goodC l ps = false) := Lib.hid (by
   unfold goodC; rw [decide_eq_false (by rw [HM.out, HN.out]; exact hmn), Bool.false_and])
  have hne : ((m : Int) != (n : Int)) = true := by rw [bne_iff_ne]; omega
  go_wp2_with fail
  refine bodyPost_ret (results_tmp rfl _ _ _) rfl ⟨?_, HBL.out⟩
  exact congrArg (fun b => Ending.returned (.bool b)) HF.out.symm
end Go.Proofs.YtminihiecloglaaGreat
